import Derived.Test.YtindifjhocgkbaaGreatDoorLeafB
import Derived.Laws.Bits64b
import Derived.Test.YtindifjhocgkbaaGreatDoorRmHToByt
import Derived.Maps.OwnOps
import Derived.Maps.Views
namespace Go.Proofs.YtindifjhocgkbaaGreatDoor
open Go.RowKit

theorem wrap_u8_nat (n : Nat) (h : n < 256) : IntKind.u8.wrap (n : Int) = (n : Int) := by simp [IntKind.wrap, IntKind.bits, IntKind.signed]; omega
theorem bits_xor_u8 (a b : Nat) (ha : a < 256) (hb : b < 256) : bits .xor .u8 (a : Int) (b : Int) = ((a ^^^ b : Nat) : Int) := by
  unfold bits
  have h1 : (BitVec.ofInt IntKind.u8.bits (a : Int)).toNat = a := by show (BitVec.ofInt 8 (a : Int)).toNat = a; rw [BitVec.toNat_ofInt]; omega
  have h2 : (BitVec.ofInt IntKind.u8.bits (b : Int)).toNat = b := by show (BitVec.ofInt 8 (b : Int)).toNat = b; rw [BitVec.toNat_ofInt]; omega
  show IntKind.u8.wrap ((BitVec.ofInt IntKind.u8.bits (a : Int) ^^^ BitVec.ofInt IntKind.u8.bits (b : Int)).toNat : Int) = _
  rw [BitVec.toNat_xor, h1, h2]
  exact wrap_u8_nat _ (Nat.xor_lt_two_pow (n := 8) ha hb)
theorem bits_and_u8 (a b : Nat) (ha : a < 256) (hb : b < 256) : bits .and .u8 (a : Int) (b : Int) = ((a &&& b : Nat) : Int) := by
  unfold bits
  have h1 : (BitVec.ofInt IntKind.u8.bits (a : Int)).toNat = a := by show (BitVec.ofInt 8 (a : Int)).toNat = a; rw [BitVec.toNat_ofInt]; omega
  have h2 : (BitVec.ofInt IntKind.u8.bits (b : Int)).toNat = b := by show (BitVec.ofInt 8 (b : Int)).toNat = b; rw [BitVec.toNat_ofInt]; omega
  show IntKind.u8.wrap ((BitVec.ofInt IntKind.u8.bits (a : Int) &&& BitVec.ofInt IntKind.u8.bits (b : Int)).toNat : Int) = _
  rw [BitVec.toNat_and, h1, h2]
  exact wrap_u8_nat _ (Nat.lt_of_le_of_lt Nat.and_le_left ha)
/-- Bit r of a byte, the highest first. -/
def bit7 (b r : Nat) : Nat := b / 2 ^ (7 - r) % 2
theorem clr_all : ∀ b : Fin 256, ∀ r : Fin 8, ∀ s : Fin 8, 0 ≤ bits .andNot .u8 ((b : Nat) : Int) ((128 / 2 ^ (r : Nat) : Nat) : Int) ∧ bits .andNot .u8 ((b : Nat) : Int) ((128 / 2 ^ (r : Nat) : Nat) : Int) ≤ 255 ∧ bit7 (bits .andNot .u8 ((b : Nat) : Int) ((128 / 2 ^ (r : Nat) : Nat) : Int)).toNat s = if s = r then 0 else bit7 b s := by decide +kernel
theorem and_all : ∀ z : Fin 256, ∀ r : Fin 8, 128 / 2 ^ (r : Nat) < 256 ∧ (((((z : Nat) &&& (128 / 2 ^ (r : Nat))) : Nat) : Int) == 0) = decide (bit7 z r = 0) := by decide +kernel
theorem bit7_xor (a b r : Nat) : bit7 (a ^^^ b) r = 0 ↔ bit7 a r = bit7 b r := by
  have h := Nat.testBit_xor a b (7 - r)
  rw [Nat.testBit_eq_decide_div_mod_eq, Nat.testBit_eq_decide_div_mod_eq, Nat.testBit_eq_decide_div_mod_eq] at h
  unfold bit7
  generalize (a ^^^ b) / 2 ^ (7 - r) = z at *
  generalize a / 2 ^ (7 - r) = x at *
  generalize b / 2 ^ (7 - r) = y at *
  rcases Nat.mod_two_eq_zero_or_one z with h0 | h0 <;> rcases Nat.mod_two_eq_zero_or_one x with h1 | h1 <;> rcases Nat.mod_two_eq_zero_or_one y with h2 | h2 <;> simp [h0, h1, h2] at h ⊢
theorem test_bit (a b r : Nat) (ha : a < 256) (hb : b < 256) (hr : r < 8) : (bits .and .u8 (bits .xor .u8 (a : Int) (b : Int)) ((128 / 2 ^ r : Nat) : Int) == 0) = decide (bit7 a r = bit7 b r) := by
  have hx : a ^^^ b < 256 := Nat.xor_lt_two_pow (n := 8) ha hb
  have hm := and_all ⟨a ^^^ b, hx⟩ ⟨r, hr⟩
  rw [bits_xor_u8 a b ha hb, bits_and_u8 _ _ hx hm.1]
  refine hm.2.trans ?_
  rw [decide_eq_decide]
  exact bit7_xor a b r
theorem clr_bit (b r s : Nat) (hb : b < 256) (hr : r < 8) (hs : s < 8) : 0 ≤ bits .andNot .u8 (b : Int) ((128 / 2 ^ r : Nat) : Int) ∧ bits .andNot .u8 (b : Int) ((128 / 2 ^ r : Nat) : Int) ≤ 255 ∧ bit7 (bits .andNot .u8 (b : Int) ((128 / 2 ^ r : Nat) : Int)).toNat s = if s = r then 0 else bit7 b s := by
  have h := clr_all ⟨b, hb⟩ ⟨r, hr⟩ ⟨s, hs⟩
  refine ⟨h.1, h.2.1, h.2.2.trans ?_⟩
  simp
end Go.Proofs.YtindifjhocgkbaaGreatDoor
namespace Go.Proofs.YtindifjhocgkbaaGreatDoor
open Go.RowKit Go.Maps

theorem put_self (e : En) : ∀ l, e ∈ put e l
  | [] => by simp [put]
  | x :: l => by unfold put; split; simp [put_self e l]; split <;> simp
theorem put_old {e x : En} : ∀ {l : List En}, x ∈ l → ¬ (x.t = e.t ∧ x.k = e.k) → x ∈ put e l
  | y :: l, h, hne => by
    unfold put
    rcases List.mem_cons.1 h with rfl | h
    · split
      · simp
      split
      · rename_i h0; exact absurd ((cmpK_zero _ _ _ _).1 h0) hne
      · simp
    · split
      · simp [put_old h hne]
      split
      · simp [h]
      · simp [h]

/-- Of the routes laid so far: the longest that holds, if one does. -/
def BestIs (a : ByteArray) (l : List En) (best : Int) (value : ByteArray) : Prop :=
  (best = -1 ∧ value = ⟨#[]⟩ ∧ ∀ e ∈ l, ∀ m, m ≤ 32 → ¬ holdsR a e m) ∨
  (∃ e ∈ l, ∃ n : Nat, best = n ∧ n ≤ 32 ∧ holdsR a e n ∧ value = e.v ∧ ∀ x ∈ l, ∀ m, n < m → m ≤ 32 → ¬ holdsR a x m)
theorem best_start (a : ByteArray) : BestIs a [] (-1) ⟨#[]⟩ := .inl ⟨rfl, rfl, by simp⟩
theorem best_lo {a : ByteArray} {l : List En} {best : Int} {value : ByteArray} (h : BestIs a l best value) : -1 ≤ best ∧ best ≤ 32 := by
  rcases h with ⟨rfl, _⟩ | ⟨_, _, n, rfl, h, _⟩ <;> omega
theorem best_put {a p v : ByteArray} {l : List En} {best : Int} {value : ByteArray} {n : Nat} (h : BestIs a l best value) (hp : bt p 4 = n) (hn : n ≤ 32) (hno : ∀ e ∈ l, e.k ≠ p) :
    BestIs a (put ⟨1, p, v⟩ l) (if decide (numN p / 2 ^ (32 - n) = numN a / 2 ^ (32 - n)) && decide (best < n) then (n : Int) else best) (if decide (numN p / 2 ^ (32 - n) = numN a / 2 ^ (32 - n)) && decide (best < n) then v else value) := by
  have hh : ∀ m, holdsR a ⟨1, p, v⟩ m ↔ m = n ∧ numN p / 2 ^ (32 - n) = numN a / 2 ^ (32 - n) := fun m => by
    unfold holdsR
    simp only [true_and]
    constructor
    · rintro ⟨h1, h2⟩
      have : m = n := by omega
      subst this; exact ⟨rfl, h2⟩
    · rintro ⟨rfl, h2⟩; exact ⟨hp, h2⟩
  have hold : ∀ e ∈ l, e ∈ put ⟨1, p, v⟩ l := fun e he => put_old he fun hc => hno e he hc.2
  by_cases hc : numN p / 2 ^ (32 - n) = numN a / 2 ^ (32 - n)
  · by_cases hb : best < n
    · simp only [hc, hb, decide_true, Bool.and_self, if_true]
      refine .inr ⟨⟨1, p, v⟩, put_self _ l, n, rfl, hn, (hh n).2 ⟨rfl, hc⟩, rfl, fun x hx m h1 h2 hm => ?_⟩
      rcases put_mem hx with rfl | hx
      · exact absurd ((hh m).1 hm).1 (by omega)
      · rcases h with ⟨_, _, h3⟩ | ⟨_, _, n', hb', _, _, _, h3⟩
        · exact h3 x hx m h2 hm
        · exact h3 x hx m (by omega) h2 hm
    · simp only [hc, hb, decide_true, decide_false, Bool.and_false, Bool.false_eq_true, if_false]
      rcases h with ⟨h1, _⟩ | ⟨e, he, n', hb', hn', he', hv, h3⟩
      · exact absurd h1 (by omega)
      · refine .inr ⟨e, hold e he, n', hb', hn', he', hv, fun x hx m h1 h2 hm => ?_⟩
        rcases put_mem hx with rfl | hx
        · have := ((hh m).1 hm).1; omega
        · exact h3 x hx m h1 h2 hm
  · simp only [hc, decide_false, Bool.false_and, Bool.false_eq_true, if_false]
    rcases h with ⟨h1, h2, h3⟩ | ⟨e, he, n', hb', hn', he', hv, h3⟩
    · refine .inl ⟨h1, h2, fun x hx m hm hx' => ?_⟩
      rcases put_mem hx with rfl | hx
      · exact hc ((hh m).1 hx').2
      · exact h3 x hx m hm hx'
    · refine .inr ⟨e, hold e he, n', hb', hn', he', hv, fun x hx m h1 h2 hm => ?_⟩
      rcases put_mem hx with rfl | hx
      · exact hc ((hh m).1 hm).2
      · exact h3 x hx m h1 h2 hm
theorem best_end {a : ByteArray} {l : List En} {best : Int} {value : ByteArray} (h : BestIs a l best value) (hs : Srt l) (ho : Ok l) : ((rtTo a l 32).isSome = decide (0 ≤ best)) ∧ (rtTo a l 32).getD ⟨#[]⟩ = value := by
  rcases h with ⟨rfl, rfl, h3⟩ | ⟨e, he, n, rfl, hn, he', rfl, h3⟩
  · rw [rtTo_none hs ho (Nat.le_refl _) h3]; simp
  · rw [rtTo_some hs ho he he' hn (Nat.le_refl _) h3]; simp
end Go.Proofs.YtindifjhocgkbaaGreatDoor
