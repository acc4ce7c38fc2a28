import Derived.Test.YtindifjhocgkbaaGreatDoorLstB
import Derived.Test.YtindifjhocgkbaaGreatDoorKit
namespace Go.Proofs.YtindifjhocgkbaaGreatDoor
open Go.RowKit

theorem num4 (a : ByteArray) : num a 4 = ((bt a 0 * 256 + bt a 1) * 256 + bt a 2) * 256 + bt a 3 := by simp [num]
theorem numN_lt (a : ByteArray) : numN a < 4294967296 := by
  have h := num4 a; have h0 := bt_lo a 0; have h1 := bt_lo a 1; have h2 := bt_lo a 2; have h3 := bt_lo a 3
  unfold numN; omega
theorem num_inj {a b : ByteArray} (h : num a 4 = num b 4) : bt a 0 = bt b 0 ∧ bt a 1 = bt b 1 ∧ bt a 2 = bt b 2 ∧ bt a 3 = bt b 3 := by
  rw [num4, num4] at h
  have a0 := bt_lo a 0; have a1 := bt_lo a 1; have a2 := bt_lo a 2; have a3 := bt_lo a 3
  have b0 := bt_lo b 0; have b1 := bt_lo b 1; have b2 := bt_lo b 2; have b3 := bt_lo b 3
  omega
theorem ba_bt {a b : ByteArray} (hs : a.size = b.size) (h : ∀ i, i < a.size → bt a i = bt b i) : a = b := by
  refine ba_ext' (List.ext_getElem (by rw [Array.length_toList, Array.length_toList]; exact hs) fun i h1 h2 => ?_)
  have hi : i < a.size := by simpa using h1
  have := h i hi
  unfold bt at this
  rw [List.getD_eq_getElem?_getD, List.getD_eq_getElem?_getD, List.getElem?_eq_getElem h1, List.getElem?_eq_getElem h2] at this
  simp only [Option.getD_some] at this
  exact UInt8.toNat_inj.1 (by omega)

/-- The address's first n bits, noughts behind them. -/
def rkN (a : ByteArray) (n : Nat) : Nat := numN a / 2 ^ (32 - n) * 2 ^ (32 - n)
def rk (a : ByteArray) (n : Nat) : ByteArray := baOf [((rkN a n / 16777216 % 256 : Nat) : Int), ((rkN a n / 65536 % 256 : Nat) : Int), ((rkN a n / 256 % 256 : Nat) : Int), ((rkN a n % 256 : Nat) : Int), (n : Int)]
theorem rkN_lt (a : ByteArray) (n : Nat) : rkN a n < 4294967296 := Nat.lt_of_le_of_lt (Nat.div_mul_le_self _ _) (numN_lt a)
theorem rk_size (a : ByteArray) (n : Nat) : (rk a n).size = 5 := baOf_size _
theorem rk_bt (a : ByteArray) (n : Nat) (h : n ≤ 32) : bt (rk a n) 0 = ((rkN a n / 16777216 % 256 : Nat) : Int) ∧ bt (rk a n) 1 = ((rkN a n / 65536 % 256 : Nat) : Int) ∧ bt (rk a n) 2 = ((rkN a n / 256 % 256 : Nat) : Int) ∧ bt (rk a n) 3 = ((rkN a n % 256 : Nat) : Int) ∧ bt (rk a n) 4 = n := by
  unfold rk
  refine ⟨?_, ?_, ?_, ?_, ?_⟩
  · rw [bt_baOf _ 0 (by simp) (by simp; omega)]; rfl
  · rw [bt_baOf _ 1 (by simp) (by simp; omega)]; rfl
  · rw [bt_baOf _ 2 (by simp) (by simp; omega)]; rfl
  · rw [bt_baOf _ 3 (by simp) (by simp; omega)]; rfl
  · rw [bt_baOf _ 4 (by simp) (by simp; omega)]; rfl
theorem rk_num (a : ByteArray) (n : Nat) (h : n ≤ 32) : num (rk a n) 4 = ((rkN a n : Nat) : Int) := by
  obtain ⟨h0, h1, h2, h3, _⟩ := rk_bt a n h
  have := rkN_lt a n
  rw [num4, h0, h1, h2, h3]; omega
theorem key1_is {k : ByteArray} (h : keyB 1 k = true) : k.size = 5 ∧ bt k 4 ≤ 32 ∧ num k 4 * 2 ^ (bt k 4).toNat % 4294967296 = 0 := by
  by_cases hs : k.size = 5
  · rw [keyB_1 hs] at h; simp at h; exact ⟨hs, h.1, h.2⟩
  · rw [keyB_no (by omega) (by omega) (by simp [kbN]; omega)] at h; simp at h
theorem rk_iff {k a : ByteArray} (hk : keyB 1 k = true) {n : Nat} (hn : n ≤ 32) : k = rk a n ↔ bt k 4 = n ∧ numN k / 2 ^ (32 - n) = numN a / 2 ^ (32 - n) := by
  have hp : 0 < 2 ^ (32 - n) := Nat.pow_pos (by decide)
  constructor
  · rintro rfl
    refine ⟨(rk_bt a n hn).2.2.2.2, ?_⟩
    have : numN (rk a n) = rkN a n := by unfold numN; rw [rk_num a n hn]; simp
    rw [this]; exact Nat.mul_div_cancel _ hp
  · rintro ⟨h4, hd⟩
    obtain ⟨hs, hl, hz⟩ := key1_is hk
    have e4 : (bt k 4).toNat = n := by omega
    rw [e4, ← numN_eq] at hz
    have hz' : numN k * 2 ^ n % 4294967296 = 0 := by
      have e : ((numN k * 2 ^ n : Nat) : Int) = (numN k : Int) * 2 ^ n := by rw [Int.natCast_mul, Int.natCast_pow]; rfl
      rw [← e] at hz
      generalize numN k * 2 ^ n = X at *
      omega
    have h0 := (num_split (numN k) n hn).2 hz'
    have hN : numN k = rkN a n := by
      unfold rkN; rw [← hd]
      have := Nat.div_add_mod (numN k) (2 ^ (32 - n))
      rw [h0, Nat.add_zero, Nat.mul_comm] at this; exact this.symm
    have hnum : num k 4 = num (rk a n) 4 := by rw [rk_num a n hn, ← numN_eq, hN]
    obtain ⟨i0, i1, i2, i3⟩ := num_inj hnum
    refine ba_bt (by rw [hs, rk_size]) fun i hi => ?_
    rw [hs] at hi
    match i, hi with
    | 0, _ => exact i0
    | 1, _ => exact i1
    | 2, _ => exact i2
    | 3, _ => exact i3
    | 4, _ => rw [h4, (rk_bt a n hn).2.2.2.2]

/-- The longest route, from a length down. -/
def rtTo (a : ByteArray) (l : List En) : Nat → Option ByteArray
  | 0 => got 1 (rk a 0) l
  | n + 1 => match got 1 (rk a (n + 1)) l with | some v => some v | none => rtTo a l n
/-- An entry is a route of length n that holds for the address. -/
def holdsR (a : ByteArray) (e : En) (n : Nat) : Prop := e.t = 1 ∧ bt e.k 4 = n ∧ numN e.k / 2 ^ (32 - n) = numN a / 2 ^ (32 - n)
theorem got_rk {a : ByteArray} {l : List En} (hs : Srt l) (ho : Ok l) {n : Nat} (hn : n ≤ 32) {v : ByteArray} : got 1 (rk a n) l = some v ↔ ∃ e ∈ l, holdsR a e n ∧ e.v = v := by
  rw [got_mem hs]
  constructor
  · rintro ⟨e, he, ht, hk, hv⟩
    have hb := (ho e he).2.1
    rw [ht] at hb
    exact ⟨e, he, ⟨ht, (rk_iff hb hn).1 hk⟩, hv⟩
  · rintro ⟨e, he, ⟨ht, h1⟩, hv⟩
    have hb := (ho e he).2.1
    rw [ht] at hb
    exact ⟨e, he, ht, (rk_iff hb hn).2 h1, hv⟩
theorem got_rk_none {a : ByteArray} {l : List En} (hs : Srt l) (ho : Ok l) {n : Nat} (hn : n ≤ 32) : got 1 (rk a n) l = none ↔ ∀ e ∈ l, ¬ holdsR a e n := by
  constructor
  · intro h e he hh
    have := (got_rk hs ho hn).2 ⟨e, he, hh, rfl⟩
    rw [h] at this; simp at this
  · intro h
    cases hg : got 1 (rk a n) l with
    | none => rfl
    | some v => obtain ⟨e, he, hh, _⟩ := (got_rk hs ho hn).1 hg; exact absurd hh (h e he)
theorem rtTo_some {a : ByteArray} {l : List En} (hs : Srt l) (ho : Ok l) {e : En} (he : e ∈ l) {n m : Nat} (hh : holdsR a e n) (hnm : n ≤ m) (hm : m ≤ 32) (hmax : ∀ x ∈ l, ∀ i, n < i → i ≤ m → ¬ holdsR a x i) : rtTo a l m = some e.v := by
  induction m with
  | zero =>
    obtain rfl : n = 0 := by omega
    exact (got_rk hs ho (by omega)).2 ⟨e, he, hh, rfl⟩
  | succ m ih =>
    rw [rtTo]
    by_cases h : n = m + 1
    · subst h
      rw [(got_rk hs ho hm).2 ⟨e, he, hh, rfl⟩]
    · rw [(got_rk_none hs ho hm).2 fun x hx => hmax x hx (m + 1) (by omega) (Nat.le_refl _)]
      exact ih (by omega) (by omega) fun x hx i h1 h2 => hmax x hx i h1 (by omega)
theorem rtTo_none {a : ByteArray} {l : List En} (hs : Srt l) (ho : Ok l) {m : Nat} (hm : m ≤ 32) (h : ∀ x ∈ l, ∀ i, i ≤ m → ¬ holdsR a x i) : rtTo a l m = none := by
  induction m with
  | zero => exact (got_rk_none hs ho (by omega)).2 fun x hx => h x hx 0 (by omega)
  | succ m ih =>
    rw [rtTo, (got_rk_none hs ho hm).2 fun x hx => h x hx (m + 1) (Nat.le_refl _)]
    exact ih (by omega) fun x hx i hi => h x hx i (by omega)
end Go.Proofs.YtindifjhocgkbaaGreatDoor
