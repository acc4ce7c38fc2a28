import Derived.Test.YtindifjhocgkbaaGreatDoorLeafB
import Derived.Laws.Bits64b
namespace Go.Proofs.YtindifjhocgkbaaGreatDoor
open Go.RowKit

theorem wrap_u8_nat (n : Nat) (h : n < 256) : IntKind.u8.wrap (n : Int) = (n : Int) := by simp [IntKind.wrap, IntKind.bits, IntKind.signed]; omega
theorem bits_xor_u8 (a b : Nat) (ha : a < 256) (hb : b < 256) : bits .xor .u8 (a : Int) (b : Int) = ((a ^^^ b : Nat) : Int) := by
  unfold bits
  have h1 : (BitVec.ofInt IntKind.u8.bits (a : Int)).toNat = a := by show (BitVec.ofInt 8 (a : Int)).toNat = a; rw [BitVec.toNat_ofInt]; omega
  have h2 : (BitVec.ofInt IntKind.u8.bits (b : Int)).toNat = b := by show (BitVec.ofInt 8 (b : Int)).toNat = b; rw [BitVec.toNat_ofInt]; omega
  show IntKind.u8.wrap ((BitVec.ofInt IntKind.u8.bits (a : Int) ^^^ BitVec.ofInt IntKind.u8.bits (b : Int)).toNat : Int) = _
  rw [BitVec.toNat_xor, h1, h2]
  exact wrap_u8_nat _ (Nat.xor_lt_two_pow (n := 8) ha hb)
theorem bits_and_u8 (a b : Nat) (ha : a < 256) (hb : b < 256) : bits .and .u8 (a : Int) (b : Int) = ((a &&& b : Nat) : Int) := by
  unfold bits
  have h1 : (BitVec.ofInt IntKind.u8.bits (a : Int)).toNat = a := by show (BitVec.ofInt 8 (a : Int)).toNat = a; rw [BitVec.toNat_ofInt]; omega
  have h2 : (BitVec.ofInt IntKind.u8.bits (b : Int)).toNat = b := by show (BitVec.ofInt 8 (b : Int)).toNat = b; rw [BitVec.toNat_ofInt]; omega
  show IntKind.u8.wrap ((BitVec.ofInt IntKind.u8.bits (a : Int) &&& BitVec.ofInt IntKind.u8.bits (b : Int)).toNat : Int) = _
  rw [BitVec.toNat_and, h1, h2]
  exact wrap_u8_nat _ (Nat.lt_of_le_of_lt Nat.and_le_left ha)
/-- Bit r of a byte, the highest first. -/
def bit7 (b r : Nat) : Nat := b / 2 ^ (7 - r) % 2
theorem clr_all : ∀ b : Fin 256, ∀ r : Fin 8, ∀ s : Fin 8, 0 ≤ bits .andNot .u8 ((b : Nat) : Int) ((128 / 2 ^ (r : Nat) : Nat) : Int) ∧ bits .andNot .u8 ((b : Nat) : Int) ((128 / 2 ^ (r : Nat) : Nat) : Int) ≤ 255 ∧ bit7 (bits .andNot .u8 ((b : Nat) : Int) ((128 / 2 ^ (r : Nat) : Nat) : Int)).toNat s = if s = r then 0 else bit7 b s := by decide +kernel
theorem and_all : ∀ z : Fin 256, ∀ r : Fin 8, 128 / 2 ^ (r : Nat) < 256 ∧ (((((z : Nat) &&& (128 / 2 ^ (r : Nat))) : Nat) : Int) == 0) = decide (bit7 z r = 0) := by decide +kernel
theorem bit7_xor (a b r : Nat) : bit7 (a ^^^ b) r = 0 ↔ bit7 a r = bit7 b r := by
  have h := Nat.testBit_xor a b (7 - r)
  rw [Nat.testBit_eq_decide_div_mod_eq, Nat.testBit_eq_decide_div_mod_eq, Nat.testBit_eq_decide_div_mod_eq] at h
  unfold bit7
  generalize (a ^^^ b) / 2 ^ (7 - r) = z at *
  generalize a / 2 ^ (7 - r) = x at *
  generalize b / 2 ^ (7 - r) = y at *
  rcases Nat.mod_two_eq_zero_or_one z with h0 | h0 <;> rcases Nat.mod_two_eq_zero_or_one x with h1 | h1 <;> rcases Nat.mod_two_eq_zero_or_one y with h2 | h2 <;> simp [h0, h1, h2] at h ⊢
theorem test_bit (a b r : Nat) (ha : a < 256) (hb : b < 256) (hr : r < 8) : (bits .and .u8 (bits .xor .u8 (a : Int) (b : Int)) ((128 / 2 ^ r : Nat) : Int) == 0) = decide (bit7 a r = bit7 b r) := by
  have hx : a ^^^ b < 256 := Nat.xor_lt_two_pow (n := 8) ha hb
  have hm := and_all ⟨a ^^^ b, hx⟩ ⟨r, hr⟩
  rw [bits_xor_u8 a b ha hb, bits_and_u8 _ _ hx hm.1]
  refine hm.2.trans ?_
  rw [decide_eq_decide]
  exact bit7_xor a b r
theorem clr_bit (b r s : Nat) (hb : b < 256) (hr : r < 8) (hs : s < 8) : 0 ≤ bits .andNot .u8 (b : Int) ((128 / 2 ^ r : Nat) : Int) ∧ bits .andNot .u8 (b : Int) ((128 / 2 ^ r : Nat) : Int) ≤ 255 ∧ bit7 (bits .andNot .u8 (b : Int) ((128 / 2 ^ r : Nat) : Int)).toNat s = if s = r then 0 else bit7 b s := by
  have h := clr_all ⟨b, hb⟩ ⟨r, hr⟩ ⟨s, hs⟩
  refine ⟨h.1, h.2.1, h.2.2.trans ?_⟩
  simp
end Go.Proofs.YtindifjhocgkbaaGreatDoor
