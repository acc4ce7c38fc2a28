import Derived.Test.YtindifjhocgkbaaGreatDoorChk
import Derived.Lib.AppendStr
namespace Go.Proofs.YtindifjhocgkbaaGreatDoor
open Go.RowKit

theorem Tryz.info5 : (Tryz.prog.info? 5).map (fun i => (i.zero, i.size, i.bytes)) = some (some (.int .u8 0), 1, 1) := by kernel_rfl

/-- The number's bytes, the highest first, from place i - 1 down. -/
def beV (n : Int) : Nat → List Value
  | 0 => []
  | i + 1 => .int .u8 (n / 2 ^ (8 * i) % 256) :: beV n i
def beTo (n : Int) (size : Nat) : Nat → List Value
  | 0 => []
  | k + 1 => beTo n size k ++ [.int .u8 (n / 2 ^ (8 * (size - 1 - k)) % 256)]
theorem beTo_eq (n : Int) (size k : Nat) (h : k ≤ size) : beTo n size k ++ beV n (size - k) = beV n size := by
  induction k with
  | zero => simp [beTo]
  | succ k ih =>
    have e : size - k = (size - (k + 1)) + 1 := by omega
    rw [← ih (by omega), e, beV, beTo, List.append_assoc, show size - 1 - k = size - (k + 1) by omega]; rfl

set_option maxRecDepth 10000 in
set_option maxHeartbeats 1000000 in
theorem appendNumber (base : Nat) (v : Value) (k size : Nat) (xs : List Value) (n : Int) (w : World) (hs8 : size ≤ 8) (hk : k ≤ 1000) (_h0 : 0 ≤ n) (hown : w.ownsRow base 5 1 v k xs) (hbase : base ≤ w.heap.size) :
    Calls Tryz.prog 105 #[v, .int .u64 n, .int .i64 size] w fun e w' => ∃ v', e = .returned v' ∧ w'.ownsRow base 5 1 v' (k + size) (xs ++ beV n size) ∧ Below base w w' := by
  obtain ⟨i0, hi, hz0, hz1, hz2⟩ := info_parts Tryz.info5
  go_enter Tryz.func105, Tryz.ntmps105
  go_wp2_with fail
  go_loopw [0, 7] (fun b i wr => ∃ j : Nat, j ≤ size ∧ i = .int .i64 ((size : Int) - 1 - j) ∧ wr.ownsRow base 5 1 b (k + j) (xs ++ beTo n size j) ∧ Below base w wr)
    (fun _ i _ => (intOf i + 1).toNat)
  case atStart => exact ⟨0, by omega, by go_num, by simpa [beTo] using hown, Below.refl _ _⟩
  case round =>
    obtain ⟨j, hj, rfl, hown', hq⟩ := hrel
    by_cases hlt : j < size
    · have hx : (0 : Int) ≤ (size : Int) - 1 - j := by omega
      go_wp2_with (at_builtin; refine wpList_append_own _ rfl _ _ 53 rfl base 5 i0 (.int .u8 0) 1 1 Tryz.underlying53 hi hz0 hz1 hz2 rfl (by decide) _ _ _ rfl (hown'.alloc _) ⟨wr.heap.size, 0, none⟩ 1 1 [.int .u8 (n / 2 ^ (8 * (size - 1 - j)) % 256)] rfl rfl ?c1 ?c2 ?c3 ?c4 ?c5 ?_)
      case c1 => intro i u hu; match i, hu with | 0, hu => simp at hu; subst hu; simp [Addr.add]
      case c2 => intro u hu; simp at hu; subst hu; rfl
      case c3 => unfold maxLen; omega
      case c4 => omega
      case c5 => have := hq.size; simp; omega
      intro v' w1 hown1 hgrow _
      go_wp2_with fail
      go_roundw
      case rel =>
        refine ⟨j + 1, by omega, by go_num, ?_, (hq.alloc (by have := hq.size; omega) _).grown hgrow (by have := hq.size; simp; omega) (fun b hb => (hown'.lt b hb).1)⟩
        rw [beTo]; exact hown1
      case measure => simp [intOf]; omega
    · obtain rfl : j = size := by omega
      go_wp2
      go_ret
      exact ⟨_, rfl, by have h := beTo_eq n j j (Nat.le_refl _); simp [beV] at h; rw [← h]; exact hown', hq⟩
end Go.Proofs.YtindifjhocgkbaaGreatDoor
