import Derived.Test.YtindifjhocgkbaaDoorRDecB
import Derived.Test.YtindifjhocgkbaaDoorREnc
namespace Go.Proofs.YtindifjhocgkbaaDoor
open Go.RowKit

set_option maxHeartbeats 1000000 in
theorem lSame (k a : Int) (w : World) :
    Calls Tryd.prog 22 #[.agg #[.int .i64 k, .int .i64 a, .int .i64 0], .agg #[.int .i64 k, .int .i64 a]] w fun e w' => e = .returned (.bool true) ∧ Below w.heap.size w w' := by
  go_enter Tryd.func22, Tryd.ntmps22
  go_wp2
  go_ret
  exact ⟨rfl, below_trans (below_alloc _ _) (below_alloc _ _)⟩

set_option maxHeartbeats 1000000 in
theorem lSameOps (l : List OpD) (ao bo : Option Addr) (c d : Nat) (w : World) (hl : l.length ≤ maxLen) (ha : OpsIn w ao l) (hb : OpsIn w bo l) :
    Calls Tryd.prog 24 #[.slice ao l.length c, .slice bo l.length d] w fun e w' => e = .returned (.bool true) ∧ Below w.heap.size w w' := by
  unfold maxLen at hl
  go_enter Tryd.func24, Tryd.ntmps24
  go_wp2_with fail
  go_loopw [5] (fun i wr => ∃ j : Nat, j ≤ l.length ∧ i = .int .i64 j ∧ Below w.heap.size w wr)
    (fun i _ => l.length - (intOf i).toNat)
  case atStart => exact ⟨0, Nat.zero_le _, rfl, Below.refl _ _⟩
  case round =>
    obtain ⟨j, hj, rfl, qw⟩ := hrel
    by_cases hlt : j < l.length
    · obtain ⟨b, off, rfl, hb1, ho1⟩ := ha (by omega)
      obtain ⟨b', off', rfl, hb2, ho2⟩ := hb (by omega)
      have a0 := (qw.cell (p := ⟨b, off + j * 4, none⟩) hb1).trans (ho1.c0 j hlt)
      have a1 := (qw.cell (p := ⟨b, off + j * 4 + 1, none⟩) hb1).trans (ho1.c1 j hlt)
      have a2 := (qw.cell (p := ⟨b, off + j * 4 + 2, none⟩) hb1).trans (ho1.c2 j hlt)
      have a3 := (qw.cell (p := ⟨b, off + j * 4 + 3, none⟩) hb1).trans (ho1.c3 j hlt)
      have b0 := (qw.cell (p := ⟨b', off' + j * 4, none⟩) hb2).trans (ho2.c0 j hlt)
      have b1 := (qw.cell (p := ⟨b', off' + j * 4 + 1, none⟩) hb2).trans (ho2.c1 j hlt)
      have b2 := (qw.cell (p := ⟨b', off' + j * 4 + 2, none⟩) hb2).trans (ho2.c2 j hlt)
      have b3 := (qw.cell (p := ⟨b', off' + j * 4 + 3, none⟩) hb2).trans (ho2.c3 j hlt)
      have jl : (j : Int) < (l.length : Int) := by omega
      go_wp2_with fail
      go_quiet (fail)
      go_wp2
      go_roundw
      case rel => exact ⟨j + 1, by omega, by go_num, below_drewN qw _⟩
      case measure => simp [intOf]; omega
    · obtain rfl : j = l.length := by omega
      go_wp2
      go_ret
      exact ⟨rfl, qw⟩
end Go.Proofs.YtindifjhocgkbaaDoor
