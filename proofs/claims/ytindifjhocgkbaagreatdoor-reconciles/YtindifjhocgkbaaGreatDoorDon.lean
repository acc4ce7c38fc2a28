import Derived.Test.YtindifjhocgkbaaGreatDoorErrCToKit
namespace Go.Proofs.YtindifjhocgkbaaGreatDoor
open Go.RowKit

set_option maxHeartbeats 1000000 in
theorem rdDone_more {w : World} {s : ByteArray} {R B cap b e : Nat} (h : Rdr w s R B cap b e) (hs : e < s.size) :
    Calls Tryz.prog 109 #[.pointer (some ⟨R, 0, none⟩)] w fun ev w' => ∃ fb, w.heap.size ≤ fb ∧ ev = .returned (.iface 133 (.pointer (some ⟨fb, 0, none⟩))) ∧ ErrIs w' (.iface 133 (.pointer (some ⟨fb, 0, none⟩))) 2 (e : Int) ∧ Below w.heap.size w w' := by
  have c0 := h.rd.c0
  have c2 := h.rd.c2
  have hx : (e : Int) < (s.size : Int) := by omega
  go_enter Tryz.func109, Tryz.ntmps109
  go_wp2_with fail
  go_quiet (fail)
  go_wp2_with fail
  refine (fault _ _ _).mono ?_
  rintro ev w1 ⟨rfl, rfl⟩
  go_wp2
  go_ret
  exact ⟨_, Nat.le_refl _, rfl, errIs_new _ _ _ (by decide) (by decide), below_trans (below_drawn _ _) (below_alloc _ _)⟩
set_option maxHeartbeats 1000000 in
theorem rdDone_ok {w : World} {s : ByteArray} {R B cap b e : Nat} (h : Rdr w s R B cap b e) (hs : ¬ e < s.size) :
    Calls Tryz.prog 109 #[.pointer (some ⟨R, 0, none⟩)] w fun ev w' => ev = .returned .nilIface ∧ Below w.heap.size w w' := by
  have c0 := h.rd.c0
  have c2 := h.rd.c2
  have hx : ¬ (e : Int) < (s.size : Int) := by omega
  go_enter Tryz.func109, Tryz.ntmps109
  go_wp2_with fail
  go_quiet (fail)
  go_wp2
  go_ret
  exact ⟨rfl, below_drawn _ _⟩
end Go.Proofs.YtindifjhocgkbaaGreatDoor
