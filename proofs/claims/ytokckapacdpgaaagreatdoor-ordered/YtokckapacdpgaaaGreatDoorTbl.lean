import Derived.Test.YtokckapacdpgaaaGreatDoorRdB
namespace Go.Proofs.YtokckapacdpgaaaGreatDoor
open Go.RowKit

set_option maxHeartbeats 1000000 in
theorem tab_short {w : World} {s : ByteArray} {R B cap b e : Nat} (h : Rdr w s R B cap b e) (hs : s.size < e + 1) :
    Calls Tryz.prog 143 #[.pointer (some ⟨R, 0, none⟩)] w fun ev w' => ∃ fb, w.heap.size ≤ fb ∧ ev = .returned (.tuple #[.int .i64 0, .iface 133 (.pointer (some ⟨fb, 0, none⟩))]) ∧ ErrIs w' (.iface 133 (.pointer (some ⟨fb, 0, none⟩))) 1 (e : Int) ∧ w.grownBy w' (some R) := by
  go_enter Tryz.func143, Tryz.ntmps143
  go_wp2_with fail
  refine (pc_no 1 h (by omega) (by omega)).mono ?_
  rintro ev w1 ⟨fb, hfb, rfl, hx, g1⟩
  go_wp2
  go_ret2
  exact ⟨fb, hfb, rfl, hx, g1⟩
set_option maxHeartbeats 1000000 in
theorem tab_bad {w : World} {s : ByteArray} {R B cap b e : Nat} (h : Rdr w s R B cap b e) (hs : e + 1 ≤ s.size) (hv : tabB (bt s e) = false) :
    Calls Tryz.prog 143 #[.pointer (some ⟨R, 0, none⟩)] w fun ev w' => ∃ fb, w.heap.size ≤ fb ∧ ev = .returned (.tuple #[.int .i64 0, .iface 133 (.pointer (some ⟨fb, 0, none⟩))]) ∧ ErrIs w' (.iface 133 (.pointer (some ⟨fb, 0, none⟩))) 6 (e : Int) ∧ w.grownBy w' (some R) := by
  go_enter Tryz.func143, Tryz.ntmps143
  go_wp2_with fail
  refine (pc_ok 1 h (by omega) (by omega)).mono ?_
  rintro ev w1 ⟨rfl, r1, g1⟩
  have bb := bt_lo s e
  have cb := r1.bs e (by omega)
  go_wp2_with fail
  refine (isTable _ _).mono ?_
  rintro ev w2 ⟨rfl, rfl⟩
  go_wp2_with fail
  refine (rdFault' 6 r1 (by decide) (by decide)).mono ?_
  rintro ev w2 ⟨fb, hfb, rfl, hx, q2⟩
  go_wp2
  go_ret2
  exact ⟨fb, Nat.le_trans g1.size hfb, rfl, hx, grown_trans g1 (grown_of_below q2)⟩
set_option maxHeartbeats 1000000 in
theorem tab_ok {w : World} {s : ByteArray} {R B cap b e : Nat} (h : Rdr w s R B cap b e) (hs : e + 1 ≤ s.size) (hv : tabB (bt s e) = true) :
    Calls Tryz.prog 143 #[.pointer (some ⟨R, 0, none⟩)] w fun ev w' => ev = .returned (.tuple #[.int .i64 (bt s e), .nilIface]) ∧ Rdr w' s R B cap e (e + 1) ∧ w.grownBy w' (some R) := by
  go_enter Tryz.func143, Tryz.ntmps143
  go_wp2_with fail
  refine (pc_ok 1 h (by omega) (by omega)).mono ?_
  rintro ev w1 ⟨rfl, r1, g1⟩
  have bb := bt_lo s e
  have cb := r1.bs e (by omega)
  go_wp2_with fail
  refine (isTable _ _).mono ?_
  rintro ev w2 ⟨rfl, rfl⟩
  go_wp2
  go_ret2
  exact ⟨rfl, r1, g1⟩
end Go.Proofs.YtokckapacdpgaaaGreatDoor
