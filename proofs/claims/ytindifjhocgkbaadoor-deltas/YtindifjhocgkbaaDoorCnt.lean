import Derived.Test.YtindifjhocgkbaaDoorRdB
namespace Go.Proofs.YtindifjhocgkbaaDoor
open Go.RowKit

set_option maxHeartbeats 1000000 in
theorem cnt_short {w : World} {s : ByteArray} {R B cap b e : Nat} (h : Rdr w s R B cap b e) (hs : s.size < e + 1) :
    Calls Tryd.prog 77 #[.pointer (some ⟨R, 0, none⟩)] w fun ev w' => ∃ fb, w.heap.size ≤ fb ∧ ev = .returned (.tuple #[.int .i64 0, .iface 100 (.pointer (some ⟨fb, 0, none⟩))]) ∧ ErrIs w' (.iface 100 (.pointer (some ⟨fb, 0, none⟩))) 1 (e : Int) ∧ w.grownBy w' (some R) := by
  go_enter Tryd.func77, Tryd.ntmps77
  go_wp2_with fail
  refine (pc_no 1 h (by omega) (by omega)).mono ?_
  rintro ev w1 ⟨fb, hfb, rfl, hx, g1⟩
  go_wp2
  go_ret2
  exact ⟨fb, hfb, rfl, hx, g1⟩
set_option maxHeartbeats 1000000 in
theorem cnt_bad {w : World} {s : ByteArray} {R B cap b e : Nat} (h : Rdr w s R B cap b e) (hs : e + 1 ≤ s.size) (hv : cntB (bt s e) = false) :
    Calls Tryd.prog 77 #[.pointer (some ⟨R, 0, none⟩)] w fun ev w' => ∃ fb, w.heap.size ≤ fb ∧ ev = .returned (.tuple #[.int .i64 0, .iface 100 (.pointer (some ⟨fb, 0, none⟩))]) ∧ ErrIs w' (.iface 100 (.pointer (some ⟨fb, 0, none⟩))) 5 (e : Int) ∧ w.grownBy w' (some R) := by
  go_enter Tryd.func77, Tryd.ntmps77
  go_wp2_with fail
  refine (pc_ok 1 h (by omega) (by omega)).mono ?_
  rintro ev w1 ⟨rfl, r1, g1⟩
  have bb := bt_lo s e
  have cb := r1.bs e (by omega)
  go_wp2_with fail
  refine (isCount _ _).mono ?_
  rintro ev w2 ⟨rfl, rfl⟩
  go_wp2_with fail
  refine (rdFault' 5 r1 (by decide) (by decide)).mono ?_
  rintro ev w2 ⟨fb, hfb, rfl, hx, q2⟩
  go_wp2
  go_ret2
  exact ⟨fb, Nat.le_trans g1.size hfb, rfl, hx, grown_trans g1 (grown_of_below q2)⟩
set_option maxHeartbeats 1000000 in
theorem cnt_ok {w : World} {s : ByteArray} {R B cap b e : Nat} (h : Rdr w s R B cap b e) (hs : e + 1 ≤ s.size) (hv : cntB (bt s e) = true) :
    Calls Tryd.prog 77 #[.pointer (some ⟨R, 0, none⟩)] w fun ev w' => ev = .returned (.tuple #[.int .i64 (bt s e), .nilIface]) ∧ Rdr w' s R B cap e (e + 1) ∧ w.grownBy w' (some R) := by
  go_enter Tryd.func77, Tryd.ntmps77
  go_wp2_with fail
  refine (pc_ok 1 h (by omega) (by omega)).mono ?_
  rintro ev w1 ⟨rfl, r1, g1⟩
  have bb := bt_lo s e
  have cb := r1.bs e (by omega)
  go_wp2_with fail
  refine (isCount _ _).mono ?_
  rintro ev w2 ⟨rfl, rfl⟩
  go_wp2
  go_ret2
  exact ⟨rfl, r1, g1⟩
end Go.Proofs.YtindifjhocgkbaaDoor
