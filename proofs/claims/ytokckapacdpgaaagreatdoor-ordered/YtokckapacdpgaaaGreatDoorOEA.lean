import Derived.Test.YtokckapacdpgaaaGreatDoorEcA
namespace Go.Proofs.YtokckapacdpgaaaGreatDoor
open Go.RowKit

set_option maxHeartbeats 1000000 in
theorem wEncodeAll_no (v : Int) (x : Value) (w : World) (hv : verB v = false) (h0 : 0 ≤ v) :
    Calls Tryz.prog 77 #[.int .u64 v, x] w fun e w' => ∃ y, e = .returned (.tuple #[.slice none 0 0, y]) ∧ ErrIs w' y 4 0 ∧ Below w.heap.size w w' := by
  go_enter Tryz.func77, Tryz.ntmps77
  go_wp2_with fail
  refine (wIsVersion _ _ h0).mono ?_
  rintro e w ⟨rfl, rfl⟩
  go_wp2_with fail
  refine (fault _ _ _).mono ?_
  rintro e w1 ⟨rfl, rfl⟩
  go_wp2
  go_ret2
  exact ⟨_, rfl, errIs_new _ _ _ (by decide) (by decide), below_alloc _ _⟩
set_option maxHeartbeats 1000000 in
theorem oListOf (T : Nat) (l : List En) (w : World) (h : TabIs w T l) :
    Calls Tryz.prog 78 #[.pointer (some ⟨T, 0, none⟩)] w fun e w' => ∃ v, e = .returned v ∧ w.ownsRow 0 183 3 v l.length (cellsE l) ∧ w' = w := by
  obtain ⟨v, hb, ho⟩ := h.blk
  have tc : w.cell? ⟨T, 0, none⟩ = some v := by simp [World.cell?, hb]
  go_enter Tryz.func78, Tryz.ntmps78
  go_wp2
  go_ret
  exact ⟨_, rfl, ho, rfl⟩
/-- What EncodeAll answers: nothing and the fault, or the bytes. -/
def EAIs (w0 w : World) (v : Int) (l : List En) (b x : Value) : Prop :=
  (verB v = false ∧ b = .slice none 0 0 ∧ ErrIs w x 4 0) ∨ (verB v = true ∧ x = .nilIface ∧ w.ownsRow w0.heap.size 5 1 b (staV v l).length (staV v l))
set_option maxHeartbeats 1000000 in
theorem oEncodeAll (v : Int) (T : Nat) (l : List En) (w : World) (h : TabIs w T l) (h0 : 0 ≤ v) (hlen : l.length ≤ 1000000) (hok : Ok l) :
    Calls Tryz.prog 51 #[.int .u64 v, .pointer (some ⟨T, 0, none⟩)] w fun e w' => ∃ b x, e = .returned (.tuple #[b, x]) ∧ EAIs w w' v l b x ∧ Below w.heap.size w w' := by
  go_enter Tryz.func51, Tryz.ntmps51
  go_wp2_with fail
  refine (oListOf T l _ h).mono ?_
  rintro e w ⟨x, rfl, ho, rfl⟩
  cases hv : verB v
  · go_wp2_with fail
    refine (wEncodeAll_no v x _ hv h0).mono ?_
    rintro e w1 ⟨y, rfl, hy, q1⟩
    have HV : Hid (verB v = false) := hv
    clear hv
    go_wp2
    go_ret2
    exact ⟨_, y, rfl, .inl ⟨HV.out, rfl, hy⟩, q1⟩
  · go_wp2_with fail
    refine (wEncodeAll_ok v x l hv h0 hlen hok _ (EnsIn.of_owns ho)).mono ?_
    rintro e w1 ⟨y, rfl, hy, q1⟩
    have HV : Hid (verB v = true) := hv
    clear hv
    go_wp2
    go_ret2
    exact ⟨y, _, rfl, .inr ⟨HV.out, rfl, hy⟩, q1⟩
end Go.Proofs.YtokckapacdpgaaaGreatDoor
