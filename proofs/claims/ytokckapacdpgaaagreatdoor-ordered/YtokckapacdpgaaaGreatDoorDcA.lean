import Derived.Test.YtokckapacdpgaaaGreatDoorStR
import Derived.Test.YtokckapacdpgaaaGreatDoorDon
namespace Go.Proofs.YtokckapacdpgaaaGreatDoor
open Go.RowKit

/-- What DecodeAll answers. -/
def StaIs (w0 w : World) (s : ByteArray) (ev : Ending) : Prop :=
  (∃ k a fb, sta s = .error (k, a) ∧ ev = .returned (.tuple #[.int .u64 0, .slice none 0 0, .iface 133 (.pointer (some ⟨fb, 0, none⟩))]) ∧ ErrIs w (.iface 133 (.pointer (some ⟨fb, 0, none⟩))) k a) ∨
  (∃ v l x, sta s = .ok (v, l) ∧ ev = .returned (.tuple #[.int .u64 v, x, .nilIface]) ∧ w.ownsRow w0.heap.size 183 3 x l.length (cellsE l))
theorem below_fresh' {w W : World} {R : Nat} (g : w.grownBy W (some R)) (hR : w.heap.size ≤ R) : Below w.heap.size w W :=
  ⟨g.os, g.tape, g.output, g.size, fun k hk => g.block k hk (by simp; omega)⟩

set_option maxRecDepth 10000 in
set_option maxHeartbeats 2000000 in
theorem wDecodeAll (s : ByteArray) (B cap : Nat) (w : World) (g : Glob w) (hB : B < w.heap.size) (hb : BytesAt w B s) (hc : s.size ≤ cap) (hm : cap ≤ 9223372036854775807) :
    Calls Tryz.prog 82 #[.slice (some ⟨B, 0, none⟩) s.size cap] w fun ev w' => StaIs w w' s ev ∧ Below w.heap.size w w' := by
  have h2 := g.lt
  have qa := below_alloc w (.cells #[.slice (some ⟨B, 0, none⟩) s.size cap, .int .i64 0, .int .i64 0] 191)
  have hr : Rdr (w.alloc (.cells #[.slice (some ⟨B, 0, none⟩) s.size cap, .int .i64 0, .int .i64 0] 191)) s w.heap.size B cap 0 0 :=
    ⟨⟨by simp, by simp, by simp, by simp, by simp⟩, hb.keep qa, by omega, by omega, hc, hm⟩
  have ga := g.keep qa
  go_enter Tryz.func82, Tryz.ntmps82
  go_wp2_with fail
  refine (rdState hr ga (by omega)).mono ?_
  rintro ev w1 (⟨k, a, hd, fb, hfb, rfl, hx, g1⟩ | ⟨v, l, e, x, hd, rfl, hown, ⟨b', rb⟩, g1⟩)
  · have HD : Hid (sta s = .error (k, a)) := by show _ = _; rw [sta, hd]
    have q1 := below_fresh' (grown_start g1) (Nat.le_refl _)
    clear hd
    go_wp2
    go_ret3
    exact ⟨.inl ⟨k, a, fb, HD.out, rfl, hx⟩, q1⟩
  · have q1 := below_fresh' (grown_start g1) (Nat.le_refl _)
    obtain ⟨ao, cp, rfl⟩ := own_slice hown
    by_cases he : e < s.size
    · have HD : Hid (sta s = .error (2, (e : Int))) := by show _ = _; rw [sta, hd]; simp [he]
      clear hd
      go_wp2_with fail
      refine (rdDone_more rb he).mono ?_
      rintro ev w2 ⟨fb, hfb, rfl, hx, q2⟩
      go_wp2
      go_ret3
      exact ⟨.inl ⟨2, _, fb, HD.out, rfl, hx⟩, below_trans q1 q2⟩
    · have HD : Hid (sta s = .ok (v, l)) := by show _ = _; rw [sta, hd]; simp [he]
      clear hd
      go_wp2_with fail
      refine (rdDone_ok rb he).mono ?_
      rintro ev w2 ⟨rfl, q2⟩
      have hown2 := hown.kept (grown_of_below (r := none) q2) (by cases (Value.slice ao l.length cp).ownBlock <;> simp)
      go_wp2
      go_ret3
      exact ⟨.inr ⟨v, l, _, HD.out, rfl, own_mono hown2 (by simp)⟩, below_trans q1 q2⟩

/-- What overlay's DecodeAll answers: nothing and the fault, or tables. -/
def OStaIs (w0 w : World) (s : ByteArray) (ev : Ending) : Prop :=
  (∃ k a fb, sta s = .error (k, a) ∧ ev = .returned (.tuple #[.int .u64 0, .pointer none, .iface 133 (.pointer (some ⟨fb, 0, none⟩))]) ∧ ErrIs w (.iface 133 (.pointer (some ⟨fb, 0, none⟩))) k a) ∨
  (∃ v l T, sta s = .ok (v, l) ∧ w0.heap.size ≤ T ∧ ev = .returned (.tuple #[.int .u64 v, .pointer (some ⟨T, 0, none⟩), .nilIface]) ∧ TabIs w T l)
set_option maxHeartbeats 1000000 in
theorem oDecodeAll (s : ByteArray) (B cap : Nat) (w : World) (g : Glob w) (hB : B < w.heap.size) (hb : BytesAt w B s) (hc : s.size ≤ cap) (hm : cap ≤ 9223372036854775807) :
    Calls Tryz.prog 56 #[.slice (some ⟨B, 0, none⟩) s.size cap] w fun ev w' => OStaIs w w' s ev ∧ Below w.heap.size w w' := by
  go_enter Tryz.func56, Tryz.ntmps56
  go_wp2_with fail
  refine (wDecodeAll s B cap _ g hB hb hc hm).mono ?_
  rintro ev w1 ⟨hd, q1⟩
  rcases hd with ⟨k, a, fb, he, rfl, hx⟩ | ⟨v, l, x, he, rfl, hown⟩
  · have HE : Hid (sta s = .error (k, a)) := he
    clear he
    go_wp2
    go_ret3
    exact ⟨.inl ⟨k, a, fb, HE.out, rfl, hx⟩, q1⟩
  · have HE : Hid (sta s = .ok (v, l)) := he
    clear he
    obtain ⟨ao, cp, rfl⟩ := own_slice hown
    have q := q1.size
    go_wp2
    go_ret3
    exact ⟨.inr ⟨v, l, _, HE.out, q, rfl, ⟨_, heap_alloc_new _ _, own_mono (hown.alloc _) (Nat.zero_le _)⟩⟩, below_trans q1 (below_alloc _ _)⟩
end Go.Proofs.YtokckapacdpgaaaGreatDoor
