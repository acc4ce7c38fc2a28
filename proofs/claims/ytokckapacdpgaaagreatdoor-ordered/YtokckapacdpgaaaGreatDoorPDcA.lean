import Derived.Test.YtokckapacdpgaaaGreatDoorDcA
import Derived.Test.YtokckapacdpgaaaGreatDoorBys
namespace Go.Proofs.YtokckapacdpgaaaGreatDoor
open Go.RowKit

/-- What plain's DecodeAll answers. -/
def PStaIs (w0 w : World) (s : ByteArray) (ev : Ending) : Prop :=
  (∃ k a, sta s = .error (k, a) ∧ 1 ≤ k ∧ ev = .returned (.tuple #[.int .u64 0, .slice none 0 0, .agg #[.int .i64 k, .int .i64 a, .int .i64 0]])) ∨
  (∃ v l x, sta s = .ok (v, l) ∧ ev = .returned (.tuple #[.int .u64 v, x, .agg #[.int .i64 0, .int .i64 0, .int .i64 0]]) ∧ w.ownsRow w0.heap.size 62 3 x l.length (cellsE l))

set_option maxRecDepth 10000 in
set_option maxHeartbeats 2000000 in
theorem pDecodeAll (s : ByteArray) (w : World) (g : Glob w) (he : EtIs w) (hs : s.size ≤ maxLen) :
    Calls Tryz.prog 23 #[.string s] w fun ev w' => PStaIs w w' s ev ∧ Below w.heap.size w w' := by
  have qa := below_alloc w (.cells #[.int .i64 0, .int .i64 0, .int .i64 0] 29)
  obtain ⟨cp, W1, hrun, hc1, hc2, hb1, hf1, q1, hs1⟩ := bytes_of' s (w.alloc (.cells #[.int .i64 0, .int .i64 0, .int .i64 0] 29)) hs
  simp only [World.size_alloc] at hrun hb1 hf1 hs1
  have qw1 := below_trans qa q1
  have p0 : W1.cell? ⟨w.heap.size, 0, none⟩ = some (.int .i64 0) := (q1.cell (p := ⟨w.heap.size, 0, none⟩) (by simp <;> omega)).trans (by simp)
  have p1 : W1.cell? ⟨w.heap.size, 1, none⟩ = some (.int .i64 0) := (q1.cell (p := ⟨w.heap.size, 1, none⟩) (by simp <;> omega)).trans (by simp)
  have p2 : W1.cell? ⟨w.heap.size, 2, none⟩ = some (.int .i64 0) := (q1.cell (p := ⟨w.heap.size, 2, none⟩) (by simp <;> omega)).trans (by simp)
  have pf0 : W1.frozen? ⟨w.heap.size, 0, none⟩ = false := (q1.frozen (p := ⟨w.heap.size, 0, none⟩) (by simp <;> omega)).trans (by simp)
  have pf1 : W1.frozen? ⟨w.heap.size, 1, none⟩ = false := (q1.frozen (p := ⟨w.heap.size, 1, none⟩) (by simp <;> omega)).trans (by simp)
  have pf2 : W1.frozen? ⟨w.heap.size, 2, none⟩ = false := (q1.frozen (p := ⟨w.heap.size, 2, none⟩) (by simp <;> omega)).trans (by simp)
  unfold maxLen at hs
  go_enter Tryz.func23, Tryz.ntmps23
  go_wp2_with fail
  clear hrun
  refine (oDecodeAll s (w.heap.size + 1) cp W1 (g.keep qw1) (by omega) hb1 hc1 (by omega)).mono ?_
  rintro ev w2 ⟨hd, q2⟩
  have hw1 : w.heap.size < W1.heap.size := cell_lt p0
  have he2 := (he.keep qw1).keep q2
  rcases hd with ⟨k, a, fb, hst, rfl, hx⟩ | ⟨v, l, T, hst, hT, rfl, htab⟩
  · have HE : Hid (sta s = .error (k, a)) := hst
    clear hst
    have hk1 : 1 ≤ k := by
      rcases hx with ⟨_, _, e⟩ | ⟨h, _⟩
      · cases e
      · exact h
    go_wp2_with fail
    refine (partsOf _ k a _ he2 hx).mono ?_
    rintro ev w3 ⟨rfl, q3⟩
    have q13 := below_trans q2 q3
    have hs3 := q13.size
    go_wp2_with fail
    have QA : Below W1.heap.size W1 (w3.alloc (.cells #[.int .i64 k, .int .i64 a, .int .i64 0] 29)) := below_trans q13 (below_alloc _ _)
    have f0 : (w3.alloc (.cells #[.int .i64 k, .int .i64 a, .int .i64 0] 29)).cell? ⟨w3.heap.size, 0, none⟩ = some (.int .i64 k) := by simp
    have f1 : (w3.alloc (.cells #[.int .i64 k, .int .i64 a, .int .i64 0] 29)).cell? ⟨w3.heap.size, 1, none⟩ = some (.int .i64 a) := by simp
    have f2 : (w3.alloc (.cells #[.int .i64 k, .int .i64 a, .int .i64 0] 29)).cell? ⟨w3.heap.size, 2, none⟩ = some (.int .i64 0) := by simp
    generalize w3.alloc (.cells #[.int .i64 k, .int .i64 a, .int .i64 0] 29) = W4 at *
    have Y0 := (QA.cell (p := ⟨w.heap.size, 0, none⟩) hw1).trans p0
    have Y1 := (QA.cell (p := ⟨w.heap.size, 1, none⟩) hw1).trans p1
    have Y2 := (QA.cell (p := ⟨w.heap.size, 2, none⟩) hw1).trans p2
    have Z0 := (QA.frozen (p := ⟨w.heap.size, 0, none⟩) hw1).trans pf0
    have Z1 := (QA.frozen (p := ⟨w.heap.size, 1, none⟩) hw1).trans pf1
    have Z2 := (QA.frozen (p := ⟨w.heap.size, 2, none⟩) hw1).trans pf2
    have QW := qw1.trans (QA.mono (by omega))
    clear p0 p1 p2 pf0 pf1 pf2 hf1
    go_region
    go_wp2
    exact bodyPost_ret (v := .tuple #[.int .u64 0, .slice none 0 0, .agg #[.int .i64 k, .int .i64 a, .int .i64 0]]) (by simp [results, Tryz.results23, go_sem, Y0, Y1, Y2]) rfl ⟨.inl ⟨k, a, HE.out, hk1, rfl⟩, (((QW.setCell (by simp) _).setCell (by simp) _).setCell (by simp) _).drew⟩
  · have hlen := (enc_sta hst).2.1
    have HE : Hid (sta s = .ok (v, l)) := hst
    clear hst
    go_wp2_with fail
    refine (partsOf _ 0 0 _ he2 (errIs_nil _)).mono ?_
    rintro ev w3 ⟨rfl, q3⟩
    have q13 := below_trans q2 q3
    have hs3 := q13.size
    have t3 := htab.keep q3
    go_wp2_with fail
    have f0 : (w3.alloc (.cells #[.int .i64 0, .int .i64 0, .int .i64 0] 29)).cell? ⟨w3.heap.size, 0, none⟩ = some (.int .i64 0) := by simp
    have f1 : (w3.alloc (.cells #[.int .i64 0, .int .i64 0, .int .i64 0] 29)).cell? ⟨w3.heap.size, 1, none⟩ = some (.int .i64 0) := by simp
    have f2 : (w3.alloc (.cells #[.int .i64 0, .int .i64 0, .int .i64 0] 29)).cell? ⟨w3.heap.size, 2, none⟩ = some (.int .i64 0) := by simp
    have qb := below_alloc w3 (.cells #[.int .i64 0, .int .i64 0, .int .i64 0] 29)
    have q14 := below_trans q13 qb
    have t4 := t3.keep qb
    generalize w3.alloc (.cells #[.int .i64 0, .int .i64 0, .int .i64 0] 29) = W4 at *
    have hs4 : w3.heap.size < W4.heap.size := cell_lt f0
    refine (tEntries T l _ t4).mono ?_
    rintro e w5 ⟨x, rfl, rfl, hI, hc⟩
    go_wp2_with fail
    refine (pListed _ x l (by omega) _ hc hI).mono ?_
    rintro e w6 ⟨y, rfl, ho, q6⟩
    obtain ⟨ao, cpp, rfl⟩ := own_slice ho
    have q46 := below_trans (below_alloc W4 (.cells #[x] 112)) q6
    have QA := below_trans q14 q46
    have F0 := (q46.cell (p := ⟨w3.heap.size, 0, none⟩) hs4).trans f0
    have F1 := (q46.cell (p := ⟨w3.heap.size, 1, none⟩) hs4).trans f1
    have F2 := (q46.cell (p := ⟨w3.heap.size, 2, none⟩) hs4).trans f2
    have Y0 := (QA.cell (p := ⟨w.heap.size, 0, none⟩) hw1).trans p0
    have Y1 := (QA.cell (p := ⟨w.heap.size, 1, none⟩) hw1).trans p1
    have Y2 := (QA.cell (p := ⟨w.heap.size, 2, none⟩) hw1).trans p2
    have Z0 := (QA.frozen (p := ⟨w.heap.size, 0, none⟩) hw1).trans pf0
    have Z1 := (QA.frozen (p := ⟨w.heap.size, 1, none⟩) hw1).trans pf1
    have Z2 := (QA.frozen (p := ⟨w.heap.size, 2, none⟩) hw1).trans pf2
    have QW := qw1.trans (QA.mono (by omega))
    have hbase : w.heap.size < (W4.alloc (.cells #[x] 112)).heap.size := by simp; omega
    clear p0 p1 p2 pf0 pf1 pf2 hf1 f0 f1 f2
    go_wp2_with fail
    go_region
    go_wp2
    exact bodyPost_ret (v := .tuple #[.int .u64 v, .slice ao l.length cpp, .agg #[.int .i64 0, .int .i64 0, .int .i64 0]]) (by simp [results, Tryz.results23, go_sem, Y0, Y1, Y2]) rfl ⟨.inr ⟨v, l, _, HE.out, rfl, own_mono (ownsRow_setCell_below (ownsRow_setCell_below (ownsRow_setCell_below ho hbase _) hbase _) hbase _).drew (by omega)⟩, (((QW.setCell (by simp) _).setCell (by simp) _).setCell (by simp) _).drew⟩
end Go.Proofs.YtokckapacdpgaaaGreatDoor
