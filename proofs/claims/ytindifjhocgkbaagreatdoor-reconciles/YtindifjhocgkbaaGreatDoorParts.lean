import Derived.Test.YtindifjhocgkbaaGreatDoorAsC
namespace Go.Proofs.YtindifjhocgkbaaGreatDoor
open Go.RowKit Go.Extern.Stop Go.Stop Go.Extern

/-- The library's variable that names the type 'error'. -/
def EtIs (w : World) : Prop := w.cell? ⟨0, 0, none⟩ = some (.iface 196 (.agg #[.pointer (some ⟨4, 80, none⟩)]))
theorem EtIs.keep {w w' : World} (h : EtIs w) (q : Below w.heap.size w w') : EtIs w' := (q.cell (p := ⟨0, 0, none⟩) (cell_lt h)).trans h

theorem asWorld_below (w : World) (e t : Addr) : Below w.heap.size w (asWorld w e t) := by
  unfold asWorld
  exact below_trans (below_trans (below_trans (below_alloc _ _) (below_alloc _ _)) (below_alloc _ _)) (below_alloc _ _)

set_option maxHeartbeats 1000000 in
theorem parts_nil (w : World) :
    Calls Tryz.prog 34 #[.nilIface] w fun e w' => e = .returned (.agg #[.int .i64 0, .int .i64 0, .int .i64 0]) ∧ Below w.heap.size w w' := by
  go_enter Tryz.func34, Tryz.ntmps34
  go_wp2
  exact bodyPost_ret (v := .agg #[.int .i64 0, .int .i64 0, .int .i64 0]) (by simp [results, Tryz.results34, go_sem]) rfl ⟨rfl, below_alloc _ _⟩

theorem as_fault' (e t : Addr) (old : Value) (w : World) (hg : EtIs w) (ht0 : w.cell? t = some old) (hf0 : w.frozen? t = false) :
    Calls Tryz.prog 63 #[.iface 133 (.pointer (some e)), .iface 135 (.pointer (some t))] w fun ev w' => ev = .returned (.bool true) ∧
      w.heap.size ≤ w'.heap.size ∧ Below t.block w w' ∧ w'.cell? t = some (.pointer (some e)) ∧ (∀ p, p.block < w.heap.size → p ≠ t → w'.cell? p = w.cell? p) ∧ (∀ p, p.block < w.heap.size → w'.frozen? p = w.frozen? p) := by
  refine (as_fault e t old w hg ht0 hf0).mono ?_
  rintro ev w' ⟨rfl, rfl⟩
  have q := asWorld_below w e t
  have htl : t.block < w.heap.size := cell_lt ht0
  refine ⟨rfl, by simpa using q.size, (q.mono (Nat.le_of_lt htl)).setCell (Nat.le_refl _) _, World.cell?_setCell_same _ _ _ ((q.cell htl).trans ht0), fun p hp hne => ?_, fun p hp => ?_⟩
  · rw [World.cell?_setCell_other _ _ _ _ (fun h => hne h.symm)]; exact q.cell hp
  · rw [World.frozen?_setCell]; exact q.frozen hp

set_option maxRecDepth 100000 in
set_option maxHeartbeats 4000000 in
theorem parts_fault (bf : Nat) (k a : Int) (w : World) (he : EtIs w) (h1 : 1 ≤ k) (h14 : k ≤ 14) (c0 : w.cell? ⟨bf, 0, none⟩ = some (.int .i64 k)) (c1 : w.cell? ⟨bf, 1, none⟩ = some (.int .i64 a)) (c2 : w.cell? ⟨bf, 2, none⟩ = some .nilIface) :
    Calls Tryz.prog 34 #[.iface 133 (.pointer (some ⟨bf, 0, none⟩))] w fun e w' => e = .returned (.agg #[.int .i64 k, .int .i64 a, .int .i64 0]) ∧ Below w.heap.size w w' := by
  have hz : bf < w.heap.size := cell_lt c0
  have q0 : Below w.heap.size w ((w.alloc (.cells #[.int .i64 0, .int .i64 0, .int .i64 0] 29)).alloc (.cells #[.pointer none] 133)) := below_trans (below_alloc _ _) (below_alloc _ _)
  have hk0 : (k == 0) = false := by simp; omega
  have hcall := as_fault' ⟨bf, 0, none⟩ ⟨w.heap.size + 1, 0, none⟩ (.pointer none) _ (he.keep q0) (by simp) (by simp)
  go_enter Tryz.func34, Tryz.ntmps34
  go_wp2_with fail
  refine hcall.mono ?_
  clear hcall
  rintro e w1 ⟨rfl, hs, hb, ht, hc, hf⟩
  have hs' : w.heap.size + 1 < w1.heap.size := by simp at hs; omega
  have qb : Below w.heap.size w w1 := q0.trans (hb.mono (by simp))
  have e0 : w1.cell? ⟨bf, 0, none⟩ = some (.int .i64 k) := (qb.cell (p := ⟨bf, 0, none⟩) hz).trans c0
  have e1 : w1.cell? ⟨bf, 1, none⟩ = some (.int .i64 a) := (qb.cell (p := ⟨bf, 1, none⟩) hz).trans c1
  have e2 : w1.cell? ⟨bf, 2, none⟩ = some .nilIface := (qb.cell (p := ⟨bf, 2, none⟩) hz).trans c2
  have r0 : w1.cell? ⟨w.heap.size, 0, none⟩ = some (.int .i64 0) := by rw [hc _ (by simp; omega) (by simp)]; simp
  have r1 : w1.cell? ⟨w.heap.size, 1, none⟩ = some (.int .i64 0) := by rw [hc _ (by simp; omega) (by simp)]; simp
  have r2 : w1.cell? ⟨w.heap.size, 2, none⟩ = some (.int .i64 0) := by rw [hc _ (by simp; omega) (by simp)]; simp
  have s0 : w1.frozen? ⟨w.heap.size, 0, none⟩ = false := by rw [hf _ (by simp; omega)]; simp
  have s1 : w1.frozen? ⟨w.heap.size, 1, none⟩ = false := by rw [hf _ (by simp; omega)]; simp
  have s2 : w1.frozen? ⟨w.heap.size, 2, none⟩ = false := by rw [hf _ (by simp; omega)]; simp
  clear hc hf hb q0 hs
  go_wp2_with fail
  go_loopw [4] (fun i wr => ∃ j : Nat, j ≤ 15 ∧ i = .int .i64 j ∧ Below w1.heap.size w1 wr)
    (fun i _ => 15 - (intOf i).toNat)
  case atStart => exact ⟨0, by omega, rfl, Below.refl _ _⟩
  case round =>
    obtain ⟨j, hj, rfl, hq⟩ := hrel
    have f0 := (hq.cell (p := ⟨bf, 0, none⟩) (by simp; omega)).trans e0
    have f1 := (hq.cell (p := ⟨bf, 1, none⟩) (by simp; omega)).trans e1
    have f2 := (hq.cell (p := ⟨bf, 2, none⟩) (by simp; omega)).trans e2
    have ft := (hq.cell (p := ⟨w.heap.size + 1, 0, none⟩) hs').trans ht
    by_cases hlt : j < 15
    · have hj14 : (j : Int) ≤ 14 := by omega
      rcases (show ((k == (j : Int)) = true ∧ ((j : Int) == k) = true) ∨ ((k == (j : Int)) = false ∧ ((j : Int) == k) = false) by
        by_cases h : k = (j : Int)
        · exact .inl ⟨by simpa using h, by simpa using h.symm⟩
        · exact .inr ⟨by simpa using h, by simpa using fun h' => h (Eq.symm h')⟩) with ⟨b1, b2⟩ | ⟨b1, b2⟩
      all_goals
        go_wp2_with fail
        go_region_with (go_at_call 64; refine (errorsIs bf k _ _ ?_ ?_).mono ?_; exact f0; exact f2; rintro e w2 ⟨rfl, q2⟩; have g0 := (q2.cell (p := ⟨bf, 0, none⟩) (cell_lt f0)).trans f0; have gt := (q2.cell (p := ⟨w.heap.size + 1, 0, none⟩) (cell_lt ft)).trans ft)
        all_goals
          go_wp2_with fail
          go_roundw
          case rel => exact ⟨j + 1, by omega, by go_num, hq.trans ((below_trans (below_drew wr) q2).mono hq.size)⟩
          case measure => simp [intOf]; omega
    · obtain rfl : j = 15 := by omega
      have n0 := (hq.cell (p := ⟨w.heap.size, 0, none⟩) (by simp; omega)).trans r0
      have n1 := (hq.cell (p := ⟨w.heap.size, 1, none⟩) (by simp; omega)).trans r1
      have n2 := (hq.cell (p := ⟨w.heap.size, 2, none⟩) (by simp; omega)).trans r2
      have m0 := (hq.frozen (p := ⟨w.heap.size, 0, none⟩) (by simp; omega)).trans s0
      have m1 := (hq.frozen (p := ⟨w.heap.size, 1, none⟩) (by simp; omega)).trans s1
      have m2 := (hq.frozen (p := ⟨w.heap.size, 2, none⟩) (by simp; omega)).trans s2
      have at' : ∀ o, (wr.alloc o).cell? ⟨w.heap.size + 1, 0, none⟩ = some (.pointer (some ⟨bf, 0, none⟩)) := fun o => (World.cell?_alloc_lt _ _ _ (cell_lt ft)).trans ft
      have a0 : ∀ o, (wr.alloc o).cell? ⟨bf, 0, none⟩ = some (.int .i64 k) := fun o => (World.cell?_alloc_lt _ _ _ (cell_lt f0)).trans f0
      have a1 : ∀ o, (wr.alloc o).cell? ⟨bf, 1, none⟩ = some (.int .i64 a) := fun o => (World.cell?_alloc_lt _ _ _ (cell_lt f1)).trans f1
      go_wp2_with fail
      go_region
      go_wp2_with fail
      have Q : ∀ x y, Below wr.heap.size wr (((wr.alloc x).alloc y).drew) := fun x y => (below_trans (below_alloc _ _) (below_alloc _ _)).drew
      have het : EtIs wr := (he.keep qb).keep hq
      refine (as_io bf k _ _ ?_ ?_ ?_).mono ?_
      · exact het.keep (Q _ _)
      · exact ((Q _ _).cell (p := ⟨bf, 0, none⟩) (cell_lt f0)).trans f0
      · exact ((Q _ _).cell (p := ⟨bf, 2, none⟩) (cell_lt f2)).trans f2
      rintro e w2 ⟨rfl, q2⟩
      have o0 : w2.cell? ⟨wr.heap.size, 0, none⟩ = some (.int .i64 k) := (q2.cell (p := ⟨wr.heap.size, 0, none⟩) (by simp; omega)).trans (by simp)
      have o1 : w2.cell? ⟨wr.heap.size, 1, none⟩ = some (.int .i64 a) := (q2.cell (p := ⟨wr.heap.size, 1, none⟩) (by simp; omega)).trans (by simp)
      have o2 : w2.cell? ⟨wr.heap.size, 2, none⟩ = some (.int .i64 0) := (q2.cell (p := ⟨wr.heap.size, 2, none⟩) (by simp; omega)).trans (by simp)
      have q3 := below_trans (Q _ _) q2
      have p0 := (q3.cell (p := ⟨w.heap.size, 0, none⟩) (cell_lt n0)).trans n0
      have p1 := (q3.cell (p := ⟨w.heap.size, 1, none⟩) (cell_lt n1)).trans n1
      have p2 := (q3.cell (p := ⟨w.heap.size, 2, none⟩) (cell_lt n2)).trans n2
      have t0 := (q3.frozen (p := ⟨w.heap.size, 0, none⟩) (cell_lt n0)).trans m0
      have t1 := (q3.frozen (p := ⟨w.heap.size, 1, none⟩) (cell_lt n1)).trans m1
      have t2 := (q3.frozen (p := ⟨w.heap.size, 2, none⟩) (cell_lt n2)).trans m2
      have q4 : Below w.heap.size w w2 := (qb.trans (hq.mono (by omega))).trans (q3.mono (by have := hq.size; omega))
      go_wp2
      exact bodyPost_ret (v := .agg #[.int .i64 k, .int .i64 a, .int .i64 0]) (by simp [results, Tryz.results34, go_sem, p0, p1, p2]) rfl ⟨rfl, ((q4.setCell (by simp) _).setCell (by simp) _).setCell (by simp) _⟩

theorem partsOf (x : Value) (k a : Int) (w : World) (he : EtIs w) (h : ErrIs w x k a) :
    Calls Tryz.prog 34 #[x] w fun e w' => e = .returned (.agg #[.int .i64 k, .int .i64 a, .int .i64 0]) ∧ Below w.heap.size w w' := by
  rcases h with ⟨rfl, rfl, rfl⟩ | ⟨h1, h2, b, rfl, c0, c1, c2⟩
  · exact parts_nil w
  · exact parts_fault b k a w he h1 h2 c0 c1 c2
end Go.Proofs.YtindifjhocgkbaaGreatDoor
