import Derived.Test.YtindifjhocgkbaaDoorPDec
import Derived.Test.YtindifjhocgkbaaDoorKit
namespace Go.Proofs.YtindifjhocgkbaaDoor
open Go.RowKit

/-- '[]byte(s)'. -/
theorem bytes_of (s : ByteArray) (W : World) (hs : s.size ≤ maxLen) : ∃ cp W1, (convert 9 34 (.string s)).run Tryd.prog W = .ok (.slice (some ⟨W.heap.size, 0, none⟩) s.size cp) W1 ∧ s.size ≤ cp ∧ cp ≤ 9223372036854775807 ∧ BytesAt W1 W.heap.size s ∧ (∀ i, i < s.size → W1.frozen? ⟨W.heap.size, i, none⟩ = false) ∧ Below W.heap.size W W1 ∧ W1.heap.size = W.heap.size + 1 := by
  have hz : s.data.size = s.size := rfl
  have hge := grownCap_ge W s.size 0 5
  have hcell : (W.drew.alloc (.cells (bytesRow s (grownCap W s.size 0 5)) 5 ((bytesRow s (grownCap W s.size 0 5)).size, (bytesRow s (grownCap W s.size 0 5)).size + 1))).heap[W.heap.size]? = some (.cells (bytesRow s (grownCap W s.size 0 5)) 5 ((bytesRow s (grownCap W s.size 0 5)).size, (bytesRow s (grownCap W s.size 0 5)).size + 1)) := heap_alloc_new W.drew _
  have hsz : (bytesRow s (grownCap W s.size 0 5)).size = grownCap W s.size 0 5 := by simp [bytesRow]; omega
  refine ⟨_, _, run_bytes_of_string W _ _ _ s Tryd.underlying9 Tryd.underlying34 Tryd.underlying5, hge, ?_, fun i hi => ?_, fun i hi => ?_, ?_, by simp⟩
  · have h := grownCap_le_maxLen W s.size 0 5 hs; unfold maxLen at h; omega
  · simp only [World.cell?, hcell]
    have hi' : i < s.data.size := by omega
    have hx : (bytesRow s (grownCap W s.size 0 5))[i]? = some (.int .u8 (bt s i)) := by
      rw [← bt_eq hi]
      unfold bytesRow
      rw [Array.getElem?_append_left (by simpa using hi'), Array.getElem?_map, Array.getElem?_eq_getElem hi']
      rfl
    simpa using hx
  · simp only [World.frozen?, hcell]
    simp; omega
  · exact (below_drew W).trans ((below_alloc W.drew _))

/-- What plain's Decode answers. -/
def PDecIs (w0 w : World) (s : ByteArray) (ev : Ending) : Prop :=
  (∃ k a, dec s = .error (k, a) ∧ 1 ≤ k ∧ ev = .returned (.tuple #[.agg #[.int .u64 0, .slice none 0 0], .agg #[.int .i64 k, .int .i64 a, .int .i64 0]])) ∨
  (∃ v l ao cp, dec s = .ok (v, l) ∧ ev = .returned (.tuple #[.agg #[.int .u64 v, .slice ao l.length cp], .agg #[.int .i64 0, .int .i64 0, .int .i64 0]]) ∧ w.ownsRow w0.heap.size 47 4 (.slice ao l.length cp) l.length (opsC l))

set_option maxRecDepth 10000 in
set_option maxHeartbeats 2000000 in
theorem pDecode (s : ByteArray) (w : World) (g : Glob w) (he : EtIs w) (hs : s.size ≤ maxLen) :
    Calls Tryd.prog 15 #[.string s] w fun ev w' => PDecIs w w' s ev ∧ Below w.heap.size w w' := by
  have qa := below_trans (below_alloc w (.cells #[.int .u64 0, .slice none 0 0] 25)) (below_alloc _ (.cells #[.int .i64 0, .int .i64 0, .int .i64 0] 39))
  obtain ⟨cp, W1, hrun, hc1, hc2, hb1, hf1, q1, hs1⟩ := bytes_of s ((w.alloc (.cells #[.int .u64 0, .slice none 0 0] 25)).alloc (.cells #[.int .i64 0, .int .i64 0, .int .i64 0] 39)) hs
  simp only [World.size_alloc] at hrun hb1 hf1 hs1
  have qw1 := below_trans qa q1
  have r0 : W1.cell? ⟨w.heap.size, 0, none⟩ = some (.int .u64 0) := (q1.cell (p := ⟨w.heap.size, 0, none⟩) (by simp <;> omega)).trans (by simp)
  have r1 : W1.cell? ⟨w.heap.size, 1, none⟩ = some (.slice none 0 0) := (q1.cell (p := ⟨w.heap.size, 1, none⟩) (by simp <;> omega)).trans (by simp)
  have p0 : W1.cell? ⟨w.heap.size + 1, 0, none⟩ = some (.int .i64 0) := (q1.cell (p := ⟨w.heap.size + 1, 0, none⟩) (by simp <;> omega)).trans (by simp)
  have p1 : W1.cell? ⟨w.heap.size + 1, 1, none⟩ = some (.int .i64 0) := (q1.cell (p := ⟨w.heap.size + 1, 1, none⟩) (by simp <;> omega)).trans (by simp)
  have p2 : W1.cell? ⟨w.heap.size + 1, 2, none⟩ = some (.int .i64 0) := (q1.cell (p := ⟨w.heap.size + 1, 2, none⟩) (by simp <;> omega)).trans (by simp)
  have rf0 : W1.frozen? ⟨w.heap.size, 0, none⟩ = false := (q1.frozen (p := ⟨w.heap.size, 0, none⟩) (by simp <;> omega)).trans (by simp)
  have rf1 : W1.frozen? ⟨w.heap.size, 1, none⟩ = false := (q1.frozen (p := ⟨w.heap.size, 1, none⟩) (by simp <;> omega)).trans (by simp)
  have pf0 : W1.frozen? ⟨w.heap.size + 1, 0, none⟩ = false := (q1.frozen (p := ⟨w.heap.size + 1, 0, none⟩) (by simp <;> omega)).trans (by simp)
  have pf1 : W1.frozen? ⟨w.heap.size + 1, 1, none⟩ = false := (q1.frozen (p := ⟨w.heap.size + 1, 1, none⟩) (by simp <;> omega)).trans (by simp)
  have pf2 : W1.frozen? ⟨w.heap.size + 1, 2, none⟩ = false := (q1.frozen (p := ⟨w.heap.size + 1, 2, none⟩) (by simp <;> omega)).trans (by simp)
  unfold maxLen at hs
  go_enter Tryd.func15, Tryd.ntmps15
  go_wp2_with fail
  clear hrun
  refine (oDecode s (w.heap.size + 1 + 1) cp W1 (g.keep qw1) (by omega) hb1 hc1 (by omega)).mono ?_
  rintro ev w2 ⟨hd, q2⟩
  have core : ∃ x vv ao n cpp k a, ev = .returned (.tuple #[.agg #[.int .u64 vv, .slice ao n cpp], x]) ∧ ErrIs w2 x k a ∧ ((dec s = .error (k, a) ∧ 1 ≤ k ∧ vv = 0 ∧ ao = none ∧ n = 0 ∧ cpp = 0) ∨ (∃ l, dec s = .ok (vv, l) ∧ n = l.length ∧ k = 0 ∧ a = 0 ∧ w2.ownsRow W1.heap.size 47 4 (.slice ao l.length cpp) l.length (opsC l))) := by
    rcases hd with ⟨k, a, fb, h1, h2, h3⟩ | ⟨v, l, ao, cpp, h1, h2, h3⟩
    · refine ⟨_, 0, none, 0, 0, k, a, h2, h3, .inl ⟨h1, ?_, rfl, rfl, rfl, rfl⟩⟩
      rcases h3 with ⟨_, _, e⟩ | ⟨h, _⟩
      · cases e
      · exact h
    · exact ⟨_, v, ao, _, cpp, 0, 0, h2, .inl ⟨rfl, rfl, rfl⟩, .inr ⟨l, h1, rfl, rfl, rfl, h3⟩⟩
  clear hd
  obtain ⟨x, vv, ao, n, cpp, k, a, rfl, hx, hres⟩ := core
  go_wp2_with fail
  refine (partsOf x k a _ (((he.keep qw1).keep q2).keep (below_alloc _ _)) (hx.keep (below_alloc _ _))).mono ?_
  rintro ev w3 ⟨rfl, q3⟩
  have q13 : Below W1.heap.size W1 w3 := below_trans (below_trans q2 (below_alloc _ _)) q3
  obtain ⟨W4, hW4⟩ : ∃ W4, W4 = w3.alloc (.cells #[.int .i64 k, .int .i64 a, .int .i64 0] 39) := ⟨_, rfl⟩
  have q14 : Below W1.heap.size W1 W4 := by rw [hW4]; exact below_trans q13 (below_alloc _ _)
  have hb4 := hb1.keep q14
  have hcv := str_whole s (w.heap.size + 1 + 1) cp W4 hb4
  rw [hW4] at hcv
  have dc0 : w3.cell? ⟨w2.heap.size, 0, none⟩ = some (.int .u64 vv) := (q3.cell (p := ⟨w2.heap.size, 0, none⟩) (by simp)).trans (by simp)
  have dc1 : w3.cell? ⟨w2.heap.size, 1, none⟩ = some (.slice ao n cpp) := (q3.cell (p := ⟨w2.heap.size, 1, none⟩) (by simp)).trans (by simp)
  have hs23 : w2.heap.size < w3.heap.size := cell_lt dc0
  have hs12 : W1.heap.size ≤ w2.heap.size := q2.size
  have e0 : W4.cell? ⟨w2.heap.size, 0, none⟩ = some (.int .u64 vv) := by rw [hW4]; exact (World.cell?_alloc_lt _ _ _ (cell_lt dc0)).trans dc0
  have e1 : W4.cell? ⟨w2.heap.size, 1, none⟩ = some (.slice ao n cpp) := by rw [hW4]; exact (World.cell?_alloc_lt _ _ _ (cell_lt dc1)).trans dc1
  have fc : W4.cell? ⟨w3.heap.size, 0, none⟩ = some (.int .i64 k) ∧ W4.cell? ⟨w3.heap.size, 1, none⟩ = some (.int .i64 a) ∧ W4.cell? ⟨w3.heap.size, 2, none⟩ = some (.int .i64 0) := by rw [hW4]; simp
  obtain ⟨fc0, fc1, fc2⟩ := fc
  have rr0 := (q14.cell (p := ⟨w.heap.size, 0, none⟩) (cell_lt r0)).trans r0
  have rr1 := (q14.cell (p := ⟨w.heap.size, 1, none⟩) (cell_lt r1)).trans r1
  have pp0 := (q14.cell (p := ⟨w.heap.size + 1, 0, none⟩) (cell_lt p0)).trans p0
  have pp1 := (q14.cell (p := ⟨w.heap.size + 1, 1, none⟩) (cell_lt p1)).trans p1
  have pp2 := (q14.cell (p := ⟨w.heap.size + 1, 2, none⟩) (cell_lt p2)).trans p2
  have sf0 := (q14.frozen (p := ⟨w.heap.size, 0, none⟩) (cell_lt r0)).trans rf0
  have sf1 := (q14.frozen (p := ⟨w.heap.size, 1, none⟩) (cell_lt r1)).trans rf1
  have tf0 := (q14.frozen (p := ⟨w.heap.size + 1, 0, none⟩) (cell_lt p0)).trans pf0
  have tf1 := (q14.frozen (p := ⟨w.heap.size + 1, 1, none⟩) (cell_lt p1)).trans pf1
  have tf2 := (q14.frozen (p := ⟨w.heap.size + 1, 2, none⟩) (cell_lt p2)).trans pf2
  have hf4 : ∀ i, i < s.size → W4.frozen? ⟨w.heap.size + 1 + 1, i, none⟩ = false := fun i hi => (q14.frozen (p := ⟨w.heap.size + 1 + 1, i, none⟩) (cell_lt (hb1 i hi))).trans (hf1 i hi)
  have HRES : Hid ((dec s = .error (k, a) ∧ 1 ≤ k ∧ vv = 0 ∧ ao = none ∧ n = 0 ∧ cpp = 0) ∨ (∃ l, dec s = .ok (vv, l) ∧ n = l.length ∧ k = 0 ∧ a = 0 ∧ W4.ownsRow W1.heap.size 47 4 (.slice ao l.length cpp) l.length (opsC l))) := by
    rcases hres with h | ⟨l, h1, h2, h3, h4, h5⟩
    · exact .inl h
    · refine .inr ⟨l, h1, h2, h3, h4, ?_⟩
      have q24 : Below w2.heap.size w2 W4 := by rw [hW4]; exact below_trans (below_trans (below_alloc _ _) q3) (below_alloc _ _)
      exact h5.kept (grown_of_below (r := none) q24) (by cases (Value.slice ao l.length cpp).ownBlock <;> simp)
  have qw4 : Below w.heap.size w W4 := qw1.trans (q14.mono (by omega))
  have HW4 : Hid (W4 = w3.alloc (.cells #[.int .i64 k, .int .i64 a, .int .i64 0] 39)) := hW4
  clear hres hW4 r0 r1 p0 p1 p2 rf0 rf1 pf0 pf1 pf2 dc0 dc1 q13 hx
  go_wp2_with fail
  rw [← HW4.out]
  clear hcv
  go_loopw [8, 25] (fun _ i wr => ∃ j : Nat, j ≤ s.size ∧ i = .int .i64 j ∧ W4.grownBy wr (some (w.heap.size + 1 + 1)) ∧ (∀ t, t < s.size → (∃ v, wr.cell? ⟨w.heap.size + 1 + 1, t, none⟩ = some v) ∧ wr.frozen? ⟨w.heap.size + 1 + 1, t, none⟩ = false))
    (fun _ i _ => s.size - (intOf i).toNat)
  case atStart => exact ⟨0, Nat.zero_le _, rfl, grown_refl _ _, fun t ht => ⟨⟨_, hb4 t ht⟩, hf4 t ht⟩⟩
  case round =>
    obtain ⟨j, hj, rfl, hgr, hall⟩ := hrel
    by_cases hlt : j < s.size
    · obtain ⟨⟨v0, c0⟩, f0⟩ := hall j hlt
      have HALL : Hid (∀ t, t < s.size → (∃ v, wr.cell? ⟨w.heap.size + 1 + 1, t, none⟩ = some v) ∧ wr.frozen? ⟨w.heap.size + 1 + 1, t, none⟩ = false) := hall
      clear hall
      have ij : (j : Int) < (s.size : Int) := by omega
      go_wp2
      go_roundw
      case rel => exact ⟨j + 1, by omega, by go_num, grown_set' hgr rfl, fun t ht => ⟨cell?_setCell_some ((HALL.out t ht).1.choose_spec), by simpa using (HALL.out t ht).2⟩⟩
      case measure => simp [intOf]; omega
    · obtain rfl : j = s.size := by omega
      have nb : ∀ b, b ≠ w.heap.size + 1 + 1 → some b ≠ some (w.heap.size + 1 + 1) := fun b h => by simpa using h
      have a0 := hgr.cell e0 (nb _ (by simp; omega))
      have a1 := hgr.cell e1 (nb _ (by simp; omega))
      have b0 := hgr.cell fc0 (nb _ (by simp; omega))
      have b1 := hgr.cell fc1 (nb _ (by simp; omega))
      have b2 := hgr.cell fc2 (nb _ (by simp; omega))
      have y0 := hgr.cell rr0 (nb _ (by simp <;> omega))
      have y1 := hgr.cell rr1 (nb _ (by simp <;> omega))
      have z0 := hgr.cell pp0 (nb _ (by simp <;> omega))
      have z1 := hgr.cell pp1 (nb _ (by simp <;> omega))
      have z2 := hgr.cell pp2 (nb _ (by simp <;> omega))
      have u0 := (World.frozen?_of_block (hgr.block _ (cell_lt rr0) (nb _ (by simp <;> omega)))).trans sf0
      have u1 := (World.frozen?_of_block (hgr.block _ (cell_lt rr1) (nb _ (by simp <;> omega)))).trans sf1
      have v0 := (World.frozen?_of_block (hgr.block _ (cell_lt pp0) (nb _ (by simp <;> omega)))).trans tf0
      have v1 := (World.frozen?_of_block (hgr.block _ (cell_lt pp1) (nb _ (by simp <;> omega)))).trans tf1
      have v2 := (World.frozen?_of_block (hgr.block _ (cell_lt pp2) (nb _ (by simp <;> omega)))).trans tf2
      have qwr : Below w.heap.size w wr := qw4.grown hgr qw4.size (fun k hk => by simp at hk; omega)
      clear hall hf4 e0 e1 fc0 fc1 fc2 rr0 rr1 pp0 pp1 pp2 sf0 sf1 tf0 tf1 tf2
      go_wp2_with fail
      go_region
      go_wp2
      refine bodyPost_ret (v := .tuple #[.agg #[.int .u64 vv, .slice ao n cpp], .agg #[.int .i64 k, .int .i64 a, .int .i64 0]]) (by simp [results, Tryd.results15, go_sem, y0, y1, z0, z1, z2]) rfl ⟨?_, (((((qwr.setCell (by simp) _).setCell (by simp) _).setCell (by simp) _).setCell (by simp) _).setCell (by simp) _).drew⟩
      rcases HRES.out with ⟨h1, h2, rfl, rfl, rfl, rfl⟩ | ⟨l, h1, rfl, rfl, rfl, h5⟩
      · exact .inl ⟨k, a, h1, h2, rfl⟩
      · refine .inr ⟨vv, l, ao, cpp, h1, rfl, ?_⟩
        have k5 := h5.kept hgr (by
          cases hb : (Value.slice ao l.length cpp).ownBlock with
          | none => exact .inl rfl
          | some k => exact .inr (fun e => by have h6 := (h5.lt k hb).1; simp at e; omega))
        exact own_mono (ownsRow_setCell_below (ownsRow_setCell_below (ownsRow_setCell_below (ownsRow_setCell_below (ownsRow_setCell_below k5 (by simp <;> omega) _) (by simp <;> omega) _) (by simp <;> omega) _) (by simp <;> omega) _) (by simp <;> omega) _).drew (by omega)
end Go.Proofs.YtindifjhocgkbaaDoor
