import Derived.Test.YtindifjhocgkbaaGreatDoorIns
import Derived.Lib.AppendZerosOnto
import Derived.Laws.NewBlocks
namespace Go.Proofs.YtindifjhocgkbaaGreatDoor
open Go.RowKit

theorem append_types {P : Program} (w : World) (t t2 ty e e2 : TypeId) (b : Option Addr) (n c : Nat) (x : Value) (h1 : P.underlying t = some (.slice e)) (h2 : P.underlying t2 = some (.slice e2)) :
    (Builtin.append_ #[t, t2] ty #[.slice b n c, x]).run P w = (Builtin.append_ #[t, t] ty #[.slice b n c, x]).run P w := by
  simp only [Builtin.append_, List.getElem?_toArray, List.getElem?_cons_zero, List.getElem?_cons_succ, Sem.run_bind, run_underlying h1, run_underlying h2, Result.andThen_ok]

set_option maxRecDepth 100000 in
set_option maxHeartbeats 2000000 in
theorem lInsert_end (base : Nat) (v : Value) (l : List En) (n vb : Nat) (e : En) (w : World) (h : w.ownsRow base 183 3 v l.length (cellsE l)) (hl : l.length = n) (hn : n ≤ 1000000) (hbase : base ≤ w.heap.size)
    (hv : w.heap[vb]? = some (.cells #[.int .i64 e.t, .string e.k, .string e.v] 183 (0, 0))) :
    Calls Tryz.prog 120 #[v, .int .i64 n, .slice (some ⟨vb, 0, none⟩) 1 1] w fun r w' => ∃ v', r = .returned v' ∧ w'.ownsRow base 183 3 v' ((n + 1 : Nat)) (cellsE (l ++ [e])) ∧ w.grownBy w' v.ownBlock := by
  obtain ⟨i0, hi0, hz0, hz1, hz2⟩ := info_parts Tryz.infoEn
  rw [hl] at h
  have hrun : ∀ ty, ∃ v' w', (Builtin.append_ #[112, 111] ty #[v, .slice (some ⟨vb, 0, none⟩) 1 1]).run Tryz.prog w = .ok v' w' ∧ w'.ownsRow base 183 3 v' ((n + 1 : Nat)) (cellsE l ++ e3 e) ∧ w.grownBy w' v.ownBlock ∧ (v' = .slice none 0 0 ↔ v = .slice none 0 0 ∧ 1 = 0) := fun ty => by
    have hvs : ∃ b c, v = .slice b n c := by rcases h.2 with ⟨rfl, hn0⟩ | ⟨g, cap, cur, rfl, _⟩ <;> exact ⟨_, _, by first | rfl | rw [hn0]⟩
    obtain ⟨vb', vc', rfl⟩ := hvs
    rw [append_types w _ _ ty 183 183 _ _ _ _ Tryz.underlying112 Tryz.underlying111]
    exact run_append_own (P := Tryz.prog) w base 112 ty 183 i0 (.agg #[.int .i64 0, .string ⟨#[]⟩, .string ⟨#[]⟩]) 3 40 Tryz.underlying112 hi0 hz0 hz1 hz2 rfl (by decide) _ n (cellsE l) h ⟨vb, 0, none⟩ 1 1 (e3 e) rfl (fun j u hu => by
      rw [Addr.add_lit, cell_of_row w vb _ _ _ _ hv]
      simpa [e3] using hu) (by intro v hv; simp [e3] at hv; rcases hv with rfl | rfl | rfl <;> rfl) (by unfold maxLen; omega) (by omega) hbase
  obtain ⟨v', w', hr, hown, hgr, -⟩ := hrun 112
  have hfin : w'.ownsRow base 183 3 v' ((n + 1 : Nat)) (cellsE (l ++ [e])) := by rw [cellsE_append]; exact hown
  clear hrun hown
  rcases h.2 with ⟨rfl, hn0⟩ | ⟨g, cap, cur, rfl, hb, hg, hnc, hcm, hcs, htk⟩
  · subst hn0
    go_enter Tryz.func120, Tryz.ntmps120
    go_wp2_with (at_builtin; refine Lib.wpList_append_run _ rfl _ _ _ _ rfl _ _ rfl rfl _ _ hr ?_)
    go_ret
    exact ⟨_, rfl, hfin, hgr⟩
  · have hii : ((n : Nat) : Int) ≤ (cap : Int) := by omega
    go_enter Tryz.func120, Tryz.ntmps120
    go_wp2_with (at_builtin; refine Lib.wpList_append_run _ rfl _ _ _ _ rfl _ _ rfl rfl _ _ hr ?_)
    all_goals (go_ret; exact ⟨_, rfl, hfin, hgr⟩)
end Go.Proofs.YtindifjhocgkbaaGreatDoor
namespace Go.Proofs.YtindifjhocgkbaaGreatDoor
open Go.RowKit

abbrev zE : Value := .agg #[.int .i64 0, .string ⟨#[]⟩, .string ⟨#[]⟩]
theorem zE_cells : zE.cells.size = 3 := by kernel_rfl
set_option maxRecDepth 100000 in
set_option maxHeartbeats 2000000 in
theorem lInsert_grow (base g cap : Nat) (cur : Array Value) (l : List En) (n i vb : Nat) (e : En) (w : World) (h : RowE w base g cap cur l) (hl : l.length = n) (hi : i < n) (hn : n ≤ 1000000) (hroom : cap < n + 1)
    (hv : w.heap[vb]? = some (.cells #[.int .i64 e.t, .string e.k, .string e.v] 183 (0, 0))) :
    Calls Tryz.prog 120 #[.slice (some ⟨g, 0, none⟩) n cap, .int .i64 i, .slice (some ⟨vb, 0, none⟩) 1 1] w fun r w' => ∃ v', r = .returned v' ∧ w'.ownsRow w.heap.size 183 3 v' ((n + 1 : Nat)) (cellsE (l.take i ++ e :: l.drop i)) ∧ Below w.heap.size w w' := by
  obtain ⟨i0, hi0, hz0, hz1, hz2⟩ := info_parts Tryz.infoEn
  have hgl : g < w.heap.size := (Array.getElem?_eq_some_iff.1 h.hg).1
  have hvl : vb < w.heap.size := (Array.getElem?_eq_some_iff.1 hv).1
  have hnc := h.hnc
  rw [hl] at hnc
  have hkk : (n : Int) + 1 - (i : Int) = ((n + 1 - i : Nat) : Int) := by omega
  have hik : i + (n + 1 - i) = n + 1 := by omega
  have hti : (cellsE (l.take i)).length = i * 3 := by rw [cellsE_length, List.length_take]; omega
  have hold : (Builtin.firstCells i0.size i (.slice (some ⟨g, 0, none⟩) i cap)).run Tryz.prog w.drew = .ok (cellsE (l.take i)).toArray w.drew := by
    rw [hz1]
    exact run_firstCells_some w.drew 3 i ⟨g, 0, none⟩ i cap (cellsE (l.take i)) hti (fun j v hj => by
      rw [Addr.add_lit, Nat.zero_add]
      refine h.cell ?_
      rw [← cellsE_take, List.getElem?_take] at hj
      split at hj
      · exact hj
      · cases hj)
  obtain ⟨G, hG⟩ : ∃ G, G = grownCap w (n + 1) cap 183 := ⟨_, rfl⟩
  obtain ⟨ROW, hROW⟩ : ∃ ROW : Array Value, ROW = (cellsE (l.take i)).toArray ++ Builtin.zeroCells zE.cells (n + 1 - i) ++ Builtin.zeroCells zE.cells (G - (n + 1)) := ⟨_, rfl⟩
  have hGn : n + 1 ≤ G := by rw [hG]; exact grownCap_ge w _ _ _
  have hGm : G ≤ maxLen := by rw [hG]; exact grownCap_le_maxLen w (n + 1) cap _ (by unfold maxLen; omega)
  have hrz : ∀ ty, (Builtin.append_ #[112, 3] ty #[.slice (some ⟨g, 0, none⟩) i cap, .int .i64 ((n : Int) + 1 - (i : Int))]).run Tryz.prog w = .ok (.slice (some ⟨w.heap.size, 0, none⟩) ((n + 1 : Nat)) G) (w.drew.alloc (.cells ROW 183)) := fun ty => by
    have hh := Lib.run_append_grow_zeros w 112 3 ty 183 i0 _ .i64 .i64 Tryz.underlying112 Tryz.underlying3 hi0 hz0 (some ⟨g, 0, none⟩) i cap (cellsE (l.take i)) hold (n + 1 - i) (by omega) (by omega) (by omega) (by omega) (by rw [hz2]; omega) (by rw [hz2, hik]; exact growslice_fits hroom (by omega))
    rw [hik, ← hG, ← hROW] at hh
    rw [hkk]
    exact hh
  have hRs : ROW.size = G * 3 := by
    rw [hROW, Array.size_append, Array.size_append, size_zeroCells, size_zeroCells, zE_cells, List.size_toArray, hti]; omega
  have hsz : (Tryz.prog.info? 183).map (·.size) = some 3 := by rw [hi0]; simp [hz1]
  have hmin2 : Nat.min 1 (n + 1 - i) = 1 := Nat.min_eq_left (by omega)
  have hmin : Nat.min (n - i) (n - i) = n - i := Nat.min_self _
  have hld : (cellsE (l.drop i)).length = (n - i) * 3 := by rw [cellsE_length, List.length_drop, hl]
  obtain ⟨W1, hW1⟩ : ∃ W1, W1 = w.drew.alloc (.cells ROW 183) := ⟨_, rfl⟩
  rw [← hW1] at hrz
  have hR1 : W1.heap[w.heap.size]? = some (.cells ROW 183 (0, 0)) := by rw [hW1]; exact heap_alloc_new w.drew _
  have hq1 : Below w.heap.size w W1 := by rw [hW1]; exact below_trans (below_drew _) (below_alloc _ _)
  obtain ⟨C1, hC1⟩ : ∃ C1 : Array Value, C1 = (ROW.toList.take (i * 3) ++ e3 e ++ ROW.toList.drop (i * 3 + 3)).toArray := ⟨_, rfl⟩
  have hC1s : C1.size = G * 3 := by
    rw [hC1, List.size_toArray]; simp only [List.length_append, List.length_take, List.length_drop, Array.length_toList, e3, List.length_cons, List.length_nil, hRs]; omega
  have hcpA : ∀ (W : World), W.heap[w.heap.size]? = some (.cells ROW 183 (0, 0)) → W.heap[vb]? = some (.cells #[.int .i64 e.t, .string e.k, .string e.v] 183 (0, 0)) → ∀ ty dc, (Builtin.copy_ #[112, 111] ty #[.slice (some ⟨w.heap.size, i * 3, none⟩) (n + 1 - i) dc, .slice (some ⟨vb, 0, none⟩) 1 1]).run Tryz.prog W = .ok (goInt (1 : Nat)) (W.setRow w.heap.size C1) := fun W hW hWv ty dc => by
    have hh := run_copy_rowK (P := Tryz.prog) W 112 111 ty 183 3 w.heap.size (i * 3) (n + 1 - i) dc ⟨vb, 0, none⟩ 1 1 ROW 183 (e3 e) Tryz.underlying112 hsz hW (by rw [hmin2]; rfl) (fun j u hu => by
      rw [Addr.add_lit, cell_of_row W vb _ _ _ _ hWv]
      simpa [e3] using hu) (by rw [hRs]; show i * 3 + 3 ≤ _; omega) (by intro v hv; simp [e3] at hv; rcases hv with rfl | rfl | rfl <;> rfl)
    rw [hmin2] at hh
    rw [hC1]; exact hh
  obtain ⟨C2, hC2⟩ : ∃ C2 : Array Value, C2 = (C1.toList.take ((i + 1) * 3) ++ cellsE (l.drop i) ++ C1.toList.drop ((i + 1) * 3 + (n - i) * 3)).toArray := ⟨_, rfl⟩
  have hcpB : ∀ (W : World), W.heap[w.heap.size]? = some (.cells C1 183 (0, 0)) → W.heap[g]? = some (.cells cur 183 (0, 0)) → ∀ ty dc sc, (Builtin.copy_ #[112, 112] ty #[.slice (some ⟨w.heap.size, (i + 1) * 3, none⟩) (n - i) dc, .slice (some ⟨g, i * 3, none⟩) (n - i) sc]).run Tryz.prog W = .ok (goInt (n - i : Nat)) (W.setRow w.heap.size C2) := fun W hW hWg ty dc sc => by
    have hr : RowE W base g cap cur l := ⟨hWg, h.hb, h.hnc, h.hcm, h.hcs, h.htk⟩
    have hh := run_copy_rowK (P := Tryz.prog) W 112 112 ty 183 3 w.heap.size ((i + 1) * 3) (n - i) dc ⟨g, i * 3, none⟩ (n - i) sc C1 183 (cellsE (l.drop i)) Tryz.underlying112 hsz hW (by rw [hmin, hld]) (fun j u hu => by
      rw [Addr.add_lit]
      refine hr.cell ?_
      rw [← cellsE_drop, List.getElem?_drop] at hu
      exact hu) (by rw [hld, hC1s]; omega) (cellsE_one _)
    rw [hmin, hld, ← hC2] at hh
    exact hh
  have hgW1 : W1.heap[g]? = some (.cells cur 183 (0, 0)) := (hq1.block g hgl).trans h.hg
  have hvW1 : W1.heap[vb]? = some (.cells #[.int .i64 e.t, .string e.k, .string e.v] 183 (0, 0)) := (hq1.block vb hvl).trans hv
  have hfin : ∀ W : World, W.heap[w.heap.size]? = some (.cells C1 183 (0, 0)) → (W.setRow w.heap.size C2).ownsRow w.heap.size 183 3 (.slice (some ⟨w.heap.size, 0, none⟩) ((n + 1 : Nat)) G) ((n + 1 : Nat)) (cellsE (l.take i ++ e :: l.drop i)) := fun W hW => by
    refine owns_setRow hW (Nat.le_refl _) hGn hGm ?_ ?_
    · rw [hC2, List.size_toArray]; simp only [List.length_append, List.length_take, List.length_drop, Array.length_toList, hld, hC1s]; omega
    · have a1 : ROW.toList.take (i * 3) = cellsE (l.take i) := by
        rw [hROW]; simp only [Array.toList_append, List.append_assoc]
        exact List.take_left' hti
      have a2 : C1.toList.take ((i + 1) * 3) = cellsE (l.take i) ++ e3 e := by
        rw [hC1, List.toList_toArray, a1]
        exact List.take_left' (by rw [List.length_append, hti]; simp [e3]; omega)
      rw [hC2, List.toList_toArray, a2, List.take_left' (by rw [List.length_append, List.length_append, hld, hti]; simp [e3]; omega), cellsE_append]
      simp [cellsE, e3]
  clear hkk hik hold hROW hG hRs hC1 hC2 hC1s hld hmin hmin2 hsz hti
  have hR2 : (W1.setRow w.heap.size C1).heap[w.heap.size]? = some (.cells C1 183 (0, 0)) := setRow_heap _ _ ROW _ _ _ hR1
  have hgW2 : (W1.setRow w.heap.size C1).heap[g]? = some (.cells cur 183 (0, 0)) := by rw [setRow_other _ _ _ _ (by omega)]; exact hgW1
  have hcpA' := hcpA W1 hR1 hvW1
  have hcpB' : ∀ ty dc sc, (Builtin.copy_ #[112, 112] ty #[.slice (some ⟨w.heap.size, (i + 1) * 3, none⟩) (n - i) dc, .slice (some ⟨g, i * 3, none⟩) (n - i) sc]).run Tryz.prog (W1.setRow w.heap.size C1).drew = .ok (goInt (n - i : Nat)) ((W1.setRow w.heap.size C1).drew.setRow w.heap.size C2) := hcpB (W1.setRow w.heap.size C1).drew hR2 hgW2
  have hfin' : ((W1.setRow w.heap.size C1).drew.setRow w.heap.size C2).ownsRow w.heap.size 183 3 (.slice (some ⟨w.heap.size, 0, none⟩) ((n + 1 : Nat)) G) ((n + 1 : Nat)) (cellsE (l.take i ++ e :: l.drop i)) := hfin _ hR2
  have hqf : Below w.heap.size w ((W1.setRow w.heap.size C1).drew.setRow w.heap.size C2) :=
    hq1.trans ⟨rfl, rfl, rfl, by simp [World.setRow], fun k hk => (setRow_other _ _ _ _ (by omega)).trans (setRow_other _ _ _ _ (by omega))⟩
  clear hcpA hcpB hfin hW1
  have hii : (i : Int) ≤ (n : Int) := by omega
  have hne : ¬ (i : Int) = (n : Int) := by omega
  have hcI : (cap : Int) < (n : Int) + 1 := by omega
  have hcap1 : ¬ cap = i := by omega
  have hG1 : ¬ G = i := by omega
  have hG2 : ¬ G = i + 1 := by omega
  have hin : i ≤ n := by omega
  have hic : i ≤ cap := by omega
  have hw1 : IntKind.i64.wrap ((i : Int) + 1) = (i : Int) + 1 := by rw [IntKind.wrap_i64]; omega
  have h0i : (0 : Int) ≤ (i : Int) + 1 := by omega
  have hi1n : (i : Int) + 1 ≤ (n : Int) + 1 := by omega
  have hin1 : (i : Int) ≤ (n : Int) + 1 := by omega
  have htn : ((i : Int) + 1).toNat = i + 1 := by omega
  have hG63 : G ≤ 9223372036854775807 := by unfold maxLen at hGm; omega
  have H : Hid (RowE w base g cap cur l) := h
  clear h
  go_enter Tryz.func120, Tryz.ntmps120
  go_wp2_with (first | (at_builtin; refine Lib.wpList_append_run _ rfl _ _ _ _ rfl _ _ rfl rfl _ _ (hrz _) ?_) | (at_builtin; refine wpList_copy_run3 _ rfl _ _ _ _ rfl _ _ rfl rfl (hcpA' _ _) ?_))
  refine region_tail 8 (by kernel_rfl) (by kernel_rfl) ?_
  simp only [List.take_succ_cons, List.take_zero, List.drop_succ_cons, List.drop_zero]
  still_step
  still_step
  still_step
  still_step
  still_step
  still_step
  still_step
  still_step
  refine wpStill_nil ?_
  go_wp2_with (at_builtin; refine wpList_copy_run3 _ rfl _ _ _ _ rfl _ _ rfl rfl (hcpB' _ _ _) ?_)
  go_ret
  exact ⟨_, rfl, hfin', hqf⟩

theorem owns_mono {w : World} {a b e size n : Nat} {v : Value} {xs : List Value} (h : w.ownsRow b e size v n xs) (hab : a ≤ b) : w.ownsRow a e size v n xs := by
  refine ⟨h.1, ?_⟩
  rcases h.2 with h0 | ⟨g, cap, cur, hv, hb, rest⟩
  · exact .inl h0
  · exact .inr ⟨g, cap, cur, hv, Nat.le_trans hab hb, rest⟩
theorem owns_row {w : World} {base : Nat} {v : Value} {l : List En} (h : w.ownsRow base 183 3 v l.length (cellsE l)) : (v = .slice none 0 0 ∧ l = []) ∨ ∃ g cap cur, v = .slice (some ⟨g, 0, none⟩) l.length cap ∧ RowE w base g cap cur l := by
  rcases h.2 with ⟨hv, hn⟩ | ⟨g, cap, cur, hv, hb, hg, hnc, hcm, hcs, htk⟩
  · exact .inl ⟨hv, List.length_eq_zero_iff.1 hn⟩
  · exact .inr ⟨g, cap, cur, hv, hg, hb, hnc, hcm, hcs, htk⟩

/-- slices.Insert of one entry. -/
theorem lInsert (base : Nat) (v : Value) (l : List En) (i vb : Nat) (e : En) (w : World) (h : w.ownsRow base 183 3 v l.length (cellsE l)) (hi : i ≤ l.length) (hn : l.length ≤ 1000000) (hbase : base ≤ w.heap.size) (hne : v.ownBlock ≠ some vb)
    (hv : w.heap[vb]? = some (.cells #[.int .i64 e.t, .string e.k, .string e.v] 183 (0, 0))) :
    Calls Tryz.prog 120 #[v, .int .i64 i, .slice (some ⟨vb, 0, none⟩) 1 1] w fun r w' => ∃ v', r = .returned v' ∧ w'.ownsRow base 183 3 v' (l.length + 1) (cellsE (l.take i ++ e :: l.drop i)) ∧ w.grownBy w' v.ownBlock := by
  rcases Nat.lt_or_ge i l.length with hlt | hge
  · rcases owns_row h with ⟨rfl, rfl⟩ | ⟨g, cap, cur, rfl, hr⟩
    · simp at hlt
    · rcases Nat.lt_or_ge cap (l.length + 1) with hc | hc
      · refine (lInsert_grow base g cap cur l _ i vb e w hr rfl hlt hn hc hv).mono ?_
        rintro r w' ⟨v', rfl, ho, hq⟩
        exact ⟨v', rfl, owns_mono ho hbase, ⟨hq.os, hq.tape, hq.output, hq.size, fun k hk _ => hq.block k hk⟩⟩
      · refine (lInsert_shift base g cap cur l _ i vb e w hr rfl hlt hn hc (fun e' => hne (by rw [e']; rfl)) hv).mono ?_
        rintro r w' ⟨rfl, ⟨cur', hr'⟩, hg⟩
        have ho := hr'.owns
        rw [show (l.take i ++ e :: l.drop i).length = l.length + 1 by simp; omega] at ho
        exact ⟨_, rfl, ho, hg⟩
  · obtain rfl : i = l.length := by omega
    refine (lInsert_end base v l _ vb e w h rfl hn hbase hv).mono ?_
    rintro r w' ⟨v', rfl, ho, hg⟩
    refine ⟨v', rfl, ?_, hg⟩
    rw [List.take_length, List.drop_length]; exact ho
end Go.Proofs.YtindifjhocgkbaaGreatDoor
