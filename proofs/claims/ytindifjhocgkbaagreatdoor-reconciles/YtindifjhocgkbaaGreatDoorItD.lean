import Derived.Test.YtindifjhocgkbaaGreatDoorRmGToItC
namespace Go.Proofs.YtindifjhocgkbaaGreatDoor
open Go.RowKit Go.Shelf

attribute [local go_sem] Oper.semAt_some

abbrev zP : Value := .agg #[.int .i64 0, .string ⟨#[]⟩, .string ⟨#[]⟩]
theorem Tryz.infoPl : (Tryz.prog.info? 62).map (fun i => (i.zero, i.size, i.bytes)) = some (some (.agg #[.int .i64 0, .string ⟨#[]⟩, .string ⟨#[]⟩]), 3, 40) := by kernel_rfl
theorem e3_one (x : En) : ∀ u ∈ e3 x, u.oneCell' = true := by intro v hv; simp [e3] at hv; rcases hv with rfl | rfl | rfl <;> rfl
theorem three_new (W : World) (x : En) : ∀ j u, (e3 x)[j]? = some u → (W.alloc (.cells #[.int .i64 x.t, .string x.k, .string x.v] 62)).cell? ((⟨W.heap.size, 0, none⟩ : Addr).add j) = some u := by
  intro j u hj
  rw [Addr.add_lit, Nat.zero_add, World.cell?_alloc_at _ _ _ j rfl]
  simpa [e3] using hj
theorem cells_snoc (pre : List En) (x : En) : cellsE (pre ++ [x]) = cellsE pre ++ e3 x := by rw [cellsE_append]; rfl
theorem boxed_ne_def {W : World} {B D : Nat} {t : TypeId} {v : Value} {x : Option (List Deferred)} (h : Boxed W B t v) (hd : W.heap[D]? = some (.deferred x)) : B ≠ D := by
  rintro rfl
  unfold Boxed at h
  rw [h] at hd; cases hd
/-- What the second time round knows: ok, what comes no more, how many have come, the list. -/
structure LsI (n₀ Bk Bo Bn Bl D : Nat) (es : List En) (no : Bool) (k : Nat) (w W : World) : Prop where
  df : W.heap[D]? = some (.deferred (some []))
  ok : Boxed W Bk 4 (.bool true)
  no : Boxed W Bo 4 (.bool no)
  num : Boxed W Bn 3 (.int .i64 (k : Int))
  row : ∃ y, Boxed W Bl 44 y ∧ W.ownsRow n₀ 62 3 y es.length (cellsE es)
  q : Below n₀ w W
theorem LsI.keep {n₀ Bk Bo Bn Bl D : Nat} {es : List En} {no : Bool} {k : Nat} {w W W' : World} (h : LsI n₀ Bk Bo Bn Bl D es no k w W) (hn : n₀ ≤ W.heap.size) (q : Below W.heap.size W W') : LsI n₀ Bk Bo Bn Bl D es no k w W' := by
  obtain ⟨y, h1, h2⟩ := h.row
  exact ⟨(q.block _ (Array.getElem?_eq_some_iff.1 h.df).1).trans h.df, (q.block _ h.ok.lt).trans h.ok, (q.block _ h.no.lt).trans h.no, (q.block _ h.num.lt).trans h.num, ⟨y, (q.block _ h1.lt).trans h1, owns_below h2 q⟩, h.q.trans (q.mono hn)⟩

theorem LsI.step {n₀ Bk Bo Bn Bl D : Nat} {es : List En} {no : Bool} {k : Nat} {w W : World} (h : LsI n₀ Bk Bo Bn Bl D es no k w W) (h1 : n₀ ≤ Bk) (h2 : n₀ ≤ Bo) (h3 : n₀ ≤ Bn) (hd : Bk ≠ Bo ∧ Bk ≠ Bn ∧ Bo ≠ Bn ∧ Bl ≠ Bk ∧ Bl ≠ Bo ∧ Bl ≠ Bn) (no' : Bool) :
    LsI n₀ Bk Bo Bn Bl D es no' (k + 1) w (((W.setCell ⟨Bk, 0, none⟩ (.bool true)).setCell ⟨Bn, 0, none⟩ (.int .i64 ((k : Int) + 1))).setCell ⟨Bo, 0, none⟩ (.bool no')).drew := by
  obtain ⟨d1, d2, d3, d4, d5, d6⟩ := hd
  obtain ⟨y, bl, hr⟩ := h.row
  have o1 := h.ok.set (.bool true)
  have n1 := h.num.other (B' := Bk) (by omega) (.bool true)
  have z1 := h.no.other (B' := Bk) (by omega) (.bool true)
  have l1 := bl.other (B' := Bk) (by omega) (.bool true)
  have r1 := hr.kept (grownBy_setCell' W Bk (.bool true)) (.inr (h.ok.not_row (by decide) hr).symm)
  have n2 := n1.set (.int .i64 ((k : Int) + 1))
  have o2 := o1.other (B' := Bn) (by omega) (.int .i64 ((k : Int) + 1))
  have z2 := z1.other (B' := Bn) (by omega) (.int .i64 ((k : Int) + 1))
  have l2 := l1.other (B' := Bn) (by omega) (.int .i64 ((k : Int) + 1))
  have r2 := r1.kept (grownBy_setCell' _ Bn (.int .i64 ((k : Int) + 1))) (.inr (n1.not_row (by decide) r1).symm)
  have z3 := z2.set (.bool no')
  have o3 := o2.other (B' := Bo) (by omega) (.bool no')
  have n3 := n2.other (B' := Bo) (by omega) (.bool no')
  have l3 := l2.other (B' := Bo) (by omega) (.bool no')
  have r3 := r2.kept (grownBy_setCell' _ Bo (.bool no')) (.inr (z2.not_row (by decide) r2).symm)
  have q3 := ((h.q.setCell (p := ⟨Bk, 0, none⟩) h1 (.bool true)).setCell (p := ⟨Bn, 0, none⟩) h3 (.int .i64 ((k : Int) + 1))).setCell (p := ⟨Bo, 0, none⟩) h2 (.bool no')
  have df1 : (W.setCell ⟨Bk, 0, none⟩ (.bool true)).heap[D]? = some (.deferred (some [])) := (Below.heap_setCell _ _ _ D (fun e => boxed_ne_def h.ok h.df e.symm)).trans h.df
  have df2 := (Below.heap_setCell _ ⟨Bn, 0, none⟩ (.int .i64 ((k : Int) + 1)) D (fun e => boxed_ne_def n1 df1 e.symm)).trans df1
  have df3 := (Below.heap_setCell _ ⟨Bo, 0, none⟩ (.bool no') D (fun e => boxed_ne_def z2 df2 e.symm)).trans df2
  exact ⟨df3, o3, z3, n3, ⟨y, l3, r3⟩, q3.drew⟩
set_option maxRecDepth 100000 in
set_option maxHeartbeats 2000000 in
theorem again_one (n₀ Bk Bo Bn Bl D : Nat) (es : List En) (k : Nat) (hk : k < es.length) (hlen : es.length ≤ 1000000) (w W : World) (h : LsI n₀ Bk Bo Bn Bl D es false k w W) (hn : n₀ ≤ W.heap.size) (h1 : n₀ ≤ Bk) (h2 : n₀ ≤ Bo) (h3 : n₀ ≤ Bn) (hd : Bk ≠ Bo ∧ Bk ≠ Bn ∧ Bo ≠ Bn ∧ Bl ≠ Bk ∧ Bl ≠ Bo ∧ Bl ≠ Bn) :
    Calls Tryz.prog 80 (encE es[k] ++ #[.pointer (some ⟨Bk, 0, none⟩), .pointer (some ⟨Bo, 0, none⟩), .pointer (some ⟨Bn, 0, none⟩), .pointer (some ⟨Bl, 0, none⟩)]) W fun e W' => e = .returned (.bool (!decide (es.length / 2 < k + 1))) ∧ LsI n₀ Bk Bo Bn Bl D es (decide (es.length / 2 < k + 1)) (k + 1) w W' := by
  go_enter Tryz.func80, Tryz.ntmps80
  go_wp2_with fail
  have q1 := below_alloc W (.cells #[.int .i64 es[k].t, .string es[k].k] 83)
  have hA := h.keep hn q1
  have k0 : (W.alloc (.cells #[.int .i64 es[k].t, .string es[k].k] 83)).cell? ⟨W.heap.size, 0, none⟩ = some (.int .i64 es[k].t) := by simp
  have k1 : (W.alloc (.cells #[.int .i64 es[k].t, .string es[k].k] 83)).cell? ⟨W.heap.size, 1, none⟩ = some (.string es[k].k) := by simp
  have hnA : n₀ ≤ (W.alloc (.cells #[.int .i64 es[k].t, .string es[k].k] 83)).heap.size := Nat.le_trans hn q1.size
  clear q1 h
  generalize W.alloc (.cells #[.int .i64 es[k].t, .string es[k].k] 83) = W1 at *
  have cok := hA.ok.cell
  have fok := hA.ok.frozen
  have cno := hA.no.cell
  have fno := hA.no.frozen
  have cnum := hA.num.cell
  have fnum := hA.num.frozen
  obtain ⟨y, bl, hr⟩ := hA.row
  have cl := bl.cell
  rcases EnsIn.of_owns hr with ⟨_, he⟩ | ⟨gg, off, cp, rfl, hgg, hens⟩
  · rw [he] at hk; simp at hk
  have d0 := hens.c0 k hk
  have d1 := hens.c1 k hk
  have d2 := hens.c2 k hk
  have il : ((k : Nat) : Int) < (es.length : Int) := by omega
  obtain ⟨t, ht⟩ : ∃ t, t = es[k].t := ⟨_, rfl⟩
  obtain ⟨ky, hky⟩ : ∃ ky, ky = es[k].k := ⟨_, rfl⟩
  obtain ⟨vy, hvy⟩ : ∃ vy, vy = es[k].v := ⟨_, rfl⟩
  rw [← ht] at d0 k0 ⊢
  rw [← hky] at d1 k1 ⊢
  rw [← hvy] at d2 ⊢
  clear ht hky hvy hens
  refine region_tail 24 (by kernel_rfl) (by kernel_rfl) ?_
  simp only [List.take_succ_cons, List.take_zero, List.drop_succ_cons, List.drop_zero]
  still_step
  still_step
  still_step
  still_step
  still_step
  still_step
  still_step
  still_step
  still_step
  still_step
  still_step
  still_step
  still_step
  still_step
  still_step
  still_step
  still_step
  still_step
  still_step
  still_step
  still_step
  still_step
  still_step
  still_step
  refine wpStill_nil ?_
  go_wp2_with fail
  have hdec : decide ((es.length : Int) / 2 < (k : Int) + 1) = decide (es.length / 2 < k + 1) := by rw [decide_eq_decide]; omega
  have hst := hA.step h1 h2 h3 hd (decide (es.length / 2 < k + 1))
  rw [hdec]
  go_ret
  exact ⟨rfl, hst⟩
set_option maxRecDepth 100000 in
set_option maxHeartbeats 2000000 in
/-- The iterator, called with a function value: the second time round. -/
theorem again_all (Bk Bo Bn Bl D Bs : Nat) (v : Value) (es : List En) (hlen : es.length ≤ 1000000) (w W : World) (h : LsI w.heap.size Bk Bo Bn Bl D es false 0 w W) (hBs : w.cell? ⟨Bs, 0, none⟩ = some v) (hI : EnsIn w v es) (h1 : w.heap.size ≤ Bk) (h2 : w.heap.size ≤ Bo) (h3 : w.heap.size ≤ Bn) (hd : Bk ≠ Bo ∧ Bk ≠ Bn ∧ Bo ≠ Bn ∧ Bl ≠ Bk ∧ Bl ≠ Bo ∧ Bl ≠ Bn) :
    Calls Tryz.prog 107 #[.func (.func 80) #[] #[.pointer (some ⟨Bk, 0, none⟩), .pointer (some ⟨Bo, 0, none⟩), .pointer (some ⟨Bn, 0, none⟩), .pointer (some ⟨Bl, 0, none⟩)], .pointer (some ⟨Bs, 0, none⟩)] W fun e W' => (∃ x, e = .returned x) ∧ ∃ no k, LsI w.heap.size Bk Bo Bn Bl D es no k w W' := by
  have cb := (h.q.cell (p := ⟨Bs, 0, none⟩) (cell_lt hBs)).trans hBs
  rcases hI with ⟨rfl, rfl⟩ | ⟨b, off, cap, rfl, hb, hens⟩
  · go_enter Tryz.func107, Tryz.ntmps107
    go_wp2_with fail
    go_loopw [7] (fun i wr => i = .int .i64 0 ∧ wr = W) (fun _ _ => 0)
    case atStart => exact ⟨rfl, rfl⟩
    case round =>
      obtain ⟨rfl, rfl⟩ := hrel
      go_wp2_with fail
      go_end0
      exact ⟨⟨_, rfl⟩, false, 0, h⟩
  · go_enter Tryz.func107, Tryz.ntmps107
    go_wp2_with fail
    go_loopw [7] (fun i wr => ∃ k : Nat, k ≤ es.length ∧ i = .int .i64 k ∧ LsI w.heap.size Bk Bo Bn Bl D es false k w wr) (fun i _ => es.length - (intOf i).toNat)
    case atStart => exact ⟨0, Nat.zero_le _, rfl, h⟩
    case round =>
      obtain ⟨k, hk, rfl, hL⟩ := hrel
      by_cases hlt : k < es.length
      · have d0 := (hens.keep hb hL.q).c0 k hlt
        have d1 := (hens.keep hb hL.q).c1 k hlt
        have d2 := (hens.keep hb hL.q).c2 k hlt
        have il : ((k : Nat) : Int) < (es.length : Int) := by omega
        have hsw := hL.q.size
        by_cases hm : es.length / 2 < k + 1
        · go_wp2_with fail
          refine (again_one w.heap.size Bk Bo Bn Bl D es k hlt hlen w _ (hL.keep hsw (below_alloc _ _)) (by simp; omega) h1 h2 h3 hd).mono ?_
          rw [show decide (es.length / 2 < k + 1) = true from decide_eq_true hm]
          rintro e W3 ⟨rfl, hL3⟩
          go_wp2_with fail
          refine bodyPost_ret (results_none rfl _ _ _) rfl ?_
          exact ⟨⟨_, rfl⟩, true, k + 1, hL3⟩
        · go_wp2_with fail
          refine (again_one w.heap.size Bk Bo Bn Bl D es k hlt hlen w _ (hL.keep hsw (below_alloc _ _)) (by simp; omega) h1 h2 h3 hd).mono ?_
          rw [show decide (es.length / 2 < k + 1) = false from decide_eq_false hm]
          rintro e W3 ⟨rfl, hL3⟩
          go_wp2_with fail
          go_roundw
          case rel => exact ⟨k + 1, by omega, by go_num, hL3⟩
          case measure => simp [intOf]; omega
      · obtain rfl : k = es.length := by omega
        go_wp2_with fail
        go_end0
        exact ⟨⟨_, rfl⟩, false, _, hL⟩
set_option maxRecDepth 100000 in
set_option maxHeartbeats 2000000 in
theorem listed_in (n : Nat) (hn : 3 ≤ n) (Bs : Nat) (v : Value) (es : List En) (hlen : es.length ≤ 1000000) (w : World) (hBs : w.cell? ⟨Bs, 0, none⟩ = some v) (hI : EnsIn w v es) :
    CallsIn Fence.wide n Tryz.prog 54 #[.func (.func 107) #[] #[.pointer (some ⟨Bs, 0, none⟩)]] w fun e W' => ∃ x, e = .returned (.tuple #[x, .bool true]) ∧ W'.ownsRow w.heap.size 62 3 x es.length (cellsE es) ∧ Below w.heap.size w W' := by
  have hn1 : 1 ≤ n := by omega
  refine callsIn_of_wp_marks Tryz.func54 rfl trivial ?_ rfl
  simp only [Tryz.ntmps54, List.size_toArray, List.length_cons, List.length_nil, Nat.reduceAdd, Nat.reduceSub, Array.replicate_succ, Array.replicate_zero, List.push_toArray, List.append_toArray, List.nil_append, List.cons_append]
  obtain ⟨i0, hi0, hz0, hz1, hz2⟩ := info_parts Tryz.infoPl
  gi_wp2
  have bL := (Boxed.new w 44 (.slice none 0 0)).alloc (.cells #[.bool true] 4)
  have bK := Boxed.new (w.alloc (.cells #[.slice none 0 0] 44)) 4 (.bool true)
  simp only [World.size_alloc] at bK
  have hB0 : Below w.heap.size w ((w.alloc (.cells #[.slice none 0 0] 44)).alloc (.cells #[.bool true] 4)) := ((Below.refl _ w).alloc (Nat.le_refl _) _).alloc (by simp) _
  have hsz : ((w.alloc (.cells #[.slice none 0 0] 44)).alloc (.cells #[.bool true] 4)).heap.size = w.heap.size + 2 := by simp
  obtain ⟨W0, hW0⟩ : ∃ W0, (w.alloc (.cells #[.slice none 0 0] 44)).alloc (.cells #[.bool true] 4) = W0 := ⟨_, rfl⟩
  rw [hW0] at bL bK hB0 hsz ⊢
  clear hW0
  have hBl : Bs < w.heap.size := cell_lt hBs
  refine wpIn_rangeFunc_ownH rfl hn1 (gf := 107) (lb := #[.pointer (some ⟨Bs, 0, none⟩)]) rfl trivial (enters_of Tryz.func107 (by kernel_rfl) rfl)
    (all_stops Fence.wide (n - 1) trivial rfl (by omega) Bs w.heap.size _ es hlen W0 (by omega) (by omega) ((hB0.cell (p := ⟨Bs, 0, none⟩) hBl).trans hBs) ((EnsBelow.of hI).keep hB0)) belowK_t (belowK_b (by omega)) (Below.refl _ _) (fun _ => rfl)
    (fun pre W => ((∃ x, Boxed W w.heap.size 44 x ∧ W.ownsRow w.heap.size 62 3 x pre.length (cellsE pre) ∧ True) ∧ Boxed W (w.heap.size + 1) 4 (.bool true)) ∧ Below w.heap.size w W)
    (fun _ _ _ => False)
    (OwnFrom.and (OwnFrom.and (Own.from (holdsRow_own w.heap.size w.heap.size 44 62 3 (fun pre => pre.length) (fun pre => cellsE pre) (fun _ _ => True)) _) (Own.from (boxed_own _ _ _) _)) (ownFrom_below (Nat.le_refl _) (by omega)))
    (fun _ _ _ _ _ hs _ _ => hs)
    ⟨⟨⟨_, bL, World.ownsRow_nil _ _ _ _, trivial⟩, bK⟩, hB0⟩
    (fun x a' W => ∃ Bx, w.heap.size + 1 < Bx ∧ KBox W Bx x ∧ a' = { tmps := #[.func (.func 107) #[] #[.pointer (some ⟨Bs, 0, none⟩)], undef, .slice none 0 0, .bool false, .pointer (some ⟨w.heap.size, 0, none⟩), .pointer (some ⟨w.heap.size + 1, 0, none⟩), .pointer (some ⟨Bx, 0, none⟩), .string x.v, undef, undef, .func (.func 107) #[] #[.pointer (some ⟨Bs, 0, none⟩)], .agg #[.int .i64 x.t, .string x.k], .string x.v, undef, undef, undef, undef, undef, undef, undef, undef, undef, undef, undef, undef, undef, undef], defers := [] })
    (fun x a' _ X Y row hs hg hr => by obtain ⟨Bx, h1, h2, h3⟩ := hs; exact ⟨Bx, h1, h2.own hg (fun r e => (hr r e).2), h3⟩)
    ?assign ?body ?done ?stop
  case assign =>
    rintro l pre x W K ⟨⟨⟨y, bL1, hr1, _⟩, bK1⟩, hB1⟩ hK
    gi_wp2
    exact hK _ _ ((KeepsOthers.alloc _ _).from _) ((Below.refl _ W).alloc hB1.size _) ⟨⟨⟨y, bL1.alloc _, hr1.alloc _, trivial⟩, bK1.alloc _⟩, hB1.alloc hB1.size _⟩ ⟨W.heap.size, bK1.lt, heap_alloc_new _ _, rfl⟩
  case body =>
    rintro l pre x a' W hl _ ⟨⟨⟨y, bL1, hr1, _⟩, bK1⟩, hB1⟩ ⟨Bx, hBx, bX, rfl⟩ hlt
    have cL := bL1.cell
    have fL := bL1.frozen
    obtain ⟨cX0, cX1⟩ := bX.cells
    have hsW := hB1.size
    gi_wp2_with (gi_at_builtin; refine wpListIn_append_own _ rfl _ _ 44 rfl w.heap.size 62 i0 zP 3 40 Tryz.underlying44 hi0 hz0 hz1 hz2 rfl (by decide) _ _ _ rfl (hr1.alloc _) ⟨W.heap.size, 0, none⟩ 1 1 (e3 x) rfl rfl (three_new W x) (e3_one x) (by unfold maxLen; omega) (by omega) (by simp; omega) ?_; intro v' w1 hown' hgrow _; obtain ⟨g', cap', rfl⟩ := ownsRow_succ hown'; obtain ⟨hv1, hv2, hr2, hk2, hb2⟩ := bL1.appended (by decide) hr1 hsW (Nat.le_refl _) hown' hgrow; have hc1 := hv1.cell; have hf1 := hv1.frozen; have bK2 := (bK1.alloc (.cells #[.int .i64 x.t, .string x.k, .string x.v] 62)).kept hgrow (bK1.not_row (by decide) hr1))
    exact ⟨hk2.from _, hb2, ⟨⟨_, hv2, by rw [cells_snoc, show (pre ++ [x]).length = pre.length + 1 by simp]; exact hr2, trivial⟩, bK2.other (by omega) _⟩, hB1.trans hb2⟩
  case done =>
    rintro D ys W hD rfl ⟨⟨⟨y, bL1, hr1, _⟩, bK1⟩, hB⟩ hK
    have hsW := hB.size
    have hK2 : ((W.alloc (.cells #[.int .i64 0] 3)).alloc (.cells #[.bool false] 4)).heap[D]? = some (.deferred (some [])) := by
      have hlt := (Array.getElem?_eq_some_iff.1 hK).1
      rw [Below.heap_alloc _ _ _ (by simp; omega), Below.heap_alloc _ _ _ hlt]; exact hK
    have hls : LsI w.heap.size (w.heap.size + 1) (W.heap.size + 1) W.heap.size w.heap.size D ys false 0 w ((W.alloc (.cells #[.int .i64 0] 3)).alloc (.cells #[.bool false] 4)) := by
      have bn := (Boxed.new W 3 (.int .i64 0)).alloc (.cells #[.bool false] 4)
      have bo := Boxed.new (W.alloc (.cells #[.int .i64 0] 3)) 4 (.bool false)
      simp only [World.size_alloc] at bo
      exact ⟨hK2, (bK1.alloc _).alloc _, bo, bn, ⟨y, (bL1.alloc _).alloc _, (hr1.alloc _).alloc _⟩, (hB.alloc hB.size _).alloc (by have := hB.size; simp; omega) _⟩
    gi_wp2
    refine ⟨trivial, ?_⟩
    refine (callsIn_wide.2 (again_all (w.heap.size + 1) (W.heap.size + 1) W.heap.size w.heap.size D Bs v ys hlen w _ hls hBs hI (by omega) (by omega) (by omega) (by have := bK1.lt; omega))).mono ?_
    rintro e W5 ⟨⟨x5, rfl⟩, no, kk, hL5⟩
    obtain ⟨y5, bl5, hr5⟩ := hL5.row
    have cl5 := bl5.cell
    have ck5 := hL5.ok.cell
    have hK5 := hL5.df
    gi_wp2
    gi_region
    gi_wp2
    have hr6 : W5.drew.ownsRow w.heap.size 62 3 y5 ys.length (cellsE ys) := hr5
    have hK6 : W5.drew.heap[D]? = some (.deferred (some [])) := hK5
    refine ⟨by simp, .inl ⟨_, _, rfl, run_takeDeferred hK6, ?_⟩⟩
    exact ⟨_, results_tmp2 rfl _ _ _, y5, rfl, ownsRow_putObj hr6 _ hK6 rfl, hL5.q.drew.trans (belowK_b (w := w) (Nat.le_refl _) W5.drew D _ _ (by omega) hK6 rfl rfl)⟩
  case stop =>
    rintro D c pre W _ _ h _
    exact h.elim
theorem pListed (Bs : Nat) (v : Value) (es : List En) (hlen : es.length ≤ 1000000) (w : World) (hBs : w.cell? ⟨Bs, 0, none⟩ = some v) (hI : EnsIn w v es) :
    Calls Tryz.prog 54 #[.func (.func 107) #[] #[.pointer (some ⟨Bs, 0, none⟩)]] w fun e W' => ∃ x, e = .returned (.tuple #[x, .bool true]) ∧ W'.ownsRow w.heap.size 62 3 x es.length (cellsE es) ∧ Below w.heap.size w W' :=
  (callsIn_wide (n := 3)).1 (listed_in 3 (by omega) Bs v es hlen w hBs hI)
set_option maxHeartbeats 1000000 in
theorem fEntries (F T : Nat) (l : List En) (w : World) (hF : w.cell? ⟨F, 0, none⟩ = some (.pointer (some ⟨T, 0, none⟩))) (h : TabIs w T l) (hn : l.length ≤ 1000000) :
    Calls Tryz.prog 21 #[.pointer (some ⟨F, 0, none⟩)] w fun e w' => ∃ x, e = .returned (.tuple #[x, .bool true]) ∧ w'.ownsRow w.heap.size 62 3 x l.length (cellsE l) ∧ Below w.heap.size w w' := by
  go_enter Tryz.func21, Tryz.ntmps21
  go_wp2_with fail
  refine (tEntries T l _ h).mono ?_
  rintro e w1 ⟨v, rfl, rfl, hI, hc⟩
  go_wp2_with fail
  refine (pListed _ v l hn _ hc hI).mono ?_
  rintro e w2 ⟨x, rfl, ho, q2⟩
  go_wp2
  go_ret2
  exact ⟨_, rfl, owns_mono ho (by simp), below_trans (below_alloc _ _) q2⟩
end Go.Proofs.YtindifjhocgkbaaGreatDoor
