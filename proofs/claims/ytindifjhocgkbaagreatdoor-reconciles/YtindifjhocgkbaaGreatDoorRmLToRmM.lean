import Derived.Test.YtindifjhocgkbaaGreatDoorRmJToRmK
namespace Go.Proofs.YtindifjhocgkbaaGreatDoor
open Go.RowKit Go.ChangeMaps Go.MapKept Go.WideShapes Go.WideMaps Go.Shelf
attribute [local go_sem] Oper.semAt_some
theorem rec2_cnt' (r : Nat → Int) (o : List En) : ∀ (p : List En) (s : RSt), (p.foldl (rec2' r o) s).1.2 ≤ s.1.2
  | [], s => Nat.le_refl _
  | e :: p, s => by
    refine Nat.le_trans (rec2_cnt' r o p (rec2' r o s e)) ?_
    unfold rec2'
    split
    · split
      · dsimp only; omega
      · dsimp only; omega
    · exact Nat.le_refl _
set_option maxRecDepth 100000 in
set_option maxHeartbeats 2000000 in
theorem dPutMissing (n0 H M : Nat) (r : Nat → Int) (l : List En) (log : List ByteArray) (left : Int) (dead : Bool) (big : Bool) (c : Nat) (vt vw : Value) (old : List En) (ts : List KEn) (W : World) (h : HostI n0 H M r l log left dead W) (hL : LD big left dead c) (hb : big = true → 50000 ≤ c) (hc : c ≤ 500000)
    (hT : EnsT W vt (ts.map KEn.en)) (hV : EnsT W vw old) (hsw : Srt old) (hsl : Srt l) (hkl : ∀ e ∈ l, KOk e) (n2 : old.length ≤ 10000) (n3 : ts.length ≤ 10000) (n4 : log.length ≤ 100000) (n5 : l.length ≤ 10000) :
    Calls Tryz.prog 131 #[dpI H, vw, vt] W fun e W' => e = .returned (.tuple #[]) ∧ ∃ left' dead', HostI n0 H M r ((ts.map KEn.en).foldl (rec2' r old) ((l, c), log)).1.1 ((ts.map KEn.en).foldl (rec2' r old) ((l, c), log)).2 left' dead' W' ∧ LD big left' dead' ((ts.map KEn.en).foldl (rec2' r old) ((l, c), log)).1.2 ∧ HW n0 M W W' := by
  obtain ⟨ta, tc, rfl⟩ := hT.in.slice
  obtain ⟨wa, wc, rfl⟩ := hV.in.slice
  rw [List.length_map] at hT ⊢
  refine (callsIn_wide (n := 6)).1 ?_
  refine callsIn_of_wp_marks Tryz.func131 rfl trivial ?_ rfl
  simp only [Tryz.ntmps131, List.size_toArray, List.length_cons, List.length_nil, Nat.reduceAdd, Nat.reduceSub, Array.replicate_succ, Array.replicate_zero, List.push_toArray, List.append_toArray, List.nil_append, List.cons_append]
  gi_wp2_with (gi_at_call 81; refine (all_in Fence.wide (6 - 1) trivial rfl _ _ _ _).mono ?_; rintro e w' ⟨rfl, rfl⟩)
  refine ⟨trivial, ?_⟩
  refine (all_in Fence.wide 5 trivial rfl _ _ _ _).mono ?_
  rintro e w' ⟨rfl, rfl⟩
  gi_wp2
  have hm := m_Put
  have bP := ((Boxed.new W 162 (dpI H)).alloc (.cells #[.slice wa old.length wc] 112)).alloc (.cells #[.slice ta ts.length tc] 112)
  have bV := (Boxed.new (W.alloc (.cells #[dpI H] 162)) 112 (.slice wa old.length wc)).alloc (.cells #[.slice ta ts.length tc] 112)
  have bB := Boxed.new ((W.alloc (.cells #[dpI H] 162)).alloc (.cells #[.slice wa old.length wc] 112)) 112 (.slice ta ts.length tc)
  have q0 := below_trans (below_trans (below_alloc W (.cells #[dpI H] 162)) (below_alloc _ (.cells #[.slice wa old.length wc] 112))) (below_alloc _ (.cells #[.slice ta ts.length tc] 112))
  have hsz : (((W.alloc (.cells #[dpI H] 162)).alloc (.cells #[.slice wa old.length wc] 112)).alloc (.cells #[.slice ta ts.length tc] 112)).heap.size = W.heap.size + 3 := by simp
  simp only [World.size_alloc] at bV bB
  have k0 := h.keep q0
  have w0 := HW.below (M := M) q0 h.n0
  have hT0 := hT.keep q0
  have hV0 := hV.keep q0
  have hn0 := h.n0
  have hMw := h.mp.lt
  generalize ((W.alloc (.cells #[dpI H] 162)).alloc (.cells #[.slice wa old.length wc] 112)).alloc (.cells #[.slice ta ts.length tc] 112) = W0 at *
  have hst0 : StI l.length log.length c ((l, c), log) := ⟨hsl, hkl, Nat.le_refl _, Nat.le_refl _, Nat.le_refl _⟩
  refine wpIn_rangeFunc_ownH rfl (by omega) (gf := 107) (lb := #[.pointer (some ⟨W.heap.size + 1 + 1, 0, none⟩)]) rfl trivial (enters_of Tryz.func107 (by kernel_rfl) rfl)
    (all_stopsK KEn.en Fence.wide (6 - 1) trivial rfl (by omega) (W.heap.size + 1 + 1) n0 _ ts (by omega) W0 (by omega) bB.cell hT0) HK.trans (HK.putObj (by omega)) (Below.refl _ _) (fun _ => rfl)
    (fun pre X => ∃ lf dd, HostI n0 H M r ((pre.map KEn.en).foldl (rec2' r old) ((l, c), log)).1.1 ((pre.map KEn.en).foldl (rec2' r old) ((l, c), log)).2 lf dd X ∧ LD big lf dd ((pre.map KEn.en).foldl (rec2' r old) ((l, c), log)).1.2 ∧ HW n0 M W0 X)
    (fun _ _ _ => False)
    (fun pre X Y row hs hg hr => by
      obtain ⟨lf, dd, h1, h2, h3⟩ := hs
      exact ⟨lf, dd, h1.grown hg (fun j e => .inr ⟨by have := (hr j e).1; omega, (hr j e).2⟩), h2, h3.own hg (by omega) (fun j e => (hr j e).1)⟩)
    (fun _ _ _ _ _ hs _ _ => hs)
    ⟨left, dead, k0, hL, HW.refl _ _ _⟩
    (fun x a' X => ∃ Bx, KBox X Bx x.en ∧ a' = { tmps := #[dpI H, .slice wa old.length wc, .slice ta ts.length tc, .pointer (some ⟨W.heap.size, 0, none⟩), .pointer (some ⟨W.heap.size + 1, 0, none⟩), undef, .pointer (some ⟨Bx, 0, none⟩), .string x.en.v, undef, undef, .slice ta ts.length tc, .func (.func 107) #[] #[.pointer (some ⟨W.heap.size + 1 + 1, 0, none⟩)], .agg #[.int .i64 x.en.t, .string x.en.k], .string x.en.v, undef, undef, undef, undef, undef, undef, undef, undef, undef, undef, undef, undef, undef, undef, undef, undef, undef], defers := [] })
    (fun x a' _ X Y row hs hg hr => by obtain ⟨Bx, h2, h3⟩ := hs; exact ⟨Bx, h2.own hg (fun r e => (hr r e).2), h3⟩)
    ?assign ?body ?done ?stop
  case assign =>
    rintro l' pre x X K ⟨lf, dd, h1, h2, h3⟩ hK
    have hnX : n0 ≤ X.heap.size := h1.n0
    gi_wp2
    exact hK _ _ ((KeepsOthers.alloc _ _).from _) (HW.below (M := M) (below_alloc X _) hnX).1 ⟨lf, dd, h1.keep (below_alloc X _), h2, h3.trans (HW.below (below_alloc X _) hnX)⟩ ⟨X.heap.size, heap_alloc_new _ _, rfl⟩
  case body =>
    rintro l' pre x a' X hl _ ⟨lf, dd, h1, h2, h3⟩ ⟨Bx, bX, rfl⟩ hlt
    have hst := hst0.fold2 r old pre
    have hnext : ((pre ++ [x]).map KEn.en).foldl (rec2' r old) ((l, c), log) = rec2' r old ((pre.map KEn.en).foldl (rec2' r old) ((l, c), log)) x.en := by rw [List.map_append, List.foldl_append]; rfl
    obtain ⟨S, hS⟩ : ∃ S, (pre.map KEn.en).foldl (rec2' r old) ((l, c), log) = S := ⟨_, rfl⟩
    rw [hS] at h1 h2 hst hnext
    have cV := (boxed_far h3 bV (by decide) (by decide)).cell
    have cP := (boxed_far h3 bP (by decide) (by decide)).cell
    obtain ⟨cX0, cX1⟩ := bX.cells
    have hVX := (hV0.hk h3.1).in
    gi_wp2
    refine ⟨trivial, ?_⟩
    refine (CallsIn.inRound l' (callsIn_wide.2 (lValue _ old x.en.t x.en.k X hVX hsw (by omega)))).mono ?_
    rintro e w1 ⟨rfl, q1⟩
    have hg := any_isE' (e := x.en) hsw
    have k1 := h1.keep q1
    have w1' := HW.below (M := M) q1 h1.n0
    have cP1 := (q1.cell (p := ⟨W.heap.size, 0, none⟩) (cell_lt cP)).trans cP
    have cX0' := (q1.cell (p := ⟨Bx, 0, none⟩) (cell_lt cX0)).trans cX0
    have cX1' := (q1.cell (p := ⟨Bx, 1, none⟩) (cell_lt cX1)).trans cX1
    have HN : Hid (((pre ++ [x]).map KEn.en).foldl (rec2' r old) ((l, c), log) = rec2' r old S x.en) := hnext
    clear hnext cV cP cX0 cX1 q1
    cases hgo : got x.en.t x.en.k old with
    | none =>
      rw [hgo] at hg
      have hk : old.any (isE x.en) = false := by rw [hg]; rfl
      clear hg hgo
      simp only [Option.getD_none, Option.isSome_none]
      gi_wp2
      refine ⟨trivial, ?_⟩
      have hle := h2.le
      have hcnt := hst.cnt
      have hlog := hst.log
      have hlen := hst.len
      have hSc : S.1.2 ≤ c := by have := rec2_cnt' r old (pre.map KEn.en) ((l, c), log); rw [hS] at this; exact this
      refine (CallsIn.inRound l' (callsIn_wide.2 (hPut n0 H M r S.1.1 S.2 lf dd w1 k1 h2.ge (by omega) x.en.t x.en.k x.en.v hst.srt hst.kok x.ok x.sk x.sv (by omega) (by omega)))).mono ?_
      rintro e w2 ⟨rfl, k2, w2'⟩
      obtain ⟨hd, hL'⟩ := h2.step (fun e => by have := hb e; omega)
      rw [hd] at k2 hL'
      gi_wp2
      by_cases hc0 : 0 < S.1.2
      · simp only [hc0, decide_true, Bool.not_true, Bool.false_eq_true, if_false] at k2 hL'
        by_cases hft : fits r S.1.1 x.en = true
        · have HR : rec2' r old S x.en = ((put x.en S.1.1, S.1.2 - 1), S.2 ++ [putT x.en]) := by simp [rec2', hk, hc0, hft]
          have hft' : fits r S.1.1 ⟨x.en.t, x.en.k, x.en.v⟩ = true := hft
          rw [if_pos hft', if_pos hft'] at k2
          exact ⟨(w1'.trans w2').2.from (by omega), (w1'.trans w2').1, _, _, by rw [HN.out, HR]; exact k2, by rw [HN.out, HR]; exact hL', h3.trans (w1'.trans w2')⟩
        · have HR : rec2' r old S x.en = ((S.1.1, S.1.2 - 1), S.2 ++ [putT x.en] ++ [noS]) := by unfold rec2'; rw [if_pos ⟨hk, hc0⟩, if_neg hft]
          have hft' : ¬ fits r S.1.1 ⟨x.en.t, x.en.k, x.en.v⟩ = true := hft
          rw [if_neg hft', if_neg hft'] at k2
          exact ⟨(w1'.trans w2').2.from (by omega), (w1'.trans w2').1, _, _, by rw [HN.out, HR]; exact k2, by rw [HN.out, HR]; exact hL', h3.trans (w1'.trans w2')⟩
      · have HR : rec2' r old S x.en = S := by unfold rec2'; rw [if_neg (fun e => hc0 e.2)]
        simp only [hc0, decide_false, Bool.not_false, if_true] at k2 hL'
        rw [show S.1.2 - 1 = S.1.2 by omega] at hL'
        exact ⟨(w1'.trans w2').2.from (by omega), (w1'.trans w2').1, _, _, by rw [HN.out, HR]; exact k2, by rw [HN.out, HR]; exact hL', h3.trans (w1'.trans w2')⟩
    | some ov =>
      rw [hgo] at hg
      clear hgo
      simp only [Option.getD_some, Option.isSome_some]
      by_cases hv : ov = x.en.v
      · have hk : old.any (isE x.en) = true := by rw [hg, hv]; simp
        have HR : Hid (rec2' r old S x.en = S) := by show _ = _; unfold rec2'; rw [if_neg (fun e => by rw [hk] at e; cases e.1)]
        clear hg
        rw [hv]
        gi_wp2
        exact ⟨w1'.2.from (by omega), w1'.1, lf, dd, by rw [HN.out, HR.out]; exact k1, by rw [HN.out, HR.out]; exact h2, h3.trans w1'⟩
      · have hk : old.any (isE x.en) = false := by rw [hg]; simp [hv]
        have hvb : (ov.toList == x.en.v.toList) = false := ba_neq hv
        clear hg
        gi_wp2
        refine ⟨trivial, ?_⟩
        have hle := h2.le
        have hcnt := hst.cnt
        have hlog := hst.log
        have hlen := hst.len
        have hSc : S.1.2 ≤ c := by have := rec2_cnt' r old (pre.map KEn.en) ((l, c), log); rw [hS] at this; exact this
        refine (CallsIn.inRound l' (callsIn_wide.2 (hPut n0 H M r S.1.1 S.2 lf dd w1 k1 h2.ge (by omega) x.en.t x.en.k x.en.v hst.srt hst.kok x.ok x.sk x.sv (by omega) (by omega)))).mono ?_
        rintro e w2 ⟨rfl, k2, w2'⟩
        obtain ⟨hd, hL'⟩ := h2.step (fun e => by have := hb e; omega)
        rw [hd] at k2 hL'
        gi_wp2
        by_cases hc0 : 0 < S.1.2
        · simp only [hc0, decide_true, Bool.not_true, Bool.false_eq_true, if_false] at k2 hL'
          by_cases hft : fits r S.1.1 x.en = true
          · have HR : rec2' r old S x.en = ((put x.en S.1.1, S.1.2 - 1), S.2 ++ [putT x.en]) := by simp [rec2', hk, hc0, hft]
            have hft' : fits r S.1.1 ⟨x.en.t, x.en.k, x.en.v⟩ = true := hft
            rw [if_pos hft', if_pos hft'] at k2
            exact ⟨(w1'.trans w2').2.from (by omega), (w1'.trans w2').1, _, _, by rw [HN.out, HR]; exact k2, by rw [HN.out, HR]; exact hL', h3.trans (w1'.trans w2')⟩
          · have HR : rec2' r old S x.en = ((S.1.1, S.1.2 - 1), S.2 ++ [putT x.en] ++ [noS]) := by unfold rec2'; rw [if_pos ⟨hk, hc0⟩, if_neg hft]
            have hft' : ¬ fits r S.1.1 ⟨x.en.t, x.en.k, x.en.v⟩ = true := hft
            rw [if_neg hft', if_neg hft'] at k2
            exact ⟨(w1'.trans w2').2.from (by omega), (w1'.trans w2').1, _, _, by rw [HN.out, HR]; exact k2, by rw [HN.out, HR]; exact hL', h3.trans (w1'.trans w2')⟩
        · have HR : rec2' r old S x.en = S := by unfold rec2'; rw [if_neg (fun e => hc0 e.2)]
          simp only [hc0, decide_false, Bool.not_false, if_true] at k2 hL'
          rw [show S.1.2 - 1 = S.1.2 by omega] at hL'
          exact ⟨(w1'.trans w2').2.from (by omega), (w1'.trans w2').1, _, _, by rw [HN.out, HR]; exact k2, by rw [HN.out, HR]; exact hL', h3.trans (w1'.trans w2')⟩
  case done =>
    rintro D ys X hD rfl ⟨lf, dd, h1, h2, h3⟩ hK
    gi_wp2
    refine ⟨by simp, .inl ⟨_, _, rfl, run_takeDeferred hK, ?_⟩⟩
    exact ⟨_, results_none rfl _ _ _, rfl, lf, dd, h1.grown (grownBy_putObj' X D _) (fun j e => by cases e; exact .inr ⟨by omega, _, hK, rfl⟩), h2, w0.trans (h3.own (grownBy_putObj' X D _) (by omega) (fun j e => by cases e; exact hD))⟩
  case stop =>
    rintro D c' pre X _ _ h _
    exact h.elim
end Go.Proofs.YtindifjhocgkbaaGreatDoor
namespace Go.Proofs.YtindifjhocgkbaaGreatDoor
open Go.RowKit Go.ChangeMaps Go.MapKept Go.WideShapes Go.WideMaps Go.Shelf
theorem cntM_T (t : Int) (l : List En) : cntM t l = cntT t l := rfl
/-- Whoever has the room has it for each put. -/
theorem puts_fit {r : Nat → Int} {h want : List En} (hw : Srt want) (ht : ∀ e ∈ want, 0 ≤ e.t ∧ e.t ≤ 2) (hr : ∀ t : Nat, t < 3 → (cntT t want : Int) ≤ r t) :
    ∀ (p : List En) (s : RSt), (∀ e ∈ p, e ∈ want) → Srt s.1.1 → (0 < s.1.2 → ∀ x ∈ s.1.1, fnd x.t x.k want = true) → p.foldl (rec2' r h) s = p.foldl (rec2 h) s
  | [], _, _, _, _ => rfl
  | e :: p, s, hp, hs, hi => by
    have he : e ∈ want := hp e (List.mem_cons_self)
    have key : rec2' r h s e = rec2 h s e := by
      unfold rec2' rec2
      by_cases hc : h.any (isE e) = false ∧ 0 < s.1.2
      · rw [if_pos hc, if_pos hc, if_pos]
        unfold fits
        cases hf : fnd e.t e.k s.1.1
        · have h1 := cnt_lt (t := e.t) (k := e.k) hs hw (hi hc.2) ((fnd_mem hw).2 ⟨e, he, rfl, rfl⟩) hf
          obtain ⟨t0, t2⟩ := ht e he
          obtain ⟨m, hm⟩ : ∃ m : Nat, e.t = (m : Int) := ⟨e.t.toNat, by omega⟩
          have hm3 : m < 3 := by omega
          have h2 := hr m hm3
          have e1 : roomOf r (m : Int) = r m := by unfold roomOf; rw [if_pos (by omega)]; simp
          rw [hm] at h1
          rw [cntM_T, hm, e1]
          simp only [Bool.false_or, decide_eq_true_eq]
          omega
        · rfl
      · rw [if_neg hc, if_neg hc]
    rw [List.foldl_cons, List.foldl_cons, key]
    refine puts_fit hw ht hr p _ (fun x hx => hp x (List.mem_cons_of_mem _ hx)) ?_ ?_
    · unfold rec2
      split
      · exact put_srt hs
      · exact hs
    · intro h0 x hx
      unfold rec2 at h0 hx
      split at hx
      · rename_i hc
        rcases put_mem hx with rfl | hx
        · exact (fnd_mem hw).2 ⟨x, he, rfl, rfl⟩
        · exact hi hc.2 x hx
      · rename_i hc
        rw [if_neg hc] at h0
        exact hi h0 x hx
/-- All that a datapath goes through, behind what was done ahead. -/
theorem recAll_gen (h w : List En) (c : Nat) (g : List ByteArray) : (w.foldl (rec2 h) (h.foldl (rec1 w) ((h, c), g))).1.1 = afterL h w c ∧ (w.foldl (rec2 h) (h.foldl (rec1 w) ((h, c), g))).2 = g ++ (doneL h w).take c := by
  refine ⟨by rw [rec2_fold, rec1_fold]; rfl, ?_⟩
  unfold doneL
  obtain ⟨h1, h2⟩ := rec1_log w h h c g
  generalize h.foldl (rec1 w) ((h, c), g) = s at *
  obtain ⟨⟨L, m⟩, g'⟩ := s
  dsimp only at h1 h2
  rw [rec2_log, h1, h2, List.take_append]
  simp
theorem recAll_fit {r : Nat → Int} {h want : List En} (hs : Srt h) (hw : Srt want) (ht : ∀ e ∈ want, 0 ≤ e.t ∧ e.t ≤ 2) (hr : ∀ t : Nat, t < 3 → (cntT t want : Int) ≤ r t) (c : Nat) (g : List ByteArray) :
    want.foldl (rec2' r h) (h.foldl (rec1 want) ((h, c), g)) = want.foldl (rec2 h) (h.foldl (rec1 want) ((h, c), g)) := by
  obtain ⟨h1, h3⟩ := drops_mem (w := want) hs h h c hs (fun _ hx => hx) (fun _ hx => hx)
  have h4 := (rec1_log want h h c g).2
  refine puts_fit hw ht hr want _ (fun _ hx => hx) ?_ ?_
  · rw [rec1_fold]; exact h1
  · intro h0 x hx
    rw [rec1_fold] at hx
    have hx' := (h3 x).1 hx
    rw [h4] at h0
    rw [List.take_of_length_le (by omega)] at hx'
    rw [← any_isK hw]
    cases hc : want.any (isK x)
    · exact absurd (List.mem_filter.2 ⟨hx'.1, by simp [hc]⟩) hx'.2
    · rfl
set_option maxRecDepth 100000 in
set_option maxHeartbeats 1000000 in
theorem dBring (n0 H M : Nat) (r : Nat → Int) (l : List En) (log : List ByteArray) (left : Int) (dead : Bool) (big : Bool) (c : Nat) (vw : Value) (want : List En) (W : World) (h : HostI n0 H M r l log left dead W) (hL : LD big left dead c) (hb : big = true → 60000 ≤ c) (hc : c ≤ 500000)
    (hV : EnsT W vw want) (hsw : Srt want) (hsl : Srt l) (hkl : ∀ e ∈ l, Siz e) (hkw : ∀ e ∈ want, Siz e) (ht : ∀ e ∈ want, 0 ≤ e.t ∧ e.t ≤ 2) (hr : ∀ t : Nat, t < 3 → (cntT t want : Int) ≤ r t) (n1 : l.length ≤ 5000) (n2 : want.length ≤ 5000) (n4 : log.length ≤ 50000) :
    Calls Tryz.prog 111 #[dpI H, vw] W fun e W' => e = .returned (.tuple #[]) ∧ ∃ left' dead', HostI n0 H M r (afterL l want c) (log ++ (doneL l want).take c) left' dead' W' ∧ HW n0 M W W' := by
  obtain ⟨ls, hls⟩ := kens hkl
  obtain ⟨ws, hws⟩ := kens hkw
  have hll : ls.length = l.length := by rw [← hls]; simp
  have hwl : ws.length = want.length := by rw [← hws]; simp
  obtain ⟨e1, e2⟩ := recAll_gen l want c log
  rw [← recAll_fit hsl hsw ht hr] at e1 e2
  have hst : StI l.length log.length c ((l, c), log) := ⟨hsl, fun e he => (hkl e he).1, Nat.le_refl _, Nat.le_refl _, Nat.le_refl _⟩
  have hst1 := hst.fold1 want ls
  rw [hls] at hst1
  have hc1 := rec1_cnt want l ((l, c), log)
  obtain ⟨S, hS⟩ : ∃ S, l.foldl (rec1 want) ((l, c), log) = S := ⟨_, rfl⟩
  rw [hS] at e1 e2 hst1 hc1
  rw [← e1, ← e2]
  obtain ⟨wa, wc, rfl⟩ := hV.in.slice
  go_enter Tryz.func111, Tryz.ntmps111
  go_wp2_with fail
  refine (dHeld n0 H M r l log left dead W h hsl (by omega)).mono ?_
  rintro e w1 ⟨vt, rfl, hT, q1⟩
  have k1 := h.keep q1
  have w1' := HW.below (M := M) q1 h.n0
  have hV1 := hV.keep q1
  obtain ⟨ta, tc, rfl⟩ := hT.in.slice
  go_wp2_with fail
  refine (dDropOthers n0 H M r l log left dead big c _ _ ls want w1 k1 hL (fun e => by have := hb e; omega) hc (by rw [hls]; exact hT) hV1 hsw hsl (fun e he => (hkl e he).1) (by omega) (by omega) (by omega)).mono ?_
  rintro e w2 ⟨rfl, lf, dd, k2, hL2, w2'⟩
  rw [hls, hS] at k2 hL2
  have hT2 := hT.hk w2'.1
  have hV2 := hV1.hk w2'.1
  have hlen := hst1.len
  have hlog := hst1.log
  have hcnt := hst1.cnt
  go_wp2_with fail
  refine (dPutMissing n0 H M r S.1.1 S.2 lf dd big S.1.2 _ _ l ws w2 k2 hL2 (fun e => by have := hb e; omega) (by omega) (by rw [hws]; exact hV2) hT2 hsl hst1.srt hst1.kok (by omega) (by omega) (by omega) (by omega)).mono ?_
  rintro e w3 ⟨rfl, lf', dd', k3, hL3, w3'⟩
  rw [hws] at k3
  go_wp2_with fail
  go_end0
  exact ⟨rfl, lf', dd', k3, (w1'.trans w2').trans w3'⟩
/-- What comes of a Reconcile. -/
def RecP (n0 H M : Nat) (r : Nat → Int) (l want : List En) (log : List ByteArray) (left : Int) (dead : Bool) (c : Nat) (x : Value) (W' : World) : Prop :=
  (overL want r = -1 ∧ x = .nilIface ∧ ∃ left' dead', HostI n0 H M r (afterL l want c) (log ++ (doneL l want).take c) left' dead' W') ∨ (0 ≤ overL want r ∧ ErrIs W' x 10 (overL want r) ∧ HostI n0 H M r l log left dead W')
theorem overL_room {l : List En} {r : Nat → Int} (h : overL l r = -1) : ∀ t : Nat, t < 3 → (cntT t l : Int) ≤ r t := by
  unfold overL at h
  split at h
  · omega
  · split at h
    · omega
    · split at h
      · omega
      · intro t ht
        match t, ht with
        | 0, _ => simp; omega
        | 1, _ => simp; omega
        | 2, _ => simp; omega
set_option maxRecDepth 100000 in
set_option maxHeartbeats 1000000 in
theorem dReconcile (n0 H M : Nat) (r : Nat → Int) (l : List En) (log : List ByteArray) (left : Int) (dead : Bool) (big : Bool) (c : Nat) (vw : Value) (want : List En) (W : World) (h : HostI n0 H M r l log left dead W) (hL : LD big left dead c) (hb : big = true → 60000 ≤ c) (hc : c ≤ 500000)
    (hV : EnsT W vw want) (hsw : Srt want) (hsl : Srt l) (hkl : ∀ e ∈ l, Siz e) (hkw : ∀ e ∈ want, Siz e) (ht : ∀ e ∈ want, 0 ≤ e.t ∧ e.t ≤ 2) (n1 : l.length ≤ 5000) (n2 : want.length ≤ 5000) (n4 : log.length ≤ 50000) :
    Calls Tryz.prog 86 #[dpI H, vw] W fun e W' => ∃ x, e = .returned x ∧ RecP n0 H M r l want log left dead c x W' ∧ HW n0 M W W' := by
  obtain ⟨wa, wc, rfl⟩ := hV.in.slice
  go_enter Tryz.func86, Tryz.ntmps86
  go_wp2_with fail
  refine (dFull n0 H M r l log left dead W h _ want hV.in (by omega)).mono ?_
  rintro e w1 ⟨x, rfl, hF, q1⟩
  have k1 := h.keep q1
  have w1' := HW.below (M := M) q1 h.n0
  have hV1 := hV.keep q1
  rcases hF with ⟨ho, rfl⟩ | ⟨ho, hE⟩
  · go_wp2_with fail
    refine (dBring n0 H M r l log left dead big c _ want w1 k1 hL hb hc hV1 hsw hsl hkl hkw ht (overL_room ho) n1 n2 n4).mono ?_
    rintro e w2 ⟨rfl, lf, dd, k2, w2'⟩
    go_wp2_with fail
    go_ret
    exact ⟨_, rfl, .inl ⟨ho, rfl, lf, dd, k2⟩, w1'.trans w2'⟩
  · obtain ⟨hk0, _⟩ | ⟨_, b, rfl⟩ := hE.cases0
    · omega
    · go_wp2_with fail
      go_ret
      exact ⟨_, rfl, .inr ⟨ho, hE, k1⟩, w1'⟩
set_option maxRecDepth 100000 in
set_option maxHeartbeats 1000000 in
theorem oReconcile (n0 H M T : Nat) (r : Nat → Int) (l : List En) (log : List ByteArray) (left : Int) (dead : Bool) (big : Bool) (c : Nat) (want : List En) (W : World) (h : HostI n0 H M r l log left dead W) (hL : LD big left dead c) (hb : big = true → 60000 ≤ c) (hc : c ≤ 500000)
    (hV : TabIs W T want) (hsw : Srt want) (hsl : Srt l) (hkl : ∀ e ∈ l, Siz e) (hkw : ∀ e ∈ want, Siz e) (ht : ∀ e ∈ want, 0 ≤ e.t ∧ e.t ≤ 2) (n1 : l.length ≤ 5000) (n2 : want.length ≤ 5000) (n4 : log.length ≤ 50000) :
    Calls Tryz.prog 61 #[dpI H, .pointer (some ⟨T, 0, none⟩)] W fun e W' => ∃ x, e = .returned x ∧ RecP n0 H M r l want log left dead c x W' ∧ HW n0 M W W' := by
  obtain ⟨v, hbk, ho⟩ := hV.blk
  have tc : W.cell? ⟨T, 0, none⟩ = some v := by simp [World.cell?, hbk]
  have hE := EnsT.of_owns ho
  obtain ⟨wa, wc, rfl⟩ := hE.in.slice
  have hlo : Calls Tryz.prog 78 #[.pointer (some ⟨T, 0, none⟩)] W fun e w' => e = .returned (.slice wa want.length wc) ∧ w' = W := by
    go_enter Tryz.func78, Tryz.ntmps78
    go_wp2
    go_ret
    exact ⟨rfl, rfl⟩
  go_enter Tryz.func61, Tryz.ntmps61
  go_wp2_with fail
  refine hlo.mono ?_
  rintro e w1 ⟨rfl, rfl⟩
  go_wp2_with fail
  refine (dReconcile n0 H M r l log left dead big c _ want _ h hL hb hc hE hsw hsl hkl hkw ht n1 n2 n4).mono ?_
  rintro e w2 ⟨x, rfl, hR, w2'⟩
  go_wp2
  go_ret
  exact ⟨x, rfl, hR, w2'⟩
end Go.Proofs.YtindifjhocgkbaaGreatDoor
