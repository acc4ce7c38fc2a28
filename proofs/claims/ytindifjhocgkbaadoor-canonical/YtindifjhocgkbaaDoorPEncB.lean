import Derived.Test.YtindifjhocgkbaaDoorPEnc
namespace Go.Proofs.YtindifjhocgkbaaDoor
open Go.RowKit

/-- The string that Encode's bytes are ("" where there is a fault). -/
def encS (v : Int) (l : List OpD) : ByteArray := if (wrongD v l).1 = 0 then ⟨(encB v l).toArray⟩ else ⟨#[]⟩

/-- The changes from place j on, in the copy. -/
def RestAt (w : World) (ao : Option Addr) (l : List OpD) (j : Nat) : Prop := ∀ i (hi : i < l.length), j ≤ i → ∃ g, ao = some ⟨g, 0, none⟩ ∧
  w.cell? ⟨g, i * 4, none⟩ = some (.int .i64 l[i].kind) ∧ w.cell? ⟨g, i * 4 + 1, none⟩ = some (.int .i64 l[i].table) ∧ w.cell? ⟨g, i * 4 + 2, none⟩ = some (.string l[i].key) ∧ w.cell? ⟨g, i * 4 + 3, none⟩ = some (.string l[i].val) ∧
  w.frozen? ⟨g, i * 4, none⟩ = false ∧ w.frozen? ⟨g, i * 4 + 1, none⟩ = false ∧ w.frozen? ⟨g, i * 4 + 2, none⟩ = false ∧ w.frozen? ⟨g, i * 4 + 3, none⟩ = false
theorem rest_of_own {w : World} {base cap : Nat} {ao : Option Addr} {l : List OpD} (h : w.ownsRow base 47 4 (.slice ao l.length cap) l.length (opsC l)) : RestAt w ao l 0 := by
  intro i hi _
  rcases h.2 with ⟨e, h0⟩ | ⟨g, cp, cur, e, hb, hg, hn, hm, hs, ht⟩
  · omega
  · simp only [Value.slice.injEq] at e
    obtain ⟨rfl, _, _⟩ := e
    have hc := h.cells (g := g) rfl
    have ha : ∀ j, (⟨g, 0, none⟩ : Addr).add j = ⟨g, j, none⟩ := fun j => by unfold Addr.add; split <;> simp_all
    have hf : ∀ j, w.frozen? ⟨g, j, none⟩ = false := fun j => by simp [World.frozen?, hg]
    have gg := opsC_get l i hi
    refine ⟨g, rfl, ?_, ?_, ?_, ?_, hf _, hf _, hf _, hf _⟩
    · have := hc _ _ gg.1; rw [ha] at this; exact this
    · have := hc _ _ gg.2.1; rw [ha] at this; exact this
    · have := hc _ _ gg.2.2.1; rw [ha] at this; exact this
    · have := hc _ _ gg.2.2.2; rw [ha] at this; exact this
theorem grown_set {W w : World} {g off : Nat} {v : Value} (h : W.grownBy w (some g)) : W.grownBy (w.setCell ⟨g, off, none⟩ v) (some g) :=
  ⟨h.os, h.tape, h.output, by simpa [World.setCell] using h.size, fun k hk hne => by rw [Below.heap_setCell _ _ _ _ (fun e => hne (by simp [e]))]; exact h.block k hk hne⟩
theorem grown_drawn {W w : World} {row : Option Nat} (h : W.grownBy w row) (n : Nat) : W.grownBy (w.drewN n) row := ⟨h.os, h.tape, h.output, h.size, h.block⟩
theorem rest_step {w : World} {g : Nat} {l : List OpD} {j : Nat} (h : RestAt w (some ⟨g, 0, none⟩) l j) (n : Nat) (v0 v1 v2 v3 : Value) :
    RestAt (((((w.drewN n).setCell ⟨g, j * 4, none⟩ v0).setCell ⟨g, j * 4 + 1, none⟩ v1).setCell ⟨g, j * 4 + 2, none⟩ v2).setCell ⟨g, j * 4 + 3, none⟩ v3) (some ⟨g, 0, none⟩) l (j + 1) := by
  intro i hi hij
  obtain ⟨g', e, c0, c1, c2, c3, f0, f1, f2, f3⟩ := h i hi (by omega)
  cases e
  have hc : ∀ o, j * 4 + 4 ≤ o → (((((w.drewN n).setCell ⟨g, j * 4, none⟩ v0).setCell ⟨g, j * 4 + 1, none⟩ v1).setCell ⟨g, j * 4 + 2, none⟩ v2).setCell ⟨g, j * 4 + 3, none⟩ v3).cell? ⟨g, o, none⟩ = w.cell? ⟨g, o, none⟩ := by
    intro o ho
    rw [World.cell?_setCell_other _ _ _ _ (by simp <;> omega), World.cell?_setCell_other _ _ _ _ (by simp <;> omega), World.cell?_setCell_other _ _ _ _ (by simp <;> omega), World.cell?_setCell_other _ _ _ _ (by simp <;> omega)]
    rfl
  refine ⟨g, rfl, ?_, ?_, ?_, ?_, ?_, ?_, ?_, ?_⟩
  · rw [hc _ (by omega)]; exact c0
  · rw [hc _ (by omega)]; exact c1
  · rw [hc _ (by omega)]; exact c2
  · rw [hc _ (by omega)]; exact c3
  · simp only [World.frozen?_setCell]; exact f0
  · simp only [World.frozen?_setCell]; exact f1
  · simp only [World.frozen?_setCell]; exact f2
  · simp only [World.frozen?_setCell]; exact f3
/-- A copy of the changes, made by append. -/
theorem clone_some {w : World} {ad : Addr} {l : List OpD} (ho : OpsIn w (some ad) l) : ∀ j u, (opsC l)[j]? = some u → w.cell? (ad.add j) = some u := by
  by_cases hp : 0 < l.length
  · obtain ⟨b, off, e, _, h⟩ := ho hp
    cases e
    exact opsC_cells h
  · intro j u hu
    have : l = [] := List.eq_nil_of_length_eq_zero (by omega)
    subst this
    simp [opsC] at hu

theorem wpList_clone {P : Program} (w : World) {ops : Array Oper} {rest : List Oper} {o : Oper} {a : Act} {Q : Exit → Act → World → Prop} (hgd : o.guard = none) (s x : Operand) (t : TypeId)
    (hop : o.op = .call { callee := .builtin .append, args := #[s, x], argTypes := #[t, t] }) (base : Nat) (i : TypeInfo) (z : Value) (ht : P.underlying t = some (.slice 47)) (hi : P.info? 47 = some i) (hz : i.zero = some z)
    (hsize : i.size = 4) (hby : i.bytes = 48) (hzs : z.cells.size = 4) (hs : a.eval s = .slice none 0 0) (ao : Option Addr) (cap : Nat) (l : List OpD) (hx : a.eval x = .slice ao l.length cap) (hn : ao = none → cap = 0) (ho : OpsIn w ao l)
    (hb : l.length * 48 ≤ 140737488355328) (hbase : base ≤ w.heap.size) (h : ∀ v' w', w'.ownsRow base 47 4 v' l.length (opsC l) → w.grownBy w' none → wpList P ops Q rest (a.put o.dst v') w') : wpList P ops Q (o :: rest) a w := by
  cases ao with
  | none =>
    have h0 : l.length = 0 := by
      rcases Nat.eq_zero_or_pos l.length with h' | h'
      · exact h'
      · obtain ⟨_, _, e, _⟩ := ho h'; cases e
    have hl : l = [] := List.eq_nil_of_length_eq_zero h0
    subst hl
    obtain rfl := hn rfl
    refine wpList_append_own_none hgd s x t hop base 47 i 4 ht hi _ 0 [] hs (World.ownsRow_nil _ _ _ _) hx ?_
    exact h _ _ (World.ownsRow_nil _ _ _ _) ⟨rfl, rfl, rfl, Nat.le_refl _, fun _ _ _ => rfl⟩
  | some ad =>
    refine wpList_append_own w hgd s x t hop base 47 i z 4 48 ht hi hz hsize hby hzs (by decide) _ 0 [] hs (World.ownsRow_nil _ _ _ _) ad l.length cap (opsC l) hx (opsC_length l) (clone_some ho) (opsC_one l) (by unfold maxLen; omega) (by omega) hbase ?_
    intro v' w' h1 h2 _
    simp only [Nat.zero_add, List.nil_append] at h1
    exact h v' w' h1 h2

set_option maxRecDepth 10000 in
set_option maxHeartbeats 2000000 in
theorem pEncode (v : Int) (ao : Option Addr) (cap : Nat) (l : List OpD) (w : World) (h0 : 0 ≤ v) (hn : ao = none → cap = 0) (hby : l.length * 48 ≤ 140737488355328) (ho : OpsIn w ao l) (g : Glob w) (he : EtIs w) :
    Calls Tryd.prog 14 #[.agg #[.int .u64 v, .slice ao l.length cap]] w fun e w' => e = .returned (.tuple #[.string (encS v l), .agg #[.int .i64 (wrongD v l).1, .int .i64 (wrongD v l).2, .int .i64 0]]) ∧ Below w.heap.size w w' := by
  obtain ⟨i0, hi, hz0, hz1, hz2⟩ := info_parts Tryd.info47
  have qA : ∀ x y, Below w.heap.size w ((w.alloc x).alloc y) := fun x y => below_trans (below_alloc _ _) (below_alloc _ _)
  have oA : ∀ x y, OpsIn ((w.alloc x).alloc y) ao l := fun x y => ho.keep (qA x y)
  go_enter Tryd.func14, Tryd.ntmps14
  go_wp2_with (at_builtin; refine wpList_clone _ rfl _ _ 23 rfl (w.heap.size + 2) i0 (.agg #[.int .i64 0, .int .i64 0, .string ⟨#[]⟩, .string ⟨#[]⟩]) Tryd.underlying23 hi hz0 hz1 hz2 rfl rfl ao cap l rfl hn (oA _ _) hby (by simp) ?_; intro v1 w1 hown1 hgrow1; obtain ⟨ao1, cap1, rfl, hc1, hm1, ho1, hg1⟩ := ops_of_own hown1; have z0 := hgrow1.cell (a := ⟨w.heap.size, 0, none⟩) (v := .int .u64 v) (by simp) (by simp); have z1 := hgrow1.cell (a := ⟨w.heap.size, 1, none⟩) (v := .slice ao l.length cap) (by simp) (by simp))
  have qo1 : Below w.heap.size w w1 := (qA _ _).grown hgrow1 (by simp; omega) (fun k hk => by cases hk)
  have r0 := hgrow1.cell (a := ⟨w.heap.size + 1, 0, none⟩) (v := .int .i64 0) (by simp) (by simp)
  have r1 := hgrow1.cell (a := ⟨w.heap.size + 1, 1, none⟩) (v := .int .i64 0) (by simp) (by simp)
  have r2 := hgrow1.cell (a := ⟨w.heap.size + 1, 2, none⟩) (v := .int .i64 0) (by simp) (by simp)
  have s0 : w1.frozen? ⟨w.heap.size + 1, 0, none⟩ = false := (World.frozen?_of_block (hgrow1.block _ (by simp) (by simp))).trans (by simp)
  have s1 : w1.frozen? ⟨w.heap.size + 1, 1, none⟩ = false := (World.frozen?_of_block (hgrow1.block _ (by simp) (by simp))).trans (by simp)
  have s2 : w1.frozen? ⟨w.heap.size + 1, 2, none⟩ = false := (World.frozen?_of_block (hgrow1.block _ (by simp) (by simp))).trans (by simp)
  have hs1 : w.heap.size + 2 ≤ w1.heap.size := by have := hgrow1.size; simp at this; omega
  clear hgrow1 qA oA
  go_wp2_with fail
  refine (oEncode v ao1 cap1 l _ h0 hc1 ho1 (g.keep qo1)).mono ?_
  rintro e w2 ⟨bb, x, rfl, hx, q2⟩
  have hxe : ErrIs w2 x (wrongD v l).1 (wrongD v l).2 := by
    rcases hx with ⟨_, _, h⟩ | ⟨h1, h2, _⟩
    · exact h
    · rw [wrongD_zero h1]; exact .inl ⟨rfl, rfl, h2⟩
  go_wp2_with fail
  refine (partsOf x _ _ _ ((he.keep qo1).keep q2) hxe).mono ?_
  rintro e w3 ⟨rfl, q3⟩
  have q13 : Below w1.heap.size w1 w3 := below_trans q2 q3
  obtain ⟨W4, hW4⟩ : ∃ W4, W4 = w3.alloc (.cells #[.int .i64 (wrongD v l).1, .int .i64 (wrongD v l).2, .int .i64 0] 39) := ⟨_, rfl⟩
  have q14 : Below w1.heap.size w1 W4 := by rw [hW4]; exact below_trans q13 (below_alloc _ _)
  have hS4 : W4.heap.size = w3.heap.size + 1 := by rw [hW4]; simp
  have fc : W4.cell? ⟨w3.heap.size, 0, none⟩ = some (.int .i64 (wrongD v l).1) ∧ W4.cell? ⟨w3.heap.size, 1, none⟩ = some (.int .i64 (wrongD v l).2) ∧ W4.cell? ⟨w3.heap.size, 2, none⟩ = some (.int .i64 0) := by rw [hW4]; simp
  have hown4 : W4.ownsRow (w.heap.size + 2) 47 4 (.slice ao1 l.length cap1) l.length (opsC l) := by
    rcases hown1.2 with hn | ⟨gg, cp, cur, e1, hb1, hg2, r⟩
    · exact ⟨hown1.1, .inl hn⟩
    · exact ⟨hown1.1, .inr ⟨gg, cp, cur, e1, hb1, by rw [q14.block gg (Array.getElem?_eq_some_iff.1 hg2).1]; exact hg2, r⟩⟩
  have hrow : ∀ k, (Value.slice ao1 l.length cap1).ownBlock = some k → w.heap.size + 2 ≤ k ∧ k < w1.heap.size := hown1.lt
  have conv : ∃ bo bn bc, bb = .slice bo bn bc ∧ (∀ W, W4.grownBy W (Value.slice ao1 l.length cap1).ownBlock → (convert 34 9 bb).run Tryd.prog W.drew = .ok (.string (encS v l)) W.drew) ∧ ((x = .nilIface ∧ ((bn : Int) == 0) = false) ∨ ((∃ p, x = .iface 100 p) ∧ ((bn : Int) == 0) = true)) := by
    rcases hx with ⟨hk, rfl, hxx⟩ | ⟨hk, rfl, hownb⟩
    · refine ⟨none, 0, 0, rfl, fun W _ => ?_, .inr ⟨?_, rfl⟩⟩
      · rw [encS, if_neg hk]; exact string_of_nil _
      · rcases hxx.cases0 with ⟨e0, _⟩ | ⟨_, b, e1⟩
        · exact absurd e0 hk
        · exact ⟨_, e1⟩
    · rw [← encB_cells hk] at hownb
      obtain ⟨_, bo, bc, e1⟩ := string_of_own hownb
      refine ⟨bo, _, bc, e1, fun W hW => ?_, .inl ⟨rfl, ?_⟩⟩
      · rw [encS, if_pos hk]
        have k4 : W4.ownsRow w1.heap.size 5 1 bb (cellsB (encB v l)).length (cellsB (encB v l)) := by
          rcases hownb.2 with hn | ⟨g3, cp, cur, e2, hb1, hg2, r⟩
          · exact ⟨hownb.1, .inl hn⟩
          · refine ⟨hownb.1, .inr ⟨g3, cp, cur, e2, hb1, ?_, r⟩⟩
            have q24 : Below w2.heap.size w2 W4 := by rw [hW4]; exact below_trans q3 (below_alloc _ _)
            rw [q24.block g3 (Array.getElem?_eq_some_iff.1 hg2).1]; exact hg2
        have k5 := k4.kept hW (by
          cases hbb : bb.ownBlock with
          | none => exact .inl rfl
          | some k => exact .inr (fun e => by have h1 := (k4.lt k hbb).1; have h2 := (hrow k e.symm).2; omega))
        exact (string_of_own k5.drew).1
      · have := encB_pos v l
        rw [beq_eq_false_iff_ne]; omega
  obtain ⟨bo, bn, bc, rfl, hconv, hxx⟩ := conv
  have HC : Hid (∀ W, W4.grownBy W (Value.slice ao1 l.length cap1).ownBlock → (convert 34 9 (.slice bo bn bc)).run Tryd.prog W.drew = .ok (.string (encS v l)) W.drew) := hconv
  have hs13 : w1.heap.size ≤ w3.heap.size := q13.size
  clear hconv hx hxe q2 q3 hown1 hg1 ho1 q13
  have zz0 : W4.cell? ⟨w.heap.size, 1, none⟩ = some (.slice ao l.length cap) := (q14.cell (p := ⟨w.heap.size, 1, none⟩) (cell_lt z1)).trans z1
  have rr0 := (q14.cell (p := ⟨w.heap.size + 1, 0, none⟩) (cell_lt r0)).trans r0
  have rr1 := (q14.cell (p := ⟨w.heap.size + 1, 1, none⟩) (cell_lt r1)).trans r1
  have rr2 := (q14.cell (p := ⟨w.heap.size + 1, 2, none⟩) (cell_lt r2)).trans r2
  have ss0 := (q14.frozen (p := ⟨w.heap.size + 1, 0, none⟩) (cell_lt r0)).trans s0
  have ss1 := (q14.frozen (p := ⟨w.heap.size + 1, 1, none⟩) (cell_lt r1)).trans s1
  have ss2 := (q14.frozen (p := ⟨w.heap.size + 1, 2, none⟩) (cell_lt r2)).trans s2
  have qo4 : Below w.heap.size w W4 := qo1.trans (q14.mono (by omega))
  obtain ⟨fc0, fc1, fc2⟩ := fc
  have HW4 : Hid (W4 = w3.alloc (.cells #[.int .i64 (wrongD v l).1, .int .i64 (wrongD v l).2, .int .i64 0] 39)) := hW4
  clear z0 z1 r0 r1 r2 s0 s1 s2 qo1
  rcases hxx with ⟨rfl, hb0⟩ | ⟨⟨p, rfl⟩, hb0⟩
  all_goals
    go_wp2_with fail
    rw [← HW4.out]
    go_loopw [8, 31] (fun _ i wr => ∃ j : Nat, j ≤ l.length ∧ i = .int .i64 j ∧ W4.grownBy wr (Value.slice ao1 l.length cap1).ownBlock ∧ RestAt wr ao1 l j)
      (fun _ i _ => l.length - (intOf i).toNat)
    case atStart => exact ⟨0, Nat.zero_le _, rfl, ⟨rfl, rfl, rfl, Nat.le_refl _, fun _ _ _ => rfl⟩, rest_of_own hown4⟩
    case round =>
      obtain ⟨j, hj, rfl, hgr, hrest⟩ := hrel
      have hcell : ∀ a v, W4.cell? a = some v → (∀ k, (Value.slice ao1 l.length cap1).ownBlock = some k → a.block ≠ k) → wr.cell? a = some v := fun a v h h' => hgr.cell h (fun e => h' _ e.symm rfl)
      have y1 := hcell _ _ zz0 (fun k hk => by have := hrow k hk; simp; omega)
      by_cases hlt : j < l.length
      · obtain ⟨b, off, e1, hb, ho'⟩ := ho (by omega)
        obtain ⟨gb, rfl, c0, c1, c2, c3, f0, f1, f2, f3⟩ := hrest j hlt (Nat.le_refl _)
        subst e1
        have hbk : ∀ k, (Value.slice (some ⟨gb, 0, none⟩) l.length cap1).ownBlock = some k → b ≠ k := fun k hk => by have := hrow k hk; omega
        have d0 := hcell _ _ ((qo4.cell (p := ⟨b, off + j * 4, none⟩) hb).trans (ho'.c0 j hlt)) hbk
        have d1 := hcell _ _ ((qo4.cell (p := ⟨b, off + j * 4 + 1, none⟩) hb).trans (ho'.c1 j hlt)) hbk
        have d2 := hcell _ _ ((qo4.cell (p := ⟨b, off + j * 4 + 2, none⟩) hb).trans (ho'.c2 j hlt)) hbk
        have d3 := hcell _ _ ((qo4.cell (p := ⟨b, off + j * 4 + 3, none⟩) hb).trans (ho'.c3 j hlt)) hbk
        have ij : ((j : Nat) : Int) < (l.length : Int) := by omega
        have HCE := (show Hid _ from hcell)
        clear hcell
        go_wp2_with fail
        go_quiet (fail)
        go_wp2_with fail
        go_roundw
        case rel => exact ⟨j + 1, by omega, by go_num, grown_set (grown_set (grown_set (grown_set (grown_drawn hgr _)))), rest_step hrest _ _ _ _ _⟩
        case measure => simp [intOf]; omega
      · obtain rfl : j = l.length := by omega
        have hfr : ∀ a : Addr, a.block < W4.heap.size → (∀ k, (Value.slice ao1 l.length cap1).ownBlock = some k → a.block ≠ k) → wr.frozen? a = W4.frozen? a := fun a h h' => World.frozen?_of_block (hgr.block a.block h (fun e => h' _ e.symm rfl))
        have hA : ∀ k, (Value.slice ao1 l.length cap1).ownBlock = some k → w.heap.size + 1 ≠ k := fun k hk => by have := hrow k hk; omega
        have hB : ∀ k, (Value.slice ao1 l.length cap1).ownBlock = some k → w3.heap.size ≠ k := fun k hk => by have := hrow k hk; omega
        have a0 := hcell _ _ fc0 hB
        have a1 := hcell _ _ fc1 hB
        have a2 := hcell _ _ fc2 hB
        have b0 := hcell _ _ rr0 hA
        have b1 := hcell _ _ rr1 hA
        have b2 := hcell _ _ rr2 hA
        have t0 := (hfr _ (cell_lt rr0) hA).trans ss0
        have t1 := (hfr _ (cell_lt rr1) hA).trans ss1
        have t2 := (hfr _ (cell_lt rr2) hA).trans ss2
        have hcv := HC.out wr hgr
        have q4r : Below w.heap.size w wr := qo4.grown hgr qo4.size (fun k hk => by have := hrow k hk; omega)
        clear hcell hfr hrest
        go_wp2_with fail
        go_region
        go_wp2
        exact bodyPost_ret (v := .tuple #[.string (encS v l), .agg #[.int .i64 (wrongD v l).1, .int .i64 (wrongD v l).2, .int .i64 0]]) (by simp [results, Tryd.results14, go_sem, b0, b1, b2]) rfl ⟨rfl, (((q4r.setCell (by simp) _).setCell (by simp) _).setCell (by simp) _).drew⟩
end Go.Proofs.YtindifjhocgkbaaDoor
