import Derived.Test.YtindifjhocgkbaaDoorAptB
import Derived.Test.YtindifjhocgkbaaDoorKeepC
namespace Go.Proofs.YtindifjhocgkbaaDoor
open Go.RowKit

/-- Two tables, and what they hold. -/
structure AptI (w : World) (Ta Fa Tb Fb : Nat) (la lb : List En) (W : World) : Prop where
  ta : TabIs W Ta la
  fa : W.cell? ⟨Fa, 0, none⟩ = some (.pointer (some ⟨Ta, 0, none⟩))
  tb : TabIs W Tb lb
  fb : W.cell? ⟨Fb, 0, none⟩ = some (.pointer (some ⟨Tb, 0, none⟩))
  q : Below w.heap.size w W
theorem AptI.keep {w : World} {Ta Fa Tb Fb : Nat} {la lb : List En} {W W' : World} (h : AptI w Ta Fa Tb Fb la lb W) (q : Below W.heap.size W W') : AptI w Ta Fa Tb Fb la lb W' :=
  ⟨h.ta.keep q, (q.cell (p := ⟨Fa, 0, none⟩) (cell_lt h.fa)).trans h.fa, h.tb.keep q, (q.cell (p := ⟨Fb, 0, none⟩) (cell_lt h.fb)).trans h.fb, below_trans h.q q⟩
theorem AptI.appA {w : World} {Ta Fa Tb Fb : Nat} {la lb la' : List En} {W W' : World} (h : AptI w Ta Fa Tb Fb la lb W) (t : TabIs W' Ta la') (g : W.grownBy W' (some Ta)) (hd : Fa ≠ Ta ∧ Tb ≠ Ta ∧ Fb ≠ Ta ∧ w.heap.size ≤ Ta) : AptI w Ta Fa Tb Fb la' lb W' := by
  obtain ⟨v, hv, _⟩ := h.ta.blk
  exact ⟨t, g.cell h.fa (by simpa using hd.1), h.tb.far hv (by decide) (by omega) g, g.cell h.fb (by simpa using hd.2.2.1), h.q.grown g h.q.size (fun b hb => by cases hb; exact hd.2.2.2)⟩
theorem AptI.appB {w : World} {Ta Fa Tb Fb : Nat} {la lb lb' : List En} {W W' : World} (h : AptI w Ta Fa Tb Fb la lb W) (t : TabIs W' Tb lb') (g : W.grownBy W' (some Tb)) (hd : Fa ≠ Tb ∧ Ta ≠ Tb ∧ Fb ≠ Tb ∧ w.heap.size ≤ Tb) : AptI w Ta Fa Tb Fb la lb' W' := by
  obtain ⟨v, hv, _⟩ := h.tb.blk
  exact ⟨h.ta.far hv (by decide) (by omega) g, g.cell h.fa (by simpa using hd.1), t, g.cell h.fb (by simpa using hd.2.2.1), h.q.grown g h.q.size (fun b hb => by cases hb; exact hd.2.2.2)⟩
theorem apt_start (w : World) : AptI w w.heap.size (w.heap.size + 1) (w.heap.size + 1 + 1) (w.heap.size + 1 + 1 + 1) [] [] ((((w.alloc (.cells #[.slice none 0 0] 92)).alloc (.cells #[.pointer (some ⟨w.heap.size, 0, none⟩)] 81)).alloc (.cells #[.slice none 0 0] 92)).alloc (.cells #[.pointer (some ⟨w.heap.size + 1 + 1, 0, none⟩)] 81)) := by
  have q2 := below_alloc (w.alloc (.cells #[.slice none 0 0] 92)) (.cells #[.pointer (some ⟨w.heap.size, 0, none⟩)] 81)
  have q3 := below_alloc ((w.alloc (.cells #[.slice none 0 0] 92)).alloc (.cells #[.pointer (some ⟨w.heap.size, 0, none⟩)] 81)) (.cells #[.slice none 0 0] 92)
  have q4 := below_alloc (((w.alloc (.cells #[.slice none 0 0] 92)).alloc (.cells #[.pointer (some ⟨w.heap.size, 0, none⟩)] 81)).alloc (.cells #[.slice none 0 0] 92)) (.cells #[.pointer (some ⟨w.heap.size + 1 + 1, 0, none⟩)] 81)
  have q34 := below_trans q3 q4
  have t1 : TabIs (w.alloc (.cells #[.slice none 0 0] 92)) w.heap.size [] := ⟨_, heap_alloc_new _ _, World.ownsRow_nil _ _ _ _⟩
  have t2 : TabIs (((w.alloc (.cells #[.slice none 0 0] 92)).alloc (.cells #[.pointer (some ⟨w.heap.size, 0, none⟩)] 81)).alloc (.cells #[.slice none 0 0] 92)) (w.heap.size + 1 + 1) [] := ⟨_, by have hh := heap_alloc_new ((w.alloc (.cells #[.slice none 0 0] 92)).alloc (.cells #[.pointer (some ⟨w.heap.size, 0, none⟩)] 81)) (.cells #[.slice none 0 0] 92); simpa using hh, World.ownsRow_nil _ _ _ _⟩
  refine ⟨(t1.keep q2).keep q34, (q34.cell (p := ⟨w.heap.size + 1, 0, none⟩) (by simp)).trans (World.cell?_alloc_at _ _ _ 0 (by simp)), t2.keep q4, World.cell?_alloc_at _ _ _ 0 (by simp), below_trans (below_trans (below_alloc _ _) q2) q34⟩

theorem below_none {w w' : World} (g : w.grownBy w' none) : Below w.heap.size w w' := ⟨g.os, g.tape, g.output, g.size, fun k hk => g.block k hk (by simp)⟩
/-- A delta in a block D of its own, all below B. -/
structure DelAt (B : Nat) (W : World) (D : Nat) (v : Int) (l : List OpD) (ao : Option Addr) (cp : Nat) : Prop where
  own : ∃ b, W.ownsRow b 47 4 (.slice ao l.length cp) l.length (opsC l)
  c0 : W.cell? ⟨D, 0, none⟩ = some (.int .u64 v)
  c1 : W.cell? ⟨D, 1, none⟩ = some (.slice ao l.length cp)
  fr : W.frozen? ⟨D, 1, none⟩ = false
  ty : ∃ c f, W.heap[D]? = some (.cells c 25 f)
  ltD : D < B
  ltO : ∀ k, (Value.slice ao l.length cp).ownBlock = some k → k < B
theorem DelAt.grown {B : Nat} {W W' : World} {D : Nat} {v : Int} {l : List OpD} {ao : Option Addr} {cp : Nat} {r : Option Nat} (h : DelAt B W D v l ao cp) (g : W.grownBy W' r) (n1 : some D ≠ r) (n2 : (Value.slice ao l.length cp).ownBlock = none ∨ (Value.slice ao l.length cp).ownBlock ≠ r) : DelAt B W' D v l ao cp := by
  obtain ⟨b, ho⟩ := h.own
  obtain ⟨c, f, hty⟩ := h.ty
  have hD : D < W.heap.size := cell_lt h.c0
  exact ⟨⟨b, ho.kept g n2⟩, g.cell h.c0 n1, g.cell h.c1 n1, (World.frozen?_of_block (g.block D hD n1)).trans h.fr, ⟨c, f, (g.block D hD n1).trans hty⟩, h.ltD, h.ltO⟩
theorem DelAt.keep {B : Nat} {W W' : World} {D : Nat} {v : Int} {l : List OpD} {ao : Option Addr} {cp : Nat} (h : DelAt B W D v l ao cp) (q : Below W.heap.size W W') : DelAt B W' D v l ao cp :=
  h.grown (grown_below' none q) (by simp) (by cases (Value.slice ao l.length cp).ownBlock <;> simp)
theorem DelAt.ops {B : Nat} {W : World} {D : Nat} {v : Int} {l : List OpD} {ao : Option Addr} {cp : Nat} (h : DelAt B W D v l ao cp) : OpsIn W ao l ∧ l.length ≤ cp := by
  obtain ⟨b, ho⟩ := h.own
  obtain ⟨ao', cp', e1, h2, _, h4, _⟩ := ops_of_own ho
  simp only [Value.slice.injEq] at e1
  obtain ⟨rfl, _, rfl⟩ := e1
  exact ⟨h4, h2⟩
theorem DelAt.hi {B : Nat} {W W' : World} {D : Nat} {v : Int} {l : List OpD} {ao : Option Addr} {cp : Nat} (h : DelAt B W D v l ao cp) {e size n : Nat} {x : Value} {xs : List Value} (ho : W.ownsRow B e size x n xs) (g : W.grownBy W' x.ownBlock) : DelAt B W' D v l ao cp :=
  h.grown g (fun e => by have := (ho.lt D e.symm).1; have := h.ltD; omega) (by
    rcases hh : (Value.slice ao l.length cp).ownBlock with _ | k
    · exact .inl rfl
    · exact .inr fun e => by have := (ho.lt k e.symm).1; have := h.ltO k hh; omega)
theorem DelAt.tab {B : Nat} {W W' : World} {D : Nat} {v : Int} {l : List OpD} {ao : Option Addr} {cp : Nat} (h : DelAt B W D v l ao cp) {T : Nat} {ll : List En} (t : TabIs W T ll) (g : W.grownBy W' (some T)) : DelAt B W' D v l ao cp := by
  obtain ⟨v, hv, _⟩ := t.blk
  obtain ⟨c, f, hty⟩ := h.ty
  obtain ⟨b, ho⟩ := h.own
  exact h.grown g (fun e => by cases e; rw [hty] at hv; simp at hv) (.inr (fun e => own_ne ho hv (by decide) e.symm))
theorem DelAt.few {B : Nat} {W : World} {D : Nat} {v : Int} {l : List OpD} {ao : Option Addr} {cp : Nat} (h : DelAt B W D v l ao cp) {b : Nat} {f : List OpD} {af : Option Addr} {cf : Nat} (ho : W.ownsRow b 47 4 (.slice af f.length cf) f.length (opsC f)) : DelAt W.heap.size (W.setCell ⟨D, 1, none⟩ (.slice af f.length cf)) D v f af cf := by
  obtain ⟨c, g, hty⟩ := h.ty
  have hne : ∀ i j : Nat, i ≠ j → (⟨D, i, none⟩ : Addr) ≠ ⟨D, j, none⟩ := fun i j h e => h (Addr.mk.inj e).2.1
  refine ⟨⟨b, ho.kept (show W.grownBy _ (some D) from grown_set' (grown_refl _ _) rfl) (.inr (fun e => own_ne ho hty (by decide) e.symm))⟩, (World.cell?_setCell_other _ _ _ _ (hne 1 0 (by decide))).trans h.c0, World.cell?_setCell_same _ _ _ h.c1, (World.frozen?_setCell ..).trans h.fr, heap_setCell_type hty _ _, cell_lt h.c0, fun k hk => (ho.lt k hk).2⟩
theorem AptI.hi {w : World} {Ta Fa Tb Fb : Nat} {la lb : List En} {W W' : World} (h : AptI w Ta Fa Tb Fb la lb W) {B n : Nat} {x : Value} {xs : List Value} (ho : W.ownsRow B 47 4 x n xs) (g : W.grownBy W' x.ownBlock) (hB : Ta < B ∧ Fa < B ∧ Tb < B ∧ Fb < B ∧ w.heap.size ≤ B) : AptI w Ta Fa Tb Fb la lb W' := by
  rcases ho.2 with ⟨rfl, _⟩ | ⟨k, cap, cur, rfl, hb, hg, _⟩
  · exact h.keep (below_none g)
  · have g' : W.grownBy W' (some k) := g
    exact ⟨h.ta.far hg (by decide) (by omega) g', g'.cell h.fa (by simp; omega), h.tb.far hg (by decide) (by omega) g', g'.cell h.fb (by simp; omega), h.q.grown g' h.q.size (fun b hb => by cases hb; omega)⟩
theorem del_new {W : World} {v : Int} {l : List OpD} {ao : Option Addr} {cp b B : Nat} (ho : W.ownsRow b 47 4 (.slice ao l.length cp) l.length (opsC l)) (hB : W.heap.size < B) : DelAt B (W.alloc (.cells #[.int .u64 v, .slice ao l.length cp] 25)) W.heap.size v l ao cp :=
  ⟨⟨b, ho.kept (grown_below' none (below_alloc _ _)) (by cases (Value.slice ao l.length cp).ownBlock <;> simp)⟩, by simp, by simp, by simp, ⟨_, _, heap_alloc_new _ _⟩, hB, fun k hk => Nat.lt_trans (ho.lt k hk).2 hB⟩

theorem own_far {W W' : World} {b e size n : Nat} {x : Value} {xs : List Value} (h : W.ownsRow b e size x n xs) {R : Nat} {c : Array Value} {t : TypeId} {f : Nat × Nat} (hb : W.heap[R]? = some (.cells c t f)) (hne : t ≠ e) (g : W.grownBy W' (some R)) : W'.ownsRow b e size x n xs :=
  h.kept g (.inr (fun e => own_ne h hb hne e.symm))
theorem own_tab {W W' : World} {b n : Nat} {x : Value} {xs : List Value} (h : W.ownsRow b 47 4 x n xs) {T : Nat} {l : List En} (t : TabIs W T l) (g : W.grownBy W' (some T)) : W'.ownsRow b 47 4 x n xs := by
  obtain ⟨v, hv, _⟩ := t.blk
  exact own_far h hv (by decide) g
theorem own_keep {W W' : World} {b e size n : Nat} {x : Value} {xs : List Value} (h : W.ownsRow b e size x n xs) (q : Below W.heap.size W W') : W'.ownsRow b e size x n xs := h.kept (grown_below' none q) (by cases x.ownBlock <;> simp)
theorem aftD_good {l : List En} {v : Int} {ops : List OpD} (hv : verB v = true) (h1 : 1 ≤ ops.length) (h8 : ops.length ≤ 8) (h : PairOk ops) : wrongD v ops = (0, 0) ∧ aftD l v ops = aft l ops := by
  have hw := wrongD_good hv h1 h8 (of_pairOk h)
  exact ⟨hw, by unfold aftD; rw [hw]; rfl⟩
theorem applyA {w : World} {Ta Fa Tb Fb : Nat} {la lb : List En} {W : World} (h : AptI w Ta Fa Tb Fb la lb W) (hord : Ta < Fa ∧ Fa < Tb ∧ Tb < Fb) (hT : Ta = w.heap.size) (g : Glob w) (he : EtIs w) (hs : Srt la) (hn : la.length ≤ 1000) (v : Int) (hv : verB v = true) (h0 : 0 ≤ v) {ops : List OpD} (h1 : 1 ≤ ops.length) (h8 : ops.length ≤ 8) (hp : PairOk ops) {b : Nat} {ao : Option Addr} {cap : Nat} (ho : W.ownsRow b 47 4 (.slice ao ops.length cap) ops.length (opsC ops)) :
    Calls Tryd.prog 17 #[.pointer (some ⟨Fa, 0, none⟩), .agg #[.int .u64 v, .slice ao ops.length cap]] W fun e w' => e = .returned (.agg #[.int .i64 0, .int .i64 0, .int .i64 0]) ∧ AptI w Ta Fa Tb Fb (aft la ops) lb w' ∧ W.grownBy w' (some Ta) := by
  have g2 := g.lt
  obtain ⟨ao', cp', e1, e2, _, e4, _⟩ := ops_of_own ho
  simp only [Value.slice.injEq] at e1
  obtain ⟨rfl, _, rfl⟩ := e1
  obtain ⟨hw, ha⟩ := aftD_good (l := la) hv h1 h8 hp
  refine (fApply Fa Ta la v ao cap ops W h.fa h.ta h0 e2 e4 (g.keep h.q) (he.keep h.q) (by omega) hs (by omega)).mono ?_
  rintro e w' ⟨rfl, t, gr⟩
  rw [ha] at t
  rw [hw]
  exact ⟨rfl, h.appA t gr ⟨by omega, by omega, by omega, by omega⟩, gr⟩
theorem applyB {w : World} {Ta Fa Tb Fb : Nat} {la lb : List En} {W : World} (h : AptI w Ta Fa Tb Fb la lb W) (hord : Ta < Fa ∧ Fa < Tb ∧ Tb < Fb) (hT : Ta = w.heap.size) (g : Glob w) (he : EtIs w) (hs : Srt lb) (hn : lb.length ≤ 1000) (v : Int) (hv : verB v = true) (h0 : 0 ≤ v) {ops : List OpD} (h1 : 1 ≤ ops.length) (h8 : ops.length ≤ 8) (hp : PairOk ops) {b : Nat} {ao : Option Addr} {cap : Nat} (ho : W.ownsRow b 47 4 (.slice ao ops.length cap) ops.length (opsC ops)) :
    Calls Tryd.prog 17 #[.pointer (some ⟨Fb, 0, none⟩), .agg #[.int .u64 v, .slice ao ops.length cap]] W fun e w' => e = .returned (.agg #[.int .i64 0, .int .i64 0, .int .i64 0]) ∧ AptI w Ta Fa Tb Fb la (aft lb ops) w' ∧ W.grownBy w' (some Tb) := by
  have g2 := g.lt
  obtain ⟨ao', cp', e1, e2, _, e4, _⟩ := ops_of_own ho
  simp only [Value.slice.injEq] at e1
  obtain ⟨rfl, _, rfl⟩ := e1
  obtain ⟨hw, ha⟩ := aftD_good (l := lb) hv h1 h8 hp
  refine (fApply Fb Tb lb v ao cap ops W h.fb h.tb h0 e2 e4 (g.keep h.q) (he.keep h.q) (by omega) hs (by omega)).mono ?_
  rintro e w' ⟨rfl, t, gr⟩
  rw [ha] at t
  rw [hw]
  exact ⟨rfl, h.appB t gr ⟨by omega, by omega, by omega, by omega⟩, gr⟩

/-- Nothing wrong, in a block P of its own. -/
structure FltAt (W : World) (P : Nat) : Prop where
  c0 : W.cell? ⟨P, 0, none⟩ = some (.int .i64 0)
  c1 : W.cell? ⟨P, 1, none⟩ = some (.int .i64 0)
  c2 : W.cell? ⟨P, 2, none⟩ = some (.int .i64 0)
  fr : ∀ i, W.frozen? ⟨P, i, none⟩ = false
  ty : ∃ c f, W.heap[P]? = some (.cells c 39 f)
theorem FltAt.grown {W W' : World} {P : Nat} {r : Option Nat} (h : FltAt W P) (g : W.grownBy W' r) (n1 : some P ≠ r) : FltAt W' P := by
  obtain ⟨c, f, hty⟩ := h.ty
  have hP : P < W.heap.size := cell_lt h.c0
  exact ⟨g.cell h.c0 n1, g.cell h.c1 n1, g.cell h.c2 n1, fun i => (World.frozen?_of_block (g.block P hP n1)).trans (h.fr i), ⟨c, f, (g.block P hP n1).trans hty⟩⟩
theorem FltAt.keep {W W' : World} {P : Nat} (h : FltAt W P) (q : Below W.heap.size W W') : FltAt W' P := h.grown (grown_below' none q) (by simp)
theorem FltAt.tab {W W' : World} {P : Nat} (h : FltAt W P) {T : Nat} {ll : List En} (t : TabIs W T ll) (g : W.grownBy W' (some T)) : FltAt W' P := by
  obtain ⟨v, hv, _⟩ := t.blk
  obtain ⟨c, f, hty⟩ := h.ty
  exact h.grown g (fun e => by cases e; rw [hty] at hv; simp at hv)
theorem flt_new (W : World) : FltAt (W.alloc (.cells #[.int .i64 0, .int .i64 0, .int .i64 0] 39)) W.heap.size :=
  ⟨by simp, by simp, by simp, fun i => World.frozen?_alloc_at _ _ _ i rfl, ⟨_, _, heap_alloc_new _ _⟩⟩
theorem AptI.far {w : World} {Ta Fa Tb Fb : Nat} {la lb : List En} {W W' : World} (h : AptI w Ta Fa Tb Fb la lb W) {R : Nat} {c : Array Value} {t : TypeId} {f : Nat × Nat} (hb : W.heap[R]? = some (.cells c t f)) (ht : t ≠ 144) (hd : R ≠ Ta ∧ R ≠ Fa ∧ R ≠ Tb ∧ R ≠ Fb ∧ w.heap.size ≤ R) (g : W.grownBy W' (some R)) : AptI w Ta Fa Tb Fb la lb W' :=
  ⟨h.ta.far hb ht hd.1 g, g.cell h.fa (by simp; omega), h.tb.far hb ht hd.2.2.1 g, g.cell h.fb (by simp; omega), h.q.grown g h.q.size (fun b hb => by cases hb; exact hd.2.2.2.2)⟩
theorem flt_set {W : World} {P : Nat} (h : FltAt W P) : FltAt (((W.setCell ⟨P, 0, none⟩ (.int .i64 0)).setCell ⟨P, 1, none⟩ (.int .i64 0)).setCell ⟨P, 2, none⟩ (.int .i64 0)) P := by
  have hne : ∀ i j : Nat, i ≠ j → (⟨P, i, none⟩ : Addr) ≠ ⟨P, j, none⟩ := fun i j h e => h (Addr.mk.inj e).2.1
  obtain ⟨c, f, hty⟩ := h.ty
  refine ⟨?_, ?_, ?_, fun i => by simp only [World.frozen?_setCell]; exact h.fr i, ?_⟩
  · rw [World.cell?_setCell_other _ _ _ _ (hne 2 0 (by decide)), World.cell?_setCell_other _ _ _ _ (hne 1 0 (by decide))]
    exact World.cell?_setCell_same _ _ _ h.c0
  · rw [World.cell?_setCell_other _ _ _ _ (hne 2 1 (by decide))]
    exact World.cell?_setCell_same _ _ _ ((World.cell?_setCell_other _ _ _ _ (hne 0 1 (by decide))).trans h.c1)
  · exact World.cell?_setCell_same _ _ _ ((World.cell?_setCell_other _ _ _ _ (hne 1 2 (by decide))).trans ((World.cell?_setCell_other _ _ _ _ (hne 0 2 (by decide))).trans h.c2))
  · obtain ⟨_, _, h1⟩ := heap_setCell_type hty ⟨P, 0, none⟩ (.int .i64 0)
    obtain ⟨_, _, h2⟩ := heap_setCell_type h1 ⟨P, 1, none⟩ (.int .i64 0)
    exact heap_setCell_type h2 ⟨P, 2, none⟩ (.int .i64 0)

set_option maxRecDepth 10000 in
set_option maxHeartbeats 4000000 in
theorem kApart (a0 : Option Addr) (n0 c0 : Nat) (a1 : Option Addr) (n1 c1 : Nat) (a2 : Option Addr) (n2 c2 : Nat) (w : World) (h0 : n0 ≤ 9223372036854775800) (h1 : n1 ≤ 9223372036854775800) (h2 : n2 ≤ 9223372036854775800) (r0 : IntsIn w a0 n0) (r1 : IntsIn w a1 n1) (r2 : IntsIn w a2 n2) (g : Glob w) (he : EtIs w) :
    Calls Tryd.prog 5 #[.slice a0 n0 c0, .slice a1 n1 c1, .slice a2 n2 c2] w fun e w' => e = .returned (.bool true) ∧ Below w.heap.size w w' := by
  obtain ⟨ii, hii, hz0, hz1, hz2⟩ := info_parts Tryd.info47
  go_enter Tryd.func5, Tryd.ntmps5
  go_wp2_with fail
  refine (pFold _).mono ?_
  rintro e w1 ⟨rfl, rfl⟩
  go_wp2_with fail
  refine (pFold _).mono ?_
  rintro e w1 ⟨rfl, rfl⟩
  go_wp2_with fail
  have H0 := apt_start w
  have hord : w.heap.size < w.heap.size + 1 ∧ w.heap.size + 1 < w.heap.size + 1 + 1 ∧ w.heap.size + 1 + 1 < w.heap.size + 1 + 1 + 1 := by omega
  generalize (((w.alloc (.cells #[.slice none 0 0] 92)).alloc (.cells #[.pointer (some ⟨w.heap.size, 0, none⟩)] 81)).alloc (.cells #[.slice none 0 0] 92)).alloc (.cells #[.pointer (some ⟨w.heap.size + 1 + 1, 0, none⟩)] 81) = W0 at H0 ⊢
  generalize w.heap.size + 1 + 1 + 1 = Fb at H0 hord ⊢
  generalize w.heap.size + 1 + 1 = Tb at H0 hord ⊢
  generalize w.heap.size + 1 = Fa at H0 hord ⊢
  obtain ⟨Ta, hT⟩ : ∃ Ta, Ta = w.heap.size := ⟨_, rfl⟩
  rw [← hT] at hord
  have H1 : AptI w Ta Fa Tb Fb [] [] W0 := by rw [hT]; exact H0
  clear H0
  have h2T : 2 < Ta := by rw [hT]; exact g.lt
  refine (kDelta 1 a1 n1 c1 _ h1 (r1.keep H1.q)).mono ?_
  rintro e w1 ⟨d, ad, cd, rfl, gd, d1, d8, od, q1⟩
  have H2 := H1.keep q1
  clear H1
  go_wp2_with fail
  have H3 := H2.keep (below_alloc w1 (.cells #[.int .u64 1, .slice ad d.length cd] 25))
  refine (kDelta 2 a2 n2 c2 _ h2 (r2.keep H3.q)).mono ?_
  rintro e w2 ⟨e, ae, ce, rfl, ge, e1, e8, oe, q2⟩
  have hFE : Fb < w2.heap.size := cell_lt (H3.keep q2).fb
  have H4 := (H3.keep q2).keep (below_alloc w2 (.cells #[.int .u64 2, .slice ae e.length ce] 25))
  clear H2 H3
  have hs2 : w1.heap.size + 1 ≤ w2.heap.size := by have := q2.size; simpa using this
  have D4 : DelAt (w2.heap.size + 1) (w2.alloc (.cells #[.int .u64 2, .slice ae e.length ce] 25)) w1.heap.size 1 d ad cd := ((del_new od (by omega)).keep q2).keep (below_alloc _ _)
  have E4 : DelAt (w2.heap.size + 1) (w2.alloc (.cells #[.int .u64 2, .slice ae e.length ce] 25)) w2.heap.size 2 e ae ce := del_new oe (by omega)
  have hB : Ta < w2.heap.size + 1 ∧ Fa < w2.heap.size + 1 ∧ Tb < w2.heap.size + 1 ∧ Fb < w2.heap.size + 1 ∧ w.heap.size ≤ w2.heap.size + 1 := by
    have h1 := cell_lt H4.fb
    simp at h1
    omega
  have hsz : (w2.alloc (.cells #[.int .u64 2, .slice ae e.length ce] 25)).heap.size = w2.heap.size + 1 := by simp
  go_wp2_with fail
  clear q1 q2 od oe
  generalize w2.heap.size + 1 = B at D4 E4 hB hsz
  generalize w2.alloc (.cells #[.int .u64 2, .slice ae e.length ce] 25) = W4 at H4 D4 E4 hsz ⊢
  have hDE : w1.heap.size < w2.heap.size := by omega
  clear hs2
  generalize w1.heap.size = D at D4 hDE ⊢
  generalize w2.heap.size = E at E4 hDE hFE ⊢
  go_loopw [13, 14] (fun fv i wr => ∃ (j : Nat) (f : List OpD) (af : Option Addr) (cf : Nat), j ≤ e.length ∧ i = .int .i64 j ∧ f = fewOf d (e.take j) ∧ fv = .slice af f.length cf ∧ AptI w Ta Fa Tb Fb [] [] wr ∧ DelAt B wr D 1 d ad cd ∧ DelAt B wr E 2 e ae ce ∧ B ≤ wr.heap.size ∧ wr.ownsRow B 47 4 (.slice af f.length cf) f.length (opsC f))
    (fun _ i _ => e.length - (intOf i).toNat)
  case atStart => exact ⟨0, [], none, 0, Nat.zero_le _, rfl, by simp [fewOf], rfl, H4, D4, E4, by omega, World.ownsRow_nil _ _ _ _⟩
  case round =>
    clear H4 D4 E4 hsz
    obtain ⟨j, f, af, cf, hj, rfl, hf, rfl, hI, hD, hE, hBs, hO⟩ := hrel
    have ec1 := hE.c1
    by_cases hlt : j < e.length
    · have hlt' : (j : Int) < (e.length : Int) := by omega
      have HF : Hid (f = fewOf d (e.take j)) := hf
      clear hf
      go_wp2_with fail
      go_loopw [15, 16] (fun t k wi => ∃ (i : Nat) (tw : Bool), i ≤ d.length ∧ k = .int .i64 i ∧ t = .bool tw ∧ (d.take i).any (sameKey e[j].table e[j].key) = tw ∧ Below wr.heap.size wr wi)
        (fun _ k _ => d.length - (intOf k).toNat)
      case atStart => exact ⟨0, false, Nat.zero_le _, rfl, rfl, rfl, Below.refl _ _⟩
      case round =>
        obtain ⟨i, tw, hi', rfl, rfl, htw, qi⟩ := hrel
        have HTW : Hid ((d.take i).any (sameKey e[j].table e[j].key) = tw) := htw
        clear htw
        have hDi := hD.keep qi
        have hEi := hE.keep qi
        have d1c := hDi.c1
        have e1c := hEi.c1
        obtain ⟨eb, eo, rfl, heb, eops⟩ := hEi.ops.1 (by omega)
        have e1 := eops.c1 j hlt
        have e2 := eops.c2 j hlt
        by_cases hil : i < d.length
        · obtain ⟨ob, off, rfl, hob, hops⟩ := hDi.ops.1 (by omega)
          have a1 := hops.c1 i hil
          have a2 := hops.c2 i hil
          have iil : (i : Int) < (d.length : Int) := by omega
          have hs := any_step e[j].table e[j].key d i hil
          rw [HTW.out] at hs
          have HS : Hid _ := hs
          clear hs
          cases tw
          · by_cases t1 : d[i].table = e[j].table
            · have b1 : (d[i].table == e[j].table) = true := by simpa using t1
              by_cases t2 : d[i].key.toList = e[j].key.toList
              · have b2 : (d[i].key.toList == e[j].key.toList) = true := by simpa using t2
                have hsk : sameKey e[j].table e[j].key d[i] = true := by simp [sameKey, t1, t2]
                have HSK : Hid _ := hsk
                clear hsk t1 t2
                go_wp2_with fail
                go_quiet (fail)
                go_wp2
                go_roundw
                case rel => exact ⟨i + 1, true, by omega, by go_num, rfl, by rw [HS.out, HSK.out]; rfl, below_drewN qi _⟩
                case measure => simp [intOf]; omega
              · have b2 : (d[i].key.toList == e[j].key.toList) = false := by simpa using t2
                have hsk : sameKey e[j].table e[j].key d[i] = false := by simp [sameKey, t2]
                have HSK : Hid _ := hsk
                clear hsk t1 t2
                go_wp2_with fail
                go_quiet (fail)
                go_wp2
                go_roundw
                case rel => exact ⟨i + 1, false, by omega, by go_num, rfl, by rw [HS.out, HSK.out]; rfl, below_drewN qi _⟩
                case measure => simp [intOf]; omega
            · have b1 : (d[i].table == e[j].table) = false := by simpa using t1
              have hsk : sameKey e[j].table e[j].key d[i] = false := by simp [sameKey, t1]
              have HSK : Hid _ := hsk
              clear hsk t1
              go_wp2_with fail
              go_quiet (fail)
              go_wp2
              go_roundw
              case rel => exact ⟨i + 1, false, by omega, by go_num, rfl, by rw [HS.out, HSK.out]; rfl, below_drewN qi _⟩
              case measure => simp [intOf]; omega
          · go_wp2_with fail
            go_quiet (fail)
            go_wp2
            go_roundw
            case rel => exact ⟨i + 1, true, by omega, by go_num, rfl, by rw [HS.out]; rfl, below_drewN qi _⟩
            case measure => simp [intOf]; omega
        · obtain rfl : i = d.length := by omega
          have e0 := eops.c0 j hlt
          have e3 := eops.c3 j hlt
          have hst := few_step d e j hlt
          have hany : d.any (sameKey e[j].table e[j].key) = tw := by have h := HTW.out; rw [List.take_length] at h; exact h
          rw [hany, ← HF.out] at hst
          have HST : Hid _ := hst
          clear hst hany
          have hIi := hI.keep qi
          have hOi := hO.kept (grown_below' none qi) (by cases (Value.slice af f.length cf).ownBlock <;> simp)
          have hBi : B ≤ wr.heap.size := Nat.le_trans hBs qi.size
          have hfl : f.length ≤ 8 := by have h := congrArg List.length HF.out; have h2 : (fewOf d (e.take j)).length ≤ (e.take j).length := List.length_filter_le _ _; simp at h2; omega
          cases tw
          · have qa := below_alloc wr (.cells #[.int .i64 e[j].kind, .int .i64 e[j].table, .string e[j].key, .string e[j].val] 47)
            have hO6 := hOi.kept (grown_below' none qa) (by cases (Value.slice af f.length cf).ownBlock <;> simp)
            have hI6 := hIi.keep qa
            have hD6 := hDi.keep qa
            have hE6 := hEi.keep qa
            have hB6 := Nat.le_trans hBi qa.size
            clear hI hD hE hO hIi hDi hEi hOi qa
            go_wp2_with (at_builtin; go_must (refine wpList_append_own _ rfl _ _ 23 rfl B 47 ii (.agg #[.int .i64 0, .int .i64 0, .string ⟨#[]⟩, .string ⟨#[]⟩]) 4 48 Tryd.underlying23 hii hz0 hz1 hz2 rfl (by decide) (.slice af f.length cf) f.length (opsC f) rfl hO6 ⟨wr.heap.size, 0, none⟩ 1 1 (opC e[j]) rfl rfl (op_new _ _ (by simp) e[j]) (opC_one e[j]) (by unfold maxLen; omega) (by omega) hB6 ?_); intro v6 w6 hown6 hgrow6 _; obtain ⟨ao6, cp6, rfl⟩ := own_slice hown6)
            go_roundw
            case rel =>
              refine ⟨j + 1, f ++ [e[j]], ao6, cp6, by omega, by go_num, by have h := HST.out; simpa using h.symm, by rw [List.length_append]; rfl, hI6.hi hO6 hgrow6 hB, hD6.hi hO6 hgrow6, hE6.hi hO6 hgrow6, Nat.le_trans hB6 hgrow6.size, ?_⟩
              rw [opsC_snoc, List.length_append]; exact hown6
            case measure => simp [intOf]; omega
          · go_wp2_with fail
            go_roundw
            case rel => exact ⟨j + 1, f, af, cf, by omega, by go_num, by have h := HST.out; simpa using h.symm, rfl, hIi, hDi, hEi, hBi, hOi⟩
            case measure => simp [intOf]; omega
    · obtain rfl : j = e.length := by omega
      rw [List.take_length] at hf
      have HF : Hid (f = fewOf d e) := hf
      clear hf
      go_wp2_with fail
      refine (kDelta 3 a0 n0 c0 _ h0 (r0.keep hI.q)).mono ?_
      rintro ez w3 ⟨z, az, cz, rfl, gz, z1, z8, oz, q3⟩
      have pd := pairOk_of gd
      have pe := pairOk_of ge
      have pz := pairOk_of gz
      have pf : PairOk f := by rw [HF.out]; exact pairOk_sub pe List.filter_sublist
      have hap : ∀ o ∈ d, ∀ p ∈ f, ¬ (o.table = p.table ∧ o.key = p.key) := by rw [HF.out]; exact few_apart
      have f8 : f.length ≤ 8 := by rw [HF.out]; exact Nat.le_trans (List.length_filter_le _ _) e8
      clear HF gd ge gz ec1 hj hlt
      have sn : Srt [] := List.Pairwise.nil
      have sz : Srt (aft [] z) := aft_srt sn
      have lz := aft_length z []
      simp only [List.length_nil] at lz
      have qz := below_alloc w3 (.cells #[.int .u64 3, .slice az z.length cz] 25)
      have I5 := (hI.keep q3).keep qz
      have D5 := (hD.keep q3).keep qz
      have E5 := (hE.keep q3).keep qz
      have O5 := own_keep (own_keep hO q3) qz
      have Z5 : DelAt (w3.heap.size + 1) _ w3.heap.size 3 z az cz := del_new oz (by omega)
      clear hI hD hE hO hBs
      go_wp2_with fail
      clear oz q3 qz
      generalize w3.alloc (.cells #[.int .u64 3, .slice az z.length cz] 25) = W5 at *
      generalize w3.heap.size = Z at Z5 ⊢
      obtain ⟨bz, oz⟩ := Z5.own
      refine (applyA I5 hord hT g he sn (by simp) 3 (by decide) (by decide) z1 z8 pz oz).mono ?_
      rintro x W6 ⟨rfl, I6, g6⟩
      have D6 := D5.tab I5.ta g6
      have E6 := E5.tab I5.ta g6
      have O6 := own_tab O5 I5.ta g6
      have Z6 := Z5.tab I5.ta g6
      clear I5 D5 E5 O5 Z5 g6 oz
      have q6 := below_alloc W6 (.cells #[.int .i64 0, .int .i64 0, .int .i64 0] 39)
      have f6 := flt_new W6
      have J6 := I6.keep q6
      have D7 := D6.keep q6
      have E7 := E6.keep q6
      have O7 := own_keep O6 q6
      have Z7 := Z6.keep q6
      have z0 := Z7.c0
      have z1' := Z7.c1
      have hE1 : E < W6.heap.size := cell_lt E6.c0
      clear D6 E6 O6 Z6
      go_wp2_with fail
      have hP1 : Fb < W6.heap.size := cell_lt I6.fb
      clear I6 q6
      generalize W6.alloc (.cells #[.int .i64 0, .int .i64 0, .int .i64 0] 39) = W7 at *
      generalize W6.heap.size = P1 at *
      obtain ⟨bz, oz⟩ := Z7.own
      refine (applyB J6 hord hT g he sn (by simp) 3 (by decide) (by decide) z1 z8 pz oz).mono ?_
      rintro x W8 ⟨rfl, I8, g8⟩
      have D8 := D7.tab J6.tb g8
      have E8 := E7.tab J6.tb g8
      have O8 := own_tab O7 J6.tb g8
      have f8' := f6.tab J6.tb g8
      clear D7 E7 O7 Z7 f6 J6 g8 z0 z1' oz
      have q8 := below_alloc W8 (.cells #[.int .i64 0, .int .i64 0, .int .i64 0] 39)
      have I9 := I8.keep q8
      have D9 := D8.keep q8
      have E9 := E8.keep q8
      have O9 := own_keep O8 q8
      have f9 := f8'.keep q8
      have g9 := flt_new W8
      have d0 := D9.c0
      have d1' := D9.c1
      have hP2 : P1 < W8.heap.size := cell_lt f8'.c0
      clear I8 D8 E8 O8 f8' q8
      go_wp2_with fail
      generalize W8.alloc (.cells #[.int .i64 0, .int .i64 0, .int .i64 0] 39) = W9 at *
      generalize W8.heap.size = P2 at *
      obtain ⟨bd, od⟩ := D9.own
      refine (applyA I9 hord hT g he sz (by omega) 1 (by decide) (by decide) d1 d8 pd od).mono ?_
      rintro x W10 ⟨rfl, I10, g10⟩
      have D10 := D9.tab I9.ta g10
      have E10 := E9.tab I9.ta g10
      have O10 := own_tab O9 I9.ta g10
      have f10 := f9.tab I9.ta g10
      have k10 := g9.tab I9.ta g10
      clear I9 D9 E9 O9 f9 g9 g10 d0 d1' od
      have q10 := below_alloc W10 (.cells #[.int .i64 0, .int .i64 0, .int .i64 0] 39)
      have q11 := below_alloc (W10.alloc (.cells #[.int .i64 0, .int .i64 0, .int .i64 0] 39)) (.cells #[.int .i64 0, .int .i64 0, .int .i64 0] 39)
      have I11 := (I10.keep q10).keep q11
      have D11 := (D10.keep q10).keep q11
      have E11 := (E10.keep q10).keep q11
      have O11 := own_keep (own_keep O10 q10) q11
      have f11 := (f10.keep q10).keep q11
      have k11 := (k10.keep q10).keep q11
      have l11 := (flt_new W10).keep q11
      have m11 := flt_new (W10.alloc (.cells #[.int .i64 0, .int .i64 0, .int .i64 0] 39))
      have hP3 : P2 < W10.heap.size := cell_lt k10.c0
      have hsz : (W10.alloc (.cells #[.int .i64 0, .int .i64 0, .int .i64 0] 39)).heap.size = W10.heap.size + 1 := by simp
      rw [hsz] at m11
      clear hsz I10 D10 E10 O10 f10 k10 q10 q11
      obtain ⟨x10, x11, x12, x13, _⟩ := id f11
      obtain ⟨y10, y11, y12, y13, _⟩ := id k11
      obtain ⟨v10, v11, v12, v13, _⟩ := id l11
      obtain ⟨u10, u11, u12, u13, _⟩ := id m11
      have b0 := D11.c0
      have b1 := D11.c1
      have e10 := E11.c0
      have e11 := E11.c1
      have e12 := E11.fr
      by_cases hf0 : f.length = 0
      · have hf0' : ¬ (0 : Int) < (f.length : Int) := by omega
        go_wp2_with fail
        clear x10 x11 x12 x13 y10 y11 y12 y13 v10 v11 v12 v13 u10 u11 u12 u13 b0 b1 e10 e11 e12 f11 k11
        generalize (W10.alloc (.cells #[.int .i64 0, .int .i64 0, .int .i64 0] 39)).alloc (.cells #[.int .i64 0, .int .i64 0, .int .i64 0] 39) = W11 at *
        generalize W10.heap.size = P3 at *
        have len1 := aft_length d (aft [] z)
        obtain ⟨bd, od⟩ := D11.own
        refine (applyB I11 hord hT g he sz (by omega) 1 (by decide) (by decide) d1 d8 pd od).mono ?_
        rintro x W20 ⟨rfl, I20, g20⟩
        have l20 := l11.tab I11.tb g20
        have m20 := m11.tab I11.tb g20
        clear I11 D11 l11 m11 g20 od
        obtain ⟨x20, x21, x22, x23, ⟨xc, xf, xty⟩⟩ := id l20
        obtain ⟨y20, y21, y22, y23, _⟩ := id m20
        have I21 := I20.far xty (by decide) ⟨by omega, by omega, by omega, by omega, by omega⟩ (set3 (x0 := .int .i64 0) (x1 := .int .i64 0) (x2 := .int .i64 0))
        have m21 := m20.grown (set3 (R := P3) (x0 := .int .i64 0) (x1 := .int .i64 0) (x2 := .int .i64 0)) (by simp)
        have l21 : FltAt (((W20.setCell ⟨P3, 0, none⟩ (.int .i64 0)).setCell ⟨P3, 1, none⟩ (.int .i64 0)).setCell ⟨P3, 2, none⟩ (.int .i64 0)) P3 := flt_set l20
        clear xty
        go_wp2_with fail
        generalize (((W20.setCell ⟨P3, 0, none⟩ (.int .i64 0)).setCell ⟨P3, 1, none⟩ (.int .i64 0)).setCell ⟨P3, 2, none⟩ (.int .i64 0)) = W21 at I21 l21 m21 ⊢
        clear I20 l20 m20 x20 x21 x22 x23 y20 y21 y22 y23
        refine (fEntries Fa Ta _ _ I21.fa I21.ta (by omega)).mono ?_
        rintro x W22 ⟨xa, rfl, oa, q22⟩
        have I22 := I21.keep q22
        have l22 := l21.keep q22
        have m22 := m21.keep q22
        go_wp2_with fail
        refine (fEntries Fb Tb _ _ I22.fb I22.tb (by omega)).mono ?_
        rintro x W23 ⟨xb, rfl, ob, q23⟩
        have I23 := I22.keep q23
        have l23 := l22.keep q23
        have m23 := m22.keep q23
        go_wp2_with fail
        refine (kSame xa xb _ (by omega) _ ((EnsIn.of_owns oa).keep q23) (EnsIn.of_owns ob)).mono ?_
        rintro x W24 ⟨rfl, q24⟩
        have I24 := I23.keep q24
        have l24 := l23.keep q24
        have m24 := m23.keep q24
        clear I21 l21 m21 I22 l22 m22 I23 l23 m23 oa ob q22 q23 q24
        obtain ⟨x20, x21, x22, x23, _⟩ := id l24
        obtain ⟨y20, y21, y22, y23, _⟩ := id m24
        go_wp2_with fail
        refine (fSize Fa Ta _ _ I24.fa I24.ta (by omega)).mono ?_
        rintro x W25 ⟨rfl, q25⟩
        have I25 := I24.keep q25
        go_wp2_with fail
        refine (fSize Fb Tb _ _ I25.fb I25.tb (by omega)).mono ?_
        rintro x W26 ⟨rfl, q26⟩
        go_wp2_with fail
        go_ret
        exact ⟨rfl, (I25.keep q26).q⟩
      · have hf0' : (0 : Int) < (f.length : Int) := by omega
        have gE : ((W10.alloc (.cells #[.int .i64 0, .int .i64 0, .int .i64 0] 39)).alloc (.cells #[.int .i64 0, .int .i64 0, .int .i64 0] 39)).grownBy (((W10.alloc (.cells #[.int .i64 0, .int .i64 0, .int .i64 0] 39)).alloc (.cells #[.int .i64 0, .int .i64 0, .int .i64 0] 39)).setCell ⟨E, 1, none⟩ (.slice af f.length cf)) (some E) := grown_set' (grown_refl _ _) rfl
        obtain ⟨ec, ef, ety⟩ := E11.ty
        have I12 := I11.far ety (by decide) ⟨by omega, by omega, by omega, by omega, by omega⟩ gE
        have D12 := D11.grown gE (by simp; omega) (by obtain ⟨bd, od⟩ := D11.own; exact .inr (fun e => own_ne od ety (by decide) e.symm))
        have f12 := f11.grown gE (by simp; omega)
        have k12 := k11.grown gE (by simp; omega)
        have l12 := l11.grown gE (by simp; omega)
        have m12 := m11.grown gE (by simp; omega)
        have E12 := E11.few O11
        clear ety
        go_wp2_with fail
        clear x10 x11 x12 x13 y10 y11 y12 y13 v10 v11 v12 v13 u10 u11 u12 u13 b0 b1 e10 e11 e12 f11 k11 l11 m11 I11 D11 O11 gE E11
        generalize ((W10.alloc (.cells #[.int .i64 0, .int .i64 0, .int .i64 0] 39)).alloc (.cells #[.int .i64 0, .int .i64 0, .int .i64 0] 39)).setCell ⟨E, 1, none⟩ (.slice af f.length cf) = W12 at *
        generalize ((W10.alloc (.cells #[.int .i64 0, .int .i64 0, .int .i64 0] 39)).alloc (.cells #[.int .i64 0, .int .i64 0, .int .i64 0] 39)).heap.size = B2 at *
        generalize W10.heap.size = P3 at *
        have len1 := aft_length d (aft [] z)
        have len2 := aft_length f (aft (aft [] z) d)
        have len3 := aft_length f (aft [] z)
        have sd : Srt (aft (aft [] z) d) := aft_srt sz
        have sf : Srt (aft (aft [] z) f) := aft_srt sz
        obtain ⟨be, oe⟩ := E12.own
        refine (applyA I12 hord hT g he sd (by omega) 2 (by decide) (by decide) (by omega) f8 pf oe).mono ?_
        rintro x W13 ⟨rfl, I13, g13⟩
        have D13 := D12.tab I12.ta g13
        have E13 := E12.tab I12.ta g13
        have f13 := f12.tab I12.ta g13
        have k13 := k12.tab I12.ta g13
        have l13 := l12.tab I12.ta g13
        have m13 := m12.tab I12.ta g13
        clear I12 D12 E12 f12 k12 l12 m12 g13 oe
        obtain ⟨x10, x11, x12, x13, ⟨xc, xf, xty⟩⟩ := id f13
        have s14 : W13.grownBy (((W13.setCell ⟨P1, 0, none⟩ (.int .i64 0)).setCell ⟨P1, 1, none⟩ (.int .i64 0)).setCell ⟨P1, 2, none⟩ (.int .i64 0)) (some P1) := set3
        have I14 := I13.far xty (by decide) ⟨by omega, by omega, by omega, by omega, by omega⟩ s14
        have D14 := D13.grown s14 (by simp; omega) (by obtain ⟨bd, od⟩ := D13.own; exact .inr (fun e => own_ne od xty (by decide) e.symm))
        have E14 := E13.grown s14 (by simp; omega) (by obtain ⟨bd, od⟩ := E13.own; exact .inr (fun e => own_ne od xty (by decide) e.symm))
        have f14 := flt_set f13
        have k14 := k13.grown s14 (by simp; omega)
        have l14 := l13.grown s14 (by simp; omega)
        have m14 := m13.grown s14 (by simp; omega)
        have e10 := E14.c0
        have e11 := E14.c1
        clear I13 D13 E13 f13 k13 l13 m13 s14 xty
        go_wp2_with fail
        clear x10 x11 x12 x13
        generalize (((W13.setCell ⟨P1, 0, none⟩ (.int .i64 0)).setCell ⟨P1, 1, none⟩ (.int .i64 0)).setCell ⟨P1, 2, none⟩ (.int .i64 0)) = W14 at *
        obtain ⟨be, oe⟩ := E14.own
        refine (applyB I14 hord hT g he sz (by omega) 2 (by decide) (by decide) (by omega) f8 pf oe).mono ?_
        rintro x W15 ⟨rfl, I15, g15⟩
        have D15 := D14.tab I14.tb g15
        have f15 := f14.tab I14.tb g15
        have k15 := k14.tab I14.tb g15
        have l15 := l14.tab I14.tb g15
        have m15 := m14.tab I14.tb g15
        clear I14 D14 E14 f14 k14 l14 m14 g15 oe e10 e11
        obtain ⟨x10, x11, x12, x13, ⟨xc, xf, xty⟩⟩ := id k15
        have s16 : W15.grownBy (((W15.setCell ⟨P2, 0, none⟩ (.int .i64 0)).setCell ⟨P2, 1, none⟩ (.int .i64 0)).setCell ⟨P2, 2, none⟩ (.int .i64 0)) (some P2) := set3
        have I16 := I15.far xty (by decide) ⟨by omega, by omega, by omega, by omega, by omega⟩ s16
        have D16 := D15.grown s16 (by simp; omega) (by obtain ⟨bd, od⟩ := D15.own; exact .inr (fun e => own_ne od xty (by decide) e.symm))
        have f16 := f15.grown s16 (by simp; omega)
        have k16 := flt_set k15
        have l16 := l15.grown s16 (by simp; omega)
        have m16 := m15.grown s16 (by simp; omega)
        clear I15 D15 f15 k15 l15 m15 s16 xty
        obtain ⟨p10, p11, p12, p13, _⟩ := id f16
        obtain ⟨y10, y11, y12, y13, _⟩ := id k16
        obtain ⟨u10, u11, u12, u13, _⟩ := id m16
        have b0 := D16.c0
        have b1 := D16.c1
        go_wp2_with fail
        clear x10 x11 x12 x13 p10 p11 p12 p13 y10 y11 y12 y13 u10 u11 u12 u13 b0 b1 f16 k16
        generalize (((W15.setCell ⟨P2, 0, none⟩ (.int .i64 0)).setCell ⟨P2, 1, none⟩ (.int .i64 0)).setCell ⟨P2, 2, none⟩ (.int .i64 0)) = W16 at *
        obtain ⟨bd, od⟩ := D16.own
        refine (applyB I16 hord hT g he sf (by omega) 1 (by decide) (by decide) d1 d8 pd od).mono ?_
        rintro x W20 ⟨rfl, I20, g20⟩
        rw [← aft_comm sz hap] at I20
        have l20 := l16.tab I16.tb g20
        have m20 := m16.tab I16.tb g20
        clear I16 D16 l16 m16 g20 od
        obtain ⟨x20, x21, x22, x23, ⟨xc, xf, xty⟩⟩ := id l20
        obtain ⟨y20, y21, y22, y23, _⟩ := id m20
        have I21 := I20.far xty (by decide) ⟨by omega, by omega, by omega, by omega, by omega⟩ (set3 (x0 := .int .i64 0) (x1 := .int .i64 0) (x2 := .int .i64 0))
        have m21 := m20.grown (set3 (R := P3) (x0 := .int .i64 0) (x1 := .int .i64 0) (x2 := .int .i64 0)) (by simp)
        have l21 : FltAt (((W20.setCell ⟨P3, 0, none⟩ (.int .i64 0)).setCell ⟨P3, 1, none⟩ (.int .i64 0)).setCell ⟨P3, 2, none⟩ (.int .i64 0)) P3 := flt_set l20
        clear xty
        go_wp2_with fail
        generalize (((W20.setCell ⟨P3, 0, none⟩ (.int .i64 0)).setCell ⟨P3, 1, none⟩ (.int .i64 0)).setCell ⟨P3, 2, none⟩ (.int .i64 0)) = W21 at I21 l21 m21 ⊢
        clear I20 l20 m20 x20 x21 x22 x23 y20 y21 y22 y23
        refine (fEntries Fa Ta _ _ I21.fa I21.ta (by omega)).mono ?_
        rintro x W22 ⟨xa, rfl, oa, q22⟩
        have I22 := I21.keep q22
        have l22 := l21.keep q22
        have m22 := m21.keep q22
        go_wp2_with fail
        refine (fEntries Fb Tb _ _ I22.fb I22.tb (by omega)).mono ?_
        rintro x W23 ⟨xb, rfl, ob, q23⟩
        have I23 := I22.keep q23
        have l23 := l22.keep q23
        have m23 := m22.keep q23
        go_wp2_with fail
        refine (kSame xa xb _ (by omega) _ ((EnsIn.of_owns oa).keep q23) (EnsIn.of_owns ob)).mono ?_
        rintro x W24 ⟨rfl, q24⟩
        have I24 := I23.keep q24
        have l24 := l23.keep q24
        have m24 := m23.keep q24
        clear I21 l21 m21 I22 l22 m22 I23 l23 m23 oa ob q22 q23 q24
        obtain ⟨x20, x21, x22, x23, _⟩ := id l24
        obtain ⟨y20, y21, y22, y23, _⟩ := id m24
        go_wp2_with fail
        refine (fSize Fa Ta _ _ I24.fa I24.ta (by omega)).mono ?_
        rintro x W25 ⟨rfl, q25⟩
        have I25 := I24.keep q25
        go_wp2_with fail
        refine (fSize Fb Tb _ _ I25.fb I25.tb (by omega)).mono ?_
        rintro x W26 ⟨rfl, q26⟩
        go_wp2_with fail
        go_ret
        exact ⟨rfl, (I25.keep q26).q⟩
end Go.Proofs.YtindifjhocgkbaaDoor
