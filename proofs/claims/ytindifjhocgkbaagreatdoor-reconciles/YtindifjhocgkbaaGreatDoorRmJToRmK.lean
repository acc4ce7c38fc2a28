import Derived.Test.YtindifjhocgkbaaGreatDoorRcDToRmI
import Derived.Test.YtindifjhocgkbaaGreatDoorEncA
namespace Go.Proofs.YtindifjhocgkbaaGreatDoor
open Go.RowKit Go.ChangeMaps Go.MapKept Go.WideShapes Go.WideMaps Go.Shelf
attribute [local go_sem] Oper.semAt_some
/-! ### What is done, step by step -/
/-- An entry whose texts are no longer than a machine's memory. -/
structure KEn where
  en : En
  ok : KOk en
  sk : en.k.size ≤ 140737488351232
  sv : en.v.size ≤ 140737488351232
def Siz (e : En) : Prop := KOk e ∧ e.k.size ≤ 140737488351232 ∧ e.v.size ≤ 140737488351232
theorem kens : ∀ {l : List En}, (∀ e ∈ l, Siz e) → ∃ fs : List KEn, fs.map KEn.en = l
  | [], _ => ⟨[], rfl⟩
  | x :: l, h => by
    obtain ⟨fs, hf⟩ := kens (fun e he => h e (List.mem_cons_of_mem _ he))
    have hx := h x (List.mem_cons_self)
    exact ⟨⟨x, hx.1, hx.2.1, hx.2.2⟩ :: fs, by simp [hf]⟩
abbrev RSt := (List En × Nat) × List ByteArray
/-- A put, as a datapath takes it. -/
def rec2' (r : Nat → Int) (old : List En) (s : RSt) (e : En) : RSt :=
  if old.any (isE e) = false ∧ 0 < s.1.2 then (if fits r s.1.1 e then ((put e s.1.1, s.1.2 - 1), s.2 ++ [putT e]) else ((s.1.1, s.1.2 - 1), s.2 ++ [putT e] ++ [noS])) else s
structure StI (m g c : Nat) (s : RSt) : Prop where
  srt : Srt s.1.1
  kok : ∀ e ∈ s.1.1, KOk e
  len : s.1.1.length ≤ m
  log : s.2.length ≤ g
  cnt : c ≤ s.1.2
theorem StI.rec1 {m g c : Nat} {s : RSt} (h : StI m g c s) (w : List En) (e : En) : StI (m + 1) (g + 2) (c - 1) (rec1 w s e) := by
  unfold Proofs.YtindifjhocgkbaaGreatDoor.rec1
  split
  · refine ⟨del_srt h.srt, fun x hx => h.kok x (del_mem hx), ?_, ?_, ?_⟩
    · have := del_length e.t e.k s.1.1; have := h.len; dsimp only; omega
    · have := h.log; simp; omega
    · have := h.cnt; dsimp only; omega
  · exact ⟨h.srt, h.kok, by have := h.len; omega, by have := h.log; omega, by have := h.cnt; omega⟩
theorem StI.rec2' {m g c : Nat} {s : RSt} (h : StI m g c s) (r : Nat → Int) (o : List En) (e : En) (he : KOk e) : StI (m + 1) (g + 2) (c - 1) (rec2' r o s e) := by
  unfold Proofs.YtindifjhocgkbaaGreatDoor.rec2'
  split
  · split
    · refine ⟨put_srt h.srt, fun x hx => ?_, ?_, ?_, ?_⟩
      · rcases put_mem hx with rfl | hx
        · exact he
        · exact h.kok x hx
      · have := put_length e s.1.1; have := h.len; dsimp only; omega
      · have := h.log; simp; omega
      · have := h.cnt; dsimp only; omega
    · refine ⟨h.srt, h.kok, by have := h.len; dsimp only; omega, ?_, ?_⟩
      · have := h.log; simp; omega
      · have := h.cnt; dsimp only; omega
  · exact ⟨h.srt, h.kok, by have := h.len; omega, by have := h.log; omega, by have := h.cnt; omega⟩
theorem StI.fold1 {m g c : Nat} (w : List En) : ∀ (p : List KEn) {s : RSt}, StI m g c s → StI (m + p.length) (g + 2 * p.length) (c - p.length) ((p.map KEn.en).foldl (Proofs.YtindifjhocgkbaaGreatDoor.rec1 w) s) := by
  intro p
  induction p generalizing m g c with
  | nil => intro s h; simpa using h
  | cons x p ih =>
    intro s h
    have := ih (h.rec1 w x.en)
    rw [show m + 1 + p.length = m + (x :: p).length by simp; omega, show g + 2 + 2 * p.length = g + 2 * (x :: p).length by simp; omega, show c - 1 - p.length = c - (x :: p).length by simp; omega] at this
    exact this
theorem StI.fold2 {m g c : Nat} (r : Nat → Int) (o : List En) : ∀ (p : List KEn) {s : RSt}, StI m g c s → StI (m + p.length) (g + 2 * p.length) (c - p.length) ((p.map KEn.en).foldl (Proofs.YtindifjhocgkbaaGreatDoor.rec2' r o) s) := by
  intro p
  induction p generalizing m g c with
  | nil => intro s h; simpa using h
  | cons x p ih =>
    intro s h
    have := ih (h.rec2' r o x.en x.ok)
    rw [show m + 1 + p.length = m + (x :: p).length by simp; omega, show g + 2 + 2 * p.length = g + 2 * (x :: p).length by simp; omega, show c - 1 - p.length = c - (x :: p).length by simp; omega] at this
    exact this
/-- How many calls are left, and whether all has stopped, as the document counts them. -/
def LD (big : Bool) (left : Int) (dead : Bool) (c : Nat) : Prop := if big then left = -1 ∧ dead = false else (dead = false ∧ left = c) ∨ (dead = true ∧ left = 0 ∧ c = 0)
theorem LD.step {big : Bool} {left : Int} {dead : Bool} {c : Nat} (h : LD big left dead c) (hb : big = true → 0 < c) : (dead || decide (left = 0)) = !decide (0 < c) ∧ LD big (leftN left) (dead || decide (left = 0)) (c - 1) := by
  unfold LD at *
  cases big
  · simp only [Bool.false_eq_true, if_false] at *
    rcases h with ⟨rfl, rfl⟩ | ⟨rfl, rfl, rfl⟩
    · by_cases hc : c = 0
      · subst hc; simp [leftN]
      · have h1 : 0 < c := by omega
        have e1 : decide ((c : Int) = 0) = false := decide_eq_false (by omega)
        rw [e1]
        refine ⟨by simp [h1], .inl ⟨rfl, ?_⟩⟩
        unfold leftN
        rw [if_pos (by omega)]; omega
    · simp [leftN]
  · have h1 := hb rfl
    simp only [if_true] at h ⊢
    obtain ⟨rfl, rfl⟩ := h
    simp [leftN, h1]
theorem LD.ge {big : Bool} {left : Int} {dead : Bool} {c : Nat} (h : LD big left dead c) : -1 ≤ left := by
  unfold LD at h
  split at h
  · omega
  · rcases h with ⟨_, h⟩ | ⟨_, h, _⟩ <;> omega
theorem LD.le {big : Bool} {left : Int} {dead : Bool} {c : Nat} (h : LD big left dead c) : left ≤ c := by
  unfold LD at h
  split at h
  · omega
  · rcases h with ⟨_, h⟩ | ⟨_, h, _⟩ <;> omega
/-! ### The list's iterator, where the body turns what is no entry -/
theorem HK.putObj {n0 : Nat} {w : World} (hn : n0 ≤ w.heap.size) (W : World) (l : Nat) (o o' : Obj) (hl : w.heap.size ≤ l) (h : W.heap[l]? = some o) (ho : o.isCells = false) (_ : o.isWalk = false) : HK n0 W (W.putObj l o') := by
  refine ⟨belowK_b hn W l o o' hl h ho ‹_›, fun i c t f e _ _ => (World.putObj_heap_other (fun e1 => ?_)).trans e⟩
  rw [e1, h] at e; cases e; simp [Obj.isCells] at ho
set_option maxRecDepth 100000 in
set_option maxHeartbeats 2000000 in
theorem all1_inK {β : Type} (f : β → En) (F : Fence) (n : Nat) (hf : F.fn 107) (hro : F.round = none) (hn : 1 ≤ n) (l Bs n₀ b cap : Nat) (es : List β) (hlen : es.length ≤ 1000000) (J Jx : List β → World → Prop)
    (hJa : ∀ pre W o, J pre W → J pre (W.alloc o)) (hY : ∀ pre x W, J pre W → pre.length < es.length → YieldAt F (n - 1) Tryz.prog l (encE (f x)) W fun e W' =>
      (e = .returned (.bool true) ∧ J (pre ++ [x]) W' ∧ HK n₀ W W') ∨ (e = .returned (.bool false) ∧ Jx (pre ++ [x]) W'))
    (W : World) (hn0 : n₀ ≤ W.heap.size) (hBs : W.cell? ⟨Bs, 0, none⟩ = some (.slice (some ⟨b, 0, none⟩) es.length cap)) (hc : EnsT W (.slice (some ⟨b, 0, none⟩) es.length cap) (es.map f)) (h0 : J [] W) :
    CallsIn F n Tryz.prog 107 #[.func (.yield l) #[] #[], .pointer (some ⟨Bs, 0, none⟩)] W fun e W' => (∃ v, e = .returned v) ∧
      ((∃ ys, ys = es ∧ J ys W') ∨ (∃ pre, (∃ k, k ≤ es.length ∧ pre = es.take k) ∧ Jx pre W')) := by
  have hat : ∀ {wr : World}, HK n₀ W wr → EnsAt wr b 0 (es.map f) := fun {wr} h => by
    rcases hc.hk h with ⟨e, _⟩ | ⟨b', cap', cur', e, _, ha⟩
    · cases e
    · simp only [Value.slice.injEq, Option.some.injEq, Addr.mk.injEq] at e
      obtain ⟨⟨rfl, _⟩, _⟩ := e
      exact ha
  refine callsIn_of_wp Tryz.func107 rfl hf ?_ hro
  simp only [Tryz.ntmps107, List.size_toArray, List.length_cons, List.length_nil, Nat.reduceAdd, Nat.reduceSub, Array.replicate_succ, Array.replicate_zero, List.push_toArray, List.append_toArray, List.nil_append, List.cons_append]
  gi_wp2
  gi_loopw [7] (fun i wr => ∃ k : Nat, k ≤ es.length ∧ i = .int .i64 k ∧ J (es.take k) wr ∧ HK n₀ W wr)
    (fun i _ => es.length - (intOf i).toNat)
  case atStart => exact ⟨0, Nat.zero_le _, rfl, h0, HK.refl _ _⟩
  case round =>
    obtain ⟨k, hk, rfl, hJs, hnx⟩ := hrel
    by_cases hlt : k < es.length
    · have hmk : (es.map f)[k]'(by simpa using hlt) = f es[k] := by simp
      have d0 := (hat hnx).c0 k (by simpa using hlt)
      have d1 := (hat hnx).c1 k (by simpa using hlt)
      have d2 := (hat hnx).c2 k (by simpa using hlt)
      rw [hmk] at d0 d1 d2
      simp only [Nat.zero_add] at d0 d1 d2
      clear hmk
      have il : ((k : Nat) : Int) < (es.length : Int) := by omega
      have hsw : n₀ ≤ wr.heap.size := Nat.le_trans hn0 hnx.low.size
      obtain ⟨fn, tmps, assign, body, hy, hR⟩ := hY (es.take k) es[k] (wr.alloc (.cells #[.int .i64 (f es[k]).t, .string (f es[k]).k, .string (f es[k]).v] 183)) (hJa _ _ _ hJs) (by simp; omega)
      gi_wp2
      refine hR.mono ?_
      rintro e W3 (⟨rfl, hJ3, hk3⟩ | ⟨rfl, hJx3⟩)
      · gi_wp2
        go_roundw
        case rel => exact ⟨k + 1, by omega, by go_num, by rw [take_snocF es k hlt]; exact hJ3, hnx.trans ((HW.below (M := 0) (below_alloc wr _) hsw).1.trans hk3)⟩
        case measure => simp [intOf]; omega
      · gi_wp2
        refine bodyPost_ret (results_none rfl _ _ _) rfl ?_
        exact ⟨⟨_, rfl⟩, .inr ⟨_, ⟨k + 1, by omega, (take_snocF es k hlt).symm⟩, hJx3⟩⟩
    · obtain rfl : k = es.length := by omega
      gi_wp2
      go_end0
      exact ⟨⟨_, rfl⟩, .inl ⟨_, List.take_length, hJs⟩⟩
theorem all_stopsK {β : Type} (f : β → En) (F : Fence) (n : Nat) (hf : F.fn 107) (hro : F.round = none) (hn : 1 ≤ n) (Bs n₀ : Nat) (v : Value) (es : List β) (hlen : es.length ≤ 1000000) (w : World) (hn₀ : n₀ ≤ w.heap.size)
    (hc : w.cell? ⟨Bs, 0, none⟩ = some v) (hI : EnsT w v (es.map f)) :
    SeqStopsK F n Tryz.prog 107 #[.pointer (some ⟨Bs, 0, none⟩)] (fun x => encE (f x)) (HK n₀) (fun ys => ys = es) (fun pre => ∃ k, k ≤ es.length ∧ pre = es.take k) es.length w := fun l J Jx W hW hJ _ hY h0 => by
  have hc' := (hW.cell (p := ⟨Bs, 0, none⟩) (cell_lt hc)).trans hc
  have hJa : ∀ pre W o, J pre W → J pre (W.alloc o) := fun pre W o h => hJ pre W _ none h (World.grownBy_alloc W o none) (fun r e => by cases e)
  have hI' := hI.keep hW
  rcases hI' with ⟨rfl, he⟩ | ⟨b, cap, cur, rfl, hb, hcs⟩
  · obtain rfl : es = [] := by simpa using he
    exact (all1_nil_inF F n hf hro l Bs J W hc' h0).mono fun e W' ⟨he, hj⟩ => ⟨he, .inl ⟨_, rfl, hj⟩⟩
  · rw [List.length_map] at hc'
    exact all1_inK f F n hf hro hn l Bs n₀ b cap es hlen J Jx hJa hY W (Nat.le_trans hn₀ hW.size) hc' (.inr ⟨b, cap, cur, by rw [List.length_map], hb, hcs⟩) h0
end Go.Proofs.YtindifjhocgkbaaGreatDoor
namespace Go.Proofs.YtindifjhocgkbaaGreatDoor
open Go.RowKit Go.ChangeMaps Go.MapKept Go.WideShapes Go.WideMaps Go.Shelf
attribute [local go_sem] Oper.semAt_some
theorem HW.own {n0 M : Nat} {A X Y : World} {row : Option Nat} (h : HW n0 M A X) (hg : X.grownBy Y row) (hn : n0 ≤ A.heap.size) (hr : ∀ j, row = some j → A.heap.size ≤ j) : HW n0 M A Y := by
  have hs := h.2.size
  have key : ∀ i, i < A.heap.size → Y.heap[i]? = X.heap[i]? := fun i hi => hg.block i (by omega) (fun e => by have := hr i e.symm; omega)
  refine ⟨⟨⟨hg.os.trans h.1.low.os, hg.tape.trans h.1.low.tape, hg.output.trans h.1.low.output, Nat.le_trans h.1.low.size hg.size, fun k hk => (key k (by omega)).trans (h.1.low.block k hk)⟩, fun i c t f e h1 h2 => ?_⟩, ⟨Nat.le_trans hs hg.size, fun k o e h1 h2 => ?_⟩⟩
  · exact (key i (Array.getElem?_eq_some_iff.1 e).1).trans (h.1.far i c t f e h1 h2)
  · exact (key k (Array.getElem?_eq_some_iff.1 e).1).trans (h.2.same k o e h1 h2)
theorem rec1_cnt (w : List En) : ∀ (p : List En) (s : RSt), (p.foldl (rec1 w) s).1.2 ≤ s.1.2
  | [], s => Nat.le_refl _
  | e :: p, s => by
    refine Nat.le_trans (rec1_cnt w p (rec1 w s e)) ?_
    unfold rec1
    split
    · dsimp only; omega
    · exact Nat.le_refl _
theorem got_some {e : En} {l : List En} (hs : Srt l) : (got e.t e.k l).isSome = l.any (isK e) := by
  rw [any_isK hs]
  unfold got
  cases hf : fnd e.t e.k l
  · rfl
  · obtain ⟨hl, _⟩ := low_get hf
    simp [List.getElem?_eq_getElem hl]
theorem boxed_far {n0 M B : Nat} {A X : World} {t : TypeId} {v : Value} (h : HW n0 M A X) (b : Boxed A B t v) (h1 : t ≠ 130) (h2 : t ≠ 9) : Boxed X B t v := h.1.far _ _ _ _ b h1 h2
set_option maxRecDepth 100000 in
set_option maxHeartbeats 2000000 in
theorem dDropOthers (n0 H M : Nat) (r : Nat → Int) (l : List En) (log : List ByteArray) (left : Int) (dead : Bool) (big : Bool) (c : Nat) (vt vw : Value) (ts : List KEn) (want : List En) (W : World) (h : HostI n0 H M r l log left dead W) (hL : LD big left dead c) (hb : big = true → 50000 ≤ c) (hc : c ≤ 500000)
    (hT : EnsT W vt (ts.map KEn.en)) (hV : EnsT W vw want) (hsw : Srt want) (hsl : Srt l) (hkl : ∀ e ∈ l, KOk e) (n2 : want.length ≤ 10000) (n3 : ts.length ≤ 10000) (n4 : log.length ≤ 100000) :
    Calls Tryz.prog 130 #[dpI H, vt, vw] W fun e W' => e = .returned (.tuple #[]) ∧ ∃ left' dead', HostI n0 H M r ((ts.map KEn.en).foldl (rec1 want) ((l, c), log)).1.1 ((ts.map KEn.en).foldl (rec1 want) ((l, c), log)).2 left' dead' W' ∧ LD big left' dead' ((ts.map KEn.en).foldl (rec1 want) ((l, c), log)).1.2 ∧ HW n0 M W W' := by
  obtain ⟨ta, tc, rfl⟩ := hT.in.slice
  obtain ⟨wa, wc, rfl⟩ := hV.in.slice
  rw [List.length_map] at hT ⊢
  refine (callsIn_wide (n := 6)).1 ?_
  refine callsIn_of_wp_marks Tryz.func130 rfl trivial ?_ rfl
  simp only [Tryz.ntmps130, List.size_toArray, List.length_cons, List.length_nil, Nat.reduceAdd, Nat.reduceSub, Array.replicate_succ, Array.replicate_zero, List.push_toArray, List.append_toArray, List.nil_append, List.cons_append]
  gi_wp2_with (gi_at_call 81; refine (all_in Fence.wide (6 - 1) trivial rfl _ _ _ _).mono ?_; rintro e w' ⟨rfl, rfl⟩)
  refine ⟨trivial, ?_⟩
  refine (all_in Fence.wide 5 trivial rfl _ _ _ _).mono ?_
  rintro e w' ⟨rfl, rfl⟩
  gi_wp2
  have hm := m_Drop
  have bP := ((Boxed.new W 162 (dpI H)).alloc (.cells #[.slice wa want.length wc] 112)).alloc (.cells #[.slice ta ts.length tc] 112)
  have bV := (Boxed.new (W.alloc (.cells #[dpI H] 162)) 112 (.slice wa want.length wc)).alloc (.cells #[.slice ta ts.length tc] 112)
  have bB := Boxed.new ((W.alloc (.cells #[dpI H] 162)).alloc (.cells #[.slice wa want.length wc] 112)) 112 (.slice ta ts.length tc)
  have q0 := below_trans (below_trans (below_alloc W (.cells #[dpI H] 162)) (below_alloc _ (.cells #[.slice wa want.length wc] 112))) (below_alloc _ (.cells #[.slice ta ts.length tc] 112))
  have hsz : (((W.alloc (.cells #[dpI H] 162)).alloc (.cells #[.slice wa want.length wc] 112)).alloc (.cells #[.slice ta ts.length tc] 112)).heap.size = W.heap.size + 3 := by simp
  simp only [World.size_alloc] at bV bB
  have k0 := h.keep q0
  have w0 := HW.below (M := M) q0 h.n0
  have hT0 := hT.keep q0
  have hV0 := hV.keep q0
  have hn0 := h.n0
  have hMw := h.mp.lt
  generalize ((W.alloc (.cells #[dpI H] 162)).alloc (.cells #[.slice wa want.length wc] 112)).alloc (.cells #[.slice ta ts.length tc] 112) = W0 at *
  have hst0 : StI l.length log.length c ((l, c), log) := ⟨hsl, hkl, Nat.le_refl _, Nat.le_refl _, Nat.le_refl _⟩
  refine wpIn_rangeFunc_ownH rfl (by omega) (gf := 107) (lb := #[.pointer (some ⟨W.heap.size + 1 + 1, 0, none⟩)]) rfl trivial (enters_of Tryz.func107 (by kernel_rfl) rfl)
    (all_stopsK KEn.en Fence.wide (6 - 1) trivial rfl (by omega) (W.heap.size + 1 + 1) n0 _ ts (by omega) W0 (by omega) bB.cell hT0) HK.trans (HK.putObj (by omega)) (Below.refl _ _) (fun _ => rfl)
    (fun pre X => ∃ lf dd, HostI n0 H M r ((pre.map KEn.en).foldl (rec1 want) ((l, c), log)).1.1 ((pre.map KEn.en).foldl (rec1 want) ((l, c), log)).2 lf dd X ∧ LD big lf dd ((pre.map KEn.en).foldl (rec1 want) ((l, c), log)).1.2 ∧ HW n0 M W0 X)
    (fun _ _ _ => False)
    (fun pre X Y row hs hg hr => by
      obtain ⟨lf, dd, h1, h2, h3⟩ := hs
      exact ⟨lf, dd, h1.grown hg (fun j e => .inr ⟨by have := (hr j e).1; omega, (hr j e).2⟩), h2, h3.own hg (by omega) (fun j e => (hr j e).1)⟩)
    (fun _ _ _ _ _ hs _ _ => hs)
    ⟨left, dead, k0, hL, HW.refl _ _ _⟩
    (fun x a' X => ∃ Bx, KBox X Bx x.en ∧ a' = { tmps := #[dpI H, .slice ta ts.length tc, .slice wa want.length wc, .pointer (some ⟨W.heap.size, 0, none⟩), undef, .pointer (some ⟨W.heap.size + 1, 0, none⟩), .pointer (some ⟨Bx, 0, none⟩), undef, undef, .slice ta ts.length tc, .func (.func 107) #[] #[.pointer (some ⟨W.heap.size + 1 + 1, 0, none⟩)], .agg #[.int .i64 x.en.t, .string x.en.k], .string x.en.v, undef, undef, undef, undef, undef, undef, undef, undef, undef, undef, undef], defers := [] })
    (fun x a' _ X Y row hs hg hr => by obtain ⟨Bx, h2, h3⟩ := hs; exact ⟨Bx, h2.own hg (fun r e => (hr r e).2), h3⟩)
    ?assign ?body ?done ?stop
  case assign =>
    rintro l' pre x X K ⟨lf, dd, h1, h2, h3⟩ hK
    have hnX : n0 ≤ X.heap.size := h1.n0
    gi_wp2
    exact hK _ _ ((KeepsOthers.alloc _ _).from _) (HW.below (M := M) (below_alloc X _) hnX).1 ⟨lf, dd, h1.keep (below_alloc X _), h2, h3.trans (HW.below (below_alloc X _) hnX)⟩ ⟨X.heap.size, heap_alloc_new _ _, rfl⟩
  case body =>
    rintro l' pre x a' X hl _ ⟨lf, dd, h1, h2, h3⟩ ⟨Bx, bX, rfl⟩ hlt
    have hst := hst0.fold1 want pre
    have hnext : ((pre ++ [x]).map KEn.en).foldl (rec1 want) ((l, c), log) = rec1 want ((pre.map KEn.en).foldl (rec1 want) ((l, c), log)) x.en := by rw [List.map_append, List.foldl_append]; rfl
    obtain ⟨S, hS⟩ : ∃ S, (pre.map KEn.en).foldl (rec1 want) ((l, c), log) = S := ⟨_, rfl⟩
    rw [hS] at h1 h2 hst hnext
    have cV := (boxed_far h3 bV (by decide) (by decide)).cell
    have cP := (boxed_far h3 bP (by decide) (by decide)).cell
    obtain ⟨cX0, cX1⟩ := bX.cells
    have hVX := (hV0.hk h3.1).in
    gi_wp2
    refine ⟨trivial, ?_⟩
    refine (CallsIn.inRound l' (callsIn_wide.2 (lValue _ want x.en.t x.en.k X hVX hsw (by omega)))).mono ?_
    rintro e w1 ⟨rfl, q1⟩
    have hg := got_some (e := x.en) hsw
    have k1 := h1.keep q1
    have w1' := HW.below (M := M) q1 h1.n0
    have cP1 := (q1.cell (p := ⟨W.heap.size, 0, none⟩) (cell_lt cP)).trans cP
    have cX0' := (q1.cell (p := ⟨Bx, 0, none⟩) (cell_lt cX0)).trans cX0
    have cX1' := (q1.cell (p := ⟨Bx, 1, none⟩) (cell_lt cX1)).trans cX1
    rw [hg]
    generalize (got x.en.t x.en.k want).getD ⟨#[]⟩ = gv
    have HN : Hid (((pre ++ [x]).map KEn.en).foldl (rec1 want) ((l, c), log) = rec1 want S x.en) := hnext
    clear hg hnext cV cP cX0 cX1 q1
    cases hk : want.any (isK x.en)
    case true =>
      have HR : Hid (rec1 want S x.en = S) := by show _ = _; simp [rec1, hk]
      gi_wp2
      exact ⟨w1'.2.from (by omega), w1'.1, lf, dd, by rw [HN.out, HR.out]; exact k1, by rw [HN.out, HR.out]; exact h2, h3.trans w1'⟩
    case false =>
      gi_wp2
      refine ⟨trivial, ?_⟩
      have hle := h2.le
      have hcnt := hst.cnt
      have hlog := hst.log
      have hSc : S.1.2 ≤ c := by have := rec1_cnt want (pre.map KEn.en) ((l, c), log); rw [hS] at this; exact this
      refine (CallsIn.inRound l' (callsIn_wide.2 (hDrop n0 H M r S.1.1 S.2 lf dd w1 k1 h2.ge (by omega) x.en.t x.en.k x.en.v hst.srt hst.kok x.ok x.sk (by omega)))).mono ?_
      rintro e w2 ⟨rfl, k2, w2'⟩
      obtain ⟨hd, hL'⟩ := h2.step (fun e => by have := hb e; omega)
      rw [hd] at k2 hL'
      gi_wp2
      by_cases hc0 : 0 < S.1.2
      · have HR : rec1 want S x.en = ((del x.en.t x.en.k S.1.1, S.1.2 - 1), S.2 ++ [dropT x.en]) := by simp [rec1, hk, hc0]
        simp only [hc0, decide_true, Bool.not_true, Bool.false_eq_true, if_false] at k2 hL'
        exact ⟨(w1'.trans w2').2.from (by omega), (w1'.trans w2').1, _, _, by rw [HN.out, HR]; exact k2, by rw [HN.out, HR]; exact hL', h3.trans (w1'.trans w2')⟩
      · have HR : rec1 want S x.en = S := by simp [rec1, hc0]
        simp only [hc0, decide_false, Bool.not_false, if_true] at k2 hL'
        rw [show S.1.2 - 1 = S.1.2 by omega] at hL'
        exact ⟨(w1'.trans w2').2.from (by omega), (w1'.trans w2').1, _, _, by rw [HN.out, HR]; exact k2, by rw [HN.out, HR]; exact hL', h3.trans (w1'.trans w2')⟩
  case done =>
    rintro D ys X hD rfl ⟨lf, dd, h1, h2, h3⟩ hK
    gi_wp2
    refine ⟨by simp, .inl ⟨_, _, rfl, run_takeDeferred hK, ?_⟩⟩
    exact ⟨_, results_none rfl _ _ _, rfl, lf, dd, h1.grown (grownBy_putObj' X D _) (fun j e => by cases e; exact .inr ⟨by omega, _, hK, rfl⟩), h2, w0.trans (h3.own (grownBy_putObj' X D _) (by omega) (fun j e => by cases e; exact hD))⟩
  case stop =>
    rintro D c' pre X _ _ h _
    exact h.elim
end Go.Proofs.YtindifjhocgkbaaGreatDoor
