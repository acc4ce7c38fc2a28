import Derived.Test.YtindifjhocgkbaaGreatDoorRmA
import Derived.Deep.AppendLies
import Derived.Deep.RegionHeld3
import Derived.RangeFuncNested
import Derived.StillTail
import Derived.Deep.DrawnRows
import Derived.Test.YtindifjhocgkbaaGreatDoorErrCToKit
import Derived.Laws.AppendOwnNone
namespace Go.Proofs.YtindifjhocgkbaaGreatDoor
open Go.RowKit Go.ChangeMaps Go.MapKept Go.WideShapes Go.WideMaps
open Go.Maps (Keyed)
/-! ### Lists in order, as sets -/
theorem put_perm (e : En) (l : List En) : (put e l).Perm (e :: del e.t e.k l) := by
  rw [put_cut]
  refine List.perm_middle.trans (List.Perm.cons e ?_)
  rw [List.take_append_drop]
theorem del_none {t : Int} {k : ByteArray} {l : List En} (h : fnd t k l = false) : del t k l = l := by rw [del_cut, h]; rfl
theorem low_get {t : Int} {k : ByteArray} {l : List En} (h : fnd t k l = true) : ∃ hl : low t k l < l.length, (l[low t k l]).t = t ∧ (l[low t k l]).k = k := by
  unfold fnd at h
  by_cases hl : low t k l < l.length
  · rw [List.getElem?_eq_getElem hl] at h
    simp only [decide_eq_true_eq] at h
    exact ⟨hl, (cmpK_zero _ _ _ _).1 h⟩
  · rw [List.getElem?_eq_none (by omega)] at h
    cases h
theorem del_perm {t : Int} {k : ByteArray} {l : List En} (h : fnd t k l = true) : ∃ x, x ∈ l ∧ x.t = t ∧ x.k = k ∧ l.Perm (x :: del t k l) := by
  obtain ⟨hl, h1, h2⟩ := low_get h
  refine ⟨l[low t k l], List.getElem_mem hl, h1, h2, ?_⟩
  rw [del_cut, h, if_pos rfl]
  have e := List.perm_middle (a := l[low t k l]) (l₁ := l.take (low t k l)) (l₂ := l.drop (low t k l + 1))
  rw [← List.drop_eq_getElem_cons hl, List.take_append_drop] at e
  exact e
theorem srt_uniq {l : List En} (hs : Srt l) {x y : En} (hx : x ∈ l) (hy : y ∈ l) (ht : x.t = y.t) (hk : x.k = y.k) : x = y := by
  induction l with
  | nil => cases hx
  | cons a l ih =>
    obtain ⟨h1, h2⟩ := List.pairwise_cons.1 hs
    have key : ∀ {z : En}, z ∈ l → a.t = z.t → a.k = z.k → False := fun {z} hz et ek => by
      have := h1 z hz
      rw [et, ek, (cmpK_zero _ _ _ _).2 ⟨rfl, rfl⟩] at this
      omega
    rcases List.mem_cons.1 hx with ex | hx'
    · rcases List.mem_cons.1 hy with ey | hy'
      · rw [ex, ey]
      · subst ex; exact (key hy' ht hk).elim
    · rcases List.mem_cons.1 hy with ey | hy'
      · subst ey; exact (key hx' ht.symm hk.symm).elim
      · exact ih h2 hx' hy'
/-- Of one set there is but one list in order. -/
theorem srt_perm {a b : List En} (ha : Srt a) (hb : Srt b) (hp : a.Perm b) : a = b := by
  induction a generalizing b with
  | nil => exact (List.Perm.nil_eq hp)
  | cons x a ih =>
    cases b with
    | nil => exact absurd hp.length_eq (by simp)
    | cons y b =>
      obtain ⟨a1, a2⟩ := List.pairwise_cons.1 ha
      obtain ⟨b1, b2⟩ := List.pairwise_cons.1 hb
      have hxy : x = y := by
        rcases List.mem_cons.1 (hp.mem_iff.1 (List.mem_cons_self (a := x) (l := a))) with h | h
        · exact h
        · rcases List.mem_cons.1 (hp.mem_iff.2 (List.mem_cons_self (a := y) (l := b))) with h' | h'
          · exact h'.symm
          · have c1 := b1 x h
            have c2 := a1 y h'
            rw [cmpK_neg] at c1
            omega
      subst hxy
      rw [ih a2 b2 hp.cons_inv]
theorem perm_set {α : Type} : ∀ (l : List α) (j : Nat) (x : α), j < l.length → (l.set j x).Perm (x :: l.eraseIdx j)
  | [], j, x, h => by simp at h
  | a :: l, 0, x, _ => by simp
  | a :: l, j + 1, x, h => by
    simp only [List.set_cons_succ, List.eraseIdx_cons_succ]
    exact ((perm_set l j x (by simpa using h)).cons a).trans (List.Perm.swap _ _ _)
theorem perm_erase {α : Type} {l : List α} {j : Nat} {x : α} (h : l[j]? = some x) : l.Perm (x :: l.eraseIdx j) := by
  obtain ⟨hj, rfl⟩ := List.getElem?_eq_some_iff.1 h
  have := perm_set l j l[j] hj
  rwa [List.set_getElem_self] at this
/-! ### A map that holds a list -/
/-- The map in a block holds just these entries. -/
def MapIs (w : World) (b : Nat) (l : List En) : Prop := ∃ es clock, w.heap[b]? = some (.map es clock) ∧ Stamped es clock ∧ (es.toList.map kvM).Perm (l.map kvE)
theorem MapIs.lt {w : World} {b : Nat} {l : List En} (h : MapIs w b l) : b < w.heap.size := by
  obtain ⟨_, _, hb, _⟩ := h
  exact (Array.getElem?_eq_some_iff.1 hb).1
theorem MapIs.kept {w w' : World} {b : Nat} {l : List En} (h : MapIs w b l) (e : w'.heap[b]? = w.heap[b]?) : MapIs w' b l := by
  obtain ⟨es, c, hb, r⟩ := h
  exact ⟨es, c, e.trans hb, r⟩
theorem MapIs.made (w : World) : MapIs (w.alloc (.map #[] 0)) w.heap.size [] := ⟨#[], 0, (MapKept.heap_alloc w _).1, stamped_empty 0, by simp⟩
theorem map_keys {es : Array MapEntry} {l : List En} (hp : (es.toList.map kvM).Perm (l.map kvE)) (hk : ∀ e ∈ l, KOk e) : ∀ x ∈ es.toList, ∃ y, keyOf Tryz.prog 83 x.key = some y := fun x hx => by
  obtain ⟨e, he, hkv⟩ := List.mem_map.1 (hp.mem_iff.1 (List.mem_map.2 ⟨x, hx, rfl⟩))
  obtain ⟨y, hy⟩ := keyOf_mk e.t e.k (hk e he).1 (hk e he).2
  refine ⟨y, ?_⟩
  have : x.key = keyV e.t e.k := (congrArg Prod.fst hkv).symm
  rw [this]; exact hy
theorem Tryz.undM : Tryz.prog.underlying 128 = some (.map 83 159) := by kernel_rfl
/-- Is a key there? -/
theorem MapIs.find {w : World} {l : List En} (hs : Srt l) (hk : ∀ e ∈ l, KOk e) {t : Int} {k : ByteArray} (ht : (Lit.int .i64 t).wf = true) (hkk : k.size ≤ maxLen)
    {es : Array MapEntry} (hp : (es.toList.map kvM).Perm (l.map kvE)) :
    ((Instr.findKey 83 (keyV t k) es.toList).run Tryz.prog w = .ok none w ∧ fnd t k l = false ∧ ∀ x ∈ es.toList, x.key ≠ keyV t k) ∨
    ∃ j e0 x, (Instr.findKey 83 (keyV t k) es.toList).run Tryz.prog w = .ok (some (j, e0.val)) w ∧ es.toList[j]? = some e0 ∧ fnd t k l = true ∧ x ∈ l ∧ kvM e0 = kvE x ∧ x.t = t ∧ x.k = k ∧ l.Perm (x :: del t k l) ∧ e0.key = keyV t k := by
  obtain ⟨y, hy⟩ := keyOf_mk t k ht hkk
  rcases keyLaw.find w hy es.toList (map_keys hp hk) with ⟨h1, h2⟩ | ⟨j, e0, h1, h2, h3⟩
  · refine .inl ⟨h1, ?_, h2⟩
    cases hf : fnd t k l
    · rfl
    · obtain ⟨e, he, et, ek⟩ := (fnd_mem hs).1 hf
      obtain ⟨x, hx, hkv⟩ := List.mem_map.1 (hp.mem_iff.2 (List.mem_map.2 ⟨e, he, rfl⟩))
      exact absurd (by rw [show x.key = keyV e.t e.k from congrArg Prod.fst hkv, et, ek]) (h2 x hx)
  · obtain ⟨e, he, hkv⟩ := List.mem_map.1 (hp.mem_iff.1 (List.mem_map.2 ⟨e0, List.mem_of_getElem? h2, rfl⟩))
    have hkk' : keyV e.t e.k = keyV t k := (congrArg Prod.fst hkv).trans h3
    have het : e.t = t ∧ e.k = k := by simpa [keyV] using hkk'
    have hf : fnd t k l = true := (fnd_mem hs).2 ⟨e, he, het⟩
    obtain ⟨x, hx, xt, xk, xp⟩ := del_perm hf
    have : e = x := srt_uniq hs he hx (het.1.trans xt.symm) (het.2.trans xk.symm)
    subst this
    exact .inr ⟨j, e0, e, h1, h2, hf, he, hkv.symm, xt, xk, xp, h3⟩
theorem MapIs.look {w : World} {b : Nat} {l : List En} (h : MapIs w b l) (hs : Srt l) (hk : ∀ e ∈ l, KOk e) {t : Int} {k : ByteArray} (ht : (Lit.int .i64 t).wf = true) (hkk : k.size ≤ maxLen) :
    ∃ v, (Instr.lookup 128 (.map (some b)) (keyV t k) true).run Tryz.prog w = .ok (.tuple #[hldV v, .bool (fnd t k l)]) w := by
  obtain ⟨y, hy⟩ := keyOf_mk t k ht hkk
  obtain ⟨es, clock, hb, hst, hp⟩ := h
  rcases MapIs.find (w := w) hs hk ht hkk hp with ⟨h1, h2, _⟩ | ⟨j, e0, x, h1, _, h2, _, hkv, _⟩
  · exact ⟨⟨#[]⟩, by simp [Instr.lookup, run_underlying Tryz.undM, MapKept.run_getObj_map hb, keyLaw.check w _ hy, h1, h2, Result.andThen]⟩
  · refine ⟨x.v, ?_⟩
    have hv : e0.val = hldV x.v := congrArg Prod.snd hkv
    simp [Instr.lookup, run_underlying Tryz.undM, MapKept.run_getObj_map hb, keyLaw.check w _ hy, h1, h2, hv, Result.andThen]
theorem MapIs.look_all {w : World} {b : Nat} {l : List En} (h : MapIs w b l) (hs : Srt l) (hk : ∀ e ∈ l, KOk e) {t : Int} {k : ByteArray} (ht : (Lit.int .i64 t).wf = true) (hkk : k.size ≤ maxLen) :
    ∃ v, ∀ w' : World, w'.heap[b]? = w.heap[b]? → (Instr.lookup 128 (.map (some b)) (keyV t k) true).run Tryz.prog w' = .ok (.tuple #[hldV v, .bool (fnd t k l)]) w' := by
  obtain ⟨y, hy⟩ := keyOf_mk t k ht hkk
  obtain ⟨es, clock, hb, hst, hp⟩ := h
  cases hf : fnd t k l
  · refine ⟨⟨#[]⟩, fun w' e => ?_⟩
    rcases MapIs.find (w := w') hs hk ht hkk hp with ⟨h1, h2, _⟩ | ⟨j, e0, x, h1, _, h2, _, hkv, _⟩
    · simp [Instr.lookup, run_underlying Tryz.undM, MapKept.run_getObj_map (e.trans hb), keyLaw.check w' _ hy, h1, Result.andThen]
    · rw [hf] at h2; cases h2
  · obtain ⟨x, hx, xt, xk, _⟩ := del_perm hf
    refine ⟨x.v, fun w' e => ?_⟩
    rcases MapIs.find (w := w') hs hk ht hkk hp with ⟨h1, h2, _⟩ | ⟨j, e0, x', h1, _, _, hx', hkv, xt', xk', _⟩
    · rw [hf] at h2; cases h2
    · obtain rfl := srt_uniq hs hx hx' (xt.trans xt'.symm) (xk.trans xk'.symm)
      have hv : e0.val = hldV x.v := congrArg Prod.snd hkv
      simp [Instr.lookup, run_underlying Tryz.undM, MapKept.run_getObj_map (e.trans hb), keyLaw.check w' _ hy, h1, hv, Result.andThen]
theorem MapIs.store {w : World} {b : Nat} {l : List En} (h : MapIs w b l) (hs : Srt l) (hk : ∀ e ∈ l, KOk e) (e : En) (he : KOk e) :
    ∃ es' clock', (Instr.mapUpdate 128 (.map (some b)) (keyV e.t e.k) (hldV e.v)).run Tryz.prog w = .ok () (setBlock w b (.map es' clock')) ∧ MapIs (setBlock w b (.map es' clock')) b (put e l) := by
  obtain ⟨y, hy⟩ := keyOf_mk e.t e.k he.1 he.2
  obtain ⟨es, clock, hb, hst, hp⟩ := h
  rcases MapIs.find (w := w) hs hk he.1 he.2 hp with ⟨h1, h2, h3⟩ | ⟨j, e0, x, h1, h2, _, _, hkv, xt, xk, xp, h3⟩
  · refine ⟨es.push ⟨keyV e.t e.k, hldV e.v, clock⟩, clock + 1, ?_, ⟨_, _, heap_setBlock_same hb _, stamped_push hst h3, ?_⟩⟩
    · simp [Instr.mapUpdate, run_underlying Tryz.undM, MapKept.run_getObj_map hb, keyLaw.check w false hy, h1, MapKept.run_setObj_map _ hb, Result.andThen, setBlock]
    · have e1 := (put_perm e l).map kvE
      rw [del_none h2] at e1
      refine List.Perm.trans ?_ e1.symm
      rw [Array.toList_push, List.map_append, List.map_singleton]
      exact (List.perm_append_singleton _ _).trans (hp.cons _)
  · have hj : es[j]? = some e0 := by simpa using h2
    have hlist : (es.modify j (fun e' => { e' with key := keyV e.t e.k, val := hldV e.v })).toList = es.toList.set j { e0 with key := keyV e.t e.k, val := hldV e.v } := by rw [Array.toList_modify, modify_eq_set _ _ _ _ h2]
    refine ⟨es.modify j (fun e' => { e' with key := keyV e.t e.k, val := hldV e.v }), clock, ?_, ⟨_, _, heap_setBlock_same hb _, stamped_modify hst _ _ (fun _ _ => rfl) (fun e' _ he' => by rw [hj] at he'; cases he'; exact h3.symm), ?_⟩⟩
    · simp [Instr.mapUpdate, run_underlying Tryz.undM, MapKept.run_getObj_map hb, keyLaw.check w false hy, h1, hj, h3, keyLaw.stays w hy, MapKept.run_setObj_map _ hb, Result.andThen, setBlock]
    · rw [hlist, List.map_set]
      refine (perm_set _ _ _ (by simpa using (List.getElem?_eq_some_iff.1 h2).1)).trans ?_
      refine List.Perm.trans ?_ ((put_perm e l).map kvE).symm
      refine List.Perm.cons (kvE e) ?_
      have p1 : (kvM e0 :: (es.toList.map kvM).eraseIdx j).Perm (kvE x :: (del e.t e.k l).map kvE) :=
        ((perm_erase (by simp [h2] : (es.toList.map kvM)[j]? = some (kvM e0))).symm.trans hp).trans (xp.map kvE)
      rw [hkv] at p1
      exact p1.cons_inv
theorem MapIs.drop {w : World} {b : Nat} {l : List En} (h : MapIs w b l) (hs : Srt l) (hk : ∀ e ∈ l, KOk e) {t : Int} {k : ByteArray} (ht : (Lit.int .i64 t).wf = true) (hkk : k.size ≤ maxLen) (ty : TypeId) :
    ∃ es' clock', (Builtin.delete_ #[128, 83] ty #[.map (some b), keyV t k]).run Tryz.prog w = .ok (.tuple #[]) (setBlock w b (.map es' clock')) ∧ MapIs (setBlock w b (.map es' clock')) b (del t k l) := by
  obtain ⟨y, hy⟩ := keyOf_mk t k ht hkk
  obtain ⟨es, clock, hb, hst, hp⟩ := h
  rcases MapIs.find (w := w) hs hk ht hkk hp with ⟨h1, h2, h3⟩ | ⟨j, e0, x, h1, h2, _, _, hkv, xt, xk, xp, h3⟩
  · refine ⟨es, clock, ?_, ⟨_, _, heap_setBlock_same hb _, hst, by rw [del_none h2]; exact hp⟩⟩
    simp [Builtin.delete_, run_underlying Tryz.undM, MapKept.run_getObj_map hb, keyLaw.check w _ hy, h1, MapKept.run_setObj_map _ hb, Result.andThen, setBlock]
  · have hjs : j < es.size := by simpa using (List.getElem?_eq_some_iff.1 h2).1
    have hsub : (es.eraseIdxIfInBounds j).toList = es.toList.eraseIdx j := by
      unfold Array.eraseIdxIfInBounds
      rw [dif_pos hjs]
      simp
    refine ⟨es.eraseIdxIfInBounds j, clock, ?_, ⟨_, _, heap_setBlock_same hb _, stamped_erase hst j, ?_⟩⟩
    · simp [Builtin.delete_, run_underlying Tryz.undM, MapKept.run_getObj_map hb, keyLaw.check w _ hy, h1, MapKept.run_setObj_map _ hb, Result.andThen, setBlock]
    · rw [hsub]
      have p1 : (kvM e0 :: (es.toList.eraseIdx j).map kvM).Perm (kvE x :: (del t k l).map kvE) :=
        (((perm_erase h2).map kvM).symm.trans hp).trans (xp.map kvE)
      rw [hkv] at p1
      exact p1.cons_inv
/-! ### A range over it -/
/-- A range over the map under way: these are to come. -/
def RngIs (w : World) (b r : Nat) (l rest : List En) : Prop := ∃ es clock since seen c0, w.heap[b]? = some (.map es clock) ∧ Stamped es clock ∧ (es.toList.map kvM).Perm (l.map kvE) ∧
  w.heap[r]? = some (.mapIter (some b) since seen c0) ∧ (∀ x ∈ es.toList, x.born < since) ∧ since ≤ c0 ∧ since ≤ clock ∧ ((leftOf es seen).toList.map kvM).Perm (rest.map kvE)
theorem RngIs.map {w : World} {b r : Nat} {l rest : List En} (h : RngIs w b r l rest) : MapIs w b l := by
  obtain ⟨es, clock, since, seen, c0, hb, hst, hp, _⟩ := h
  exact ⟨es, clock, hb, hst, hp⟩
theorem RngIs.lt {w : World} {b r : Nat} {l rest : List En} (h : RngIs w b r l rest) : r < w.heap.size := by
  obtain ⟨es, clock, since, seen, c0, hb, hst, hp, hr, _⟩ := h
  exact (Array.getElem?_eq_some_iff.1 hr).1
theorem RngIs.kept {w w' : World} {b r : Nat} {l rest : List En} (h : RngIs w b r l rest) (e : w'.heap[b]? = w.heap[b]?) (e' : w'.heap[r]? = w.heap[r]?) : RngIs w' b r l rest := by
  obtain ⟨es, clock, since, seen, c0, hb, hst, hp, hr, h⟩ := h
  exact ⟨es, clock, since, seen, c0, e.trans hb, hst, hp, e'.trans hr, h⟩
theorem RngIs.left_eq {w : World} {b r : Nat} {l rest : List En} (h : RngIs w b r l rest) : w.rangeLeft b r = rest.length := by
  obtain ⟨es, clock, since, seen, c0, hb, hst, hp, hr, _, _, _, hl⟩ := h
  simp only [World.rangeLeft, hb, hr]
  have := hl.length_eq
  simpa using this
theorem MapIs.range {w : World} {b : Nat} {l : List En} (h : MapIs w b l) :
    ∃ w', (Instr.range 128 (.map (some b))).run Tryz.prog w = .ok (.pointer (some ⟨w.heap.size, 0, none⟩)) w' ∧ RngIs w' b w.heap.size l l ∧ w.grownBy w' none ∧ w'.heap.size = w.heap.size + 1 ∧ Below w.heap.size w w' := by
  have hlt := h.lt
  obtain ⟨es, clock, hb, hst, hp⟩ := h
  refine ⟨_, run_range_map w _ _ _ b es clock Tryz.undM hb, ⟨es, clock, clock, #[], clock, ((MapKept.heap_alloc w _).2 b hlt).trans hb, hst, hp, (MapKept.heap_alloc w _).1, hst.1, Nat.le_refl _, Nat.le_refl _, ?_⟩, World.grownBy_alloc w _ none, by simp, below_alloc w _⟩
  have e : (leftOf es #[]).toList = es.toList := by simp [leftOf]
  rw [e]; exact hp
theorem left_push (L : List MapEntry) (hn : (L.map (·.born)).Nodup) {e : MapEntry} (he : e ∈ L) : L.Perm (e :: L.filter (fun x => !(x.born == e.born))) := by
  induction L with
  | nil => cases he
  | cons a L ih =>
    simp only [List.map_cons, List.nodup_cons, List.mem_map, not_exists, not_and] at hn
    rcases List.mem_cons.1 he with rfl | he
    · rw [List.filter_cons_of_neg (by simp)]
      refine List.Perm.cons _ ?_
      rw [List.filter_eq_self.2]
      intro x hx
      have := hn.1 x hx
      simpa using this
    · have hne : a.born ≠ e.born := fun h => hn.1 e he h.symm
      rw [List.filter_cons_of_pos (by simpa using hne)]
      exact ((ih hn.2 he).cons a).trans (List.Perm.swap _ _ _)
/-- The step of a range. -/
theorem RngIs.next {w : World} {b r : Nat} {l rest : List En} (h : RngIs w b r l rest) (ty : TypeId) :
    (rest = [] ∧ (Instr.next (.pointer (some ⟨r, 0, none⟩)) false ty).run Tryz.prog w = .ok (.tuple #[.bool false]) w) ∨
    ∃ y rest' w', rest.Perm (y :: rest') ∧ (Instr.next (.pointer (some ⟨r, 0, none⟩)) false ty).run Tryz.prog w = .ok (.tuple #[.bool true, keyV y.t y.k, hldV y.v]) w' ∧ RngIs w' b r l rest' ∧ w.grownBy w' (some r) ∧ w'.heap.size = w.heap.size ∧
      (Instr.entry (.pointer (some ⟨r, 0, none⟩))).run Tryz.prog w' = .ok (.tuple #[keyV y.t y.k, hldV y.v]) w' := by
  obtain ⟨es, clock, since, seen, c0, hb, hst, hp, hr, hold, hsc, hsk, hl⟩ := h
  have hne : r ≠ b := by intro e; rw [e, hb] at hr; cases hr
  rcases run_next_at (P := Tryz.prog) w ty r b since c0 seen es clock hr hb hold hsc with ⟨h0, hrun⟩ | ⟨e, he, w1, hal, hrun⟩
  · refine .inl ⟨?_, hrun⟩
    have := hl.length_eq
    simp only [List.length_map, Array.length_toList, h0] at this
    exact List.eq_nil_of_length_eq_zero this.symm
  · obtain ⟨hem, hes⟩ := mem_left he
    obtain ⟨y, hy, hkv⟩ := List.mem_map.1 (hl.mem_iff.1 (List.mem_map.2 ⟨e, he, rfl⟩))
    have hnd : ((leftOf es seen).toList.map (·.born)).Nodup := by
      have h1 := ((stamped_iff es clock).1 hst).2.1
      unfold leftOf
      rw [Array.toList_filter]
      exact (List.filter_sublist.map _).nodup h1
    have hpush : (leftOf es (seen.push e.born)).toList = (leftOf es seen).toList.filter (fun x => !(x.born == e.born)) := by
      unfold leftOf
      rw [Array.toList_filter, Array.toList_filter, List.filter_filter]
      refine List.filter_congr fun x _ => ?_
      rw [contains_push]
      cases seen.contains x.born <;> cases (x.born == e.born) <;> rfl
    have hlp := left_push _ hnd he
    rw [← hpush] at hlp
    obtain ⟨rest', hrest⟩ : ∃ rest', rest.Perm (y :: rest') := by
      obtain ⟨i, hi, rfl⟩ := List.getElem_of_mem hy
      exact ⟨_, perm_erase (List.getElem?_eq_getElem hi)⟩
    have hl' : ((leftOf es (seen.push e.born)).toList.map kvM).Perm (rest'.map kvE) := by
      have p1 := ((hlp.map kvM).symm.trans hl).trans (hrest.map kvE)
      simp only [List.map_cons, ← hkv] at p1
      exact p1.cons_inv
    have e1 : e.key = keyV y.t y.k := (congrArg Prod.fst hkv).symm
    have e2 : e.val = hldV y.v := (congrArg Prod.snd hkv).symm
    have hr1 : w1.heap[r]? = some (.mapIter (some b) since seen c0) := by rcases hal with rfl | rfl <;> exact hr
    have hb1 : w1.heap[b]? = some (.map es clock) := by rcases hal with rfl | rfl <;> exact hb
    have hset := heap_set (o' := .mapIter (some b) since (seen.push e.born) clock) hr1
    have hb' : (setBlock w1 r (.mapIter (some b) since (seen.push e.born) clock)).heap[b]? = some (.map es clock) := (hset.2 b (fun e1 => hne e1.symm)).trans hb1
    refine .inr ⟨y, rest', _, hrest, by rw [hrun, e1, e2], ⟨es, clock, since, seen.push e.born, clock, hb', hst, hp, hset.1, hold, hsk, hsk, hl'⟩, ?_, ?_, ?_⟩
    · rcases hal with rfl | rfl <;> exact ⟨rfl, rfl, rfl, by simp [setBlock], fun i _ hi => hset.2 i (fun e1 => hi (by rw [e1]))⟩
    · rcases hal with rfl | rfl <;> simp [setBlock]
    · have := run_entry_at (P := Tryz.prog) _ r b since seen es clock e hset.1 hb' hem ((stamped_iff es clock).1 hst).2.1
      rw [this, e1, e2]
/-! ### .. at the operations, for the walk -/
section
variable (w : World) {ops : Array Oper} {rest : List Oper} {o : Oper} {a : Act} {Q : Exit → Act → World → Prop}
theorem wpl_range (hg : o.guard = none) (m : Operand) (hop : o.op = Op.range 128 m) (b : Nat) (l : List En) (hm : a.eval m = .map (some b)) (h : MapIs w b l)
    (hK : ∀ w', RngIs w' b w.heap.size l l → Below w.heap.size w w' → w'.heap.size = w.heap.size + 1 → wpList Tryz.prog ops Q rest (a.put o.dst (.pointer (some ⟨w.heap.size, 0, none⟩))) w') :
    wpList Tryz.prog ops Q (o :: rest) a w := by
  refine wpList_plain hg fun K' hK' => ?_
  obtain ⟨w', hrun, r1, _, r3, r4⟩ := h.range
  unfold Oper.wp
  simp [execOp, hop, hm, hrun, Result.andThen]
  exact hK' _ _ (hK w' r1 r4 r3)
theorem wpl_next (hg : o.guard = none) (it : Operand) (hop : o.op = Op.next it false) (b r : Nat) (l rst : List En) (hit : a.eval it = .pointer (some ⟨r, 0, none⟩)) (h : RngIs w b r l rst)
    (hDone : rst = [] → wpList Tryz.prog ops Q rest (a.put o.dst (.tuple #[.bool false])) w)
    (hMore : ∀ (y : En) (rst' : List En) (w' : World), rst.Perm (y :: rst') → RngIs w' b r l rst' → w.grownBy w' (some r) → w'.heap.size = w.heap.size →
      (Instr.entry (.pointer (some ⟨r, 0, none⟩))).run Tryz.prog w' = .ok (.tuple #[keyV y.t y.k, hldV y.v]) w' → wpList Tryz.prog ops Q rest (a.put o.dst (.tuple #[.bool true, keyV y.t y.k, hldV y.v])) w') :
    wpList Tryz.prog ops Q (o :: rest) a w := by
  refine wpList_plain hg fun K' hK' => ?_
  unfold Oper.wp
  rcases h.next o.type with ⟨h0, hrun⟩ | ⟨y, rst', w', hp, hrun, hr, hgr, hsz, hen⟩
  · simp [execOp, hop, hit, hrun, Result.andThen]
    exact hK' _ _ (hDone h0)
  · simp [execOp, hop, hit, hrun, Result.andThen]
    exact hK' _ _ (hMore y rst' w' hp hr hgr hsz hen)
theorem wpl_delete (hg : o.guard = none) (m x : Operand) (hop : o.op = Op.call { callee := Callee.builtin Builtin.delete, args := #[m, x], argTypes := #[128, 83] }) (b : Nat) (l : List En) (hm : a.eval m = .map (some b)) (t : Int) (k : ByteArray) (hx : a.eval x = keyV t k)
    (h : MapIs w b l) (hs : Srt l) (hk : ∀ e ∈ l, KOk e) (ht : (Lit.int .i64 t).wf = true) (hkk : k.size ≤ maxLen)
    (hK : ∀ es' clock', MapIs (setBlock w b (.map es' clock')) b (del t k l) → wpList Tryz.prog ops Q rest (a.put o.dst (.tuple #[])) (setBlock w b (.map es' clock'))) :
    wpList Tryz.prog ops Q (o :: rest) a w := by
  refine wpList_plain hg fun K' hK' => ?_
  obtain ⟨es', clock', hrun, r1⟩ := h.drop hs hk ht hkk o.type
  unfold Oper.wp
  simp [execOp, hop, resolve, invoke, builtin, hm, hx, hrun, Result.andThen]
  exact hK' _ _ (hK es' clock' r1)
theorem wpl_store (hg : o.guard = none) (m x v : Operand) (hop : o.op = Op.mapUpdate 128 m x v) (b : Nat) (l : List En) (hm : a.eval m = .map (some b)) (e : En) (hx : a.eval x = keyV e.t e.k) (hv : a.eval v = hldV e.v)
    (h : MapIs w b l) (hs : Srt l) (hk : ∀ e ∈ l, KOk e) (he : KOk e)
    (hK : ∀ es' clock', MapIs (setBlock w b (.map es' clock')) b (put e l) → wpList Tryz.prog ops Q rest (a.put o.dst undef) (setBlock w b (.map es' clock'))) :
    wpList Tryz.prog ops Q (o :: rest) a w := by
  refine wpList_plain hg fun K' hK' => ?_
  obtain ⟨es', clock', hrun, r1⟩ := h.store hs hk e he
  unfold Oper.wp
  simp [execOp, hop, hm, hx, hv, hrun, Result.andThen]
  exact hK' _ _ (hK es' clock' r1)
end
end Go.Proofs.YtindifjhocgkbaaGreatDoor
namespace Go.Proofs.YtindifjhocgkbaaGreatDoor
open Go.RowKit Go.ChangeMaps Go.MapKept Go.WideShapes Go.WideMaps
open Go.Maps (Keyed)
/-- What the calls of a datapath leave as it was: all below n0; and all cells but a host's, and texts. -/
structure HK (n0 : Nat) (W W' : World) : Prop where
  low : Below n0 W W'
  far : ∀ (i : Nat) (c : Array Value) (t : TypeId) (f : Nat × Nat), W.heap[i]? = some (.cells c t f) → t ≠ 130 → t ≠ 9 → W'.heap[i]? = some (.cells c t f)
/-- .. and what is no cells, but for the map. -/
structure HO (M : Nat) (W W' : World) : Prop where
  size : W.heap.size ≤ W'.heap.size
  same : ∀ (k : Nat) (o : Obj), W.heap[k]? = some o → o.isCells = false → k ≠ M → W'.heap[k]? = some o
def HW (n0 M : Nat) (W W' : World) : Prop := HK n0 W W' ∧ HO M W W'
theorem HK.refl (n0 : Nat) (W : World) : HK n0 W W := ⟨Below.refl _ _, fun _ _ _ _ h _ _ => h⟩
theorem HO.refl (M : Nat) (W : World) : HO M W W := ⟨Nat.le_refl _, fun _ _ h _ _ => h⟩
theorem HW.refl (n0 M : Nat) (W : World) : HW n0 M W W := ⟨HK.refl _ _, HO.refl _ _⟩
theorem HK.trans {n0 : Nat} {A B C : World} (h : HK n0 A B) (k : HK n0 B C) : HK n0 A C := ⟨h.low.trans k.low, fun i c t f e h1 h2 => k.far i c t f (h.far i c t f e h1 h2) h1 h2⟩
theorem HO.trans {M : Nat} {A B C : World} (h : HO M A B) (k : HO M B C) : HO M A C := ⟨Nat.le_trans h.size k.size, fun i o e h1 h2 => k.same i o (h.same i o e h1 h2) h1 h2⟩
theorem HW.trans {n0 M : Nat} {A B C : World} (h : HW n0 M A B) (k : HW n0 M B C) : HW n0 M A C := ⟨h.1.trans k.1, h.2.trans k.2⟩
theorem HW.size {n0 M : Nat} {A B : World} (h : HW n0 M A B) : A.heap.size ≤ B.heap.size := h.2.size
theorem HW.of {n0 M : Nat} {W W' : World} {row : Option Nat} (hg : W.grownBy W' row) (hn : n0 ≤ W.heap.size)
    (hr : ∀ j, row = some j → n0 ≤ j ∧ ((∃ c f, W.heap[j]? = some (.cells c 130 f)) ∨ (∃ c f, W.heap[j]? = some (.cells c 9 f)) ∨ (j = M ∧ ∃ es cl, W.heap[j]? = some (.map es cl)))) : HW n0 M W W' := by
  refine ⟨⟨⟨hg.os, hg.tape, hg.output, hg.size, fun k hk => hg.block k (by omega) (fun e => ?_)⟩, fun i c t f e h1 h2 => ?_⟩, ⟨hg.size, fun k o e h1 h2 => ?_⟩⟩
  · have := (hr k e.symm).1; omega
  · refine (hg.block i (Array.getElem?_eq_some_iff.1 e).1 (fun e1 => ?_)).trans e
    obtain ⟨_, ⟨c', f', e2⟩ | ⟨c', f', e2⟩ | ⟨_, es, cl, e2⟩⟩ := hr i e1.symm
    · rw [e] at e2; cases e2; exact h1 rfl
    · rw [e] at e2; cases e2; exact h2 rfl
    · rw [e] at e2; cases e2
  · refine (hg.block k (Array.getElem?_eq_some_iff.1 e).1 (fun e1 => ?_)).trans e
    obtain ⟨_, ⟨c', f', e2⟩ | ⟨c', f', e2⟩ | ⟨hM, _⟩⟩ := hr k e1.symm
    · rw [e] at e2; cases e2; simp [Obj.isCells] at h1
    · rw [e] at e2; cases e2; simp [Obj.isCells] at h1
    · exact h2 hM
theorem HW.below {n0 M : Nat} {W W' : World} (q : Below W.heap.size W W') (hn : n0 ≤ W.heap.size) : HW n0 M W W' :=
  HW.of (row := none) ⟨q.os, q.tape, q.output, q.size, fun k hk _ => q.block k hk⟩ hn (fun j e => by cases e)
theorem HO.from {M B : Nat} {W W' : World} (h : HO M W W') (hM : M < B) : KeepsFrom B W W' := ⟨h.size, fun k o hB e ho => h.same k o e ho (by omega)⟩
theorem grown_cell (W : World) (H i : Nat) (v : Value) : W.grownBy (W.setCell ⟨H, i, none⟩ v) (some H) :=
  ⟨rfl, rfl, rfl, by simp, fun k _ hk => heap_setCell_other _ _ _ _ (fun e => hk (by rw [e]))⟩
theorem grown_map (W : World) (M : Nat) (o : Obj) {es : Array MapEntry} {cl : Nat} (h : W.heap[M]? = some (.map es cl)) : W.grownBy (setBlock W M o) (some M) :=
  ⟨rfl, rfl, rfl, by simp [setBlock], fun i _ hi => heap_setBlock_other h _ (fun e => hi (by rw [e]))⟩
/-- The cells of a host. -/
abbrev hostC (a b c f g vl : Value) (r : Nat → Int) (M : Nat) (left : Int) (dead : Bool) : Array Value :=
  #[a, b, c, .int .i64 left, f, .bool dead, g, .int .i64 (r 0), .int .i64 (r 1), .int .i64 (r 2), .map (some M), vl]
/-- A host: its rooms, what it holds, what was done, how many calls are left (below 0: all), whether all has stopped. -/
structure HostI (n0 H M : Nat) (r : Nat → Int) (l : List En) (log : List ByteArray) (left : Int) (dead : Bool) (W : World) : Prop where
  blk : ∃ a b c f g vl, W.heap[H]? = some (.cells (hostC a b c f g vl r M left dead) 130 (0, 0)) ∧ W.ownsRow n0 9 1 vl log.length (log.map .string)
  mp : MapIs W M l
  hH : n0 ≤ H
  hM : n0 ≤ M
theorem HostI.ltH {n0 H M : Nat} {r : Nat → Int} {l : List En} {log : List ByteArray} {left : Int} {dead : Bool} {W : World} (h : HostI n0 H M r l log left dead W) : H < W.heap.size := by
  obtain ⟨_, _, _, _, _, _, e, _⟩ := h.blk
  exact (Array.getElem?_eq_some_iff.1 e).1
theorem HostI.n0 {n0 H M : Nat} {r : Nat → Int} {l : List En} {log : List ByteArray} {left : Int} {dead : Bool} {W : World} (h : HostI n0 H M r l log left dead W) : n0 ≤ W.heap.size := by
  have := h.ltH; have := h.hH; omega
/-- A host is kept where no block of it is turned. -/
theorem HostI.grown {n0 H M : Nat} {r : Nat → Int} {l : List En} {log : List ByteArray} {left : Int} {dead : Bool} {W W' : World} {row : Option Nat} (h : HostI n0 H M r l log left dead W) (hg : W.grownBy W' row)
    (hr : ∀ j, row = some j → (∃ c t f, W.heap[j]? = some (.cells c t f) ∧ t ≠ 130 ∧ t ≠ 9) ∨ (j ≠ M ∧ ∃ o : Obj, W.heap[j]? = some o ∧ o.isCells = false)) : HostI n0 H M r l log left dead W' := by
  obtain ⟨a, b, c, f, g, vl, e, ho⟩ := h.blk
  refine ⟨⟨a, b, c, f, g, vl, (hg.block H h.ltH (fun e1 => ?_)).trans e, ?_⟩, h.mp.kept (hg.block M h.mp.lt (fun e1 => ?_)), h.hH, h.hM⟩
  · obtain ⟨c', t', f', e2, h1, _⟩ | ⟨_, o, e2, h1⟩ := hr H e1.symm
    · rw [e] at e2; cases e2; exact h1 rfl
    · rw [e] at e2; cases e2; simp [Obj.isCells] at h1
  · rcases ho with ⟨hl, hn | ⟨g', cap, cur, hv, hb, hc, hrest⟩⟩
    · exact ⟨hl, .inl hn⟩
    · refine ⟨hl, .inr ⟨g', cap, cur, hv, hb, (hg.block g' (Array.getElem?_eq_some_iff.1 hc).1 (fun e1 => ?_)).trans hc, hrest⟩⟩
      obtain ⟨c', t', f', e2, _, h1⟩ | ⟨_, o, e2, h1⟩ := hr g' e1.symm
      · rw [hc] at e2; cases e2; exact h1 rfl
      · rw [hc] at e2; cases e2; simp [Obj.isCells] at h1
  · obtain ⟨es, cl, hm, _⟩ := h.mp
    obtain ⟨c', t', f', e2, _⟩ | ⟨h1, _⟩ := hr M e1.symm
    · rw [hm] at e2; cases e2
    · exact h1 rfl
theorem HostI.keep {n0 H M : Nat} {r : Nat → Int} {l : List En} {log : List ByteArray} {left : Int} {dead : Bool} {W W' : World} (h : HostI n0 H M r l log left dead W) (q : Below W.heap.size W W') : HostI n0 H M r l log left dead W' :=
  h.grown (row := none) ⟨q.os, q.tape, q.output, q.size, fun k hk _ => q.block k hk⟩ (fun j e => by cases e)
theorem HostI.ne {n0 H M : Nat} {r : Nat → Int} {l : List En} {log : List ByteArray} {left : Int} {dead : Bool} {W : World} (h : HostI n0 H M r l log left dead W) : M ≠ H := by
  obtain ⟨a, b, c, f, g, vl, e, ho⟩ := h.blk
  obtain ⟨es, cl, hm, _⟩ := h.mp
  intro e1
  rw [e1, e] at hm
  cases hm
/-- left and dead are written. -/
theorem HostI.set3 {n0 H M : Nat} {r : Nat → Int} {l : List En} {log : List ByteArray} {left : Int} {dead : Bool} {W : World} (h : HostI n0 H M r l log left dead W) (left' : Int) :
    HostI n0 H M r l log left' dead (W.setCell ⟨H, 3, none⟩ (.int .i64 left')) := by
  obtain ⟨a, b, c, f, g, vl, e, ho⟩ := h.blk
  refine ⟨⟨a, b, c, f, g, vl, by rw [heap_setCell_same _ _ _ _ _ _ e]; simp [hostC], ?_⟩, h.mp.kept (heap_setCell_other _ _ _ _ h.ne), h.hH, h.hM⟩
  refine ownsRow_setCell_other ho (fun e1 => ?_) _
  rcases ho with ⟨hl, ⟨rfl, _⟩ | ⟨g', cap, cur, rfl, hb, hc, hrest⟩⟩
  · simp [Value.ownBlock] at e1
  · simp only [Value.ownBlock, Option.some.injEq] at e1
    rw [e1, e] at hc; cases hc
theorem HostI.set5 {n0 H M : Nat} {r : Nat → Int} {l : List En} {log : List ByteArray} {left : Int} {dead : Bool} {W : World} (h : HostI n0 H M r l log left dead W) (dead' : Bool) :
    HostI n0 H M r l log left dead' (W.setCell ⟨H, 5, none⟩ (.bool dead')) := by
  obtain ⟨a, b, c, f, g, vl, e, ho⟩ := h.blk
  refine ⟨⟨a, b, c, f, g, vl, by rw [heap_setCell_same _ _ _ _ _ _ e]; simp [hostC], ?_⟩, h.mp.kept (heap_setCell_other _ _ _ _ h.ne), h.hH, h.hM⟩
  refine ownsRow_setCell_other ho (fun e1 => ?_) _
  rcases ho with ⟨hl, ⟨rfl, _⟩ | ⟨g', cap, cur, rfl, hb, hc, hrest⟩⟩
  · simp [Value.ownBlock] at e1
  · simp only [Value.ownBlock, Option.some.injEq] at e1
    rw [e1, e] at hc; cases hc
theorem HostI.setW {n0 H M : Nat} {r : Nat → Int} {l : List En} {log : List ByteArray} {left : Int} {dead : Bool} {W : World} (h : HostI n0 H M r l log left dead W) (i : Nat) (v : Value) : HW n0 M W (W.setCell ⟨H, i, none⟩ v) := by
  obtain ⟨a, b, c, f, g, vl, e, ho⟩ := h.blk
  exact HW.of (grown_cell W H i v) h.n0 (fun j ej => by cases ej; exact ⟨h.hH, .inl ⟨_, _, e⟩⟩)
/-- The cells that are read. -/
theorem HostI.cells {n0 H M : Nat} {r : Nat → Int} {l : List En} {log : List ByteArray} {left : Int} {dead : Bool} {W : World} (h : HostI n0 H M r l log left dead W) :
    W.cell? ⟨H, 3, none⟩ = some (.int .i64 left) ∧ W.cell? ⟨H, 5, none⟩ = some (.bool dead) ∧ W.cell? ⟨H, 10, none⟩ = some (.map (some M)) ∧ ∀ i, W.frozen? ⟨H, i, none⟩ = false := by
  obtain ⟨a, b, c, f, g, vl, e, ho⟩ := h.blk
  exact ⟨by simp [World.cell?, e, hostC], by simp [World.cell?, e, hostC], by simp [World.cell?, e, hostC], fun i => frozen_of_row W H i _ _ e⟩
theorem HostI.rooms {n0 H M : Nat} {r : Nat → Int} {l : List En} {log : List ByteArray} {left : Int} {dead : Bool} {W : World} (h : HostI n0 H M r l log left dead W) (t : Nat) (ht : t < 3) : W.cell? ⟨H, 7 + t, none⟩ = some (.int .i64 (r t)) := by
  obtain ⟨a, b, c, f, g, vl, e, ho⟩ := h.blk
  match t, ht with
  | 0, _ => simp [World.cell?, e, hostC]
  | 1, _ => simp [World.cell?, e, hostC]
  | 2, _ => simp [World.cell?, e, hostC]
/-- How many calls are left behind one more. -/
def leftN (left : Int) : Int := if 0 < left then left - 1 else left
abbrev dpV (H : Nat) : Value := .agg #[.pointer (some ⟨H, 0, none⟩)]
set_option maxHeartbeats 1000000 in
theorem hStopped (n0 H M : Nat) (r : Nat → Int) (l : List En) (log : List ByteArray) (left : Int) (dead : Bool) (W : World) (h : HostI n0 H M r l log left dead W) (h0 : -1 ≤ left) (h1 : left ≤ 1000000) :
    Calls Tryz.prog 83 #[.pointer (some ⟨H, 0, none⟩)] W fun e W' => e = .returned (.bool (dead || decide (left = 0))) ∧ HostI n0 H M r l log (leftN left) (dead || decide (left = 0)) W' ∧ HW n0 M W W' := by
  obtain ⟨c3, c5, _, hf⟩ := h.cells
  have f3 := hf 3
  have f5 := hf 5
  have d : ∀ b : Bool, (dead || decide (left = 0)) = b → leftN left = left ∧ ¬ 0 < left ∨ leftN left = left - 1 ∧ 0 < left := fun _ _ => by
    unfold leftN
    by_cases h : 0 < left
    · rw [if_pos h]; exact .inr ⟨rfl, h⟩
    · rw [if_neg h]; exact .inl ⟨rfl, h⟩
  obtain ⟨b, hb⟩ : ∃ b, (dead || decide (left = 0)) = b := ⟨_, rfl⟩
  have k1 := h.set5 b
  have q1 := h.setW 5 (.bool b)
  have k2 := k1.set3 (left - 1)
  have q2 := q1.trans (k1.setW 3 (.int .i64 (left - 1)))
  rw [hb]
  obtain ⟨e, hl⟩ | ⟨e, hl⟩ := d b hb
  · rw [e]
    clear d k2 q2 hf
    cases dead
    · simp only [Bool.false_or] at hb
      by_cases h0 : left = 0
      · subst h0
        obtain rfl : true = b := by simpa using hb
        go_enter Tryz.func83, Tryz.ntmps83
        go_wp2_with fail
        go_ret
        exact ⟨rfl, k1, q1⟩
      · obtain rfl : false = b := by simpa [h0] using hb
        have hne : (left == 0) = false := by simp [h0]
        go_enter Tryz.func83, Tryz.ntmps83
        go_wp2_with fail
        go_ret
        exact ⟨rfl, k1, q1⟩
    · obtain rfl : true = b := by simpa using hb
      go_enter Tryz.func83, Tryz.ntmps83
      go_wp2_with fail
      go_ret
      exact ⟨rfl, k1, q1⟩
  · rw [e]
    have h0 : ¬ left = 0 := by omega
    have hne : (left == 0) = false := by simp [h0]
    clear d k1 q1 hf
    cases dead
    · obtain rfl : false = b := by simpa [h0] using hb
      go_enter Tryz.func83, Tryz.ntmps83
      go_wp2_with fail
      go_ret
      exact ⟨rfl, k2, q2⟩
    · obtain rfl : true = b := by simpa using hb
      go_enter Tryz.func83, Tryz.ntmps83
      go_wp2_with fail
      go_ret
      exact ⟨rfl, k2, q2⟩
end Go.Proofs.YtindifjhocgkbaaGreatDoor
namespace Go.Proofs.YtindifjhocgkbaaGreatDoor
/-! ### A region that draws its order, whose last operations come last in every order: the first ones are taken under a condition on the world, which need not hold behind the last ones. -/
section
variable {P : Program} {ops : Array Oper} {Q : Exit → Act → World → Prop} {md : Region.Mode} {S : World → Prop} {n : Nat} {L : Array Bool → Act → World → Prop}
def wpT (P : Program) (md : Region.Mode) (ops : Array Oper) (Q : Exit → Act → World → Prop) (S : World → Prop) (n : Nat) (L : Array Bool → Act → World → Prop) : Nat → Array Bool → Act → World → Prop
  | 0, listed, a, w => L listed a w
  | f + 1, listed, a, w => Region.ready md ops listed ≠ [] ∧ ∀ i ∈ Region.ready md ops listed, i < n ∧ wpOp P ops Q i (fun a' w' => S w' ∧ wpT P md ops Q S n L f (listed.setIfInBounds i true) a' w') a w
theorem wpAny_of_T {g : Nat} (hL : ∀ listed a w, L listed a w → wpAny P md ops Q g listed a w) : ∀ (f : Nat) (listed : Array Bool) (a : Act) (w : World), wpT P md ops Q S n L f listed a w → wpAny P md ops Q (f + g) listed a w
  | 0, listed, a, w, h => by rw [Nat.zero_add]; exact hL _ _ _ h
  | f + 1, listed, a, w, h => by
    rw [show f + 1 + g = (f + g) + 1 by omega]
    exact ⟨fun h0 => absurd h0 h.1, fun i hi => wpOp_mono (fun a' w' h' => wpAny_of_T hL f _ a' w' h'.2) (h.2 i hi).2⟩
theorem wpT_first {i : Nat} {oi : Oper} {v : Value} (hi : ops[i]? = some oi) (hsel : ∀ (j : Nat) (o : Oper) cs b, ops[j]? = some o → o.op ≠ .select cs b)
    (hQ : ∀ c a w, Q (.panic c) (a.put oi.dst v) w → Q (.panic c) a w)
    (hs : Region.sinkB md ops n = true) (hc : Region.chainB md ops n = true) (hn : n < ops.size) (hin : i < n)
    (hdone : ∀ listed a w, L listed a w → ∀ j ∈ Region.ready md ops listed, n ≤ j) :
    ∀ (f : Nat) (listed : Array Bool) (a : Act) (w : World), HeadInv md ops n listed →
      (∀ j oj, ops[j]? = some oj → j ≠ i → listed.getD j true = false → (∀ e ∈ oj.after, Region.binds md e = true → e.on ≠ i) → oi.apart ops oj = true) →
      i ∈ Region.ready md ops listed → YieldsIf P ops S oi v a → S w →
      wpT P md ops Q S n L f (listed.setIfInBounds i true) (a.put oi.dst v) w → wpT P md ops Q S n L (f + 1) listed a w := by
  intro f
  induction f with
  | zero =>
    intro listed a w inv _ hr hy hS H
    have hun := (mem_ready.1 hr).1
    refine ⟨fun h => (by rw [h] at hr; cases hr), fun j hj => ?_⟩
    have hjn : j < n := by
      rcases Nat.lt_or_ge j n with h | h
      · exact h
      · exact absurd hj (tail_waits hs hc hn inv _ i rfl hin hun j h)
    refine ⟨hjn, ?_⟩
    by_cases hji : j = i
    · subst hji; exact hy.wpOp hi hS ⟨hS, H⟩
    · have := hdone _ _ _ H j (ready_mono hj hji)
      omega
  | succ f ih =>
    intro listed a w inv hfree hr hy hS H
    have hun := (mem_ready.1 hr).1
    refine ⟨fun h => (by rw [h] at hr; cases hr), fun j hj => ?_⟩
    have hjn : j < n := by
      rcases Nat.lt_or_ge j n with h | h
      · exact h
      · exact absurd hj (tail_waits hs hc hn inv _ i rfl hin hun j h)
    refine ⟨hjn, ?_⟩
    by_cases hji : j = i
    · subst hji; exact hy.wpOp hi hS ⟨hS, H⟩
    · have h1 := (H.2 j (ready_mono hj hji)).2
      obtain ⟨hjun, oj, hoj, hall⟩ := mem_ready.1 hj
      have hnot : ∀ e ∈ oj.after, Region.binds md e = true → e.on ≠ i := fun e he hb heq => by
        have h1 := hall e he hb
        rw [heq, getD_both hun] at h1
        cases h1
      have h2 := wpOp_putIf hoj (hfree j oj hoj hji hjun hnot) (fun cs b => hsel i oi cs b hi) (fun cs b => hsel j oj cs b hoj) hQ hy h1
      have hfree' : ∀ k ok, ops[k]? = some ok → k ≠ i → (listed.setIfInBounds j true).getD k true = false →
          (∀ e ∈ ok.after, Region.binds md e = true → e.on ≠ i) → oi.apart ops ok = true := fun k ok hk hki hun hno => by
        refine hfree k ok hk hki ?_ hno
        by_cases hjk : j = k
        · subst hjk; exact hjun
        · rw [getD_set_ne true hjk] at hun; exact hun
      refine wpOp_mono (fun a' w' h3 => ⟨h3.2.1, ih (listed.setIfInBounds j true) a' w' (inv.set hj hjn) hfree' (ready_mono hr (Ne.symm hji)) h3.1 h3.2.1 ?_⟩) h2
      rw [Array.setIfInBounds_comm _ _ hji]
      exact h3.2.2
/-- What is known at the end of the first operations. -/
def TailL (P : Program) (md : Region.Mode) (ops : Array Oper) (Q : Exit → Act → World → Prop) (l : List Oper) (n : Nat) (listed : Array Bool) (a : Act) (w : World) : Prop := Region.seqB md ops l.length n listed = true ∧ wpList P ops Q l a w
/-- The walk over the first operations; the last ones are a list of their own. -/
def WT (P : Program) (ops : Array Oper) (Q : Exit → Act → World → Prop) (S : World → Prop) (n : Nat) (l : List Oper) (f : Nat) (listed : Array Bool) (a : Act) (w : World) : Prop :=
  Region.noSelect ops = true → Region.sinkB .any ops n = true → Region.chainB .any ops n = true → n < ops.size → HeadInv .any ops n listed → wpT P .any ops Q S n (TailL P .any ops Q l n) f listed a w
theorem tail_done {l : List Oper} (listed : Array Bool) (a : Act) (w : World) (h : TailL P md ops Q l n listed a w) : ∀ j ∈ Region.ready md ops listed, n ≤ j := seqB_ready h.1
theorem WT_take {i : Nat} {oi : Oper} {v : Value} {f : Nat} {listed : Array Bool} {a : Act} {w : World} {l : List Oper} (hi : ops[i]? = some oi) (hin : i < n)
    (hf : Region.free .any ops listed i = true) (hr : (Region.ready .any ops listed).contains i = true)
    (hQ : ∀ c a w, Q (.panic c) (a.put oi.dst v) w → Q (.panic c) a w) (hy : YieldsIf P ops S oi v a) (hS : S w)
    (h : WT P ops Q S n l f (listed.setIfInBounds i true) (a.put oi.dst v) w) : WT P ops Q S n l (f + 1) listed a w := fun h1 h2 h3 h4 inv =>
  have hr' : i ∈ Region.ready .any ops listed := by simpa using hr
  wpT_first hi (Region.noSelect_spec h1) hQ h2 h3 h4 hin tail_done f listed a w inv (Region.free_spec hi hf) hr' hy hS (h h1 h2 h3 h4 (inv.set hr' hin))
theorem WT_one {i : Nat} {o : Oper} {f : Nat} {listed : Array Bool} {a : Act} {w : World} {l : List Oper} (hr : Region.ready .any ops listed = [i]) (hin : i < n) (ho : ops[i]? = some o)
    (h : ∀ K' : Act → World → Prop, Shut (∀ a w, S w → (S w → WT P ops Q S n l f (listed.setIfInBounds i true) a w) → K' a w) → if Region.wanted o (yielded ops a.tmps) = true then Oper.wp P o a w K' Q else K' (a.put o.dst undef) w) :
    WT P ops Q S n l (f + 1) listed a w := fun h1 h2 h3 h4 inv => by
  refine ⟨by rw [hr]; simp, fun j hj => ?_⟩
  have hji : j = i := by rw [hr] at hj; simpa using hj
  subst hji
  refine ⟨hin, wpOp_step ho (fun K' hK => h K' (fun a w hS hW => hK a w ⟨hS, hW hS h1 h2 h3 h4 (inv.set hj hin)⟩))⟩
theorem WT_done {listed : Array Bool} {a : Act} {w : World} {l : List Oper} (hB : Region.seqB .any ops l.length n listed = true) (h : wpList P ops Q l a w) : WT P ops Q S n l 0 listed a w := fun _ _ _ _ _ => ⟨hB, h⟩
theorem region_cut {id : Nat} {a : Act} {w : World} {l : List Oper} (n : Nat) (hm : P.follows .mixedOrders = true) (h1 : Region.noSelect l.toArray = true) (h2 : Region.sinkB .any l.toArray n = true) (h3 : Region.chainB .any l.toArray n = true) (h4 : n < l.length)
    (hS : S w.drew) (h : S w.drew → WT P l.toArray Q S n (l.drop n) n (Array.replicate l.length false) a w.drew) : (Code.region id l.toArray true).wp P Q a w := by
  have inv0 : HeadInv .any l.toArray n (Array.replicate l.length false) :=
    ⟨by simp, fun j oj _ hl => (by rw [getD_replicate_false] at hl; cases hl), fun t _ ht => getD_in (by simpa using ht) (getD_replicate_false _ _)⟩
  have H := h hS h1 h2 h3 (by simpa using h4) inv0
  refine wp_region_any hm ?_
  have hdl : (l.drop n).length = l.length - n := by simp
  have := wpAny_of_T (Q := Q) (g := l.length - n) (fun listed a' w' hL => by
    have := wpAny_of_seq (md := .any) (Q' := Q) (l.drop n) n listed a' w' (fun j => by simp [List.getElem?_drop]) hL.1 hL.2
    rwa [hdl] at this) n _ a _ H
  rw [show n + (l.length - n) = l.length by omega] at this
  simpa using this
end
end Go.Proofs.YtindifjhocgkbaaGreatDoor
namespace Go.Proofs.YtindifjhocgkbaaGreatDoor
open Go.RowKit

theorem own_mono {w : World} {base base' e size n : Nat} {v : Value} {xs : List Value} (h : w.ownsRow base e size v n xs) (hb : base' ≤ base) : w.ownsRow base' e size v n xs := by
  refine ⟨h.1, ?_⟩
  rcases h.2 with h2 | ⟨g, cap, cur, hv, hg, r⟩
  · exact .inl h2
  · exact .inr ⟨g, cap, cur, hv, Nat.le_trans hb hg, r⟩

/-- A list of changes as cells. -/
def opC (o : OpD) : List Value := [.int .i64 o.kind, .int .i64 o.table, .string o.key, .string o.val]
def opsC (l : List OpD) : List Value := l.flatMap opC
theorem opsC_length (l : List OpD) : (opsC l).length = l.length * 4 := by
  induction l with
  | nil => rfl
  | cons o l ih => unfold opsC at *; simp [List.flatMap_cons, opC, ih]; omega
theorem opsC_get (l : List OpD) : ∀ i (h : i < l.length), (opsC l)[i * 4]? = some (.int .i64 l[i].kind) ∧ (opsC l)[i * 4 + 1]? = some (.int .i64 l[i].table) ∧ (opsC l)[i * 4 + 2]? = some (.string l[i].key) ∧ (opsC l)[i * 4 + 3]? = some (.string l[i].val) := by
  induction l with
  | nil => intro i h; simp at h
  | cons o l ih =>
    intro i h
    have e : opsC (o :: l) = opC o ++ opsC l := by simp [opsC, List.flatMap_cons]
    rw [e]
    cases i with
    | zero => simp [opC]
    | succ i =>
      have h' : i < l.length := by simpa using h
      have hh := ih i h'
      have a0 : (i + 1) * 4 = 4 + i * 4 := by omega
      simp only [a0, List.getElem_cons_succ]
      have sh : ∀ k, (opC o ++ opsC l)[4 + k]? = (opsC l)[k]? := fun k => by rw [List.getElem?_append_right (by simp [opC])]; congr 1; simp [opC]
      rw [show 4 + i * 4 + 1 = 4 + (i * 4 + 1) by omega, show 4 + i * 4 + 2 = 4 + (i * 4 + 2) by omega, show 4 + i * 4 + 3 = 4 + (i * 4 + 3) by omega, sh, sh, sh, sh]
      exact hh
theorem opsC_cells {w : World} {b off : Nat} {l : List OpD} (h : OpsAt w b off l) : ∀ j u, (opsC l)[j]? = some u → w.cell? ((⟨b, off, none⟩ : Addr).add j) = some u := by
  intro j u hu
  have hj : j < l.length * 4 := by rw [← opsC_length]; exact (List.getElem?_eq_some_iff.1 hu).1
  obtain ⟨i, hi, hr⟩ : ∃ i, i < l.length ∧ (j = i * 4 ∨ j = i * 4 + 1 ∨ j = i * 4 + 2 ∨ j = i * 4 + 3) := ⟨j / 4, by omega, by omega⟩
  obtain ⟨g0, g1, g2, g3⟩ := opsC_get l i hi
  have ha : (⟨b, off, none⟩ : Addr).add j = ⟨b, off + j, none⟩ := by simp [Addr.add]
  rw [ha]
  rcases hr with rfl | rfl | rfl | rfl
  · rw [g0] at hu; cases hu; exact h.c0 _ hi
  · rw [g1] at hu; cases hu; exact h.c1 _ hi
  · rw [g2] at hu; cases hu; exact h.c2 _ hi
  · rw [g3] at hu; cases hu; exact h.c3 _ hi
theorem opsC_one (l : List OpD) : ∀ u ∈ opsC l, u.oneCell' = true := by
  intro u hu
  simp only [opsC, List.mem_flatMap] at hu
  obtain ⟨o, _, ho⟩ := hu
  simp [opC] at ho
  rcases ho with rfl | rfl | rfl | rfl <;> rfl
/-- From an owned row of changes to where they lie. -/
theorem ops_of_own {w : World} {base : Nat} {v : Value} {l : List OpD} (h : w.ownsRow base 85 4 v l.length (opsC l)) : ∃ ao cap, v = .slice ao l.length cap ∧ l.length ≤ cap ∧ cap ≤ maxLen ∧ OpsIn w ao l ∧ (0 < l.length → ∃ g, ao = some ⟨g, 0, none⟩ ∧ base ≤ g ∧ v.ownBlock = some g) := by
  rcases h.2 with ⟨rfl, h0⟩ | ⟨g, cap, cur, rfl, hb, hg, hn, hm, hs, ht⟩
  · exact ⟨none, 0, by rw [h0], by omega, by unfold maxLen; omega, fun hp => by omega, fun hp => by omega⟩
  · refine ⟨some ⟨g, 0, none⟩, cap, rfl, hn, hm, fun hp => ⟨g, 0, rfl, (Array.getElem?_eq_some_iff.1 hg).1, ?_⟩, fun _ => ⟨g, rfl, hb, rfl⟩⟩
    have hc := h.cells (g := g) rfl
    have ha : ∀ j, (⟨g, 0, none⟩ : Addr).add j = ⟨g, j, none⟩ := fun j => by unfold Addr.add; split <;> simp_all
    refine ⟨fun i hi => ?_, fun i hi => ?_, fun i hi => ?_, fun i hi => ?_⟩
    · have := hc _ _ (opsC_get l i hi).1; rw [ha] at this; simpa using this
    · have := hc _ _ (opsC_get l i hi).2.1; rw [ha] at this; simpa using this
    · have := hc _ _ (opsC_get l i hi).2.2.1; rw [ha] at this; simpa using this
    · have := hc _ _ (opsC_get l i hi).2.2.2; rw [ha] at this; simpa using this

/-! ### Bytes -/
def beB (n : Int) : Nat → List UInt8
  | 0 => []
  | i + 1 => UInt8.ofNat (n / 2 ^ (8 * i) % 256).toNat :: beB n i
def opB (o : OpD) : List UInt8 := [UInt8.ofNat o.kind.toNat, UInt8.ofNat o.table.toNat] ++ o.key.data.toList ++ o.val.data.toList
def opsB (l : List OpD) : List UInt8 := l.flatMap opB
def encB (v : Int) (l : List OpD) : List UInt8 := beB v 8 ++ [UInt8.ofNat l.length] ++ opsB l
def cellsB (l : List UInt8) : List Value := l.map fun b => Value.int .u8 b.toNat
theorem cellsB_append (a b : List UInt8) : cellsB (a ++ b) = cellsB a ++ cellsB b := by simp [cellsB]
theorem byte_back (x : Int) (h0 : 0 ≤ x) (h1 : x < 256) : (((UInt8.ofNat x.toNat).toNat : Nat) : Int) = x := by
  simp [UInt8.toNat_ofNat']; omega
theorem beB_cells (n : Int) (k : Nat) : cellsB (beB n k) = beV n k := by
  induction k with
  | zero => rfl
  | succ k ih =>
    simp only [beB, beV, cellsB, List.map_cons] at ih ⊢
    rw [ih, byte_back _ (Int.emod_nonneg _ (by decide)) (Int.emod_lt_of_pos _ (by decide))]
theorem opB_cells {o : OpD} (h : kindB o.kind o.table = true) : cellsB (opB o) = opV o := by
  have h1 := kindB_in h
  simp only [opB, opV, cellsB, List.map_append, List.map_cons, List.map_nil, Lib.strCells]
  rw [byte_back _ (by omega) (by omega), byte_back _ (by omega) (by omega)]
theorem opsB_cells : ∀ (l : List OpD), (∀ j (hj : j < l.length), kindB l[j].kind l[j].table = true) → cellsB (opsB l) = opsV l
  | [], _ => rfl
  | o :: l, h => by
    have h0 : kindB o.kind o.table = true := h 0 (by simp)
    have ih := opsB_cells l (fun j hj => by have := h (j + 1) (by simpa using hj); simpa using this)
    simp only [opsB, opsV, List.flatMap_cons, cellsB_append] at ih ⊢
    rw [ih, opB_cells h0]
theorem encB_cells {v : Int} {l : List OpD} (h : (wrongD v l).1 = 0) : cellsB (encB v l) = encV v l := by
  obtain ⟨_, h2, h3⟩ := wrongD_ok h
  have hl : l.length ≤ 8 := by simp [cntB] at h2; omega
  unfold encB encV
  rw [cellsB_append, cellsB_append, beB_cells, opsB_cells l (fun j hj => (wrongN_ok (h3 j hj)).1)]
  congr 2
  simp [cellsB, UInt8.toNat_ofNat']
  omega
theorem cellsB_length (l : List UInt8) : (cellsB l).length = l.length := by simp [cellsB]
theorem encB_pos (v : Int) (l : List OpD) : 9 ≤ (encB v l).length := by simp [encB, beB]
/-- 'string(b)', b the call's own bytes. -/
theorem string_of_own {w : World} {base n : Nat} {b : Value} {l : List UInt8} (h : w.ownsRow base 5 1 b n (cellsB l)) : (convert 53 9 b).run Tryz.prog w = .ok (.string ⟨l.toArray⟩) w ∧ ∃ ao cap, b = .slice ao l.length cap := by
  have hn : n = l.length := by have := h.1; rw [cellsB_length] at this; omega
  subst hn
  rcases h.2 with ⟨rfl, h0⟩ | ⟨g, cap, cur, rfl, hb, hg, hn, hm, hs, ht⟩
  · have : l = [] := List.eq_nil_of_length_eq_zero h0
    subst this
    exact ⟨by kernel_rfl, none, 0, rfl⟩
  · refine ⟨run_convert_bytes_back w _ _ _ _ cap l Tryz.underlying53 Tryz.underlying5 Tryz.underlying9 (fun j hj => ?_), _, cap, rfl⟩
    exact h.cells (g := g) rfl j _ (by simp [cellsB, hj])
theorem string_of_nil (w : World) : (convert 53 9 (.slice none 0 0)).run Tryz.prog w = .ok (.string ⟨#[]⟩) w := by kernel_rfl
theorem four_new (w : World) (a b c d : Value) (t : TypeId) : ∀ j u, [a, b, c, d][j]? = some u → (w.alloc (.cells #[a, b, c, d] t)).cell? ((⟨w.heap.size, 0, none⟩ : Addr).add j) = some u := by
  intro j u hj
  match j, hj with
  | 0, hj => simp at hj; subst hj; simp [Addr.add]
  | 1, hj => simp at hj; subst hj; simp [Addr.add]
  | 2, hj => simp at hj; subst hj; simp [Addr.add]
  | 3, hj => simp at hj; subst hj; simp [Addr.add]
theorem op_new (W : World) (B : Nat) (hB : B = W.heap.size) (o : OpD) : ∀ j u, (opC o)[j]? = some u → (W.alloc (.cells #[.int .i64 o.kind, .int .i64 o.table, .string o.key, .string o.val] 85)).cell? ((⟨B, 0, none⟩ : Addr).add j) = some u := by
  subst hB; exact four_new W _ _ _ _ _
theorem opC_one (o : OpD) : ∀ u ∈ opC o, u.oneCell' = true := by
  intro u hu; simp [opC] at hu; rcases hu with rfl | rfl | rfl | rfl <;> rfl
theorem opsC_snoc (l : List OpD) (o : OpD) : opsC (l ++ [o]) = opsC l ++ opC o := by simp [opsC, List.flatMap_append]
theorem own_slice {w : World} {base e size n : Nat} {v : Value} {xs : List Value} (h : w.ownsRow base e size v n xs) : ∃ ao cp, v = .slice ao n cp := by
  rcases h.2 with ⟨rfl, rfl⟩ | ⟨g, cp, cur, rfl, _⟩
  · exact ⟨none, 0, rfl⟩
  · exact ⟨_, cp, rfl⟩
theorem Tryz.info85 : (Tryz.prog.info? 85).map (fun i => (i.zero, i.size, i.bytes)) = some (some (.agg #[.int .i64 0, .int .i64 0, .string ⟨#[]⟩, .string ⟨#[]⟩]), 4, 48) := by kernel_rfl
theorem bcells {W w1 : World} (hb : Below W.heap.size W w1) : (∀ b o, b < W.heap.size → w1.cell? ⟨b, o, none⟩ = W.cell? ⟨b, o, none⟩) ∧ (∀ b o, b < W.heap.size → w1.frozen? ⟨b, o, none⟩ = W.frozen? ⟨b, o, none⟩) :=
  ⟨fun b o h => hb.cell (p := ⟨b, o, none⟩) h, fun b o h => hb.frozen (p := ⟨b, o, none⟩) h⟩
end Go.Proofs.YtindifjhocgkbaaGreatDoor
namespace Go.Proofs.YtindifjhocgkbaaGreatDoor
open Go.RowKit

theorem str1 (W : World) (x : Int) (h0 : 0 ≤ x) (h1 : x < 256) : (convert 53 9 (.slice (some ⟨W.heap.size, 0, none⟩) 1 1)).run Tryz.prog (W.alloc (.cells #[.int .u8 x] 5)) = .ok (.string ⟨#[UInt8.ofNat x.toNat]⟩) (W.alloc (.cells #[.int .u8 x] 5)) := by
  refine run_convert_bytes_back (W.alloc (.cells #[.int .u8 x] 5)) _ _ _ _ 1 [UInt8.ofNat x.toNat] Tryz.underlying53 Tryz.underlying5 Tryz.underlying9 (fun j hj => ?_)
  rw [one_new W (.int .u8 x) _ j (.int .u8 x) (by match j, hj with | 0, _ => rfl)]
  match j, hj with
  | 0, _ => simp only [List.getElem_cons_zero]; rw [byte_back x h0 h1]
theorem str1' (x : Int) (h0 : 0 ≤ x) (h1 : x < 256) (W : World) (B : Nat) (hc : W.cell? ⟨B, 0, none⟩ = some (.int .u8 x)) : (convert 53 9 (.slice (some ⟨B, 0, none⟩) 1 1)).run Tryz.prog W = .ok (.string ⟨#[UInt8.ofNat x.toNat]⟩) W := by
  refine run_convert_bytes_back W _ _ _ _ 1 [UInt8.ofNat x.toNat] Tryz.underlying53 Tryz.underlying5 Tryz.underlying9 (fun j hj => ?_)
  match j, hj with
  | 0, _ => simp only [List.getElem_cons_zero]; rw [byte_back x h0 h1, ← hc]; simp [Addr.add]
theorem str2' (x y : Int) (h0 : 0 ≤ x) (h1 : x < 256) (h2 : 0 ≤ y) (h3 : y < 256) (W : World) (B : Nat) (hc : W.cell? ⟨B, 0, none⟩ = some (.int .u8 x)) (hd : W.cell? ⟨B, 1, none⟩ = some (.int .u8 y)) : (convert 53 9 (.slice (some ⟨B, 0, none⟩) 2 2)).run Tryz.prog W = .ok (.string ⟨#[UInt8.ofNat x.toNat, UInt8.ofNat y.toNat]⟩) W := by
  refine run_convert_bytes_back W _ _ _ _ 2 [UInt8.ofNat x.toNat, UInt8.ofNat y.toNat] Tryz.underlying53 Tryz.underlying5 Tryz.underlying9 (fun j hj => ?_)
  match j, hj with
  | 0, _ => simp only [List.getElem_cons_zero]; rw [byte_back x h0 h1, ← hc]; simp [Addr.add]
  | 1, _ => simp only [List.getElem_cons_succ, List.getElem_cons_zero]; rw [byte_back y h2 h3, ← hd]; simp [Addr.add]
theorem div_step (v : Int) (j : Nat) : v / 2 ^ (8 * (j + 1)) = v / 2 ^ (8 * j) / 256 := by
  have hp : (0 : Int) ≤ 2 ^ (8 * j) := Int.pow_nonneg (by decide)
  rw [Int.ediv_ediv, if_neg (fun h => by omega), Int.sub_zero, Nat.mul_add, Int.pow_add]; rfl
theorem div_le (v : Int) (j : Nat) (h : 0 ≤ v) : v / 2 ^ (8 * j) ≤ v := Int.ediv_le_self _ h
theorem wrap_div (x : Int) (h0 : 0 ≤ x) (h1 : x ≤ 18446744073709551615) : IntKind.u64.wrap (x.tdiv 256) = x / 256 := by
  rw [Int.tdiv_eq_ediv_of_nonneg h0]; simp [IntKind.wrap, IntKind.bits, IntKind.signed]; omega
theorem beB_step (v x : Int) (j : Nat) (hx : v / 2 ^ (8 * j) = x) : (⟨#[UInt8.ofNat (x % 256).toNat]⟩ : ByteArray) ++ ⟨(beB v j).toArray⟩ = ⟨(beB v (j + 1)).toArray⟩ := by
  apply ByteArray.ext
  simp [beB, hx]
theorem beB_length (n : Int) (k : Nat) : (beB n k).length = k := by induction k with | zero => rfl | succ k ih => simp [beB, ih]

set_option maxRecDepth 10000 in
set_option maxHeartbeats 1000000 in
theorem rNumber (v : Int) (w : World) (h0 : 0 ≤ v) (h1 : v ≤ 18446744073709551615) :
    Calls Tryz.prog 52 #[.int .u64 v] w fun e w' => e = .returned (.string ⟨(beB v 8).toArray⟩) ∧ Below w.heap.size w w' := by
  go_enter Tryz.func52, Tryz.ntmps52
  go_wp2_with fail
  go_loopw [0, 3, 4] (fun n s i wr => ∃ j : Nat, j ≤ 8 ∧ i = .int .i64 j ∧ n = .int .u64 (v / 2 ^ (8 * j)) ∧ s = .string ⟨(beB v j).toArray⟩ ∧ Below w.heap.size w wr)
    (fun _ _ i _ => 8 - (intOf i).toNat)
  case atStart => exact ⟨0, by omega, rfl, by simp, rfl, Below.refl _ _⟩
  case round =>
    obtain ⟨j, hj, rfl, rfl, rfl, hq⟩ := hrel
    have hn : 0 ≤ v / 2 ^ (8 * j) := Int.ediv_nonneg h0 (Int.pow_nonneg (by decide))
    have HN : Hid (v / 2 ^ (8 * (j + 1)) = v / 2 ^ (8 * j) / 256) := by
      show v / 2 ^ (8 * (j + 1)) = _
      exact div_step v j
    generalize hx : v / 2 ^ (8 * j) = x at *
    by_cases hlt : j < 8
    · have hst := fun W => str1 W (x % 256) (Int.emod_nonneg _ (by decide)) (Int.emod_lt_of_pos _ (by decide))
      have hsz : (beB v j).length ≤ 8 := by rw [beB_length]; exact hj
      have HX : Hid (v / 2 ^ (8 * j) = x) := hx
      clear hx
      have H1 : Hid (x ≤ 18446744073709551615) := by rw [← HX.out]; exact Int.le_trans (div_le v j h0) h1
      clear h1
      go_wp2
      go_roundw
      case rel => exact ⟨j + 1, by omega, by go_num, by rw [wrap_div x hn H1.out, HN.out], by rw [beB_step v x j HX.out], hq.alloc hq.size _⟩
      case measure => simp [intOf]; omega
    · obtain rfl : j = 8 := by omega
      go_wp2
      go_ret
      exact ⟨rfl, hq⟩

theorem bcell {W w1 : World} (hb : Below W.heap.size W w1) : (∀ b o, b < W.heap.size → w1.cell? ⟨b, o, none⟩ = W.cell? ⟨b, o, none⟩) ∧ (∀ b o, b < W.heap.size → w1.frozen? ⟨b, o, none⟩ = W.frozen? ⟨b, o, none⟩) :=
  ⟨fun b o h => hb.cell (p := ⟨b, o, none⟩) h, fun b o h => hb.frozen (p := ⟨b, o, none⟩) h⟩

end Go.Proofs.YtindifjhocgkbaaGreatDoor
