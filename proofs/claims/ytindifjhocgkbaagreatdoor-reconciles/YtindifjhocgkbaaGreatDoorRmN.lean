import Derived.Test.YtindifjhocgkbaaGreatDoorRmE
import Derived.Test.YtindifjhocgkbaaGreatDoorRcBToRcP
namespace Go.Proofs.YtindifjhocgkbaaGreatDoor
attribute [local go_sem ↓] Go.wp_at_zero Go.wp_at_succ
open Go.RowKit Go.ChangeMaps Go.MapKept Go.WideShapes Go.WideMaps
open Go.Maps (Keyed)
theorem Tryz.infoBs : (Tryz.prog.info? 53).map (fun i => (i.zero, i.size, i.bytes)) = some (some (.slice none 0 0), 1, 24) := by kernel_rfl
/-- A host that is being made. -/
structure NH (w : World) (H M ka kb : Nat) (X : World) : Prop where
  blk : ∃ va vb xs ys, X.heap[H]? = some (.cells (hostC va vb (.slice none 0 0) (.int .i64 (-1)) (.int .i64 0) (.slice none 0 0) (fun _ => 0) M (-1) false) 130 (0, 0)) ∧ X.ownsRow w.heap.size 53 1 va ka xs ∧ X.ownsRow w.heap.size 53 1 vb kb ys ∧ (va.ownBlock = none ∨ vb.ownBlock = none ∨ va.ownBlock ≠ vb.ownBlock)
  mp : MapIs X M []
  q : Below w.heap.size w X
theorem ownB_ne {W : World} {n0 n P : Nat} {vl : Value} {xs : List Value} {c : Array Value} {t : TypeId} {f : Nat × Nat} (h : W.ownsRow n0 53 1 vl n xs) (hb : W.heap[P]? = some (.cells c t f)) (ht : t ≠ 53) : vl.ownBlock ≠ some P := fun e => by
  rcases h with ⟨_, ⟨rfl, _⟩ | ⟨g', cap, cur, rfl, _, hc, _⟩⟩
  · simp [Value.ownBlock] at e
  · simp only [Value.ownBlock, Option.some.injEq] at e
    rw [e, hb] at hc; cases hc; exact ht rfl
theorem ownB_neM {W : World} {n0 n M : Nat} {vl : Value} {xs : List Value} {l : List En} (h : W.ownsRow n0 53 1 vl n xs) (hm : MapIs W M l) : vl.ownBlock ≠ some M := fun e => by
  obtain ⟨es, cl, hb, _⟩ := hm
  rcases h with ⟨_, ⟨rfl, _⟩ | ⟨g', cap, cur, rfl, _, hc, _⟩⟩
  · simp [Value.ownBlock] at e
  · simp only [Value.ownBlock, Option.some.injEq] at e
    rw [e, hb] at hc; cases hc
theorem ownB_lt {W : World} {n0 n g : Nat} {vl : Value} {xs : List Value} (h : W.ownsRow n0 53 1 vl n xs) (e : vl.ownBlock = some g) : g < W.heap.size ∧ n0 ≤ g := by
  rcases h with ⟨_, ⟨rfl, _⟩ | ⟨g', cap, cur, rfl, hb, hc, _⟩⟩
  · simp [Value.ownBlock] at e
  · simp only [Value.ownBlock, Option.some.injEq] at e
    subst e
    exact ⟨(Array.getElem?_eq_some_iff.1 hc).1, hb⟩
theorem NH.app0 {w : World} {H M ka kb : Nat} {X X2 w1 : World} {va vb : Value} {xs ys : List Value} (hb : X.heap[H]? = some (.cells (hostC va vb (.slice none 0 0) (.int .i64 (-1)) (.int .i64 0) (.slice none 0 0) (fun _ => 0) M (-1) false) 130 (0, 0))) (hoa : X.ownsRow w.heap.size 53 1 va ka xs) (hob : X.ownsRow w.heap.size 53 1 vb kb ys)
    (hab : va.ownBlock = none ∨ vb.ownBlock = none ∨ va.ownBlock ≠ vb.ownBlock) (hm : MapIs X M []) (hq : Below w.heap.size w X) (hH : w.heap.size ≤ H) (q : Below X.heap.size X X2) {gg cap : Nat} {zs : List Value} (ho : w1.ownsRow w.heap.size 53 1 (.slice (some ⟨gg, 0, none⟩) (ka + 1) cap) (ka + 1) zs) (hg : X2.grownBy w1 va.ownBlock) (hat : va.ownBlock = some gg ∨ gg = X2.heap.size) :
    NH w H M (ka + 1) kb (w1.setCell ⟨H, 0, none⟩ (.slice (some ⟨gg, 0, none⟩) (ka + 1) cap)) := by
  have lH := (Array.getElem?_eq_some_iff.1 hb).1
  have aH := ownB_ne hoa hb (by decide)
  have aM := ownB_neM hoa hm
  have e2 : X2.heap[H]? = X.heap[H]? := q.block H lH
  have e1 : w1.heap[H]? = some (.cells (hostC va vb (.slice none 0 0) (.int .i64 (-1)) (.int .i64 0) (.slice none 0 0) (fun _ => 0) M (-1) false) 130 (0, 0)) := (hg.block H (by have := q.size; omega) (Ne.symm aH)).trans (e2.trans hb)
  have hgH : gg ≠ H := fun e => by
    rcases ho.2 with ⟨e', _⟩ | ⟨g', cap', cur', e', _, hc, _⟩
    · cases e'
    · simp only [Value.slice.injEq, Option.some.injEq, Addr.mk.injEq] at e'
      obtain ⟨⟨rfl, _⟩, _⟩ := e'
      rw [e, e1] at hc; cases hc
  have hM0 : M ≠ H := fun e => by
    obtain ⟨es, cl, hmb, _⟩ := hm
    rw [e, hb] at hmb; cases hmb
  have hgrow : w.heap.size ≤ X2.heap.size := Nat.le_trans hq.size q.size
  have hq1 : Below w.heap.size w w1 := (hq.trans (q.mono hq.size)).grown hg hgrow (fun j e => (ownB_lt hoa e).2)
  refine ⟨⟨_, vb, zs, ys, by rw [heap_setCell_same _ _ _ _ _ _ e1]; simp [hostC], ownsRow_setCell_other ho (fun e => hgH (by simpa [Value.ownBlock] using e)) _, ?_, ?_⟩, hm.kept ((heap_setCell_other _ _ _ _ hM0).trans ((hg.block M (by have := q.size; have := hm.lt; omega) (Ne.symm aM)).trans (q.block M hm.lt))), hq1.setCell (p := ⟨H, 0, none⟩) hH _⟩
  · refine ownsRow_setCell_other ?_ (ownB_ne hob hb (by decide)) _
    rcases hob with ⟨hl, hn | ⟨g', cap', cur', rfl, hb', hc, hrest⟩⟩
    · exact ⟨hl, .inl hn⟩
    · refine ⟨hl, .inr ⟨g', cap', cur', rfl, hb', (hg.block g' (by have := q.size; have := (Array.getElem?_eq_some_iff.1 hc).1; omega) (fun e => ?_)).trans ((q.block g' (Array.getElem?_eq_some_iff.1 hc).1).trans hc), hrest⟩⟩
      rcases hab with h | h | h
      · rw [h] at e; cases e
      · simp [Value.ownBlock] at h
      · exact h (by rw [← e]; rfl)
  · by_cases hv : vb.ownBlock = none
    · exact .inr (.inl hv)
    · refine .inr (.inr (fun e => ?_))
      have e' : vb.ownBlock = some gg := by rw [← e]; rfl
      rcases hat with h | h
      · rcases hab with h' | h' | h'
        · rw [h'] at h; cases h
        · exact hv h'
        · exact h' (h.trans e'.symm)
      · have := (ownB_lt hob e').1
        have := q.size
        omega
theorem NH.app1 {w : World} {H M ka kb : Nat} {X X2 w1 : World} {va vb : Value} {xs ys : List Value} (hb : X.heap[H]? = some (.cells (hostC va vb (.slice none 0 0) (.int .i64 (-1)) (.int .i64 0) (.slice none 0 0) (fun _ => 0) M (-1) false) 130 (0, 0))) (hoa : X.ownsRow w.heap.size 53 1 va ka xs) (hob : X.ownsRow w.heap.size 53 1 vb kb ys)
    (hab : va.ownBlock = none ∨ vb.ownBlock = none ∨ va.ownBlock ≠ vb.ownBlock) (hm : MapIs X M []) (hq : Below w.heap.size w X) (hH : w.heap.size ≤ H) (q : Below X.heap.size X X2) {gg cap : Nat} {zs : List Value} (ho : w1.ownsRow w.heap.size 53 1 (.slice (some ⟨gg, 0, none⟩) (kb + 1) cap) (kb + 1) zs) (hg : X2.grownBy w1 vb.ownBlock) (hat : vb.ownBlock = some gg ∨ gg = X2.heap.size) :
    NH w H M ka (kb + 1) (w1.setCell ⟨H, 1, none⟩ (.slice (some ⟨gg, 0, none⟩) (kb + 1) cap)) := by
  have lH := (Array.getElem?_eq_some_iff.1 hb).1
  have aH := ownB_ne hob hb (by decide)
  have aM := ownB_neM hob hm
  have e2 : X2.heap[H]? = X.heap[H]? := q.block H lH
  have e1 : w1.heap[H]? = some (.cells (hostC va vb (.slice none 0 0) (.int .i64 (-1)) (.int .i64 0) (.slice none 0 0) (fun _ => 0) M (-1) false) 130 (0, 0)) := (hg.block H (by have := q.size; omega) (Ne.symm aH)).trans (e2.trans hb)
  have hgH : gg ≠ H := fun e => by
    rcases ho.2 with ⟨e', _⟩ | ⟨g', cap', cur', e', _, hc, _⟩
    · cases e'
    · simp only [Value.slice.injEq, Option.some.injEq, Addr.mk.injEq] at e'
      obtain ⟨⟨rfl, _⟩, _⟩ := e'
      rw [e, e1] at hc; cases hc
  have hM0 : M ≠ H := fun e => by
    obtain ⟨es, cl, hmb, _⟩ := hm
    rw [e, hb] at hmb; cases hmb
  have hgrow : w.heap.size ≤ X2.heap.size := Nat.le_trans hq.size q.size
  have hq1 : Below w.heap.size w w1 := (hq.trans (q.mono hq.size)).grown hg hgrow (fun j e => (ownB_lt hob e).2)
  refine ⟨⟨va, _, xs, zs, by rw [heap_setCell_same _ _ _ _ _ _ e1]; simp [hostC], ?_, ownsRow_setCell_other ho (fun e => hgH (by simpa [Value.ownBlock] using e)) _, ?_⟩, hm.kept ((heap_setCell_other _ _ _ _ hM0).trans ((hg.block M (by have := q.size; have := hm.lt; omega) (Ne.symm aM)).trans (q.block M hm.lt))), hq1.setCell (p := ⟨H, 1, none⟩) hH _⟩
  · refine ownsRow_setCell_other ?_ (ownB_ne hoa hb (by decide)) _
    rcases hoa with ⟨hl, hn | ⟨g', cap', cur', rfl, hb', hc, hrest⟩⟩
    · exact ⟨hl, .inl hn⟩
    · refine ⟨hl, .inr ⟨g', cap', cur', rfl, hb', (hg.block g' (by have := q.size; have := (Array.getElem?_eq_some_iff.1 hc).1; omega) (fun e => ?_)).trans ((q.block g' (Array.getElem?_eq_some_iff.1 hc).1).trans hc), hrest⟩⟩
      rcases hab with h | h | h
      · simp [Value.ownBlock] at h
      · rw [h] at e; cases e
      · exact h (by rw [← e]; rfl)
  · by_cases hv : va.ownBlock = none
    · exact .inl hv
    · refine .inr (.inr (fun e => ?_))
      have e' : va.ownBlock = some gg := by rw [e]; rfl
      rcases hat with h | h
      · rcases hab with h' | h' | h'
        · exact hv h'
        · rw [h'] at h; cases h
        · exact h' (e'.trans h.symm)
      · have := (ownB_lt hoa e').1
        have := q.size
        omega
theorem NH.host {w : World} {H M ka kb : Nat} {X : World} (h : NH w H M ka kb X) (hH : w.heap.size ≤ H) (hM : w.heap.size ≤ M) : HostI w.heap.size H M (fun _ => 0) [] [] (-1) false X := by
  obtain ⟨va, vb, xs, ys, hb, _⟩ := h.blk
  exact ⟨⟨va, vb, _, _, _, _, hb, World.ownsRow_nil _ _ _ _⟩, h.mp, hH, hM⟩
theorem HostI.setR {n0 H M : Nat} {r : Nat → Int} {l : List En} {log : List ByteArray} {left : Int} {dead : Bool} {W : World} (h : HostI n0 H M r l log left dead W) (t : Nat) (ht : t < 3) (v : Int) :
    HostI n0 H M (fun j => if j = t then v else r j) l log left dead (W.setCell ⟨H, 7 + t, none⟩ (.int .i64 v)) := by
  obtain ⟨a, b, c, f, g, vl, e, ho⟩ := h.blk
  refine ⟨⟨a, b, c, f, g, vl, ?_, ?_⟩, h.mp.kept (heap_setCell_other _ _ _ _ h.ne), h.hH, h.hM⟩
  · rw [heap_setCell_same _ _ _ _ _ _ e]
    match t, ht with
    | 0, _ => simp [hostC]
    | 1, _ => simp [hostC]
    | 2, _ => simp [hostC]
  · refine ownsRow_setCell_other ho (fun e1 => ?_) _
    rcases ho with ⟨hl, ⟨rfl, _⟩ | ⟨g', cap, cur, rfl, hb, hc, hrest⟩⟩
    · simp [Value.ownBlock] at e1
    · simp only [Value.ownBlock, Option.some.injEq] at e1
      rw [e1, e] at hc; cases hc
theorem HostI.congR {n0 H M : Nat} {r r' : Nat → Int} {l : List En} {log : List ByteArray} {left : Int} {dead : Bool} {W : World} (h : HostI n0 H M r l log left dead W) (e : ∀ t, t < 3 → r t = r' t) : HostI n0 H M r' l log left dead W := by
  obtain ⟨a, b, c, f, g, vl, hb, ho⟩ := h.blk
  have e0 := e 0 (by omega)
  have e1 := e 1 (by omega)
  have e2 := e 2 (by omega)
  refine ⟨⟨a, b, c, f, g, vl, ?_, ho⟩, h.mp, h.hH, h.hM⟩
  rw [hb]
  simp [hostC, e0, e1, e2]
theorem room_next (A : Nat → Int) (t : Nat) (v : Int) (hv : v = A t) (j : Nat) : (if j = t then v else if j < t then A j else 0) = (if j < t + 1 then A j else 0) := by
  by_cases e : j = t
  · subst e; rw [if_pos rfl, if_pos (by omega), hv]
  · rw [if_neg e]
    by_cases e2 : j < t
    · rw [if_pos e2, if_pos (by omega)]
    · rw [if_neg e2, if_neg (by omega)]
theorem room_next2 (A : Nat → Int) (t : Nat) (v z : Int) (hv : v = A t) (j : Nat) : (if j = t then v else if j = t then z else if j < t then A j else 0) = (if j < t + 1 then A j else 0) := by
  rw [← room_next A t v hv j]
  by_cases e : j = t
  · rw [if_pos e, if_pos e]
  · rw [if_neg e, if_neg e, if_neg e]
theorem clampR_mm (z : Int) : min (max z 0) 40 = clampR z := by unfold clampR; split <;> (try split) <;> omega
set_option maxRecDepth 100000 in
set_option maxHeartbeats 3200000 in
theorem pNewHost (ra : Option Addr) (n rc : Nat) (x : Nat → Int) (w : World) (hr : 0 < n → ∃ b off, ra = some ⟨b, off, none⟩ ∧ b < w.heap.size ∧ ∀ i, i < n → w.cell? ⟨b, off + i, none⟩ = some (.int .i64 (x i))) (hn : (n : Int) ≤ 9223372036854775807) :
    Calls Tryz.prog 59 #[.int .i64 0, .slice ra n rc] w fun e w' => ∃ H M, e = .returned (.pointer (some ⟨H, 0, none⟩)) ∧ HostI w.heap.size H M (fun t => if t < n then clampR (x t) else 40) [] [] (-1) false w' ∧ Below w.heap.size w w' := by
  have hmm := @run_makeMap Tryz.prog
  go_enter Tryz.func59, Tryz.ntmps59
  have hmx : (max 0 32 : Int) = 32 := by decide
  have hmn : (min 32 128 : Int) = 32 := by decide
  go_wp2_with fail
  have h0 : NH w (w.heap.size + 1) w.heap.size 0 0 ((w.alloc (.map #[] 0)).alloc (.cells (hostC (.slice none 0 0) (.slice none 0 0) (.slice none 0 0) (.int .i64 (-1)) (.int .i64 0) (.slice none 0 0) (fun _ => 0) w.heap.size (-1) false) 130)) := by
    refine ⟨⟨_, _, [], [], ?_, World.ownsRow_nil _ _ _ _, World.ownsRow_nil _ _ _ _, .inl rfl⟩, (MapIs.made w).kept ((MapKept.heap_alloc _ _).2 _ (by simp)), below_trans (below_alloc _ _) (below_alloc _ _)⟩
    have := (MapKept.heap_alloc (w.alloc (.map #[] 0)) (.cells (hostC (.slice none 0 0) (.slice none 0 0) (.slice none 0 0) (.int .i64 (-1)) (.int .i64 0) (.slice none 0 0) (fun _ => 0) w.heap.size (-1) false) 130)).1
    simpa using this
  obtain ⟨i0, hi0, hz0, hz1, hz2⟩ := info_parts Tryz.infoBs
  obtain ⟨j0, hj0, jz0, jz1, jz2⟩ := info_parts Tryz.infoU8
  have hmk : ∀ W : World, ∃ cs : Array Value, (Instr.makeSlice 53 (.int .i64 64) (.int .i64 64)).run Tryz.prog W = .ok (.slice (some ⟨W.heap.size, 0, none⟩) 64 64) (W.alloc (.cells cs 5)) := fun W => by
    have h := run_make (P := Tryz.prog) W 53 5 j0 (.int .u8 0) Tryz.underlying53 hj0 jz0 .i64 .i64 64 64 (by omega) (by omega) (by rw [jz2]; omega) (by omega)
    exact ⟨_, h⟩
  generalize hHH : w.heap.size + 1 = H at *
  generalize hMM : w.heap.size = M at h0 ⊢
  go_loopw [13] (fun i wr => ∃ k : Nat, k ≤ 32 ∧ i = .int .i64 k ∧ NH w H M k k wr) (fun i _ => 32 - (intOf i).toNat)
  case atStart => exact ⟨0, by omega, rfl, h0⟩
  case round =>
    obtain ⟨k, hk, rfl, hN⟩ := hrel
    by_cases hlt : k < 32
    · have ik : (k : Int) < 32 := by omega
      obtain ⟨va, vb, xs, ys, hb, hoa, hob, hab⟩ := hN.blk
      have c0 : wr.cell? ⟨H, 0, none⟩ = some va := by simp [World.cell?, hb, hostC]
      have c1 : wr.cell? ⟨H, 1, none⟩ = some vb := by simp [World.cell?, hb, hostC]
      have f0 := frozen_of_row wr H 0 _ _ hb
      have aH := ownB_ne hoa hb (by decide)
      have aM := ownB_neM hoa hN.mp
      have bH := ownB_ne hob hb (by decide)
      have bM := ownB_neM hob hN.mp
      have lH := (Array.getElem?_eq_some_iff.1 hb).1
      have hsz := hN.q.size
      have fz1 : ∀ a b, ((wr.alloc a).alloc b).drew.frozen? ⟨H, 0, none⟩ = false := fun a b => (World.frozen?_of_block ((below_trans (below_alloc wr a) (below_alloc _ b)).block H lH)).trans f0
      go_wp2_with fail
      refine wp_region_noPanic ?_
      refine region_cut (S := fun w' => w'.cell? ⟨H, 0, none⟩ = some va) 8 (by kernel_rfl) (by kernel_rfl) (by kernel_rfl) (by kernel_rfl) (by decide) c0 (fun hHeld => ?_)
      simp only [List.drop_succ_cons, List.drop_zero]
      repeat (first | (refine WT_take (i := 0) (v := ?_) rfl (by decide) (by decide +kernel) (by decide +kernel) (fun _ _ _ h => h) (Or.inl ⟨by rfl, ?_⟩) (by assumption) ?_; rotate_left 1; (focus (intro w hSw; (try dsimp only at hSw); go_simp; (try with_reducible rfl); done)); (try simp only [Act.put, List.getElem_toArray, List.getElem_cons_zero, List.setIfInBounds_toArray, List.set_cons_zero, List.set_cons_succ])) | (refine WT_take (i := 1) (v := ?_) rfl (by decide) (by decide +kernel) (by decide +kernel) (fun _ _ _ h => h) (Or.inl ⟨by rfl, ?_⟩) (by assumption) ?_; rotate_left 1; (focus (intro w hSw; (try dsimp only at hSw); go_simp; (try with_reducible rfl); done)); (try simp only [Act.put, List.getElem_toArray, List.getElem_cons_zero, List.getElem_cons_succ, List.setIfInBounds_toArray, List.set_cons_zero, List.set_cons_succ])) | (refine WT_take (i := 2) (v := ?_) rfl (by decide) (by decide +kernel) (by decide +kernel) (fun _ _ _ h => h) (Or.inl ⟨by rfl, ?_⟩) (by assumption) ?_; rotate_left 1; (focus (intro w hSw; (try dsimp only at hSw); go_simp; (try with_reducible rfl); done)); (try simp only [Act.put, List.getElem_toArray, List.getElem_cons_zero, List.getElem_cons_succ, List.setIfInBounds_toArray, List.set_cons_zero, List.set_cons_succ])) | (refine WT_take (i := 3) (v := ?_) rfl (by decide) (by decide +kernel) (by decide +kernel) (fun _ _ _ h => h) (Or.inl ⟨by rfl, ?_⟩) (by assumption) ?_; rotate_left 1; (focus (intro w hSw; (try dsimp only at hSw); go_simp; (try with_reducible rfl); done)); (try simp only [Act.put, List.getElem_toArray, List.getElem_cons_zero, List.getElem_cons_succ, List.setIfInBounds_toArray, List.set_cons_zero, List.set_cons_succ])) | (refine WT_take (i := 4) (v := ?_) rfl (by decide) (by decide +kernel) (by decide +kernel) (fun _ _ _ h => h) (Or.inl ⟨by rfl, ?_⟩) (by assumption) ?_; rotate_left 1; (focus (intro w hSw; (try dsimp only at hSw); go_simp; (try with_reducible rfl); done)); (try simp only [Act.put, List.getElem_toArray, List.getElem_cons_zero, List.getElem_cons_succ, List.setIfInBounds_toArray, List.set_cons_zero, List.set_cons_succ])))
      refine WT_one (i := 5) (by kernel_rfl) (by decide) rfl (fun KK hK => ?_)
      obtain ⟨cs1, hcs⟩ := hmk wr.drew
      simp only [World.size_drew] at hcs
      go_simp
      refine hK.out _ _ ?_ (fun hHeld => ?_)
      · go_keep
      clear hK KK hcs
      refine WT_one (i := 6) (by kernel_rfl) (by decide) rfl (fun KK hK => ?_)
      go_simp
      refine hK.out _ _ ?_ (fun hHeld => ?_)
      · go_keep
      clear hK KK
      refine WT_one (i := 7) (by kernel_rfl) (by decide) rfl (fun KK hK => ?_)
      refine step_append_lies _ (by rfl) _ _ _ (by rfl) w.heap.size 53 i0 _ 1 24 Tryz.underlying125 hi0 hz0 hz1 hz2 rfl (by omega) va k _ (by rfl) (((hoa.alloc _).alloc _).drew) ⟨wr.heap.size + 1, 0, none⟩ 1 1 [.slice (some ⟨wr.heap.size, 0, none⟩) 64 64] (by rfl) (by rfl) (World.news_of_block (cs := #[.slice (some ⟨wr.heap.size, 0, none⟩) 64 64]) (t := 53) (fr := (0, 0)) (new_two wr _ _)) (by simp [Value.oneCell']) (by omega) (by unfold maxLen; omega) (by omega) (by simp; omega) (wr.heap.size + 2) (by simp) ?_
      intro gg1 cap1 w1 hown1 hgrow1 hat1 hlt1
      refine hK.out _ _ ?_ (fun hHeld => ?_)
      · (rw [hgrow1.cell_far _ (by simp; omega) (Ne.symm aH)]; simp [*])
      clear hK KK
      refine WT_done (by kernel_rfl) ?_
      have hfz := (hgrow1.frozen_far ⟨H, 0, none⟩ (by simp; omega) (Ne.symm aH)).trans (fz1 _ _)
      have hcz : w1.cell? ⟨H, 0, none⟩ = some va := hHeld
      go_wp2_with fail
      refine NoPanic.normal ?_
      have hN1 := NH.app0 hb hoa hob hab hN.mp hN.q (by omega) ((below_trans (below_alloc wr _) (below_alloc _ _)).drew) hown1 hgrow1 (by simpa using hat1)
      clear hHeld hown1 hgrow1 hat1 hlt1 hfz hcz hb hoa hob hab hN c0 c1 f0 aH aM bH bM lH hsz fz1
      generalize w1.setCell ⟨H, 0, none⟩ _ = X1 at *
      obtain ⟨va1, vb1, xs1, ys1, hb, hoa, hob, hab⟩ := hN1.blk
      have c1 : X1.cell? ⟨H, 1, none⟩ = some vb1 := by simp [World.cell?, hb, hostC]
      have f1 := frozen_of_row X1 H 1 _ _ hb
      have bH := ownB_ne hob hb (by decide)
      have lH := (Array.getElem?_eq_some_iff.1 hb).1
      have hsz := hN1.q.size
      have fz2 : ∀ a b, ((X1.alloc a).alloc b).drew.frozen? ⟨H, 1, none⟩ = false := fun a b => (World.frozen?_of_block ((below_trans (below_alloc X1 a) (below_alloc _ b)).block H lH)).trans f1
      go_wp2_with fail
      refine wp_region_noPanic ?_
      refine region_cut (S := fun w' => w'.cell? ⟨H, 1, none⟩ = some vb1) 8 (by kernel_rfl) (by kernel_rfl) (by kernel_rfl) (by kernel_rfl) (by decide) c1 (fun hHeld => ?_)
      simp only [List.drop_succ_cons, List.drop_zero]
      repeat (first | (refine WT_take (i := 0) (v := ?_) rfl (by decide) (by decide +kernel) (by decide +kernel) (fun _ _ _ h => h) (Or.inl ⟨by rfl, ?_⟩) (by assumption) ?_; rotate_left 1; (focus (intro w hSw; (try dsimp only at hSw); go_simp; (try with_reducible rfl); done)); (try simp only [Act.put, List.getElem_toArray, List.getElem_cons_zero, List.setIfInBounds_toArray, List.set_cons_zero, List.set_cons_succ])) | (refine WT_take (i := 1) (v := ?_) rfl (by decide) (by decide +kernel) (by decide +kernel) (fun _ _ _ h => h) (Or.inl ⟨by rfl, ?_⟩) (by assumption) ?_; rotate_left 1; (focus (intro w hSw; (try dsimp only at hSw); go_simp; (try with_reducible rfl); done)); (try simp only [Act.put, List.getElem_toArray, List.getElem_cons_zero, List.getElem_cons_succ, List.setIfInBounds_toArray, List.set_cons_zero, List.set_cons_succ])) | (refine WT_take (i := 2) (v := ?_) rfl (by decide) (by decide +kernel) (by decide +kernel) (fun _ _ _ h => h) (Or.inl ⟨by rfl, ?_⟩) (by assumption) ?_; rotate_left 1; (focus (intro w hSw; (try dsimp only at hSw); go_simp; (try with_reducible rfl); done)); (try simp only [Act.put, List.getElem_toArray, List.getElem_cons_zero, List.getElem_cons_succ, List.setIfInBounds_toArray, List.set_cons_zero, List.set_cons_succ])) | (refine WT_take (i := 3) (v := ?_) rfl (by decide) (by decide +kernel) (by decide +kernel) (fun _ _ _ h => h) (Or.inl ⟨by rfl, ?_⟩) (by assumption) ?_; rotate_left 1; (focus (intro w hSw; (try dsimp only at hSw); go_simp; (try with_reducible rfl); done)); (try simp only [Act.put, List.getElem_toArray, List.getElem_cons_zero, List.getElem_cons_succ, List.setIfInBounds_toArray, List.set_cons_zero, List.set_cons_succ])) | (refine WT_take (i := 4) (v := ?_) rfl (by decide) (by decide +kernel) (by decide +kernel) (fun _ _ _ h => h) (Or.inl ⟨by rfl, ?_⟩) (by assumption) ?_; rotate_left 1; (focus (intro w hSw; (try dsimp only at hSw); go_simp; (try with_reducible rfl); done)); (try simp only [Act.put, List.getElem_toArray, List.getElem_cons_zero, List.getElem_cons_succ, List.setIfInBounds_toArray, List.set_cons_zero, List.set_cons_succ])))
      refine WT_one (i := 5) (by kernel_rfl) (by decide) rfl (fun KK hK => ?_)
      obtain ⟨cs2, hcs⟩ := hmk X1.drew
      simp only [World.size_drew] at hcs
      go_simp
      refine hK.out _ _ ?_ (fun hHeld => ?_)
      · go_keep
      clear hK KK hcs
      refine WT_one (i := 6) (by kernel_rfl) (by decide) rfl (fun KK hK => ?_)
      go_simp
      refine hK.out _ _ ?_ (fun hHeld => ?_)
      · go_keep
      clear hK KK
      refine WT_one (i := 7) (by kernel_rfl) (by decide) rfl (fun KK hK => ?_)
      refine step_append_lies _ (by rfl) _ _ _ (by rfl) w.heap.size 53 i0 _ 1 24 Tryz.underlying125 hi0 hz0 hz1 hz2 rfl (by omega) vb1 k _ (by rfl) (((hob.alloc _).alloc _).drew) ⟨X1.heap.size + 1, 0, none⟩ 1 1 [.slice (some ⟨X1.heap.size, 0, none⟩) 64 64] (by rfl) (by rfl) (World.news_of_block (cs := #[.slice (some ⟨X1.heap.size, 0, none⟩) 64 64]) (t := 53) (fr := (0, 0)) (new_two X1 _ _)) (by simp [Value.oneCell']) (by omega) (by unfold maxLen; omega) (by omega) (by simp; omega) (X1.heap.size + 2) (by simp) ?_
      intro gg2 cap2 w2 hown2 hgrow2 hat2 hlt2
      refine hK.out _ _ ?_ (fun hHeld => ?_)
      · (rw [hgrow2.cell_far _ (by simp; omega) (Ne.symm bH)]; simp [*])
      clear hK KK
      refine WT_done (by kernel_rfl) ?_
      have hfz := (hgrow2.frozen_far ⟨H, 1, none⟩ (by simp; omega) (Ne.symm bH)).trans (fz2 _ _)
      have hcz : w2.cell? ⟨H, 1, none⟩ = some vb1 := hHeld
      go_wp2_with fail
      refine NoPanic.normal ?_
      have hN2 := NH.app1 hb hoa hob hab hN1.mp hN1.q (by omega) ((below_trans (below_alloc X1 _) (below_alloc _ _)).drew) hown2 hgrow2 (by simpa using hat2)
      go_wp2_with fail
      go_roundw
      case rel => exact ⟨k + 1, by omega, by go_num, hN2⟩
      case measure => simp [intOf]; omega
    · have ek : ((k : Nat) : Int) = 32 := by omega
      rw [ek]
      have k0 := hN.host (by omega) (by omega)
      have q0 := hN.q
      clear hN hlt hk ek
      go_wp2_with fail
      go_loopw [36] (fun i X => ∃ t : Nat, t ≤ 3 ∧ i = .int .i64 t ∧ HostI w.heap.size H M (fun j => if j < t then (if j < n then clampR (x j) else 40) else 0) [] [] (-1) false X ∧ Below w.heap.size w X) (fun i _ => 3 - (intOf i).toNat)
      case atStart => exact ⟨0, by omega, rfl, k0.congR (fun t ht => by simp), q0⟩
      case round =>
        obtain ⟨t, ht3, rfl, k1, q1⟩ := hrel
        by_cases hlt : t < 3
        · have it : (t : Int) < 3 := by omega
          have cR := k1.rooms t hlt
          have fR := k1.cells.2.2.2 (7 + t)
          have k2 := k1.setR t hlt 40
          have q2 := q1.setCell (p := ⟨H, 7 + t, none⟩) (show w.heap.size ≤ H by omega) (.int .i64 40)
          by_cases hn2 : t < n
          · obtain ⟨rb, off, rfl, hrb, hrc⟩ := hr (by omega)
            have in2 : (t : Int) < (n : Int) := by omega
            have cx := (q2.cell (p := ⟨rb, off + t, none⟩) hrb).trans (hrc t hn2)
            have cR2 : (wr.setCell ⟨H, 7 + t, none⟩ (.int .i64 40)).cell? ⟨H, 7 + t, none⟩ = some (.int .i64 40) := by have := k2.rooms t hlt; simpa using this
            have fR2 := k2.cells.2.2.2 (7 + t)
            have k3 := (k2.keep (below_drew _)).setR t hlt (clampR (x t))
            have q3 := q2.drew.setCell (p := ⟨H, 7 + t, none⟩) (show w.heap.size ≤ H by omega) (.int .i64 (clampR (x t)))
            have hcm := clampR_mm (x t)
            go_wp2_with fail
            refine region_tail 10 (by kernel_rfl) (by kernel_rfl) ?_
            simp only [List.take_succ_cons, List.take_zero, List.drop_succ_cons, List.drop_zero]
            still_step
            still_step
            still_step
            still_step
            still_step
            still_step
            still_step
            still_step
            still_step
            still_step
            refine wpStill_nil ?_
            go_wp2_with fail
            go_roundw
            case rel => exact ⟨t + 1, by omega, by go_num, k3.congR (fun j _ => room_next2 (fun j => if j < n then clampR (x j) else 40) t (clampR (x t)) 40 (if_pos hn2).symm j), q3⟩
            case measure => simp [intOf]; omega
          · have in2 : ¬ (t : Int) < (n : Int) := by omega
            go_wp2_with fail
            go_roundw
            case rel => exact ⟨t + 1, by omega, by go_num, k2.congR (fun j _ => room_next (fun j => if j < n then clampR (x j) else 40) t 40 (if_neg hn2).symm j), q2⟩
            case measure => simp [intOf]; omega
        · obtain rfl : t = 3 := by omega
          go_wp2_with fail
          go_ret
          exact ⟨H, M, rfl, k1.congR (fun t ht => by rw [if_pos ht]), q1⟩
end Go.Proofs.YtindifjhocgkbaaGreatDoor
