import Derived.Test.YtindifjhocgkbaaGreatDoorChd
import Derived.Test.YtindifjhocgkbaaGreatDoorParts
import Derived.Test.YtindifjhocgkbaaGreatDoorErrC
import Derived.Test.YtindifjhocgkbaaGreatDoorRd
namespace Go.Proofs.YtindifjhocgkbaaGreatDoor
open Go.RowKit

set_option maxHeartbeats 1000000 in
theorem newTables (w : World) : Calls Tryz.prog 33 #[] w fun e w' => e = .returned (.pointer (some ⟨w.heap.size, 0, none⟩)) ∧ w' = w.alloc (.cells #[.slice none 0 0] 116) := by
  go_enter Tryz.func33, Tryz.ntmps33
  go_wp2
  go_ret
  exact ⟨rfl, rfl⟩
set_option maxHeartbeats 1000000 in
theorem pFold (w : World) : Calls Tryz.prog 7 #[] w fun e w' => e = .returned (.tuple #[.pointer (some ⟨w.heap.size + 1, 0, none⟩), .bool true]) ∧ w' = (w.alloc (.cells #[.slice none 0 0] 116)).alloc (.cells #[.pointer (some ⟨w.heap.size, 0, none⟩)] 77) := by
  go_enter Tryz.func7, Tryz.ntmps7
  go_wp2_with (go_at_call 33; refine (newTables _).mono ?_; rintro e w1 ⟨rfl, rfl⟩)
  go_ret2
  exact ⟨rfl, rfl⟩
/-- Tables in memory: the list that they hold. -/
structure TabIs (w : World) (T : Nat) (l : List En) : Prop where
  blk : ∃ v, w.heap[T]? = some (.cells #[v] 116 (0, 0)) ∧ w.ownsRow 0 183 3 v l.length (cellsE l)
theorem TabIs.keep {w w' : World} {T : Nat} {l : List En} (h : TabIs w T l) (q : Below w.heap.size w w') : TabIs w' T l := by
  obtain ⟨v, h1, h2⟩ := h.blk
  exact ⟨v, (q.block T (Array.getElem?_eq_some_iff.1 h1).1).trans h1, owns_below h2 q⟩
theorem TabIs.lt {w : World} {T : Nat} {l : List En} (h : TabIs w T l) : T < w.heap.size := by obtain ⟨v, h1, _⟩ := h.blk; exact (Array.getElem?_eq_some_iff.1 h1).1

theorem TabIs.set {w w' : World} {T : Nat} {v v' : Value} {l' : List En} (h1 : w.heap[T]? = some (.cells #[v] 116 (0, 0))) (q : Below w.heap.size w w') (ho : w'.ownsRow w.heap.size 183 3 v' l'.length (cellsE l')) : TabIs (w'.setCell ⟨T, 0, none⟩ v') T l' ∧ w.grownBy (w'.setCell ⟨T, 0, none⟩ v') (some T) := by
  have hlt : T < w.heap.size := (Array.getElem?_eq_some_iff.1 h1).1
  have h2 : w'.heap[T]? = some (.cells #[v] 116 (0, 0)) := (q.block T hlt).trans h1
  have e : w'.setCell ⟨T, 0, none⟩ v' = w'.setRow T #[v'] := by rw [setCell_eq_setRow w' T 0 #[v] 116 (0, 0) v' h2]; rfl
  rw [e]
  refine ⟨⟨v', setRow_heap _ _ _ _ _ _ h2, ?_⟩, ?_⟩
  · refine (owns_mono ho (Nat.zero_le _)).kept (grown_setRow w' T #[v']) ?_
    cases hv : v'.ownBlock with
    | none => exact .inl rfl
    | some k => refine .inr fun e' => ?_; have := (ho.lt k hv).1; simp at e'; omega
  · exact grown_back q (grown_setRow w' T #[v'])

theorem owns_slice {w : World} {base e size n : Nat} {v : Value} {xs : List Value} (h : w.ownsRow base e size v n xs) : ∃ a m c, v = .slice a m c := by
  rcases h.2 with ⟨rfl, _⟩ | ⟨g, cap, cur, rfl, _⟩ <;> exact ⟨_, _, _, rfl⟩
set_option maxRecDepth 10000 in
set_option maxHeartbeats 2000000 in
theorem tApply_no (T : Nat) (v : Int) (ao : Option Addr) (cap : Nat) (ops : List OpD) (w : World) (h0 : 0 ≤ v) (hcap : ops.length ≤ cap) (ho : OpsIn w ao ops) (g : Glob w) (hk : (wrongD v ops).1 ≠ 0) :
    Calls Tryz.prog 35 #[.pointer (some ⟨T, 0, none⟩), .agg #[.int .u64 v, .slice ao ops.length cap]] w fun e w' => ∃ x, e = .returned x ∧ ErrIs w' x (wrongD v ops).1 (wrongD v ops).2 ∧ Below w.heap.size w w' := by
  have gA : ∀ x, Glob (w.alloc x) := fun x => g.keep (below_alloc w x)
  have oA : ∀ x, OpsIn (w.alloc x) ao ops := fun x => ho.keep (below_alloc w x)
  go_enter Tryz.func35, Tryz.ntmps35
  go_wp2_with fail
  refine (wCheck v ao cap ops _ h0 hcap (oA _) (gA _)).mono ?_
  rintro e w1 ⟨x, rfl, hx, q1⟩
  rcases hx.cases0 with ⟨e0, _⟩ | ⟨_, b, rfl⟩
  · exact absurd e0 hk
  have HK : Hid ((wrongD v ops).1 ≠ 0) := hk
  clear hk
  go_wp2
  go_ret
  exact ⟨_, rfl, hx, below_trans (below_alloc _ _) q1⟩

set_option maxRecDepth 10000 in
set_option maxHeartbeats 2000000 in
theorem tApply_ok (T : Nat) (l : List En) (v : Int) (ao : Option Addr) (cap : Nat) (ops : List OpD) (w : World) (h : TabIs w T l) (h0 : 0 ≤ v) (hcap : ops.length ≤ cap) (ho : OpsIn w ao ops) (g : Glob w) (hs : Srt l) (hn : l.length ≤ 900000) (hk : (wrongD v ops).1 = 0) :
    Calls Tryz.prog 35 #[.pointer (some ⟨T, 0, none⟩), .agg #[.int .u64 v, .slice ao ops.length cap]] w fun e w' => e = .returned .nilIface ∧ TabIs w' T (aft l ops) ∧ w.grownBy w' (some T) := by
  have gA : ∀ x, Glob (w.alloc x) := fun x => g.keep (below_alloc w x)
  have oA : ∀ x, OpsIn (w.alloc x) ao ops := fun x => ho.keep (below_alloc w x)
  have h8 : ops.length ≤ 8 := by have := (wrongD_ok hk).2.1; simp [cntB] at this; omega
  have hsz : ∀ o ∈ ops, o.key.size ≤ 1000 ∧ o.val.size ≤ 1000 := fun o hm => by
    obtain ⟨j, hj, rfl⟩ := List.getElem_of_mem hm
    have hw := wrongN_ok ((wrongD_ok hk).2.2 j hj)
    have := keyB_size hw.2.1
    have := fits_size hw.2.2.2
    omega
  have HZ : Hid (∀ o ∈ ops, o.key.size ≤ 1000 ∧ o.val.size ≤ 1000) := hsz
  clear hsz
  have HK : Hid ((wrongD v ops).1 = 0) := hk
  clear hk
  have HS : Hid (Srt l) := hs
  clear hs
  obtain ⟨x, hb, hown⟩ := h.blk
  have hT : T < w.heap.size := h.lt
  go_enter Tryz.func35, Tryz.ntmps35
  go_wp2_with fail
  refine (wCheck v ao cap ops _ h0 hcap (oA _) (gA _)).mono ?_
  rintro e w1 ⟨y, rfl, hx, q1⟩
  rcases hx.cases0 with ⟨-, rfl⟩ | ⟨e0, -⟩
  rotate_left
  · exact absurd HK.out e0
  clear hx
  have x1 : w1.cell? ⟨w.heap.size, 1, none⟩ = some (.slice ao ops.length cap) := (q1.cell (p := ⟨w.heap.size, 1, none⟩) (by simp)).trans (by simp)
  have q0 := below_trans (below_alloc _ _) q1
  have hb1 := (q0.block T hT).trans hb
  have tc : w1.cell? ⟨T, 0, none⟩ = some x := by simp [World.cell?, hb1]
  have tf : w1.frozen? ⟨T, 0, none⟩ = false := by simp [World.frozen?, hb1]
  have hown1 := owns_below hown q0
  have ho1 := ho.keep q0
  clear q1
  have hTw : T < w1.heap.size := Nat.lt_of_lt_of_le hT q0.size
  have hne : ¬ T = w.heap.size := by omega
  have hne' : ¬ w.heap.size = T := by omega
  have hw1 : w.heap.size < w1.heap.size := cell_lt x1
  go_wp2_with fail
  go_region_with (go_at_call 66; refine (lAfter 0 x l ao cap ops _ (owns_below hown1 (below_drew _)) HS.out hn (ho1.keep (below_drew _)) h8 HZ.out).mono ?_; rintro e w2 ⟨v2, rfl, ho2, q2⟩; obtain ⟨va, vn, vc, rfl⟩ := owns_slice ho2; have e1 := (q2.cell (p := ⟨w.heap.size, 1, none⟩) hw1).trans x1; have e2 := (q2.cell (p := ⟨T, 0, none⟩) hTw).trans tc; have e3 := (q2.frozen (p := ⟨T, 0, none⟩) hTw).trans tf)
  all_goals
    go_wp2
    go_ret
    obtain ⟨t1, g1⟩ := TabIs.set (w := w1.drew) hb1 q2 ho2
    exact ⟨rfl, t1, grown_back (below_trans q0 (below_drew _)) g1⟩

/-- What Apply leaves. -/
def aftD (l : List En) (v : Int) (ops : List OpD) : List En := if (wrongD v ops).1 = 0 then aft l ops else l
theorem aftD_srt {l : List En} {v : Int} {ops : List OpD} (h : Srt l) : Srt (aftD l v ops) := by unfold aftD; split; exact aft_srt h; exact h
theorem errIs_nil (w : World) : ErrIs w .nilIface 0 0 := .inl ⟨rfl, rfl, rfl⟩
theorem TabIs.grown {w w' : World} {T R : Nat} {l : List En} (h : TabIs w T l) (hR : R ≠ T) (hr : ∀ v, w.heap[T]? = some (.cells #[v] 116 (0, 0)) → v.ownBlock ≠ some R) (g : w.grownBy w' (some R)) : TabIs w' T l := by
  obtain ⟨v, h1, h2⟩ := h.blk
  exact ⟨v, (g.block T (Array.getElem?_eq_some_iff.1 h1).1 (fun e => hR (by simpa using e.symm))).trans h1, h2.kept g (.inr (hr v h1))⟩

theorem TabIs.far {w w' : World} {T R : Nat} {l : List En} (h : TabIs w T l) {c : Array Value} {t : TypeId} {f : Nat × Nat} (hb : w.heap[R]? = some (.cells c t f)) (ht : t ≠ 183) (hR : R ≠ T) (g : w.grownBy w' (some R)) : TabIs w' T l := by
  obtain ⟨v, h1, h2⟩ := h.blk
  exact ⟨v, (g.block T (Array.getElem?_eq_some_iff.1 h1).1 (fun e => hR (by simpa using e.symm))).trans h1, h2.kept g (.inr (fun e => own_ne h2 hb ht e.symm))⟩
/-- Three cells of a block beyond are written. -/
theorem set3 {w2 : World} {R : Nat} {x0 x1 x2 : Value} : w2.grownBy (((w2.setCell ⟨R, 0, none⟩ x0).setCell ⟨R, 1, none⟩ x1).setCell ⟨R, 2, none⟩ x2) (some R) :=
  grown_set' (grown_set' (grown_set' (grown_refl w2 _) rfl) rfl) rfl
theorem grown_newT {w w2 w3 : World} {T R : Nat} (g : w.grownBy w2 (some T)) (g2 : w2.grownBy w3 (some R)) (hR : w.heap.size ≤ R) : w.grownBy w3 (some T) :=
  ⟨g2.os.trans g.os, g2.tape.trans g.tape, g2.output.trans g.output, Nat.le_trans g.size g2.size, fun k hk hne => (g2.block k (Nat.lt_of_lt_of_le hk g.size) (by simp; omega)).trans (g.block k hk hne)⟩
set_option maxRecDepth 10000 in
set_option maxHeartbeats 2000000 in
theorem fApply (F T : Nat) (l : List En) (v : Int) (ao : Option Addr) (cap : Nat) (ops : List OpD) (w : World) (hF : w.cell? ⟨F, 0, none⟩ = some (.pointer (some ⟨T, 0, none⟩))) (h : TabIs w T l) (h0 : 0 ≤ v) (hcap : ops.length ≤ cap) (ho : OpsIn w ao ops) (g : Glob w) (he : EtIs w) (hT : 2 < T) (hs : Srt l) (hn : l.length ≤ 900000) :
    Calls Tryz.prog 8 #[.pointer (some ⟨F, 0, none⟩), .agg #[.int .u64 v, .slice ao ops.length cap]] w fun e w' => e = .returned (.agg #[.int .i64 (wrongD v ops).1, .int .i64 (wrongD v ops).2, .int .i64 0]) ∧ TabIs w' T (aftD l v ops) ∧ w.grownBy w' (some T) := by
  have HS : Hid (Srt l) := hs
  clear hs
  by_cases hk : (wrongD v ops).1 = 0
  · have e2 := wrongD_zero hk
    have ea : aftD l v ops = aft l ops := by unfold aftD; rw [if_pos hk]
    rw [ea, e2]
    clear ea
    have HK : Hid ((wrongD v ops).1 = 0) := hk
    clear hk e2
    go_enter Tryz.func8, Tryz.ntmps8
    go_wp2_with fail
    obtain ⟨W, hW⟩ : ∃ W, W = (w.alloc (.cells #[.int .u64 v, .slice ao ops.length cap] 34)).alloc (.cells #[.int .i64 0, .int .i64 0, .int .i64 0] 29) := ⟨_, rfl⟩
    have qW : Below w.heap.size w W := by rw [hW]; exact below_trans (below_alloc _ _) (below_alloc _ _)
    have d0 : W.cell? ⟨w.heap.size, 0, none⟩ = some (.int .u64 v) := by rw [hW]; simp
    have d1 : W.cell? ⟨w.heap.size, 1, none⟩ = some (.slice ao ops.length cap) := by rw [hW]; simp
    have r0 : W.cell? ⟨w.heap.size + 1, 0, none⟩ = some (.int .i64 0) := by rw [hW]; exact World.cell?_alloc_at _ _ _ 0 (by simp)
    have r1 : W.cell? ⟨w.heap.size + 1, 1, none⟩ = some (.int .i64 0) := by rw [hW]; exact World.cell?_alloc_at _ _ _ 1 (by simp)
    have r2 : W.cell? ⟨w.heap.size + 1, 2, none⟩ = some (.int .i64 0) := by rw [hW]; exact World.cell?_alloc_at _ _ _ 2 (by simp)
    have r3 : ∀ i, W.frozen? ⟨w.heap.size + 1, i, none⟩ = false := fun i => by rw [hW]; exact World.frozen?_alloc_at _ _ _ i (by simp)
    have rb : W.heap[w.heap.size + 1]? = some (.cells #[.int .i64 0, .int .i64 0, .int .i64 0] 29 (0, 0)) := by rw [hW]; have hh := heap_alloc_new (w.alloc (.cells #[.int .u64 v, .slice ao ops.length cap] 34)) (.cells #[.int .i64 0, .int .i64 0, .int .i64 0] 29); simpa using hh
    have hFW := (qW.cell (p := ⟨F, 0, none⟩) (cell_lt hF)).trans hF
    have hsW : w.heap.size + 1 < W.heap.size := cell_lt r0
    rw [← hW]
    clear hW
    have qD : Below w.heap.size w W.drew := below_trans qW (below_drew _)
    refine region_tail 5 (by kernel_rfl) (by kernel_rfl) ?_
    simp only [List.take_succ_cons, List.take_zero, List.drop_succ_cons, List.drop_zero]
    still_step
    still_step
    still_step
    still_step
    still_step
    refine wpStill_nil ?_
    go_wp2_with fail
    refine (tApply_ok T l v ao cap ops _ (h.keep qD) h0 hcap (ho.keep qD) (g.keep qD) HS.out hn HK.out).mono ?_
    rintro e w1 ⟨rfl, t1, g1⟩
    have he1 : EtIs w1 := g1.cell (he.keep qD) (by simp; omega)
    have hTl := h.lt
    have sb := (g1.block _ hsW (by simp; omega)).trans rb
    have s0 := g1.cell r0 (by simp; omega)
    have s1 := g1.cell r1 (by simp; omega)
    have s2 := g1.cell r2 (by simp; omega)
    have s3 : ∀ i, w1.frozen? ⟨w.heap.size + 1, i, none⟩ = false := fun i => (World.frozen?_of_block (g1.block _ hsW (by simp; omega))).trans (r3 i)
    have hs1 : w.heap.size + 1 < w1.heap.size := cell_lt s0
    go_wp2_with fail
    refine (partsOf _ 0 0 _ he1 (errIs_nil _)).mono ?_
    rintro e w2 ⟨rfl, q2⟩
    have y0 := (q2.cell (p := ⟨w.heap.size + 1, 0, none⟩) hs1).trans s0
    have y1 := (q2.cell (p := ⟨w.heap.size + 1, 1, none⟩) hs1).trans s1
    have y2 := (q2.cell (p := ⟨w.heap.size + 1, 2, none⟩) hs1).trans s2
    have y3 : ∀ i, w2.frozen? ⟨w.heap.size + 1, i, none⟩ = false := fun i => (q2.frozen (p := ⟨w.heap.size + 1, i, none⟩) hs1).trans (s3 i)
    go_wp2_with fail
    have yb := (q2.block _ hs1).trans sb
    exact bodyPost_ret (v := .agg #[.int .i64 0, .int .i64 0, .int .i64 0]) (by simp [results, Tryz.results8, go_sem, y0, y1, y2]) rfl ⟨rfl, (t1.keep q2).far yb (by decide) (by omega) set3, grown_newT (grown_trn (grown_back qD g1) (grown_below' _ q2)) set3 (by omega)⟩
  · have ea : aftD l v ops = l := by unfold aftD; rw [if_neg hk]
    rw [ea]
    clear ea
    have HK : Hid ((wrongD v ops).1 ≠ 0) := hk
    clear hk
    go_enter Tryz.func8, Tryz.ntmps8
    go_wp2_with fail
    obtain ⟨W, hW⟩ : ∃ W, W = (w.alloc (.cells #[.int .u64 v, .slice ao ops.length cap] 34)).alloc (.cells #[.int .i64 0, .int .i64 0, .int .i64 0] 29) := ⟨_, rfl⟩
    have qW : Below w.heap.size w W := by rw [hW]; exact below_trans (below_alloc _ _) (below_alloc _ _)
    have d0 : W.cell? ⟨w.heap.size, 0, none⟩ = some (.int .u64 v) := by rw [hW]; simp
    have d1 : W.cell? ⟨w.heap.size, 1, none⟩ = some (.slice ao ops.length cap) := by rw [hW]; simp
    have r0 : W.cell? ⟨w.heap.size + 1, 0, none⟩ = some (.int .i64 0) := by rw [hW]; exact World.cell?_alloc_at _ _ _ 0 (by simp)
    have r1 : W.cell? ⟨w.heap.size + 1, 1, none⟩ = some (.int .i64 0) := by rw [hW]; exact World.cell?_alloc_at _ _ _ 1 (by simp)
    have r2 : W.cell? ⟨w.heap.size + 1, 2, none⟩ = some (.int .i64 0) := by rw [hW]; exact World.cell?_alloc_at _ _ _ 2 (by simp)
    have r3 : ∀ i, W.frozen? ⟨w.heap.size + 1, i, none⟩ = false := fun i => by rw [hW]; exact World.frozen?_alloc_at _ _ _ i (by simp)
    have rb : W.heap[w.heap.size + 1]? = some (.cells #[.int .i64 0, .int .i64 0, .int .i64 0] 29 (0, 0)) := by rw [hW]; have hh := heap_alloc_new (w.alloc (.cells #[.int .u64 v, .slice ao ops.length cap] 34)) (.cells #[.int .i64 0, .int .i64 0, .int .i64 0] 29); simpa using hh
    have hFW := (qW.cell (p := ⟨F, 0, none⟩) (cell_lt hF)).trans hF
    have hsW : w.heap.size + 1 < W.heap.size := cell_lt r0
    rw [← hW]
    clear hW
    have qD : Below w.heap.size w W.drew := below_trans qW (below_drew _)
    refine region_tail 5 (by kernel_rfl) (by kernel_rfl) ?_
    simp only [List.take_succ_cons, List.take_zero, List.drop_succ_cons, List.drop_zero]
    still_step
    still_step
    still_step
    still_step
    still_step
    refine wpStill_nil ?_
    go_wp2_with fail
    refine (tApply_no T v ao cap ops _ h0 hcap (ho.keep qD) (g.keep qD) HK.out).mono ?_
    rintro e w1 ⟨x, rfl, hx, q1⟩
    have sb := (q1.block _ hsW).trans rb
    have s0 := (q1.cell (p := ⟨w.heap.size + 1, 0, none⟩) hsW).trans r0
    have s1 := (q1.cell (p := ⟨w.heap.size + 1, 1, none⟩) hsW).trans r1
    have s2 := (q1.cell (p := ⟨w.heap.size + 1, 2, none⟩) hsW).trans r2
    have s3 : ∀ i, w1.frozen? ⟨w.heap.size + 1, i, none⟩ = false := fun i => (q1.frozen (p := ⟨w.heap.size + 1, i, none⟩) hsW).trans (r3 i)
    have hs1 : w.heap.size + 1 < w1.heap.size := cell_lt s0
    go_wp2_with fail
    refine (partsOf _ _ _ _ ((he.keep qD).keep q1) hx).mono ?_
    rintro e w2 ⟨rfl, q2⟩
    have y0 := (q2.cell (p := ⟨w.heap.size + 1, 0, none⟩) hs1).trans s0
    have y1 := (q2.cell (p := ⟨w.heap.size + 1, 1, none⟩) hs1).trans s1
    have y2 := (q2.cell (p := ⟨w.heap.size + 1, 2, none⟩) hs1).trans s2
    have y3 : ∀ i, w2.frozen? ⟨w.heap.size + 1, i, none⟩ = false := fun i => (q2.frozen (p := ⟨w.heap.size + 1, i, none⟩) hs1).trans (s3 i)
    go_wp2_with fail
    have hTl := h.lt
    have yb := (q2.block _ hs1).trans sb
    exact bodyPost_ret (v := .agg #[.int .i64 (wrongD v ops).1, .int .i64 (wrongD v ops).2, .int .i64 0]) (by simp [results, Tryz.results8, go_sem, y0, y1, y2]) rfl ⟨rfl, (h.keep (below_trans qD (below_trans q1 q2))).far yb (by decide) (by omega) set3, grown_newT (grown_below' (some T) (below_trans qD (below_trans q1 q2))) set3 (by omega)⟩
end Go.Proofs.YtindifjhocgkbaaGreatDoor
