import Derived.Test.YtokckapacdpgaaaGreatDoorItD
import Derived.Test.YtokckapacdpgaaaGreatDoorSta
import Derived.Test.YtokckapacdpgaaaGreatDoorOth
import Derived.Test.YtokckapacdpgaaaGreatDoorItE
namespace Go.Proofs.YtokckapacdpgaaaGreatDoor
open Go.RowKit Go.Shelf

attribute [local go_sem] Oper.semAt_some

/-- Entries as cells of bytes. -/
def ensV (l : List En) : List Value := l.flatMap fun x => enV x.t x.k x.v
def staV (v : Int) (l : List En) : List Value := beV v 8 ++ beV (l.length : Int) 2 ++ ensV l
theorem ensV_snoc (l : List En) (x : En) : ensV (l ++ [x]) = ensV l ++ enV x.t x.k x.v := by simp [ensV]
theorem enV_length (t : Int) (k v : ByteArray) : (enV t k v).length = 1 + k.size + v.size := by simp [enV, Lib.strCells_length]; omega
theorem ensV_length {l : List En} (h : Ok l) : (ensV l).length ≤ l.length * 11 := by
  induction l with
  | nil => simp [ensV]
  | cons x l ih =>
    have hx := h x (by simp)
    have := keyB_size hx.2.1
    have := valB_size hx.2.2
    have ih := ih (fun y hy => h y (by simp [hy]))
    have e : ensV (x :: l) = enV x.t x.k x.v ++ ensV l := by simp [ensV]
    rw [e, List.length_append, enV_length, List.length_cons]
    omega

/-- Entries that may be. -/
def OkEn : Type := {x : En // okE x}
def OkEn.en (x : OkEn) : En := x.1
theorem OkEn.ok (x : OkEn) : okE x.en := x.2
theorem okEns {l : List En} (h : Ok l) : ∃ fs : List OkEn, fs.map OkEn.en = l := by
  induction l with
  | nil => exact ⟨[], rfl⟩
  | cons x l ih =>
    obtain ⟨fs, e⟩ := ih (fun y hy => h y (by simp [hy]))
    have hx : okE x := h x (by simp)
    have hy : ∃ y : OkEn, y.en = x := ⟨⟨x, hx⟩, rfl⟩
    obtain ⟨y, hy⟩ := hy
    exact ⟨y :: fs, by rw [List.map_cons, e, hy]⟩
theorem okEns_ok (fs : List OkEn) : Ok (fs.map OkEn.en) := by
  intro z hz
  simp only [List.mem_map] at hz
  obtain ⟨u, _, rfl⟩ := hz
  exact u.ok

set_option maxRecDepth 100000 in
set_option maxHeartbeats 2000000 in
theorem wEncodeAll_in (n : Nat) (hn : 4 ≤ n) (v : Int) (a : Option Addr) (cap : Nat) (es : List En) (hv : verB v = true) (h0 : 0 ≤ v) (hlen : es.length ≤ 1000000) (hok : Ok es) (w : World) (hI : EnsIn w (.slice a es.length cap) es) :
    CallsIn Fence.wide n Tryz.prog 77 #[.int .u64 v, .slice a es.length cap] w fun e W' => ∃ b, e = .returned (.tuple #[b, .nilIface]) ∧ W'.ownsRow w.heap.size 5 1 b (staV v es).length (staV v es) ∧ Below w.heap.size w W' := by
  have hn1 : 1 ≤ n := by omega
  refine callsIn_of_wp_marks Tryz.func77 rfl trivial ?_ rfl
  simp only [Tryz.ntmps77, List.size_toArray, List.length_cons, List.length_nil, Nat.reduceAdd, Nat.reduceSub, Array.replicate_succ, Array.replicate_zero, List.push_toArray, List.append_toArray, List.nil_append, List.cons_append]
  gi_wp2
  refine ⟨trivial, ?_⟩
  refine (callsIn_wide.2 (wIsVersion _ _ h0)).mono ?_
  rintro e w ⟨rfl, rfl⟩
  gi_wp2
  refine ⟨trivial, ?_⟩
  refine (callsIn_wide.2 (appendNumber' w.heap.size _ 0 8 [] v _ (by omega) (by omega) h0 (World.ownsRow_nil _ _ _ _) (Nat.le_refl _))).mono ?_
  rintro e w2 ⟨b2, rfl, hown2, q2, -⟩
  simp only [Nat.zero_add, List.nil_append] at hown2
  obtain ⟨ao2, cp2, rfl⟩ := own_slice hown2
  have hs2 := q2.size
  gi_wp2
  refine ⟨trivial, ?_⟩
  refine (callsIn_wide.2 (appendNumber' w.heap.size _ 8 2 _ (es.length : Int) _ (by omega) (by omega) (by omega) (hown2.alloc _) (by simp; omega))).mono ?_
  rintro e w3 ⟨b3, rfl, hown3, q3, o3⟩
  obtain ⟨ao3, cp3, rfl⟩ := own_slice hown3
  have bB := o3.boxed (Boxed.new w2 53 (.slice ao2 8 cp2)) (by decide)
  have cB := bB.cell
  have fB := bB.frozen
  have q03 : Below w.heap.size w w3 := (q2.alloc hs2 _).trans q3
  gi_wp2
  refine ⟨trivial, ?_⟩
  refine (all_in Fence.wide (n - 1) trivial rfl _ _ _ _).mono ?_
  rintro e w4 ⟨rfl, rfl⟩
  obtain ⟨fs, rfl⟩ := okEns hok
  rw [List.length_map] at *
  have bB2 := (bB.set (.slice ao3 (8 + 2) cp3)).alloc (.cells #[.slice a fs.length cap] 112)
  have bL := Boxed.new (w3.setCell ⟨w2.heap.size, 0, none⟩ (.slice ao3 (8 + 2) cp3)) 112 (.slice a fs.length cap)
  have ho4 := (hown3.kept (grownBy_setCell' w3 w2.heap.size (.slice ao3 (8 + 2) cp3)) (.inr (bB.not_row (by decide) hown3).symm)).alloc (.cells #[.slice a fs.length cap] 112)
  have hsw : (w3.setCell ⟨w2.heap.size, 0, none⟩ (.slice ao3 (8 + 2) cp3)).heap.size = w3.heap.size := by simp [World.setCell]
  have q04 : Below w.heap.size w ((w3.setCell ⟨w2.heap.size, 0, none⟩ (.slice ao3 (8 + 2) cp3)).alloc (.cells #[.slice a fs.length cap] 112)) := (q03.setCell (p := ⟨w2.heap.size, 0, none⟩) hs2 _).alloc (by rw [hsw]; exact q03.size) _
  rw [hsw] at bL
  have hlt2 : w2.heap.size < w3.heap.size := bB.lt
  gi_wp2
  clear hsw bB cB fB
  obtain ⟨W0, hW0⟩ : ∃ W0, (w3.setCell ⟨w2.heap.size, 0, none⟩ (.slice ao3 (8 + 2) cp3)).alloc (.cells #[.slice a fs.length cap] 112) = W0 := ⟨_, rfl⟩
  have hsz : w3.heap.size < W0.heap.size := by have := bL.lt; rw [hW0] at this; exact this
  simp only [Nat.reduceAdd] at hW0 bB2 bL ho4 q04
  rw [hW0] at bB2 bL ho4 q04 ⊢
  clear hW0
  have hq0 := q03.size
  refine wpIn_rangeFunc_ownH rfl hn1 (gf := 107) (lb := #[.pointer (some ⟨w3.heap.size, 0, none⟩)]) rfl trivial (enters_of Tryz.func107 (by kernel_rfl) rfl)
    (all_stopsF OkEn.en Fence.wide (n - 1) trivial rfl (by omega) w3.heap.size w.heap.size _ fs hlen W0 (by omega) (by omega) bL.cell ((EnsBelow.of hI).keep q04)) belowK_t (belowK_b (by omega)) (Below.refl _ _) (fun _ => rfl)
    (fun pre W => (∃ y, Boxed W w2.heap.size 53 y ∧ W.ownsRow w.heap.size 5 1 y (10 + (ensV (pre.map OkEn.en)).length) (beV v 8 ++ beV (fs.length : Int) 2 ++ ensV (pre.map OkEn.en)) ∧ True) ∧ Below w.heap.size w W)
    (fun _ _ _ => False)
    (OwnFrom.and (Own.from (holdsRow_own w.heap.size w2.heap.size 53 5 1 (fun pre : List OkEn => 10 + (ensV (pre.map OkEn.en)).length) (fun pre => beV v 8 ++ beV (fs.length : Int) 2 ++ ensV (pre.map OkEn.en)) (fun _ _ => True)) _) (ownFrom_below (Nat.le_refl _) (by omega)))
    (fun _ _ _ _ _ hs _ _ => hs)
    ⟨⟨_, bB2, by simpa [ensV] using ho4, trivial⟩, q04⟩
    (fun x a' W => ∃ Bx, w2.heap.size < Bx ∧ KBox W Bx x.en ∧ a' = { tmps := #[.int .u64 v, .slice a fs.length cap, undef, undef, .slice none 0 0, .nilIface, .pointer (some ⟨w2.heap.size, 0, none⟩), .pointer (some ⟨Bx, 0, none⟩), .string x.en.v, .int .u64 v, .bool true, .bool false, undef, .int .u64 v, .slice ao2 8 cp2, .slice ao2 8 cp2, .slice a fs.length cap, .int .i64 (fs.length : Int), .int .u64 (fs.length : Int), .slice ao3 10 cp3, .slice a fs.length cap, .func (.func 107) #[] #[.pointer (some ⟨w3.heap.size, 0, none⟩)], .agg #[.int .i64 x.en.t, .string x.en.k], .string x.en.v, undef, undef, undef, undef, undef], defers := [] })
    (fun x a' _ X Y row hs hg hr => by obtain ⟨Bx, h1, h2, h3⟩ := hs; exact ⟨Bx, h1, h2.own hg (fun r e => (hr r e).2), h3⟩)
    ?assign ?body ?done ?stop
  case assign =>
    rintro l pre x W K ⟨⟨y, bB1, hr1, _⟩, hB1⟩ hK
    gi_wp2
    exact hK _ _ ((KeepsOthers.alloc _ _).from _) ((Below.refl _ W).alloc hB1.size _) ⟨⟨y, bB1.alloc _, hr1.alloc _, trivial⟩, hB1.alloc hB1.size _⟩ ⟨W.heap.size, bB1.lt, heap_alloc_new _ _, rfl⟩
  case body =>
    rintro l pre x a' W hl _ ⟨⟨y, bB1, hr1, _⟩, hB1⟩ ⟨Bx, hBx, bX, rfl⟩ hlt
    have cB := bB1.cell
    obtain ⟨cX0, cX1⟩ := bX.cells
    have hsW := hB1.size
    have hx := x.ok
    have hlE := ensV_length (l := pre.map OkEn.en) (okEns_ok pre)
    rw [List.length_map] at hlE
    obtain ⟨yo, yc, rfl⟩ := own_slice hr1
    obtain ⟨ht0, ht3⟩ := okE_in hx
    gi_wp2
    refine ⟨trivial, fun _ => by omega, ?_⟩
    refine (CallsIn.inRound l (callsIn_wide.2 (appendEntry' w.heap.size _ _ _ x.en.t x.en.k x.en.v _ ht0 ht3 (keyB_size hx.2.1) (valB_size hx.2.2) (by omega) hr1 hsW))).mono ?_
    rintro e w5 ⟨b5, rfl, hown5, q5, o5⟩
    obtain ⟨bo, bc, rfl⟩ := own_slice hown5
    have bB5 := o5.boxed bB1 (by decide)
    have c5 := bB5.cell
    have f5 := bB5.frozen
    gi_wp2
    refine ⟨(o5.others.trans (KeepsOthers.setCell _ _ _)).from _, q5.setCell (p := ⟨w2.heap.size, 0, none⟩) hs2 _, ⟨_, bB5.set _, ?_, trivial⟩, (hB1.trans q5).setCell (p := ⟨w2.heap.size, 0, none⟩) hs2 _⟩
    rw [List.map_append, List.map_singleton, ensV_snoc, List.length_append, ← List.append_assoc, ← Nat.add_assoc]
    exact hown5.kept (grownBy_setCell' w5 w2.heap.size _) (.inr (bB5.not_row (by decide) hown5).symm)
  case done =>
    rintro D ys W hD rfl ⟨⟨y, bB1, hr1, _⟩, hB⟩ hK
    have cB := bB1.cell
    obtain ⟨yo, yc, rfl⟩ := own_slice hr1
    have el : (staV v (ys.map OkEn.en)).length = 10 + (ensV (ys.map OkEn.en)).length := by simp [staV, beV_length]; omega
    have es : staV v (ys.map OkEn.en) = beV v 8 ++ beV (ys.length : Int) 2 ++ ensV (ys.map OkEn.en) := by simp [staV]
    gi_wp2
    refine ⟨by simp, .inl ⟨_, _, rfl, run_takeDeferred hK, ?_⟩⟩
    refine ⟨_, results_tmp2 rfl _ _ _, _, rfl, ?_, hB.trans (belowK_b (w := w) (Nat.le_refl _) W D _ _ (by omega) hK rfl rfl)⟩
    rw [el, es]
    exact ownsRow_putObj hr1 _ hK rfl
  case stop =>
    rintro D c pre W _ _ h _
    exact h.elim
theorem wEncodeAll_ok (v : Int) (x : Value) (es : List En) (hv : verB v = true) (h0 : 0 ≤ v) (hlen : es.length ≤ 1000000) (hok : Ok es) (w : World) (hI : EnsIn w x es) :
    Calls Tryz.prog 77 #[.int .u64 v, x] w fun e W' => ∃ b, e = .returned (.tuple #[b, .nilIface]) ∧ W'.ownsRow w.heap.size 5 1 b (staV v es).length (staV v es) ∧ Below w.heap.size w W' := by
  obtain ⟨a, cap, rfl⟩ : ∃ a cap, x = .slice a es.length cap := by rcases hI with ⟨rfl, rfl⟩ | ⟨b, off, cap, rfl, _⟩ <;> exact ⟨_, _, rfl⟩
  exact (callsIn_wide (n := 4)).1 (wEncodeAll_in 4 (by omega) v a cap es hv h0 hlen hok w hI)
end Go.Proofs.YtokckapacdpgaaaGreatDoor
