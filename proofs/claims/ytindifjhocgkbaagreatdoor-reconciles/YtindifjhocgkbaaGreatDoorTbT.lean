import Derived.Test.YtindifjhocgkbaaGreatDoorRmGToItC
import Derived.Test.YtindifjhocgkbaaGreatDoorRmHToByt
import Derived.Test.YtindifjhocgkbaaGreatDoorEncA
import Derived.Test.YtindifjhocgkbaaGreatDoorDecA
import Derived.Test.YtindifjhocgkbaaGreatDoorBitToLng
import Derived.Test.YtindifjhocgkbaaGreatDoorStL
namespace Go.Proofs.YtindifjhocgkbaaGreatDoor
open Go.RowKit Go.Shelf

attribute [local go_sem] Oper.semAt_some

/-- How many entries a table has. -/
def cntT (t : Int) (es : List En) : Nat := (es.filter (fun e => decide (e.t = t))).length
theorem cntT_snoc (t : Int) (pre : List En) (x : En) : cntT t (pre ++ [x]) = cntT t pre + (if x.t = t then 1 else 0) := by
  unfold cntT
  rw [List.filter_append, List.length_append]
  by_cases h : x.t = t <;> simp [h]
theorem cntT_le (t : Int) (es : List En) : cntT t es ≤ es.length := List.length_filter_le _ _

set_option maxRecDepth 100000 in
set_option maxHeartbeats 2000000 in
theorem lCount_in (n : Nat) (hn : 3 ≤ n) (a : Option Addr) (len cap : Nat) (t : Int) (es : List En) (hlen : es.length ≤ 1000000) (w : World) (hI : EnsIn w (.slice a len cap) es) :
    CallsIn Fence.wide n Tryz.prog 101 #[.slice a len cap, .int .i64 t] w fun e W' => e = .returned (.int .i64 (cntT t es : Int)) ∧ Below w.heap.size w W' := by
  have hn1 : 1 ≤ n := by omega
  refine callsIn_of_wp_marks Tryz.func101 rfl trivial ?_ rfl
  simp only [Tryz.ntmps101, List.size_toArray, List.length_cons, List.length_nil, Nat.reduceAdd, Nat.reduceSub, Array.replicate_succ, Array.replicate_zero, List.push_toArray, List.append_toArray, List.nil_append, List.cons_append]
  gi_wp2
  refine ⟨trivial, ?_⟩
  refine (all_in Fence.wide (n - 1) trivial rfl _ _ _ _).mono ?_
  rintro e w' ⟨rfl, rfl⟩
  have bT := ((Boxed.new w 3 (.int .i64 t)).alloc (.cells #[.int .i64 0] 3)).alloc (.cells #[.slice a len cap] 112)
  have bN := (Boxed.new (w.alloc (.cells #[.int .i64 t] 3)) 3 (.int .i64 0)).alloc (.cells #[.slice a len cap] 112)
  have bL := Boxed.new ((w.alloc (.cells #[.int .i64 t] 3)).alloc (.cells #[.int .i64 0] 3)) 112 (.slice a len cap)
  simp only [World.size_alloc] at bN bL
  have hB0 : Below w.heap.size w (((w.alloc (.cells #[.int .i64 t] 3)).alloc (.cells #[.int .i64 0] 3)).alloc (.cells #[.slice a len cap] 112)) := below_trans (below_trans (below_alloc _ _) (below_alloc _ _)) (below_alloc _ _)
  have hsz : (((w.alloc (.cells #[.int .i64 t] 3)).alloc (.cells #[.int .i64 0] 3)).alloc (.cells #[.slice a len cap] 112)).heap.size = w.heap.size + 3 := by simp
  gi_wp2
  obtain ⟨W0, hW0⟩ : ∃ W0, ((w.alloc (.cells #[.int .i64 t] 3)).alloc (.cells #[.int .i64 0] 3)).alloc (.cells #[.slice a len cap] 112) = W0 := ⟨_, rfl⟩
  rw [hW0] at bT bN bL hB0 hsz ⊢
  clear hW0
  refine wpIn_rangeFunc_ownH rfl hn1 (gf := 107) (lb := #[.pointer (some ⟨w.heap.size + 1 + 1, 0, none⟩)]) rfl trivial (enters_of Tryz.func107 (by kernel_rfl) rfl)
    (all_stops Fence.wide (n - 1) trivial rfl (by omega) (w.heap.size + 1 + 1) w.heap.size _ es hlen W0 (by omega) (by omega) bL.cell ((EnsBelow.of hI).keep hB0)) belowK_t (belowK_b (by omega)) (Below.refl _ _) (fun _ => rfl)
    (fun pre W => (Boxed W (w.heap.size + 1) 3 (.int .i64 (cntT t pre : Int)) ∧ Boxed W w.heap.size 3 (.int .i64 t)) ∧ Below w.heap.size w W)
    (fun _ _ _ => False)
    (OwnFrom.and (OwnFrom.and (Own.from (boxed_own _ _ _) _) (Own.from (boxed_own _ _ _) _)) (ownFrom_below (Nat.le_refl _) (by omega)))
    (fun _ _ _ _ _ hs _ _ => hs)
    ⟨⟨bN, bT⟩, hB0⟩
    (fun x a' W => ∃ Bx, w.heap.size + 1 < Bx ∧ KBox W Bx x ∧ a' = { tmps := #[.slice a len cap, .int .i64 t, undef, .pointer (some ⟨w.heap.size, 0, none⟩), .int .i64 0, .pointer (some ⟨w.heap.size + 1, 0, none⟩), .pointer (some ⟨Bx, 0, none⟩), .slice a len cap, .func (.func 107) #[] #[.pointer (some ⟨w.heap.size + 1 + 1, 0, none⟩)], .agg #[.int .i64 x.t, .string x.k], .string x.v, undef, undef, undef, undef, undef, undef, undef], defers := [] })
    (fun x a' _ X Y row hs hg hr => by obtain ⟨Bx, h1, h2, h3⟩ := hs; exact ⟨Bx, h1, h2.own hg (fun r e => (hr r e).2), h3⟩)
    ?assign ?body ?done ?stop
  case assign =>
    rintro l pre x W K ⟨⟨bN1, bT1⟩, hB1⟩ hK
    gi_wp2
    exact hK _ _ ((KeepsOthers.alloc _ _).from _) ((Below.refl _ W).alloc hB1.size _) ⟨⟨bN1.alloc _, bT1.alloc _⟩, hB1.alloc hB1.size _⟩ ⟨W.heap.size, bN1.lt, heap_alloc_new _ _, rfl⟩
  case body =>
    rintro l pre x a' W hl _ ⟨⟨bN1, bT1⟩, hB1⟩ ⟨Bx, hBx, bX, rfl⟩ hlt
    have cN := bN1.cell
    have fN := bN1.frozen
    have cT := bT1.cell
    obtain ⟨cX0, cX1⟩ := bX.cells
    have hle := cntT_le t pre
    have hwr : IntKind.i64.wrap ((cntT t pre : Int) + 1) = ((cntT t pre + 1 : Nat) : Int) := by simp [IntKind.wrap, IntKind.bits, IntKind.signed]; omega
    have hsn := cntT_snoc t pre x
    by_cases hx : x.t = t
    · rw [if_pos hx] at hsn
      have HSN : Hid (cntT t (pre ++ [x]) = cntT t pre + 1) := hsn
      clear hsn
      rw [hx] at cX0
      clear hx
      gi_wp2
      exact ⟨(KeepsOthers.setCell _ _ _).from _, (Below.refl _ W).setCell (p := ⟨w.heap.size + 1, 0, none⟩) (by simp) _, ⟨by rw [HSN.out]; exact bN1.set _, bT1.other (by omega) _⟩, hB1.setCell (p := ⟨w.heap.size + 1, 0, none⟩) (by simp) _⟩
    · rw [if_neg hx] at hsn
      have HSN : Hid (cntT t (pre ++ [x]) = cntT t pre) := hsn
      clear hsn
      have hxb : (x.t == t) = false := by simpa using hx
      gi_wp2
      exact ⟨(KeepsOthers.refl _).from _, Below.refl _ W, ⟨by rw [HSN.out]; exact bN1, bT1⟩, hB1⟩
  case done =>
    rintro D ys W hD rfl ⟨⟨bN1, bT1⟩, hB⟩ hK
    have cN := bN1.cell
    gi_wp2
    refine ⟨by simp, .inl ⟨_, _, rfl, run_takeDeferred hK, ?_⟩⟩
    exact ⟨_, results_tmp rfl _ _ _, rfl, hB.trans (belowK_b (w := w) (Nat.le_refl _) W D _ _ (by omega) hK rfl rfl)⟩
  case stop =>
    rintro D c pre W _ _ h _
    exact h.elim
attribute [local go_sem] undef
/-- A rule that speaks of a protocol. -/
def hitA (p : Int) (e : En) : Bool := decide (e.t = 2) && (decide (bt e.v 0 = 0) || decide (bt e.v 0 = p))
/-- What the first rule for a protocol says. -/
def aclL (p : Int) (es : List En) : Option Int := (es.find? (hitA p)).map (fun e => bt e.v 1)
theorem aclL_none {p : Int} {es : List En} (h : ∀ y ∈ es, hitA p y = false) : aclL p es = none := by
  unfold aclL
  rw [List.find?_eq_none.2 (fun y hy => by rw [h y hy]; simp)]
  rfl
theorem aclL_some {p : Int} {es m : List En} {x : En} {k : Nat} (hk : es.take k = m ++ [x]) (h : ∀ y ∈ m, hitA p y = false) (hx : hitA p x = true) : aclL p es = some (bt x.v 1) := by
  have e : es = m ++ x :: es.drop k := by rw [show m ++ x :: es.drop k = (m ++ [x]) ++ es.drop k by simp, ← hk, List.take_append_drop]
  unfold aclL
  rw [e, List.find?_append, List.find?_eq_none.2 (fun y hy => by rw [h y hy]; simp), List.find?_cons, hx]
  rfl
set_option maxRecDepth 100000 in
set_option maxHeartbeats 4000000 in
theorem lAcl_in (n : Nat) (hn : 3 ≤ n) (a : Option Addr) (cap : Nat) (t : Int) (es : List En) (hok : Ok es) (hlen : es.length ≤ 1000000) (w : World) (hI : EnsIn w (.slice a es.length cap) es) :
    CallsIn Fence.wide n Tryz.prog 104 #[.slice a es.length cap, .int .i64 t] w fun e W' => e = .returned (.tuple #[.int .i64 ((aclL t es).getD 0), .bool (aclL t es).isSome]) ∧ Below w.heap.size w W' := by
  have hn1 : 1 ≤ n := by omega
  obtain ⟨fs, rfl⟩ := okEns hok
  rw [List.length_map] at *
  refine callsIn_of_wp_marks Tryz.func104 rfl trivial ?_ rfl
  simp only [Tryz.ntmps104, List.size_toArray, List.length_cons, List.length_nil, Nat.reduceAdd, Nat.reduceSub, Array.replicate_succ, Array.replicate_zero, List.push_toArray, List.append_toArray, List.nil_append, List.cons_append]
  gi_wp2
  refine ⟨trivial, ?_⟩
  refine (all_in Fence.wide (n - 1) trivial rfl _ _ _ _).mono ?_
  rintro e w' ⟨rfl, rfl⟩
  have bT := (((Boxed.new w 3 (.int .i64 t)).alloc (.cells #[.int .i64 0] 3)).alloc (.cells #[.bool false] 4)).alloc (.cells #[.slice a fs.length cap] 112)
  have bR := ((Boxed.new (w.alloc (.cells #[.int .i64 t] 3)) 3 (.int .i64 0)).alloc (.cells #[.bool false] 4)).alloc (.cells #[.slice a fs.length cap] 112)
  have bB := (Boxed.new ((w.alloc (.cells #[.int .i64 t] 3)).alloc (.cells #[.int .i64 0] 3)) 4 (.bool false)).alloc (.cells #[.slice a fs.length cap] 112)
  have bL := Boxed.new (((w.alloc (.cells #[.int .i64 t] 3)).alloc (.cells #[.int .i64 0] 3)).alloc (.cells #[.bool false] 4)) 112 (.slice a fs.length cap)
  simp only [World.size_alloc] at bR bB bL
  have hB0 : Below w.heap.size w ((((w.alloc (.cells #[.int .i64 t] 3)).alloc (.cells #[.int .i64 0] 3)).alloc (.cells #[.bool false] 4)).alloc (.cells #[.slice a fs.length cap] 112)) := below_trans (below_trans (below_trans (below_alloc _ _) (below_alloc _ _)) (below_alloc _ _)) (below_alloc _ _)
  have hsz : ((((w.alloc (.cells #[.int .i64 t] 3)).alloc (.cells #[.int .i64 0] 3)).alloc (.cells #[.bool false] 4)).alloc (.cells #[.slice a fs.length cap] 112)).heap.size = w.heap.size + 4 := by simp
  gi_wp2
  obtain ⟨W0, hW0⟩ : ∃ W0, (((w.alloc (.cells #[.int .i64 t] 3)).alloc (.cells #[.int .i64 0] 3)).alloc (.cells #[.bool false] 4)).alloc (.cells #[.slice a fs.length cap] 112) = W0 := ⟨_, rfl⟩
  rw [hW0] at bT bR bB bL hB0 hsz ⊢
  clear hW0
  refine wpIn_rangeFunc_ownH rfl hn1 (gf := 107) (lb := #[.pointer (some ⟨w.heap.size + 1 + 1 + 1, 0, none⟩)]) rfl trivial (enters_of Tryz.func107 (by kernel_rfl) rfl)
    (all_stopsF OkEn.en Fence.wide (n - 1) trivial rfl (by omega) (w.heap.size + 1 + 1 + 1) w.heap.size _ fs hlen W0 (by omega) (by omega) bL.cell ((EnsBelow.of hI).keep hB0)) belowK_t (belowK_b (by omega)) (Below.refl _ _) (fun _ => rfl)
    (fun pre W => ((∀ y ∈ pre.map OkEn.en, hitA t y = false) ∧ (Boxed W (w.heap.size + 1) 3 (.int .i64 0) ∧ Boxed W (w.heap.size + 1 + 1) 4 (.bool false) ∧ Boxed W w.heap.size 3 (.int .i64 t))) ∧ Below w.heap.size w W)
    (fun c pre W => (c = .ret ∧ ∃ m x, pre.map OkEn.en = m ++ [x] ∧ (∀ y ∈ m, hitA t y = false) ∧ hitA t x = true ∧ Boxed W (w.heap.size + 1) 3 (.int .i64 (bt x.v 1)) ∧ Boxed W (w.heap.size + 1 + 1) 4 (.bool true)) ∧ Below w.heap.size w W)
    ?own ?ownx
    ⟨⟨by simp, bR, bB, bT⟩, hB0⟩
    (fun x a' W => ∃ Bx, w.heap.size + 1 + 1 < Bx ∧ KBox W Bx x.en ∧ a' = { tmps := #[.slice a fs.length cap, .int .i64 t, undef, .pointer (some ⟨w.heap.size, 0, none⟩), .pointer (some ⟨w.heap.size + 1, 0, none⟩), .pointer (some ⟨w.heap.size + 1 + 1, 0, none⟩), .pointer (some ⟨Bx, 0, none⟩), .string x.en.v, .slice a fs.length cap, .func (.func 107) #[] #[.pointer (some ⟨w.heap.size + 1 + 1 + 1, 0, none⟩)], .agg #[.int .i64 x.en.t, .string x.en.k], .string x.en.v, undef, undef, undef, undef, undef, undef, undef, undef, undef, undef, undef, undef, undef, undef, undef, undef, undef, undef], defers := [] })
    (fun x a' _ X Y row hs hg hr => by obtain ⟨Bx, h1, h2, h3⟩ := hs; exact ⟨Bx, h1, h2.own hg (fun r e => (hr r e).2), h3⟩)
    ?assign ?body ?done ?stop
  case own =>
    refine OwnFrom.and ?_ (ownFrom_below (Nat.le_refl _) (by omega))
    rintro s X Y row ⟨h1, h2, h3, h4⟩ hg hr
    have o := fun (B : Nat) (ty : TypeId) (v : Value) (hb : Boxed X B ty v) => Own.from (boxed_own B ty (fun _ : Unit => v)) W0.heap.size () X Y row hb hg hr
    exact ⟨h1, o _ _ _ h2, o _ _ _ h3, o _ _ _ h4⟩
  case ownx =>
    intro c
    refine OwnFrom.and ?_ (ownFrom_below (Nat.le_refl _) (by omega))
    rintro s X Y row ⟨h0, m, x, h1, h2, h3, h4, h5⟩ hg hr
    have o := fun (B : Nat) (ty : TypeId) (v : Value) (hb : Boxed X B ty v) => Own.from (boxed_own B ty (fun _ : Unit => v)) W0.heap.size () X Y row hb hg hr
    exact ⟨h0, m, x, h1, h2, h3, o _ _ _ h4, o _ _ _ h5⟩
  case assign =>
    rintro l pre x W K ⟨⟨h1, bR1, bB1, bT1⟩, hB1⟩ hK
    gi_wp2
    exact hK _ _ ((KeepsOthers.alloc _ _).from _) ((Below.refl _ W).alloc hB1.size _) ⟨⟨h1, bR1.alloc _, bB1.alloc _, bT1.alloc _⟩, hB1.alloc hB1.size _⟩ ⟨W.heap.size, bB1.lt, heap_alloc_new _ _, rfl⟩
  case body =>
    rintro l pre x a' W hl _ ⟨⟨h1, bR1, bB1, bT1⟩, hB1⟩ ⟨Bx, hBx, bX, rfl⟩ hlt
    have cR := bR1.cell
    have fR := bR1.frozen
    have cB := bB1.cell
    have fB := bB1.frozen
    have cT := bT1.cell
    obtain ⟨cX0, cX1⟩ := bX.cells
    have hx := x.ok
    have HP : Hid (∀ y ∈ pre.map OkEn.en, hitA t y = false) := h1
    clear h1
    have HM : Hid ((pre ++ [x]).map OkEn.en = pre.map OkEn.en ++ [x.en]) := by show _ = _; simp
    generalize x.en = X at *
    have hno : hitA t X = false → ∀ y ∈ (pre ++ [x]).map OkEn.en, hitA t y = false := fun h y hy => by
      rw [HM.out] at hy
      rcases List.mem_append.1 hy with hy | hy
      · exact HP.out y hy
      · obtain rfl : y = X := by simpa using hy
        exact h
    have HNO := (show Hid _ from hno)
    clear hno
    have hv2 : 2 ≤ X.v.size := by
      have h := valB_is (okE_in hx).1 (okE_in hx).2 hx.2.2
      have h9 := vbN_bd X.t
      omega
    have i0 : 0 < X.v.size := by omega
    have i1 : 1 < X.v.size := by omega
    have t0 : ((X.v[0]'i0).toNat : Int) = bt X.v 0 := bt_eq i0
    have t1 : ((X.v[1]'i1).toNat : Int) = bt X.v 1 := bt_eq i1
    have j0 : (0 : Int) < (X.v.size : Int) := by omega
    have j1 : (1 : Int) < (X.v.size : Int) := by omega
    have u0 := bt_lo X.v 0
    have u1 := bt_lo X.v 1
    have hw0 : IntKind.i64.wrap (bt X.v 0) = bt X.v 0 := by simp [IntKind.wrap, IntKind.bits, IntKind.signed]; omega
    have hw1 : IntKind.i64.wrap (bt X.v 1) = bt X.v 1 := by simp [IntKind.wrap, IntKind.bits, IntKind.signed]; omega
    have hmix : Tryz.prog.follows .mixedOrders = true := by kernel_rfl
    by_cases h2 : X.t = 2
    · rw [h2] at cX0
      by_cases h3 : bt X.v 0 = 0
      · have HH : Hid (hitA t X = true) := by show _ = _; simp [hitA, h2, h3]
        rw [h3] at t0
        clear h2 h3 hx hv2
        gi_wp2
        gi_region_with_o (fail)
        all_goals
          gi_wp2
          exact ⟨(((KeepsOthers.drew W).trans (KeepsOthers.setCell _ _ _)).trans (KeepsOthers.setCell _ _ _)).from _, ⟨rfl, pre.map OkEn.en, X, HM.out, HP.out, HH.out, ((show Boxed W.drew _ _ _ from bR1).set _).other (by omega) _, ((show Boxed W.drew _ _ _ from bB1).other (by omega) _).set _⟩, (hB1.drew.setCell (p := ⟨w.heap.size + 1, 0, none⟩) (by simp) _).setCell (p := ⟨w.heap.size + 1 + 1, 0, none⟩) (by simp; omega) _⟩
      · have h3b : (bt X.v 0 == 0) = false := by simpa using h3
        by_cases h4 : bt X.v 0 = t
        · have HH : Hid (hitA t X = true) := by show _ = _; simp [hitA, h2, h4]
          have h4b : (bt X.v 0 == t) = true := by simpa using h4
          clear h2 h4 hx hv2
          gi_wp2
          gi_region_with_o (fail)
          all_goals
            gi_wp2
            exact ⟨(((KeepsOthers.drew W).trans (KeepsOthers.setCell _ _ _)).trans (KeepsOthers.setCell _ _ _)).from _, ⟨rfl, pre.map OkEn.en, X, HM.out, HP.out, HH.out, ((show Boxed W.drew _ _ _ from bR1).set _).other (by omega) _, ((show Boxed W.drew _ _ _ from bB1).other (by omega) _).set _⟩, (hB1.drew.setCell (p := ⟨w.heap.size + 1, 0, none⟩) (by simp) _).setCell (p := ⟨w.heap.size + 1 + 1, 0, none⟩) (by simp; omega) _⟩
        · have HH : Hid (hitA t X = false) := by show _ = _; simp [hitA, h3, h4]
          have h4b : (bt X.v 0 == t) = false := by simpa using h4
          clear h2 hx hv2
          gi_wp2
          gi_region_with_o (fail)
          all_goals
            gi_wp2
            exact ⟨(KeepsOthers.drew W).from _, (Below.refl _ W).drew, ⟨HNO.out HH.out, bR1, bB1, bT1⟩, hB1.drew⟩
    · have HH : Hid (hitA t X = false) := by show _ = _; simp [hitA, h2]
      have h2b : (X.t == 2) = false := by simpa using h2
      gi_wp2
      gi_region_with_o (fail)
      all_goals
        gi_wp2
        exact ⟨(KeepsOthers.drew W).from _, (Below.refl _ W).drew, ⟨HNO.out HH.out, bR1, bB1, bT1⟩, hB1.drew⟩
  case done =>
    rintro D ys W hD rfl ⟨⟨h1, bR1, bB1, bT1⟩, hB⟩ hK
    have cR := bR1.cell
    have fR := bR1.frozen
    have cB := bB1.cell
    have fB := bB1.frozen
    have HA : Hid (aclL t (ys.map OkEn.en) = none) := aclL_none h1
    clear h1
    gi_wp2
    have hK' := ((KeepsOthers.setCell W ⟨w.heap.size + 1, 0, none⟩ (.int .i64 0)).trans (KeepsOthers.setCell _ ⟨w.heap.size + 1 + 1, 0, none⟩ (.bool false))).same D _ hK rfl
    have c0 := cell_kept (((bR1.set (.int .i64 0)).other (B' := w.heap.size + 1 + 1) (by omega) (.bool false)).cell) (grownBy_putObj' _ D (.deferred none)) (fun r e => by cases e; exact ⟨_, hK', rfl⟩)
    have c1 := cell_kept (((bB1.other (B' := w.heap.size + 1) (by omega) (.int .i64 0)).set (.bool false)).cell) (grownBy_putObj' _ D (.deferred none)) (fun r e => by cases e; exact ⟨_, hK', rfl⟩)
    refine ⟨by simp, .inl ⟨_, _, rfl, run_takeDeferred hK', ?_⟩⟩
    refine ⟨.tuple #[.int .i64 0, .bool false], ?_, by rw [HA.out]; rfl, ((hB.setCell (p := ⟨w.heap.size + 1, 0, none⟩) (by simp) _).setCell (p := ⟨w.heap.size + 1 + 1, 0, none⟩) (by simp; omega) _).trans (belowK_b (w := w) (Nat.le_refl _) _ D _ _ (by omega) hK' rfl rfl)⟩
    simp [results, Tryz.results104, go_sem, c0, c1]
  case stop =>
    rintro D c pre W hD ⟨k, hk, rfl⟩ ⟨⟨rfl, m, x, h1, h2, h3, bR1, bB1⟩, hB⟩ hK
    have HA : Hid (aclL t (fs.map OkEn.en) = some (bt x.v 1)) := aclL_some (k := k) (by rw [← h1, List.map_take]) h2 h3
    have cR := bR1.cell
    have cB := bB1.cell
    have c0 := cell_kept cR (grownBy_putObj' _ D (.deferred none)) (fun r e => by cases e; exact ⟨_, hK, rfl⟩)
    have c1 := cell_kept cB (grownBy_putObj' _ D (.deferred none)) (fun r e => by cases e; exact ⟨_, hK, rfl⟩)
    gi_wp2
    refine ⟨by simp, .inl ⟨_, _, rfl, run_takeDeferred hK, ?_⟩⟩
    refine ⟨.tuple #[.int .i64 (bt x.v 1), .bool true], ?_, by rw [HA.out]; rfl, hB.trans (belowK_b (w := w) (Nat.le_refl _) W D _ _ (by omega) hK rfl rfl)⟩
    simp [results, Tryz.results104, go_sem, c0, c1]
end Go.Proofs.YtindifjhocgkbaaGreatDoor
namespace Go.Proofs.YtindifjhocgkbaaGreatDoor
open Go.RowKit Go.Shelf

theorem lCount (v : Value) (t : Int) (es : List En) (hlen : es.length ≤ 1000000) (w : World) (hI : EnsIn w v es) :
    Calls Tryz.prog 101 #[v, .int .i64 t] w fun e W' => e = .returned (.int .i64 (cntT t es : Int)) ∧ Below w.heap.size w W' := by
  obtain ⟨a, len, cap, rfl⟩ : ∃ a len cap, v = .slice a len cap := by rcases hI with ⟨rfl, _⟩ | ⟨b, off, cap, rfl, _⟩ <;> exact ⟨_, _, _, rfl⟩
  exact (callsIn_wide (n := 3)).1 (lCount_in 3 (by omega) a len cap t es hlen w hI)
theorem lAcl (v : Value) (t : Int) (es : List En) (hok : Ok es) (hlen : es.length ≤ 1000000) (w : World) (hI : EnsIn w v es) :
    Calls Tryz.prog 104 #[v, .int .i64 t] w fun e W' => e = .returned (.tuple #[.int .i64 ((aclL t es).getD 0), .bool (aclL t es).isSome]) ∧ Below w.heap.size w W' := by
  obtain ⟨a, cap, rfl⟩ : ∃ a cap, v = .slice a es.length cap := by rcases hI with ⟨rfl, rfl⟩ | ⟨b, off, cap, rfl, _⟩ <;> exact ⟨_, _, rfl⟩
  exact (callsIn_wide (n := 3)).1 (lAcl_in 3 (by omega) a cap t es hok hlen w hI)
set_option maxHeartbeats 1000000 in
theorem lMac (v : Value) (l : List En) (a : ByteArray) (w : World) (h : EnsIn w v l) (hs : Srt l) (hn : l.length ≤ 1000000) :
    Calls Tryz.prog 102 #[v, .string a] w fun e w' => e = .returned (.tuple #[.string ((got 0 a l).getD ⟨#[]⟩), .bool (got 0 a l).isSome]) ∧ Below w.heap.size w w' := by
  go_enter Tryz.func102, Tryz.ntmps102
  go_wp2_with fail
  refine (lValue v l 0 a _ h hs hn).mono ?_
  rintro e w1 ⟨rfl, q1⟩
  go_wp2
  go_ret2
  exact ⟨rfl, q1⟩
set_option maxHeartbeats 1000000 in
theorem lRoute_no (v : Value) (a : ByteArray) (w : World) (ha : a.size ≠ 4) :
    Calls Tryz.prog 103 #[v, .string a] w fun e w' => e = .returned (.tuple #[.string ⟨#[]⟩, .bool false]) ∧ Below w.heap.size w w' := by
  have hb : ((a.size : Int) != 4) = true := by simp; omega
  go_enter Tryz.func103, Tryz.ntmps103
  go_wp2
  go_ret2
  exact ⟨rfl, Below.refl _ _⟩
set_option maxHeartbeats 1000000 in
theorem tCount (T : Nat) (l : List En) (n : Int) (w : World) (h : TabIs w T l) (hn : l.length ≤ 1000000) :
    Calls Tryz.prog 71 #[.pointer (some ⟨T, 0, none⟩), .int .i64 n] w fun e w' => e = .returned (.int .i64 (cntT n l : Int)) ∧ Below w.heap.size w w' := by
  obtain ⟨v, hb, ho⟩ := h.blk
  have tc : w.cell? ⟨T, 0, none⟩ = some v := by simp [World.cell?, hb]
  go_enter Tryz.func71, Tryz.ntmps71
  go_wp2_with fail
  refine (lCount v n l hn _ (EnsIn.of_owns ho)).mono ?_
  rintro e w1 ⟨rfl, q1⟩
  go_wp2
  go_ret
  exact ⟨rfl, q1⟩
set_option maxHeartbeats 1000000 in
theorem fCount (F T : Nat) (l : List En) (n : Int) (w : World) (hF : w.cell? ⟨F, 0, none⟩ = some (.pointer (some ⟨T, 0, none⟩))) (h : TabIs w T l) (hn : l.length ≤ 1000000) :
    Calls Tryz.prog 41 #[.pointer (some ⟨F, 0, none⟩), .int .i64 n] w fun e w' => e = .returned (.int .i64 (cntT n l : Int)) ∧ Below w.heap.size w w' := by
  go_enter Tryz.func41, Tryz.ntmps41
  go_wp2_with fail
  refine (tCount T l n _ h hn).mono ?_
  rintro e w1 ⟨rfl, q1⟩
  go_wp2
  go_ret
  exact ⟨rfl, q1⟩
set_option maxHeartbeats 1000000 in
theorem tAcl (T : Nat) (l : List En) (n : Int) (w : World) (h : TabIs w T l) (hok : Ok l) (hn : l.length ≤ 1000000) :
    Calls Tryz.prog 75 #[.pointer (some ⟨T, 0, none⟩), .int .i64 n] w fun e w' => e = .returned (.tuple #[.int .i64 ((aclL n l).getD 0), .bool (aclL n l).isSome]) ∧ Below w.heap.size w w' := by
  obtain ⟨v, hb, ho⟩ := h.blk
  have tc : w.cell? ⟨T, 0, none⟩ = some v := by simp [World.cell?, hb]
  go_enter Tryz.func75, Tryz.ntmps75
  go_wp2_with fail
  refine (lAcl v n l hok hn _ (EnsIn.of_owns ho)).mono ?_
  rintro e w1 ⟨rfl, q1⟩
  go_wp2
  go_ret2
  exact ⟨rfl, q1⟩
set_option maxHeartbeats 1000000 in
theorem fAcl (F T : Nat) (l : List En) (n : Int) (w : World) (hF : w.cell? ⟨F, 0, none⟩ = some (.pointer (some ⟨T, 0, none⟩))) (h : TabIs w T l) (hok : Ok l) (hn : l.length ≤ 1000000) :
    Calls Tryz.prog 47 #[.pointer (some ⟨F, 0, none⟩), .int .i64 n] w fun e w' => e = .returned (.tuple #[.int .i64 ((aclL n l).getD 0), .bool (aclL n l).isSome]) ∧ Below w.heap.size w w' := by
  go_enter Tryz.func47, Tryz.ntmps47
  go_wp2_with fail
  refine (tAcl T l n _ h hok hn).mono ?_
  rintro e w1 ⟨rfl, q1⟩
  go_wp2
  go_ret2
  exact ⟨rfl, q1⟩
set_option maxHeartbeats 1000000 in
theorem tMac (T : Nat) (l : List En) (a : ByteArray) (w : World) (h : TabIs w T l) (hs : Srt l) (hn : l.length ≤ 1000000) :
    Calls Tryz.prog 72 #[.pointer (some ⟨T, 0, none⟩), .string a] w fun e w' => e = .returned (.tuple #[.string ((got 0 a l).getD ⟨#[]⟩), .bool (got 0 a l).isSome]) ∧ Below w.heap.size w w' := by
  obtain ⟨v, hb, ho⟩ := h.blk
  have tc : w.cell? ⟨T, 0, none⟩ = some v := by simp [World.cell?, hb]
  go_enter Tryz.func72, Tryz.ntmps72
  go_wp2_with fail
  refine (lMac v l a _ (EnsIn.of_owns ho) hs hn).mono ?_
  rintro e w1 ⟨rfl, q1⟩
  go_wp2
  go_ret2
  exact ⟨rfl, q1⟩
set_option maxHeartbeats 1000000 in
theorem fMac (F T : Nat) (l : List En) (a : ByteArray) (w : World) (hF : w.cell? ⟨F, 0, none⟩ = some (.pointer (some ⟨T, 0, none⟩))) (h : TabIs w T l) (hs : Srt l) (hn : l.length ≤ 1000000) :
    Calls Tryz.prog 43 #[.pointer (some ⟨F, 0, none⟩), .string a] w fun e w' => e = .returned (.tuple #[.string ((got 0 a l).getD ⟨#[]⟩), .bool (got 0 a l).isSome]) ∧ Below w.heap.size w w' := by
  go_enter Tryz.func43, Tryz.ntmps43
  go_wp2_with fail
  refine (tMac T l a _ h hs hn).mono ?_
  rintro e w1 ⟨rfl, q1⟩
  go_wp2
  go_ret2
  exact ⟨rfl, q1⟩
set_option maxHeartbeats 1000000 in
theorem tRoute_no (T : Nat) (l : List En) (a : ByteArray) (w : World) (h : TabIs w T l) (ha : a.size ≠ 4) :
    Calls Tryz.prog 73 #[.pointer (some ⟨T, 0, none⟩), .string a] w fun e w' => e = .returned (.tuple #[.string ⟨#[]⟩, .bool false]) ∧ Below w.heap.size w w' := by
  obtain ⟨v, hb, ho⟩ := h.blk
  have tc : w.cell? ⟨T, 0, none⟩ = some v := by simp [World.cell?, hb]
  go_enter Tryz.func73, Tryz.ntmps73
  go_wp2_with fail
  refine (lRoute_no v a _ ha).mono ?_
  rintro e w1 ⟨rfl, q1⟩
  go_wp2
  go_ret2
  exact ⟨rfl, q1⟩
set_option maxHeartbeats 1000000 in
theorem fRoute_no (F T : Nat) (l : List En) (a : ByteArray) (w : World) (hF : w.cell? ⟨F, 0, none⟩ = some (.pointer (some ⟨T, 0, none⟩))) (h : TabIs w T l) (ha : a.size ≠ 4) :
    Calls Tryz.prog 45 #[.pointer (some ⟨F, 0, none⟩), .string a] w fun e w' => e = .returned (.tuple #[.string ⟨#[]⟩, .bool false]) ∧ Below w.heap.size w w' := by
  go_enter Tryz.func45, Tryz.ntmps45
  go_wp2_with fail
  refine (tRoute_no T l a _ h ha).mono ?_
  rintro e w1 ⟨rfl, q1⟩
  go_wp2
  go_ret2
  exact ⟨rfl, q1⟩
/-- What Route answers. -/
def rtL (a : ByteArray) (l : List En) : Option ByteArray := if a.size = 4 then rtTo a l 32 else none
theorem fRouteL (F T : Nat) (l : List En) (a : ByteArray) (w : World) (hF : w.cell? ⟨F, 0, none⟩ = some (.pointer (some ⟨T, 0, none⟩))) (h : TabIs w T l) (hs : Srt l) (hn : l.length ≤ 1000000) :
    Calls Tryz.prog 45 #[.pointer (some ⟨F, 0, none⟩), .string a] w fun e w' => e = .returned (.tuple #[.string ((rtL a l).getD ⟨#[]⟩), .bool (rtL a l).isSome]) ∧ Below w.heap.size w w' := by
  by_cases ha : a.size = 4
  · unfold rtL; rw [if_pos ha]; exact fRoute F T l a w hF h hs hn ha
  · unfold rtL; rw [if_neg ha]; exact fRoute_no F T l a w hF h ha
end Go.Proofs.YtindifjhocgkbaaGreatDoor
namespace Go.Proofs.YtindifjhocgkbaaGreatDoor
open Go.RowKit

/-- One step of a loop over a list's entries: the entry's cells. -/
theorem EnsIn.at {w wr : World} {v : Value} {l : List En} (h : EnsIn w v l) (q : Below w.heap.size w wr) {j : Nat} (hj : j < l.length) : ∃ b off cap, v = .slice (some ⟨b, off, none⟩) l.length cap ∧ wr.cell? ⟨b, off + j * 3, none⟩ = some (.int .i64 l[j].t) ∧ wr.cell? ⟨b, off + j * 3 + 1, none⟩ = some (.string l[j].k) ∧ wr.cell? ⟨b, off + j * 3 + 2, none⟩ = some (.string l[j].v) := by
  rcases h with ⟨_, rfl⟩ | ⟨b, off, cap, rfl, hb, hc⟩
  · simp at hj
  · exact ⟨b, off, cap, rfl, (hc.keep hb q).c0 j hj, (hc.keep hb q).c1 j hj, (hc.keep hb q).c2 j hj⟩
theorem cntT_take (t : Int) (l : List En) (j : Nat) (h : j < l.length) : cntT t (l.take (j + 1)) = cntT t (l.take j) + (if l[j].t = t then 1 else 0) := by
  rw [List.take_succ_eq_append_getElem h, cntT_snoc]

theorem ba_neq' {a b : ByteArray} (h : ¬ a = b) : (a.toList == b.toList) = false := by
  rw [ByteArray.toList_eq, ByteArray.toList_eq, beq_eq_false_iff_ne]
  exact fun e => h (ba_ext' e)
set_option maxRecDepth 10000 in
set_option maxHeartbeats 1000000 in
theorem rCount (v : Value) (t : Int) (l : List En) (w : World) (hI : EnsIn w v l) (hn : l.length ≤ 1000000) :
    Calls Tryz.prog 42 #[v, .int .i64 t] w fun e w' => e = .returned (.int .i64 (cntT t l : Int)) ∧ Below w.heap.size w w' := by
  obtain ⟨ao, cp, rfl⟩ := hI.slice
  go_enter Tryz.func42, Tryz.ntmps42
  go_wp2_with fail
  go_loopw [5, 6] (fun n i wr => ∃ j : Nat, j ≤ l.length ∧ i = .int .i64 j ∧ n = .int .i64 (cntT t (l.take j) : Int) ∧ Below w.heap.size w wr)
    (fun _ i _ => l.length - (intOf i).toNat)
  case atStart => exact ⟨0, Nat.zero_le _, rfl, rfl, Below.refl _ _⟩
  case round =>
    obtain ⟨j, hj, rfl, rfl, hq⟩ := hrel
    by_cases hlt : j < l.length
    · obtain ⟨b, off, cap, hv, d0, d1, d2⟩ := hI.at hq hlt
      simp only [Value.slice.injEq] at hv
      obtain ⟨rfl, _, rfl⟩ := hv
      have il : ((j : Nat) : Int) < (l.length : Int) := by omega
      have hct := cntT_take t l j hlt
      have hle := cntT_le t (l.take j)
      simp only [List.length_take] at hle
      have HCT : Hid (cntT t (l.take (j + 1)) = cntT t (l.take j) + (if l[j].t = t then 1 else 0)) := hct
      clear hct
      generalize l[j] = X at *
      generalize cntT t (l.take j) = N at *
      have hle2 : (N : Int) ≤ 1000000 := by omega
      by_cases hx : X.t = t
      · have HC2 : Hid (cntT t (l.take (j + 1)) = N + 1) := by show _ = _; rw [HCT.out, if_pos hx]
        rw [hx] at d0
        clear hx
        go_wp2_with fail
        go_roundw
        case rel => exact ⟨j + 1, by omega, by go_num, by rw [HC2.out]; go_num, hq⟩
        case measure => simp [intOf]; omega
      · have HC2 : Hid (cntT t (l.take (j + 1)) = N) := by show _ = _; rw [HCT.out, if_neg hx]; rfl
        have hxb : (X.t == t) = false := by simpa using hx
        go_wp2_with fail
        go_roundw
        case rel => exact ⟨j + 1, by omega, by go_num, by rw [HC2.out], hq⟩
        case measure => simp [intOf]; omega
    · obtain rfl : j = l.length := by omega
      rw [List.take_length]
      go_wp2
      go_ret
      exact ⟨rfl, hq⟩
theorem szN_take (l : List En) (j : Nat) (h : j < l.length) (f : List En → Nat) (hf : f = fun l => (l.map (fun e => 1 + e.k.size + e.v.size)).sum) : f (l.take (j + 1)) = f (l.take j) + 1 + l[j].k.size + l[j].v.size := by
  subst hf
  simp only []
  rw [List.take_succ_eq_append_getElem h, List.map_append, List.sum_append]
  simp
  omega
/-- The sum over all entries of 1, and the bytes of key and value. -/
def szN (l : List En) : Nat := (l.map (fun e => 1 + e.k.size + e.v.size)).sum
set_option maxRecDepth 10000 in
set_option maxHeartbeats 1000000 in
theorem rSize (v : Value) (l : List En) (w : World) (hI : EnsIn w v l) (hn : l.length ≤ 1000000) (hok : Ok l) :
    Calls Tryz.prog 40 #[v] w fun e w' => e = .returned (.int .i64 (szN l : Int)) ∧ Below w.heap.size w w' := by
  obtain ⟨ao, cp, rfl⟩ := hI.slice
  go_enter Tryz.func40, Tryz.ntmps40
  go_wp2_with fail
  go_loopw [3, 4] (fun n i wr => ∃ j : Nat, j ≤ l.length ∧ i = .int .i64 j ∧ n = .int .i64 (szN (l.take j) : Int) ∧ szN (l.take j) ≤ j * 11 ∧ Below w.heap.size w wr)
    (fun _ i _ => l.length - (intOf i).toNat)
  case atStart => exact ⟨0, Nat.zero_le _, rfl, rfl, by simp [szN], Below.refl _ _⟩
  case round =>
    obtain ⟨j, hj, rfl, rfl, hbd, hq⟩ := hrel
    by_cases hlt : j < l.length
    · obtain ⟨b, off, cap, hv, d0, d1, d2⟩ := hI.at hq hlt
      simp only [Value.slice.injEq] at hv
      obtain ⟨rfl, _, rfl⟩ := hv
      have il : ((j : Nat) : Int) < (l.length : Int) := by omega
      have HCT : Hid (szN (l.take (j + 1)) = szN (l.take j) + 1 + l[j].k.size + l[j].v.size) := szN_take l j hlt szN rfl
      have hx := hok l[j] (List.getElem_mem hlt)
      have hks := keyB_size hx.2.1
      have hvs := valB_size hx.2.2
      clear hx
      generalize l[j] = X at *
      generalize szN (l.take j) = N at *
      have hw1 : IntKind.i64.wrap ((N : Int) + 1) = (N : Int) + 1 := by simp [IntKind.wrap, IntKind.bits, IntKind.signed]; omega
      have hw2 : IntKind.i64.wrap ((N : Int) + 1 + (X.k.size : Int)) = (N : Int) + 1 + (X.k.size : Int) := by simp [IntKind.wrap, IntKind.bits, IntKind.signed]; omega
      have hw3 : IntKind.i64.wrap ((N : Int) + 1 + (X.k.size : Int) + (X.v.size : Int)) = (N : Int) + 1 + (X.k.size : Int) + (X.v.size : Int) := by simp [IntKind.wrap, IntKind.bits, IntKind.signed]; omega
      go_wp2_with fail
      go_quiet (fail)
      go_wp2_with fail
      go_roundw
      case rel => exact ⟨j + 1, by omega, by go_num, by rw [HCT.out]; push_cast; rfl, by rw [HCT.out]; omega, below_trans hq (below_drawn _ _)⟩
      case measure => simp [intOf]; omega
    · obtain rfl : j = l.length := by omega
      rw [List.take_length]
      go_wp2
      go_ret
      exact ⟨rfl, hq⟩
set_option maxRecDepth 10000 in
set_option maxHeartbeats 1000000 in
theorem rMac (v : Value) (a : ByteArray) (l : List En) (w : World) (hI : EnsIn w v l) (hn : l.length ≤ 1000000) (hs : Srt l) :
    Calls Tryz.prog 44 #[v, .string a] w fun e w' => e = .returned (.tuple #[.string ((got 0 a l).getD ⟨#[]⟩), .bool (got 0 a l).isSome]) ∧ Below w.heap.size w w' := by
  obtain ⟨ao, cp, rfl⟩ := hI.slice
  go_enter Tryz.func44, Tryz.ntmps44
  go_wp2_with fail
  have HS : Hid (Srt l) := hs
  clear hs
  go_loopw [6] (fun i wr => ∃ j : Nat, j ≤ l.length ∧ i = .int .i64 j ∧ (∀ y ∈ l.take j, ¬ (y.t = 0 ∧ y.k = a)) ∧ Below w.heap.size w wr)
    (fun i _ => l.length - (intOf i).toNat)
  case atStart => exact ⟨0, Nat.zero_le _, rfl, by simp, Below.refl _ _⟩
  case round =>
    obtain ⟨j, hj, rfl, hno, hq⟩ := hrel
    have HN : Hid (∀ y ∈ l.take j, ¬ (y.t = 0 ∧ y.k = a)) := hno
    clear hno
    by_cases hlt : j < l.length
    · obtain ⟨b, off, cap, hv, d0, d1, d2⟩ := hI.at hq hlt
      simp only [Value.slice.injEq] at hv
      obtain ⟨rfl, _, rfl⟩ := hv
      have il : ((j : Nat) : Int) < (l.length : Int) := by omega
      have HM : Hid (l[j] ∈ l) := List.getElem_mem hlt
      have HT : Hid (l.take (j + 1) = l.take j ++ [l[j]]) := List.take_succ_eq_append_getElem hlt
      generalize l[j] = X at *
      by_cases hx : X.t = 0 ∧ X.k = a
      · obtain ⟨h1, h2⟩ := hx
        have HG : Hid (got 0 a l = some X.v) := (got_mem HS.out).2 ⟨X, HM.out, h1, h2, rfl⟩
        rw [h1] at d0
        rw [h2] at d1
        clear h1 h2
        go_wp2_with fail
        go_ret2
        exact ⟨by rw [HG.out]; rfl, hq⟩
      · have HP : Hid (∀ y ∈ l.take (j + 1), ¬ (y.t = 0 ∧ y.k = a)) := fun y hy => by
          rw [HT.out] at hy
          rcases List.mem_append.1 hy with hy | hy
          · exact HN.out y hy
          · obtain rfl : y = X := by simpa using hy
            exact hx
        by_cases h1 : X.t = 0
        · have h2 : (X.k.toList == a.toList) = false := ba_neq' (fun h => hx ⟨h1, h⟩)
          rw [h1] at d0
          clear h1 hx
          go_wp2_with fail
          go_roundw
          case rel => exact ⟨j + 1, by omega, by go_num, HP.out, hq⟩
          case measure => simp [intOf]; omega
        · have h1b : (X.t == 0) = false := by simpa using h1
          clear hx
          go_wp2_with fail
          go_roundw
          case rel => exact ⟨j + 1, by omega, by go_num, HP.out, hq⟩
          case measure => simp [intOf]; omega
    · obtain rfl : j = l.length := by omega
      have HG : Hid (got 0 a l = none) := (got_none HS.out).2 (fun e he => HN.out e (by rw [List.take_length]; exact he))
      go_wp2
      go_ret2
      exact ⟨by rw [HG.out]; rfl, hq⟩
set_option maxRecDepth 10000 in
set_option maxHeartbeats 1000000 in
theorem rAcl (v : Value) (p : Int) (l : List En) (w : World) (hI : EnsIn w v l) (hn : l.length ≤ 1000000) (hok : Ok l) :
    Calls Tryz.prog 48 #[v, .int .i64 p] w fun e w' => e = .returned (.tuple #[.int .i64 ((aclL p l).getD 0), .bool (aclL p l).isSome]) ∧ Below w.heap.size w w' := by
  obtain ⟨ao, cp, rfl⟩ := hI.slice
  go_enter Tryz.func48, Tryz.ntmps48
  go_wp2_with fail
  go_loopw [6] (fun i wr => ∃ j : Nat, j ≤ l.length ∧ i = .int .i64 j ∧ (∀ y ∈ l.take j, hitA p y = false) ∧ Below w.heap.size w wr)
    (fun i _ => l.length - (intOf i).toNat)
  case atStart => exact ⟨0, Nat.zero_le _, rfl, by simp, Below.refl _ _⟩
  case round =>
    obtain ⟨j, hj, rfl, hno, hq⟩ := hrel
    have HN : Hid (∀ y ∈ l.take j, hitA p y = false) := hno
    clear hno
    by_cases hlt : j < l.length
    · obtain ⟨b, off, cap, hv, d0, d1, d2⟩ := hI.at hq hlt
      simp only [Value.slice.injEq] at hv
      obtain ⟨rfl, _, rfl⟩ := hv
      have il : ((j : Nat) : Int) < (l.length : Int) := by omega
      have hx := hok l[j] (List.getElem_mem hlt)
      have HT : Hid (l.take (j + 1) = l.take j ++ [l[j]]) := List.take_succ_eq_append_getElem hlt
      generalize l[j] = X at *
      have hv2 : 2 ≤ X.v.size := by
        have h := valB_is (okE_in hx).1 (okE_in hx).2 hx.2.2
        have h9 := vbN_bd X.t
        omega
      have i0 : 0 < X.v.size := by omega
      have i1 : 1 < X.v.size := by omega
      have t0 : ((X.v[0]'i0).toNat : Int) = bt X.v 0 := bt_eq i0
      have t1 : ((X.v[1]'i1).toNat : Int) = bt X.v 1 := bt_eq i1
      have j0 : (0 : Int) < (X.v.size : Int) := by omega
      have j1 : (1 : Int) < (X.v.size : Int) := by omega
      have u0 := bt_lo X.v 0
      have u1 := bt_lo X.v 1
      have hw0 : IntKind.i64.wrap (bt X.v 0) = bt X.v 0 := by simp [IntKind.wrap, IntKind.bits, IntKind.signed]; omega
      have hw1 : IntKind.i64.wrap (bt X.v 1) = bt X.v 1 := by simp [IntKind.wrap, IntKind.bits, IntKind.signed]; omega
      have HP : Hid (hitA p X = false → ∀ y ∈ l.take (j + 1), hitA p y = false) := fun h y hy => by
        rw [HT.out] at hy
        rcases List.mem_append.1 hy with hy | hy
        · exact HN.out y hy
        · obtain rfl : y = X := by simpa using hy
          exact h
      have HG : Hid (hitA p X = true → aclL p l = some (bt X.v 1)) := fun h => aclL_some HT.out HN.out h
      by_cases h2 : X.t = 2
      · rw [h2] at d0
        by_cases h3 : bt X.v 0 = 0
        · have HH : Hid (hitA p X = true) := by show _ = _; simp [hitA, h2, h3]
          rw [h3] at t0
          clear h2 h3 hx hv2
          go_wp2_with fail
          go_ret2
          exact ⟨by rw [HG.out HH.out]; rfl, hq⟩
        · have h3b : (bt X.v 0 == 0) = false := by simpa using h3
          by_cases h4 : bt X.v 0 = p
          · have HH : Hid (hitA p X = true) := by show _ = _; simp [hitA, h2, h4]
            have h4b : (bt X.v 0 == p) = true := by simpa using h4
            clear h2 h4 hx hv2
            go_wp2_with fail
            go_ret2
            exact ⟨by rw [HG.out HH.out]; rfl, hq⟩
          · have HH : Hid (hitA p X = false) := by show _ = _; simp [hitA, h3, h4]
            have h4b : (bt X.v 0 == p) = false := by simpa using h4
            clear h2 hx hv2
            go_wp2_with fail
            go_roundw
            case rel => exact ⟨j + 1, by omega, by go_num, HP.out HH.out, hq⟩
            case measure => simp [intOf]; omega
      · have HH : Hid (hitA p X = false) := by show _ = _; simp [hitA, h2]
        have h2b : (X.t == 2) = false := by simpa using h2
        go_wp2_with fail
        go_roundw
        case rel => exact ⟨j + 1, by omega, by go_num, HP.out HH.out, hq⟩
        case measure => simp [intOf]; omega
    · obtain rfl : j = l.length := by omega
      have HG : Hid (aclL p l = none) := aclL_none (fun e he => HN.out e (by rw [List.take_length]; exact he))
      go_wp2
      go_ret2
      exact ⟨by rw [HG.out]; rfl, hq⟩
set_option maxHeartbeats 400000 in
theorem rBits0 (a : ByteArray) (m : Nat) (w : World) (ha : 4 ≤ a.size) (h1 : m ≤ 32) :
    Calls Tryz.prog 74 #[.string a, .int .i64 0, .int .i64 (m : Int)] w fun e w' => e = .returned (.int .i64 (bitsTo (numN a) 0 m : Nat)) ∧ w' = w := by
  have hsz' : (4 : Int) ≤ a.size := by omega
  go_enter Tryz.func74, Tryz.ntmps74
  go_wp2
  go_loop [7, 8] (fun n i => ∃ k : Nat, k ≤ m ∧ i = .int .i64 k ∧ n = .int .i64 (bitsTo (numN a) 0 k : Nat)) (fun _ i => 32 - (intOf i).toNat)
  case atStart => exact ⟨0, by omega, rfl, by simp [bitsTo, Nat.mod_one]⟩
  case round =>
    obtain ⟨k, hk, rfl, rfl⟩ := hrel
    have hb := bitsTo_lt (numN a) 0 k (by omega)
    by_cases hlt : k < m
    · have hlt2 : k < 32 := by omega
      have ikm : (k : Int) < (m : Int) := by omega
      go_wp2
      go_round
      case rel => exact ⟨k + 1, by omega, by go_num, congrArg (Value.int IntKind.i64) (bits_round a 0 k (by omega) hlt2 (by omega))⟩
      case measure => simp [intOf]; omega
    · obtain rfl : k = m := by omega
      go_wp2
      go_ret
      exact ⟨rfl, rfl⟩
theorem bits0 (a : ByteArray) (n : Nat) (h : n ≤ 32) : bitsTo (numN a) 0 n = numN a / 2 ^ (32 - n) := by
  unfold bitsTo
  have h1 := numN_lt a
  rw [Nat.sub_zero, Nat.mod_eq_of_lt]
  rw [Nat.div_lt_iff_lt_mul (Nat.pow_pos (by decide)), ← Nat.pow_add, show n + (32 - n) = 32 by omega]
  exact h1
/-- One entry more. -/
theorem best_other {a : ByteArray} {pre : List En} {X : En} {best : Int} {value : ByteArray} (h : BestIs a pre best value) (hX : ∀ m : Nat, best < m → m ≤ 32 → ¬ holdsR a X m) : BestIs a (pre ++ [X]) best value := by
  rcases h with ⟨h1, h2, h3⟩ | ⟨e, he, n, hb, hn, he', hv, h3⟩
  · refine .inl ⟨h1, h2, fun x hx m hm => ?_⟩
    rcases List.mem_append.1 hx with hx | hx
    · exact h3 x hx m hm
    · obtain rfl : x = X := by simpa using hx
      exact hX m (by omega) hm
  · refine .inr ⟨e, by simp [he], n, hb, hn, he', hv, fun x hx m h1 h2 => ?_⟩
    rcases List.mem_append.1 hx with hx | hx
    · exact h3 x hx m h1 h2
    · obtain rfl : x = X := by simpa using hx
      exact hX m (by omega) h2
theorem best_this {a : ByteArray} {pre : List En} {X : En} {best : Int} {value : ByteArray} {n : Nat} (h : BestIs a pre best value) (hn : n ≤ 32) (hb : best < n) (hX : holdsR a X n) (hu : ∀ m, holdsR a X m → m = n) : BestIs a (pre ++ [X]) n X.v := by
  refine .inr ⟨X, by simp, n, rfl, hn, hX, rfl, fun x hx m h1 h2 hm => ?_⟩
  rcases List.mem_append.1 hx with hx | hx
  · rcases h with ⟨_, _, h3⟩ | ⟨_, _, n', hb', _, _, _, h3⟩
    · exact h3 x hx m h2 hm
    · exact h3 x hx m (by omega) h2 hm
  · obtain rfl : x = X := by simpa using hx
    exact absurd (hu m hm) (by omega)
set_option maxRecDepth 10000 in
set_option maxHeartbeats 1000000 in
theorem rRoute (v : Value) (a : ByteArray) (l : List En) (w : World) (hI : EnsIn w v l) (hn : l.length ≤ 1000000) (hs : Srt l) (hok : Ok l) (ha : a.size = 4) :
    Calls Tryz.prog 46 #[v, .string a] w fun e w' => e = .returned (.tuple #[.string ((rtTo a l 32).getD ⟨#[]⟩), .bool (rtTo a l 32).isSome]) ∧ Below w.heap.size w w' := by
  obtain ⟨ao, cp, rfl⟩ := hI.slice
  have hb : ((a.size : Int) != 4) = false := by simp; omega
  go_enter Tryz.func46, Tryz.ntmps46
  go_wp2_with fail
  have HS : Hid (Srt l) := hs
  have HA : Hid (a.size = 4) := ha
  clear hs ha
  go_loopw [6, 7, 8] (fun b v i wr => ∃ (j : Nat) (best : Int) (value : ByteArray), j ≤ l.length ∧ i = .int .i64 j ∧ b = .int .i64 best ∧ v = .string value ∧ BestIs a (l.take j) best value ∧ wr = w)
    (fun _ _ i _ => l.length - (intOf i).toNat)
  case atStart => exact ⟨0, -1, ⟨#[]⟩, Nat.zero_le _, rfl, rfl, rfl, best_start a, rfl⟩
  case round =>
    obtain ⟨j, best, value, hj, rfl, rfl, rfl, hbs, rfl⟩ := hrel
    have hlo := best_lo hbs
    have HB : Hid (BestIs a (l.take j) best value) := hbs
    clear hbs
    by_cases hlt : j < l.length
    · obtain ⟨b, off, cap, hv, d0, d1, d2⟩ := hI.at (Below.refl _ _) hlt
      simp only [Value.slice.injEq] at hv
      obtain ⟨rfl, _, rfl⟩ := hv
      have il : ((j : Nat) : Int) < (l.length : Int) := by omega
      have hx := hok l[j] (List.getElem_mem hlt)
      have HT : Hid (l.take (j + 1) = l.take j ++ [l[j]]) := List.take_succ_eq_append_getElem hlt
      generalize l[j] = X at *
      by_cases h1 : X.t = 1
      · have hk := key1_is (show keyB 1 X.k = true by rw [← h1]; exact hx.2.1)
        obtain ⟨k5, k32, _⟩ := hk
        have b4 := bt_lo X.k 4
        obtain ⟨n, hn4⟩ : ∃ n : Nat, bt X.k 4 = (n : Int) := ⟨(bt X.k 4).toNat, by omega⟩
        have hn32 : n ≤ 32 := by omega
        have i4 : 4 < X.k.size := by omega
        have j4 : (4 : Int) < (X.k.size : Int) := by omega
        have t4 : ((X.k[4]'i4).toNat : Int) = (n : Int) := by rw [← hn4]; exact bt_eq i4
        have HH : Hid (∀ m, holdsR a X m ↔ m = n ∧ numN X.k / 2 ^ (32 - n) = numN a / 2 ^ (32 - n)) := fun m => by
          unfold holdsR
          rw [hn4]
          constructor
          · rintro ⟨_, q1, q2⟩
            have e : m = n := by omega
            subst e
            exact ⟨rfl, q2⟩
          · rintro ⟨rfl, q2⟩
            exact ⟨h1, rfl, q2⟩
        have hk4 : 4 ≤ X.k.size := by omega
        rw [h1] at d0
        clear h1 hx hn4 b4 k32 k5
        by_cases hbn : best < n
        · go_wp2_with fail
          refine (rBits0 X.k n _ hk4 hn32).mono ?_
          rintro e w1 ⟨rfl, rfl⟩
          go_wp2_with fail
          refine (rBits0 a n _ (by have := HA.out; omega) hn32).mono ?_
          rintro e w1 ⟨rfl, rfl⟩
          rw [bits0 _ _ hn32, bits0 _ _ hn32]
          by_cases heq : numN X.k / 2 ^ (32 - n) = numN a / 2 ^ (32 - n)
          · have HB2 : Hid (BestIs a (l.take (j + 1)) n X.v) := by
              show BestIs _ _ _ _
              rw [HT.out]
              exact best_this HB.out hn32 hbn ((HH.out n).2 ⟨rfl, heq⟩) (fun m hm => ((HH.out m).1 hm).1)
            rw [heq]
            clear heq
            go_wp2_with fail
            go_roundw
            case rel => exact ⟨j + 1, n, X.v, by omega, by go_num, rfl, rfl, HB2.out, by trivial⟩
            case measure => simp [intOf]; omega
          · have HB2 : Hid (BestIs a (l.take (j + 1)) best value) := by
              show BestIs _ _ _ _
              rw [HT.out]
              exact best_other HB.out (fun m _ _ hm => heq ((HH.out m).1 hm).2)
            generalize numN X.k / 2 ^ (32 - n) = P1 at *
            generalize numN a / 2 ^ (32 - n) = P2 at *
            have heb : ((P1 : Int) == (P2 : Int)) = false := by
              rw [beq_eq_false_iff_ne]; omega
            go_wp2_with fail
            go_roundw
            case rel => exact ⟨j + 1, best, value, by omega, by go_num, rfl, rfl, HB2.out, by trivial⟩
            case measure => simp [intOf]; omega
        · have HB2 : Hid (BestIs a (l.take (j + 1)) best value) := by
            show BestIs _ _ _ _
            rw [HT.out]
            exact best_other HB.out (fun m h1 _ hm => by have := ((HH.out m).1 hm).1; omega)
          go_wp2_with fail
          go_roundw
          case rel => exact ⟨j + 1, best, value, by omega, by go_num, rfl, rfl, HB2.out, by trivial⟩
          case measure => simp [intOf]; omega
      · have h1b : (X.t != 1) = true := by simpa using h1
        have HB2 : Hid (BestIs a (l.take (j + 1)) best value) := by
          show BestIs _ _ _ _
          rw [HT.out]
          exact best_other HB.out (fun m _ _ hm => h1 hm.1)
        go_wp2_with fail
        go_roundw
        case rel => exact ⟨j + 1, best, value, by omega, by go_num, rfl, rfl, HB2.out, by trivial⟩
        case measure => simp [intOf]; omega
    · obtain rfl : j = l.length := by omega
      have hE : BestIs a l best value := by have h := HB.out; rwa [List.take_length] at h
      have HE := (show Hid _ from best_end hE HS.out hok)
      clear hE
      go_wp2
      go_ret2
      exact ⟨by rw [HE.out.1, HE.out.2]; rfl, Below.refl _ _⟩
set_option maxHeartbeats 1000000 in
theorem rRouteL (v : Value) (a : ByteArray) (l : List En) (w : World) (hI : EnsIn w v l) (hn : l.length ≤ 1000000) (hs : Srt l) (hok : Ok l) :
    Calls Tryz.prog 46 #[v, .string a] w fun e w' => e = .returned (.tuple #[.string ((rtL a l).getD ⟨#[]⟩), .bool (rtL a l).isSome]) ∧ Below w.heap.size w w' := by
  by_cases ha : a.size = 4
  · unfold rtL; rw [if_pos ha]; exact rRoute v a l w hI hn hs hok ha
  · unfold rtL; rw [if_neg ha]
    have hb : ((a.size : Int) != 4) = true := by simp; omega
    go_enter Tryz.func46, Tryz.ntmps46
    go_wp2
    go_ret2
    exact ⟨rfl, Below.refl _ _⟩
end Go.Proofs.YtindifjhocgkbaaGreatDoor
namespace Go.Proofs.YtindifjhocgkbaaGreatDoor
open Go.RowKit

def firstOp' : OpD := ⟨1, 0, ⟨#[2, 0, 0, 0, 0, 1]⟩, ⟨#[10, 0, 0, 1]⟩⟩
set_option maxHeartbeats 1000000 in
theorem lFirst' (w : World) :
    Calls Tryz.prog 9 #[] w fun e w' => ∃ b, e = .returned (.agg #[.int .u64 1, .slice (some ⟨b, 0, none⟩) 1 1]) ∧ OpsIn w' (some ⟨b, 0, none⟩) [firstOp'] ∧ Below w.heap.size w w' := by
  go_enter Tryz.func9, Tryz.ntmps9
  go_wp2
  refine bodyPost_ret (v := .agg #[.int .u64 1, .slice (some ⟨w.heap.size + 1, 0, none⟩) 1 1]) (by simp [results, Tryz.results9, go_sem]) rfl ⟨w.heap.size + 1, rfl, fun _ => ⟨w.heap.size + 1, 0, rfl, by simp, ?_⟩, below_trans (below_alloc _ _) (below_alloc _ _)⟩
  have h0 : ∀ i, i < [firstOp'].length → i = 0 := fun i h => by simpa using h
  refine ⟨fun i h => ?_, fun i h => ?_, fun i h => ?_, fun i h => ?_⟩
  all_goals
    obtain rfl := h0 i h
    simp [firstOp']
theorem szW_take (l : List En) (j : Nat) (h : j < l.length) : szW (l.take (j + 1)) = wrap64 (szW (l.take j) + wrap64 (wrap64 (1 + (l[j].k.size : Int)) + (l[j].v.size : Int))) := by
  rw [List.take_succ_eq_append_getElem h, szW_snoc]
theorem szW_szN {l : List En} (hok : Ok l) (hn : l.length ≤ 1000000) : szW l = (szN l : Int) := by
  suffices h : ∀ j, j ≤ l.length → szW (l.take j) = (szN (l.take j) : Int) ∧ szN (l.take j) ≤ j * 11 by have := (h l.length (Nat.le_refl _)).1; rwa [List.take_length] at this
  intro j
  induction j with
  | zero => intro _; simp [szW, szN]
  | succ j ih =>
    intro hj
    obtain ⟨h1, h2⟩ := ih (by omega)
    have hx := hok l[j] (List.getElem_mem _)
    have hks := keyB_size hx.2.1
    have hvs := valB_size hx.2.2
    have hst := szN_take l j (by omega) szN rfl
    rw [szW_take l j (by omega), h1, hst]
    rw [w64 (x := 1 + (l[j].k.size : Int)) (by omega) (by omega), w64 (x := 1 + (l[j].k.size : Int) + (l[j].v.size : Int)) (by omega) (by omega), w64 (by omega) (by omega)]
    refine ⟨?_, by omega⟩
    push_cast
    omega
/-- A table, and the document's list of the same entries. -/
structure LkI (w : World) (F T : Nat) (l : List En) (y : Value) (W : World) : Prop where
  t : TabIs W T l
  f : W.cell? ⟨F, 0, none⟩ = some (.pointer (some ⟨T, 0, none⟩))
  e : EnsIn W y l
  q : Below w.heap.size w W
theorem LkI.keep {w : World} {F T : Nat} {l : List En} {y : Value} {W W' : World} (h : LkI w F T l y W) (q : Below W.heap.size W W') : LkI w F T l y W' :=
  ⟨h.t.keep q, (q.cell (p := ⟨F, 0, none⟩) (cell_lt h.f)).trans h.f, h.e.keep q, below_trans h.q q⟩
set_option maxRecDepth 10000 in
set_option maxHeartbeats 4000000 in
theorem lLooks (F T : Nat) (l : List En) (y : Value) (s : ByteArray) (n : Int) (w : World) (h : LkI w F T l y w) (hs : Srt l) (hok : Ok l) (hn : l.length ≤ 10000) :
    Calls Tryz.prog 13 #[.pointer (some ⟨F, 0, none⟩), y, .string s, .int .i64 n] w fun e w' => e = .returned (.bool true) ∧ Below w.heap.size w w' := by
  obtain ⟨yo, yc, rfl⟩ := h.e.slice
  have HS : Hid (Srt l) := hs
  have HO : Hid (Ok l) := hok
  clear hs hok
  have HSZ : Hid (szW l = (szN l : Int)) := szW_szN HO.out (by omega)
  go_enter Tryz.func13, Tryz.ntmps13
  go_wp2_with fail
  refine (fEntries F T l _ h.f h.t (by omega)).mono ?_
  rintro e w1 ⟨x, rfl, ox, q1⟩
  obtain ⟨xo, xc, rfl⟩ := own_slice ox
  have h1 := h.keep q1
  clear h q1
  go_wp2_with fail
  refine (lSameE _ _ l (by omega) _ (EnsIn.of_owns ox) h1.e).mono ?_
  rintro e w2 ⟨rfl, q2⟩
  have h2 := h1.keep q2
  clear h1 ox q2
  go_wp2_with fail
  refine (fSize F T l _ h2.f h2.t (by omega)).mono ?_
  rintro e w3 ⟨rfl, q3⟩
  have h3 := h2.keep q3
  clear h2 q3
  rw [HSZ.out]
  go_wp2_with fail
  refine (rSize _ l _ h3.e (by omega) HO.out).mono ?_
  rintro e w4 ⟨rfl, q4⟩
  have h4 := h3.keep q4
  clear h3 q4
  go_wp2_with fail
  refine (fCount F T l n _ h4.f h4.t (by omega)).mono ?_
  rintro e w5 ⟨rfl, q5⟩
  have h5 := h4.keep q5
  clear h4 q5
  go_wp2_with fail
  refine (rCount _ n l _ h5.e (by omega)).mono ?_
  rintro e w6 ⟨rfl, q6⟩
  have h6 := h5.keep q6
  clear h5 q6
  go_wp2_with fail
  go_loopw [12] (fun i wr => ∃ j : Nat, j ≤ 3 ∧ i = .int .i64 j ∧ LkI w F T l (.slice yo l.length yc) wr) (fun i _ => 3 - (intOf i).toNat)
  case atStart => exact ⟨0, by omega, rfl, h6⟩
  case round =>
    clear h6
    obtain ⟨j, hj, rfl, g0⟩ := hrel
    by_cases hlt : j < 3
    · have ij : (j : Int) < 3 := by omega
      go_wp2_with fail
      refine (fCount F T l (j : Int) _ g0.f g0.t (by omega)).mono ?_
      rintro e v1 ⟨rfl, q1⟩
      have g1 := g0.keep q1
      clear g0 q1
      go_wp2_with fail
      refine (rCount _ (j : Int) l _ g1.e (by omega)).mono ?_
      rintro e v2 ⟨rfl, q2⟩
      have g2 := g1.keep q2
      clear g1 q2
      go_wp2_with fail
      go_roundw
      case rel => exact ⟨j + 1, by omega, by go_num, g2⟩
      case measure => simp [intOf]; omega
    · obtain rfl : j = 3 := by omega
      go_wp2_with fail
      refine (fMac F T l s _ g0.f g0.t HS.out (by omega)).mono ?_
      rintro e v1 ⟨rfl, q1⟩
      have g1 := g0.keep q1
      clear g0 q1
      go_wp2_with fail
      refine (rMac _ s l _ g1.e (by omega) HS.out).mono ?_
      rintro e v2 ⟨rfl, q2⟩
      have g2 := g1.keep q2
      clear g1 q2
      generalize (got 0 s l).getD ⟨#[]⟩ = m1
      generalize (got 0 s l).isSome = m2
      go_wp2_with fail
      refine (fRouteL F T l s _ g2.f g2.t HS.out (by omega)).mono ?_
      rintro e v3 ⟨rfl, q3⟩
      have g3 := g2.keep q3
      clear g2 q3
      go_wp2_with fail
      refine (rRouteL _ s l _ g3.e (by omega) HS.out HO.out).mono ?_
      rintro e v4 ⟨rfl, q4⟩
      have g4 := g3.keep q4
      clear g3 q4
      generalize (rtL s l).getD ⟨#[]⟩ = m3
      generalize (rtL s l).isSome = m4
      go_wp2_with fail
      refine (fAcl F T l n _ g4.f g4.t HO.out (by omega)).mono ?_
      rintro e v5 ⟨rfl, q5⟩
      have g5 := g4.keep q5
      clear g4 q5
      go_wp2_with fail
      refine (rAcl _ n l _ g5.e (by omega) HO.out).mono ?_
      rintro e v6 ⟨rfl, q6⟩
      have g6 := g5.keep q6
      clear g5 q6
      generalize (aclL n l).getD 0 = m5
      generalize (aclL n l).isSome = m6
      go_wp2_with fail
      go_ret
      exact ⟨rfl, g6.q⟩
end Go.Proofs.YtindifjhocgkbaaGreatDoor
namespace Go.Proofs.YtindifjhocgkbaaGreatDoor
open Go.RowKit

theorem heap_setCell_type' {w : World} {b : Nat} {c : Array Value} {t : TypeId} {f : Nat × Nat} (h : w.heap[b]? = some (.cells c t f)) (a : Addr) (x : Value) : ∃ c' f', (w.setCell a x).heap[b]? = some (.cells c' t f') := by
  simp only [World.setCell, Array.getElem?_modify]
  by_cases e : a.block = b
  · rw [if_pos e, h]
    simp only [Option.map_some]
    split <;> simp_all
  · rw [if_neg e]; exact ⟨c, f, h⟩
/-- A fault in a block of its own. -/
structure FyAt (W : World) (P : Nat) (k a : Int) : Prop where
  c0 : W.cell? ⟨P, 0, none⟩ = some (.int .i64 k)
  c1 : W.cell? ⟨P, 1, none⟩ = some (.int .i64 a)
  c2 : W.cell? ⟨P, 2, none⟩ = some (.int .i64 0)
  fr : ∀ i, W.frozen? ⟨P, i, none⟩ = false
  ty : ∃ c f, W.heap[P]? = some (.cells c 29 f)
theorem FyAt.grown {W W' : World} {P : Nat} {k a : Int} {r : Option Nat} (h : FyAt W P k a) (g : W.grownBy W' r) (n1 : some P ≠ r) : FyAt W' P k a := by
  obtain ⟨c, f, hty⟩ := h.ty
  have hP : P < W.heap.size := cell_lt h.c0
  exact ⟨g.cell h.c0 n1, g.cell h.c1 n1, g.cell h.c2 n1, fun i => (World.frozen?_of_block (g.block P hP n1)).trans (h.fr i), ⟨c, f, (g.block P hP n1).trans hty⟩⟩
theorem FyAt.keep {W W' : World} {P : Nat} {k a : Int} (h : FyAt W P k a) (q : Below W.heap.size W W') : FyAt W' P k a := h.grown (grown_below' none q) (by simp)
theorem fy_new (W : World) (k a : Int) : FyAt (W.alloc (.cells #[.int .i64 k, .int .i64 a, .int .i64 0] 29)) W.heap.size k a :=
  ⟨by simp, by simp, by simp, fun i => World.frozen?_alloc_at _ _ _ i rfl, ⟨_, _, heap_alloc_new _ _⟩⟩
theorem FyAt.set {W : World} {P : Nat} {k a : Int} (h : FyAt W P k a) (k' a' : Int) : FyAt (((W.setCell ⟨P, 0, none⟩ (.int .i64 k')).setCell ⟨P, 1, none⟩ (.int .i64 a')).setCell ⟨P, 2, none⟩ (.int .i64 0)) P k' a' := by
  have hne : ∀ i j : Nat, i ≠ j → (⟨P, i, none⟩ : Addr) ≠ ⟨P, j, none⟩ := fun i j h e => h (Addr.mk.inj e).2.1
  obtain ⟨c, f, hty⟩ := h.ty
  refine ⟨?_, ?_, ?_, fun i => by simp only [World.frozen?_setCell]; exact h.fr i, ?_⟩
  · rw [World.cell?_setCell_other _ _ _ _ (hne 2 0 (by decide)), World.cell?_setCell_other _ _ _ _ (hne 1 0 (by decide))]
    exact World.cell?_setCell_same _ _ _ h.c0
  · rw [World.cell?_setCell_other _ _ _ _ (hne 2 1 (by decide))]
    exact World.cell?_setCell_same _ _ _ ((World.cell?_setCell_other _ _ _ _ (hne 0 1 (by decide))).trans h.c1)
  · exact World.cell?_setCell_same _ _ _ ((World.cell?_setCell_other _ _ _ _ (hne 1 2 (by decide))).trans ((World.cell?_setCell_other _ _ _ _ (hne 0 2 (by decide))).trans h.c2))
  · obtain ⟨_, _, h1⟩ := heap_setCell_type' hty ⟨P, 0, none⟩ (.int .i64 k')
    obtain ⟨_, _, h2⟩ := heap_setCell_type' h1 ⟨P, 1, none⟩ (.int .i64 a')
    exact heap_setCell_type' h2 ⟨P, 2, none⟩ (.int .i64 0)
set_option maxRecDepth 10000 in
set_option maxHeartbeats 2000000 in
theorem rFoldF (x : Value) (l : List En) (v : Int) (ao : Option Addr) (cap : Nat) (ops : List OpD) (w : World) (hI : EnsIn w x l) (hs : Srt l) (hl : l.length ≤ 900000) (ho : OpsIn w ao ops) (h8 : ops.length ≤ 8) :
    Calls Tryz.prog 10 #[x, .agg #[.int .u64 v, .slice ao ops.length cap]] w fun e w' => ∃ y, e = .returned y ∧ EnsIn w' y (aft l ops) ∧ Below w.heap.size w w' ∧ (0 < ops.length → ∀ b off n c, y = .slice (some ⟨b, off, none⟩) n c → w.heap.size ≤ b) := by
  have HS : Hid (Srt l) := hs
  clear hs
  have qa := below_alloc w (.cells #[.int .u64 v, .slice ao ops.length cap] 34)
  have c1 : (w.alloc (.cells #[.int .u64 v, .slice ao ops.length cap] 34)).cell? ⟨w.heap.size, 1, none⟩ = some (.slice ao ops.length cap) := by simp
  have hIa := hI.keep qa
  obtain ⟨xo, xc, rfl⟩ := hI.slice
  go_enter Tryz.func10, Tryz.ntmps10
  go_wp2_with fail
  generalize w.alloc (.cells #[.int .u64 v, .slice ao ops.length cap] 34) = W0 at *
  go_loopw [0, 5] (fun y i wr => ∃ j : Nat, j ≤ ops.length ∧ i = .int .i64 j ∧ EnsIn wr y (aft l (ops.take j)) ∧ Below W0.heap.size W0 wr ∧ (0 < j → ∀ b off n c, y = .slice (some ⟨b, off, none⟩) n c → w.heap.size ≤ b))
    (fun _ i _ => ops.length - (intOf i).toNat)
  case atStart => exact ⟨0, Nat.zero_le _, rfl, by simpa [aft] using hIa, Below.refl _ _, fun h => absurd h (by omega)⟩
  case round =>
    obtain ⟨j, hj, rfl, hE, hq, hfr⟩ := hrel
    have HFR := (show Hid _ from hfr)
    clear hfr
    have x1 := (hq.cell (p := ⟨w.heap.size, 1, none⟩) (cell_lt c1)).trans c1
    have qw := below_trans qa hq
    by_cases hlt : j < ops.length
    · obtain ⟨b, off, rfl, hb, ho'⟩ := ho (by omega)
      have d0 := (qw.cell (p := ⟨b, off + j * 4, none⟩) hb).trans (ho'.c0 j hlt)
      have d1 := (qw.cell (p := ⟨b, off + j * 4 + 1, none⟩) hb).trans (ho'.c1 j hlt)
      have d2 := (qw.cell (p := ⟨b, off + j * 4 + 2, none⟩) hb).trans (ho'.c2 j hlt)
      have d3 := (qw.cell (p := ⟨b, off + j * 4 + 3, none⟩) hb).trans (ho'.c3 j hlt)
      have ij : ((j : Nat) : Int) < (ops.length : Int) := by omega
      have HT : Hid (aft l (ops.take (j + 1)) = chd (aft l (ops.take j)) ops[j]) := aft_take l ops j hlt
      have HSR : Hid (Srt (aft l (ops.take j))) := aft_srt HS.out
      have hal := aft_length (ops.take j) l
      simp only [List.length_take] at hal
      generalize aft l (ops.take j) = L at *
      generalize ops[j] = o at *
      obtain ⟨yo, yc, rfl⟩ := hE.slice
      have HC := (show Hid _ from withR_chd (o := o) HSR.out)
      by_cases hk : o.kind = 2
      · have hkd : decide (o.kind = 2) = true := by simp [hk]
        have HC2 : Hid (withR L ⟨o.table, o.key, o.val⟩ true = chd L o) := by have h := HC.out; rw [hkd] at h; exact h
        clear HC hkd
        rw [hk] at d0
        clear hk
        go_wp2_with fail
        refine (rWith _ L ⟨o.table, o.key, o.val⟩ true _ (hE.keep (below_alloc _ _)) (by omega)).mono ?_
        rintro ev w2 ⟨y, rfl, oy, q2⟩
        obtain ⟨zo, zc, rfl⟩ := own_slice oy
        rw [HC2.out] at oy
        go_wp2_with fail
        go_roundw
        case rel => exact ⟨j + 1, by omega, by go_num, by rw [HT.out]; first | exact EnsIn.of_owns oy | (rw [HC2.out]; exact EnsIn.of_owns oy), below_trans hq (below_trans (below_alloc _ _) q2), fun _ b' off' n' c' hv => by simp only [Value.slice.injEq] at hv; have h1 := (oy.lt b' (by rw [hv.1]; rfl)).1; have h2 := qw.size; simp at h1; omega⟩
        case measure => simp [intOf]; omega
      · have hkd : decide (o.kind = 2) = false := by simp [hk]
        have HC2 : Hid (withR L ⟨o.table, o.key, o.val⟩ false = chd L o) := by have h := HC.out; rw [hkd] at h; exact h
        clear HC hkd
        have hkb : (o.kind == 2) = false := by simpa using hk
        go_wp2_with fail
        refine (rWith _ L ⟨o.table, o.key, o.val⟩ false _ (hE.keep (below_alloc _ _)) (by omega)).mono ?_
        rintro ev w2 ⟨y, rfl, oy, q2⟩
        obtain ⟨zo, zc, rfl⟩ := own_slice oy
        rw [HC2.out] at oy
        go_wp2_with fail
        go_roundw
        case rel => exact ⟨j + 1, by omega, by go_num, by rw [HT.out]; first | exact EnsIn.of_owns oy | (rw [HC2.out]; exact EnsIn.of_owns oy), below_trans hq (below_trans (below_alloc _ _) q2), fun _ b' off' n' c' hv => by simp only [Value.slice.injEq] at hv; have h1 := (oy.lt b' (by rw [hv.1]; rfl)).1; have h2 := qw.size; simp at h1; omega⟩
        case measure => simp [intOf]; omega
    · obtain rfl : j = ops.length := by omega
      rw [List.take_length] at hE
      go_wp2
      go_ret
      exact ⟨_, rfl, hE, qw, HFR.out⟩
/-- A table, the document's list of the same entries, and the fault's block ahead of that. -/
structure TkI (w : World) (F T FA : Nat) (l : List En) (y : Value) (W : World) : Prop where
  t : TabIs W T l
  f : W.cell? ⟨F, 0, none⟩ = some (.pointer (some ⟨T, 0, none⟩))
  e : EnsIn W y l
  q : Below w.heap.size w W
  n : ∀ b off n c, y = .slice (some ⟨b, off, none⟩) n c → FA < b
theorem TkI.keep {w : World} {F T FA : Nat} {l : List En} {y : Value} {W W' : World} (h : TkI w F T FA l y W) (q : Below W.heap.size W W') : TkI w F T FA l y W' :=
  ⟨h.t.keep q, (q.cell (p := ⟨F, 0, none⟩) (cell_lt h.f)).trans h.f, h.e.keep q, below_trans h.q q, h.n⟩
/-- A delta that came in. -/
structure DlD where
  v : Int
  ao : Option Addr
  cap : Nat
  ops : List OpD
def DlD.ok (w : World) (d : DlD) : Prop := 0 ≤ d.v ∧ d.v ≤ 18446744073709551615 ∧ d.ops.length ≤ d.cap ∧ d.cap ≤ maxLen ∧ OpsIn w d.ao d.ops
/-- Deltas that came in. -/
def DelsIn (w : World) (ao : Option Addr) (ds : List DlD) : Prop := 0 < ds.length → ∃ b off, ao = some ⟨b, off, none⟩ ∧ b < w.heap.size ∧ ∀ i (h : i < ds.length), w.cell? ⟨b, off + i * 2, none⟩ = some (.int .u64 ds[i].v) ∧ w.cell? ⟨b, off + i * 2 + 1, none⟩ = some (.slice ds[i].ao ds[i].ops.length ds[i].cap) ∧ ds[i].ok w
/-- Texts that came in. -/
def StrsIn (w : World) (ao : Option Addr) (n : Nat) : Prop := 0 < n → ∃ b off, ao = some ⟨b, off, none⟩ ∧ b < w.heap.size ∧ ∀ i, i < n → ∃ s : ByteArray, w.cell? ⟨b, off + i, none⟩ = some (.string s)
/-- What the deltas leave. -/
def foldD (ds : List DlD) : List En := ds.foldl (fun l d => aftD l d.v d.ops) (aftD [] 1 [firstOp'])
theorem foldD_take (ds : List DlD) (j : Nat) (h : j < ds.length) : foldD (ds.take (j + 1)) = aftD (foldD (ds.take j)) ds[j].v ds[j].ops := by
  unfold foldD; rw [List.take_succ_eq_append_getElem h, List.foldl_append]; rfl
theorem aftD_len (l : List En) (v : Int) (ops : List OpD) : (aftD l v ops).length ≤ l.length + 8 := by
  unfold aftD
  split
  · rename_i hk
    have h8 : ops.length ≤ 8 := by have := (wrongD_ok hk).2.1; simp [cntB] at this; omega
    have := aft_length ops l
    omega
  · omega
theorem foldD_good (ds : List DlD) : ∀ j, j ≤ ds.length → Srt (foldD (ds.take j)) ∧ Ok (foldD (ds.take j)) ∧ (foldD (ds.take j)).length ≤ 8 + 8 * j := by
  intro j
  induction j with
  | zero =>
    intro _
    refine ⟨aftD_srt List.Pairwise.nil, aftD_ok (fun _ h => absurd h (by simp)), ?_⟩
    have := aftD_len [] 1 [firstOp']
    simpa [foldD] using this
  | succ j ih =>
    intro hj
    obtain ⟨h1, h2, h3⟩ := ih (by omega)
    rw [foldD_take ds j (by omega)]
    refine ⟨aftD_srt h1, aftD_ok h2, ?_⟩
    have := aftD_len (foldD (ds.take j)) ds[j].v ds[j].ops
    omega
theorem first_ok : wrongD 1 [firstOp'] = (0, 0) := by decide +kernel
set_option maxRecDepth 10000 in
set_option maxHeartbeats 4000000 in
theorem lTables (da : Option Addr) (ds : List DlD) (dc : Nat) (ta : Option Addr) (tn tc : Nat) (na : Option Addr) (nn nc : Nat) (w : World) (hd : DelsIn w da ds) (ht : StrsIn w ta tn) (hni : IntsIn w na nn) (hdl : (ds.length : Int) ≤ 9223372036854775807) (htl : (tn : Int) ≤ 9223372036854775807) (hnl : (nn : Int) ≤ 9223372036854775807) (g : Glob w) (he : EtIs w) :
    Calls Tryz.prog 3 #[.slice da ds.length dc, .slice ta tn tc, .slice na nn nc] w fun e w' => e = .returned (.bool true) ∧ Below w.heap.size w w' := by
  have g2 := g.lt
  go_enter Tryz.func3, Tryz.ntmps3
  go_wp2_with fail
  refine (pFold _).mono ?_
  rintro e w1 ⟨rfl, rfl⟩
  have t0 : TabIs (w.alloc (.cells #[.slice none 0 0] 116)) w.heap.size [] := ⟨_, heap_alloc_new _ _, World.ownsRow_nil _ _ _ _⟩
  have q0 := below_alloc (w.alloc (.cells #[.slice none 0 0] 116)) (.cells #[.pointer (some ⟨w.heap.size, 0, none⟩)] 77)
  have h0 : LkI w (w.heap.size + 1) w.heap.size [] (.slice none 0 0) ((w.alloc (.cells #[.slice none 0 0] 116)).alloc (.cells #[.pointer (some ⟨w.heap.size, 0, none⟩)] 77)) :=
    ⟨t0.keep q0, World.cell?_alloc_at _ _ _ 0 (by simp), .inl ⟨rfl, rfl⟩, below_trans (below_alloc _ _) q0⟩
  clear t0 q0
  go_wp2_with fail
  generalize (w.alloc (.cells #[.slice none 0 0] 116)).alloc (.cells #[.pointer (some ⟨w.heap.size, 0, none⟩)] 77) = W0 at *
  refine (lFirst' _).mono ?_
  rintro e w2 ⟨b2, rfl, ho2, q2⟩
  have h2 := h0.keep q2
  clear h0 q2
  have sn : Srt ([] : List En) := List.Pairwise.nil
  have on : Ok ([] : List En) := fun _ h => absurd h (by simp)
  have HF : Hid (wrongD 1 [firstOp'] = (0, 0)) := first_ok
  go_wp2_with fail
  refine (fApply (w.heap.size + 1) w.heap.size [] 1 _ 1 [firstOp'] _ h2.f h2.t (by decide) (by simp) ho2 (g.keep h2.q) (he.keep h2.q) (by omega) sn (by simp)).mono ?_
  rintro e w3 ⟨rfl, t3, g3⟩
  rw [HF.out]
  have k1 := t3
  have k2 : w3.cell? ⟨w.heap.size + 1, 0, none⟩ = some (.pointer (some ⟨w.heap.size, 0, none⟩)) := g3.cell h2.f (by simp)
  have k4 : Below w.heap.size w w3 := h2.q.grown g3 h2.q.size (fun b hb => by cases hb; exact Nat.le_refl _)
  have F4 := fy_new w3 0 0
  have q4 := below_alloc w3 (.cells #[.int .i64 0, .int .i64 0, .int .i64 0] 29)
  have hFA : w.heap.size + 1 < w3.heap.size := cell_lt k2
  have T4 := k1.keep q4
  have C4 := (q4.cell (p := ⟨w.heap.size + 1, 0, none⟩) (cell_lt k2)).trans k2
  have Q4 := below_trans k4 q4
  clear k1 k2 k4 q4 h2 t3 g3 ho2
  go_wp2_with fail
  generalize w3.alloc (.cells #[.int .i64 0, .int .i64 0, .int .i64 0] 29) = W4 at *
  generalize w3.heap.size = FA at *
  refine (lFirst' _).mono ?_
  rintro e w5 ⟨b5, rfl, ho5, q5⟩
  have T5 := T4.keep q5
  have F5 := F4.keep q5
  have C5 := (q5.cell (p := ⟨w.heap.size + 1, 0, none⟩) (cell_lt C4)).trans C4
  have Q5 := below_trans Q4 q5
  clear T4 F4 C4 Q4 q5
  go_wp2_with fail
  refine (rFoldF _ [] 1 _ 1 [firstOp'] _ (.inl ⟨rfl, rfl⟩) sn (by simp) ho5 (by simp)).mono ?_
  rintro e w6 ⟨y, rfl, hy, q6, hyf⟩
  have ea : aftD [] 1 [firstOp'] = aft [] [firstOp'] := by unfold aftD; rw [HF.out]; rfl
  rw [← ea] at hy
  have T6 := T5.keep q6
  have F6 := F5.keep q6
  have C6 := (q6.cell (p := ⟨w.heap.size + 1, 0, none⟩) (cell_lt C5)).trans C5
  have Q6 := below_trans Q5 q6
  have h5A : FA < w5.heap.size := cell_lt F5.c0
  have L6 : TkI w (w.heap.size + 1) w.heap.size FA (foldD (ds.take 0)) y w6 := ⟨T6, C6, hy, Q6, fun b off n c hv => Nat.lt_of_lt_of_le h5A (hyf (by simp) b off n c hv)⟩
  clear T5 F5 C5 Q5 q6 ea T6 C6 Q6 hy ho5 sn on hyf h5A
  obtain ⟨yo, yc, rfl⟩ := L6.e.slice
  have f0 := F6.c0
  have f1 := F6.c1
  have f2 := F6.c2
  go_wp2_with fail
  clear f0 f1 f2 HF
  go_loopw [8, 10, 11] (fun o y i wr => ∃ (j : Nat) (k a : Int), j ≤ ds.length ∧ j ≤ 300 ∧ o = .bool true ∧ i = .int .i64 j ∧ TkI w (w.heap.size + 1) w.heap.size FA (foldD (ds.take j)) y wr ∧ FyAt wr FA k a)
    (fun _ _ i _ => ds.length - (intOf i).toNat)
  case atStart => exact ⟨0, 0, 0, Nat.zero_le _, by omega, rfl, rfl, L6, F6⟩
  case round =>
    clear L6 F6
    obtain ⟨j, fk, fa, hj, hj3, rfl, rfl, L, Fl⟩ := hrel
    obtain ⟨hsr, hok, hln⟩ := foldD_good ds j hj
    have HS : Hid (Srt (foldD (ds.take j))) := hsr
    have HO : Hid (Ok (foldD (ds.take j))) := hok
    clear hsr hok
    obtain ⟨yo, yc, rfl⟩ := L.e.slice
    by_cases hlt : j < ds.length ∧ j < 300
    · obtain ⟨hlt, hlt3⟩ := hlt
      have il : ((j : Nat) : Int) < (ds.length : Int) := by omega
      have il3 : ((j : Nat) : Int) < 300 := by omega
      have HT : Hid (foldD (ds.take (j + 1)) = aftD (foldD (ds.take j)) ds[j].v ds[j].ops) := foldD_take ds j hlt
      obtain ⟨db, doff, rfl, hdb, hdc⟩ := hd (by omega)
      obtain ⟨d0, d1, hv0, hv1, hcap, hmax, hops⟩ := hdc j hlt
      have HDC : Hid (∀ W', Below w.heap.size w W' → W'.cell? ⟨db, doff + j * 2, none⟩ = some (.int .u64 ds[j].v) ∧ W'.cell? ⟨db, doff + j * 2 + 1, none⟩ = some (.slice ds[j].ao ds[j].ops.length ds[j].cap) ∧ OpsIn W' ds[j].ao ds[j].ops) := fun W' q => ⟨(q.cell (p := ⟨db, doff + j * 2, none⟩) hdb).trans d0, (q.cell (p := ⟨db, doff + j * 2 + 1, none⟩) hdb).trans d1, hops.keep q⟩
      clear d0 d1 hops hdc
      generalize ds[j] = D at *
      obtain ⟨dv, dao, dcap, dops⟩ := D
      simp only at HT hv0 hv1 hcap hmax HDC
      generalize foldD (ds.take j) = l at *
      obtain ⟨d0, d1, hops⟩ := HDC.out _ L.q
      go_wp2_with fail
      refine (fApply (w.heap.size + 1) w.heap.size l dv dao dcap dops _ L.f L.t hv0 hcap hops (g.keep L.q) (he.keep L.q) (by omega) HS.out (by omega)).mono ?_
      rintro e w1 ⟨he1, t1, g1⟩
      obtain ⟨wk, wa, HWK⟩ : ∃ wk wa, Hid (wrongD dv dops = (wk, wa)) := ⟨_, _, rfl⟩
      rw [HWK.out] at he1
      subst he1
      simp only
      clear d0 d1 hops
      have F1 := Fl.grown g1 (by
        obtain ⟨c, f, hty⟩ := Fl.ty
        obtain ⟨v, hv, _⟩ := L.t.blk
        intro e
        cases e
        rw [hty] at hv
        simp at hv)
      have Q1 : Below w.heap.size w w1 := L.q.grown g1 L.q.size (fun b hb => by cases hb; exact Nat.le_refl _)
      have C1 := g1.cell L.f (by simp)
      have E1 := L.e.grown (R := w.heap.size) (fun b off n c hv => by have := L.n b off n c hv; omega) g1
      have HNN := L.n
      clear L Fl g1
      have f0 := F1.c0
      have f1 := F1.c1
      have f2 := F1.c2
      have z0 := F1.fr 0
      have z1 := F1.fr 1
      have z2 := F1.fr 2
      obtain ⟨d0, d1, hops⟩ := HDC.out _ Q1
      have hdF : ¬ db = FA := by omega
      have hFd : ¬ FA = db := by omega
      have F2 := F1.set wk wa
      have g2' : w1.grownBy _ (some FA) := set3 (R := FA) (x0 := .int .i64 wk) (x1 := .int .i64 wa) (x2 := .int .i64 0)
      obtain ⟨_, _, hty⟩ := F1.ty
      have T2 := t1.far hty (by decide) (by omega) g2'
      clear hty
      have C2 := g2'.cell C1 (by simp; omega)
      have E2 := E1.grown (R := FA) (fun b off n c hv => by have := HNN b off n c hv; omega) g2'
      have Q2 := Q1.grown g2' Q1.size (fun b hb => by cases hb; omega)
      go_wp2_with fail
      clear f0 f1 f2 z0 z1 z2 d0 d1 hops F1 t1 C1 E1 Q1 g2'
      generalize ((w1.setCell ⟨FA, 0, none⟩ (.int .i64 wk)).setCell ⟨FA, 1, none⟩ (.int .i64 wa)).setCell ⟨FA, 2, none⟩ (.int .i64 0) = W2 at *
      obtain ⟨d0, d1, hops⟩ := HDC.out _ Q2
      refine (rWrong dv dao dcap dops _ hv0 hv1 hcap hmax hops).mono ?_
      rintro e w3 ⟨he1, q3⟩
      rw [HWK.out] at he1
      subst he1
      simp only
      have qa := below_alloc w3 (.cells #[.int .i64 wk, .int .i64 wa] 39)
      have q4 := below_trans q3 qa
      have r0 : (w3.alloc (.cells #[.int .i64 wk, .int .i64 wa] 39)).cell? ⟨w3.heap.size, 0, none⟩ = some (.int .i64 wk) := by simp
      have r1 : (w3.alloc (.cells #[.int .i64 wk, .int .i64 wa] 39)).cell? ⟨w3.heap.size, 1, none⟩ = some (.int .i64 wa) := by simp
      have hGA : w.heap.size ≤ w3.heap.size := by have := Q2.size; have := q3.size; omega
      have F4 := F2.keep q4
      have T4 := T2.keep q4
      have C4 := (q4.cell (p := ⟨w.heap.size + 1, 0, none⟩) (cell_lt C2)).trans C2
      have E4 := E2.keep q4
      have Q4 := below_trans Q2 q4
      obtain ⟨d0', d1', hops'⟩ := HDC.out _ Q4
      have hFAlt : FA < w3.heap.size := by have := cell_lt F2.c0; have := q3.size; simp at *; omega
      clear d0 d1 hops q3 qa q4 F2 T2 C2 E2 Q2
      -- the document's list behind this delta
      have HFOLD : ∀ (W5 : World) (y5 : Value), EnsIn W5 y5 (aftD l dv dops) → TabIs W5 w.heap.size (aftD l dv dops) → True := fun _ _ _ _ => trivial
      clear HFOLD
      by_cases hk : wk = 0
      · have HA : Hid (aftD l dv dops = aft l dops) := by show _ = _; unfold aftD; rw [HWK.out, if_pos hk]
        have h8 : dops.length ≤ 8 ∧ 0 < dops.length := by
          have h := (wrongD_ok (show (wrongD dv dops).1 = 0 by rw [HWK.out]; exact hk)).2.1
          simp [cntB] at h
          omega
        subst hk
        go_wp2_with fail
        refine (rFoldF _ l dv dao dcap dops _ E4 HS.out (by omega) hops' h8.1).mono ?_
        rintro e w5 ⟨y5, rfl, hy5, q5, hyf⟩
        rw [← HA.out] at hy5
        have hyf5 := hyf h8.2
        have L5 : TkI w (w.heap.size + 1) w.heap.size FA (aftD l dv dops) y5 w5 := ⟨T4.keep q5, (q5.cell (p := ⟨w.heap.size + 1, 0, none⟩) (cell_lt C4)).trans C4, hy5, below_trans Q4 q5, fun b off n c hv => by have := hyf5 b off n c hv; simp at this; omega⟩
        have F5 := F4.keep q5
        have s0 := (q5.cell (p := ⟨w3.heap.size, 0, none⟩) (cell_lt r0)).trans r0
        have s1 := (q5.cell (p := ⟨w3.heap.size, 1, none⟩) (cell_lt r1)).trans r1
        obtain ⟨zo, zc, rfl⟩ := L5.e.slice
        clear hyf hyf5 hy5 q5 T4 C4 E4 Q4 F4 r0 r1 d0' d1' hops' h8
        have HS5 : Hid (Srt (aftD l dv dops)) := aftD_srt HS.out
        have HO5 : Hid (Ok (aftD l dv dops)) := aftD_ok HO.out
        have hl5 := aftD_len l dv dops
        clear HA
        generalize aftD l dv dops = l5 at *
        by_cases htn : tn = 0
        · subst htn
          by_cases hnn : nn = 0
          · subst hnn
            have f0 := F5.c0
            have f1 := F5.c1
            have f2 := F5.c2
            go_wp2_with fail
            clear f0 f1 f2
            refine (lSame' _ _ _).mono ?_
            rintro e w7 ⟨rfl, q7⟩
            have L7 := L5.keep q7
            have F7 := F5.keep q7
            clear L5 F5 q7 s0 s1
            go_wp2_with fail
            refine (lLooks (w.heap.size + 1) w.heap.size l5 _ _ _ _ ⟨L7.t, L7.f, L7.e, Below.refl _ _⟩ HS5.out HO5.out (by omega)).mono ?_
            rintro e w8 ⟨rfl, q8⟩
            have L8 := L7.keep q8
            have F8 := F7.keep q8
            clear L7 F7 q8
            go_wp2_with fail
            go_roundw
            case rel => exact ⟨j + 1, _, _, by omega, by omega, rfl, by go_num, by rw [HT.out]; exact L8, F8⟩
            case measure => simp [intOf]; omega
          · obtain ⟨nb, noff, rfl, hnb, hnc⟩ := hni (by omega)
            obtain ⟨nx, hnx, _, _⟩ := hnc (j % nn) (Nat.mod_lt _ (by omega))
            have n5 := (L5.q.cell (p := ⟨nb, noff + j % nn, none⟩) hnb).trans hnx
            have inn : (0 : Int) < (nn : Int) := by omega
            have hmn : ((j : Int) % (nn : Int)) = ((j % nn : Nat) : Int) := by omega
            have hmn2 : ((j % nn : Nat) : Int) < (nn : Int) := by have := Nat.mod_lt j (show 0 < nn by omega); omega
            clear hnc hnx
            generalize j % nn = mn at *
            have f0 := F5.c0
            have f1 := F5.c1
            have f2 := F5.c2
            go_wp2_with fail
            clear f0 f1 f2
            refine (lSame' _ _ _).mono ?_
            rintro e w7 ⟨rfl, q7⟩
            have L7 := L5.keep q7
            have F7 := F5.keep q7
            clear L5 F5 q7 s0 s1
            go_wp2_with fail
            refine (lLooks (w.heap.size + 1) w.heap.size l5 _ _ _ _ ⟨L7.t, L7.f, L7.e, Below.refl _ _⟩ HS5.out HO5.out (by omega)).mono ?_
            rintro e w8 ⟨rfl, q8⟩
            have L8 := L7.keep q8
            have F8 := F7.keep q8
            clear L7 F7 q8
            go_wp2_with fail
            go_roundw
            case rel => exact ⟨j + 1, _, _, by omega, by omega, rfl, by go_num, by rw [HT.out]; exact L8, F8⟩
            case measure => simp [intOf]; omega
        · obtain ⟨tb, toff, rfl, htb, htc⟩ := ht (by omega)
          obtain ⟨sx, hsx⟩ := htc (j % tn) (Nat.mod_lt _ (by omega))
          have t5 := (L5.q.cell (p := ⟨tb, toff + j % tn, none⟩) htb).trans hsx
          have itn : (0 : Int) < (tn : Int) := by omega
          have hmt : ((j : Int) % (tn : Int)) = ((j % tn : Nat) : Int) := by omega
          have hmt2 : ((j % tn : Nat) : Int) < (tn : Int) := by have := Nat.mod_lt j (show 0 < tn by omega); omega
          clear htc hsx
          generalize j % tn = mt at *
          by_cases hnn : nn = 0
          · subst hnn
            have f0 := F5.c0
            have f1 := F5.c1
            have f2 := F5.c2
            go_wp2_with fail
            clear f0 f1 f2
            refine (lSame' _ _ _).mono ?_
            rintro e w7 ⟨rfl, q7⟩
            have L7 := L5.keep q7
            have F7 := F5.keep q7
            clear L5 F5 q7 s0 s1
            go_wp2_with fail
            refine (lLooks (w.heap.size + 1) w.heap.size l5 _ _ _ _ ⟨L7.t, L7.f, L7.e, Below.refl _ _⟩ HS5.out HO5.out (by omega)).mono ?_
            rintro e w8 ⟨rfl, q8⟩
            have L8 := L7.keep q8
            have F8 := F7.keep q8
            clear L7 F7 q8
            go_wp2_with fail
            go_roundw
            case rel => exact ⟨j + 1, _, _, by omega, by omega, rfl, by go_num, by rw [HT.out]; exact L8, F8⟩
            case measure => simp [intOf]; omega
          · obtain ⟨nb, noff, rfl, hnb, hnc⟩ := hni (by omega)
            obtain ⟨nx, hnx, _, _⟩ := hnc (j % nn) (Nat.mod_lt _ (by omega))
            have n5 := (L5.q.cell (p := ⟨nb, noff + j % nn, none⟩) hnb).trans hnx
            have inn : (0 : Int) < (nn : Int) := by omega
            have hmn : ((j : Int) % (nn : Int)) = ((j % nn : Nat) : Int) := by omega
            have hmn2 : ((j % nn : Nat) : Int) < (nn : Int) := by have := Nat.mod_lt j (show 0 < nn by omega); omega
            clear hnc hnx
            generalize j % nn = mn at *
            have f0 := F5.c0
            have f1 := F5.c1
            have f2 := F5.c2
            go_wp2_with fail
            clear f0 f1 f2
            refine (lSame' _ _ _).mono ?_
            rintro e w7 ⟨rfl, q7⟩
            have L7 := L5.keep q7
            have F7 := F5.keep q7
            clear L5 F5 q7 s0 s1
            go_wp2_with fail
            refine (lLooks (w.heap.size + 1) w.heap.size l5 _ _ _ _ ⟨L7.t, L7.f, L7.e, Below.refl _ _⟩ HS5.out HO5.out (by omega)).mono ?_
            rintro e w8 ⟨rfl, q8⟩
            have L8 := L7.keep q8
            have F8 := F7.keep q8
            clear L7 F7 q8
            go_wp2_with fail
            go_roundw
            case rel => exact ⟨j + 1, _, _, by omega, by omega, rfl, by go_num, by rw [HT.out]; exact L8, F8⟩
            case measure => simp [intOf]; omega
      · have HA : aftD l dv dops = l := by unfold aftD; rw [HWK.out, if_neg hk]
        generalize aftD l dv dops = l5 at *
        obtain rfl : l5 = l := HA
        have L5 : TkI w (w.heap.size + 1) w.heap.size FA l5 _ _ := ⟨T4, C4, E4, Q4, HNN⟩
        have F5 := F4
        have s0 := r0
        have s1 := r1
        have HS5 := HS
        have HO5 := HO
        have hkb : (wk == 0) = false := by simpa using hk
        clear T4 C4 E4 Q4 F4 r0 r1 d0' d1' hops'
        by_cases htn : tn = 0
        · subst htn
          by_cases hnn : nn = 0
          · subst hnn
            have f0 := F5.c0
            have f1 := F5.c1
            have f2 := F5.c2
            go_wp2_with fail
            clear f0 f1 f2
            refine (lSame' _ _ _).mono ?_
            rintro e w7 ⟨rfl, q7⟩
            have L7 := L5.keep q7
            have F7 := F5.keep q7
            clear L5 F5 q7 s0 s1
            go_wp2_with fail
            refine (lLooks (w.heap.size + 1) w.heap.size l5 _ _ _ _ ⟨L7.t, L7.f, L7.e, Below.refl _ _⟩ HS5.out HO5.out (by omega)).mono ?_
            rintro e w8 ⟨rfl, q8⟩
            have L8 := L7.keep q8
            have F8 := F7.keep q8
            clear L7 F7 q8
            go_wp2_with fail
            go_roundw
            case rel => exact ⟨j + 1, _, _, by omega, by omega, rfl, by go_num, by rw [HT.out]; exact L8, F8⟩
            case measure => simp [intOf]; omega
          · obtain ⟨nb, noff, rfl, hnb, hnc⟩ := hni (by omega)
            obtain ⟨nx, hnx, _, _⟩ := hnc (j % nn) (Nat.mod_lt _ (by omega))
            have n5 := (L5.q.cell (p := ⟨nb, noff + j % nn, none⟩) hnb).trans hnx
            have inn : (0 : Int) < (nn : Int) := by omega
            have hmn : ((j : Int) % (nn : Int)) = ((j % nn : Nat) : Int) := by omega
            have hmn2 : ((j % nn : Nat) : Int) < (nn : Int) := by have := Nat.mod_lt j (show 0 < nn by omega); omega
            clear hnc hnx
            generalize j % nn = mn at *
            have f0 := F5.c0
            have f1 := F5.c1
            have f2 := F5.c2
            go_wp2_with fail
            clear f0 f1 f2
            refine (lSame' _ _ _).mono ?_
            rintro e w7 ⟨rfl, q7⟩
            have L7 := L5.keep q7
            have F7 := F5.keep q7
            clear L5 F5 q7 s0 s1
            go_wp2_with fail
            refine (lLooks (w.heap.size + 1) w.heap.size l5 _ _ _ _ ⟨L7.t, L7.f, L7.e, Below.refl _ _⟩ HS5.out HO5.out (by omega)).mono ?_
            rintro e w8 ⟨rfl, q8⟩
            have L8 := L7.keep q8
            have F8 := F7.keep q8
            clear L7 F7 q8
            go_wp2_with fail
            go_roundw
            case rel => exact ⟨j + 1, _, _, by omega, by omega, rfl, by go_num, by rw [HT.out]; exact L8, F8⟩
            case measure => simp [intOf]; omega
        · obtain ⟨tb, toff, rfl, htb, htc⟩ := ht (by omega)
          obtain ⟨sx, hsx⟩ := htc (j % tn) (Nat.mod_lt _ (by omega))
          have t5 := (L5.q.cell (p := ⟨tb, toff + j % tn, none⟩) htb).trans hsx
          have itn : (0 : Int) < (tn : Int) := by omega
          have hmt : ((j : Int) % (tn : Int)) = ((j % tn : Nat) : Int) := by omega
          have hmt2 : ((j % tn : Nat) : Int) < (tn : Int) := by have := Nat.mod_lt j (show 0 < tn by omega); omega
          clear htc hsx
          generalize j % tn = mt at *
          by_cases hnn : nn = 0
          · subst hnn
            have f0 := F5.c0
            have f1 := F5.c1
            have f2 := F5.c2
            go_wp2_with fail
            clear f0 f1 f2
            refine (lSame' _ _ _).mono ?_
            rintro e w7 ⟨rfl, q7⟩
            have L7 := L5.keep q7
            have F7 := F5.keep q7
            clear L5 F5 q7 s0 s1
            go_wp2_with fail
            refine (lLooks (w.heap.size + 1) w.heap.size l5 _ _ _ _ ⟨L7.t, L7.f, L7.e, Below.refl _ _⟩ HS5.out HO5.out (by omega)).mono ?_
            rintro e w8 ⟨rfl, q8⟩
            have L8 := L7.keep q8
            have F8 := F7.keep q8
            clear L7 F7 q8
            go_wp2_with fail
            go_roundw
            case rel => exact ⟨j + 1, _, _, by omega, by omega, rfl, by go_num, by rw [HT.out]; exact L8, F8⟩
            case measure => simp [intOf]; omega
          · obtain ⟨nb, noff, rfl, hnb, hnc⟩ := hni (by omega)
            obtain ⟨nx, hnx, _, _⟩ := hnc (j % nn) (Nat.mod_lt _ (by omega))
            have n5 := (L5.q.cell (p := ⟨nb, noff + j % nn, none⟩) hnb).trans hnx
            have inn : (0 : Int) < (nn : Int) := by omega
            have hmn : ((j : Int) % (nn : Int)) = ((j % nn : Nat) : Int) := by omega
            have hmn2 : ((j % nn : Nat) : Int) < (nn : Int) := by have := Nat.mod_lt j (show 0 < nn by omega); omega
            clear hnc hnx
            generalize j % nn = mn at *
            have f0 := F5.c0
            have f1 := F5.c1
            have f2 := F5.c2
            go_wp2_with fail
            clear f0 f1 f2
            refine (lSame' _ _ _).mono ?_
            rintro e w7 ⟨rfl, q7⟩
            have L7 := L5.keep q7
            have F7 := F5.keep q7
            clear L5 F5 q7 s0 s1
            go_wp2_with fail
            refine (lLooks (w.heap.size + 1) w.heap.size l5 _ _ _ _ ⟨L7.t, L7.f, L7.e, Below.refl _ _⟩ HS5.out HO5.out (by omega)).mono ?_
            rintro e w8 ⟨rfl, q8⟩
            have L8 := L7.keep q8
            have F8 := F7.keep q8
            clear L7 F7 q8
            go_wp2_with fail
            go_roundw
            case rel => exact ⟨j + 1, _, _, by omega, by omega, rfl, by go_num, by rw [HT.out]; exact L8, F8⟩
            case measure => simp [intOf]; omega
    · by_cases hlt2 : j < ds.length
      · have il : ((j : Nat) : Int) < (ds.length : Int) := by omega
        obtain rfl : j = 300 := by omega
        go_wp2_with fail
        refine (lLooks (w.heap.size + 1) w.heap.size _ _ _ _ _ ⟨L.t, L.f, L.e, Below.refl _ _⟩ HS.out HO.out (by omega)).mono ?_
        rintro e w8 ⟨rfl, q8⟩
        go_wp2
        go_ret
        exact ⟨rfl, below_trans L.q q8⟩
      · have il : ¬ ((j : Nat) : Int) < (ds.length : Int) := by omega
        go_wp2_with fail
        refine (lLooks (w.heap.size + 1) w.heap.size _ _ _ _ _ ⟨L.t, L.f, L.e, Below.refl _ _⟩ HS.out HO.out (by omega)).mono ?_
        rintro e w8 ⟨rfl, q8⟩
        go_wp2
        go_ret
        exact ⟨rfl, below_trans L.q q8⟩
end Go.Proofs.YtindifjhocgkbaaGreatDoor
