import Derived.Test.YtindifjhocgkbaaGreatDoorIt
namespace Go.Proofs.YtindifjhocgkbaaGreatDoor
open Go.RowKit Go.Shelf

attribute [local go_sem] Oper.semAt_some

/-- The sum that Size reckons. -/
def szW (es : List En) : Int := es.foldl (fun s e => wrap64 (s + wrap64 (wrap64 (1 + (e.k.size : Int)) + (e.v.size : Int)))) 0
theorem szW_snoc (pre : List En) (x : En) : szW (pre ++ [x]) = wrap64 (szW pre + wrap64 (wrap64 (1 + (x.k.size : Int)) + (x.v.size : Int))) := by simp [szW]
/-- A key in a box of its own. -/
def KBox (W : World) (B : Nat) (x : En) : Prop := W.heap[B]? = some (.cells #[.int .i64 x.t, .string x.k] 83 (0, 0))
theorem KBox.cells {W : World} {B : Nat} {x : En} (h : KBox W B x) : W.cell? ⟨B, 0, none⟩ = some (.int .i64 x.t) ∧ W.cell? ⟨B, 1, none⟩ = some (.string x.k) := by
  unfold KBox at h
  refine ⟨?_, ?_⟩ <;> simp [World.cell?, h]
theorem KBox.own {W W' : World} {B : Nat} {x : En} {row : Option Nat} (h : KBox W B x) (hg : W.grownBy W' row) (hr : ∀ r, row = some r → ∃ o : Obj, W.heap[r]? = some o ∧ o.isCells = false) : KBox W' B x := by
  unfold KBox at *
  rw [hg.block B (Array.getElem?_eq_some_iff.1 h).1 (fun e => by obtain ⟨o, h1, h2⟩ := hr B e.symm; rw [h] at h1; cases h1; simp [Obj.isCells] at h2)]
  exact h

set_option maxRecDepth 100000 in
set_option maxHeartbeats 2000000 in
theorem lSize_in (F : Fence) (n : Nat) (h1 : F.fn 100) (h2 : F.fn 81) (h3 : F.fn 107) (hro : F.round = none) (hn : 3 ≤ n) (a : Option Addr) (len cap : Nat) (es : List En) (hlen : es.length ≤ 1000000) (w : World) (hI : EnsIn w (.slice a len cap) es) :
    CallsIn F n Tryz.prog 100 #[.slice a len cap] w fun e W' => e = .returned (.int .i64 (szW es)) ∧ Below w.heap.size w W' := by
  have hn1 : 1 ≤ n := by omega
  refine callsIn_of_wp_marks Tryz.func100 rfl h1 ?_ hro
  simp only [Tryz.ntmps100, List.size_toArray, List.length_cons, List.length_nil, Nat.reduceAdd, Nat.reduceSub, Array.replicate_succ, Array.replicate_zero, List.push_toArray, List.append_toArray, List.nil_append, List.cons_append]
  gi_wp2_with (gi_at_call 81; refine (all_in F (n - 1) h2 hro _ _ _ _).mono ?_; rintro e w' ⟨rfl, rfl⟩)
  have bS := (Boxed.new w 3 (.int .i64 0)).alloc (.cells #[.slice a len cap] 112)
  have bN := Boxed.new (w.alloc (.cells #[.int .i64 0] 3)) 112 (.slice a len cap)
  simp only [World.size_alloc] at bN
  have hB0 : Below w.heap.size w ((w.alloc (.cells #[.int .i64 0] 3)).alloc (.cells #[.slice a len cap] 112)) := ((Below.refl _ w).alloc (Nat.le_refl _) _).alloc (by simp) _
  have hsz : ((w.alloc (.cells #[.int .i64 0] 3)).alloc (.cells #[.slice a len cap] 112)).heap.size = w.heap.size + 2 := by simp
  obtain ⟨W0, hW0⟩ : ∃ W0, (w.alloc (.cells #[.int .i64 0] 3)).alloc (.cells #[.slice a len cap] 112) = W0 := ⟨_, rfl⟩
  rw [hW0] at bS bN hB0 hsz ⊢
  clear hW0
  refine wpIn_rangeFunc_ownH hro hn1 (gf := 107) (lb := #[.pointer (some ⟨w.heap.size + 1, 0, none⟩)]) rfl h3 (enters_of Tryz.func107 (by kernel_rfl) rfl)
    (all_stops F (n - 1) h3 hro (by omega) (w.heap.size + 1) w.heap.size _ es hlen W0 (by omega) (by omega) bN.cell ((EnsBelow.of hI).keep hB0)) belowK_t (belowK_b (by omega)) (Below.refl _ _) (fun _ => rfl)
    (fun pre W => Boxed W w.heap.size 3 (.int .i64 (szW pre)) ∧ Below w.heap.size w W)
    (fun _ _ _ => False)
    (OwnFrom.and (Own.from (boxed_own _ _ _) _) (ownFrom_below (Nat.le_refl _) (by omega)))
    (fun _ _ _ _ _ hs _ _ => hs)
    ⟨bS, hB0⟩
    (fun x a' W => ∃ Bx, w.heap.size < Bx ∧ KBox W Bx x ∧ a' = { tmps := #[.slice a len cap, undef, .int .i64 0, .pointer (some ⟨w.heap.size, 0, none⟩), .pointer (some ⟨Bx, 0, none⟩), .string x.v, .slice a len cap, .func (.func 107) #[] #[.pointer (some ⟨w.heap.size + 1, 0, none⟩)], .agg #[.int .i64 x.t, .string x.k], .string x.v, undef, undef, undef, undef, undef, undef, undef, undef, undef, undef], defers := [] })
    (fun x a' _ X Y row hs hg hr => by obtain ⟨Bx, h1, h2, h3⟩ := hs; exact ⟨Bx, h1, h2.own hg (fun r e => (hr r e).2), h3⟩)
    ?assign ?body ?done ?stop
  case assign =>
    rintro l pre x W K ⟨bS1, hB1⟩ hK
    gi_wp2
    exact hK _ _ ((KeepsOthers.alloc _ _).from _) ((Below.refl _ W).alloc hB1.size _) ⟨bS1.alloc _, hB1.alloc hB1.size _⟩ ⟨W.heap.size, bS1.lt, heap_alloc_new _ _, rfl⟩
  case body =>
    rintro l pre x a' W hl _ ⟨bS1, hB1⟩ ⟨Bx, hBx, bX, rfl⟩ hlt
    have cS := bS1.cell
    have fS := bS1.frozen
    obtain ⟨cX0, cX1⟩ := bX.cells
    gi_wp2
    exact ⟨(KeepsOthers.setCell _ _ _).from _, (Below.refl _ W).setCell (p := ⟨w.heap.size, 0, none⟩) (Nat.le_refl _) _, by rw [szW_snoc]; exact bS1.set _, hB1.setCell (p := ⟨w.heap.size, 0, none⟩) (Nat.le_refl _) _⟩
  case done =>
    rintro D ys W hD rfl ⟨bS1, hB⟩ hK
    have cS := bS1.cell
    gi_wp2
    refine ⟨by simp, .inl ⟨_, _, rfl, run_takeDeferred hK, ?_⟩⟩
    exact ⟨_, results_tmp rfl _ _ _, rfl, hB.trans (belowK_b (w := w) (Nat.le_refl _) W D _ _ (by omega) hK rfl rfl)⟩
  case stop =>
    rintro D c pre W _ _ h _
    exact h.elim
end Go.Proofs.YtindifjhocgkbaaGreatDoor
