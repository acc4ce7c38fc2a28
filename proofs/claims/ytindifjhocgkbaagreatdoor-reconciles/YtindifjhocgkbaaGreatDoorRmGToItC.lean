import Derived.Test.YtindifjhocgkbaaGreatDoorItToRmS
import Derived.Test.YtindifjhocgkbaaGreatDoorFnd
namespace Go.Proofs.YtindifjhocgkbaaGreatDoor
open Go.RowKit Go.Shelf Go.Lib Go.Sort
def e3L (x : En) : List Value := [.int .i64 x.t, .string x.k, .string x.v]
set_option linter.unusedSectionVars false
variable [Inhabited En]
def cfE (x y : En) : Int := cmpK x.t x.k y.t y.k
theorem ltE (x y : En) : ltOf cfE x y = true ↔ cmpK x.t x.k y.t y.k < 0 := ⟨fun h => of_decide_eq_true h, fun h => decide_eq_true h⟩
theorem ltE' (x y : En) : ltOf cfE x y = false ↔ 0 ≤ cmpK x.t x.k y.t y.k := ⟨fun h => Int.not_lt.1 (of_decide_eq_false h), fun h => decide_eq_false (Int.not_lt.2 h)⟩
theorem swoE : SWO (ltOf cfE) where
  irrefl x := by rw [ltE', (cmpK_zero _ _ _ _).2 ⟨rfl, rfl⟩]; omega
  trans x y z h1 h2 := by rw [ltE] at *; exact cmpK_trans h1 h2
  ntrans x y z h1 h2 := by
    rw [ltE'] at *
    by_cases h3 : 0 ≤ cmpK x.t x.k z.t z.k
    · exact h3
    · exfalso
      have h3' : cmpK x.t x.k z.t z.k < 0 := by omega
      have e := cmpK_neg x.t x.k y.t y.k
      by_cases h4 : cmpK x.t x.k y.t y.k = 0
      · obtain ⟨a, b⟩ := (cmpK_zero _ _ _ _).1 h4
        rw [a, b] at h3'
        omega
      · have := cmpK_trans (show cmpK y.t y.k x.t x.k < 0 by omega) h3'
        omega
theorem grow3 (w : World) (a b c : Obj) : (((w.alloc a).alloc b).alloc c).drew = Sort.grow (w.drewN 1) #[a, b, c] := by
  rw [alloc_eq_grow, alloc_eq_grow, alloc_eq_grow, grow_grow, grow_grow]
  rfl
set_option maxRecDepth 100000 in
set_option maxHeartbeats 1000000 in
theorem eCompareG (t : Int) (k : ByteArray) (t' : Int) (k' : ByteArray) (w : World) :
    Calls Tryz.prog 137 #[.agg #[.int .i64 t, .string k], .agg #[.int .i64 t', .string k']] w fun e w' => e = .returned (.int .i64 (cmpK t k t' k')) ∧ ∃ os, w' = Sort.grow (w.drewN 1) os := by
  go_enter Tryz.func137, Tryz.ntmps137
  go_wp2_with fail
  refine region_tail 10 (by kernel_rfl) (by kernel_rfl) ?_
  simp only [List.take_succ_cons, List.take_zero, List.drop_succ_cons, List.drop_zero]
  still_step
  still_step
  still_step
  still_step
  still_call (cmpInt _ _ _)
  still_step
  still_step
  still_step
  still_step
  still_call (cmpStrings _ _ _)
  refine wpStill_nil ?_
  go_wp2_with (go_at_call 149; refine (cmpOr (cmpT t t') (cmpB k k') _ _ (World.cell?_alloc_at _ _ _ 0 (by simp)) (World.cell?_alloc_at _ _ _ 1 (by simp))).mono ?_; rintro e w1 ⟨rfl, rfl⟩)
  go_ret
  exact ⟨rfl, _, grow3 _ _ _ _⟩
set_option maxHeartbeats 1000000 in
theorem ordCmp (x y : En) (W : World) :
    Calls Tryz.prog 157 #[.agg (e3L x).toArray, .agg (e3L y).toArray] W fun e w' => e = .returned (.int .i64 (cfE x y)) ∧ ∃ q os', w' = Sort.grow (W.drewN q) os' := by
  unfold e3L
  go_enter Tryz.func157, Tryz.ntmps157
  go_wp2_with (go_at_call 137; refine (eCompareG x.t x.k y.t y.k _).mono ?_; rintro r w1 ⟨rfl, os, rfl⟩)
  go_ret
  refine ⟨rfl, 1, #[.cells #[.int .i64 x.t, .string x.k, .string x.v] 183] ++ (#[.cells #[.int .i64 y.t, .string y.k, .string y.v] 183] ++ os), ?_⟩
  rw [alloc_eq_grow, alloc_eq_grow]
  show Sort.grow (Sort.grow (Sort.grow (W.drewN 1) _) _) os = _
  rw [grow_grow, grow_grow]
theorem get_cells {w : World} {blk : Nat} {d : List En} (h : EnsAt w blk 0 d) {cur : Array Value} {t : TypeId} (hb : w.heap[blk]? = some (.cells cur t (0, 0))) : HoldsK e3L 3 w blk 0 d.toArray := by
  intro j hj
  rw [size_flatK] at hj
  refine ⟨?_, frozen_of_row w blk _ cur t hb⟩
  rw [get_flatK _ _ _ _ hj]
  simp only [List.size_toArray] at hj
  have hj3 : j / 3 < d.length := by omega
  have e1 : d.toArray[j / 3]! = d[j / 3] := by simp [hj3]
  rw [e1, Nat.zero_add]
  have c0 := h.c0 (j / 3) hj3
  have c1 := h.c1 (j / 3) hj3
  have c2 := h.c2 (j / 3) hj3
  simp only [Nat.zero_add] at c0 c1 c2
  rcases (show j % 3 = 0 ∨ j % 3 = 1 ∨ j % 3 = 2 by omega) with e | e | e
  · rw [e]
    have : j = j / 3 * 3 := by omega
    generalize j / 3 = q at *
    rw [this, c0]; rfl
  · rw [e]
    have : j = j / 3 * 3 + 1 := by omega
    generalize j / 3 = q at *
    rw [this, c1]; rfl
  · rw [e]
    have : j = j / 3 * 3 + 2 := by omega
    generalize j / 3 = q at *
    rw [this, c2]; rfl
theorem cells_get {w : World} {blk : Nat} {d : List En} (h : HoldsK e3L 3 w blk 0 d.toArray) : EnsAt w blk 0 d := by
  have key : ∀ i (hi : i < d.length) c, c < 3 → w.cell? ⟨blk, 0 + (i * 3 + c), none⟩ = some ((e3L d[i])[c]!) := fun i hi c hc => by
    have := (h (i * 3 + c) (by rw [size_flatK]; simp; omega)).1
    rw [get_flatK _ _ _ _ (by simp; omega)] at this
    rw [show (i * 3 + c) / 3 = i by omega, show (i * 3 + c) % 3 = c by omega] at this
    have e1 : d.toArray[i]! = d[i] := by simp [hi]
    rw [e1] at this
    exact this
  exact ⟨fun i hi => key i hi 0 (by omega), fun i hi => key i hi 1 (by omega), fun i hi => key i hi 2 (by omega)⟩
theorem sortW_block (w : World) (blk n : Nat) (d : Array En) (os : Array Obj) {cur : Array Value} {t : TypeId} {f : Nat × Nat} (hb : w.heap[blk]? = some (.cells cur t f)) :
    (∃ cur', (sortWorldK e3L 3 w blk 0 n d os).heap[blk]? = some (.cells cur' t f)) ∧ w.grownBy (sortWorldK e3L 3 w blk 0 n d os) (some blk) := by
  have hlt := (Array.getElem?_eq_some_iff.1 hb).1
  have hsz : (putRowK e3L 3 (Sort.ahead w n) blk 0 d).heap.size = w.heap.size := by simp [putRowK, putRow, mapBlock, Sort.ahead]
  have hm : ∀ k, (putRowK e3L 3 (Sort.ahead w n) blk 0 d).heap[k]? = if blk = k then (w.heap[k]?).map (onCells (putCells id 0 (flatK e3L 3 d))) else w.heap[k]? := fun k => by
    simp only [putRowK, putRow, mapBlock, Sort.ahead, Array.getElem?_modify]
  have hgr : ∀ k, k < w.heap.size → (sortWorldK e3L 3 w blk 0 n d os).heap[k]? = (putRowK e3L 3 (Sort.ahead w n) blk 0 d).heap[k]? := fun k hk => by
    simp only [sortWorldK, Sort.grow]
    rw [Array.getElem?_append_left (by rw [hsz]; exact hk)]
  refine ⟨⟨_, by rw [hgr blk hlt, hm, if_pos rfl, hb]; rfl⟩, ⟨rfl, rfl, rfl, ?_, fun k hk hne => ?_⟩⟩
  · simp only [sortWorldK, Sort.grow, Array.size_append, hsz]; omega
  · rw [hgr k hk, hm, if_neg (fun e => hne (by rw [e]))]
theorem Tryz.isAggE (w : World) : (isAgg 183).run Tryz.prog w = .ok true w := by kernel_rfl
theorem Tryz.sizeOfE (w : World) : (Go.sizeOf 183).run Tryz.prog w = .ok 3 w := by kernel_rfl
set_option maxRecDepth 100000 in
set_option maxHeartbeats 2000000 in
/-- The sort of a slice of entries. -/
theorem lSortE (blk cap : Nat) (d : List En) (w : World) {cur : Array Value} (hb : w.heap[blk]? = some (.cells cur 183 (0, 0))) (ha : EnsAt w blk 0 d) (hn : d.length ≤ 1000000) :
    Calls Tryz.prog 156 #[.slice (some ⟨blk, 0, none⟩) d.length cap, .func (.func 157) #[] #[]] w fun e w' =>
      e = .returned (.tuple #[]) ∧ ∃ d' : List En, d'.Perm d ∧ d'.Pairwise (fun a b => 0 ≤ cmpK b.t b.k a.t a.k) ∧ EnsAt w' blk 0 d' ∧ w.grownBy w' (some blk) ∧ ∃ cur', w'.heap[blk]? = some (.cells cur' 183 (0, 0)) := by
  have hH := get_cells ha hb
  have hblk := (Array.getElem?_eq_some_iff.1 hb).1
  have eg : ∀ args w, (callFunc 157 args).run Tryz.prog w = .ok (.enter 157 args) w := enters_of Tryz.func157 (by kernel_rfl) rfl
  have hlim : Lib.bitLen d.length < 4611686018427387904 := Nat.lt_of_le_of_lt (Lib.bitLen_le d.length 62 (by omega) (by omega)) (by omega)
  have hp := AnyQ.pdqsortCmpFunc_all (P := Tryz.prog) (ρ := pdqEn_ren) pdqEn 3 Tryz.isAggE Tryz.sizeOfE e3L cfE 157 #[] swoE blk 0 cap d.toArray w eg (fun _ _ _ _ x y => ordCmp x y _) ⟨fun _ => rfl, fun x v hv => by simp [e3L] at hv; rcases hv with rfl | rfl | rfl <;> rfl, hH, hblk⟩ (d.toArray.size + 1) 0 d.toArray.size (Lib.bitLen d.length) d.toArray w (by omega) rfl (SWK.start hH) (Nat.zero_le _) (Nat.le_refl _) (by simp; omega) hlim (Or.inl rfl)
  have hl : Calls Tryz.prog 162 #[.int .u64 (d.length : Int)] w fun e w' => e = .returned (.int .i64 (Lib.bitLen d.length : Nat)) ∧ w' = w := by
    have h := Any.bits_Len (SlLaysF0.n15.bits (P := Tryz.prog) (ρ := pdqEn_ren) { pdqEn with }) (d.length : Int) w (by omega) (by omega)
    rwa [Int.toNat_natCast] at h
  have hs := pdq_sorts (ltOf cfE) swoE d.toArray 0 d.toArray.size (Lib.bitLen d.length) true true (Nat.zero_le _) (Nat.le_refl _) (Or.inl rfl)
  change Calls Tryz.prog 161 _ _ _ at hp
  generalize pdq (ltOf cfE) d.toArray 0 d.toArray.size (Lib.bitLen d.length) true true = D at hp hs
  simp only [List.size_toArray] at hp hs
  have wr : IntKind.u64.wrap (d.length : Int) = d.length := by simp [IntKind.wrap, IntKind.bits, IntKind.signed]; omega
  clear hH
  go_enter Tryz.func156, Tryz.ntmps156
  go_wp2_with (first | (go_at_call 162; refine hl.mono ?_; rintro e w' ⟨rfl, rfl⟩) | (go_at_call 161; refine hp.mono ?_; rintro e w' ⟨rfl, n, os, rfl⟩))
  go_end0
  obtain ⟨⟨hD, _, hpm⟩, hso⟩ := hs
  simp only [List.size_toArray] at hD
  have e1 : D.extract 0 d.length = D := by rw [← hD]; simp
  have e2 : d.toArray.extract 0 d.length = d.toArray := by simp
  rw [e1, e2] at hpm
  obtain ⟨hc, hg⟩ := sortW_block w' blk n D os hb
  refine ⟨rfl, D.toList, by simpa using hpm, ?_, cells_get ?_, hg, hc⟩
  · rw [List.pairwise_iff_getElem]
    intro i j hi hj hij
    simp only [Array.length_toList] at hi hj
    have := hso i j (Nat.zero_le _) hij (by omega)
    rw [getElem!_pos D j hj, getElem!_pos D i hi, ltE'] at this
    simpa using this
  · have := holdsK_sortWorldK_c e3L 3 w' blk 0 d.toArray D n os (get_cells ha hb) hblk (by simpa using hD)
    simpa using this
/-- .. of no entries. -/
theorem lSortE0 (p : Option Addr) (cap : Nat) (w : World) :
    Calls Tryz.prog 156 #[.slice p 0 cap, .func (.func 157) #[] #[]] w fun e w' => e = .returned (.tuple #[]) ∧ w' = w := by
  have hp := AnyF.pdqsortCmpFunc_none (P := Tryz.prog) (ρ := pdqEn_ren) pdqEn p cap 0 (.func (.func 157) #[] #[]) w
  change Calls Tryz.prog 161 _ _ _ at hp
  have hl : Calls Tryz.prog 162 #[.int .u64 0] w fun e w' => e = .returned (.int .i64 0) ∧ w' = w := by
    have h := Any.bits_Len (SlLaysF0.n15.bits (P := Tryz.prog) (ρ := pdqEn_ren) { pdqEn with }) 0 w (by omega) (by omega)
    exact h
  go_enter Tryz.func156, Tryz.ntmps156
  go_wp2_with (first | (go_at_call 162; refine hl.mono ?_; rintro e w' ⟨rfl, rfl⟩) | (go_at_call 161; refine hp.mono ?_; rintro e w' ⟨rfl, rfl⟩))
  go_end0
  exact ⟨rfl, rfl⟩
end Go.Proofs.YtindifjhocgkbaaGreatDoor
namespace Go.Proofs.YtindifjhocgkbaaGreatDoor
open Go.RowKit Go.Shelf

attribute [local go_sem] Oper.semAt_some

/-- The sum that Size reckons. -/
def szW (es : List En) : Int := es.foldl (fun s e => wrap64 (s + wrap64 (wrap64 (1 + (e.k.size : Int)) + (e.v.size : Int)))) 0
theorem szW_snoc (pre : List En) (x : En) : szW (pre ++ [x]) = wrap64 (szW pre + wrap64 (wrap64 (1 + (x.k.size : Int)) + (x.v.size : Int))) := by simp [szW]
/-- A key in a box of its own. -/
def KBox (W : World) (B : Nat) (x : En) : Prop := W.heap[B]? = some (.cells #[.int .i64 x.t, .string x.k] 83 (0, 0))
theorem KBox.cells {W : World} {B : Nat} {x : En} (h : KBox W B x) : W.cell? ⟨B, 0, none⟩ = some (.int .i64 x.t) ∧ W.cell? ⟨B, 1, none⟩ = some (.string x.k) := by
  unfold KBox at h
  refine ⟨?_, ?_⟩ <;> simp [World.cell?, h]
theorem KBox.own {W W' : World} {B : Nat} {x : En} {row : Option Nat} (h : KBox W B x) (hg : W.grownBy W' row) (hr : ∀ r, row = some r → ∃ o : Obj, W.heap[r]? = some o ∧ o.isCells = false) : KBox W' B x := by
  unfold KBox at *
  rw [hg.block B (Array.getElem?_eq_some_iff.1 h).1 (fun e => by obtain ⟨o, h1, h2⟩ := hr B e.symm; rw [h] at h1; cases h1; simp [Obj.isCells] at h2)]
  exact h

set_option maxRecDepth 100000 in
set_option maxHeartbeats 2000000 in
theorem lSize_in (F : Fence) (n : Nat) (h1 : F.fn 100) (h2 : F.fn 81) (h3 : F.fn 107) (hro : F.round = none) (hn : 3 ≤ n) (a : Option Addr) (len cap : Nat) (es : List En) (hlen : es.length ≤ 1000000) (w : World) (hI : EnsIn w (.slice a len cap) es) :
    CallsIn F n Tryz.prog 100 #[.slice a len cap] w fun e W' => e = .returned (.int .i64 (szW es)) ∧ Below w.heap.size w W' := by
  have hn1 : 1 ≤ n := by omega
  refine callsIn_of_wp_marks Tryz.func100 rfl h1 ?_ hro
  simp only [Tryz.ntmps100, List.size_toArray, List.length_cons, List.length_nil, Nat.reduceAdd, Nat.reduceSub, Array.replicate_succ, Array.replicate_zero, List.push_toArray, List.append_toArray, List.nil_append, List.cons_append]
  gi_wp2_with (gi_at_call 81; refine (all_in F (n - 1) h2 hro _ _ _ _).mono ?_; rintro e w' ⟨rfl, rfl⟩)
  have bS := (Boxed.new w 3 (.int .i64 0)).alloc (.cells #[.slice a len cap] 112)
  have bN := Boxed.new (w.alloc (.cells #[.int .i64 0] 3)) 112 (.slice a len cap)
  simp only [World.size_alloc] at bN
  have hB0 : Below w.heap.size w ((w.alloc (.cells #[.int .i64 0] 3)).alloc (.cells #[.slice a len cap] 112)) := ((Below.refl _ w).alloc (Nat.le_refl _) _).alloc (by simp) _
  have hsz : ((w.alloc (.cells #[.int .i64 0] 3)).alloc (.cells #[.slice a len cap] 112)).heap.size = w.heap.size + 2 := by simp
  obtain ⟨W0, hW0⟩ : ∃ W0, (w.alloc (.cells #[.int .i64 0] 3)).alloc (.cells #[.slice a len cap] 112) = W0 := ⟨_, rfl⟩
  rw [hW0] at bS bN hB0 hsz ⊢
  clear hW0
  refine wpIn_rangeFunc_ownH hro hn1 (gf := 107) (lb := #[.pointer (some ⟨w.heap.size + 1, 0, none⟩)]) rfl h3 (enters_of Tryz.func107 (by kernel_rfl) rfl)
    (all_stops F (n - 1) h3 hro (by omega) (w.heap.size + 1) w.heap.size _ es hlen W0 (by omega) (by omega) bN.cell ((EnsBelow.of hI).keep hB0)) belowK_t (belowK_b (by omega)) (Below.refl _ _) (fun _ => rfl)
    (fun pre W => Boxed W w.heap.size 3 (.int .i64 (szW pre)) ∧ Below w.heap.size w W)
    (fun _ _ _ => False)
    (OwnFrom.and (Own.from (boxed_own _ _ _) _) (ownFrom_below (Nat.le_refl _) (by omega)))
    (fun _ _ _ _ _ hs _ _ => hs)
    ⟨bS, hB0⟩
    (fun x a' W => ∃ Bx, w.heap.size < Bx ∧ KBox W Bx x ∧ a' = { tmps := #[.slice a len cap, undef, .int .i64 0, .pointer (some ⟨w.heap.size, 0, none⟩), .pointer (some ⟨Bx, 0, none⟩), .string x.v, .slice a len cap, .func (.func 107) #[] #[.pointer (some ⟨w.heap.size + 1, 0, none⟩)], .agg #[.int .i64 x.t, .string x.k], .string x.v, undef, undef, undef, undef, undef, undef, undef, undef, undef, undef], defers := [] })
    (fun x a' _ X Y row hs hg hr => by obtain ⟨Bx, h1, h2, h3⟩ := hs; exact ⟨Bx, h1, h2.own hg (fun r e => (hr r e).2), h3⟩)
    ?assign ?body ?done ?stop
  case assign =>
    rintro l pre x W K ⟨bS1, hB1⟩ hK
    gi_wp2
    exact hK _ _ ((KeepsOthers.alloc _ _).from _) ((Below.refl _ W).alloc hB1.size _) ⟨bS1.alloc _, hB1.alloc hB1.size _⟩ ⟨W.heap.size, bS1.lt, heap_alloc_new _ _, rfl⟩
  case body =>
    rintro l pre x a' W hl _ ⟨bS1, hB1⟩ ⟨Bx, hBx, bX, rfl⟩ hlt
    have cS := bS1.cell
    have fS := bS1.frozen
    obtain ⟨cX0, cX1⟩ := bX.cells
    gi_wp2
    exact ⟨(KeepsOthers.setCell _ _ _).from _, (Below.refl _ W).setCell (p := ⟨w.heap.size, 0, none⟩) (Nat.le_refl _) _, by rw [szW_snoc]; exact bS1.set _, hB1.setCell (p := ⟨w.heap.size, 0, none⟩) (Nat.le_refl _) _⟩
  case done =>
    rintro D ys W hD rfl ⟨bS1, hB⟩ hK
    have cS := bS1.cell
    gi_wp2
    refine ⟨by simp, .inl ⟨_, _, rfl, run_takeDeferred hK, ?_⟩⟩
    exact ⟨_, results_tmp rfl _ _ _, rfl, hB.trans (belowK_b (w := w) (Nat.le_refl _) W D _ _ (by omega) hK rfl rfl)⟩
  case stop =>
    rintro D c pre W _ _ h _
    exact h.elim
end Go.Proofs.YtindifjhocgkbaaGreatDoor
namespace Go.Proofs.YtindifjhocgkbaaGreatDoor
open Go.RowKit Go.Shelf

theorem lSize (v : Value) (es : List En) (hlen : es.length ≤ 1000000) (w : World) (hI : EnsIn w v es) :
    Calls Tryz.prog 100 #[v] w fun e W' => e = .returned (.int .i64 (szW es)) ∧ Below w.heap.size w W' := by
  obtain ⟨a, len, cap, rfl⟩ : ∃ a len cap, v = .slice a len cap := by rcases hI with ⟨rfl, _⟩ | ⟨b, off, cap, rfl, _⟩ <;> exact ⟨_, _, _, rfl⟩
  exact (callsIn_wide (n := 3)).1 (lSize_in Fence.wide 3 trivial trivial trivial rfl (by omega) a len cap es hlen w hI)
theorem lAll (a : Option Addr) (len cap : Nat) (w : World) :
    Calls Tryz.prog 81 #[.slice a len cap] w fun e w' => e = .returned (.func (.func 107) #[] #[.pointer (some ⟨w.heap.size, 0, none⟩)]) ∧ w' = w.alloc (.cells #[.slice a len cap] 112) :=
  (callsIn_wide (n := 3)).1 (all_in Fence.wide 3 trivial rfl a len cap w)
set_option maxHeartbeats 1000000 in
theorem tSize (T : Nat) (l : List En) (w : World) (h : TabIs w T l) (hn : l.length ≤ 1000000) :
    Calls Tryz.prog 70 #[.pointer (some ⟨T, 0, none⟩)] w fun e w' => e = .returned (.int .i64 (szW l)) ∧ Below w.heap.size w w' := by
  obtain ⟨v, hb, ho⟩ := h.blk
  have tc : w.cell? ⟨T, 0, none⟩ = some v := by simp [World.cell?, hb]
  go_enter Tryz.func70, Tryz.ntmps70
  go_wp2_with fail
  refine (lSize v l hn _ (EnsIn.of_owns ho)).mono ?_
  rintro e w1 ⟨rfl, q1⟩
  go_wp2
  go_ret
  exact ⟨rfl, q1⟩
set_option maxHeartbeats 1000000 in
theorem fSize (F T : Nat) (l : List En) (w : World) (hF : w.cell? ⟨F, 0, none⟩ = some (.pointer (some ⟨T, 0, none⟩))) (h : TabIs w T l) (hn : l.length ≤ 1000000) :
    Calls Tryz.prog 39 #[.pointer (some ⟨F, 0, none⟩)] w fun e w' => e = .returned (.int .i64 (szW l)) ∧ Below w.heap.size w w' := by
  go_enter Tryz.func39, Tryz.ntmps39
  go_wp2_with fail
  refine (tSize T l _ h hn).mono ?_
  rintro e w1 ⟨rfl, q1⟩
  go_wp2
  go_ret
  exact ⟨rfl, q1⟩
set_option maxHeartbeats 1000000 in
theorem tEntries (T : Nat) (l : List En) (w : World) (h : TabIs w T l) :
    Calls Tryz.prog 55 #[.pointer (some ⟨T, 0, none⟩)] w fun e w' => ∃ v, e = .returned (.func (.func 107) #[] #[.pointer (some ⟨w.heap.size, 0, none⟩)]) ∧ w' = w.alloc (.cells #[v] 112) ∧ EnsIn w' v l ∧ w'.cell? ⟨w.heap.size, 0, none⟩ = some v := by
  obtain ⟨v, hb, ho⟩ := h.blk
  have tc : w.cell? ⟨T, 0, none⟩ = some v := by simp [World.cell?, hb]
  obtain ⟨a, len, cap, rfl⟩ := owns_slice ho
  go_enter Tryz.func55, Tryz.ntmps55
  go_wp2_with fail
  refine (lAll a len cap _).mono ?_
  rintro e w1 ⟨rfl, rfl⟩
  go_wp2
  go_ret
  exact ⟨_, rfl, rfl, EnsIn.of_owns (ho.alloc _), by simp⟩
end Go.Proofs.YtindifjhocgkbaaGreatDoor
