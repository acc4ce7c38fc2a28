import Derived.Test.YtindifjhocgkbaaGreatDoorItToRmS
import Derived.Test.YtindifjhocgkbaaGreatDoorRmGToItC
import Derived.Test.YtindifjhocgkbaaGreatDoorItD
import Derived.Test.YtindifjhocgkbaaGreatDoorLstB
import Derived.Test.YtindifjhocgkbaaGreatDoorErrCToKit
import Derived.Test.YtindifjhocgkbaaGreatDoorChdToTab
import Derived.Test.YtindifjhocgkbaaGreatDoorRmBToNum
namespace Go.Proofs.YtindifjhocgkbaaGreatDoor
open Go.RowKit Go.ChangeMaps Go.MapKept Go.WideShapes Go.WideMaps Go.Shelf
attribute [local go_sem] Oper.semAt_some
/-- A slice of entries in a block of its own kind. -/
def EnsT (w : World) (v : Value) (l : List En) : Prop := (v = .slice none 0 0 ∧ l = []) ∨ ∃ b cap cur, v = .slice (some ⟨b, 0, none⟩) l.length cap ∧ w.heap[b]? = some (.cells cur 183 (0, 0)) ∧ EnsAt w b 0 l
theorem EnsT.in {w : World} {v : Value} {l : List En} (h : EnsT w v l) : EnsIn w v l := by
  rcases h with h | ⟨b, cap, cur, rfl, hb, ha⟩
  · exact .inl h
  · exact .inr ⟨b, 0, cap, rfl, (Array.getElem?_eq_some_iff.1 hb).1, ha⟩
theorem EnsT.of_block {w w' : World} {v : Value} {l : List En} (h : EnsT w v l) (hb : ∀ (i : Nat) (c : Array Value) (f : Nat × Nat), w.heap[i]? = some (Obj.cells c 183 f) → w'.heap[i]? = some (Obj.cells c 183 f)) : EnsT w' v l := by
  rcases h with h | ⟨b, cap, cur, rfl, hc, ha⟩
  · exact .inl h
  · have e := (hb b cur (0, 0) hc).trans hc.symm
    exact .inr ⟨b, cap, cur, rfl, hb _ _ _ hc, ⟨fun j hj => (World.cell?_of_block (a := ⟨b, 0 + j * 3, none⟩) e).trans (ha.c0 j hj), fun j hj => (World.cell?_of_block (a := ⟨b, 0 + j * 3 + 1, none⟩) e).trans (ha.c1 j hj), fun j hj => (World.cell?_of_block (a := ⟨b, 0 + j * 3 + 2, none⟩) e).trans (ha.c2 j hj)⟩⟩
theorem EnsT.hk {n0 : Nat} {w w' : World} {v : Value} {l : List En} (h : EnsT w v l) (k : HK n0 w w') : EnsT w' v l := h.of_block (fun i c f e => k.far i c _ f e (by decide) (by decide))
theorem EnsT.keep {w w' : World} {v : Value} {l : List En} (h : EnsT w v l) (q : Below w.heap.size w w') : EnsT w' v l := h.of_block (fun i _ _ e => (q.block i (Array.getElem?_eq_some_iff.1 e).1).trans e)
theorem EnsT.of_owns {w : World} {base : Nat} {v : Value} {l : List En} (h : w.ownsRow base 183 3 v l.length (cellsE l)) : EnsT w v l := by
  rcases EnsIn.of_owns h with h' | ⟨b, off, cap, rfl, hb, ha⟩
  · exact .inl h'
  · rcases h.2 with ⟨e, _⟩ | ⟨g, cap', cur, e, _, hg, _⟩
    · cases e
    · simp only [Value.slice.injEq, Option.some.injEq, Addr.mk.injEq] at e
      obtain ⟨⟨rfl, rfl, _⟩, _, rfl⟩ := e
      exact .inr ⟨b, cap, cur, rfl, hg, ha⟩
/-- The one list in order. -/
theorem sorted_is {d es : List En} (hs : Srt es) (hp : d.Perm es) (hd : d.Pairwise (fun a b => 0 ≤ cmpK b.t b.k a.t a.k)) : d = es := by
  refine srt_perm ?_ hs hp
  have h1 : es.Pairwise (fun a b => cmpK a.t a.k b.t b.k ≠ 0) := hs.imp (fun h => by omega)
  have h2 : d.Pairwise (fun a b => cmpK a.t a.k b.t b.k ≠ 0) := (hp.pairwise_iff (fun {a b} h e => h (by rw [cmpK_neg, e]; rfl))).2 h1
  refine (hd.and h2).imp (fun {a b} h => ?_)
  have := cmpK_neg a.t a.k b.t b.k
  omega
theorem three_newE (W : World) (x : En) : ∀ j u, (e3 x)[j]? = some u → (W.alloc (.cells #[.int .i64 x.t, .string x.k, .string x.v] 183)).cell? ((⟨W.heap.size, 0, none⟩ : Addr).add j) = some u := by
  intro j u hj
  rw [Addr.add_lit, Nat.zero_add, World.cell?_alloc_at _ _ _ j rfl]
  simpa [e3] using hj
theorem Tryz.infoEnt : (Tryz.prog.info? 183).map (fun i => (i.zero, i.size, i.bytes)) = some (some (.agg #[.int .i64 0, .string ⟨#[]⟩, .string ⟨#[]⟩]), 3, 40) := by kernel_rfl
set_option maxRecDepth 100000 in
set_option maxHeartbeats 2000000 in
theorem lOrdered (Bp H M : Nat) (es : List En) (w : World) (hp : w.cell? ⟨Bp, 0, none⟩ = some (.pointer (some ⟨H, 0, none⟩))) (hH : w.cell? ⟨H, 10, none⟩ = some (.map (some M))) (hm : MapIs w M es) (hs : Srt es) (hn : es.length ≤ 100000) :
    Calls Tryz.prog 147 #[.func (.func 200) #[] #[.pointer (some ⟨Bp, 0, none⟩)]] w fun e w' => ∃ v, e = .returned v ∧ EnsT w' v es ∧ Below w.heap.size w w' := by
  have inhE : Inhabited En := ⟨⟨0, ⟨#[]⟩, ⟨#[]⟩⟩⟩
  refine (callsIn_wide (n := 5)).1 ?_
  refine callsIn_of_wp_marks Tryz.func147 rfl trivial ?_ rfl
  simp only [Tryz.ntmps147, List.size_toArray, List.length_cons, List.length_nil, Nat.reduceAdd, Nat.reduceSub, Array.replicate_succ, Array.replicate_zero, List.push_toArray, List.append_toArray, List.nil_append, List.cons_append]
  gi_wp2
  obtain ⟨i0, hi0, hz0, hz1, hz2⟩ := info_parts Tryz.infoEnt
  have bL := Boxed.new w 112 (.slice none 0 0)
  have q0 := below_alloc w (.cells #[.slice none 0 0] 112)
  have hr0 : (w.alloc (.cells #[.slice none 0 0] 112)).ownsRow w.heap.size 183 3 (.slice none 0 0) 0 [] := World.ownsRow_nil _ _ _ _
  have hsz : (w.alloc (.cells #[.slice none 0 0] 112)).heap.size = w.heap.size + 1 := by simp
  have hpa := (q0.cell (p := ⟨Bp, 0, none⟩) (cell_lt hp)).trans hp
  have hHa := (q0.cell (p := ⟨H, 10, none⟩) (cell_lt hH)).trans hH
  have hma := hm.kept (q0.block M hm.lt)
  generalize w.alloc (.cells #[.slice none 0 0] 112) = W0 at *
  refine wpIn_rangeFunc_ownH rfl (by omega) (gf := 200) (lb := #[.pointer (some ⟨Bp, 0, none⟩)]) rfl trivial (enters_of Tryz.func200 (by kernel_rfl) rfl)
    (dump_stops Fence.wide (5 - 1) trivial rfl (by omega) Bp H M es W0 hpa hHa hma) walksK_t (walksK_b (w := W0)) (Below.refl _ _) (fun _ => rfl)
    (fun pre W => (∃ y, Boxed W w.heap.size 112 y ∧ W.ownsRow w.heap.size 183 3 y pre.length (cellsE pre) ∧ True) ∧ Below w.heap.size w W)
    (fun _ _ _ => False)
    (OwnFrom.and (Own.from (holdsRow_own w.heap.size w.heap.size 112 183 3 (fun pre : List En => pre.length) (fun pre => cellsE pre) (fun _ _ => True)) _) (ownFrom_below (Nat.le_refl _) (by omega)))
    (fun _ _ _ _ _ hs _ _ => hs)
    ⟨⟨_, bL, hr0, trivial⟩, q0⟩
    (fun x a' W => ∃ Bx, w.heap.size < Bx ∧ KBox W Bx x ∧ a' = { tmps := #[.func (.func 200) #[] #[.pointer (some ⟨Bp, 0, none⟩)], undef, .slice none 0 0, .pointer (some ⟨w.heap.size, 0, none⟩), .pointer (some ⟨Bx, 0, none⟩), .string x.v, .func (.func 200) #[] #[.pointer (some ⟨Bp, 0, none⟩)], .agg #[.int .i64 x.t, .string x.k], .string x.v, undef, undef, undef, undef, undef, undef, undef, undef, undef], defers := [] })
    (fun x a' _ X Y row hs hg hr => by obtain ⟨Bx, h1, h2, h3⟩ := hs; exact ⟨Bx, h1, h2.own hg (fun r e => (hr r e).2), h3⟩)
    ?assign ?body ?done ?stop
  case assign =>
    rintro l pre x W K ⟨⟨y, bL1, hr1, _⟩, hB1⟩ hK
    gi_wp2
    exact hK _ _ ((KeepsOthers.alloc _ _).from _) (KeepsWalks.alloc _ _) ⟨⟨y, bL1.alloc _, hr1.alloc _, trivial⟩, hB1.alloc hB1.size _⟩ ⟨W.heap.size, bL1.lt, heap_alloc_new _ _, rfl⟩
  case body =>
    rintro l pre x a' W hl _ ⟨⟨y, bL1, hr1, _⟩, hB1⟩ ⟨Bx, hBx, bX, rfl⟩ hlt
    have cL := bL1.cell
    have fL := bL1.frozen
    obtain ⟨cX0, cX1⟩ := bX.cells
    have hsW := hB1.size
    gi_wp2_with (gi_at_builtin; refine wpListIn_append_own _ rfl _ _ 112 rfl w.heap.size 183 i0 (.agg #[.int .i64 0, .string ⟨#[]⟩, .string ⟨#[]⟩]) 3 40 Tryz.underlying112 hi0 hz0 hz1 hz2 rfl (by decide) _ _ _ rfl (hr1.alloc _) ⟨W.heap.size, 0, none⟩ 1 1 (e3 x) rfl rfl (three_newE W x) (e3_one x) (by unfold maxLen; omega) (by omega) (by simp; omega) ?_; intro v' w1 hown' hgrow _; obtain ⟨g', cap', rfl⟩ := ownsRow_succ hown'; obtain ⟨hv1, hv2, hr2, hk2, hb2⟩ := bL1.appended (by decide) hr1 hsW (Nat.le_refl _) hown' hgrow; have hc1 := hv1.cell; have hf1 := hv1.frozen)
    exact ⟨hk2.from _, hk2.walks, ⟨_, hv2, by rw [cells_snoc, show (pre ++ [x]).length = pre.length + 1 by simp]; exact hr2, trivial⟩, hB1.trans hb2⟩
  case done =>
    rintro D ys W hD hpm ⟨⟨y, bL1, hr1, _⟩, hB⟩ hK
    have cL := bL1.cell
    have hsW := hB.size
    have hlen := hpm.length_eq
    rcases EnsT.of_owns hr1 with ⟨rfl, rfl⟩ | ⟨b, cap, cur, rfl, hb, ha⟩
    · obtain rfl : es = [] := List.eq_nil_of_length_eq_zero (by simpa using hlen.symm)
      gi_wp2
      refine ⟨trivial, ?_⟩
      refine (callsIn_wide.2 (lSortE0 none 0 W)).mono ?_
      rintro e W5 ⟨rfl, rfl⟩
      gi_wp2
      refine ⟨by simp, .inl ⟨_, _, rfl, run_takeDeferred hK, ?_⟩⟩
      exact ⟨_, results_tmp rfl _ _ _, _, rfl, .inl ⟨rfl, rfl⟩, hB.trans (belowK_b (w := w) (Nat.le_refl _) _ D _ _ (by omega) hK rfl rfl)⟩
    · have hle : ys.length ≤ 1000000 := by omega
      have HP : Hid (ys.Perm es) := hpm
      clear hlen hpm
      gi_wp2
      refine ⟨trivial, ?_⟩
      refine (callsIn_wide.2 (lSortE b cap ys W hb ha hle)).mono ?_
      rintro e W5 ⟨rfl, d', hp5, hd5, ha5, hg5, cur5, hb5⟩
      have hbw : w.heap.size < b := by
        rcases hr1.2 with ⟨e, _⟩ | ⟨g, cap', cur', e, hbg, hg, _⟩
        · cases e
        · simp only [Value.slice.injEq, Option.some.injEq, Addr.mk.injEq] at e
          obtain ⟨⟨rfl, _⟩, _⟩ := e
          have : b ≠ w.heap.size := fun e => by
            unfold Boxed at bL1
            rw [e, bL1] at hg; cases hg
          omega
      have bL5 : Boxed W5 w.heap.size 112 (.slice (some ⟨b, 0, none⟩) ys.length cap) := (hg5.block _ bL1.lt (fun e => by cases e; omega)).trans bL1
      have cL5 := bL5.cell
      have hK5 : W5.heap[D]? = some (.deferred (some [])) := (hg5.block D (Array.getElem?_eq_some_iff.1 hK).1 (fun e => by cases e; rw [hb] at hK; cases hK)).trans hK
      gi_wp2
      refine ⟨by simp, .inl ⟨_, _, rfl, run_takeDeferred hK5, ?_⟩⟩
      have hl5 := hp5.length_eq
      have hB5 : Below w.heap.size w W5 := hB.grown hg5 hsW (fun k e => by cases e; omega)
      obtain rfl := sorted_is hs (hp5.trans HP.out) hd5
      have hE5 : EnsT W5 (.slice (some ⟨b, 0, none⟩) ys.length cap) d' := .inr ⟨b, cap, cur5, by rw [hl5], hb5, ha5⟩
      exact ⟨_, results_tmp rfl _ _ _, _, rfl, hE5.of_block (fun i c f e => (World.putObj_heap_other (fun e1 => by rw [e1, hK5] at e; cases e)).trans e), hB5.trans (belowK_b (w := w) (Nat.le_refl _) _ D _ _ (by omega) hK5 rfl rfl)⟩
  case stop =>
    rintro D c pre W _ _ h _
    exact h.elim
end Go.Proofs.YtindifjhocgkbaaGreatDoor
namespace Go.Proofs.YtindifjhocgkbaaGreatDoor
open Go.RowKit

theorem num4 (a : ByteArray) : num a 4 = ((bt a 0 * 256 + bt a 1) * 256 + bt a 2) * 256 + bt a 3 := by simp [num]
theorem numN_lt (a : ByteArray) : numN a < 4294967296 := by
  have h := num4 a; have h0 := bt_lo a 0; have h1 := bt_lo a 1; have h2 := bt_lo a 2; have h3 := bt_lo a 3
  unfold numN; omega
theorem num_inj {a b : ByteArray} (h : num a 4 = num b 4) : bt a 0 = bt b 0 ∧ bt a 1 = bt b 1 ∧ bt a 2 = bt b 2 ∧ bt a 3 = bt b 3 := by
  rw [num4, num4] at h
  have a0 := bt_lo a 0; have a1 := bt_lo a 1; have a2 := bt_lo a 2; have a3 := bt_lo a 3
  have b0 := bt_lo b 0; have b1 := bt_lo b 1; have b2 := bt_lo b 2; have b3 := bt_lo b 3
  omega
theorem ba_bt {a b : ByteArray} (hs : a.size = b.size) (h : ∀ i, i < a.size → bt a i = bt b i) : a = b := by
  refine ba_ext' (List.ext_getElem (by rw [Array.length_toList, Array.length_toList]; exact hs) fun i h1 h2 => ?_)
  have hi : i < a.size := by simpa using h1
  have := h i hi
  unfold bt at this
  rw [List.getD_eq_getElem?_getD, List.getD_eq_getElem?_getD, List.getElem?_eq_getElem h1, List.getElem?_eq_getElem h2] at this
  simp only [Option.getD_some] at this
  exact UInt8.toNat_inj.1 (by omega)

/-- The address's first n bits, noughts behind them. -/
def rkN (a : ByteArray) (n : Nat) : Nat := numN a / 2 ^ (32 - n) * 2 ^ (32 - n)
def rk (a : ByteArray) (n : Nat) : ByteArray := baOf [((rkN a n / 16777216 % 256 : Nat) : Int), ((rkN a n / 65536 % 256 : Nat) : Int), ((rkN a n / 256 % 256 : Nat) : Int), ((rkN a n % 256 : Nat) : Int), (n : Int)]
theorem rkN_lt (a : ByteArray) (n : Nat) : rkN a n < 4294967296 := Nat.lt_of_le_of_lt (Nat.div_mul_le_self _ _) (numN_lt a)
theorem rk_size (a : ByteArray) (n : Nat) : (rk a n).size = 5 := baOf_size _
theorem rk_bt (a : ByteArray) (n : Nat) (h : n ≤ 32) : bt (rk a n) 0 = ((rkN a n / 16777216 % 256 : Nat) : Int) ∧ bt (rk a n) 1 = ((rkN a n / 65536 % 256 : Nat) : Int) ∧ bt (rk a n) 2 = ((rkN a n / 256 % 256 : Nat) : Int) ∧ bt (rk a n) 3 = ((rkN a n % 256 : Nat) : Int) ∧ bt (rk a n) 4 = n := by
  unfold rk
  refine ⟨?_, ?_, ?_, ?_, ?_⟩
  · rw [bt_baOf _ 0 (by simp) (by simp; omega)]; rfl
  · rw [bt_baOf _ 1 (by simp) (by simp; omega)]; rfl
  · rw [bt_baOf _ 2 (by simp) (by simp; omega)]; rfl
  · rw [bt_baOf _ 3 (by simp) (by simp; omega)]; rfl
  · rw [bt_baOf _ 4 (by simp) (by simp; omega)]; rfl
theorem rk_num (a : ByteArray) (n : Nat) (h : n ≤ 32) : num (rk a n) 4 = ((rkN a n : Nat) : Int) := by
  obtain ⟨h0, h1, h2, h3, _⟩ := rk_bt a n h
  have := rkN_lt a n
  rw [num4, h0, h1, h2, h3]; omega
theorem key1_is {k : ByteArray} (h : keyB 1 k = true) : k.size = 5 ∧ bt k 4 ≤ 32 ∧ num k 4 * 2 ^ (bt k 4).toNat % 4294967296 = 0 := by
  by_cases hs : k.size = 5
  · rw [keyB_1 hs] at h; simp at h; exact ⟨hs, h.1, h.2⟩
  · rw [keyB_no (by omega) (by omega) (by simp [kbN]; omega)] at h; simp at h
theorem rk_iff {k a : ByteArray} (hk : keyB 1 k = true) {n : Nat} (hn : n ≤ 32) : k = rk a n ↔ bt k 4 = n ∧ numN k / 2 ^ (32 - n) = numN a / 2 ^ (32 - n) := by
  have hp : 0 < 2 ^ (32 - n) := Nat.pow_pos (by decide)
  constructor
  · rintro rfl
    refine ⟨(rk_bt a n hn).2.2.2.2, ?_⟩
    have : numN (rk a n) = rkN a n := by unfold numN; rw [rk_num a n hn]; simp
    rw [this]; exact Nat.mul_div_cancel _ hp
  · rintro ⟨h4, hd⟩
    obtain ⟨hs, hl, hz⟩ := key1_is hk
    have e4 : (bt k 4).toNat = n := by omega
    rw [e4, ← numN_eq] at hz
    have hz' : numN k * 2 ^ n % 4294967296 = 0 := by
      have e : ((numN k * 2 ^ n : Nat) : Int) = (numN k : Int) * 2 ^ n := by rw [Int.natCast_mul, Int.natCast_pow]; rfl
      rw [← e] at hz
      generalize numN k * 2 ^ n = X at *
      omega
    have h0 := (num_split (numN k) n hn).2 hz'
    have hN : numN k = rkN a n := by
      unfold rkN; rw [← hd]
      have := Nat.div_add_mod (numN k) (2 ^ (32 - n))
      rw [h0, Nat.add_zero, Nat.mul_comm] at this; exact this.symm
    have hnum : num k 4 = num (rk a n) 4 := by rw [rk_num a n hn, ← numN_eq, hN]
    obtain ⟨i0, i1, i2, i3⟩ := num_inj hnum
    refine ba_bt (by rw [hs, rk_size]) fun i hi => ?_
    rw [hs] at hi
    match i, hi with
    | 0, _ => exact i0
    | 1, _ => exact i1
    | 2, _ => exact i2
    | 3, _ => exact i3
    | 4, _ => rw [h4, (rk_bt a n hn).2.2.2.2]

/-- The longest route, from a length down. -/
def rtTo (a : ByteArray) (l : List En) : Nat → Option ByteArray
  | 0 => got 1 (rk a 0) l
  | n + 1 => match got 1 (rk a (n + 1)) l with | some v => some v | none => rtTo a l n
/-- An entry is a route of length n that holds for the address. -/
def holdsR (a : ByteArray) (e : En) (n : Nat) : Prop := e.t = 1 ∧ bt e.k 4 = n ∧ numN e.k / 2 ^ (32 - n) = numN a / 2 ^ (32 - n)
theorem got_rk {a : ByteArray} {l : List En} (hs : Srt l) (ho : Ok l) {n : Nat} (hn : n ≤ 32) {v : ByteArray} : got 1 (rk a n) l = some v ↔ ∃ e ∈ l, holdsR a e n ∧ e.v = v := by
  rw [got_mem hs]
  constructor
  · rintro ⟨e, he, ht, hk, hv⟩
    have hb := (ho e he).2.1
    rw [ht] at hb
    exact ⟨e, he, ⟨ht, (rk_iff hb hn).1 hk⟩, hv⟩
  · rintro ⟨e, he, ⟨ht, h1⟩, hv⟩
    have hb := (ho e he).2.1
    rw [ht] at hb
    exact ⟨e, he, ht, (rk_iff hb hn).2 h1, hv⟩
theorem got_rk_none {a : ByteArray} {l : List En} (hs : Srt l) (ho : Ok l) {n : Nat} (hn : n ≤ 32) : got 1 (rk a n) l = none ↔ ∀ e ∈ l, ¬ holdsR a e n := by
  constructor
  · intro h e he hh
    have := (got_rk hs ho hn).2 ⟨e, he, hh, rfl⟩
    rw [h] at this; simp at this
  · intro h
    cases hg : got 1 (rk a n) l with
    | none => rfl
    | some v => obtain ⟨e, he, hh, _⟩ := (got_rk hs ho hn).1 hg; exact absurd hh (h e he)
theorem rtTo_some {a : ByteArray} {l : List En} (hs : Srt l) (ho : Ok l) {e : En} (he : e ∈ l) {n m : Nat} (hh : holdsR a e n) (hnm : n ≤ m) (hm : m ≤ 32) (hmax : ∀ x ∈ l, ∀ i, n < i → i ≤ m → ¬ holdsR a x i) : rtTo a l m = some e.v := by
  induction m with
  | zero =>
    obtain rfl : n = 0 := by omega
    exact (got_rk hs ho (by omega)).2 ⟨e, he, hh, rfl⟩
  | succ m ih =>
    rw [rtTo]
    by_cases h : n = m + 1
    · subst h
      rw [(got_rk hs ho hm).2 ⟨e, he, hh, rfl⟩]
    · rw [(got_rk_none hs ho hm).2 fun x hx => hmax x hx (m + 1) (by omega) (Nat.le_refl _)]
      exact ih (by omega) (by omega) fun x hx i h1 h2 => hmax x hx i h1 (by omega)
theorem rtTo_none {a : ByteArray} {l : List En} (hs : Srt l) (ho : Ok l) {m : Nat} (hm : m ≤ 32) (h : ∀ x ∈ l, ∀ i, i ≤ m → ¬ holdsR a x i) : rtTo a l m = none := by
  induction m with
  | zero => exact (got_rk_none hs ho (by omega)).2 fun x hx => h x hx 0 (by omega)
  | succ m ih =>
    rw [rtTo, (got_rk_none hs ho hm).2 fun x hx => h x hx (m + 1) (Nat.le_refl _)]
    exact ih (by omega) fun x hx i hi => h x hx i (by omega)
end Go.Proofs.YtindifjhocgkbaaGreatDoor
namespace Go.Proofs.YtindifjhocgkbaaGreatDoor
open Go.RowKit

set_option maxRecDepth 10000 in
set_option maxHeartbeats 2000000 in
theorem eRouteOf (a : ByteArray) (n : Nat) (w : World) (ha : a.size = 4) (hn : n ≤ 32) :
    Calls Tryz.prog 123 #[.string a, .int .i64 n] w fun e w' => e = .returned (.agg #[.int .i64 1, .string (rk a n)]) ∧ Below w.heap.size w w' := by
  have hb0 : (0 : Int) ≤ 32 - (n : Int) := by omega
  have hX : num a 4 / 2 ^ (32 - n) * 2 ^ (32 - n) % 4294967296 = ((rkN a n : Nat) : Int) := by
    have e : ((rkN a n : Nat) : Int) = num a 4 / 2 ^ (32 - n) * 2 ^ (32 - n) := by
      unfold rkN; rw [Int.natCast_mul, Int.natCast_ediv, numN_eq, Int.natCast_pow]; rfl
    rw [← e]; have := rkN_lt a n; omega
  obtain ⟨N, hN⟩ : ∃ N, N = rkN a n := ⟨_, rfl⟩
  have hN32 : N < 4294967296 := by rw [hN]; exact rkN_lt a n
  have hk : baOf [((N : Nat) : Int) / 16777216, (N : Int) / 65536 % 256, (N : Int) / 256 % 256, (N : Int) % 256, (n : Int)] = rk a n := by
    unfold rk; rw [← hN]
    have e1 : ((N : Nat) : Int) / 16777216 = ((N / 16777216 % 256 : Nat) : Int) := by omega
    rw [e1]; rfl
  have hstr := str_lit (w.alloc (.cells #[.int .i64 0, .string ⟨#[]⟩] 83)) [((N : Nat) : Int) / 16777216, (N : Int) / 65536 % 256, (N : Int) / 256 % 256, (N : Int) % 256, (n : Int)] (w.heap.size + 1) 5 5 (by simp) (by intro x hx; simp at hx; rcases hx with rfl | rfl | rfl | rfl | rfl <;> omega)
  rw [hk] at hstr
  simp only [List.map_cons, List.map_nil, List.length_cons, List.length_nil, Nat.reduceAdd] at hstr
  rw [← hN] at hX
  clear hN hk
  go_enter Tryz.func123, Tryz.ntmps123
  go_wp2_with (go_at_call 141; refine (bitsOf a _ ha).mono ?_; rintro e w' ⟨rfl, rfl⟩)
  exact bodyPost_ret (v := .agg #[.int .i64 1, .string (rk a n)]) (by simp [results, Tryz.results123, go_sem]) rfl ⟨rfl, below_trans (below_alloc _ _) (below_alloc _ _)⟩

theorem rtTo_step {a : ByteArray} {l : List En} {n : Nat} (h : got 1 (rk a (n + 1)) l = none) : rtTo a l (n + 1) = rtTo a l n := by rw [rtTo, h]
set_option maxRecDepth 10000 in
set_option maxHeartbeats 2000000 in
theorem lRoute (v : Value) (l : List En) (a : ByteArray) (w : World) (h : EnsIn w v l) (hs : Srt l) (hn : l.length ≤ 1000000) (ha : a.size = 4) :
    Calls Tryz.prog 103 #[v, .string a] w fun e w' => e = .returned (.tuple #[.string ((rtTo a l 32).getD ⟨#[]⟩), .bool (rtTo a l 32).isSome]) ∧ Below w.heap.size w w' := by
  have HS : Hid (Srt l) := hs
  clear hs
  have HA : Hid (a.size = 4) := ha
  have hb : ((a.size : Int) != 4) = false := by simp; omega
  clear ha
  go_enter Tryz.func103, Tryz.ntmps103
  go_wp2_with fail
  go_loopw [6] (fun i wr => ∃ j : Nat, j ≤ 33 ∧ i = .int .i64 (32 - (j : Int)) ∧ (∀ n, j + n = 32 → rtTo a l 32 = rtTo a l n) ∧ (j = 33 → rtTo a l 32 = none) ∧ Below w.heap.size w wr)
    (fun i _ => (intOf i + 1).toNat)
  case atStart => exact ⟨0, by omega, by go_num, fun n hn => by rw [show n = 32 by omega], by omega, Below.refl _ _⟩
  case round =>
    obtain ⟨j, hj, rfl, hr, hz, hq⟩ := hrel
    by_cases hlt : j ≤ 32
    · obtain ⟨n, hn2⟩ : ∃ n, j + n = 32 := ⟨32 - j, by omega⟩
      have hr' := hr n hn2
      have hcast : (32 : Int) - (j : Int) = ((n : Nat) : Int) := by omega
      have HR : Hid (rtTo a l 32 = rtTo a l n) := hr'
      clear hr hz hr'
      rw [hcast]
      cases hg : got 1 (rk a n) l with
      | some x =>
        have hfin : rtTo a l 32 = some x := by
          rw [HR.out]
          cases n with
          | zero => exact hg
          | succ n => rw [rtTo, hg]
        have HFIN : Hid (rtTo a l 32 = some x) := hfin
        clear hfin
        go_wp2_with fail
        refine (eRouteOf a n _ HA.out (by omega)).mono ?_
        rintro e w1 ⟨rfl, q1⟩
        go_wp2_with fail
        refine (lValue v l 1 (rk a n) _ ((h.keep hq).keep q1) HS.out hn).mono ?_
        rw [hg]
        rintro e w2 ⟨rfl, q2⟩
        go_wp2
        go_ret2
        refine ⟨?_, below_trans hq (below_trans q1 q2)⟩
        rw [HFIN.out]; rfl
      | none =>
        go_wp2_with fail
        refine (eRouteOf a n _ HA.out (by omega)).mono ?_
        rintro e w1 ⟨rfl, q1⟩
        go_wp2_with fail
        refine (lValue v l 1 (rk a n) _ ((h.keep hq).keep q1) HS.out hn).mono ?_
        rw [hg]
        rintro e w2 ⟨rfl, q2⟩
        go_wp2_with fail
        go_roundw
        case rel =>
          refine ⟨j + 1, by omega, by go_num, fun m hm => ?_, fun h33 => ?_, below_trans hq (below_trans q1 q2)⟩
          · obtain rfl : n = m + 1 := by omega
            rw [HR.out, rtTo_step hg]
          · obtain rfl : n = 0 := by omega
            rw [HR.out]; exact hg
        case measure => simp [intOf] <;> omega
    · obtain rfl : j = 33 := by omega
      have HZ : Hid (rtTo a l 32 = none) := hz rfl
      clear hr hz
      go_wp2
      go_ret2
      refine ⟨?_, hq⟩
      rw [HZ.out]; rfl

set_option maxHeartbeats 1000000 in
theorem tRoute (T : Nat) (l : List En) (a : ByteArray) (w : World) (h : TabIs w T l) (hs : Srt l) (hn : l.length ≤ 1000000) (ha : a.size = 4) :
    Calls Tryz.prog 73 #[.pointer (some ⟨T, 0, none⟩), .string a] w fun e w' => e = .returned (.tuple #[.string ((rtTo a l 32).getD ⟨#[]⟩), .bool (rtTo a l 32).isSome]) ∧ Below w.heap.size w w' := by
  obtain ⟨v, hb, ho⟩ := h.blk
  have tc : w.cell? ⟨T, 0, none⟩ = some v := by simp [World.cell?, hb]
  go_enter Tryz.func73, Tryz.ntmps73
  go_wp2_with fail
  refine (lRoute v l a _ (EnsIn.of_owns ho) hs hn ha).mono ?_
  rintro e w1 ⟨rfl, q1⟩
  go_wp2
  go_ret2
  exact ⟨rfl, q1⟩
set_option maxHeartbeats 1000000 in
theorem fRoute (F T : Nat) (l : List En) (a : ByteArray) (w : World) (hF : w.cell? ⟨F, 0, none⟩ = some (.pointer (some ⟨T, 0, none⟩))) (h : TabIs w T l) (hs : Srt l) (hn : l.length ≤ 1000000) (ha : a.size = 4) :
    Calls Tryz.prog 45 #[.pointer (some ⟨F, 0, none⟩), .string a] w fun e w' => e = .returned (.tuple #[.string ((rtTo a l 32).getD ⟨#[]⟩), .bool (rtTo a l 32).isSome]) ∧ Below w.heap.size w w' := by
  go_enter Tryz.func45, Tryz.ntmps45
  go_wp2_with fail
  refine (tRoute T l a _ h hs hn ha).mono ?_
  rintro e w1 ⟨rfl, q1⟩
  go_wp2
  go_ret2
  exact ⟨rfl, q1⟩
end Go.Proofs.YtindifjhocgkbaaGreatDoor
namespace Go.Proofs.YtindifjhocgkbaaGreatDoor
open Go.RowKit

/-! ### Bytes, dropped and taken -/
theorem size_list (s : ByteArray) : s.data.toList.length = s.size := Array.length_toList
theorem ext_list (s : ByteArray) (a k : Nat) : (s.extract a (a + k)).data.toList = (s.data.toList.drop a).take k := by
  rw [ByteArray.data_extract, Array.toList_extract]; simp [List.extract_eq_take_drop]
theorem ba_ext {a b : ByteArray} (h : a.data.toList = b.data.toList) : a = b := by
  apply ByteArray.ext; exact Array.toList_inj.1 h
theorem drop_bt (s : ByteArray) (e : Nat) (h : e < s.size) : s.data.toList.drop e = UInt8.ofNat (bt s e).toNat :: s.data.toList.drop (e + 1) := by
  have h' : e < s.data.toList.length := by rw [size_list]; exact h
  rw [List.drop_eq_getElem_cons h']
  congr 1
  unfold bt
  rw [List.getD_eq_getElem?_getD, List.getElem?_eq_getElem h']
  simp
theorem drop_ext (s : ByteArray) (e k : Nat) : s.data.toList.drop e = (s.extract e (e + k)).data.toList ++ s.data.toList.drop (e + k) := by
  rw [ext_list, ← List.drop_drop]; exact (List.take_append_drop k _).symm
theorem bt_of_drop {s : ByteArray} {e : Nat} {x : UInt8} {r : List UInt8} (h : s.data.toList.drop e = x :: r) : bt s e = (x.toNat : Int) ∧ e < s.size ∧ s.data.toList.drop (e + 1) = r := by
  have h1 : e < s.data.toList.length := by
    rcases Nat.lt_or_ge e s.data.toList.length with h2 | h2
    · exact h2
    · rw [List.drop_eq_nil_of_le h2] at h; cases h
  rw [List.drop_eq_getElem_cons h1] at h
  simp only [List.cons.injEq] at h
  refine ⟨?_, by rw [← size_list]; exact h1, h.2⟩
  unfold bt
  rw [List.getD_eq_getElem?_getD, List.getElem?_eq_getElem h1, ← h.1]; rfl
theorem take_of_drop {s : ByteArray} {e : Nat} {a r : List UInt8} (h : s.data.toList.drop e = a ++ r) (ha : a ≠ []) : e + a.length ≤ s.size ∧ (s.extract e (e + a.length)).data.toList = a ∧ s.data.toList.drop (e + a.length) = r := by
  have h1 := congrArg List.length h
  rw [List.length_drop, size_list, List.length_append] at h1
  have h2 : 0 < a.length := List.length_pos_iff.2 ha
  refine ⟨by omega, ?_, ?_⟩
  · rw [ext_list, h]; simp
  · rw [← List.drop_drop, h]; simp

/-! ### A change -/
theorem keyB_is {t : Int} {k : ByteArray} (h0 : 0 ≤ t) (h3 : t < 3) (h : keyB t k = true) : (k.size : Int) = kbN t := by
  by_cases e : (k.size : Int) = kbN t
  · exact e
  · rw [keyB_no h0 h3 e] at h; cases h
theorem valB_is {t : Int} {v : ByteArray} (h0 : 0 ≤ t) (h3 : t < 3) (h : valB t v = true) : (v.size : Int) = vbN t := by
  rcases cases3 h0 h3 with rfl | rfl | rfl
  · by_cases e : v.size = 4
    · simp [vbN, e]
    · rw [valB_no4 (by decide) e] at h; cases h
  · by_cases e : v.size = 4
    · simp [vbN, e]
    · rw [valB_no4 (by decide) e] at h; cases h
  · by_cases e : v.size = 2
    · simp [vbN, e]
    · rw [valB_no2 e] at h; cases h
theorem empty_of {v : ByteArray} (h : v.toList.isEmpty = true) : v = ⟨#[]⟩ := by
  apply ba_ext
  rw [ByteArray.toList_eq] at h
  simpa using h
theorem ok_inj {α β : Type} {a b : α} (h : (Except.ok a : Except β α) = .ok b) : a = b := by cases h; rfl
theorem numAt8 (s : ByteArray) : numAt s 0 8 = ((((((bt s 0 * 256 + bt s 1) * 256 + bt s 2) * 256 + bt s 3) * 256 + bt s 4) * 256 + bt s 5) * 256 + bt s 6) * 256 + bt s 7 := by
  simp [numAt]
theorem beB8 (n : Int) : beB n 8 = [UInt8.ofNat (n / 72057594037927936 % 256).toNat, UInt8.ofNat (n / 281474976710656 % 256).toNat, UInt8.ofNat (n / 1099511627776 % 256).toNat, UInt8.ofNat (n / 4294967296 % 256).toNat, UInt8.ofNat (n / 16777216 % 256).toNat, UInt8.ofNat (n / 65536 % 256).toNat, UInt8.ofNat (n / 256 % 256).toNat, UInt8.ofNat (n % 256).toNat] := by
  simp [beB]
theorem split8 (b0 b1 b2 b3 b4 b5 b6 b7 : Int) (h0 : 0 ≤ b0 ∧ b0 ≤ 255) (h1 : 0 ≤ b1 ∧ b1 ≤ 255) (h2 : 0 ≤ b2 ∧ b2 ≤ 255) (h3 : 0 ≤ b3 ∧ b3 ≤ 255) (h4 : 0 ≤ b4 ∧ b4 ≤ 255) (h5 : 0 ≤ b5 ∧ b5 ≤ 255) (h6 : 0 ≤ b6 ∧ b6 ≤ 255) (h7 : 0 ≤ b7 ∧ b7 ≤ 255) :
    (((((((b0 * 256 + b1) * 256 + b2) * 256 + b3) * 256 + b4) * 256 + b5) * 256 + b6) * 256 + b7) / 72057594037927936 % 256 = b0 ∧
    (((((((b0 * 256 + b1) * 256 + b2) * 256 + b3) * 256 + b4) * 256 + b5) * 256 + b6) * 256 + b7) / 281474976710656 % 256 = b1 ∧
    (((((((b0 * 256 + b1) * 256 + b2) * 256 + b3) * 256 + b4) * 256 + b5) * 256 + b6) * 256 + b7) / 1099511627776 % 256 = b2 ∧
    (((((((b0 * 256 + b1) * 256 + b2) * 256 + b3) * 256 + b4) * 256 + b5) * 256 + b6) * 256 + b7) / 4294967296 % 256 = b3 ∧
    (((((((b0 * 256 + b1) * 256 + b2) * 256 + b3) * 256 + b4) * 256 + b5) * 256 + b6) * 256 + b7) / 16777216 % 256 = b4 ∧
    (((((((b0 * 256 + b1) * 256 + b2) * 256 + b3) * 256 + b4) * 256 + b5) * 256 + b6) * 256 + b7) / 65536 % 256 = b5 ∧
    (((((((b0 * 256 + b1) * 256 + b2) * 256 + b3) * 256 + b4) * 256 + b5) * 256 + b6) * 256 + b7) / 256 % 256 = b6 ∧
    (((((((b0 * 256 + b1) * 256 + b2) * 256 + b3) * 256 + b4) * 256 + b5) * 256 + b6) * 256 + b7) % 256 = b7 := by
  refine ⟨?_, ?_, ?_, ?_, ?_, ?_, ?_, ?_⟩ <;> omega
end Go.Proofs.YtindifjhocgkbaaGreatDoor
