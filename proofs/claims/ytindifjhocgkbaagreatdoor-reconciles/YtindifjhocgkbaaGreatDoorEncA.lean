import Derived.Test.YtindifjhocgkbaaGreatDoorEncToEnt
import Derived.RangeFuncBox
import Derived.Test.YtindifjhocgkbaaGreatDoorItToRmS
import Derived.Test.YtindifjhocgkbaaGreatDoorItD
import Derived.Test.YtindifjhocgkbaaGreatDoorStaToApt
import Derived.Test.YtindifjhocgkbaaGreatDoorRmBToNum
import Derived.Test.YtindifjhocgkbaaGreatDoorParts
namespace Go.Proofs.YtindifjhocgkbaaGreatDoor
open Go.RowKit

/-- Whatever is no row of bytes lies as it lay. -/
structure Oth (w w' : World) : Prop where
  size : w.heap.size ≤ w'.heap.size
  block : ∀ k, k < w.heap.size → (∀ c f, w.heap[k]? ≠ some (.cells c 5 f)) → w'.heap[k]? = w.heap[k]?
theorem Oth.refl (w : World) : Oth w w := ⟨Nat.le_refl _, fun _ _ _ => rfl⟩
theorem Oth.trans {a b c : World} (h : Oth a b) (k : Oth b c) : Oth a c :=
  ⟨Nat.le_trans h.size k.size, fun i hi hn => by
    have e := h.block i hi hn
    exact (k.block i (Nat.lt_of_lt_of_le hi h.size) (fun c f => by rw [e]; exact hn c f)).trans e⟩
theorem Oth.below {w w' : World} (q : Below w.heap.size w w') : Oth w w' := ⟨q.size, fun k hk _ => q.block k hk⟩
theorem Oth.alloc (w : World) (o : Obj) : Oth w (w.alloc o) := Oth.below (below_alloc w o)
theorem Oth.append {w w' : World} {base size n : Nat} {v : Value} {xs : List Value} (h : w.ownsRow base 5 size v n xs) (g : w.grownBy w' v.ownBlock) : Oth w w' := by
  refine ⟨g.size, fun k hk hn => g.block k hk (fun e => ?_)⟩
  rcases h.2 with ⟨rfl, _⟩ | ⟨b, cap, cur, rfl, _, hg, _⟩
  · simp [Value.ownBlock] at e
  · have e' : k = b := by simpa [Value.ownBlock] using e
    subst e'
    exact hn _ _ hg
theorem Oth.boxed {w w' : World} (h : Oth w w') {B : Nat} {t : TypeId} {v : Value} (hb : Boxed w B t v) (ht : t ≠ 5) : Boxed w' B t v := by
  refine (h.block B hb.lt (fun c f e => ?_)).trans hb
  rw [show w.heap[B]? = _ from hb] at e
  simp only [Option.some.injEq, Obj.cells.injEq] at e
  exact ht e.2.1
theorem Oth.others {w w' : World} (h : Oth w w') : KeepsOthers w w' :=
  ⟨h.size, fun k o hk ho => (h.block k (Array.getElem?_eq_some_iff.1 hk).1 (fun c f e => by rw [hk] at e; cases e; simp [Obj.isCells] at ho)).trans hk⟩

set_option maxRecDepth 10000 in
set_option maxHeartbeats 1000000 in
theorem appendNumber' (base : Nat) (v : Value) (k size : Nat) (xs : List Value) (n : Int) (w : World) (hs8 : size ≤ 8) (hk : k ≤ 1000) (_h0 : 0 ≤ n) (hown : w.ownsRow base 5 1 v k xs) (hbase : base ≤ w.heap.size) :
    Calls Tryz.prog 105 #[v, .int .u64 n, .int .i64 size] w fun e w' => ∃ v', e = .returned v' ∧ w'.ownsRow base 5 1 v' (k + size) (xs ++ beV n size) ∧ Below base w w' ∧ Oth w w' := by
  obtain ⟨i0, hi, hz0, hz1, hz2⟩ := info_parts Tryz.info5
  go_enter Tryz.func105, Tryz.ntmps105
  go_wp2_with fail
  go_loopw [0, 7] (fun b i wr => ∃ j : Nat, j ≤ size ∧ i = .int .i64 ((size : Int) - 1 - j) ∧ wr.ownsRow base 5 1 b (k + j) (xs ++ beTo n size j) ∧ Below base w wr ∧ Oth w wr)
    (fun _ i _ => (intOf i + 1).toNat)
  case atStart => exact ⟨0, by omega, by go_num, by simpa [beTo] using hown, Below.refl _ _, Oth.refl _⟩
  case round =>
    obtain ⟨j, hj, rfl, hown', hq, hoth⟩ := hrel
    by_cases hlt : j < size
    · have hx : (0 : Int) ≤ (size : Int) - 1 - j := by omega
      go_wp2_with (at_builtin; refine wpList_append_own _ rfl _ _ 53 rfl base 5 i0 (.int .u8 0) 1 1 Tryz.underlying53 hi hz0 hz1 hz2 rfl (by decide) _ _ _ rfl (hown'.alloc _) ⟨wr.heap.size, 0, none⟩ 1 1 [.int .u8 (n / 2 ^ (8 * (size - 1 - j)) % 256)] rfl rfl ?c1 ?c2 ?c3 ?c4 ?c5 ?_)
      case c1 => intro i u hu; match i, hu with | 0, hu => simp at hu; subst hu; simp [Addr.add]
      case c2 => intro u hu; simp at hu; subst hu; rfl
      case c3 => unfold maxLen; omega
      case c4 => omega
      case c5 => have := hq.size; simp; omega
      intro v' w1 hown1 hgrow _
      go_wp2_with fail
      go_roundw
      case rel =>
        refine ⟨j + 1, by omega, by go_num, ?_, (hq.alloc (by have := hq.size; omega) _).grown hgrow (by have := hq.size; simp; omega) (fun b hb => (hown'.lt b hb).1), (hoth.trans (Oth.alloc _ _)).trans (Oth.append (hown'.alloc _) hgrow)⟩
        rw [beTo]; exact hown1
      case measure => simp [intOf]; omega
    · obtain rfl : j = size := by omega
      go_wp2
      go_ret
      exact ⟨_, rfl, by have h := beTo_eq n j j (Nat.le_refl _); simp [beV] at h; rw [← h]; exact hown', hq, hoth⟩
set_option maxRecDepth 10000 in
set_option maxHeartbeats 2000000 in
theorem appendEntry' (base : Nat) (b : Value) (n : Nat) (xs : List Value) (t : Int) (k v : ByteArray) (w : World) (ht0 : 0 ≤ t) (ht3 : t < 3) (hk : k.size ≤ 6) (hv : v.size ≤ 4) (hn : n ≤ 100000000) (hown : w.ownsRow base 5 1 b n xs) (hbase : base ≤ w.heap.size) :
    Calls Tryz.prog 106 #[b, .agg #[.int .i64 t, .string k], .string v] w fun e w' => ∃ b', e = .returned b' ∧ w'.ownsRow base 5 1 b' (n + (enV t k v).length) (xs ++ enV t k v) ∧ Below base w w' ∧ Oth w w' := by
  obtain ⟨i0, hi, hz0, hz1, hz2⟩ := info_parts Tryz.info5
  have hlen : (enV t k v).length = 1 + k.size + v.size := by simp [enV, Lib.strCells_length]; omega
  have R0 : RndK base w (w.alloc (.cells #[.int .i64 t, .string k] 83)) w.heap.size t k b n xs := ⟨hown.alloc _, heap_alloc_new _ _, (Below.refl _ _).alloc hbase _⟩
  have O1 : Oth w ((w.alloc (.cells #[.int .i64 t, .string k] 83)).alloc (.cells #[.int .u8 t] 5)) := (Oth.alloc _ _).trans (Oth.alloc _ _)
  have R1 := R0.alloc hbase (.cells #[.int .u8 t] 5)
  go_enter Tryz.func106, Tryz.ntmps106
  go_wp2_with (first | (at_builtin; refine wpList_append_own _ rfl _ _ 53 rfl base 5 i0 (.int .u8 0) 1 1 Tryz.underlying53 hi hz0 hz1 hz2 rfl (by decide) b _ _ rfl R1.own ⟨w.heap.size + 1, 0, none⟩ 1 1 [.int .u8 t] rfl rfl (by have h2 := one_new (w.alloc (.cells #[.int .i64 t, .string k] 83)) (.int .u8 t) 5; simpa using h2) (oneCells1 _ _) (by unfold maxLen; omega) (by omega) (by simp; omega) ?_; intro b4 w4 hown4 hgrow4 _; have R4 := R1.grow hbase hgrow4 hown4; have O4 := O1.trans (Oth.append R1.own hgrow4); obtain ⟨-, k4⟩ := R4.c) | (at_builtin; refine Lib.wpList_append_own_string _ rfl _ _ 53 9 rfl base 5 i0 Tryz.underlying53 Tryz.underlying9 hi hz0 hz1 hz2 b4 _ _ rfl R4.own k rfl (by unfold maxLen; omega) (by omega) (by have h := R4.q.size; omega) ?_; intro b5 w5 hown5 hgrow5 _; have R5 := R4.grow hbase hgrow5 hown5; have O5 := O4.trans (Oth.append R4.own hgrow5); obtain ⟨-, k5⟩ := R5.c) | (at_builtin; refine Lib.wpList_append_own_string _ rfl _ _ 53 9 rfl base 5 i0 Tryz.underlying53 Tryz.underlying9 hi hz0 hz1 hz2 b5 _ _ rfl R5.own v rfl (by unfold maxLen; omega) (by omega) (by have h := R5.q.size; omega) ?_; intro b6 w6 hown6 hgrow6 _; have R6 := R5.grow hbase hgrow6 hown6; have O6 := O5.trans (Oth.append R5.own hgrow6)))
  go_ret
  refine ⟨_, rfl, ?_, R6.q, O6⟩
  rw [hlen]
  have ho := R6.own
  simpa [enV, List.append_assoc, Nat.add_assoc] using ho
end Go.Proofs.YtindifjhocgkbaaGreatDoor
namespace Go.Proofs.YtindifjhocgkbaaGreatDoor
open Go.RowKit Go.Shelf

attribute [local go_sem] Oper.semAt_some

/-! The list's iterator, over elements of which more is known. -/
theorem take_snocF {β : Type} (es : List β) (k : Nat) (h : k < es.length) : es.take (k + 1) = es.take k ++ [es[k]] := List.take_succ_eq_append_getElem h

set_option maxRecDepth 100000 in
set_option maxHeartbeats 2000000 in
/-- The list's own iterator, in a range over it. -/
theorem all1_inF {β : Type} (f : β → En) (F : Fence) (n : Nat) (hf : F.fn 107) (hro : F.round = none) (hn : 1 ≤ n) (l Bs n₀ b off cap : Nat) (es : List β) (hlen : es.length ≤ 1000000) (hb : b < n₀) (J Jx : List β → World → Prop)
    (hJa : ∀ pre W o, J pre W → J pre (W.alloc o)) (hY : ∀ pre x W, J pre W → pre.length < es.length → YieldAt F (n - 1) Tryz.prog l (encE (f x)) W fun e W' =>
      (e = .returned (.bool true) ∧ J (pre ++ [x]) W' ∧ Below n₀ W W') ∨ (e = .returned (.bool false) ∧ Jx (pre ++ [x]) W'))
    (W : World) (hn0 : n₀ ≤ W.heap.size) (hBs : W.cell? ⟨Bs, 0, none⟩ = some (.slice (some ⟨b, off, none⟩) es.length cap)) (hc : EnsAt W b off (es.map f)) (h0 : J [] W) :
    CallsIn F n Tryz.prog 107 #[.func (.yield l) #[] #[], .pointer (some ⟨Bs, 0, none⟩)] W fun e W' => (∃ v, e = .returned v) ∧
      ((∃ ys, ys = es ∧ J ys W') ∨ (∃ pre, (∃ k, k ≤ es.length ∧ pre = es.take k) ∧ Jx pre W')) := by
  refine callsIn_of_wp Tryz.func107 rfl hf ?_ hro
  simp only [Tryz.ntmps107, List.size_toArray, List.length_cons, List.length_nil, Nat.reduceAdd, Nat.reduceSub, Array.replicate_succ, Array.replicate_zero, List.push_toArray, List.append_toArray, List.nil_append, List.cons_append]
  gi_wp2
  gi_loopw [7] (fun i wr => ∃ k : Nat, k ≤ es.length ∧ i = .int .i64 k ∧ J (es.take k) wr ∧ Below n₀ W wr)
    (fun i _ => es.length - (intOf i).toNat)
  case atStart => exact ⟨0, Nat.zero_le _, rfl, h0, Below.refl _ _⟩
  case round =>
    obtain ⟨k, hk, rfl, hJs, hnx⟩ := hrel
    by_cases hlt : k < es.length
    · have hmk : (es.map f)[k]'(by simpa using hlt) = f es[k] := by simp
      have d0 := (hc.keep hb hnx).c0 k (by simpa using hlt)
      have d1 := (hc.keep hb hnx).c1 k (by simpa using hlt)
      have d2 := (hc.keep hb hnx).c2 k (by simpa using hlt)
      rw [hmk] at d0 d1 d2
      clear hmk
      have il : ((k : Nat) : Int) < (es.length : Int) := by omega
      have hsw : n₀ ≤ wr.heap.size := Nat.le_trans hn0 hnx.size
      obtain ⟨fn, tmps, assign, body, hy, hR⟩ := hY (es.take k) es[k] (wr.alloc (.cells #[.int .i64 (f es[k]).t, .string (f es[k]).k, .string (f es[k]).v] 183)) (hJa _ _ _ hJs) (by simp; omega)
      gi_wp2
      refine hR.mono ?_
      rintro e W3 (⟨rfl, hJ3, hk3⟩ | ⟨rfl, hJx3⟩)
      · gi_wp2
        go_roundw
        case rel => exact ⟨k + 1, by omega, by go_num, by rw [take_snocF es k hlt]; exact hJ3, hnx.trans (((Below.refl _ wr).alloc hsw _).trans hk3)⟩
        case measure => simp [intOf]; omega
      · gi_wp2
        refine bodyPost_ret (results_none rfl _ _ _) rfl ?_
        exact ⟨⟨_, rfl⟩, .inr ⟨_, ⟨k + 1, by omega, (take_snocF es k hlt).symm⟩, hJx3⟩⟩
    · obtain rfl : k = es.length := by omega
      gi_wp2
      go_end0
      exact ⟨⟨_, rfl⟩, .inl ⟨_, List.take_length, hJs⟩⟩

set_option maxRecDepth 100000 in
set_option maxHeartbeats 1000000 in
theorem all1_nil_inF {β : Type} (F : Fence) (n : Nat) (hf : F.fn 107) (hro : F.round = none) (l Bs : Nat) (J : List β → World → Prop) (W : World) (hBs : W.cell? ⟨Bs, 0, none⟩ = some (.slice none 0 0)) (h0 : J [] W) :
    CallsIn F n Tryz.prog 107 #[.func (.yield l) #[] #[], .pointer (some ⟨Bs, 0, none⟩)] W fun e W' => (∃ v, e = .returned v) ∧ J [] W' := by
  refine callsIn_of_wp Tryz.func107 rfl hf ?_ hro
  simp only [Tryz.ntmps107, List.size_toArray, List.length_cons, List.length_nil, Nat.reduceAdd, Nat.reduceSub, Array.replicate_succ, Array.replicate_zero, List.push_toArray, List.append_toArray, List.nil_append, List.cons_append]
  gi_wp2
  gi_loopw [7] (fun i wr => i = .int .i64 0 ∧ J [] wr) (fun _ _ => 0)
  case atStart => exact ⟨rfl, h0⟩
  case round =>
    obtain ⟨rfl, hJs⟩ := hrel
    gi_wp2
    go_end0
    exact ⟨⟨_, rfl⟩, hJs⟩

theorem all_stopsF {β : Type} (f : β → En) (F : Fence) (n : Nat) (hf : F.fn 107) (hro : F.round = none) (hn : 1 ≤ n) (Bs n₀ : Nat) (v : Value) (es : List β) (hlen : es.length ≤ 1000000) (w : World) (hBs : Bs < w.heap.size) (hn₀ : n₀ ≤ w.heap.size)
    (hc : w.cell? ⟨Bs, 0, none⟩ = some v) (hI : EnsBelow n₀ w v (es.map f)) :
    SeqStopsK F n Tryz.prog 107 #[.pointer (some ⟨Bs, 0, none⟩)] (fun x => encE (f x)) (Below n₀) (fun ys => ys = es) (fun pre => ∃ k, k ≤ es.length ∧ pre = es.take k) es.length w := fun l J Jx W hW hJ _ hY h0 => by
  have hc' := (hW.cell (p := ⟨Bs, 0, none⟩) hBs).trans hc
  have hJa : ∀ pre W o, J pre W → J pre (W.alloc o) := fun pre W o h => hJ pre W _ none h (World.grownBy_alloc W o none) (fun r e => by cases e)
  rcases hI.keep (hW.mono hn₀) with ⟨rfl, he⟩ | ⟨b, off, cap, rfl, hb, hcs⟩
  · obtain rfl : es = [] := by simpa using he
    exact (all1_nil_inF F n hf hro l Bs J W hc' h0).mono fun e W' ⟨he, hj⟩ => ⟨he, .inl ⟨_, rfl, hj⟩⟩
  · rw [List.length_map] at hc'
    exact all1_inF f F n hf hro hn l Bs n₀ b off cap es hlen hb J Jx hJa hY W (Nat.le_trans hn₀ hW.size) hc' hcs h0
end Go.Proofs.YtindifjhocgkbaaGreatDoor
namespace Go.Proofs.YtindifjhocgkbaaGreatDoor
open Go.RowKit Go.Shelf

attribute [local go_sem] Oper.semAt_some

/-- Entries as cells of bytes. -/
def ensV (l : List En) : List Value := l.flatMap fun x => enV x.t x.k x.v
def staV (v : Int) (l : List En) : List Value := beV v 8 ++ beV (l.length : Int) 2 ++ ensV l
theorem ensV_snoc (l : List En) (x : En) : ensV (l ++ [x]) = ensV l ++ enV x.t x.k x.v := by simp [ensV]
theorem enV_length (t : Int) (k v : ByteArray) : (enV t k v).length = 1 + k.size + v.size := by simp [enV, Lib.strCells_length]; omega
theorem ensV_length {l : List En} (h : Ok l) : (ensV l).length ≤ l.length * 11 := by
  induction l with
  | nil => simp [ensV]
  | cons x l ih =>
    have hx := h x (by simp)
    have := keyB_size hx.2.1
    have := valB_size hx.2.2
    have ih := ih (fun y hy => h y (by simp [hy]))
    have e : ensV (x :: l) = enV x.t x.k x.v ++ ensV l := by simp [ensV]
    rw [e, List.length_append, enV_length, List.length_cons]
    omega

/-- Entries that may be. -/
def OkEn : Type := {x : En // okE x}
def OkEn.en (x : OkEn) : En := x.1
theorem OkEn.ok (x : OkEn) : okE x.en := x.2
theorem okEns {l : List En} (h : Ok l) : ∃ fs : List OkEn, fs.map OkEn.en = l := by
  induction l with
  | nil => exact ⟨[], rfl⟩
  | cons x l ih =>
    obtain ⟨fs, e⟩ := ih (fun y hy => h y (by simp [hy]))
    have hx : okE x := h x (by simp)
    have hy : ∃ y : OkEn, y.en = x := ⟨⟨x, hx⟩, rfl⟩
    obtain ⟨y, hy⟩ := hy
    exact ⟨y :: fs, by rw [List.map_cons, e, hy]⟩
theorem okEns_ok (fs : List OkEn) : Ok (fs.map OkEn.en) := by
  intro z hz
  simp only [List.mem_map] at hz
  obtain ⟨u, _, rfl⟩ := hz
  exact u.ok

set_option maxRecDepth 100000 in
set_option maxHeartbeats 2000000 in
theorem wEncodeAll_in (n : Nat) (hn : 4 ≤ n) (v : Int) (a : Option Addr) (cap : Nat) (es : List En) (hv : verB v = true) (h0 : 0 ≤ v) (hlen : es.length ≤ 1000000) (hok : Ok es) (w : World) (hI : EnsIn w (.slice a es.length cap) es) :
    CallsIn Fence.wide n Tryz.prog 77 #[.int .u64 v, .slice a es.length cap] w fun e W' => ∃ b, e = .returned (.tuple #[b, .nilIface]) ∧ W'.ownsRow w.heap.size 5 1 b (staV v es).length (staV v es) ∧ Below w.heap.size w W' := by
  have hn1 : 1 ≤ n := by omega
  refine callsIn_of_wp_marks Tryz.func77 rfl trivial ?_ rfl
  simp only [Tryz.ntmps77, List.size_toArray, List.length_cons, List.length_nil, Nat.reduceAdd, Nat.reduceSub, Array.replicate_succ, Array.replicate_zero, List.push_toArray, List.append_toArray, List.nil_append, List.cons_append]
  gi_wp2
  refine ⟨trivial, ?_⟩
  refine (callsIn_wide.2 (wIsVersion _ _ h0)).mono ?_
  rintro e w ⟨rfl, rfl⟩
  gi_wp2
  refine ⟨trivial, ?_⟩
  refine (callsIn_wide.2 (appendNumber' w.heap.size _ 0 8 [] v _ (by omega) (by omega) h0 (World.ownsRow_nil _ _ _ _) (Nat.le_refl _))).mono ?_
  rintro e w2 ⟨b2, rfl, hown2, q2, -⟩
  simp only [Nat.zero_add, List.nil_append] at hown2
  obtain ⟨ao2, cp2, rfl⟩ := own_slice hown2
  have hs2 := q2.size
  gi_wp2
  refine ⟨trivial, ?_⟩
  refine (callsIn_wide.2 (appendNumber' w.heap.size _ 8 2 _ (es.length : Int) _ (by omega) (by omega) (by omega) (hown2.alloc _) (by simp; omega))).mono ?_
  rintro e w3 ⟨b3, rfl, hown3, q3, o3⟩
  obtain ⟨ao3, cp3, rfl⟩ := own_slice hown3
  have bB := o3.boxed (Boxed.new w2 53 (.slice ao2 8 cp2)) (by decide)
  have cB := bB.cell
  have fB := bB.frozen
  have q03 : Below w.heap.size w w3 := (q2.alloc hs2 _).trans q3
  gi_wp2
  refine ⟨trivial, ?_⟩
  refine (all_in Fence.wide (n - 1) trivial rfl _ _ _ _).mono ?_
  rintro e w4 ⟨rfl, rfl⟩
  obtain ⟨fs, rfl⟩ := okEns hok
  rw [List.length_map] at *
  have bB2 := (bB.set (.slice ao3 (8 + 2) cp3)).alloc (.cells #[.slice a fs.length cap] 112)
  have bL := Boxed.new (w3.setCell ⟨w2.heap.size, 0, none⟩ (.slice ao3 (8 + 2) cp3)) 112 (.slice a fs.length cap)
  have ho4 := (hown3.kept (grownBy_setCell' w3 w2.heap.size (.slice ao3 (8 + 2) cp3)) (.inr (bB.not_row (by decide) hown3).symm)).alloc (.cells #[.slice a fs.length cap] 112)
  have hsw : (w3.setCell ⟨w2.heap.size, 0, none⟩ (.slice ao3 (8 + 2) cp3)).heap.size = w3.heap.size := by simp [World.setCell]
  have q04 : Below w.heap.size w ((w3.setCell ⟨w2.heap.size, 0, none⟩ (.slice ao3 (8 + 2) cp3)).alloc (.cells #[.slice a fs.length cap] 112)) := (q03.setCell (p := ⟨w2.heap.size, 0, none⟩) hs2 _).alloc (by rw [hsw]; exact q03.size) _
  rw [hsw] at bL
  have hlt2 : w2.heap.size < w3.heap.size := bB.lt
  gi_wp2
  clear hsw bB cB fB
  obtain ⟨W0, hW0⟩ : ∃ W0, (w3.setCell ⟨w2.heap.size, 0, none⟩ (.slice ao3 (8 + 2) cp3)).alloc (.cells #[.slice a fs.length cap] 112) = W0 := ⟨_, rfl⟩
  have hsz : w3.heap.size < W0.heap.size := by have := bL.lt; rw [hW0] at this; exact this
  simp only [Nat.reduceAdd] at hW0 bB2 bL ho4 q04
  rw [hW0] at bB2 bL ho4 q04 ⊢
  clear hW0
  have hq0 := q03.size
  refine wpIn_rangeFunc_ownH rfl hn1 (gf := 107) (lb := #[.pointer (some ⟨w3.heap.size, 0, none⟩)]) rfl trivial (enters_of Tryz.func107 (by kernel_rfl) rfl)
    (all_stopsF OkEn.en Fence.wide (n - 1) trivial rfl (by omega) w3.heap.size w.heap.size _ fs hlen W0 (by omega) (by omega) bL.cell ((EnsBelow.of hI).keep q04)) belowK_t (belowK_b (by omega)) (Below.refl _ _) (fun _ => rfl)
    (fun pre W => (∃ y, Boxed W w2.heap.size 53 y ∧ W.ownsRow w.heap.size 5 1 y (10 + (ensV (pre.map OkEn.en)).length) (beV v 8 ++ beV (fs.length : Int) 2 ++ ensV (pre.map OkEn.en)) ∧ True) ∧ Below w.heap.size w W)
    (fun _ _ _ => False)
    (OwnFrom.and (Own.from (holdsRow_own w.heap.size w2.heap.size 53 5 1 (fun pre : List OkEn => 10 + (ensV (pre.map OkEn.en)).length) (fun pre => beV v 8 ++ beV (fs.length : Int) 2 ++ ensV (pre.map OkEn.en)) (fun _ _ => True)) _) (ownFrom_below (Nat.le_refl _) (by omega)))
    (fun _ _ _ _ _ hs _ _ => hs)
    ⟨⟨_, bB2, by simpa [ensV] using ho4, trivial⟩, q04⟩
    (fun x a' W => ∃ Bx, w2.heap.size < Bx ∧ KBox W Bx x.en ∧ a' = { tmps := #[.int .u64 v, .slice a fs.length cap, undef, undef, .slice none 0 0, .nilIface, .pointer (some ⟨w2.heap.size, 0, none⟩), .pointer (some ⟨Bx, 0, none⟩), .string x.en.v, .int .u64 v, .bool true, .bool false, undef, .int .u64 v, .slice ao2 8 cp2, .slice ao2 8 cp2, .slice a fs.length cap, .int .i64 (fs.length : Int), .int .u64 (fs.length : Int), .slice ao3 10 cp3, .slice a fs.length cap, .func (.func 107) #[] #[.pointer (some ⟨w3.heap.size, 0, none⟩)], .agg #[.int .i64 x.en.t, .string x.en.k], .string x.en.v, undef, undef, undef, undef, undef], defers := [] })
    (fun x a' _ X Y row hs hg hr => by obtain ⟨Bx, h1, h2, h3⟩ := hs; exact ⟨Bx, h1, h2.own hg (fun r e => (hr r e).2), h3⟩)
    ?assign ?body ?done ?stop
  case assign =>
    rintro l pre x W K ⟨⟨y, bB1, hr1, _⟩, hB1⟩ hK
    gi_wp2
    exact hK _ _ ((KeepsOthers.alloc _ _).from _) ((Below.refl _ W).alloc hB1.size _) ⟨⟨y, bB1.alloc _, hr1.alloc _, trivial⟩, hB1.alloc hB1.size _⟩ ⟨W.heap.size, bB1.lt, heap_alloc_new _ _, rfl⟩
  case body =>
    rintro l pre x a' W hl _ ⟨⟨y, bB1, hr1, _⟩, hB1⟩ ⟨Bx, hBx, bX, rfl⟩ hlt
    have cB := bB1.cell
    obtain ⟨cX0, cX1⟩ := bX.cells
    have hsW := hB1.size
    have hx := x.ok
    have hlE := ensV_length (l := pre.map OkEn.en) (okEns_ok pre)
    rw [List.length_map] at hlE
    obtain ⟨yo, yc, rfl⟩ := own_slice hr1
    obtain ⟨ht0, ht3⟩ := okE_in hx
    gi_wp2
    refine ⟨trivial, fun _ => by omega, ?_⟩
    refine (CallsIn.inRound l (callsIn_wide.2 (appendEntry' w.heap.size _ _ _ x.en.t x.en.k x.en.v _ ht0 ht3 (keyB_size hx.2.1) (valB_size hx.2.2) (by omega) hr1 hsW))).mono ?_
    rintro e w5 ⟨b5, rfl, hown5, q5, o5⟩
    obtain ⟨bo, bc, rfl⟩ := own_slice hown5
    have bB5 := o5.boxed bB1 (by decide)
    have c5 := bB5.cell
    have f5 := bB5.frozen
    gi_wp2
    refine ⟨(o5.others.trans (KeepsOthers.setCell _ _ _)).from _, q5.setCell (p := ⟨w2.heap.size, 0, none⟩) hs2 _, ⟨_, bB5.set _, ?_, trivial⟩, (hB1.trans q5).setCell (p := ⟨w2.heap.size, 0, none⟩) hs2 _⟩
    rw [List.map_append, List.map_singleton, ensV_snoc, List.length_append, ← List.append_assoc, ← Nat.add_assoc]
    exact hown5.kept (grownBy_setCell' w5 w2.heap.size _) (.inr (bB5.not_row (by decide) hown5).symm)
  case done =>
    rintro D ys W hD rfl ⟨⟨y, bB1, hr1, _⟩, hB⟩ hK
    have cB := bB1.cell
    obtain ⟨yo, yc, rfl⟩ := own_slice hr1
    have el : (staV v (ys.map OkEn.en)).length = 10 + (ensV (ys.map OkEn.en)).length := by simp [staV, beV_length]; omega
    have es : staV v (ys.map OkEn.en) = beV v 8 ++ beV (ys.length : Int) 2 ++ ensV (ys.map OkEn.en) := by simp [staV]
    gi_wp2
    refine ⟨by simp, .inl ⟨_, _, rfl, run_takeDeferred hK, ?_⟩⟩
    refine ⟨_, results_tmp2 rfl _ _ _, _, rfl, ?_, hB.trans (belowK_b (w := w) (Nat.le_refl _) W D _ _ (by omega) hK rfl rfl)⟩
    rw [el, es]
    exact ownsRow_putObj hr1 _ hK rfl
  case stop =>
    rintro D c pre W _ _ h _
    exact h.elim
theorem wEncodeAll_ok (v : Int) (x : Value) (es : List En) (hv : verB v = true) (h0 : 0 ≤ v) (hlen : es.length ≤ 1000000) (hok : Ok es) (w : World) (hI : EnsIn w x es) :
    Calls Tryz.prog 77 #[.int .u64 v, x] w fun e W' => ∃ b, e = .returned (.tuple #[b, .nilIface]) ∧ W'.ownsRow w.heap.size 5 1 b (staV v es).length (staV v es) ∧ Below w.heap.size w W' := by
  obtain ⟨a, cap, rfl⟩ : ∃ a cap, x = .slice a es.length cap := by rcases hI with ⟨rfl, rfl⟩ | ⟨b, off, cap, rfl, _⟩ <;> exact ⟨_, _, rfl⟩
  exact (callsIn_wide (n := 4)).1 (wEncodeAll_in 4 (by omega) v a cap es hv h0 hlen hok w hI)
end Go.Proofs.YtindifjhocgkbaaGreatDoor
namespace Go.Proofs.YtindifjhocgkbaaGreatDoor
open Go.RowKit

set_option maxHeartbeats 1000000 in
theorem wEncodeAll_no (v : Int) (x : Value) (w : World) (hv : verB v = false) (h0 : 0 ≤ v) :
    Calls Tryz.prog 77 #[.int .u64 v, x] w fun e w' => ∃ y, e = .returned (.tuple #[.slice none 0 0, y]) ∧ ErrIs w' y 4 0 ∧ Below w.heap.size w w' := by
  go_enter Tryz.func77, Tryz.ntmps77
  go_wp2_with fail
  refine (wIsVersion _ _ h0).mono ?_
  rintro e w ⟨rfl, rfl⟩
  go_wp2_with fail
  refine (fault _ _ _).mono ?_
  rintro e w1 ⟨rfl, rfl⟩
  go_wp2
  go_ret2
  exact ⟨_, rfl, errIs_new _ _ _ (by decide) (by decide), below_alloc _ _⟩
set_option maxHeartbeats 1000000 in
theorem oListOf (T : Nat) (l : List En) (w : World) (h : TabIs w T l) :
    Calls Tryz.prog 78 #[.pointer (some ⟨T, 0, none⟩)] w fun e w' => ∃ v, e = .returned v ∧ w.ownsRow 0 183 3 v l.length (cellsE l) ∧ w' = w := by
  obtain ⟨v, hb, ho⟩ := h.blk
  have tc : w.cell? ⟨T, 0, none⟩ = some v := by simp [World.cell?, hb]
  go_enter Tryz.func78, Tryz.ntmps78
  go_wp2
  go_ret
  exact ⟨_, rfl, ho, rfl⟩
/-- What EncodeAll answers: nothing and the fault, or the bytes. -/
def EAIs (w0 w : World) (v : Int) (l : List En) (b x : Value) : Prop :=
  (verB v = false ∧ b = .slice none 0 0 ∧ ErrIs w x 4 0) ∨ (verB v = true ∧ x = .nilIface ∧ w.ownsRow w0.heap.size 5 1 b (staV v l).length (staV v l))
set_option maxHeartbeats 1000000 in
theorem oEncodeAll (v : Int) (T : Nat) (l : List En) (w : World) (h : TabIs w T l) (h0 : 0 ≤ v) (hlen : l.length ≤ 1000000) (hok : Ok l) :
    Calls Tryz.prog 51 #[.int .u64 v, .pointer (some ⟨T, 0, none⟩)] w fun e w' => ∃ b x, e = .returned (.tuple #[b, x]) ∧ EAIs w w' v l b x ∧ Below w.heap.size w w' := by
  go_enter Tryz.func51, Tryz.ntmps51
  go_wp2_with fail
  refine (oListOf T l _ h).mono ?_
  rintro e w ⟨x, rfl, ho, rfl⟩
  cases hv : verB v
  · go_wp2_with fail
    refine (wEncodeAll_no v x _ hv h0).mono ?_
    rintro e w1 ⟨y, rfl, hy, q1⟩
    have HV : Hid (verB v = false) := hv
    clear hv
    go_wp2
    go_ret2
    exact ⟨_, y, rfl, .inl ⟨HV.out, rfl, hy⟩, q1⟩
  · go_wp2_with fail
    refine (wEncodeAll_ok v x l hv h0 hlen hok _ (EnsIn.of_owns ho)).mono ?_
    rintro e w1 ⟨y, rfl, hy, q1⟩
    have HV : Hid (verB v = true) := hv
    clear hv
    go_wp2
    go_ret2
    exact ⟨y, _, rfl, .inr ⟨HV.out, rfl, hy⟩, q1⟩
end Go.Proofs.YtindifjhocgkbaaGreatDoor
namespace Go.Proofs.YtindifjhocgkbaaGreatDoor
open Go.RowKit

/-- The change that lays an entry. -/
def putOp (e : En) : OpD := ⟨1, e.t, e.k, e.v⟩
/-- Tables of these entries: each laid by a delta of its own. -/
def layL (es : List En) : List En := es.foldl (fun t e => aftD t 1 [putOp e]) []
theorem layL_snoc (es : List En) (e : En) : layL (es ++ [e]) = aftD (layL es) 1 [putOp e] := by simp [layL]

theorem layL_take (es : List En) (j : Nat) (h : j < es.length) : layL (es.take (j + 1)) = aftD (layL (es.take j)) 1 [putOp es[j]] := by
  rw [List.take_succ_eq_append_getElem h, layL_snoc]
theorem aftD_length (l : List En) (v : Int) (ops : List OpD) : (aftD l v ops).length ≤ l.length + ops.length := by
  unfold aftD
  split
  · exact aft_length ops l
  · omega
theorem layF_srt : ∀ (es : List En) (l : List En), Srt l → Srt (es.foldl (fun t e => aftD t 1 [putOp e]) l)
  | [], _, h => h
  | e :: es, l, h => layF_srt es (aftD l 1 [putOp e]) (aftD_srt h)
theorem layL_srt (es : List En) : Srt (layL es) := layF_srt es [] List.Pairwise.nil
theorem layF_length : ∀ (es : List En) (l : List En), (es.foldl (fun t e => aftD t 1 [putOp e]) l).length ≤ l.length + es.length
  | [], _ => by simp
  | e :: es, l => by
    have h1 := layF_length es (aftD l 1 [putOp e])
    have h2 := aftD_length l 1 [putOp e]
    simp only [List.foldl_cons, List.length_cons, List.length_nil] at *
    omega
theorem layL_length (es : List En) : (layL es).length ≤ es.length := by have h := layF_length es []; unfold layL; simp only [List.length_nil, Nat.zero_add] at h; exact h

theorem tApply (T : Nat) (l : List En) (v : Int) (ao : Option Addr) (cap : Nat) (ops : List OpD) (w : World) (h : TabIs w T l) (h0 : 0 ≤ v) (hcap : ops.length ≤ cap) (ho : OpsIn w ao ops) (g : Glob w) (hs : Srt l) (hn : l.length ≤ 900000) :
    Calls Tryz.prog 35 #[.pointer (some ⟨T, 0, none⟩), .agg #[.int .u64 v, .slice ao ops.length cap]] w fun e w' => ∃ x, e = .returned x ∧ TabIs w' T (aftD l v ops) ∧ w.grownBy w' (some T) := by
  by_cases hk : (wrongD v ops).1 = 0
  · refine (tApply_ok T l v ao cap ops w h h0 hcap ho g hs hn hk).mono ?_
    rintro e w' ⟨rfl, t, gr⟩
    exact ⟨_, rfl, by unfold aftD; rw [if_pos hk]; exact t, gr⟩
  · refine (tApply_no T v ao cap ops w h0 hcap ho g hk).mono ?_
    rintro e w' ⟨x, rfl, _, q⟩
    exact ⟨_, rfl, by unfold aftD; rw [if_neg hk]; exact h.keep q, grown_below' _ q⟩

theorem ops_one (W : World) (B : Nat) (hB : B = W.heap.size) (x : En) : OpsIn (W.alloc (.cells #[.int .i64 1, .int .i64 x.t, .string x.k, .string x.v] 85)) (some ⟨B, 0, none⟩) [putOp x] := by
  subst hB
  intro _
  refine ⟨_, _, rfl, by simp, ⟨?_, ?_, ?_, ?_⟩⟩ <;> intro i hi <;> (obtain rfl : i = 0 := by simpa using hi) <;> simp [putOp]
set_option maxRecDepth 10000 in
set_option maxHeartbeats 2000000 in
theorem pLaid (v : Value) (es : List En) (w : World) (hI : EnsIn w v es) (hl : es.length ≤ 100000) (g : Glob w) :
    Calls Tryz.prog 50 #[v] w fun e w' => ∃ T, e = .returned (.pointer (some ⟨T, 0, none⟩)) ∧ w.heap.size ≤ T ∧ TabIs w' T (layL es) ∧ Below w.heap.size w w' := by
  obtain ⟨ao, cp, rfl⟩ : ∃ a cap, v = .slice a es.length cap := by rcases hI with ⟨rfl, rfl⟩ | ⟨b, off, cap, rfl, _⟩ <;> exact ⟨_, _, rfl⟩
  have h2 := g.lt
  go_enter Tryz.func50, Tryz.ntmps50
  go_wp2_with fail
  refine (newTables _).mono ?_
  rintro e w1 ⟨rfl, rfl⟩
  have t1 : TabIs (w.alloc (.cells #[.slice none 0 0] 116)) w.heap.size [] := ⟨_, heap_alloc_new _ _, World.ownsRow_nil _ _ _ _⟩
  have q1 := below_alloc w (.cells #[.slice none 0 0] 116)
  go_wp2_with fail
  go_loopw [9] (fun i wr => ∃ j : Nat, j ≤ es.length ∧ i = .int .i64 j ∧ TabIs wr w.heap.size (layL (es.take j)) ∧ Below w.heap.size w wr)
    (fun i _ => es.length - (intOf i).toNat)
  case atStart => exact ⟨0, Nat.zero_le _, rfl, by simpa [layL] using t1, q1⟩
  case round =>
    obtain ⟨j, hj, rfl, ht, hq⟩ := hrel
    by_cases hlt : j < es.length
    · rcases hI with ⟨_, he⟩ | ⟨b, off, cap, hv, hb, hc⟩
      · rw [he] at hlt; simp at hlt
      simp only [Value.slice.injEq] at hv
      obtain ⟨rfl, _, rfl⟩ := hv
      have hens := hc.keep hb hq
      have d0 := hens.c0 j hlt
      have d1 := hens.c1 j hlt
      have d2 := hens.c2 j hlt
      have il : ((j : Nat) : Int) < (es.length : Int) := by omega
      have hsr := layL_srt (es.take j)
      have hll : (layL (es.take j)).length ≤ 100000 := by have := layL_length (es.take j); simp at this; omega
      have HT : Hid (layL (es.take (j + 1)) = aftD (layL (es.take j)) 1 [putOp es[j]]) := layL_take es j hlt
      have HS : Hid (Srt (layL (es.take j))) := hsr
      clear hsr
      generalize layL (es.take j) = L at *
      generalize es[j] = x at *
      go_wp2_with fail
      have qa := below_trans (below_alloc wr (.cells #[.int .i64 x.t, .string x.k, .string x.v] 62)) (below_alloc _ (.cells #[.int .i64 1, .int .i64 x.t, .string x.k, .string x.v] 85))
      have q0 : Below w.heap.size w _ := hq.trans (qa.mono hq.size)
      refine (tApply w.heap.size L 1 _ 1 [putOp x] _ (ht.keep qa) (by decide) (by simp) (ops_one _ _ (by simp) x) (g.keep q0) HS.out (by omega)).mono ?_
      rintro e w2 ⟨y, rfl, t2, g2⟩
      have q2 : Below w.heap.size w w2 := q0.grown g2 q0.size (fun k hk => by cases hk; exact Nat.le_refl _)
      go_wp2_with fail
      go_roundw
      case rel => exact ⟨j + 1, by omega, by go_num, by rw [HT.out]; exact t2, q2⟩
      case measure => simp [intOf]; omega
    · obtain rfl : j = es.length := by omega
      go_wp2
      go_ret
      rw [List.take_length] at ht
      exact ⟨_, rfl, Nat.le_refl _, ht, hq⟩
end Go.Proofs.YtindifjhocgkbaaGreatDoor
namespace Go.Proofs.YtindifjhocgkbaaGreatDoor
open Go.RowKit

theorem put_ok {e : En} {l : List En} (he : okE e) (h : Ok l) : Ok (put e l) := fun y hy => by
  rcases put_mem hy with rfl | hy
  · exact he
  · exact h y hy
theorem chd_ok {l : List En} {o : OpD} (h : Ok l) (h1 : kindB o.kind o.table = true) (h2 : keyB o.table o.key = true) (h3 : fitsB o = true) : Ok (chd l o) := by
  unfold chd
  split
  · exact fun y hy => h y (del_mem hy)
  · rename_i hk
    have hi := kindB_in h1
    have hv : valB o.table o.val = true := by unfold fitsB at h3; rw [if_neg hk] at h3; exact h3
    exact put_ok (okE_mk (by simp [tabB]; omega) h2 hv) h
theorem aft_ok : ∀ (ops : List OpD) (l : List En), Ok l → (∀ o ∈ ops, kindB o.kind o.table = true ∧ keyB o.table o.key = true ∧ fitsB o = true) → Ok (aft l ops)
  | [], _, h, _ => h
  | o :: ops, l, h, hh => by
    have h1 := hh o (by simp)
    exact aft_ok ops (chd l o) (chd_ok h h1.1 h1.2.1 h1.2.2) (fun x hx => hh x (by simp [hx]))
theorem aftD_ok {l : List En} {v : Int} {ops : List OpD} (h : Ok l) : Ok (aftD l v ops) := by
  unfold aftD
  split
  · rename_i hk
    refine aft_ok ops l h (fun o ho => ?_)
    obtain ⟨j, hj, rfl⟩ := List.getElem_of_mem ho
    have hw := wrongN_ok ((wrongD_ok hk).2.2 j hj)
    exact ⟨hw.1, hw.2.1, hw.2.2.2⟩
  · exact h
theorem layF_ok : ∀ (es : List En) (l : List En), Ok l → Ok (es.foldl (fun t e => aftD t 1 [putOp e]) l)
  | [], _, h => h
  | e :: es, l, h => layF_ok es (aftD l 1 [putOp e]) (aftD_ok h)
theorem layL_ok (es : List En) : Ok (layL es) := layF_ok es [] (fun _ h => absurd h (by simp))
theorem put_end {e : En} : ∀ {l : List En}, (∀ x ∈ l, cmpK x.t x.k e.t e.k < 0) → put e l = l ++ [e]
  | [], _ => rfl
  | x :: l, h => by
    have h1 : x.cmp e.t e.k < 0 := h x (by simp)
    have ih := put_end (l := l) (fun y hy => h y (by simp [hy]))
    unfold put
    rw [if_pos h1, ih, List.cons_append]
theorem wrongD_put {e : En} (h : okE e) : wrongD 1 [putOp e] = (0, 0) := by
  refine wrongD_good (by decide) (by simp) (by simp) (of_pairOk ⟨fun o ho => ?_, by simp⟩)
  obtain rfl : o = putOp e := by simpa using ho
  exact ⟨h.1, h.2.1, by unfold fitsB putOp; simpa using h.2.2⟩
theorem layL_same {es : List En} (ho : Ok es) (hs : Srt es) : layL es = es := by
  suffices h : ∀ n, n ≤ es.length → layL (es.take n) = es.take n by have := h es.length (Nat.le_refl _); rwa [List.take_length] at this
  intro n
  induction n with
  | zero => intro _; simp [layL]
  | succ n ih =>
    intro hn
    rw [layL_take es n (by omega), ih (by omega)]
    unfold aftD
    rw [if_pos (by rw [wrongD_put (ho _ (List.getElem_mem _))])]
    rw [List.take_succ_eq_append_getElem (by omega)]
    refine put_end (e := es[n]) (fun x hx => ?_)
    rw [← List.take_append_drop n es] at hs
    exact (List.pairwise_append.1 hs).2.2 x hx es[n] (List.mem_drop_iff_getElem.2 ⟨0, by omega, by simp⟩)

theorem enB_cells {x : En} (h : okE x) : cellsB (enB x) = enV x.t x.k x.v := by
  have h1 := okE_in h
  simp only [enB, enV, cellsB, List.map_append, List.map_cons, Lib.strCells, List.cons_append, List.nil_append]
  rw [byte_back _ (by omega) (by omega)]
theorem ensB_cells : ∀ {l : List En}, Ok l → cellsB (ensB l) = ensV l
  | [], _ => rfl
  | x :: l, h => by
    have ih := ensB_cells (l := l) (fun y hy => h y (by simp [hy]))
    rw [ensB_cons, cellsB_append, enB_cells (h x (by simp)), ih]
    simp [ensV]
theorem staB_cells {v : Int} {l : List En} (h : Ok l) : cellsB (staB v l) = staV v l := by
  unfold staB staV
  rw [cellsB_append, cellsB_append, beB_cells, beB_cells, ensB_cells h, List.append_assoc]
theorem staB_pos (v : Int) (l : List En) : 10 ≤ (staB v l).length := by simp [staB, beB]
/-- The string that EncodeAll's bytes are ("" where there is a fault). -/
def staS (v : Int) (l : List En) : ByteArray := if verB v = true then ⟨(staB v l).toArray⟩ else ⟨#[]⟩
end Go.Proofs.YtindifjhocgkbaaGreatDoor
namespace Go.Proofs.YtindifjhocgkbaaGreatDoor
open Go.RowKit

/-- The fault of a version. -/
def verK (v : Int) : Int := if verB v = true then 0 else 4
set_option maxRecDepth 10000 in
set_option maxHeartbeats 2000000 in
theorem pEncodeAll (v : Int) (x : Value) (es : List En) (w : World) (hI : EnsIn w x es) (h0 : 0 ≤ v) (hl : es.length ≤ 100000) (g : Glob w) (he : EtIs w) :
    Calls Tryz.prog 15 #[.int .u64 v, x] w fun e w' => e = .returned (.tuple #[.string (staS v (layL es)), .agg #[.int .i64 (verK v), .int .i64 0, .int .i64 0]]) ∧ Below w.heap.size w w' := by
  have qa := below_alloc w (.cells #[.int .i64 0, .int .i64 0, .int .i64 0] 29)
  have p0 : (w.alloc (.cells #[.int .i64 0, .int .i64 0, .int .i64 0] 29)).cell? ⟨w.heap.size, 0, none⟩ = some (.int .i64 0) := by simp
  have p1 : (w.alloc (.cells #[.int .i64 0, .int .i64 0, .int .i64 0] 29)).cell? ⟨w.heap.size, 1, none⟩ = some (.int .i64 0) := by simp
  have p2 : (w.alloc (.cells #[.int .i64 0, .int .i64 0, .int .i64 0] 29)).cell? ⟨w.heap.size, 2, none⟩ = some (.int .i64 0) := by simp
  have pf : ∀ i, (w.alloc (.cells #[.int .i64 0, .int .i64 0, .int .i64 0] 29)).frozen? ⟨w.heap.size, i, none⟩ = false := fun i => World.frozen?_alloc_at _ _ _ i rfl
  have iA := hI.keep qa
  have gA := g.keep qa
  have eA := he.keep qa
  go_enter Tryz.func15, Tryz.ntmps15
  go_wp2_with fail
  generalize w.alloc (.cells #[.int .i64 0, .int .i64 0, .int .i64 0] 29) = W1 at *
  have hw1 : w.heap.size < W1.heap.size := cell_lt p0
  refine (pLaid x es _ iA hl gA).mono ?_
  rintro e w2 ⟨T, rfl, hT, ht, q2⟩
  have hLl := layL_length es
  have hLo := layL_ok es
  obtain ⟨L, HL⟩ : ∃ L, Hid (layL es = L) := ⟨_, rfl⟩
  rw [HL.out] at ht hLl hLo
  go_wp2_with fail
  refine (oEncodeAll v T L _ ht h0 (by omega) hLo).mono ?_
  rintro e w3 ⟨b, y, rfl, hEA, q3⟩
  have HO : Hid (Ok L) := hLo
  clear hLo
  have he3 := (eA.keep q2).keep q3
  have q13 := below_trans q2 q3
  have core : ErrIs w3 y (verK v) 0 ∧ ((verB v = false ∧ b = .slice none 0 0 ∧ ∃ p, y = .iface 133 p) ∨ (verB v = true ∧ y = .nilIface ∧ w3.ownsRow w2.heap.size 5 1 b (staB v L).length (cellsB (staB v L)))) := by
    rcases hEA with ⟨h1, h2, h3⟩ | ⟨h1, rfl, h3⟩
    · refine ⟨by unfold verK; rw [h1]; exact h3, .inl ⟨h1, h2, ?_⟩⟩
      rcases h3.cases0 with ⟨e, _⟩ | ⟨_, b, rfl⟩
      · omega
      · exact ⟨_, rfl⟩
    · refine ⟨by unfold verK; rw [h1]; exact errIs_nil _, .inr ⟨h1, rfl, ?_⟩⟩
      rw [staB_cells HO.out]
      rw [← staB_cells HO.out, cellsB_length, staB_cells HO.out] at h3
      exact h3
  obtain ⟨hx, hres⟩ := core
  clear hEA
  go_wp2_with fail
  refine (partsOf y _ _ _ he3 hx).mono ?_
  rintro e w4 ⟨rfl, q4⟩
  have q14 := below_trans q13 q4
  have HST : Hid (staS v L = if verB v = true then ⟨(staB v L).toArray⟩ else ⟨#[]⟩) := rfl
  have hpos := staB_pos v L
  have f0 : (w4.alloc (.cells #[.int .i64 (verK v), .int .i64 0, .int .i64 0] 29)).cell? ⟨w4.heap.size, 0, none⟩ = some (.int .i64 (verK v)) := by simp
  have f1 : (w4.alloc (.cells #[.int .i64 (verK v), .int .i64 0, .int .i64 0] 29)).cell? ⟨w4.heap.size, 1, none⟩ = some (.int .i64 0) := by simp
  have f2 : (w4.alloc (.cells #[.int .i64 (verK v), .int .i64 0, .int .i64 0] 29)).cell? ⟨w4.heap.size, 2, none⟩ = some (.int .i64 0) := by simp
  have q45 := below_alloc w4 (.cells #[.int .i64 (verK v), .int .i64 0, .int .i64 0] 29)
  have q15 := below_trans q14 q45
  have Y0 := (q15.cell (p := ⟨w.heap.size, 0, none⟩) hw1).trans p0
  have Y1 := (q15.cell (p := ⟨w.heap.size, 1, none⟩) hw1).trans p1
  have Y2 := (q15.cell (p := ⟨w.heap.size, 2, none⟩) hw1).trans p2
  have Z0 := (q15.frozen (p := ⟨w.heap.size, 0, none⟩) hw1).trans (pf 0)
  have Z1 := (q15.frozen (p := ⟨w.heap.size, 1, none⟩) hw1).trans (pf 1)
  have Z2 := (q15.frozen (p := ⟨w.heap.size, 2, none⟩) hw1).trans (pf 2)
  have QW := qa.trans (q15.mono (by omega))
  have hs4 := q14.size
  rcases hres with ⟨hv, rfl, p, rfl⟩ | ⟨hv, rfl, hown⟩
  · have HS : Hid (staS v L = ⟨#[]⟩) := by show _ = _; rw [HST.out, hv]; rfl
    clear hv p0 p1 p2 pf
    generalize hvk : verK v = vk at *
    have HVK : Hid (verK v = vk) := hvk
    clear hvk
    go_wp2_with fail
    generalize w4.alloc (.cells #[.int .i64 vk, .int .i64 0, .int .i64 0] 29) = W5 at *
    have hcv := string_of_nil W5
    have hcv' := string_of_nil W5.drew
    go_region
    go_wp2
    exact bodyPost_ret (v := .tuple #[.string (staS v L), .agg #[.int .i64 vk, .int .i64 0, .int .i64 0]]) (by rw [HS.out]; simp [results, Tryz.results15, go_sem, Y0, Y1, Y2]) rfl ⟨by rw [HL.out, HVK.out], (((QW.setCell (by simp) _).setCell (by simp) _).setCell (by simp) _).drew⟩
  · have HS : Hid (staS v L = ⟨(staB v L).toArray⟩) := by show _ = _; rw [HST.out, hv]; rfl
    have hown5 := owns_below (owns_below hown q4) q45
    clear hv p0 p1 p2 pf
    generalize hvk : verK v = vk at *
    have HVK : Hid (verK v = vk) := hvk
    clear hvk
    generalize staB v L = SB at *
    obtain ⟨bo, bc, rfl⟩ := own_slice hown5
    have hnz : ¬ ((SB.length : Int) = 0) := by omega
    have hnz' : ((SB.length : Int) == 0) = false := by simpa using hnz
    go_wp2_with fail
    generalize w4.alloc (.cells #[.int .i64 vk, .int .i64 0, .int .i64 0] 29) = W5 at *
    have hcv := (string_of_own hown5).1
    have hcv' := (string_of_own (w := W5.drew) hown5).1
    go_region
    go_wp2
    exact bodyPost_ret (v := .tuple #[.string (staS v L), .agg #[.int .i64 vk, .int .i64 0, .int .i64 0]]) (by rw [HS.out]; simp [results, Tryz.results15, go_sem, Y0, Y1, Y2]) rfl ⟨by rw [HL.out, HVK.out], (((QW.setCell (by simp) _).setCell (by simp) _).setCell (by simp) _).drew⟩
end Go.Proofs.YtindifjhocgkbaaGreatDoor
