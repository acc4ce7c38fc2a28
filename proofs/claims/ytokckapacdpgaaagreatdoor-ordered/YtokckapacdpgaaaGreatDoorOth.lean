import Derived.Test.YtokckapacdpgaaaGreatDoorEnt
import Derived.RangeFuncBox
namespace Go.Proofs.YtokckapacdpgaaaGreatDoor
open Go.RowKit

/-- Whatever is no row of bytes lies as it lay. -/
structure Oth (w w' : World) : Prop where
  size : w.heap.size ≤ w'.heap.size
  block : ∀ k, k < w.heap.size → (∀ c f, w.heap[k]? ≠ some (.cells c 5 f)) → w'.heap[k]? = w.heap[k]?
theorem Oth.refl (w : World) : Oth w w := ⟨Nat.le_refl _, fun _ _ _ => rfl⟩
theorem Oth.trans {a b c : World} (h : Oth a b) (k : Oth b c) : Oth a c :=
  ⟨Nat.le_trans h.size k.size, fun i hi hn => by
    have e := h.block i hi hn
    exact (k.block i (Nat.lt_of_lt_of_le hi h.size) (fun c f => by rw [e]; exact hn c f)).trans e⟩
theorem Oth.below {w w' : World} (q : Below w.heap.size w w') : Oth w w' := ⟨q.size, fun k hk _ => q.block k hk⟩
theorem Oth.alloc (w : World) (o : Obj) : Oth w (w.alloc o) := Oth.below (below_alloc w o)
theorem Oth.append {w w' : World} {base size n : Nat} {v : Value} {xs : List Value} (h : w.ownsRow base 5 size v n xs) (g : w.grownBy w' v.ownBlock) : Oth w w' := by
  refine ⟨g.size, fun k hk hn => g.block k hk (fun e => ?_)⟩
  rcases h.2 with ⟨rfl, _⟩ | ⟨b, cap, cur, rfl, _, hg, _⟩
  · simp [Value.ownBlock] at e
  · have e' : k = b := by simpa [Value.ownBlock] using e
    subst e'
    exact hn _ _ hg
theorem Oth.boxed {w w' : World} (h : Oth w w') {B : Nat} {t : TypeId} {v : Value} (hb : Boxed w B t v) (ht : t ≠ 5) : Boxed w' B t v := by
  refine (h.block B hb.lt (fun c f e => ?_)).trans hb
  rw [show w.heap[B]? = _ from hb] at e
  simp only [Option.some.injEq, Obj.cells.injEq] at e
  exact ht e.2.1
theorem Oth.others {w w' : World} (h : Oth w w') : KeepsOthers w w' :=
  ⟨h.size, fun k o hk ho => (h.block k (Array.getElem?_eq_some_iff.1 hk).1 (fun c f e => by rw [hk] at e; cases e; simp [Obj.isCells] at ho)).trans hk⟩

set_option maxRecDepth 10000 in
set_option maxHeartbeats 1000000 in
theorem appendNumber' (base : Nat) (v : Value) (k size : Nat) (xs : List Value) (n : Int) (w : World) (hs8 : size ≤ 8) (hk : k ≤ 1000) (_h0 : 0 ≤ n) (hown : w.ownsRow base 5 1 v k xs) (hbase : base ≤ w.heap.size) :
    Calls Tryz.prog 105 #[v, .int .u64 n, .int .i64 size] w fun e w' => ∃ v', e = .returned v' ∧ w'.ownsRow base 5 1 v' (k + size) (xs ++ beV n size) ∧ Below base w w' ∧ Oth w w' := by
  obtain ⟨i0, hi, hz0, hz1, hz2⟩ := info_parts Tryz.info5
  go_enter Tryz.func105, Tryz.ntmps105
  go_wp2_with fail
  go_loopw [0, 7] (fun b i wr => ∃ j : Nat, j ≤ size ∧ i = .int .i64 ((size : Int) - 1 - j) ∧ wr.ownsRow base 5 1 b (k + j) (xs ++ beTo n size j) ∧ Below base w wr ∧ Oth w wr)
    (fun _ i _ => (intOf i + 1).toNat)
  case atStart => exact ⟨0, by omega, by go_num, by simpa [beTo] using hown, Below.refl _ _, Oth.refl _⟩
  case round =>
    obtain ⟨j, hj, rfl, hown', hq, hoth⟩ := hrel
    by_cases hlt : j < size
    · have hx : (0 : Int) ≤ (size : Int) - 1 - j := by omega
      go_wp2_with (at_builtin; refine wpList_append_own _ rfl _ _ 53 rfl base 5 i0 (.int .u8 0) 1 1 Tryz.underlying53 hi hz0 hz1 hz2 rfl (by decide) _ _ _ rfl (hown'.alloc _) ⟨wr.heap.size, 0, none⟩ 1 1 [.int .u8 (n / 2 ^ (8 * (size - 1 - j)) % 256)] rfl rfl ?c1 ?c2 ?c3 ?c4 ?c5 ?_)
      case c1 => intro i u hu; match i, hu with | 0, hu => simp at hu; subst hu; simp [Addr.add]
      case c2 => intro u hu; simp at hu; subst hu; rfl
      case c3 => unfold maxLen; omega
      case c4 => omega
      case c5 => have := hq.size; simp; omega
      intro v' w1 hown1 hgrow _
      go_wp2_with fail
      go_roundw
      case rel =>
        refine ⟨j + 1, by omega, by go_num, ?_, (hq.alloc (by have := hq.size; omega) _).grown hgrow (by have := hq.size; simp; omega) (fun b hb => (hown'.lt b hb).1), (hoth.trans (Oth.alloc _ _)).trans (Oth.append (hown'.alloc _) hgrow)⟩
        rw [beTo]; exact hown1
      case measure => simp [intOf]; omega
    · obtain rfl : j = size := by omega
      go_wp2
      go_ret
      exact ⟨_, rfl, by have h := beTo_eq n j j (Nat.le_refl _); simp [beV] at h; rw [← h]; exact hown', hq, hoth⟩
set_option maxRecDepth 10000 in
set_option maxHeartbeats 2000000 in
theorem appendEntry' (base : Nat) (b : Value) (n : Nat) (xs : List Value) (t : Int) (k v : ByteArray) (w : World) (ht0 : 0 ≤ t) (ht3 : t < 3) (hk : k.size ≤ 6) (hv : v.size ≤ 4) (hn : n ≤ 100000000) (hown : w.ownsRow base 5 1 b n xs) (hbase : base ≤ w.heap.size) :
    Calls Tryz.prog 106 #[b, .agg #[.int .i64 t, .string k], .string v] w fun e w' => ∃ b', e = .returned b' ∧ w'.ownsRow base 5 1 b' (n + (enV t k v).length) (xs ++ enV t k v) ∧ Below base w w' ∧ Oth w w' := by
  obtain ⟨i0, hi, hz0, hz1, hz2⟩ := info_parts Tryz.info5
  have hlen : (enV t k v).length = 1 + k.size + v.size := by simp [enV, Lib.strCells_length]; omega
  have R0 : RndK base w (w.alloc (.cells #[.int .i64 t, .string k] 83)) w.heap.size t k b n xs := ⟨hown.alloc _, heap_alloc_new _ _, (Below.refl _ _).alloc hbase _⟩
  have O1 : Oth w ((w.alloc (.cells #[.int .i64 t, .string k] 83)).alloc (.cells #[.int .u8 t] 5)) := (Oth.alloc _ _).trans (Oth.alloc _ _)
  have R1 := R0.alloc hbase (.cells #[.int .u8 t] 5)
  go_enter Tryz.func106, Tryz.ntmps106
  go_wp2_with (first | (at_builtin; refine wpList_append_own _ rfl _ _ 53 rfl base 5 i0 (.int .u8 0) 1 1 Tryz.underlying53 hi hz0 hz1 hz2 rfl (by decide) b _ _ rfl R1.own ⟨w.heap.size + 1, 0, none⟩ 1 1 [.int .u8 t] rfl rfl (by have h2 := one_new (w.alloc (.cells #[.int .i64 t, .string k] 83)) (.int .u8 t) 5; simpa using h2) (oneCells1 _ _) (by unfold maxLen; omega) (by omega) (by simp; omega) ?_; intro b4 w4 hown4 hgrow4 _; have R4 := R1.grow hbase hgrow4 hown4; have O4 := O1.trans (Oth.append R1.own hgrow4); obtain ⟨-, k4⟩ := R4.c) | (at_builtin; refine Lib.wpList_append_own_string _ rfl _ _ 53 9 rfl base 5 i0 Tryz.underlying53 Tryz.underlying9 hi hz0 hz1 hz2 b4 _ _ rfl R4.own k rfl (by unfold maxLen; omega) (by omega) (by have h := R4.q.size; omega) ?_; intro b5 w5 hown5 hgrow5 _; have R5 := R4.grow hbase hgrow5 hown5; have O5 := O4.trans (Oth.append R4.own hgrow5); obtain ⟨-, k5⟩ := R5.c) | (at_builtin; refine Lib.wpList_append_own_string _ rfl _ _ 53 9 rfl base 5 i0 Tryz.underlying53 Tryz.underlying9 hi hz0 hz1 hz2 b5 _ _ rfl R5.own v rfl (by unfold maxLen; omega) (by omega) (by have h := R5.q.size; omega) ?_; intro b6 w6 hown6 hgrow6 _; have R6 := R5.grow hbase hgrow6 hown6; have O6 := O5.trans (Oth.append R5.own hgrow6)))
  go_ret
  refine ⟨_, rfl, ?_, R6.q, O6⟩
  rw [hlen]
  have ho := R6.own
  simpa [enV, List.append_assoc, Nat.add_assoc] using ho
end Go.Proofs.YtokckapacdpgaaaGreatDoor
