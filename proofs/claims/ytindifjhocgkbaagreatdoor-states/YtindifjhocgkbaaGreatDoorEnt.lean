import Derived.Test.YtindifjhocgkbaaGreatDoorEncB
namespace Go.Proofs.YtindifjhocgkbaaGreatDoor
open Go.RowKit

/-- An entry's bytes, as cells. -/
def enV (t : Int) (k v : ByteArray) : List Value := [.int .u8 t] ++ Lib.strCells k ++ Lib.strCells v
/-- The row, and the key's own block. -/
structure RndK (base : Nat) (w W : World) (B : Nat) (t : Int) (k : ByteArray) (b : Value) (n : Nat) (xs : List Value) : Prop where
  own : W.ownsRow base 5 1 b n xs
  blk : W.heap[B]? = some (.cells #[.int .i64 t, .string k] 83 (0, 0))
  q : Below base w W
theorem RndK.alloc {base : Nat} {w W : World} {B : Nat} {t : Int} {k : ByteArray} {b : Value} {n : Nat} {xs : List Value} (h : RndK base w W B t k b n xs) (hb : base ≤ w.heap.size) (x : Obj) : RndK base w (W.alloc x) B t k b n xs :=
  ⟨h.own.alloc x, by rw [Below.heap_alloc _ _ _ (Array.getElem?_eq_some_iff.1 h.blk).1]; exact h.blk, h.q.alloc (Nat.le_trans hb h.q.size) x⟩
theorem RndK.grow {base : Nat} {w W W' : World} {B : Nat} {t : Int} {k : ByteArray} {b b' : Value} {n n' : Nat} {xs xs' : List Value} (h : RndK base w W B t k b n xs) (hb : base ≤ w.heap.size) (hg : W.grownBy W' b.ownBlock) (ho : W'.ownsRow base 5 1 b' n' xs') : RndK base w W' B t k b' n' xs' :=
  ⟨ho, by rw [hg.block B (Array.getElem?_eq_some_iff.1 h.blk).1 (own_ne h.own h.blk (by decide))]; exact h.blk, grown_below h.q h.own hg (Nat.le_trans hb h.q.size) (Nat.le_refl _)⟩
theorem RndK.c {base : Nat} {w W : World} {B : Nat} {t : Int} {k : ByteArray} {b : Value} {n : Nat} {xs : List Value} (h : RndK base w W B t k b n xs) :
    W.cell? ⟨B, 0, none⟩ = some (.int .i64 t) ∧ W.cell? ⟨B, 1, none⟩ = some (.string k) := by
  have hb := h.blk
  refine ⟨?_, ?_⟩ <;> simp [World.cell?, hb]

set_option maxRecDepth 10000 in
set_option maxHeartbeats 2000000 in
theorem appendEntry (base : Nat) (b : Value) (n : Nat) (xs : List Value) (t : Int) (k v : ByteArray) (w : World) (ht0 : 0 ≤ t) (ht3 : t < 3) (hk : k.size ≤ 6) (hv : v.size ≤ 4) (hn : n ≤ 100000000) (hown : w.ownsRow base 5 1 b n xs) (hbase : base ≤ w.heap.size) :
    Calls Tryz.prog 106 #[b, .agg #[.int .i64 t, .string k], .string v] w fun e w' => ∃ b', e = .returned b' ∧ w'.ownsRow base 5 1 b' (n + (enV t k v).length) (xs ++ enV t k v) ∧ Below base w w' := by
  obtain ⟨i0, hi, hz0, hz1, hz2⟩ := info_parts Tryz.info5
  have hlen : (enV t k v).length = 1 + k.size + v.size := by simp [enV, Lib.strCells_length]; omega
  have R0 : RndK base w (w.alloc (.cells #[.int .i64 t, .string k] 83)) w.heap.size t k b n xs := ⟨hown.alloc _, heap_alloc_new _ _, (Below.refl _ _).alloc hbase _⟩
  have R1 := R0.alloc hbase (.cells #[.int .u8 t] 5)
  go_enter Tryz.func106, Tryz.ntmps106
  go_wp2_with (first | (at_builtin; refine wpList_append_own _ rfl _ _ 53 rfl base 5 i0 (.int .u8 0) 1 1 Tryz.underlying53 hi hz0 hz1 hz2 rfl (by decide) b _ _ rfl R1.own ⟨w.heap.size + 1, 0, none⟩ 1 1 [.int .u8 t] rfl rfl (by have h2 := one_new (w.alloc (.cells #[.int .i64 t, .string k] 83)) (.int .u8 t) 5; simpa using h2) (oneCells1 _ _) (by unfold maxLen; omega) (by omega) (by simp; omega) ?_; intro b4 w4 hown4 hgrow4 _; have R4 := R1.grow hbase hgrow4 hown4; obtain ⟨-, k4⟩ := R4.c) | (at_builtin; refine Lib.wpList_append_own_string _ rfl _ _ 53 9 rfl base 5 i0 Tryz.underlying53 Tryz.underlying9 hi hz0 hz1 hz2 b4 _ _ rfl R4.own k rfl (by unfold maxLen; omega) (by omega) (by have h := R4.q.size; omega) ?_; intro b5 w5 hown5 hgrow5 _; have R5 := R4.grow hbase hgrow5 hown5; obtain ⟨-, k5⟩ := R5.c) | (at_builtin; refine Lib.wpList_append_own_string _ rfl _ _ 53 9 rfl base 5 i0 Tryz.underlying53 Tryz.underlying9 hi hz0 hz1 hz2 b5 _ _ rfl R5.own v rfl (by unfold maxLen; omega) (by omega) (by have h := R5.q.size; omega) ?_; intro b6 w6 hown6 hgrow6 _; have R6 := R5.grow hbase hgrow6 hown6))
  go_ret
  refine ⟨_, rfl, ?_, R6.q⟩
  rw [hlen]
  have ho := R6.own
  simpa [enV, List.append_assoc, Nat.add_assoc] using ho
end Go.Proofs.YtindifjhocgkbaaGreatDoor
