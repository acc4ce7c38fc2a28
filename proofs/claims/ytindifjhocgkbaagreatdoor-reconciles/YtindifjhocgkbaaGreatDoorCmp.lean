import Derived.Test.YtindifjhocgkbaaGreatDoorRowAToLst
import Derived.Laws.Externs
import Derived.Lib.Walk
import Derived.StillTailTactics
import Derived.Laws.NewBlocks
namespace Go.Proofs.YtindifjhocgkbaaGreatDoor
open Go.RowKit

theorem below3c (w : World) (a b c : Obj) : Below w.heap.size w (((w.alloc a).alloc b).alloc c).drew :=
  below_trans (below_trans (below_trans (below_alloc _ _) (below_alloc _ _)) (below_alloc _ _)) (below_drew _)
/-- A region that draws its order, whose last operations come last in every order: the first ones leave the world as it is. -/
theorem region_tail {P : Program} {id : Nat} {Q : Exit → Act → World → Prop} {a : Act} {w : World} {l : List Oper} (n : Nat) (hm : P.follows .mixedOrders = true) (hB : Region.lexTailB .any l.toArray n = true)
    (h : wpStill P l.toArray w.drew (fun a' => wpList P l.toArray Q (l.drop n) a' w.drew) (l.take n) a) : (Code.region id l.toArray true).wp P Q a w := wp_region_still_tail n hm hB h

set_option maxHeartbeats 400000 in
theorem isNaN (x : Int) (w : World) : Calls Tryz.prog 158 #[.int .i64 x] w fun e w' => e = .returned (.bool false) ∧ w' = w := by
  go_enter Tryz.func158, Tryz.ntmps158
  go_wp2
  go_ret
  exact ⟨rfl, rfl⟩
set_option maxHeartbeats 1000000 in
theorem cmpInt (x y : Int) (w : World) : Calls Tryz.prog 150 #[.int .i64 x, .int .i64 y] w fun e w' => e = .returned (.int .i64 (cmpT x y)) ∧ w' = w := by
  go_enter Tryz.func150, Tryz.ntmps150
  go_wp2_with (go_at_call 158; refine (isNaN _ _).mono ?_; rintro e w' ⟨rfl, hw⟩; rw [hw])
  all_goals (go_ret; refine ⟨ret_int ?_, rfl⟩; unfold cmpT; (repeat' split) <;> first | rfl | (exfalso; omega))
set_option maxRecDepth 100000 in
set_option maxHeartbeats 1000000 in
theorem cmpString (a b : ByteArray) (w : World) : Calls Tryz.prog 159 #[.string a, .string b] w fun e w' => e = .returned (.int .i64 (cmpB a b)) ∧ w' = w := by
  go_enter Tryz.func159, Tryz.ntmps159
  go_wp2
  rw [run_callFunc_extern Tryz.func163 (by kernel_rfl) (by kernel_rfl) (by kernel_rfl) (e := Extern.BytealgCompare.compare) (by kernel_rfl), Lib.run_compareString]
  simp only [Result.andThen]
  rw [Oper.upon_value]
  go_wp2
  go_ret
  exact ⟨rfl, rfl⟩
set_option maxHeartbeats 1000000 in
theorem cmpStrings (a b : ByteArray) (w : World) : Calls Tryz.prog 151 #[.string a, .string b] w fun e w' => e = .returned (.int .i64 (cmpB a b)) ∧ w' = w := by
  go_enter Tryz.func151, Tryz.ntmps151
  go_wp2_with (go_at_call 159; refine (cmpString _ _ _).mono ?_; rintro e w' ⟨rfl, rfl⟩)
  go_ret
  exact ⟨rfl, rfl⟩
def orI (x y : Int) : Int := if x = 0 then y else x
set_option maxRecDepth 100000 in
set_option maxHeartbeats 1000000 in
theorem cmpOr (x y : Int) (b : Nat) (w : World) (c0 : w.cell? ⟨b, 0, none⟩ = some (.int .i64 x)) (c1 : w.cell? ⟨b, 1, none⟩ = some (.int .i64 y)) :
    Calls Tryz.prog 149 #[.slice (some ⟨b, 0, none⟩) 2 2] w fun e w' => e = .returned (.int .i64 (orI x y)) ∧ w' = w := by
  go_enter Tryz.func149, Tryz.ntmps149
  go_wp2
  go_loop [8] (fun i => ∃ k : Nat, k ≤ 2 ∧ i = .int .i64 k ∧ (1 ≤ k → x = 0) ∧ (2 ≤ k → y = 0)) (fun i => 2 - (intOf i).toNat)
  case atStart => exact ⟨0, by omega, rfl, by omega, by omega⟩
  case round =>
    obtain ⟨k, hk, rfl, h1, h2⟩ := hrel
    rcases (show k = 0 ∨ k = 1 ∨ k = 2 by omega) with rfl | rfl | rfl
    · by_cases hx : x = 0
      · have hb : (x != 0) = false := by simp [hx]
        go_wp2
        go_round
        case rel => exact ⟨1, by omega, rfl, fun _ => hx, by omega⟩
        case measure => simp [intOf]
      · have hb : (x != 0) = true := by simp [hx]
        go_wp2
        go_ret
        exact ⟨ret_int (by rw [orI, if_neg hx]), rfl⟩
    · have hx := h1 (by omega)
      by_cases hy : y = 0
      · have hb : (y != 0) = false := by simp [hy]
        go_wp2
        go_round
        case rel => exact ⟨2, by omega, rfl, fun _ => hx, fun _ => hy⟩
        case measure => simp [intOf]
      · have hb : (y != 0) = true := by simp [hy]
        go_wp2
        go_ret
        exact ⟨ret_int (by simp [orI]), rfl⟩
    · go_wp2
      go_ret
      exact ⟨ret_int (by simp [orI]), rfl⟩
set_option maxRecDepth 100000 in
set_option maxHeartbeats 1000000 in
theorem eCompare (t : Int) (k : ByteArray) (t' : Int) (k' : ByteArray) (w : World) :
    Calls Tryz.prog 137 #[.agg #[.int .i64 t, .string k], .agg #[.int .i64 t', .string k']] w fun e w' => e = .returned (.int .i64 (cmpK t k t' k')) ∧ Below w.heap.size w w' := by
  go_enter Tryz.func137, Tryz.ntmps137
  go_wp2_with fail
  refine region_tail 10 (by kernel_rfl) (by kernel_rfl) ?_
  simp only [List.take_succ_cons, List.take_zero, List.drop_succ_cons, List.drop_zero]
  still_step
  still_step
  still_step
  still_step
  still_call (cmpInt _ _ _)
  still_step
  still_step
  still_step
  still_step
  still_call (cmpStrings _ _ _)
  refine wpStill_nil ?_
  go_wp2_with (go_at_call 149; refine (cmpOr (cmpT t t') (cmpB k k') _ _ (World.cell?_alloc_at _ _ _ 0 (by simp)) (World.cell?_alloc_at _ _ _ 1 (by simp))).mono ?_; rintro e w1 ⟨rfl, rfl⟩)
  go_ret
  exact ⟨rfl, below3c _ _ _ _⟩
set_option maxHeartbeats 1000000 in
theorem findCmp (e : En) (t : Int) (k : ByteArray) (w : World) :
    Calls Tryz.prog 136 #[.agg #[.int .i64 e.t, .string e.k, .string e.v], .agg #[.int .i64 t, .string k]] w fun r w' => r = .returned (.int .i64 (e.cmp t k)) ∧ Below w.heap.size w w' := by
  go_enter Tryz.func136, Tryz.ntmps136
  go_wp2_with (go_at_call 137; refine (eCompare e.t e.k t k _).mono ?_; rintro r w1 ⟨rfl, q1⟩)
  go_ret
  exact ⟨rfl, below_trans (below_trans (below_alloc _ _) (below_alloc _ _)) q1⟩
end Go.Proofs.YtindifjhocgkbaaGreatDoor
