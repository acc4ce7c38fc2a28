import Derived.Test.YtindifjhocgkbaaGreatDoorOps
import Derived.Lib.Strings
import Derived.Lib.Walk
import Derived.Lib.BufferWrite
import Derived.Lib.UnsafeStr
import Derived.Lib.Hide
import Derived.Laws.MakeOwn
import Derived.Deep.RegionHeld3
namespace Go.Proofs.YtindifjhocgkbaaGreatDoor
open Go.RowKit

theorem Tryz.infoU8 : (Tryz.prog.info? 5).map (fun i => (i.zero, i.size, i.bytes)) = some (some (.int .u8 0), 1, 1) := by kernel_rfl

set_option maxHeartbeats 4000000 in
set_option maxRecDepth 100000 in
/-- A copy of a string: the same bytes; of what was there nothing has turned. -/
theorem liteClone (s : ByteArray) (w : World) (hlim : s.size ≤ 1000) :
    Calls Tryz.prog 153 #[.string s] w fun e w' => e = .returned (.string s) ∧ Below w.heap.size w w' := by
  by_cases h0 : s.size = 0
  · have hs : s = ⟨#[]⟩ := by
      apply ByteArray.ext
      exact Array.eq_empty_of_size_eq_zero h0
    subst hs
    go_enter Tryz.func153, Tryz.ntmps153
    go_wp2
    go_ret
    exact ⟨rfl, Below.refl _ _⟩
  · obtain ⟨i0, hi, hz0, hz1, hz2⟩ := info_parts Tryz.infoU8
    have hinfo : (Tryz.prog.info? 5).map (·.size) = some 1 := by rw [hi]; simp [hz1]
    have hco : Tryz.prog.cellsOf 5 = 1 := by simp [Program.cellsOf, hi, hz1]
    obtain ⟨M, hM⟩ : ∃ M, M = madeCells (Value.int .u8 0).cells (((s.size : Nat) : Int).toNat * i0.size) := ⟨_, rfl⟩
    have hMs : M.size = s.size := by rw [hM, size_madeCells, hz1]; simp
    have hmk : ∀ W : World, (Instr.makeSlice 53 (.int .i64 (s.size : Int)) (.int .i64 (s.size : Int))).run Tryz.prog W = .ok (.slice (some ⟨W.heap.size, 0, none⟩) s.size s.size) (W.alloc (.cells M 5)) := fun W => by
      have h := run_make (P := Tryz.prog) W 53 5 i0 (.int .u8 0) Tryz.underlying53 hi hz0 .i64 .i64 (s.size : Int) (s.size : Int) (by omega) (by omega) (by rw [hz2]; omega) (by omega)
      rw [← hM] at h
      simpa using h
    clear hM
    have hcp := Lib.run_copy_row_string (P := Tryz.prog) (w.alloc (.cells M 5)) 53 9 3 5 w.heap.size 0 s.size s.size s M 5 Tryz.underlying53 hinfo (heap_alloc_new w _) (Nat.le_refl _) (by omega)
    obtain ⟨Y, hY⟩ : ∃ Y, Y = (M.toList.take 0 ++ Lib.byteCells s.data.toList ++ M.toList.drop (0 + s.size)).toArray := ⟨_, rfl⟩
    rw [← hY] at hcp
    have hYl : Y.toList = Lib.byteCells s.data.toList := by
      rw [hY, List.toList_toArray, List.take_zero, List.nil_append, List.drop_of_length_le (by rw [Array.length_toList]; omega), List.append_nil]
    have hYs : Y.size = s.size := by rw [← Array.length_toList, hYl, Lib.byteCells_length, ← Lib.size_eq]
    have hgY : ((w.alloc (.cells M 5)).setRow w.heap.size Y).heap[w.heap.size]? = some (.cells Y 5 (0, 0)) := setRow_heap _ _ M _ 5 (0, 0) (heap_alloc_new w _)
    have hne : s.data.toList ≠ [] := fun e => h0 (by rw [Lib.size_eq, e]; rfl)
    have hUS := Lib.run_unsafeString_row (P := Tryz.prog) ((w.alloc (.cells M 5)).setRow w.heap.size Y) 255 3 9 5 Tryz.underlying255 hco w.heap.size Y.size (by unfold World.shape?; rw [hgY]) s.data.toList hne (by rw [← Lib.size_eq]; omega) (by rw [← Lib.size_eq]; omega)
      (fun j x hx => Lib.cells_of_row hgY Y.size j _ (by rw [List.take_of_length_le (by rw [Array.length_toList]; exact Nat.le_refl _), hYl]; simp [Lib.byteCells, hx]))
    rw [← Lib.size_eq] at hUS
    clear hY
    go_enter Tryz.func153, Tryz.ntmps153
    go_wp2
    go_ret
    have hb1 : Below w.heap.size w (w.alloc (.cells M 5)) := (Below.refl _ w).alloc (Nat.le_refl _) _
    have hb2 : Below w.heap.size (w.alloc (.cells M 5)) ((w.alloc (.cells M 5)).setRow w.heap.size Y) := ⟨rfl, rfl, rfl, by simp, fun k hk => setRow_other _ _ _ _ (by omega)⟩
    exact ⟨rfl, Lib.below_freeze (hb1.trans hb2) (p := ⟨w.heap.size, 0, none⟩) (Nat.le_refl _) _⟩
set_option maxHeartbeats 1000000 in
theorem strClone (s : ByteArray) (w : World) (hlim : s.size ≤ 1000) :
    Calls Tryz.prog 140 #[.string s] w fun e w' => e = .returned (.string s) ∧ Below w.heap.size w w' := by
  go_enter Tryz.func140, Tryz.ntmps140
  go_wp2_with (go_at_call 153; refine (liteClone s _ hlim).mono ?_; rintro e w1 ⟨rfl, q1⟩)
  go_ret
  exact ⟨rfl, q1⟩
/-- What lies in the change's own block, and in the result's. -/
def LaidS (B : Nat) (o : OpD) (w : World) : Prop :=
  w.cell? ⟨B, 1, none⟩ = some (.int .i64 o.table) ∧ w.cell? ⟨B, 2, none⟩ = some (.string o.key) ∧ w.cell? ⟨B, 3, none⟩ = some (.string o.val) ∧
  w.cell? ⟨B + 1, 0, none⟩ = some (.int .i64 0) ∧ w.cell? ⟨B + 1, 1, none⟩ = some (.string ⟨#[]⟩) ∧ w.cell? ⟨B + 1, 2, none⟩ = some (.string ⟨#[]⟩) ∧ (∀ i, w.frozen? ⟨B + 1, i, none⟩ = false)
theorem LaidS.keep {B : Nat} {o : OpD} {w w' : World} (h : LaidS B o w) (hB : B + 1 < w.heap.size) (q : Below w.heap.size w w') : LaidS B o w' := by
  obtain ⟨h1, h2, h3, h4, h5, h6, h7⟩ := h
  exact ⟨(q.cell (p := ⟨B, 1, none⟩) (by simp; omega)).trans h1, (q.cell (p := ⟨B, 2, none⟩) (by simp; omega)).trans h2, (q.cell (p := ⟨B, 3, none⟩) (by simp; omega)).trans h3,
    (q.cell (p := ⟨B + 1, 0, none⟩) hB).trans h4, (q.cell (p := ⟨B + 1, 1, none⟩) hB).trans h5, (q.cell (p := ⟨B + 1, 2, none⟩) hB).trans h6, fun i => (q.frozen (p := ⟨B + 1, i, none⟩) hB).trans (h7 i)⟩
theorem boxK {W w1 : World} (q : Below (W.alloc (.cells #[.int .i64 0, .string ⟨#[]⟩] 83)).drew.heap.size (W.alloc (.cells #[.int .i64 0, .string ⟨#[]⟩] 83)).drew w1) :
    w1.cell? ⟨W.heap.size, 0, none⟩ = some (.int .i64 0) ∧ w1.cell? ⟨W.heap.size, 1, none⟩ = some (.string ⟨#[]⟩) ∧ ∀ i, w1.frozen? ⟨W.heap.size, i, none⟩ = false :=
  ⟨(q.cell (p := ⟨W.heap.size, 0, none⟩) (by simp)).trans (by simp), (q.cell (p := ⟨W.heap.size, 1, none⟩) (by simp)).trans (by simp), fun i => (q.frozen (p := ⟨W.heap.size, i, none⟩) (by simp)).trans (by simp)⟩
set_option maxRecDepth 100000 in
set_option maxHeartbeats 4000000 in
/-- The entry that a change lays. -/
theorem eLaid (o : OpD) (w : World) (hk : o.key.size ≤ 1000) (hv : o.val.size ≤ 1000) :
    Calls Tryz.prog 121 #[.agg #[.int .i64 o.kind, .int .i64 o.table, .string o.key, .string o.val]] w fun e w' => e = .returned (.agg #[.int .i64 o.table, .string o.key, .string o.val]) ∧ Below w.heap.size w w' := by
  go_enter Tryz.func121, Tryz.ntmps121
  go_wp2_with fail
  obtain ⟨W, hW⟩ : ∃ W, W = ((w.alloc (.cells #[.int .i64 o.kind, .int .i64 o.table, .string o.key, .string o.val] 85)).alloc (.cells #[.int .i64 0, .string ⟨#[]⟩, .string ⟨#[]⟩] 183)) := ⟨_, rfl⟩
  have hL : LaidS w.heap.size o W := by
    rw [hW]
    refine ⟨?_, ?_, ?_, ?_, ?_, ?_, ?_⟩ <;> simp
  have qW : Below w.heap.size w W := by rw [hW]; exact below_trans (below_alloc _ _) (below_alloc _ _)
  have hsz : w.heap.size + 1 < W.heap.size := by rw [hW]; simp
  rw [← hW]
  clear hW
  obtain ⟨h1, h2, h3, h4, h5, h6, h7⟩ := hL
  have hne : ¬ W.heap.size = w.heap.size := by omega
  go_region_held3 (fun w' => w'.cell? ⟨w.heap.size, 1, none⟩ = some (.int .i64 o.table) ∧ w'.cell? ⟨w.heap.size, 2, none⟩ = some (.string o.key))
    (first | go_keep | exact ⟨by assumption, by assumption⟩)
    (first | (go_at_call 140; refine (strClone o.key _ hk).mono ?_; rintro e w1 ⟨rfl, q1⟩; have qa : Below W.heap.size W w1 := (by first | exact below_trans (below_drew _) q1 | exact below_trans (below_trans (below_alloc _ _) (below_drew _)) q1); have hne1 : ¬ w1.heap.size = w.heap.size := (by have := qa.size; omega); have e1 := (qa.cell (p := ⟨w.heap.size, 1, none⟩) (by simp; omega)).trans h1; have e2 := (qa.cell (p := ⟨w.heap.size, 2, none⟩) (by simp; omega)).trans h2; (first | (have gg := boxK q1; obtain ⟨g0, g1, g2⟩ := gg) | skip)))
  · have qV : Below W.heap.size W (w1.alloc (.cells #[.int .i64 o.table, .string o.key] 83)) := below_trans qa (below_alloc _ _)
    have v0 : (w1.alloc (.cells #[.int .i64 o.table, .string o.key] 83)).cell? ⟨w1.heap.size, 0, none⟩ = some (.int .i64 o.table) := by simp
    have v1 : (w1.alloc (.cells #[.int .i64 o.table, .string o.key] 83)).cell? ⟨w1.heap.size, 1, none⟩ = some (.string o.key) := by simp
    have hK1 : ¬ w1.heap.size = w.heap.size + 1 := by have := qa.size; omega
    have hK3 : ¬ w.heap.size + 1 = w1.heap.size := by have := qa.size; omega
    have hK2 : w1.heap.size < (w1.alloc (.cells #[.int .i64 o.table, .string o.key] 83)).heap.size := by simp
    clear e1 e2 hne1 q1
    generalize w1.alloc (.cells #[.int .i64 o.table, .string o.key] 83) = V at *
    generalize w1.heap.size = K at *
    clear qa w1
    have r3 := (qV.cell (p := ⟨w.heap.size, 3, none⟩) (by simp; omega)).trans h3
    have r4 := (qV.cell (p := ⟨w.heap.size + 1, 0, none⟩) hsz).trans h4
    have r5 := (qV.cell (p := ⟨w.heap.size + 1, 1, none⟩) hsz).trans h5
    have r6 := (qV.cell (p := ⟨w.heap.size + 1, 2, none⟩) hsz).trans h6
    have r7 : ∀ i, V.frozen? ⟨w.heap.size + 1, i, none⟩ = false := fun i => (qV.frozen (p := ⟨w.heap.size + 1, i, none⟩) hsz).trans (h7 i)
    have hsV : w.heap.size + 1 < V.heap.size := Nat.lt_of_lt_of_le hsz qV.size
    have qwV : Below w.heap.size w V := qW.trans (qV.mono (by omega))
    clear h1 h2 h3 h4 h5 h6 h7 qV qW hsz hne
    go_wp2_with fail
    go_region_held3 (fun w' => w'.cell? ⟨K, 0, none⟩ = some (.int .i64 o.table) ∧ w'.cell? ⟨K, 1, none⟩ = some (.string o.key) ∧ w'.cell? ⟨w.heap.size, 3, none⟩ = some (.string o.val))
      (first | go_keep | exact ⟨by assumption, by assumption, by assumption⟩)
      (first | (go_at_call 140; refine (strClone o.val _ hv).mono ?_; rintro e w2 ⟨rfl, q2⟩; have e0 := (q2.cell (p := ⟨K, 0, none⟩) hK2).trans v0; have e1 := (q2.cell (p := ⟨K, 1, none⟩) hK2).trans v1; have e3 := (q2.cell (p := ⟨w.heap.size, 3, none⟩) (Nat.lt_of_succ_lt hsV)).trans r3; have e4 := (q2.cell (p := ⟨w.heap.size + 1, 0, none⟩) hsV).trans r4; have e5 := (q2.cell (p := ⟨w.heap.size + 1, 1, none⟩) hsV).trans r5; have e6 := (q2.cell (p := ⟨w.heap.size + 1, 2, none⟩) hsV).trans r6; have e7 : ∀ i, w2.frozen? ⟨w.heap.size + 1, i, none⟩ = false := fun i => (q2.frozen (p := ⟨w.heap.size + 1, i, none⟩) hsV).trans (r7 i)))
    go_wp2_with fail
    exact bodyPost_ret (v := .agg #[.int .i64 o.table, .string o.key, .string o.val]) (by simp [results, Tryz.results121, go_sem, e4, e5, e6]) rfl ⟨rfl, (((qwV.trans ((below_trans (below_drew _) q2).mono qwV.size)).setCell (p := ⟨w.heap.size + 1, 0, none⟩) (by simp) _).setCell (p := ⟨w.heap.size + 1, 1, none⟩) (by simp) _).setCell (p := ⟨w.heap.size + 1, 2, none⟩) (by simp) _⟩
  · have qV : Below W.heap.size W ((w1.setCell ⟨W.heap.size, 0, none⟩ (.int .i64 o.table)).setCell ⟨W.heap.size, 1, none⟩ (.string o.key)) := (qa.setCell (p := ⟨W.heap.size, 0, none⟩) (Nat.le_refl _) _).setCell (p := ⟨W.heap.size, 1, none⟩) (Nat.le_refl _) _
    have v0 : ((w1.setCell ⟨W.heap.size, 0, none⟩ (.int .i64 o.table)).setCell ⟨W.heap.size, 1, none⟩ (.string o.key)).cell? ⟨W.heap.size, 0, none⟩ = some (.int .i64 o.table) := (World.cell?_setCell_other _ _ _ _ (by simp)).trans (World.cell?_setCell_same _ _ _ g0)
    have v1 : ((w1.setCell ⟨W.heap.size, 0, none⟩ (.int .i64 o.table)).setCell ⟨W.heap.size, 1, none⟩ (.string o.key)).cell? ⟨W.heap.size, 1, none⟩ = some (.string o.key) := World.cell?_setCell_same _ _ _ ((World.cell?_setCell_other _ _ _ _ (by simp)).trans g1)
    have hK1 : ¬ W.heap.size = w.heap.size + 1 := by omega
    have hK3 : ¬ w.heap.size + 1 = W.heap.size := by omega
    have hK2 : W.heap.size < ((w1.setCell ⟨W.heap.size, 0, none⟩ (.int .i64 o.table)).setCell ⟨W.heap.size, 1, none⟩ (.string o.key)).heap.size := cell_lt v0
    clear e1 e2 hne1 q1 g0 g1 g2
    generalize (w1.setCell ⟨W.heap.size, 0, none⟩ (.int .i64 o.table)).setCell ⟨W.heap.size, 1, none⟩ (.string o.key) = V at *
    obtain ⟨K, hKK⟩ : ∃ K, K = W.heap.size := ⟨_, rfl⟩
    rw [← hKK] at v0 v1 hK1 hK3 hK2 ⊢
    clear qa w1
    have r3 := (qV.cell (p := ⟨w.heap.size, 3, none⟩) (by simp; omega)).trans h3
    have r4 := (qV.cell (p := ⟨w.heap.size + 1, 0, none⟩) hsz).trans h4
    have r5 := (qV.cell (p := ⟨w.heap.size + 1, 1, none⟩) hsz).trans h5
    have r6 := (qV.cell (p := ⟨w.heap.size + 1, 2, none⟩) hsz).trans h6
    have r7 : ∀ i, V.frozen? ⟨w.heap.size + 1, i, none⟩ = false := fun i => (qV.frozen (p := ⟨w.heap.size + 1, i, none⟩) hsz).trans (h7 i)
    have hsV : w.heap.size + 1 < V.heap.size := Nat.lt_of_lt_of_le hsz qV.size
    have qwV : Below w.heap.size w V := qW.trans (qV.mono (by omega))
    clear hKK h1 h2 h3 h4 h5 h6 h7 qV qW hsz hne
    go_wp2_with fail
    go_region_held3 (fun w' => w'.cell? ⟨K, 0, none⟩ = some (.int .i64 o.table) ∧ w'.cell? ⟨K, 1, none⟩ = some (.string o.key) ∧ w'.cell? ⟨w.heap.size, 3, none⟩ = some (.string o.val))
      (first | go_keep | exact ⟨by assumption, by assumption, by assumption⟩)
      (first | (go_at_call 140; refine (strClone o.val _ hv).mono ?_; rintro e w2 ⟨rfl, q2⟩; have e0 := (q2.cell (p := ⟨K, 0, none⟩) hK2).trans v0; have e1 := (q2.cell (p := ⟨K, 1, none⟩) hK2).trans v1; have e3 := (q2.cell (p := ⟨w.heap.size, 3, none⟩) (Nat.lt_of_succ_lt hsV)).trans r3; have e4 := (q2.cell (p := ⟨w.heap.size + 1, 0, none⟩) hsV).trans r4; have e5 := (q2.cell (p := ⟨w.heap.size + 1, 1, none⟩) hsV).trans r5; have e6 := (q2.cell (p := ⟨w.heap.size + 1, 2, none⟩) hsV).trans r6; have e7 : ∀ i, w2.frozen? ⟨w.heap.size + 1, i, none⟩ = false := fun i => (q2.frozen (p := ⟨w.heap.size + 1, i, none⟩) hsV).trans (r7 i)))
    go_wp2_with fail
    exact bodyPost_ret (v := .agg #[.int .i64 o.table, .string o.key, .string o.val]) (by simp [results, Tryz.results121, go_sem, e4, e5, e6]) rfl ⟨rfl, (((qwV.trans ((below_trans (below_drew _) q2).mono qwV.size)).setCell (p := ⟨w.heap.size + 1, 0, none⟩) (by simp) _).setCell (p := ⟨w.heap.size + 1, 1, none⟩) (by simp) _).setCell (p := ⟨w.heap.size + 1, 2, none⟩) (by simp) _⟩
end Go.Proofs.YtindifjhocgkbaaGreatDoor
