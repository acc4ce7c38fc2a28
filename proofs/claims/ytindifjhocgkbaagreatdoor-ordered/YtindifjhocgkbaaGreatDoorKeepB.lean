import Derived.Test.YtindifjhocgkbaaGreatDoorKeep
namespace Go.Proofs.YtindifjhocgkbaaGreatDoor
open Go.RowKit

/-- A change that may be, ahead of nothing. -/
def okB (o : OpD) : Prop := kindB o.kind o.table = true ∧ keyB o.table o.key = true ∧ fitsB o = true

theorem val_2 (p x : Int) (hp : protB p = true) (hx : 0 ≤ x ∧ x < 2) : valB 2 (baOf [p, x]) = true := by
  have hp' : p = 0 ∨ p = 6 ∨ p = 17 := by simpa [protB] using hp
  have e0 := bt_baOf [p, x] 0 (by simp) (by simp; omega)
  have e1 := bt_baOf [p, x] 1 (by simp) (by simp; omega)
  simp only [List.getElem_cons_zero, List.getElem_cons_succ] at e0 e1
  rw [valB_2 (baOf_size _), e0, e1, hp]
  simp; omega
theorem val_4 (t n : Int) (ht : ¬ t = 2) : valB t (baOf [1, n, 0, 9]) = true := by
  rw [valB_4 ht (baOf_size _)]
  simp [baOf, ByteArray.toList_eq]

set_option maxRecDepth 10000 in
set_option maxHeartbeats 2000000 in
theorem kOp (c d : Int) (w : World) (hc : -9223372036854775808 ≤ c ∧ c ≤ 9223372036854775807) (hd : -9223372036854775808 ≤ d ∧ d ≤ 9223372036854775807) :
    Calls Tryz.prog 53 #[.int .i64 c, .int .i64 d] w fun e w' => ∃ o : OpD, e = .returned (.agg #[.int .i64 o.kind, .int .i64 o.table, .string o.key, .string o.val]) ∧ okB o ∧ Below w.heap.size w w' := by
  have HD : Hid (-9223372036854775808 ≤ d ∧ d ≤ 9223372036854775807) := hd
  clear hd
  go_enter Tryz.func53, Tryz.ntmps53
  go_wp2_with fail
  refine (kKey c _ hc).mono ?_
  rintro e w1 ⟨t, k, rfl, t0, t3, hk, q1⟩
  have r0 : w1.cell? ⟨w.heap.size, 0, none⟩ = some (.int .i64 0) := (q1.cell (p := ⟨w.heap.size, 0, none⟩) (by simp)).trans (by simp)
  have r1 : w1.cell? ⟨w.heap.size, 1, none⟩ = some (.int .i64 0) := (q1.cell (p := ⟨w.heap.size, 1, none⟩) (by simp)).trans (by simp)
  have r2 : w1.cell? ⟨w.heap.size, 2, none⟩ = some (.string ⟨#[]⟩) := (q1.cell (p := ⟨w.heap.size, 2, none⟩) (by simp)).trans (by simp)
  have r3 : w1.cell? ⟨w.heap.size, 3, none⟩ = some (.string ⟨#[]⟩) := (q1.cell (p := ⟨w.heap.size, 3, none⟩) (by simp)).trans (by simp)
  have f0 : w1.frozen? ⟨w.heap.size, 0, none⟩ = false := (q1.frozen (p := ⟨w.heap.size, 0, none⟩) (by simp)).trans (by simp)
  have f1 : w1.frozen? ⟨w.heap.size, 1, none⟩ = false := (q1.frozen (p := ⟨w.heap.size, 1, none⟩) (by simp)).trans (by simp)
  have f2 : w1.frozen? ⟨w.heap.size, 2, none⟩ = false := (q1.frozen (p := ⟨w.heap.size, 2, none⟩) (by simp)).trans (by simp)
  have f3 : w1.frozen? ⟨w.heap.size, 3, none⟩ = false := (q1.frozen (p := ⟨w.heap.size, 3, none⟩) (by simp)).trans (by simp)
  have hs1 : w.heap.size < w1.heap.size := cell_lt r0
  have hs2 : w.heap.size < w1.heap.size + 1 := Nat.lt_succ_of_lt hs1
  have qw : Below w.heap.size w w1 := below_trans (below_alloc _ _) q1
  have HKB : Hid (keyB t k = true) := hk
  clear q1 hk
  go_wp2_with fail
  refine (kPick d 40 _ HD.out (by decide) (by decide)).mono ?_
  rintro e w2 ⟨n, n0, n40, rfl, rfl⟩
  by_cases h4 : n % 4 = 0
  · go_wp2
    exact bodyPost_ret (v := .agg #[.int .i64 2, .int .i64 t, .string k, .string ⟨#[]⟩]) (by simp [results, Tryz.results53, go_sem, r0, r1, r2, r3, World.cell?_alloc_lt, hs1]) rfl ⟨⟨2, t, k, ⟨#[]⟩⟩, rfl, ⟨by simp [kindB]; omega, HKB.out, by rw [fits2 rfl]; simp [ByteArray.toList_eq]⟩, (by repeat' (first | refine Below.setCell ?_ (by simp <;> omega) _ | refine Below.alloc ?_ (by simp <;> omega) _ | exact qw))⟩
  have h4' : ¬ n % 4 = 0 := h4
  by_cases h2 : t = 2
  · subst h2
    rcases (show n % 3 = 0 ∨ n % 3 = 1 ∨ n % 3 = 2 by omega) with h | h | h
    · have hcv : (convert 53 9 (.slice (some ⟨w1.heap.size + 1, 0, none⟩) 2 2)).run Tryz.prog ((w1.alloc (.cells #[.int .i64 1, .int .i64 2, .string k, .string ⟨#[]⟩] 85)).alloc (.cells #[.int .u8 0, .int .u8 (n / 3 % 2)] 5)) = .ok (.string (baOf [0, n / 3 % 2])) ((w1.alloc (.cells #[.int .i64 1, .int .i64 2, .string k, .string ⟨#[]⟩] 85)).alloc (.cells #[.int .u8 0, .int .u8 (n / 3 % 2)] 5)) := str_lit _ [0, n / 3 % 2] _ _ 2 (by simp) (by simp <;> omega)
      have hx : ((((⟨#[0, 6, 17]⟩ : ByteArray)[0]'(by decide)).toNat : Nat) : Int) = 0 := rfl
      have hval : valB 2 (baOf [0, n / 3 % 2]) = true := val_2 0 _ (by decide) (by omega)
      have HV : Hid (valB 2 (baOf [0, n / 3 % 2]) = true) := hval
      clear hval
      generalize baOf [0, n / 3 % 2] = vv at hcv HV
      go_wp2
      exact bodyPost_ret (v := .agg #[.int .i64 1, .int .i64 2, .string k, .string vv]) (by simp [results, Tryz.results53, go_sem, r0, r1, r2, r3, World.cell?_alloc_lt, hs1, hs2]) rfl ⟨⟨1, 2, k, vv⟩, rfl, ⟨by simp [kindB], HKB.out, by rw [fits1 (by simp)]; exact HV.out⟩, (by repeat' (first | refine Below.setCell ?_ (by simp <;> omega) _ | refine Below.alloc ?_ (by simp <;> omega) _ | exact qw))⟩
    · have hcv : (convert 53 9 (.slice (some ⟨w1.heap.size + 1, 0, none⟩) 2 2)).run Tryz.prog ((w1.alloc (.cells #[.int .i64 1, .int .i64 2, .string k, .string ⟨#[]⟩] 85)).alloc (.cells #[.int .u8 6, .int .u8 (n / 3 % 2)] 5)) = .ok (.string (baOf [6, n / 3 % 2])) ((w1.alloc (.cells #[.int .i64 1, .int .i64 2, .string k, .string ⟨#[]⟩] 85)).alloc (.cells #[.int .u8 6, .int .u8 (n / 3 % 2)] 5)) := str_lit _ [6, n / 3 % 2] _ _ 2 (by simp) (by simp <;> omega)
      have hx : ((((⟨#[0, 6, 17]⟩ : ByteArray)[1]'(by decide)).toNat : Nat) : Int) = 6 := rfl
      have hval : valB 2 (baOf [6, n / 3 % 2]) = true := val_2 6 _ (by decide) (by omega)
      have HV : Hid (valB 2 (baOf [6, n / 3 % 2]) = true) := hval
      clear hval
      generalize baOf [6, n / 3 % 2] = vv at hcv HV
      go_wp2
      exact bodyPost_ret (v := .agg #[.int .i64 1, .int .i64 2, .string k, .string vv]) (by simp [results, Tryz.results53, go_sem, r0, r1, r2, r3, World.cell?_alloc_lt, hs1, hs2]) rfl ⟨⟨1, 2, k, vv⟩, rfl, ⟨by simp [kindB], HKB.out, by rw [fits1 (by simp)]; exact HV.out⟩, (by repeat' (first | refine Below.setCell ?_ (by simp <;> omega) _ | refine Below.alloc ?_ (by simp <;> omega) _ | exact qw))⟩
    · have hcv : (convert 53 9 (.slice (some ⟨w1.heap.size + 1, 0, none⟩) 2 2)).run Tryz.prog ((w1.alloc (.cells #[.int .i64 1, .int .i64 2, .string k, .string ⟨#[]⟩] 85)).alloc (.cells #[.int .u8 17, .int .u8 (n / 3 % 2)] 5)) = .ok (.string (baOf [17, n / 3 % 2])) ((w1.alloc (.cells #[.int .i64 1, .int .i64 2, .string k, .string ⟨#[]⟩] 85)).alloc (.cells #[.int .u8 17, .int .u8 (n / 3 % 2)] 5)) := str_lit _ [17, n / 3 % 2] _ _ 2 (by simp) (by simp <;> omega)
      have hx : ((((⟨#[0, 6, 17]⟩ : ByteArray)[2]'(by decide)).toNat : Nat) : Int) = 17 := rfl
      have hval : valB 2 (baOf [17, n / 3 % 2]) = true := val_2 17 _ (by decide) (by omega)
      have HV : Hid (valB 2 (baOf [17, n / 3 % 2]) = true) := hval
      clear hval
      generalize baOf [17, n / 3 % 2] = vv at hcv HV
      go_wp2
      exact bodyPost_ret (v := .agg #[.int .i64 1, .int .i64 2, .string k, .string vv]) (by simp [results, Tryz.results53, go_sem, r0, r1, r2, r3, World.cell?_alloc_lt, hs1, hs2]) rfl ⟨⟨1, 2, k, vv⟩, rfl, ⟨by simp [kindB], HKB.out, by rw [fits1 (by simp)]; exact HV.out⟩, (by repeat' (first | refine Below.setCell ?_ (by simp <;> omega) _ | refine Below.alloc ?_ (by simp <;> omega) _ | exact qw))⟩
  · have ht2 : ¬ t = 2 := h2
    have hcv : (convert 53 9 (.slice (some ⟨w1.heap.size + 1, 0, none⟩) 4 4)).run Tryz.prog ((w1.alloc (.cells #[.int .i64 1, .int .i64 t, .string k, .string ⟨#[]⟩] 85)).alloc (.cells #[.int .u8 1, .int .u8 (n), .int .u8 0, .int .u8 9] 5)) = .ok (.string (baOf [1, n, 0, 9])) ((w1.alloc (.cells #[.int .i64 1, .int .i64 t, .string k, .string ⟨#[]⟩] 85)).alloc (.cells #[.int .u8 1, .int .u8 (n), .int .u8 0, .int .u8 9] 5)) := str_lit _ [1, n, 0, 9] _ _ 4 (by simp) (by simp <;> omega)
    have hval : valB t (baOf [1, n, 0, 9]) = true := val_4 _ _ ht2
    have HV : Hid (valB t (baOf [1, n, 0, 9]) = true) := hval
    clear hval
    generalize baOf [1, n, 0, 9] = vv at hcv HV
    go_wp2
    exact bodyPost_ret (v := .agg #[.int .i64 1, .int .i64 t, .string k, .string vv]) (by simp [results, Tryz.results53, go_sem, r0, r1, r2, r3, World.cell?_alloc_lt, hs1, hs2]) rfl ⟨⟨1, t, k, vv⟩, rfl, ⟨by simp [kindB]; omega, HKB.out, by rw [fits1 (by simp)]; exact HV.out⟩, (by repeat' (first | refine Below.setCell ?_ (by simp <;> omega) _ | refine Below.alloc ?_ (by simp <;> omega) _ | exact qw))⟩
end Go.Proofs.YtindifjhocgkbaaGreatDoor
