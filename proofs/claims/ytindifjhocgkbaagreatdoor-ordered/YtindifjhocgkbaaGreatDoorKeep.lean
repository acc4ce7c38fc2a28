import Derived.Test.YtindifjhocgkbaaGreatDoorByt
import Derived.Test.YtindifjhocgkbaaGreatDoorKit
namespace Go.Proofs.YtindifjhocgkbaaGreatDoor
open Go.RowKit

theorem key_1 (b k : Int) (hb : 0 ≤ b ∧ b < 5) (hk : 0 ≤ k ∧ k < 4) : keyB 1 (baOf [10, b, 0, 0, 16 + k]) = true := by
  have e0 := bt_baOf [10, b, 0, 0, 16 + k] 0 (by simp) (by simp)
  have e1 := bt_baOf [10, b, 0, 0, 16 + k] 1 (by simp) (by simp; omega)
  have e2 := bt_baOf [10, b, 0, 0, 16 + k] 2 (by simp) (by simp)
  have e3 := bt_baOf [10, b, 0, 0, 16 + k] 3 (by simp) (by simp)
  have e4 := bt_baOf [10, b, 0, 0, 16 + k] 4 (by simp) (by simp; omega)
  simp only [List.getElem_cons_zero, List.getElem_cons_succ] at e0 e1 e2 e3 e4
  rw [keyB_1 (baOf_size _), e4]
  simp only [num, e0, e1, e2, e3]
  rcases (show k = 0 ∨ k = 1 ∨ k = 2 ∨ k = 3 by omega) with rfl | rfl | rfl | rfl <;> simp <;> omega

set_option maxRecDepth 10000 in
set_option maxHeartbeats 1000000 in
theorem kKey (c : Int) (w : World) (hc : -9223372036854775808 ≤ c ∧ c ≤ 9223372036854775807) :
    Calls Tryz.prog 79 #[.int .i64 c] w fun e w' => ∃ (t : Int) (k : ByteArray), e = .returned (.agg #[.int .i64 t, .string k]) ∧ 0 ≤ t ∧ t < 3 ∧ keyB t k = true ∧ Below w.heap.size w w' := by
  go_enter Tryz.func79, Tryz.ntmps79
  go_wp2_with fail
  refine (kPick c 60 _ hc (by decide) (by decide)).mono ?_
  rintro e w1 ⟨n, n0, n60, rfl, rfl⟩
  rcases (show n % 3 = 0 ∨ n % 3 = 1 ∨ n % 3 = 2 by omega) with h | h | h
  · have hcv : (convert 53 9 (.slice (some ⟨w.heap.size + 1, 0, none⟩) 6 6)).run Tryz.prog ((w.alloc (.cells #[.int .i64 0, .string ⟨#[]⟩] 83)).alloc (.cells #[.int .u8 2, .int .u8 0, .int .u8 0, .int .u8 0, .int .u8 (n / 3 % 5), .int .u8 (n / 15)] 5)) = .ok (.string (baOf [2, 0, 0, 0, n / 3 % 5, n / 15])) ((w.alloc (.cells #[.int .i64 0, .string ⟨#[]⟩] 83)).alloc (.cells #[.int .u8 2, .int .u8 0, .int .u8 0, .int .u8 0, .int .u8 (n / 3 % 5), .int .u8 (n / 15)] 5)) := str_lit _ [2, 0, 0, 0, n / 3 % 5, n / 15] _ _ 6 (by simp) (by simp <;> omega)
    have hkey : keyB 0 (baOf [2, 0, 0, 0, n / 3 % 5, n / 15]) = true := by rw [keyB_0 (baOf_size _), bt_baOf _ 0 (by simp) (by simp)]; rfl
    have HK : Hid (keyB 0 (baOf [2, 0, 0, 0, n / 3 % 5, n / 15]) = true) := hkey
    clear hkey
    generalize baOf [2, 0, 0, 0, n / 3 % 5, n / 15] = kk at hcv HK
    go_wp2
    exact bodyPost_ret (v := .agg #[.int .i64 0, .string kk]) (by simp [results, Tryz.results79, go_sem]) rfl ⟨0, kk, rfl, by decide, by decide, HK.out, below_trans (below_alloc _ _) (below_alloc _ _)⟩
  · have hcv : (convert 53 9 (.slice (some ⟨w.heap.size + 1, 0, none⟩) 5 5)).run Tryz.prog ((w.alloc (.cells #[.int .i64 0, .string ⟨#[]⟩] 83)).alloc (.cells #[.int .u8 10, .int .u8 (n / 3 % 5), .int .u8 0, .int .u8 0, .int .u8 (16 + n / 15)] 5)) = .ok (.string (baOf [10, n / 3 % 5, 0, 0, 16 + n / 15])) ((w.alloc (.cells #[.int .i64 0, .string ⟨#[]⟩] 83)).alloc (.cells #[.int .u8 10, .int .u8 (n / 3 % 5), .int .u8 0, .int .u8 0, .int .u8 (16 + n / 15)] 5)) := str_lit _ [10, n / 3 % 5, 0, 0, 16 + n / 15] _ _ 5 (by simp) (by simp <;> omega)
    have hkey : keyB 1 (baOf [10, n / 3 % 5, 0, 0, 16 + n / 15]) = true := key_1 _ _ (by omega) (by omega)
    have HK : Hid (keyB 1 (baOf [10, n / 3 % 5, 0, 0, 16 + n / 15]) = true) := hkey
    clear hkey
    generalize baOf [10, n / 3 % 5, 0, 0, 16 + n / 15] = kk at hcv HK
    go_wp2
    exact bodyPost_ret (v := .agg #[.int .i64 1, .string kk]) (by simp [results, Tryz.results79, go_sem]) rfl ⟨1, kk, rfl, by decide, by decide, HK.out, below_trans (below_alloc _ _) (below_alloc _ _)⟩
  · have hcv : (convert 53 9 (.slice (some ⟨w.heap.size + 1, 0, none⟩) 2 2)).run Tryz.prog ((w.alloc (.cells #[.int .i64 0, .string ⟨#[]⟩] 83)).alloc (.cells #[.int .u8 (n / 3 % 5), .int .u8 (n / 15)] 5)) = .ok (.string (baOf [n / 3 % 5, n / 15])) ((w.alloc (.cells #[.int .i64 0, .string ⟨#[]⟩] 83)).alloc (.cells #[.int .u8 (n / 3 % 5), .int .u8 (n / 15)] 5)) := str_lit _ [n / 3 % 5, n / 15] _ _ 2 (by simp) (by simp <;> omega)
    have hkey : keyB 2 (baOf [n / 3 % 5, n / 15]) = true := keyB_2 (baOf_size _)
    have HK : Hid (keyB 2 (baOf [n / 3 % 5, n / 15]) = true) := hkey
    clear hkey
    generalize baOf [n / 3 % 5, n / 15] = kk at hcv HK
    go_wp2
    exact bodyPost_ret (v := .agg #[.int .i64 2, .string kk]) (by simp [results, Tryz.results79, go_sem]) rfl ⟨2, kk, rfl, by decide, by decide, HK.out, below_trans (below_alloc _ _) (below_alloc _ _)⟩
end Go.Proofs.YtindifjhocgkbaaGreatDoor
