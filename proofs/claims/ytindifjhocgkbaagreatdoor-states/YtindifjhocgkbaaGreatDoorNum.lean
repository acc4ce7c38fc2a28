import Derived.Test.YtindifjhocgkbaaGreatDoorOpC
namespace Go.Proofs.YtindifjhocgkbaaGreatDoor
open Go.RowKit

theorem str1 (W : World) (x : Int) (h0 : 0 ≤ x) (h1 : x < 256) : (convert 53 9 (.slice (some ⟨W.heap.size, 0, none⟩) 1 1)).run Tryz.prog (W.alloc (.cells #[.int .u8 x] 5)) = .ok (.string ⟨#[UInt8.ofNat x.toNat]⟩) (W.alloc (.cells #[.int .u8 x] 5)) := by
  refine run_convert_bytes_back (W.alloc (.cells #[.int .u8 x] 5)) _ _ _ _ 1 [UInt8.ofNat x.toNat] Tryz.underlying53 Tryz.underlying5 Tryz.underlying9 (fun j hj => ?_)
  rw [one_new W (.int .u8 x) _ j (.int .u8 x) (by match j, hj with | 0, _ => rfl)]
  match j, hj with
  | 0, _ => simp only [List.getElem_cons_zero]; rw [byte_back x h0 h1]
theorem str1' (x : Int) (h0 : 0 ≤ x) (h1 : x < 256) (W : World) (B : Nat) (hc : W.cell? ⟨B, 0, none⟩ = some (.int .u8 x)) : (convert 53 9 (.slice (some ⟨B, 0, none⟩) 1 1)).run Tryz.prog W = .ok (.string ⟨#[UInt8.ofNat x.toNat]⟩) W := by
  refine run_convert_bytes_back W _ _ _ _ 1 [UInt8.ofNat x.toNat] Tryz.underlying53 Tryz.underlying5 Tryz.underlying9 (fun j hj => ?_)
  match j, hj with
  | 0, _ => simp only [List.getElem_cons_zero]; rw [byte_back x h0 h1, ← hc]; simp [Addr.add]
theorem str2' (x y : Int) (h0 : 0 ≤ x) (h1 : x < 256) (h2 : 0 ≤ y) (h3 : y < 256) (W : World) (B : Nat) (hc : W.cell? ⟨B, 0, none⟩ = some (.int .u8 x)) (hd : W.cell? ⟨B, 1, none⟩ = some (.int .u8 y)) : (convert 53 9 (.slice (some ⟨B, 0, none⟩) 2 2)).run Tryz.prog W = .ok (.string ⟨#[UInt8.ofNat x.toNat, UInt8.ofNat y.toNat]⟩) W := by
  refine run_convert_bytes_back W _ _ _ _ 2 [UInt8.ofNat x.toNat, UInt8.ofNat y.toNat] Tryz.underlying53 Tryz.underlying5 Tryz.underlying9 (fun j hj => ?_)
  match j, hj with
  | 0, _ => simp only [List.getElem_cons_zero]; rw [byte_back x h0 h1, ← hc]; simp [Addr.add]
  | 1, _ => simp only [List.getElem_cons_succ, List.getElem_cons_zero]; rw [byte_back y h2 h3, ← hd]; simp [Addr.add]
theorem div_step (v : Int) (j : Nat) : v / 2 ^ (8 * (j + 1)) = v / 2 ^ (8 * j) / 256 := by
  have hp : (0 : Int) ≤ 2 ^ (8 * j) := Int.pow_nonneg (by decide)
  rw [Int.ediv_ediv, if_neg (fun h => by omega), Int.sub_zero, Nat.mul_add, Int.pow_add]; rfl
theorem div_le (v : Int) (j : Nat) (h : 0 ≤ v) : v / 2 ^ (8 * j) ≤ v := Int.ediv_le_self _ h
theorem wrap_div (x : Int) (h0 : 0 ≤ x) (h1 : x ≤ 18446744073709551615) : IntKind.u64.wrap (x.tdiv 256) = x / 256 := by
  rw [Int.tdiv_eq_ediv_of_nonneg h0]; simp [IntKind.wrap, IntKind.bits, IntKind.signed]; omega
theorem beB_step (v x : Int) (j : Nat) (hx : v / 2 ^ (8 * j) = x) : (⟨#[UInt8.ofNat (x % 256).toNat]⟩ : ByteArray) ++ ⟨(beB v j).toArray⟩ = ⟨(beB v (j + 1)).toArray⟩ := by
  apply ByteArray.ext
  simp [beB, hx]
theorem beB_length (n : Int) (k : Nat) : (beB n k).length = k := by induction k with | zero => rfl | succ k ih => simp [beB, ih]

set_option maxRecDepth 10000 in
set_option maxHeartbeats 1000000 in
theorem rNumber (v : Int) (w : World) (h0 : 0 ≤ v) (h1 : v ≤ 18446744073709551615) :
    Calls Tryz.prog 52 #[.int .u64 v] w fun e w' => e = .returned (.string ⟨(beB v 8).toArray⟩) ∧ Below w.heap.size w w' := by
  go_enter Tryz.func52, Tryz.ntmps52
  go_wp2_with fail
  go_loopw [0, 3, 4] (fun n s i wr => ∃ j : Nat, j ≤ 8 ∧ i = .int .i64 j ∧ n = .int .u64 (v / 2 ^ (8 * j)) ∧ s = .string ⟨(beB v j).toArray⟩ ∧ Below w.heap.size w wr)
    (fun _ _ i _ => 8 - (intOf i).toNat)
  case atStart => exact ⟨0, by omega, rfl, by simp, rfl, Below.refl _ _⟩
  case round =>
    obtain ⟨j, hj, rfl, rfl, rfl, hq⟩ := hrel
    have hn : 0 ≤ v / 2 ^ (8 * j) := Int.ediv_nonneg h0 (Int.pow_nonneg (by decide))
    have HN : Hid (v / 2 ^ (8 * (j + 1)) = v / 2 ^ (8 * j) / 256) := by
      show v / 2 ^ (8 * (j + 1)) = _
      exact div_step v j
    generalize hx : v / 2 ^ (8 * j) = x at *
    by_cases hlt : j < 8
    · have hst := fun W => str1 W (x % 256) (Int.emod_nonneg _ (by decide)) (Int.emod_lt_of_pos _ (by decide))
      have hsz : (beB v j).length ≤ 8 := by rw [beB_length]; exact hj
      have HX : Hid (v / 2 ^ (8 * j) = x) := hx
      clear hx
      have H1 : Hid (x ≤ 18446744073709551615) := by rw [← HX.out]; exact Int.le_trans (div_le v j h0) h1
      clear h1
      go_wp2
      go_roundw
      case rel => exact ⟨j + 1, by omega, by go_num, by rw [wrap_div x hn H1.out, HN.out], by rw [beB_step v x j HX.out], hq.alloc hq.size _⟩
      case measure => simp [intOf]; omega
    · obtain rfl : j = 8 := by omega
      go_wp2
      go_ret
      exact ⟨rfl, hq⟩

theorem bcell {W w1 : World} (hb : Below W.heap.size W w1) : (∀ b o, b < W.heap.size → w1.cell? ⟨b, o, none⟩ = W.cell? ⟨b, o, none⟩) ∧ (∀ b o, b < W.heap.size → w1.frozen? ⟨b, o, none⟩ = W.frozen? ⟨b, o, none⟩) :=
  ⟨fun b o h => hb.cell (p := ⟨b, o, none⟩) h, fun b o h => hb.frozen (p := ⟨b, o, none⟩) h⟩

end Go.Proofs.YtindifjhocgkbaaGreatDoor
