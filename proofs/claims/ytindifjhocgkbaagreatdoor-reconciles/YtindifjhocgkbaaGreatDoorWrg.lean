import Derived.Test.YtindifjhocgkbaaGreatDoorChk
namespace Go.Proofs.YtindifjhocgkbaaGreatDoor
open Go.RowKit

theorem ret_agg2 {a b c d : Int} (h : a = b) (h' : c = d) : Ending.returned (.agg #[.int .i64 a, .int .i64 c]) = .returned (.agg #[.int .i64 b, .int .i64 d]) := by rw [h, h']
set_option maxHeartbeats 1000000 in
theorem rWrong (v : Int) (ao : Option Addr) (cap : Nat) (l : List OpD) (w : World) (h0 : 0 ≤ v) (h1 : v ≤ 18446744073709551615) (hcap : l.length ≤ cap) (hmax : cap ≤ maxLen) (ho : OpsIn w ao l) :
    Calls Tryz.prog 11 #[.agg #[.int .u64 v, .slice ao l.length cap]] w fun e w' => e = .returned (.agg #[.int .i64 (wrongD v l).1, .int .i64 (wrongD v l).2]) ∧ Below w.heap.size w w' := by
  unfold maxLen at hmax
  have hmx : (l.length : Int) ≤ 9223372036854775807 := by omega
  cases hv : verB v
  · rw [wrongD_4 hv]
    go_enter Tryz.func11, Tryz.ntmps11
    go_wp2_with fail
    refine (rIsVersion _ _ h0 h1).mono ?_
    rintro e w1 ⟨rfl, rfl⟩
    go_wp2
    exact bodyPost_ret (v := .agg #[.int .i64 4, .int .i64 0]) (by simp [results, Tryz.results11, go_sem]) rfl ⟨rfl, ((below_trans (below_alloc _ _) (below_alloc _ _)))⟩
  cases hc : cntB l.length
  · rw [wrongD_5 hv hc]
    rcases (show (l.length : Int) < 1 ∨ (1 ≤ (l.length : Int) ∧ 8 < (l.length : Int)) by simp [cntB] at hc; omega) with hx | ⟨hx, hx'⟩
    all_goals
      clear hc
      go_enter Tryz.func11, Tryz.ntmps11
      go_wp2_with fail
      refine (rIsVersion _ _ h0 h1).mono ?_
      rintro e w1 ⟨rfl, rfl⟩
      go_wp2
      exact bodyPost_ret (v := .agg #[.int .i64 5, .int .i64 0]) (by simp [results, Tryz.results11, go_sem]) rfl ⟨rfl, ((below_trans (below_alloc _ _) (below_alloc _ _)))⟩
  rw [wrongD_0 hv hc]
  have hl8 : (l.length : Int) ≤ 8 := by simp [cntB] at hc; omega
  have hl1 : 1 ≤ (l.length : Int) := by simp [cntB] at hc; omega
  clear hc
  go_enter Tryz.func11, Tryz.ntmps11
  go_wp2_with fail
  refine (rIsVersion _ _ h0 h1).mono ?_
  rintro e w1 ⟨rfl, rfl⟩
  go_wp2_with fail
  clear hv
  go_loopw [4, 5] (fun i _ wr => ∃ j : Nat, j ≤ l.length ∧ i = .int .i64 j ∧ firstW l l.length 0 = firstW l (l.length - j) j ∧ Below w.heap.size w wr ∧ w.heap.size + 1 < wr.heap.size ∧ wr.cell? ⟨w.heap.size, 1, none⟩ = some (.slice ao l.length cap) ∧ (∃ a, wr.cell? ⟨w.heap.size + 1, 0, none⟩ = some a) ∧ (∃ a, wr.cell? ⟨w.heap.size + 1, 1, none⟩ = some a) ∧ wr.frozen? ⟨w.heap.size + 1, 0, none⟩ = false ∧ wr.frozen? ⟨w.heap.size + 1, 1, none⟩ = false)
    (fun i _ _ => l.length - (intOf i).toNat)
  case atStart => exact ⟨0, Nat.zero_le _, rfl, rfl, below_trans (below_alloc _ _) (below_alloc _ _), by simp, by simp, ⟨_, by simp; rfl⟩, ⟨_, by simp; rfl⟩, by simp, by simp⟩
  case round =>
    obtain ⟨j, hj, rfl, hfw, hq, hsz, k1, ⟨a0, k2⟩, ⟨a1, k3⟩, z2, z3⟩ := hrel
    have HFW : Hid (firstW l l.length 0 = firstW l (l.length - j) j) := hfw
    clear hfw
    by_cases hlt : j < l.length
    · obtain ⟨b, off, rfl, hb, ho'⟩ := ho (by omega)
      have d0 := (hq.cell (p := ⟨b, off + j * 4, none⟩) hb).trans (ho'.c0 j hlt)
      have d1 := (hq.cell (p := ⟨b, off + j * 4 + 1, none⟩) hb).trans (ho'.c1 j hlt)
      have d2 := (hq.cell (p := ⟨b, off + j * 4 + 2, none⟩) hb).trans (ho'.c2 j hlt)
      have d3 := (hq.cell (p := ⟨b, off + j * 4 + 3, none⟩) hb).trans (ho'.c3 j hlt)
      have ij : ((j : Nat) : Int) < (l.length : Int) := by omega
      have ic : ((j : Nat) : Int) ≤ (cap : Int) := by omega
      have hl' : (l.take j).length = j := by simp; omega
      have oA : OpsIn wr (some ⟨b, off, none⟩) (l.take j) := (ho.keep hq).take j
      have HA : Hid (wrongAt l j = wrongN l[j] (l.take j)) := wrongAt_eq hlt
      by_cases hz : wrongN l[j] (l.take j) = 0
      · have hb0 : (wrongN l[j] (l.take j) != 0) = false := by simpa using hz
        have HZ : Hid (wrongAt l j = 0) := HA.out.trans hz
        clear hz
        go_wp2_with fail
        go_region_with (go_at_call 38; refine (rOp_n l[j] _ _ _ (l.take j) _ hl' (by omega) (oA.keep (below_drew _))).mono ?_; rintro e w2 ⟨rfl, q2⟩)
        all_goals
          go_wp2_with fail
          go_roundw
          case rel =>
            have q3 := below_trans (below_drew wr) q2
            have hs3 : wr.heap.size ≤ w2.heap.size := q3.size
            exact ⟨j + 1, by omega, by go_num, firstW_go hlt HFW.out HZ.out, hq.trans (q3.mono (by omega)), by omega, (q3.cell (p := ⟨w.heap.size, 1, none⟩) (by simp; omega)).trans k1, ⟨_, (q3.cell (p := ⟨w.heap.size + 1, 0, none⟩) hsz).trans k2⟩, ⟨_, (q3.cell (p := ⟨w.heap.size + 1, 1, none⟩) hsz).trans k3⟩, (q3.frozen (p := ⟨w.heap.size + 1, 0, none⟩) hsz).trans z2, (q3.frozen (p := ⟨w.heap.size + 1, 1, none⟩) hsz).trans z3⟩
          case measure => simp [intOf]; omega
      · have hb0 : (wrongN l[j] (l.take j) != 0) = true := by simpa using hz
        have HZ : Hid (¬ wrongAt l j = 0) := by rw [Hid, HA.out]; exact hz
        clear hz
        go_wp2_with fail
        go_region_with (go_at_call 38; refine (rOp_n l[j] _ _ _ (l.take j) _ hl' (by omega) (oA.keep (below_drew _))).mono ?_; rintro e w2 ⟨rfl, q2⟩)
        all_goals
          have q3 := below_trans (below_drew wr) q2
          have y2 := (q3.cell (p := ⟨w.heap.size + 1, 0, none⟩) hsz).trans k2
          have y3 := (q3.cell (p := ⟨w.heap.size + 1, 1, none⟩) hsz).trans k3
          have x2 := (q3.frozen (p := ⟨w.heap.size + 1, 0, none⟩) hsz).trans z2
          have x3 := (q3.frozen (p := ⟨w.heap.size + 1, 1, none⟩) hsz).trans z3
          go_wp2
          rw [firstW_hit hlt HFW.out HZ.out, HA.out]
          exact bodyPost_ret (v := .agg #[.int .i64 (wrongN l[j] (l.take j)), .int .i64 (j : Int)]) (by simp [results, Tryz.results11, go_sem, y2, y3]) rfl ⟨rfl, ((hq.trans (q3.mono (by omega))).setCell (by simp) _).setCell (by simp) _⟩
    · obtain rfl : j = l.length := by omega
      go_wp2
      rw [HFW.out]
      exact bodyPost_ret (v := .agg #[.int .i64 0, .int .i64 0]) (by simp [results, Tryz.results11, go_sem, k2, k3]) rfl ⟨by simp [firstW], (hq.setCell (by simp) _).setCell (by simp) _⟩
end Go.Proofs.YtindifjhocgkbaaGreatDoor
