import Derived.Test.YtindifjhocgkbaaDoorLawB
namespace Go.Proofs.YtindifjhocgkbaaDoor
open Go.RowKit

theorem encS_size {v : Int} {l : List OpD} (h : (wrongD v l).1 = 0) : 9 ≤ (encS v l).size ∧ (encS v l).size ≤ 105 := by
  have h1 := encB_pos v l
  have h2 := congrArg List.length (encB_cells h)
  have h3 := opsV_length h l.length (Nat.le_refl _)
  have h4 : l.length ≤ 8 := by have := (wrongD_ok h).2.1; simp [cntB] at this; omega
  rw [List.take_length] at h3
  have e : (encS v l).size = (encB v l).length := by rw [encS, if_pos h]; simp [ByteArray.size]
  simp [cellsB, encV, beV] at h2
  omega

theorem extract_le (t : ByteArray) (a b : Nat) : (t.extract a b).size ≤ t.size := by rw [ByteArray.size_extract]; omega
theorem bytes_set {W : World} {B k : Nat} {t : ByteArray} (c : Int) (h : BytesAt W B t) (hk : k < t.size) : ∃ t' : ByteArray, t'.size = t.size ∧ BytesAt (W.setCell ⟨B, k, none⟩ (.int .u8 (c % 256))) B t' := by
  have hz : t.data.size = t.size := rfl
  refine ⟨⟨t.data.setIfInBounds k (UInt8.ofNat (c % 256).toNat)⟩, Array.size_setIfInBounds .., fun i hi => ?_⟩
  have hi' : i < t.size := Nat.lt_of_lt_of_eq hi (Array.size_setIfInBounds ..)
  by_cases e : i = k
  · subst e
    rw [World.cell?_setCell_same _ _ _ (h i hi')]
    have : bt ⟨t.data.setIfInBounds i (UInt8.ofNat (c % 256).toNat)⟩ i = c % 256 := by
      unfold bt
      rw [List.getD_eq_getElem?_getD]
      simp [hz, hi']
      omega
    rw [this]
  · rw [World.cell?_setCell_other _ _ _ _ (fun h => e (by simpa using h.symm)), h i hi']
    have : bt ⟨t.data.setIfInBounds k (UInt8.ofNat (c % 256).toNat)⟩ i = bt t i := by
      unfold bt
      rw [List.getD_eq_getElem?_getD, List.getD_eq_getElem?_getD]
      simp [Ne.symm e]
    rw [this]

set_option maxRecDepth 10000 in
set_option maxHeartbeats 4000000 in
theorem lDeltas (v : Int) (ao : Option Addr) (cap : Nat) (l : List OpD) (s : ByteArray) (at' c : Int) (w : World) (h0 : 0 ≤ v) (h1 : v ≤ 18446744073709551615) (hn : ao = none → cap = 0) (hby : l.length * 48 ≤ 140737488355328) (hcap : l.length ≤ cap) (hmax : cap ≤ maxLen) (ho : OpsIn w ao l) (g : Glob w) (he : EtIs w)
    (hs : s.size ≤ 140737488355328) (ha : -9223372036854775808 ≤ at' ∧ at' ≤ 9223372036854775807) :
    Calls Tryd.prog 3 #[.agg #[.int .u64 v, .slice ao l.length cap], .string s, .int .i64 at', .int .i64 c] w fun e w' => e = .returned (.bool true) ∧ Below w.heap.size w w' := by
  have HA : Hid (-9223372036854775808 ≤ at' ∧ at' ≤ 9223372036854775807) := ha
  have HS : Hid (s.size ≤ 140737488355328) := hs
  clear ha hs
  have qa := below_alloc w (.cells #[.int .u64 v, .slice ao l.length cap] 25)
  obtain ⟨W0, hW0⟩ : ∃ W0, W0 = w.alloc (.cells #[.int .u64 v, .slice ao l.length cap] 25) := ⟨_, rfl⟩
  have dc : ∀ w', Below W0.heap.size W0 w' → w'.cell? ⟨w.heap.size, 0, none⟩ = some (.int .u64 v) ∧ w'.cell? ⟨w.heap.size, 1, none⟩ = some (.slice ao l.length cap) := by
    intro w' q
    rw [hW0] at q
    exact ⟨(q.cell (p := ⟨w.heap.size, 0, none⟩) (by simp)).trans (by simp), (q.cell (p := ⟨w.heap.size, 1, none⟩) (by simp)).trans (by simp)⟩
  have HD := (show Hid _ from dc)
  clear dc
  rw [← hW0] at qa
  have g0 := g.keep qa
  have he0 := he.keep qa
  have ho0 := ho.keep qa
  clear g he ho
  go_enter Tryd.func3, Tryd.ntmps3
  go_wp2_with fail
  rw [← hW0]
  have HW0 := (show Hid _ from hW0)
  clear hW0
  refine (lFirst _).mono ?_
  rintro e w1 ⟨b, rfl, hf, q1⟩
  go_wp2_with fail
  refine (lEncoded 1 _ _ [firstOp] _ (by decide) (by decide) (fun h => absurd h (by simp)) (by decide) (by decide) (by decide) hf (g0.keep q1) (he0.keep q1)).mono ?_
  rintro e w2 ⟨rfl, q2⟩
  replace q2 := below_trans q1 q2
  clear q1 hf
  go_wp2_with fail
  refine (lDecoded _ _ (by decide) (g0.keep q2) (he0.keep q2)).mono ?_
  rintro e w3 ⟨rfl, q3⟩
  replace q3 := below_trans q2 q3
  clear q2
  obtain ⟨c0, c1⟩ := HD.out _ q3
  go_wp2_with fail
  refine (lEncoded v ao cap l _ h0 h1 hn hby hcap hmax (ho0.keep q3) (g0.keep q3) (he0.keep q3)).mono ?_
  rintro e w4 ⟨rfl, q4⟩
  replace q4 := below_trans q3 q4
  clear q3 c0 c1
  go_wp2_with fail
  refine (lDecoded s _ (by have := HS.out; omega) (g0.keep q4) (he0.keep q4)).mono ?_
  rintro e w5 ⟨rfl, q5⟩
  replace q5 := below_trans q4 q5
  clear q4
  obtain ⟨c0, c1⟩ := HD.out _ q5
  go_wp2_with fail
  refine (rEncode v ao cap l _ h0 h1 hcap hmax (ho0.keep q5)).mono ?_
  rintro e w6 ⟨rfl, q6⟩
  replace q6 := below_trans q5 q6
  clear q5 c0 c1
  by_cases hk : (wrongD v l).1 = 0
  · have hsz := encS_size hk
    generalize encS v l = t at hsz ⊢
    generalize (wrongD v l).2 = x2
    go_wp2_with fail
    refine (lPick at' t.size _ HA.out (by omega) (by omega)).mono ?_
    rintro e w7 ⟨k, hkt, rfl, rfl⟩
    have q7 := below_trans q6 (below_alloc w6 (.cells #[.int .i64 0, .int .i64 x2] 30))
    obtain ⟨cp, W1, hrun, hc1, hc2, hb1, hf1, q8, hs1⟩ := bytes_of t (w6.alloc (.cells #[.int .i64 0, .int .i64 x2] 30)) (by unfold maxLen; omega)
    simp only [World.size_alloc] at hrun hb1 hf1 hs1
    have bk := hb1 k hkt
    have fk := hf1 k hkt
    have ik : (k : Int) < (t.size : Int) := by omega
    have h06 := q6.size
    obtain ⟨t', ht', hb2⟩ := bytes_set c hb1 hkt
    have q9 := (below_trans q7 q8).setCell (p := ⟨w6.heap.size + 1, k, none⟩) (by simp <;> omega) (.int .u8 (c % 256))
    go_wp2_with fail
    clear hrun
    generalize W1.setCell ⟨w6.heap.size + 1, k, none⟩ (.int .u8 (c % 256)) = W2 at q9 hb2 ⊢
    clear bk fk hb1 hf1 hs1 q8 q7
    refine (lDecoded t _ (by omega) (g0.keep q9) (he0.keep q9)).mono ?_
    rintro e w10 ⟨rfl, q10⟩
    have hb10 := hb2.keep q10
    replace q10 := below_trans q9 q10
    clear hb2 q9
    go_wp2_with fail
    refine (lDecoded _ _ (by have := extract_le t 0 k; omega) (g0.keep q10) (he0.keep q10)).mono ?_
    rintro e w11 ⟨rfl, q11⟩
    have hb11 := hb10.keep q11
    replace q11 := below_trans q10 q11
    clear hb10 q10
    have hcv := str_whole t' (w6.heap.size + 1) cp w11 hb11
    rw [ht'] at hcv
    go_wp2_with fail
    clear hcv
    refine (lDecoded t' _ (by omega) (g0.keep q11) (he0.keep q11)).mono ?_
    rintro e w12 ⟨rfl, q12⟩
    replace q12 := below_trans q11 q12
    clear hb11 q11
    have hts : ¬ 9223372036854775807 < t.size + s.size := by have := HS.out; omega
    go_wp2_with fail
    refine (lDecoded _ _ (by have := HS.out; rw [ByteArray.size_append]; omega) (g0.keep q12) (he0.keep q12)).mono ?_
    rintro e w13 ⟨rfl, q13⟩
    replace q13 := below_trans q12 q13
    clear q12
    go_wp2
    go_ret
    exact ⟨rfl, below_trans qa q13⟩
  · go_wp2
    go_ret
    exact ⟨rfl, below_trans (below_trans qa q6) (below_alloc _ _)⟩
end Go.Proofs.YtindifjhocgkbaaDoor
