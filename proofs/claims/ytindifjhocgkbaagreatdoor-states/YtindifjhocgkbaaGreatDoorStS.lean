import Derived.Test.YtindifjhocgkbaaGreatDoorStE
namespace Go.Proofs.YtindifjhocgkbaaGreatDoor
open Go.RowKit

theorem extract_le' (t : ByteArray) (a b : Nat) : (t.extract a b).size ≤ t.size := by rw [ByteArray.size_extract]; omega
theorem bytes_set' {W : World} {B k : Nat} {t : ByteArray} (c : Int) (h : BytesAt W B t) (hk : k < t.size) : ∃ t' : ByteArray, t'.size = t.size ∧ BytesAt (W.setCell ⟨B, k, none⟩ (.int .u8 (c % 256))) B t' := by
  have hz : t.data.size = t.size := rfl
  refine ⟨⟨t.data.setIfInBounds k (UInt8.ofNat (c % 256).toNat)⟩, Array.size_setIfInBounds .., fun i hi => ?_⟩
  have hi' : i < t.size := Nat.lt_of_lt_of_eq hi (Array.size_setIfInBounds ..)
  by_cases e : i = k
  · subst e
    rw [World.cell?_setCell_same _ _ _ (h i hi')]
    have : bt ⟨t.data.setIfInBounds i (UInt8.ofNat (c % 256).toNat)⟩ i = c % 256 := by
      unfold bt
      rw [List.getD_eq_getElem?_getD]
      simp [hz, hi']
      omega
    rw [this]
  · rw [World.cell?_setCell_other _ _ _ _ (fun h => e (by simpa using h.symm)), h i hi']
    have : bt ⟨t.data.setIfInBounds k (UInt8.ofNat (c % 256).toNat)⟩ i = bt t i := by
      unfold bt
      rw [List.getD_eq_getElem?_getD, List.getD_eq_getElem?_getD]
      simp [Ne.symm e]
    rw [this]

theorem staS_size {v : Int} {l : List En} (hv : verB v = true) (ho : Ok l) (hl : l.length ≤ 300) : 10 ≤ (staS v l).size ∧ (staS v l).size ≤ 4000 := by
  have e : (staS v l).size = (staB v l).length := by rw [staS, if_pos hv]; simp [ByteArray.size]
  have h1 := staB_pos v l
  have h2 := ensB_length ho l.length (Nat.le_refl _)
  rw [List.take_length] at h2
  have h3 : (staB v l).length = 10 + (ensB l).length := by simp [staB, beB_length]; omega
  omega
set_option maxRecDepth 10000 in
set_option maxHeartbeats 4000000 in
theorem lStates (v : Int) (x : Value) (es : List En) (s : ByteArray) (at' c : Int) (w : World) (h0 : 0 ≤ v) (h1 : v ≤ 18446744073709551615) (hI : EnsLo w x es) (hc : ∀ a n c, x = .slice a n c → n ≤ c ∧ (c : Int) ≤ 9223372036854775807) (g : Glob w) (he : EtIs w)
    (hs : s.size ≤ 140737488355328) (ha : -9223372036854775808 ≤ at' ∧ at' ≤ 9223372036854775807) :
    Calls Tryz.prog 4 #[.int .u64 v, x, .string s, .int .i64 at', .int .i64 c] w fun e w' => e = .returned (.bool true) ∧ Below w.heap.size w w' := by
  have HA : Hid (-9223372036854775808 ≤ at' ∧ at' ≤ 9223372036854775807) := ha
  have HS : Hid (s.size ≤ 140737488355328) := hs
  have H1 : Hid (v ≤ 18446744073709551615) := h1
  have HC := (show Hid _ from hc)
  clear ha hs h1 hc
  obtain ⟨xo, xc, rfl⟩ := hI.slice
  go_enter Tryz.func4, Tryz.ntmps4
  go_wp2_with fail
  refine (lStated _ _ (by decide) g he).mono ?_
  rintro e w1 ⟨rfl, q1⟩
  go_wp2_with fail
  refine (lStated s _ (by have := HS.out; omega) (g.keep q1) (he.keep q1)).mono ?_
  rintro e w2 ⟨rfl, q2⟩
  replace q2 := below_trans q1 q2
  clear q1
  go_wp2_with fail
  refine (lLimitedL _ es _ (hI.keep q2) HC.out).mono ?_
  rintro e w2 ⟨y, rfl, hy, rfl⟩
  obtain ⟨E, hEe⟩ : ∃ E, es.take 300 = E := ⟨_, rfl⟩
  have hL3 : (es.take 300).length ≤ 300 := by simp; omega
  rw [hEe] at hy hL3
  have HE : Hid (es.take 300 = E) := hEe
  clear hEe
  obtain ⟨yo, yc, rfl⟩ := hy.slice
  have hLl := layL_length E
  have HLO : Hid (Ok (layL E)) := layL_ok _
  go_wp2_with fail
  refine (pEncodeAllL v _ E _ hy h0 (by omega) (g.keep q2) (he.keep q2)).mono ?_
  rintro e w3 ⟨rfl, q3⟩
  have qa := below_alloc w3 (.cells #[.int .i64 (verK v), .int .i64 0, .int .i64 0] 29)
  have f0 : (w3.alloc (.cells #[.int .i64 (verK v), .int .i64 0, .int .i64 0] 29)).cell? ⟨w3.heap.size, 0, none⟩ = some (.int .i64 (verK v)) := by simp
  have f1 : (w3.alloc (.cells #[.int .i64 (verK v), .int .i64 0, .int .i64 0] 29)).cell? ⟨w3.heap.size, 1, none⟩ = some (.int .i64 0) := by simp
  have f2 : (w3.alloc (.cells #[.int .i64 (verK v), .int .i64 0, .int .i64 0] 29)).cell? ⟨w3.heap.size, 2, none⟩ = some (.int .i64 0) := by simp
  have Q3 := below_trans (below_trans q2 q3) qa
  clear q2 q3 qa hy
  go_wp2_with fail
  generalize w3.alloc (.cells #[.int .i64 (verK v), .int .i64 0, .int .i64 0] 29) = W3 at *
  generalize w3.heap.size = FA at *
  refine (lProperL _ es _ (hI.keep Q3)).mono ?_
  rintro e w4 ⟨z, rfl, hz, q4⟩
  rw [HE.out] at hz
  obtain ⟨zo, zc, rfl⟩ := hz.slice
  have hFA := cell_lt f0
  go_wp2_with fail
  refine (rEncodeAll v _ (layL E) _ h0 H1.out (by omega) hz HLO.out).mono ?_
  rintro e w5 ⟨rfl, q5⟩
  have qa := below_alloc w5 (.cells #[.int .i64 (verK v), .int .i64 0] 39)
  have qq := below_trans (below_trans q4 q5) qa
  have m0 := (qq.cell (p := ⟨FA, 0, none⟩) hFA).trans f0
  have m1 := (qq.cell (p := ⟨FA, 1, none⟩) hFA).trans f1
  have m2 := (qq.cell (p := ⟨FA, 2, none⟩) hFA).trans f2
  have n0 : (w5.alloc (.cells #[.int .i64 (verK v), .int .i64 0] 39)).cell? ⟨w5.heap.size, 0, none⟩ = some (.int .i64 (verK v)) := by simp
  have n1 : (w5.alloc (.cells #[.int .i64 (verK v), .int .i64 0] 39)).cell? ⟨w5.heap.size, 1, none⟩ = some (.int .i64 0) := by simp
  have Q5 := below_trans Q3 qq
  clear f0 f1 f2 hFA Q3 q4 q5 qa qq hz
  have HSZ : Hid (verB v = true → 10 ≤ (staS v (layL E)).size ∧ (staS v (layL E)).size ≤ 4000) := fun hv => staS_size hv HLO.out (by omega)
  generalize staS v (layL E) = t at *
  go_wp2_with fail
  generalize w5.alloc (.cells #[.int .i64 (verK v), .int .i64 0] 39) = W5 at *
  generalize w5.heap.size = GA at *
  refine (lSame' (verK v) 0 _).mono ?_
  rintro e w6 ⟨rfl, q6⟩
  have r0 := (q6.cell (p := ⟨GA, 0, none⟩) (cell_lt n0)).trans n0
  have Q6 := below_trans Q5 q6
  clear m0 m1 m2 n0 n1 q6 Q5
  cases hv : verB v
  · have e2 : verK v = 4 := by rw [verK, hv]; rfl
    rw [e2] at r0
    clear e2
    go_wp2
    go_ret
    exact ⟨rfl, Q6⟩
  · have e2 : verK v = 0 := by rw [verK, hv]; rfl
    rw [e2] at r0
    obtain ⟨hz1, hz2⟩ := HSZ.out hv
    clear e2
    go_wp2_with fail
    refine (lPick' at' t.size _ HA.out (by omega) (by omega)).mono ?_
    rintro e w6 ⟨k, hkt, rfl, rfl⟩
    obtain ⟨cp, W1, hrun, hc1, hc2, hb1, hf1, q8, hs1⟩ := bytes_of' t w6 (by unfold maxLen; omega)
    have bk := hb1 k hkt
    have fk := hf1 k hkt
    have ik : (k : Int) < (t.size : Int) := by omega
    have h06 := Q6.size
    obtain ⟨t', ht', hb2⟩ := bytes_set' c hb1 hkt
    have q9 := (below_trans Q6 q8).setCell (p := ⟨w6.heap.size, k, none⟩) (by simp <;> omega) (.int .u8 (c % 256))
    go_wp2_with fail
    clear hrun
    generalize W1.setCell ⟨w6.heap.size, k, none⟩ (.int .u8 (c % 256)) = W2 at q9 hb2 ⊢
    clear bk fk hb1 hf1 hs1 q8
    refine (lStated t _ (by omega) (g.keep q9) (he.keep q9)).mono ?_
    rintro e w10 ⟨rfl, q10⟩
    have hb10 := hb2.keep q10
    replace q10 := below_trans q9 q10
    clear hb2 q9
    go_wp2_with fail
    refine (lStated _ _ (by have := extract_le' t 0 k; omega) (g.keep q10) (he.keep q10)).mono ?_
    rintro e w11 ⟨rfl, q11⟩
    have hb11 := hb10.keep q11
    replace q11 := below_trans q10 q11
    clear hb10 q10
    have hcv := str_whole t' w6.heap.size cp w11 hb11
    rw [ht'] at hcv
    go_wp2_with fail
    clear hcv
    refine (lStated t' _ (by omega) (g.keep q11) (he.keep q11)).mono ?_
    rintro e w12 ⟨rfl, q12⟩
    replace q12 := below_trans q11 q12
    clear hb11 q11
    have hts : ¬ 9223372036854775807 < t.size + s.size := by have := HS.out; omega
    go_wp2_with fail
    refine (lStated _ _ (by have := HS.out; rw [ByteArray.size_append]; omega) (g.keep q12) (he.keep q12)).mono ?_
    rintro e w13 ⟨rfl, q13⟩
    replace q13 := below_trans q12 q13
    clear q12
    go_wp2
    go_ret
    exact ⟨rfl, q13⟩
end Go.Proofs.YtindifjhocgkbaaGreatDoor
