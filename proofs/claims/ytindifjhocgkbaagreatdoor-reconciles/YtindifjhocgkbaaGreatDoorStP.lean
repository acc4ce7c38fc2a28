import Derived.Test.YtindifjhocgkbaaGreatDoorStL
namespace Go.Proofs.YtindifjhocgkbaaGreatDoor
open Go.RowKit

/-- A delta of one change, in a block of its own. -/
def CutD (wr : World) (X : En) (p : Value) (wc : World) : Prop := ∃ D g, p = .pointer (some ⟨D, 0, none⟩) ∧ wc.cell? ⟨D, 0, none⟩ = some (.int .u64 1) ∧ wc.cell? ⟨D, 1, none⟩ = some (.slice (some ⟨g, 0, none⟩) 1 1) ∧ OpsIn wc (some ⟨g, 0, none⟩) [putOp X] ∧ Below wr.heap.size wr wc
theorem cutD_a (wr : World) (X : En) : CutD wr X (.pointer (some ⟨wr.heap.size + 1, 0, none⟩)) ((wr.alloc (.cells #[.int .i64 1, .int .i64 X.t, .string X.k, .string X.v] 85)).alloc (.cells #[.int .u64 1, .slice (some ⟨wr.heap.size, 0, none⟩) 1 1] 34)).drew :=
  ⟨wr.heap.size + 1, wr.heap.size, rfl, new_cell' _ _ _ _ (by simp) rfl, new_cell' _ _ _ _ (by simp) rfl, ((ops_one wr wr.heap.size rfl X).keep (below_alloc _ _)).keep (below_drew _), below_trans (below_trans (below_alloc _ _) (below_alloc _ _)) (below_drew _)⟩
theorem cutD_b (wr : World) (X : En) : CutD wr X (.pointer (some ⟨wr.heap.size, 0, none⟩)) ((wr.alloc (.cells #[.int .u64 1, .slice (some ⟨wr.heap.size + 1, 0, none⟩) 1 1] 34)).alloc (.cells #[.int .i64 1, .int .i64 X.t, .string X.k, .string X.v] 85)).drew :=
  ⟨wr.heap.size, wr.heap.size + 1, rfl, (World.cell?_alloc_lt _ _ _ (by simp)).trans (new_cell' _ _ _ _ rfl rfl), (World.cell?_alloc_lt _ _ _ (by simp)).trans (new_cell' _ _ _ _ rfl rfl), (ops_one (wr.alloc (.cells #[.int .u64 1, .slice (some ⟨wr.heap.size + 1, 0, none⟩) 1 1] 34)) (wr.heap.size + 1) (by simp) X).keep (below_drew _), below_trans (below_trans (below_alloc _ _) (below_alloc _ _)) (below_drew _)⟩
set_option maxRecDepth 10000 in
set_option maxHeartbeats 2000000 in
theorem lProper (x : Value) (es : List En) (w : World) (hI : EnsIn w x es) :
    Calls Tryz.prog 18 #[x] w fun e w' => ∃ y, e = .returned y ∧ EnsIn w' y (layL (es.take 300)) ∧ Below w.heap.size w w' := by
  obtain ⟨xo, xc, rfl⟩ := hI.slice
  go_enter Tryz.func18, Tryz.ntmps18
  go_wp2_with fail
  go_loopw [3, 4] (fun y i wr => ∃ j : Nat, j ≤ es.length ∧ j ≤ 300 ∧ i = .int .i64 j ∧ EnsIn wr y (layL (es.take j)) ∧ Below w.heap.size w wr)
    (fun _ i _ => es.length - (intOf i).toNat)
  case atStart => exact ⟨0, Nat.zero_le _, by omega, rfl, .inl ⟨rfl, rfl⟩, Below.refl _ _⟩
  case round =>
    obtain ⟨j, hj, hj3, rfl, hE, hq⟩ := hrel
    obtain ⟨yo, yc, rfl⟩ := hE.slice
    by_cases hlt : j < es.length ∧ j < 300
    · obtain ⟨hlt, hlt3⟩ := hlt
      rcases hI with ⟨_, he⟩ | ⟨b, off, cap, hv', hb, hc⟩
      · rw [he] at hlt; simp at hlt
      simp only [Value.slice.injEq] at hv'
      obtain ⟨rfl, _, rfl⟩ := hv'
      have d0 := (hc.keep hb hq).c0 j hlt
      have d1 := (hc.keep hb hq).c1 j hlt
      have d2 := (hc.keep hb hq).c2 j hlt
      have il : ((j : Nat) : Int) < (es.length : Int) := by omega
      have il3 : ((j : Nat) : Int) < 300 := by omega
      have HT : Hid (layL (es.take (j + 1)) = aftD (layL (es.take j)) 1 [putOp es[j]]) := layL_take es j hlt
      have HS : Hid (Srt (layL (es.take j))) := layL_srt _
      have hll : (layL (es.take j)).length ≤ 300 := by have := layL_length (es.take j); simp at this; omega
      generalize layL (es.take j) = L at *
      generalize es[j] = X at *
      go_wp2_with fail
      have hbw : b < wr.heap.size := Nat.lt_of_lt_of_le hb hq.size
      have z0 : ∀ o, (wr.alloc o).cell? ⟨b, off + j * 3, none⟩ = some (.int .i64 X.t) := fun o => (World.cell?_alloc_lt _ _ _ hbw).trans d0
      have z1 : ∀ o, (wr.alloc o).cell? ⟨b, off + j * 3 + 1, none⟩ = some (.string X.k) := fun o => (World.cell?_alloc_lt _ _ _ hbw).trans d1
      have z2 : ∀ o, (wr.alloc o).cell? ⟨b, off + j * 3 + 2, none⟩ = some (.string X.v) := fun o => (World.cell?_alloc_lt _ _ _ hbw).trans d2
      go_cut [5] from 17 to 35 (fun p wc => CutD wr X p wc)
      case first =>
        go_region
        all_goals (go_wp2_with fail; go_meet)
        · exact cutD_a wr X
        · exact cutD_b wr X
      case rest =>
        obtain ⟨D, gb, rfl, k0, k1, hop, qc⟩ := hcut
        have hE2 := hE.keep qc
        have q2 : Below w.heap.size w wc := below_trans hq qc
        clear z0 z1 z2 d0 d1 d2 hE qc
        go_wp2_with fail
        refine (rWrong 1 (some ⟨gb, 0, none⟩) 1 [putOp X] _ (by decide) (by decide) (by simp) (by unfold maxLen; omega) hop).mono ?_
        rintro e w2 ⟨he, q3⟩
        obtain ⟨wk, wa, HWK⟩ : ∃ wk wa, Hid (wrongD 1 [putOp X] = (wk, wa)) := ⟨_, _, rfl⟩
        rw [HWK.out] at he
        subst he
        simp only
        have HA : Hid (aftD L 1 [putOp X] = if wk = 0 then aft L [putOp X] else L) := by show _ = _; unfold aftD; rw [HWK.out]
        have qa := below_alloc w2 (.cells #[.int .i64 wk, .int .i64 wa] 39)
        have q4 := below_trans q3 qa
        have hE3 := hE2.keep q4
        have hop3 := hop.keep q4
        have m0 := (q4.cell (p := ⟨D, 0, none⟩) (cell_lt k0)).trans k0
        have m1 := (q4.cell (p := ⟨D, 1, none⟩) (cell_lt k1)).trans k1
        have qw4 := below_trans q2 q4
        clear hE2 hop k0 k1 q2 q3 qa q4
        by_cases hk : wk = 0
        · have HA2 : Hid (aftD L 1 [putOp X] = aft L [putOp X]) := by show _ = _; rw [HA.out, if_pos hk]
          subst hk
          go_wp2_with fail
          refine (rFold _ L 1 (some ⟨gb, 0, none⟩) 1 [putOp X] _ hE3 HS.out (by omega) hop3 (by simp)).mono ?_
          rintro e w5 ⟨y, rfl, hy, q5⟩
          obtain ⟨zo, zc, rfl⟩ := hy.slice
          go_wp2_with fail
          go_roundw
          case rel => exact ⟨j + 1, by omega, by omega, by go_num, by rw [HT.out, HA2.out]; exact hy, below_trans qw4 q5⟩
          case measure => simp [intOf]; omega
        · have HA2 : Hid (aftD L 1 [putOp X] = L) := by show _ = _; rw [HA.out, if_neg hk]
          have hkb : (wk == 0) = false := by simpa using hk
          go_wp2_with fail
          go_roundw
          case rel => exact ⟨j + 1, by omega, by omega, by go_num, by rw [HT.out, HA2.out]; exact hE3, qw4⟩
          case measure => simp [intOf]; omega
    · have hn : ¬ (((j : Nat) : Int) < (es.length : Int)) ∨ (((j : Nat) : Int) < (es.length : Int) ∧ ¬ ((j : Nat) : Int) < 300) := by omega
      have HE : Hid (es.take 300 = es.take j) := by
        show _ = _
        by_cases h : j < es.length
        · rw [show j = 300 by omega]
        · rw [List.take_of_length_le (by omega), List.take_of_length_le (by omega)]
      rcases hn with h1 | ⟨h1, h2⟩
      · go_wp2
        go_ret
        exact ⟨_, rfl, by rw [HE.out]; exact hE, hq⟩
      · go_wp2
        go_ret
        exact ⟨_, rfl, by rw [HE.out]; exact hE, hq⟩
/-- What DecodeAll says, as parts. -/
def SRes (s : ByteArray) (k a v : Int) (l : List En) : Prop := (sta s = .error (k, a) ∧ v = 0 ∧ l = []) ∨ (sta s = .ok (v, l) ∧ k = 0 ∧ a = 0)
theorem SRes.same {s : ByteArray} {k a v k' a' v' : Int} {l l' : List En} (h : SRes s k a v l) (h' : SRes s k' a' v' l') : k = k' ∧ a = a' ∧ v = v' ∧ l = l' := by
  rcases h with ⟨h1, rfl, rfl⟩ | ⟨h1, rfl, rfl⟩ <;> rcases h' with ⟨h2, rfl, rfl⟩ | ⟨h2, rfl, rfl⟩
  · rw [h1] at h2; simp at h2; exact ⟨h2.1, h2.2, rfl, rfl⟩
  · rw [h1] at h2; cases h2
  · rw [h1] at h2; cases h2
  · rw [h1] at h2; have := ok_inj h2; simp at this; exact ⟨rfl, rfl, this.1, this.2⟩
theorem SRes.len {s : ByteArray} {k a v : Int} {l : List En} (h : SRes s k a v l) : l.length ≤ 65535 := by
  rcases h with ⟨_, _, rfl⟩ | ⟨h, _⟩
  · simp
  · exact (enc_sta h).2.1
theorem psta_shape {w0 w1 : World} {s : ByteArray} {ev : Ending} (hp : PStaIs w0 w1 s ev) : ∃ k a v l y, ev = .returned (.tuple #[.int .u64 v, y, .agg #[.int .i64 k, .int .i64 a, .int .i64 0]]) ∧ SRes s k a v l ∧ EnsIn w1 y l := by
  rcases hp with ⟨k, a, h1, hk, rfl⟩ | ⟨v, l, y, h1, rfl, oy⟩
  · exact ⟨k, a, 0, [], _, rfl, .inl ⟨h1, rfl, rfl⟩, .inl ⟨rfl, rfl⟩⟩
  · exact ⟨0, 0, v, l, y, rfl, .inr ⟨h1, rfl, rfl⟩, EnsIn.of_owns oy⟩
theorem rsta_shape {w0 w1 : World} {s : ByteArray} {ev : Ending} (hp : RStaIs w0 w1 s ev) : ∃ k a v l y, ev = .returned (.tuple #[.int .u64 v, y, .agg #[.int .i64 k, .int .i64 a]]) ∧ SRes s k a v l ∧ EnsIn w1 y l := by
  rcases hp with ⟨k, a, h1, hk, rfl⟩ | ⟨v, l, y, h1, rfl, oy⟩
  · exact ⟨k, a, 0, [], _, rfl, .inl ⟨h1, rfl, rfl⟩, .inl ⟨rfl, rfl⟩⟩
  · exact ⟨0, 0, v, l, y, rfl, .inr ⟨h1, rfl, rfl⟩, EnsIn.of_owns oy⟩
set_option maxRecDepth 10000 in
set_option maxHeartbeats 2000000 in
theorem lStated (s : ByteArray) (w : World) (hz : (s.size : Int) ≤ 9223372036854775000) (g : Glob w) (he : EtIs w) :
    Calls Tryz.prog 14 #[.string s] w fun e w' => e = .returned (.bool true) ∧ Below w.heap.size w w' := by
  go_enter Tryz.func14, Tryz.ntmps14
  go_wp2_with fail
  refine (pDecodeAll s _ g he (by unfold maxLen; omega)).mono ?_
  rintro e w1 ⟨hp, q1⟩
  obtain ⟨k, a, v, l, y, rfl, hr1, hy⟩ := psta_shape hp
  have HL := hr1.len
  have HR1 : Hid (SRes s k a v l) := hr1
  clear hp hr1
  obtain ⟨yo, yc, rfl⟩ := hy.slice
  have qa := below_alloc w1 (.cells #[.int .i64 k, .int .i64 a, .int .i64 0] 29)
  have f0 : (w1.alloc (.cells #[.int .i64 k, .int .i64 a, .int .i64 0] 29)).cell? ⟨w1.heap.size, 0, none⟩ = some (.int .i64 k) := by simp
  have f1 : (w1.alloc (.cells #[.int .i64 k, .int .i64 a, .int .i64 0] 29)).cell? ⟨w1.heap.size, 1, none⟩ = some (.int .i64 a) := by simp
  have f2 : (w1.alloc (.cells #[.int .i64 k, .int .i64 a, .int .i64 0] 29)).cell? ⟨w1.heap.size, 2, none⟩ = some (.int .i64 0) := by simp
  have hya := hy.keep qa
  have qwa := below_trans q1 qa
  go_wp2_with fail
  clear hy qa q1
  generalize w1.alloc (.cells #[.int .i64 k, .int .i64 a, .int .i64 0] 29) = W1 at *
  generalize w1.heap.size = FA at *
  refine (rDecodeAll s _ hz).mono ?_
  rintro e w2 ⟨hp, q2⟩
  obtain ⟨k', a', v', l', y', rfl, hr2, hy'⟩ := rsta_shape hp
  obtain ⟨rfl, rfl, rfl, rfl⟩ := HR1.out.same hr2
  clear hp hr2
  obtain ⟨zo, zc, rfl⟩ := hy'.slice
  have qa := below_alloc w2 (.cells #[.int .i64 k, .int .i64 a] 39)
  have qq := below_trans q2 qa
  have hFA := cell_lt f0
  have g0 := (qq.cell (p := ⟨FA, 0, none⟩) hFA).trans f0
  have g1 := (qq.cell (p := ⟨FA, 1, none⟩) hFA).trans f1
  have g2 := (qq.cell (p := ⟨FA, 2, none⟩) hFA).trans f2
  have r0 : (w2.alloc (.cells #[.int .i64 k, .int .i64 a] 39)).cell? ⟨w2.heap.size, 0, none⟩ = some (.int .i64 k) := by simp
  have r1 : (w2.alloc (.cells #[.int .i64 k, .int .i64 a] 39)).cell? ⟨w2.heap.size, 1, none⟩ = some (.int .i64 a) := by simp
  have hya2 := hya.keep qq
  have hyb2 := hy'.keep qa
  have qw2 := below_trans qwa qq
  go_wp2_with fail
  clear hya hy' qa qq q2 qwa f0 f1 f2 hFA
  generalize w2.alloc (.cells #[.int .i64 k, .int .i64 a] 39) = W2 at *
  generalize w2.heap.size = GA at *
  refine (lSame' k a _).mono ?_
  rintro e w3 ⟨rfl, q3⟩
  have hya3 := hya2.keep q3
  have hyb3 := hyb2.keep q3
  have qw3 := below_trans qw2 q3
  clear hya2 hyb2 g0 g1 g2 r0 r1 q3 qw2
  go_wp2_with fail
  refine (lSameE _ _ l (by omega) _ hya3 hyb3).mono ?_
  rintro e w4 ⟨rfl, q4⟩
  go_wp2
  go_ret
  exact ⟨rfl, below_trans qw3 q4⟩
end Go.Proofs.YtindifjhocgkbaaGreatDoor
