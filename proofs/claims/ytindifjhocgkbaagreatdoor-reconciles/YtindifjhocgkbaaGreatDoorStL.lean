import Derived.Test.YtindifjhocgkbaaGreatDoorWit
import Derived.Test.YtindifjhocgkbaaGreatDoorREA
import Derived.Test.YtindifjhocgkbaaGreatDoorWrg
namespace Go.Proofs.YtindifjhocgkbaaGreatDoor
open Go.RowKit

set_option maxRecDepth 10000 in
set_option maxHeartbeats 2000000 in
theorem lSameE (xa xb : Value) (es : List En) (hlen : es.length ≤ 1000000) (w : World) (ha : EnsIn w xa es) (hb : EnsIn w xb es) :
    Calls Tryz.prog 30 #[xa, xb] w fun e w' => e = .returned (.bool true) ∧ Below w.heap.size w w' := by
  rcases ha with ⟨rfl, rfl⟩ | ⟨ba, oa, ca, rfl, hba, haa⟩
  · rcases hb with ⟨rfl, _⟩ | ⟨bb, ob, cb, rfl, hbb, hab⟩
    all_goals
      go_enter Tryz.func30, Tryz.ntmps30
      go_wp2_with fail
      go_loopw [5] (fun i wr => i = .int .i64 0 ∧ wr = w) (fun _ _ => 0)
      case atStart => exact ⟨rfl, rfl⟩
      case round =>
        obtain ⟨rfl, rfl⟩ := hrel
        go_wp2
        go_ret
        exact ⟨rfl, Below.refl _ _⟩
  · rcases hb with ⟨rfl, rfl⟩ | ⟨bb, ob, cb, rfl, hbb, hab⟩
    · go_enter Tryz.func30, Tryz.ntmps30
      go_wp2_with fail
      go_loopw [5] (fun i wr => i = .int .i64 0 ∧ wr = w) (fun _ _ => 0)
      case atStart => exact ⟨rfl, rfl⟩
      case round =>
        obtain ⟨rfl, rfl⟩ := hrel
        go_wp2
        go_ret
        exact ⟨rfl, Below.refl _ _⟩
    · go_enter Tryz.func30, Tryz.ntmps30
      go_wp2_with fail
      go_loopw [5] (fun i wr => ∃ k : Nat, k ≤ es.length ∧ i = .int .i64 k ∧ Below w.heap.size w wr) (fun i _ => es.length - (intOf i).toNat)
      case atStart => exact ⟨0, Nat.zero_le _, rfl, Below.refl _ _⟩
      case round =>
        obtain ⟨k, hk, rfl, hq⟩ := hrel
        by_cases hlt : k < es.length
        · have a0 := (haa.keep hba hq).c0 k hlt
          have a1 := (haa.keep hba hq).c1 k hlt
          have a2 := (haa.keep hba hq).c2 k hlt
          have b0 := (hab.keep hbb hq).c0 k hlt
          have b1 := (hab.keep hbb hq).c1 k hlt
          have b2 := (hab.keep hbb hq).c2 k hlt
          have il : ((k : Nat) : Int) < (es.length : Int) := by omega
          generalize es[k].t = t at *
          generalize es[k].k = ky at *
          generalize es[k].v = vy at *
          go_wp2_with fail
          go_quiet (fail)
          go_wp2_with fail
          go_roundw
          case rel => exact ⟨k + 1, by omega, by go_num, below_trans hq (below_drawn _ _)⟩
          case measure => simp [intOf]; omega
        · obtain rfl : k = es.length := by omega
          go_wp2
          go_ret
          exact ⟨rfl, hq⟩
set_option maxHeartbeats 1000000 in
theorem lSame' (k a : Int) (w : World) :
    Calls Tryz.prog 12 #[.agg #[.int .i64 k, .int .i64 a, .int .i64 0], .agg #[.int .i64 k, .int .i64 a]] w fun e w' => e = .returned (.bool true) ∧ Below w.heap.size w w' := by
  go_enter Tryz.func12, Tryz.ntmps12
  go_wp2
  go_ret
  exact ⟨rfl, below_trans (below_alloc _ _) (below_alloc _ _)⟩

set_option maxHeartbeats 1000000 in
theorem lPick' (c : Int) (n : Nat) (w : World) (hc : -9223372036854775808 ≤ c ∧ c ≤ 9223372036854775807) (hn : 0 < n) (hn' : n ≤ 1000000) :
    Calls Tryz.prog 19 #[.int .i64 c, .int .i64 n] w fun e w' => ∃ k : Nat, k < n ∧ e = .returned (.int .i64 k) ∧ w' = w := by
  by_cases h : c < 0
  · go_enter Tryz.func19, Tryz.ntmps19
    go_wp2
    go_ret
    have e1 : -((c + 1).tmod (n : Int)) = (-(c + 1)) % (n : Int) := by rw [← Int.neg_tmod, Int.tmod_eq_emod_of_nonneg (by omega)]
    have e2 := Int.emod_nonneg (-(c + 1)) (show (n : Int) ≠ 0 by omega)
    have e3 := Int.emod_lt_of_pos (-(c + 1)) (show (0 : Int) < (n : Int) by omega)
    exact ⟨((-(c + 1)) % (n : Int)).toNat, by omega, by rw [e1, Int.toNat_of_nonneg e2]; rfl, rfl⟩
  · go_enter Tryz.func19, Tryz.ntmps19
    go_wp2
    go_ret
    have e2 := Int.emod_nonneg c (show (n : Int) ≠ 0 by omega)
    have e3 := Int.emod_lt_of_pos c (show (0 : Int) < (n : Int) by omega)
    exact ⟨(c % (n : Int)).toNat, by omega, by rw [Int.toNat_of_nonneg e2]; rfl, rfl⟩
set_option maxHeartbeats 1000000 in
theorem lLimited (x : Value) (es : List En) (w : World) (hI : EnsIn w x es) (hc : ∀ a n c, x = .slice a n c → n ≤ c ∧ (c : Int) ≤ 9223372036854775807) :
    Calls Tryz.prog 16 #[x] w fun e w' => ∃ y, e = .returned y ∧ EnsIn w y (es.take 300) ∧ w' = w := by
  obtain ⟨ao, cp, rfl⟩ := hI.slice
  obtain ⟨h1, h2⟩ := hc _ _ _ rfl
  by_cases h : 300 < es.length
  · rcases hI with ⟨_, he⟩ | ⟨b, off, cap, hv', hb, hc'⟩
    · rw [he] at h; simp at h
    simp only [Value.slice.injEq] at hv'
    obtain ⟨rfl, _, rfl⟩ := hv'
    have h3 : (300 : Int) < (es.length : Int) := by omega
    have h4 : (300 : Int) ≤ (cp : Int) := by omega
    have h5 : ¬ cp = 0 := by omega
    have hlen : (es.take 300).length = 300 := by simp; omega
    go_enter Tryz.func16, Tryz.ntmps16
    go_wp2
    go_ret
    refine ⟨.slice (some ⟨b, off, none⟩) 300 cp, rfl, .inr ⟨b, off, cp, by rw [hlen], hb, ⟨fun i hi => ?_, fun i hi => ?_, fun i hi => ?_⟩⟩, rfl⟩
    · rw [List.getElem_take]; exact hc'.c0 i (by simp at hi; omega)
    · rw [List.getElem_take]; exact hc'.c1 i (by simp at hi; omega)
    · rw [List.getElem_take]; exact hc'.c2 i (by simp at hi; omega)
  · have h3 : ¬ (300 : Int) < (es.length : Int) := by omega
    have e : es.take 300 = es := List.take_of_length_le (by omega)
    go_enter Tryz.func16, Tryz.ntmps16
    go_wp2
    go_ret
    exact ⟨.slice ao es.length cp, rfl, by first | exact hI | (rw [e]; exact hI), rfl⟩
set_option maxRecDepth 10000 in
set_option maxHeartbeats 2000000 in
theorem rFold (x : Value) (l : List En) (v : Int) (ao : Option Addr) (cap : Nat) (ops : List OpD) (w : World) (hI : EnsIn w x l) (hs : Srt l) (hl : l.length ≤ 900000) (ho : OpsIn w ao ops) (h8 : ops.length ≤ 8) :
    Calls Tryz.prog 10 #[x, .agg #[.int .u64 v, .slice ao ops.length cap]] w fun e w' => ∃ y, e = .returned y ∧ EnsIn w' y (aft l ops) ∧ Below w.heap.size w w' := by
  have HS : Hid (Srt l) := hs
  clear hs
  have qa := below_alloc w (.cells #[.int .u64 v, .slice ao ops.length cap] 34)
  have c1 : (w.alloc (.cells #[.int .u64 v, .slice ao ops.length cap] 34)).cell? ⟨w.heap.size, 1, none⟩ = some (.slice ao ops.length cap) := by simp
  have hIa := hI.keep qa
  obtain ⟨xo, xc, rfl⟩ := hI.slice
  go_enter Tryz.func10, Tryz.ntmps10
  go_wp2_with fail
  generalize w.alloc (.cells #[.int .u64 v, .slice ao ops.length cap] 34) = W0 at *
  go_loopw [0, 5] (fun y i wr => ∃ j : Nat, j ≤ ops.length ∧ i = .int .i64 j ∧ EnsIn wr y (aft l (ops.take j)) ∧ Below W0.heap.size W0 wr)
    (fun _ i _ => ops.length - (intOf i).toNat)
  case atStart => exact ⟨0, Nat.zero_le _, rfl, by simpa [aft] using hIa, Below.refl _ _⟩
  case round =>
    obtain ⟨j, hj, rfl, hE, hq⟩ := hrel
    have x1 := (hq.cell (p := ⟨w.heap.size, 1, none⟩) (cell_lt c1)).trans c1
    have qw := below_trans qa hq
    by_cases hlt : j < ops.length
    · obtain ⟨b, off, rfl, hb, ho'⟩ := ho (by omega)
      have d0 := (qw.cell (p := ⟨b, off + j * 4, none⟩) hb).trans (ho'.c0 j hlt)
      have d1 := (qw.cell (p := ⟨b, off + j * 4 + 1, none⟩) hb).trans (ho'.c1 j hlt)
      have d2 := (qw.cell (p := ⟨b, off + j * 4 + 2, none⟩) hb).trans (ho'.c2 j hlt)
      have d3 := (qw.cell (p := ⟨b, off + j * 4 + 3, none⟩) hb).trans (ho'.c3 j hlt)
      have ij : ((j : Nat) : Int) < (ops.length : Int) := by omega
      have HT : Hid (aft l (ops.take (j + 1)) = chd (aft l (ops.take j)) ops[j]) := aft_take l ops j hlt
      have HSR : Hid (Srt (aft l (ops.take j))) := aft_srt HS.out
      have hal := aft_length (ops.take j) l
      simp only [List.length_take] at hal
      generalize aft l (ops.take j) = L at *
      generalize ops[j] = o at *
      obtain ⟨yo, yc, rfl⟩ := hE.slice
      have HC := (show Hid _ from withR_chd (o := o) HSR.out)
      by_cases hk : o.kind = 2
      · have hkd : decide (o.kind = 2) = true := by simp [hk]
        have HC2 : Hid (withR L ⟨o.table, o.key, o.val⟩ true = chd L o) := by have h := HC.out; rw [hkd] at h; exact h
        clear HC hkd
        rw [hk] at d0
        clear hk
        go_wp2_with fail
        refine (rWith _ L ⟨o.table, o.key, o.val⟩ true _ (hE.keep (below_alloc _ _)) (by omega)).mono ?_
        rintro ev w2 ⟨y, rfl, oy, q2⟩
        obtain ⟨zo, zc, rfl⟩ := own_slice oy
        rw [HC2.out] at oy
        go_wp2_with fail
        go_roundw
        case rel => exact ⟨j + 1, by omega, by go_num, by rw [HT.out]; first | exact EnsIn.of_owns oy | (rw [HC2.out]; exact EnsIn.of_owns oy), below_trans hq (below_trans (below_alloc _ _) q2)⟩
        case measure => simp [intOf]; omega
      · have hkd : decide (o.kind = 2) = false := by simp [hk]
        have HC2 : Hid (withR L ⟨o.table, o.key, o.val⟩ false = chd L o) := by have h := HC.out; rw [hkd] at h; exact h
        clear HC hkd
        have hkb : (o.kind == 2) = false := by simpa using hk
        go_wp2_with fail
        refine (rWith _ L ⟨o.table, o.key, o.val⟩ false _ (hE.keep (below_alloc _ _)) (by omega)).mono ?_
        rintro ev w2 ⟨y, rfl, oy, q2⟩
        obtain ⟨zo, zc, rfl⟩ := own_slice oy
        rw [HC2.out] at oy
        go_wp2_with fail
        go_roundw
        case rel => exact ⟨j + 1, by omega, by go_num, by rw [HT.out]; first | exact EnsIn.of_owns oy | (rw [HC2.out]; exact EnsIn.of_owns oy), below_trans hq (below_trans (below_alloc _ _) q2)⟩
        case measure => simp [intOf]; omega
    · obtain rfl : j = ops.length := by omega
      rw [List.take_length] at hE
      go_wp2
      go_ret
      exact ⟨_, rfl, hE, qw⟩
end Go.Proofs.YtindifjhocgkbaaGreatDoor
