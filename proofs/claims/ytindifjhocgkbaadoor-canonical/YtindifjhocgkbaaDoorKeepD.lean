import Derived.Test.YtindifjhocgkbaaDoorKeepC
import Derived.Test.YtindifjhocgkbaaDoorPureB
import Derived.Test.YtindifjhocgkbaaDoorLawC
namespace Go.Proofs.YtindifjhocgkbaaDoor
open Go.RowKit

theorem good_wrong {v : Int} {l : List OpD} (hg : GoodL l) (h1 : 1 ≤ l.length) (h8 : l.length ≤ 8) (hv : verB v = true) : (wrongD v l).1 = 0 := by
  rw [wrongD_0 hv (by simp [cntB]; omega)]
  have key : ∀ (n i : Nat), i + n ≤ l.length → firstW l n i = (0, 0) := by
    intro n
    induction n with
    | zero => intro i _; rfl
    | succ n ih =>
      intro i hi
      rw [firstW, if_pos (by rw [wrongAt_eq (by omega)]; exact hg i (by omega))]
      exact ih (i + 1) (by omega)
  rw [key l.length 0 (by omega)]

theorem own_none {w : World} {base e size n : Nat} {ao : Option Addr} {cp m : Nat} {xs : List Value} (h : w.ownsRow base e size (.slice ao n cp) m xs) : ao = none → cp = 0 := by
  rintro rfl
  rcases h.2 with ⟨h1, _⟩ | ⟨g, cap, cur, h1, _⟩
  · simp only [Value.slice.injEq] at h1; exact h1.2.2
  · simp at h1

set_option maxRecDepth 10000 in
set_option maxHeartbeats 4000000 in
theorem kCanonical (c : Int) (ra : Option Addr) (n rc : Nat) (s : ByteArray) (w : World) (hc : -9223372036854775808 ≤ c ∧ c ≤ 9223372036854775807) (hn : n ≤ 9223372036854775800) (hr : IntsIn w ra n) (hs : s.size ≤ 140737488355328) (g : Glob w) (he : EtIs w) :
    Calls Tryd.prog 4 #[.int .i64 c, .slice ra n rc, .string s] w fun e w' => e = .returned (.bool true) ∧ Below w.heap.size w w' := by
  have HS : Hid (s.size ≤ 140737488355328) := hs
  clear hs
  go_enter Tryd.func4, Tryd.ntmps4
  go_wp2_with fail
  refine (kPick c 4611686018427387904 _ hc (by decide) (by decide)).mono ?_
  rintro e w ⟨m, m0, m1, rfl, rfl⟩
  go_wp2_with fail
  refine (kDelta (1 + m) ra n rc _ hn hr).mono ?_
  rintro e w1 ⟨l, ao, cp, rfl, hg, hl1, hl8, hown, q1⟩
  have hw : (wrongD (1 + m) l).1 = 0 := good_wrong hg hl1 hl8 (by simp [verB]; omega)
  obtain ⟨ao', cp', e1, hc1, hc2, ho, hg1⟩ := ops_of_own hown
  simp only [Value.slice.injEq] at e1
  obtain ⟨rfl, _, rfl⟩ := e1
  have hz := wrongD_zero hw
  have hdec := dec_enc hw
  have hsz := encS_size hw
  have pe := pEncode (1 + m) ao cp l
  rw [hz] at pe
  have HPE := (show Hid _ from pe)
  have HDEC : Hid (dec (encS (1 + m) l) = .ok (1 + m, l)) := hdec
  have HSZ : Hid (9 ≤ (encS (1 + m) l).size ∧ (encS (1 + m) l).size ≤ 105) := hsz
  clear pe hdec hsz hz hw
  generalize encS (1 + m) l = t at HPE HDEC HSZ
  have qa := below_alloc w1 (.cells #[.int .u64 (1 + m), .slice ao l.length cp] 25)
  have q01 := below_trans q1 qa
  have hne : ao = none → cp = 0 := fun h => by obtain ⟨g', e', _⟩ := hg1 (by omega); rw [h] at e'; cases e'
  go_wp2_with fail
  refine (HPE.out _ (by omega) hne (by omega) (ho.keep qa) (g.keep q01) (he.keep q01)).mono ?_
  rintro e w2 ⟨rfl, q2⟩
  have q02 := below_trans q01 q2
  have d0 : w2.cell? ⟨w1.heap.size, 0, none⟩ = some (.int .u64 (1 + m)) := (q2.cell (p := ⟨w1.heap.size, 0, none⟩) (by simp)).trans (by simp)
  have d1 : w2.cell? ⟨w1.heap.size, 1, none⟩ = some (.slice ao l.length cp) := (q2.cell (p := ⟨w1.heap.size, 1, none⟩) (by simp)).trans (by simp)
  have o2 := (ho.keep qa).keep q2
  clear HPE
  have q03 := below_trans q02 (below_alloc w2 (.cells #[.int .i64 0, .int .i64 0, .int .i64 0] 39))
  have hs12 : w1.heap.size < w2.heap.size := cell_lt d0
  go_wp2_with fail
  refine (pDecode t _ (g.keep q03) (he.keep q03) (by have := HSZ.out; unfold maxLen; omega)).mono ?_
  rintro e w3 ⟨hp, q3⟩
  obtain ⟨k', a', v', l', bo, d, rfl, hl', ob, res⟩ := pdec_shape hp
  obtain ⟨rfl, rfl, rfl, rfl⟩ := DRes.same (.inr ⟨HDEC.out, rfl, rfl⟩ : DRes t 0 0 (1 + m) l) res
  clear hp res
  have q3' := below_trans (below_alloc w2 (.cells #[.int .i64 0, .int .i64 0, .int .i64 0] 39)) q3
  have q04 := below_trans q02 q3'
  have x0 := (q3'.cell (p := ⟨w1.heap.size, 0, none⟩) (cell_lt d0)).trans d0
  have x1 := (q3'.cell (p := ⟨w1.heap.size, 1, none⟩) (cell_lt d1)).trans d1
  have f0 : w3.cell? ⟨w2.heap.size, 0, none⟩ = some (.int .i64 0) := (q3.cell (p := ⟨w2.heap.size, 0, none⟩) (by simp)).trans (by simp)
  have f1 : w3.cell? ⟨w2.heap.size, 1, none⟩ = some (.int .i64 0) := (q3.cell (p := ⟨w2.heap.size, 1, none⟩) (by simp)).trans (by simp)
  have f2 : w3.cell? ⟨w2.heap.size, 2, none⟩ = some (.int .i64 0) := (q3.cell (p := ⟨w2.heap.size, 2, none⟩) (by simp)).trans (by simp)
  have hs23 : w2.heap.size < w3.heap.size := cell_lt f0
  have hs13 : w1.heap.size < w3.heap.size := cell_lt x0
  have oa3 := o2.keep q3'
  clear d0 d1
  have qb := below_trans (below_alloc w3 (.cells #[.int .u64 (1 + m), .slice bo l.length d] 25)) (below_alloc _ (.cells #[.int .i64 0, .int .i64 0, .int .i64 0] 39))
  obtain ⟨W4, hW4⟩ : ∃ W4, W4 = (w3.alloc (.cells #[.int .u64 (1 + m), .slice bo l.length d] 25)).alloc (.cells #[.int .i64 0, .int .i64 0, .int .i64 0] 39) := ⟨_, rfl⟩
  have cE : W4.cell? ⟨w3.heap.size, 0, none⟩ = some (.int .u64 (1 + m)) ∧ W4.cell? ⟨w3.heap.size, 1, none⟩ = some (.slice bo l.length d) ∧ W4.cell? ⟨w3.heap.size + 1, 0, none⟩ = some (.int .i64 0) ∧ W4.cell? ⟨w3.heap.size + 1, 1, none⟩ = some (.int .i64 0) ∧ W4.cell? ⟨w3.heap.size + 1, 2, none⟩ = some (.int .i64 0) := by rw [hW4]; simp
  have cF : W4.frozen? ⟨w3.heap.size, 0, none⟩ = false ∧ W4.frozen? ⟨w3.heap.size, 1, none⟩ = false ∧ W4.frozen? ⟨w3.heap.size + 1, 0, none⟩ = false ∧ W4.frozen? ⟨w3.heap.size + 1, 1, none⟩ = false ∧ W4.frozen? ⟨w3.heap.size + 1, 2, none⟩ = false := by rw [hW4]; simp
  obtain ⟨a0, a1, b0, b1, b2⟩ := cE
  obtain ⟨af0, af1, bf0, bf1, bf2⟩ := cF
  have qw4 : Below w.heap.size w W4 := by rw [hW4]; exact below_trans q04 qb
  have x1' : W4.cell? ⟨w1.heap.size, 1, none⟩ = some (.slice ao l.length cp) := by rw [hW4]; exact (qb.cell (p := ⟨w1.heap.size, 1, none⟩) (cell_lt x1)).trans x1
  have oa4 : OpsIn W4 ao l := by rw [hW4]; exact oa3.keep qb
  have ob4 : OpsIn W4 bo l := by rw [hW4]; exact ob.keep qb
  have HQ4 : Hid (Below w.heap.size w W4) := qw4
  have HW3 : Hid (w.heap.size ≤ w3.heap.size) := q04.size
  go_wp2_with fail
  rw [← hW4]
  clear hW4 qb qw4 x0 x1 f0 f1 f2 oa3 ob o2 q04 q3' q03 q02 q01 qa q2 q3 q1 ho hg1 hown
  go_loopw [12] (fun i wr => ∃ j : Nat, j ≤ l.length ∧ i = .int .i64 j ∧ Below W4.heap.size W4 wr) (fun i _ => l.length - (intOf i).toNat)
  case atStart => exact ⟨0, Nat.zero_le _, rfl, Below.refl _ _⟩
  case round =>
    obtain ⟨j, hj, rfl, qi⟩ := hrel
    have y1 := (qi.cell (p := ⟨w1.heap.size, 1, none⟩) (cell_lt x1')).trans x1'
    have z1 := (qi.cell (p := ⟨w3.heap.size, 1, none⟩) (cell_lt a1)).trans a1
    by_cases hlt : j < l.length
    · obtain ⟨pb, poff, rfl, hpb, hpo⟩ := (oa4.keep qi) (by omega)
      obtain ⟨rb, roff, rfl, hrb, hro⟩ := (ob4.keep qi) (by omega)
      have s0 := hpo.c0 j hlt
      have s1 := hpo.c1 j hlt
      have s2 := hpo.c2 j hlt
      have s3 := hpo.c3 j hlt
      have t0 := hro.c0 j hlt
      have t1 := hro.c1 j hlt
      have t2 := hro.c2 j hlt
      have t3 := hro.c3 j hlt
      have jl : (j : Int) < (l.length : Int) := by omega
      go_wp2_with fail
      go_quiet (fail)
      go_wp2
      go_roundw
      case rel => exact ⟨j + 1, by omega, by go_num, below_drewN qi _⟩
      case measure => simp [intOf]; omega
    · obtain rfl : j = l.length := by omega
      have z0 := (qi.cell (p := ⟨w3.heap.size, 0, none⟩) (cell_lt a0)).trans a0
      have v0 := (qi.cell (p := ⟨w3.heap.size + 1, 0, none⟩) (cell_lt b0)).trans b0
      have v1 := (qi.cell (p := ⟨w3.heap.size + 1, 1, none⟩) (cell_lt b1)).trans b1
      have v2 := (qi.cell (p := ⟨w3.heap.size + 1, 2, none⟩) (cell_lt b2)).trans b2
      have zf0 := (qi.frozen (p := ⟨w3.heap.size, 0, none⟩) (cell_lt a0)).trans af0
      have zf1 := (qi.frozen (p := ⟨w3.heap.size, 1, none⟩) (cell_lt a1)).trans af1
      have vf0 := (qi.frozen (p := ⟨w3.heap.size + 1, 0, none⟩) (cell_lt b0)).trans bf0
      have vf1 := (qi.frozen (p := ⟨w3.heap.size + 1, 1, none⟩) (cell_lt b1)).trans bf1
      have vf2 := (qi.frozen (p := ⟨w3.heap.size + 1, 2, none⟩) (cell_lt b2)).trans bf2
      have q0r : Below w.heap.size w wr := below_trans HQ4.out qi
      clear qi a0 a1 b0 b1 b2 af0 af1 bf0 bf1 bf2 oa4 ob4 x1'
      go_wp2_with fail
      refine (pDecode s _ (g.keep q0r) (he.keep q0r) (by have := HS.out; unfold maxLen; omega)).mono ?_
      rintro e w6 ⟨hp, q6⟩
      have q06 := below_trans q0r q6
      have hr3 : w3.heap.size + 1 < wr.heap.size := cell_lt v0
      have g0 := (q6.cell (p := ⟨w3.heap.size, 0, none⟩) (cell_lt z0)).trans z0
      have g1 := (q6.cell (p := ⟨w3.heap.size, 1, none⟩) (cell_lt z1)).trans z1
      have h0 := (q6.cell (p := ⟨w3.heap.size + 1, 0, none⟩) (cell_lt v0)).trans v0
      have h1 := (q6.cell (p := ⟨w3.heap.size + 1, 1, none⟩) (cell_lt v1)).trans v1
      have h2 := (q6.cell (p := ⟨w3.heap.size + 1, 2, none⟩) (cell_lt v2)).trans v2
      have gf0 := (q6.frozen (p := ⟨w3.heap.size, 0, none⟩) (cell_lt z0)).trans zf0
      have gf1 := (q6.frozen (p := ⟨w3.heap.size, 1, none⟩) (cell_lt z1)).trans zf1
      have hf0 := (q6.frozen (p := ⟨w3.heap.size + 1, 0, none⟩) (cell_lt v0)).trans vf0
      have hf1 := (q6.frozen (p := ⟨w3.heap.size + 1, 1, none⟩) (cell_lt v1)).trans vf1
      have hf2 := (q6.frozen (p := ⟨w3.heap.size + 1, 2, none⟩) (cell_lt v2)).trans vf2
      clear z0 z1 v0 v1 v2 zf0 zf1 vf0 vf1 vf2 y1 q6
      rcases hp with ⟨kk, aa, hde, hk1, rfl⟩ | ⟨vv, ll, bo2, c2, hde, rfl, hown2⟩
      · have hpl := place_of_dec hde
        have hk0 : ¬ kk = 0 := by omega
        have hb0 : (kk != 0) = true := by simpa using hk0
        clear hde
        go_wp2_with fail
        go_ret
        have h03 := HW3.out
        exact ⟨rfl, (((((q06.setCell (by simp <;> omega) _).setCell (by simp <;> omega) _).setCell (by simp <;> omega) _).setCell (by simp <;> omega) _).setCell (by simp <;> omega) _)⟩
      · obtain ⟨hwd, henc, hvb, hll⟩ := enc_dec hde
        have pe := pEncode vv bo2 c2 ll
        rw [wrongD_zero hwd, henc] at pe
        have HPE := (show Hid _ from pe)
        have h03 := HW3.out
        have q07 := (((((q06.setCell (p := ⟨w3.heap.size, 0, none⟩) (by simp <;> omega) (.int .u64 vv)).setCell (p := ⟨w3.heap.size, 1, none⟩) (by simp <;> omega) (.slice bo2 ll.length c2)).setCell (p := ⟨w3.heap.size + 1, 0, none⟩) (by simp <;> omega) (.int .i64 0)).setCell (p := ⟨w3.heap.size + 1, 1, none⟩) (by simp <;> omega) (.int .i64 0)).setCell (p := ⟨w3.heap.size + 1, 2, none⟩) (by simp <;> omega) (.int .i64 0))
        have own7 := ownsRow_setCell_below (a := ⟨w3.heap.size + 1, 2, none⟩) (ownsRow_setCell_below (a := ⟨w3.heap.size + 1, 1, none⟩) (ownsRow_setCell_below (a := ⟨w3.heap.size + 1, 0, none⟩) (ownsRow_setCell_below (a := ⟨w3.heap.size, 1, none⟩) (ownsRow_setCell_below (a := ⟨w3.heap.size, 0, none⟩) hown2 (by simp <;> omega) (.int .u64 vv)) (by simp <;> omega) (.slice bo2 ll.length c2)) (by simp <;> omega) (.int .i64 0)) (by simp <;> omega) (.int .i64 0)) (by simp <;> omega) (.int .i64 0)
        obtain ⟨ao7, cp7, e7, _, _, ho7, _⟩ := ops_of_own own7
        simp only [Value.slice.injEq] at e7
        obtain ⟨rfl, _, rfl⟩ := e7
        have hn7 : bo2 = none → c2 = 0 := own_none own7
        clear pe hde henc hwd own7 hown2
        go_wp2_with fail
        refine (HPE.out _ hvb.1 hn7 (by omega) ho7 (g.keep q07) (he.keep q07)).mono ?_
        clear HPE
        rintro e w8 ⟨rfl, q8⟩
        go_wp2_with fail
        go_ret
        exact ⟨rfl, below_trans (below_trans q07 q8) (below_alloc _ _)⟩
end Go.Proofs.YtindifjhocgkbaaDoor
