import Derived.Test.YtindifjhocgkbaaGreatDoorRcBToRcP
import Derived.Test.YtindifjhocgkbaaGreatDoorStE
import Derived.Deep.RegionHeld3
namespace Go.Proofs.YtindifjhocgkbaaGreatDoor
open Go.RowKit
/-- Texts that lie in a slice. -/
def TxIn (w : World) (v : Value) (ss : List ByteArray) : Prop := (v = .slice none 0 0 ∧ ss = []) ∨ ∃ b off cap, v = .slice (some ⟨b, off, none⟩) ss.length cap ∧ b < w.heap.size ∧ ∀ i (h : i < ss.length), w.cell? ⟨b, off + i, none⟩ = some (.string ss[i])
theorem TxIn.keep {w w' : World} {v : Value} {ss : List ByteArray} (h : TxIn w v ss) (q : Below w.heap.size w w') : TxIn w' v ss := by
  rcases h with h | ⟨b, off, cap, e, hb, hc⟩
  · exact .inl h
  · exact .inr ⟨b, off, cap, e, Nat.lt_of_lt_of_le hb q.size, fun i hi => (q.cell (p := ⟨b, off + i, none⟩) hb).trans (hc i hi)⟩
theorem TxIn.slice {w : World} {v : Value} {ss : List ByteArray} (h : TxIn w v ss) : ∃ ao cap, v = .slice ao ss.length cap := by
  rcases h with ⟨rfl, rfl⟩ | ⟨b, off, cap, rfl, _⟩
  · exact ⟨none, 0, rfl⟩
  · exact ⟨_, _, rfl⟩
theorem TxIn.at {w W : World} {ao : Option Addr} {cap : Nat} {ss : List ByteArray} (h : TxIn w (.slice ao ss.length cap) ss) (q : Below w.heap.size w W) {j : Nat} (hj : j < ss.length) : ∃ b off, ao = some ⟨b, off, none⟩ ∧ W.cell? ⟨b, off + j, none⟩ = some (.string ss[j]) := by
  rcases h with ⟨_, rfl⟩ | ⟨b, off, cap', e, hb, hc⟩
  · simp at hj
  · simp only [Value.slice.injEq] at e
    exact ⟨b, off, e.1, (q.cell (p := ⟨b, off + j, none⟩) hb).trans (hc j hj)⟩
set_option maxRecDepth 10000 in
set_option maxHeartbeats 2000000 in
theorem lSameT (va vb : Value) (ss : List ByteArray) (w : World) (ha : TxIn w va ss) (hb : TxIn w vb ss) (hn : ss.length ≤ 1000000) :
    Calls Tryz.prog 31 #[va, vb] w fun e w' => e = .returned (.bool true) ∧ Below w.heap.size w w' := by
  obtain ⟨ao, ac, rfl⟩ := ha.slice
  obtain ⟨bo, bc, rfl⟩ := hb.slice
  go_enter Tryz.func31, Tryz.ntmps31
  go_wp2_with fail
  go_loopw [5] (fun i wr => ∃ k : Nat, k ≤ ss.length ∧ i = .int .i64 k ∧ Below w.heap.size w wr) (fun i _ => ss.length - (intOf i).toNat)
  case atStart => exact ⟨0, Nat.zero_le _, rfl, Below.refl _ _⟩
  case round =>
    obtain ⟨k, hk, rfl, hq⟩ := hrel
    by_cases hlt : k < ss.length
    · obtain ⟨b1, o1, rfl, a1⟩ := ha.at hq hlt
      obtain ⟨b2, o2, rfl, a2⟩ := hb.at hq hlt
      have il : ((k : Nat) : Int) < (ss.length : Int) := by omega
      generalize ss[k] = s at *
      go_wp2_with fail
      go_quiet (fail)
      go_wp2_with fail
      go_roundw
      case rel => exact ⟨k + 1, by omega, by go_num, below_trans hq (below_drawn _ _)⟩
      case measure => simp [intOf]; omega
    · obtain rfl : k = ss.length := by omega
      go_wp2
      go_ret
      exact ⟨rfl, hq⟩
set_option maxRecDepth 10000 in
set_option maxHeartbeats 2000000 in
theorem lThere (l : List En) (xo : Option Addr) (xc B : Nat) (r : Nat → Int) (w : World) (hl : EnsLo w (.slice xo l.length xc) l) (hn : (l.length : Int) ≤ 9223372036854775807) (hr : ∀ t, t < 3 → w.cell? ⟨B, t, none⟩ = some (.int .i64 (r t))) (hr4 : ∀ t, t < 3 → 0 ≤ r t ∧ r t ≤ 40) :
    Calls Tryz.prog 26 #[.slice xo l.length xc, .slice (some ⟨B, 0, none⟩) 3 3] w fun e w' => ∃ y, e = .returned y ∧ EnsIn w' y (l.foldl (thereS r) []) ∧ Below w.heap.size w w' := by
  go_enter Tryz.func26, Tryz.ntmps26
  go_wp2_with fail
  have hB : B < w.heap.size := cell_lt (hr 0 (by omega))
  have HR : Hid (∀ t, t < 3 → w.cell? ⟨B, t, none⟩ = some (.int .i64 (r t))) := hr
  clear hr
  go_loopw [5, 6] (fun y i wr => ∃ j : Nat, j ≤ l.length ∧ i = .int .i64 j ∧ EnsIn wr y ((l.take j).foldl (thereS r) []) ∧ Hid (HdI r ((l.take j).foldl (thereS r) [])) ∧ Below w.heap.size w wr) (fun _ i _ => l.length - (intOf i).toNat)
  case atStart => exact ⟨0, Nat.zero_le _, rfl, .inl ⟨rfl, rfl⟩, (show Hid _ from HdI.nil (fun t ht => (hr4 t ht).1)), Below.refl _ _⟩
  case round =>
    obtain ⟨j, hj, rfl, hE, HH, hq⟩ := hrel
    have hO := HH.out.len (fun t ht => (hr4 t ht).2)
    by_cases hlt : j < l.length
    · have hI : EnsIn w (.slice xo l.length xc) l := by
        rcases hl with ⟨_, _, _, rfl⟩ | h
        · simp at hlt
        · exact h
      obtain ⟨b, off, cap, hv, d0, d1, d2⟩ := hI.at hq hlt
      simp only [Value.slice.injEq] at hv
      obtain ⟨rfl, _, rfl⟩ := hv
      have il : ((j : Nat) : Int) < (l.length : Int) := by omega
      have HT : Hid ((l.take (j + 1)).foldl (thereS r) [] = thereS r ((l.take j).foldl (thereS r) []) l[j]) := by show _ = _; rw [List.take_succ_eq_append_getElem hlt, List.foldl_append]; rfl
      generalize (l.take j).foldl (thereS r) [] = O at *
      generalize l[j] = X at *
      obtain ⟨yo, yc, rfl⟩ := hE.slice
      have hbw : b < wr.heap.size := cell_lt d0
      have z0 : ∀ o, (wr.alloc o).cell? ⟨b, off + j * 3, none⟩ = some (.int .i64 X.t) := fun o => (World.cell?_alloc_lt _ _ _ hbw).trans d0
      have z1 : ∀ o, (wr.alloc o).cell? ⟨b, off + j * 3 + 1, none⟩ = some (.string X.k) := fun o => (World.cell?_alloc_lt _ _ _ hbw).trans d1
      have z2 : ∀ o, (wr.alloc o).cell? ⟨b, off + j * 3 + 2, none⟩ = some (.string X.v) := fun o => (World.cell?_alloc_lt _ _ _ hbw).trans d2
      go_wp2_with fail
      go_region
      have qa := (below_alloc wr (.cells #[.int .i64 X.t, .string X.k, .string X.v] 87)).drew
      have e0 : (wr.alloc (.cells #[.int .i64 X.t, .string X.k, .string X.v] 87)).drew.cell? ⟨wr.heap.size, 0, none⟩ = some (.int .i64 X.t) := by simp
      have e1 : (wr.alloc (.cells #[.int .i64 X.t, .string X.k, .string X.v] 87)).drew.cell? ⟨wr.heap.size, 1, none⟩ = some (.string X.k) := by simp
      have e2 : (wr.alloc (.cells #[.int .i64 X.t, .string X.k, .string X.v] 87)).drew.cell? ⟨wr.heap.size, 2, none⟩ = some (.string X.v) := by simp
      generalize (wr.alloc (.cells #[.int .i64 X.t, .string X.k, .string X.v] 87)).drew = W1 at *
      have hE1 := hE.keep qa
      have q1 := below_trans hq qa
      obtain ⟨P, hP⟩ : ∃ P, wr.heap.size = P := ⟨_, rfl⟩
      rw [hP] at e0 e1 e2 ⊢
      have hPw : w.heap.size ≤ P := by have := hq.size; omega
      clear hE hq qa d0 d1 d2 z0 z1 z2 hbw hP
      have HH2 : Hid (HdI r (thereS r O X)) := HH.out.step X
      by_cases ht : X.t < 0
      · have HS : Hid (thereS r O X = O) := by show _ = _; unfold thereS; rw [if_neg (by omega)]
        go_wp2_with fail
        exact ⟨⟨j + 1, by omega, by go_num, by rw [HT.out, HS.out]; exact hE1, by rw [HT.out]; exact HH2, q1⟩, by simp [intOf]; omega⟩
      · by_cases ht2 : 2 < X.t
        · have HS : Hid (thereS r O X = O) := by show _ = _; unfold thereS; rw [if_neg (by omega)]
          go_wp2_with fail
          exact ⟨⟨j + 1, by omega, by go_num, by rw [HT.out, HS.out]; exact hE1, by rw [HT.out]; exact HH2, q1⟩, by simp [intOf]; omega⟩
        · obtain ⟨xt, xk, xv⟩ := X
          dsimp only at ht ht2 e0 e1 e2 ⊢
          obtain ⟨m, rfl⟩ : ∃ m : Nat, xt = (m : Int) := ⟨xt.toNat, by omega⟩
          have hm : m < 3 := by omega
          have im : (m : Int) < 3 := by omega
          go_wp2_with fail
          refine (rWith _ O ⟨m, xk, xv⟩ true _ hE1 (by omega)).mono ?_
          rintro ev w2 ⟨y, rfl, oy, q2⟩
          rw [withR_del HH.out.s] at oy
          obtain ⟨zo, zc, rfl⟩ := own_slice oy
          have hdl := del_len (m : Int) xk O
          have g0 := (q2.cell (p := ⟨P, 0, none⟩) (cell_lt e0)).trans e0
          have g1 := (q2.cell (p := ⟨P, 1, none⟩) (cell_lt e1)).trans e1
          have g2 := (q2.cell (p := ⟨P, 2, none⟩) (cell_lt e2)).trans e2
          have hE2 := hE1.keep q2
          have q3 := below_trans q1 q2
          have cB := (q3.cell (p := ⟨B, m, none⟩) hB).trans (HR.out m hm)
          clear oy e0 e1 e2 hE1 q1 q2
          dsimp only at hdl ⊢
          generalize (del (m : Int) xk O).length = dn at *
          by_cases hf : fnd (m : Int) xk O = true
          · have HS : Hid (thereS r O ⟨m, xk, xv⟩ = put ⟨m, xk, xv⟩ O) := by show _ = _; unfold thereS; rw [if_pos ⟨by simp; omega, .inl hf⟩]
            have hd2 : (dn : Int) < (O.length : Int) := by rw [if_pos hf] at hdl; omega
            clear hdl hf
            go_wp2_with fail
            go_quiet (fail)
            have q4 := below_drawn w2 nq
            have g0' := (q4.cell (p := ⟨P, 0, none⟩) (cell_lt g0)).trans g0
            have g1' := (q4.cell (p := ⟨P, 1, none⟩) (cell_lt g1)).trans g1
            have g2' := (q4.cell (p := ⟨P, 2, none⟩) (cell_lt g2)).trans g2
            have hE3 := hE2.keep q4
            have q5 := below_trans q3 q4
            clear g0 g1 g2 hE2 q3 q4 cB
            go_wp2_with fail
            refine (rWith _ O ⟨m, xk, xv⟩ false _ hE3 (by omega)).mono ?_
            rintro ev w4 ⟨y, rfl, oy, q6⟩
            rw [withR_put HH.out.s] at oy
            obtain ⟨zo, zc, rfl⟩ := own_slice oy
            go_wp2_with fail
            exact ⟨⟨j + 1, by omega, by go_num, by rw [HT.out, HS.out]; exact EnsIn.of_owns oy, by rw [HT.out]; exact HH2, below_trans q5 q6⟩, by simp [intOf]; omega⟩
          · have hd2 : dn = O.length := by rw [if_neg hf] at hdl; omega
            subst hd2
            clear hdl
            have hcl := cntT_le m O
            have icl : ¬ ((O.length : Nat) : Int) < (O.length : Int) := by omega
            by_cases hcr : (cntT (m : Int) O : Int) < r m
            · have HS : Hid (thereS r O ⟨m, xk, xv⟩ = put ⟨m, xk, xv⟩ O) := by show _ = _; unfold thereS; rw [if_pos ⟨by simp; omega, .inr (by simpa using hcr)⟩]
              clear hf
              go_wp2_with fail
              go_region_held3 (fun w' => w'.cell? ⟨B, m, none⟩ = some (.int .i64 (r m)) ∧ w'.cell? ⟨P, 0, none⟩ = some (.int .i64 m))
                (first | go_keep | exact ⟨by assumption, by assumption⟩)
                (first | (go_at_call 42; refine (rCount _ (m : Int) O _ (hE2.keep (below_drew _)) (by omega)).mono ?_; rintro e w3 ⟨rfl, q4⟩; have kc := (q4.cell (p := ⟨B, m, none⟩) (cell_lt cB)).trans cB; have k0 := (q4.cell (p := ⟨P, 0, none⟩) (cell_lt g0)).trans g0))
              have q5 := below_trans q3 (below_trans (below_drew _) q4)
              have k1 := (q4.cell (p := ⟨P, 1, none⟩) (cell_lt g1)).trans g1
              have k2 := (q4.cell (p := ⟨P, 2, none⟩) (cell_lt g2)).trans g2
              have hE3 := (hE2.keep (below_drew _)).keep q4
              clear g0 g1 g2 hE2 q3 q4 cB
              go_wp2_with fail
              refine (rWith _ O ⟨m, xk, xv⟩ false _ hE3 (by omega)).mono ?_
              rintro ev w4 ⟨y, rfl, oy, q6⟩
              rw [withR_put HH.out.s] at oy
              obtain ⟨zo, zc, rfl⟩ := own_slice oy
              go_wp2_with fail
              exact ⟨⟨j + 1, by omega, by go_num, by rw [HT.out, HS.out]; exact EnsIn.of_owns oy, by rw [HT.out]; exact HH2, below_trans q5 q6⟩, by simp [intOf]; omega⟩
            · have HS : Hid (thereS r O ⟨m, xk, xv⟩ = O) := by
                show _ = _
                unfold thereS
                rw [if_neg]
                rintro ⟨_, h | h⟩
                · exact hf h
                · exact hcr (by simpa using h)
              clear hf
              go_wp2_with fail
              go_region_held3 (fun w' => w'.cell? ⟨B, m, none⟩ = some (.int .i64 (r m)) ∧ w'.cell? ⟨P, 0, none⟩ = some (.int .i64 m))
                (first | go_keep | exact ⟨by assumption, by assumption⟩)
                (first | (go_at_call 42; refine (rCount _ (m : Int) O _ (hE2.keep (below_drew _)) (by omega)).mono ?_; rintro e w3 ⟨rfl, q4⟩; have kc := (q4.cell (p := ⟨B, m, none⟩) (cell_lt cB)).trans cB; have k0 := (q4.cell (p := ⟨P, 0, none⟩) (cell_lt g0)).trans g0))
              have q5 := below_trans q3 (below_trans (below_drew _) q4)
              have hE3 := (hE2.keep (below_drew _)).keep q4
              clear g0 g1 g2 hE2 q3 q4 cB
              go_wp2_with fail
              exact ⟨⟨j + 1, by omega, by go_num, by rw [HT.out, HS.out]; exact hE3, by rw [HT.out]; exact HH2, q5⟩, by simp [intOf]; omega⟩
    · obtain rfl : j = l.length := by omega
      rw [List.take_length] at hE
      go_wp2
      go_ret
      exact ⟨_, rfl, hE, hq⟩
end Go.Proofs.YtindifjhocgkbaaGreatDoor
