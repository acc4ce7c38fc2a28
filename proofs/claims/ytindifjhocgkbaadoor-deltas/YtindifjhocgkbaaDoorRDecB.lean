import Derived.Test.YtindifjhocgkbaaDoorRDec
namespace Go.Proofs.YtindifjhocgkbaaDoor
open Go.RowKit

structure RL (w wr : World) (v : Int) (l : List OpD) (ao : Option Addr) (cp : Nat) : Prop where
  rv : RV w wr v ao l.length cp
  own : wr.ownsRow (w.heap.size + 4) 47 4 (.slice ao l.length cp) l.length (opsC l)
theorem RL.keep {w wr w' : World} {v : Int} {l : List OpD} {ao : Option Addr} {cp : Nat} (h : RL w wr v l ao cp) (q : Below wr.heap.size wr w') : RL w w' v l ao cp :=
  ⟨h.rv.keep q, h.own.kept (grown_of_below (r := none) q) (by cases (Value.slice ao l.length cp).ownBlock <;> simp)⟩
theorem RL.ops {w wr : World} {v : Int} {l : List OpD} {ao : Option Addr} {cp : Nat} (h : RL w wr v l ao cp) : OpsIn wr ao l := by
  obtain ⟨ao', cp', e1, _, _, h4, _⟩ := ops_of_own h.own
  simp only [Value.slice.injEq] at e1
  obtain ⟨rfl, _, rfl⟩ := e1
  exact h4
theorem RL.push {w wr w' : World} {v : Int} {l l' : List OpD} {ao ao' : Option Addr} {cp cp' : Nat} (h : RL w wr v l ao cp) (ho : w'.ownsRow (w.heap.size + 4) 47 4 (.slice ao' l'.length cp') l'.length (opsC l')) (g : wr.grownBy w' (Value.slice ao l.length cp).ownBlock) :
    RL w (w'.setCell ⟨w.heap.size + 1 + 1 + 1, 1, none⟩ (.slice ao' l'.length cp')) v l' ao' cp' := by
  have hlt := h.own.lt
  have ne : ∀ k, k < w.heap.size + 4 → some k ≠ (Value.slice ao l.length cp).ownBlock := fun k hk e1 => by have := (hlt k e1.symm).1; omega
  have hc : ∀ (a : Addr) (x : Value), a.block < w.heap.size + 4 → wr.cell? a = some x → a ≠ ⟨w.heap.size + 1 + 1 + 1, 1, none⟩ → (w'.setCell ⟨w.heap.size + 1 + 1 + 1, 1, none⟩ (.slice ao' l'.length cp')).cell? a = some x := fun a x h1 h2 h3 => by
    rw [World.cell?_setCell_other _ _ _ _ (fun h => h3 h.symm)]; exact g.cell h2 (ne _ h1)
  have hf : ∀ (a : Addr), a.block < w.heap.size + 4 → a.block < wr.heap.size → (w'.setCell ⟨w.heap.size + 1 + 1 + 1, 1, none⟩ (.slice ao' l'.length cp')).frozen? a = wr.frozen? a := fun a h1 h2 => by
    rw [World.frozen?_setCell]; exact World.frozen?_of_block (g.block _ h2 (ne _ h1))
  obtain ⟨p0, p1, q0, q1, n0, n1, d0, d1, pf0, pf1, qf0, qf1, df0, df1, qw⟩ := h.rv
  refine ⟨⟨hc _ _ (by simp <;> omega) p0 (by simp <;> omega), hc _ _ (by simp <;> omega) p1 (by simp <;> omega), hc _ _ (by simp <;> omega) q0 (by simp <;> omega), hc _ _ (by simp <;> omega) q1 (by simp <;> omega), hc _ _ (by simp <;> omega) n0 (by simp <;> omega), hc _ _ (by simp <;> omega) n1 (by simp <;> omega), hc _ _ (by simp) d0 (by simp), World.cell?_setCell_same _ _ _ (g.cell d1 (ne _ (by simp))), (hf _ (by simp <;> omega) (cell_lt p0)).trans pf0, (hf _ (by simp <;> omega) (cell_lt p1)).trans pf1, (hf _ (by simp <;> omega) (cell_lt q0)).trans qf0, (hf _ (by simp <;> omega) (cell_lt q1)).trans qf1, (hf _ (by simp) (cell_lt d0)).trans df0, (hf _ (by simp) (cell_lt d1)).trans df1, ?_⟩, ownsRow_setCell_below ho (by simp) _⟩
  exact (qw.grown g qw.size (fun k hk => by have := (hlt k hk).1; omega)).setCell (by simp <;> omega) _

set_option maxRecDepth 10000 in
set_option maxHeartbeats 4000000 in
theorem rdec_main {w : World} {s : ByteArray} {n : Nat} (hz : (s.size : Int) ≤ 9223372036854775000) (hv : verB (numAt s 0 8) = true) (h9 : 9 ≤ s.size) (hc0 : 1 ≤ bt s 8) (hc : bt s 8 ≤ 8) (hn : (n : Int) = bt s 8) :
    Calls Tryd.prog 23 #[.string s] w fun ev w' => ((∃ k a, chgs s n 9 [] = .error (k, a) ∧ 1 ≤ k ∧ ev = .returned (.tuple #[.agg #[.int .u64 0, .slice none 0 0], .agg #[.int .i64 k, .int .i64 a]])) ∨ (∃ l e, chgs s n 9 [] = .ok (l, e) ∧ ((e < s.size ∧ ev = .returned (.tuple #[.agg #[.int .u64 0, .slice none 0 0], .agg #[.int .i64 2, .int .i64 (e : Int)]])) ∨ (s.size ≤ e ∧ ∃ ao cp, ev = .returned (.tuple #[.agg #[.int .u64 (numAt s 0 8), .slice ao l.length cp], .agg #[.int .i64 0, .int .i64 0]]) ∧ w'.ownsRow w.heap.size 47 4 (.slice ao l.length cp) l.length (opsC l))))) ∧ Below w.heap.size w w' := by
  obtain ⟨ii, hi, hz0, hz1, hz2⟩ := info_parts Tryd.info47
  go_enter Tryd.func23, Tryd.ntmps23
  go_wp2_with fail
  have hr0 := rv_start w
  go_loopw [6] (fun i wr => ∃ j : Nat, j ≤ 8 ∧ i = .int .i64 j ∧ RV w wr (numAt s 0 j) none 0 0) (fun i _ => 8 - (intOf i).toNat)
  case atStart => exact ⟨0, Nat.zero_le _, rfl, hr0⟩
  case round =>
    obtain ⟨j, hj, rfl, hr⟩ := hrel
    by_cases hlt : j < 8
    · have hbt := bt_lo s j
      have hnb := numAt_bd7 s 0 j hlt
      obtain ⟨hw1, hw2⟩ := w256 (numAt s 0 j) (bt s j) hnb.1 hnb.2 hbt.1 hbt.2
      have i0 : j < s.size := by omega
      have j0 : (j : Int) < (s.size : Int) := by omega
      have t0 : ((s[j]'i0).toNat : Int) = bt s j := bt_eq i0
      have d0 := hr.d0
      have df0 := hr.df0
      go_wp2_with fail
      go_region
      go_wp2
      go_roundw
      case rel =>
        refine ⟨j + 1, by omega, by go_num, ?_⟩
        have e : numAt s 0 (j + 1) = 256 * numAt s 0 j + bt s j := by rw [numAt, Nat.zero_add]; omega
        rw [e]
        exact (hr.setv).keep (below_drawn _ 1)
      case measure => simp [intOf]; omega
    · obtain rfl : j = 8 := by omega
      have hcop := hr
      obtain ⟨p0, p1, q0, q1, n0, n1, d0, d1, pf0, pf1, qf0, qf1, df0, df1, qw⟩ := hcop
      have hb8 := numAt_bd8 s 0
      have HB8 : Hid (0 ≤ numAt s 0 8 ∧ numAt s 0 8 ≤ 18446744073709551615) := hb8
      clear hb8
      go_wp2_with fail
      refine (rIsVersion _ _ HB8.out.1 HB8.out.2).mono ?_
      rintro ev w1 ⟨rfl, rfl⟩
      rw [hv]
      have i8 : 8 < s.size := by omega
      have j8 : (8 : Int) < (s.size : Int) := by omega
      have t8 : ((s[8]'i8).toNat : Int) = bt s 8 := bt_eq i8
      have u8 := bt_lo s 8
      go_wp2_with fail
      rw [← hn]
      have hn8 : n ≤ 8 := by omega
      clear hn t8 u8 hc0 hc p0 p1 q0 q1 n0 n1 d0 d1 pf0 pf1 qf0 qf1 df0 df1 qw hr0
      have hl0 : RL w w1 (numAt s 0 8) [] none 0 := ⟨hr, World.ownsRow_nil _ _ _ _⟩
      clear hr
      go_loopw [9, 10] (fun at' i wr => ∃ (j : Nat) (l : List OpD) (e : Nat) (ao : Option Addr) (cp : Nat), j ≤ n ∧ i = .int .i64 j ∧ at' = .int .i64 e ∧ e ≤ s.size ∧ l.length = j ∧ chgs s n 9 [] = chgs s (n - j) e l ∧ RL w wr (numAt s 0 8) l ao cp)
        (fun _ i _ => n - (intOf i).toNat)
      case atStart => exact ⟨0, [], 9, none, 0, Nat.zero_le _, rfl, rfl, h9, rfl, rfl, hl0⟩
      case round =>
        obtain ⟨j, l, e, ao, cp, hj, rfl, rfl, he, hlj, hch, hd⟩ := hrel
        have HCH : Hid (chgs s n 9 [] = chgs s (n - j) e l) := hch
        have HLJ : Hid (l.length = j) := hlj
        have HHE : Hid (e ≤ s.size) := he
        clear hch he
        have hl8 : l.length ≤ 8 := by omega
        clear hlj
        have d1 := hd.rv.d1
        by_cases hlt : j < n
        · go_wp2_with fail
          refine (rChange hz HHE.out hd.ops hl8).mono ?_
          rintro ev w3 ⟨⟨k, a, hce, hk1, o, rfl⟩ | ⟨o, e', hce, he', rfl⟩, q3⟩
          · have HE : Hid (chgs s n 9 [] = .error (k, a)) := by
              show _ = _
              rw [HCH.out, show n - j = (n - j - 1) + 1 by omega, chgs, hce]
            have hk0 : ¬ k = 0 := by omega
            have HK1 : Hid (1 ≤ k) := hk1
            have hd5 := ((hd.keep q3).keep (below_alloc _ (.cells #[.int .i64 o.kind, .int .i64 o.table, .string o.key, .string o.val] 47))).keep (below_alloc _ (.cells #[.int .i64 k, .int .i64 a] 30))
            obtain ⟨p0, p1, q0, q1, n0, n1, d0, d1', pf0, pf1, qf0, qf1, df0, df1, qw⟩ := hd5.rv
            have hsz : w.heap.size + 1 + 1 + 1 < w3.heap.size := cell_lt (hd.keep q3).rv.d1
            clear hce hk1 d1 d0 d1' df0 df1 hd hd5 q3
            go_wp2_with fail
            go_region
            go_wp2
            exact bodyPost_ret (v := .tuple #[.agg #[.int .u64 0, .slice none 0 0], .agg #[.int .i64 k, .int .i64 a]]) (by simp [results, Tryd.results23, go_sem, p0, p1, q0, q1]) rfl ⟨.inl ⟨k, a, HE.out, HK1.out, rfl⟩, (by repeat' (first | refine Below.setCell ?_ (by simp <;> omega) _ | refine Below.drew ?_ | exact qw))⟩
          · have HE : Hid (chgs s n 9 [] = chgs s (n - (j + 1)) e' (l ++ [o])) := by
              show _ = _
              rw [HCH.out, show n - j = (n - (j + 1)) + 1 by omega, chgs, hce]
            have hd5 := ((hd.keep q3).keep (below_alloc _ (.cells #[.int .i64 o.kind, .int .i64 o.table, .string o.key, .string o.val] 47))).keep (below_alloc _ (.cells #[.int .i64 0, .int .i64 0] 30))
            have hd6 := hd5.keep (below_alloc _ (.cells #[.int .i64 o.kind, .int .i64 o.table, .string o.key, .string o.val] 47))
            have e5 := hd5.rv.d1
            have e6 := hd6.rv.d1
            have f6 := hd6.rv.df1
            have hsz : w.heap.size + 1 + 1 + 1 < w3.heap.size := cell_lt (hd.keep q3).rv.d1
            have HE' : Hid (e' ≤ s.size) := he'
            clear hce d1 he' hd q3 hd5
            go_wp2_with (at_builtin; go_must (refine wpList_append_own _ rfl _ _ 23 rfl (w.heap.size + 4) 47 ii (.agg #[.int .i64 0, .int .i64 0, .string ⟨#[]⟩, .string ⟨#[]⟩]) 4 48 Tryd.underlying23 hi hz0 hz1 hz2 rfl (by decide) (.slice ao l.length cp) l.length (opsC l) rfl hd6.own ⟨w3.heap.size + 1 + 1, 0, none⟩ 1 1 (opC o) rfl rfl (op_new _ _ (by simp) o) (opC_one o) (by unfold maxLen; omega) (by omega) (by simp; omega) ?_); intro v6 w6 hown6 hgrow6 _; obtain ⟨ao6, cp6, rfl⟩ := own_slice hown6; have c61 := hgrow6.cell e6 (fun e1 => absurd (hd6.own.lt _ e1.symm).1 (by simp)); have f61 : w6.frozen? ⟨w.heap.size + 1 + 1 + 1, 1, none⟩ = false := (World.frozen?_of_block (hgrow6.block _ (cell_lt e6) (fun e1 => absurd (hd6.own.lt _ e1.symm).1 (by simp)))).trans f6)
            go_roundw
            case rel =>
              have hp := hd6.push (l' := l ++ [o]) (ao' := ao6) (cp' := cp6) (by rw [opsC_snoc, List.length_append]; exact hown6) hgrow6
              rw [List.length_append] at hp
              exact ⟨j + 1, l ++ [o], e', ao6, cp6, by omega, by go_num, rfl, HE'.out, by have := HLJ.out; simp; omega, HE.out, hp⟩
            case measure => simp [intOf]; omega
        · obtain rfl : j = n := by omega
          have HE : Hid (chgs s j 9 [] = .ok (l, e)) := by
            show _ = _
            rw [HCH.out, Nat.sub_self, chgs]
          obtain ⟨p0, p1, q0, q1, n0, n1, d0, d1', pf0, pf1, qf0, qf1, df0, df1, qw⟩ := hd.rv
          have hown := hd.own
          by_cases hes : e < s.size
          · have hes' : (e : Int) < (s.size : Int) := by omega
            go_wp2
            exact bodyPost_ret (v := .tuple #[.agg #[.int .u64 0, .slice none 0 0], .agg #[.int .i64 2, .int .i64 (e : Int)]]) (by simp [results, Tryd.results23, go_sem, p0, p1, q0, q1]) rfl ⟨.inr ⟨l, e, HE.out, .inl ⟨hes, rfl⟩⟩, (by repeat' (first | refine Below.setCell ?_ (by simp <;> omega) _ | exact qw))⟩
          · have hes' : ¬ (e : Int) < (s.size : Int) := by omega
            go_wp2
            refine bodyPost_ret (v := .tuple #[.agg #[.int .u64 (numAt s 0 8), .slice ao l.length cp], .agg #[.int .i64 0, .int .i64 0]]) (by simp [results, Tryd.results23, go_sem, p0, p1, q0, q1]) rfl ⟨.inr ⟨l, e, HE.out, .inr ⟨Nat.le_of_not_lt hes, ao, cp, rfl, ?_⟩⟩, (by repeat' (first | refine Below.setCell ?_ (by simp <;> omega) _ | exact qw))⟩
            refine own_mono ?_ (Nat.le_add_right w.heap.size 4)
            repeat' (first | refine ownsRow_setCell_below ?_ (by simp <;> omega) _ | exact hown)

/-- What the document's Decode answers. -/
def RDecIs (w0 w : World) (s : ByteArray) (ev : Ending) : Prop :=
  (∃ k a, dec s = .error (k, a) ∧ 1 ≤ k ∧ ev = .returned (.tuple #[.agg #[.int .u64 0, .slice none 0 0], .agg #[.int .i64 k, .int .i64 a]])) ∨
  (∃ v l ao cp, dec s = .ok (v, l) ∧ ev = .returned (.tuple #[.agg #[.int .u64 v, .slice ao l.length cp], .agg #[.int .i64 0, .int .i64 0]]) ∧ w.ownsRow w0.heap.size 47 4 (.slice ao l.length cp) l.length (opsC l))
theorem rDecode (s : ByteArray) (w : World) (hz : (s.size : Int) ≤ 9223372036854775000) :
    Calls Tryd.prog 23 #[.string s] w fun ev w' => RDecIs w w' s ev ∧ Below w.heap.size w w' := by
  by_cases c1 : s.size < 8
  · refine (rdec_short c1).mono ?_
    rintro ev w' ⟨h1, h2⟩
    exact ⟨.inl ⟨1, 0, by rw [dec, dl, if_pos c1], by decide, h1⟩, h2⟩
  cases c2 : verB (numAt s 0 8)
  · refine (rdec_ver (by omega) c2).mono ?_
    rintro ev w' ⟨h1, h2⟩
    exact ⟨.inl ⟨4, 0, by rw [dec, dl, if_neg c1, if_pos c2], by decide, h1⟩, h2⟩
  have n2 : ¬ verB (numAt s 0 8) = false := by rw [c2]; simp
  by_cases c3 : s.size < 9
  · refine (rdec_8 (by omega) c2 c3).mono ?_
    rintro ev w' ⟨h1, h2⟩
    exact ⟨.inl ⟨1, 8, by rw [dec, dl, if_neg c1, if_neg n2, if_pos c3], by decide, h1⟩, h2⟩
  cases c4 : cntB (bt s 8)
  · have main : Calls Tryd.prog 23 #[.string s] w fun ev w' => ev = .returned (.tuple #[.agg #[.int .u64 0, .slice none 0 0], .agg #[.int .i64 5, .int .i64 8]]) ∧ Below w.heap.size w w' := by
      by_cases d1 : bt s 8 < 1
      · exact rdec_cnt0 (by omega) c2 (by omega) d1
      · exact rdec_cnt9 (by omega) c2 (by omega) (by omega) (by simp [cntB] at c4; omega)
    refine main.mono ?_
    rintro ev w' ⟨h1, h2⟩
    exact ⟨.inl ⟨5, 8, by rw [dec, dl, if_neg c1, if_neg n2, if_neg c3, if_pos c4], by decide, h1⟩, h2⟩
  have n4 : ¬ cntB (bt s 8) = false := by rw [c4]; simp
  have hb : 1 ≤ bt s 8 ∧ bt s 8 ≤ 8 := by simpa [cntB] using c4
  refine (rdec_main (n := (bt s 8).toNat) hz c2 (by omega) hb.1 hb.2 (by omega)).mono ?_
  rintro ev w' ⟨⟨k, a, h1, h2, h3⟩ | ⟨l, e, h1, ⟨h2, h3⟩ | ⟨h2, ao, cp, h3, h4⟩⟩, q⟩
  · exact ⟨.inl ⟨k, a, by rw [dec, dl, if_neg c1, if_neg n2, if_neg c3, if_neg n4, h1], h2, h3⟩, q⟩
  · exact ⟨.inl ⟨2, e, by rw [dec, dl, if_neg c1, if_neg n2, if_neg c3, if_neg n4, h1]; exact if_pos h2, by decide, h3⟩, q⟩
  · exact ⟨.inr ⟨numAt s 0 8, l, ao, cp, by rw [dec, dl, if_neg c1, if_neg n2, if_neg c3, if_neg n4, h1]; exact if_neg (by omega), h3, h4⟩, q⟩
end Go.Proofs.YtindifjhocgkbaaDoor
