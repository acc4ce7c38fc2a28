import Derived.Test.YtindifjhocgkbaaDoorDltB
import Derived.Test.YtindifjhocgkbaaDoorCnt
namespace Go.Proofs.YtindifjhocgkbaaDoor
open Go.RowKit

theorem DL.ops {w wr : World} {s : ByteArray} {R B cap : Nat} {v : Int} {l : List OpD} {e : Nat} {ao : Option Addr} {cp : Nat} (h : DL w wr s R B cap v l e ao cp) : OpsIn wr ao l ∧ (∀ a, ao = some a → a.block ≠ R) := by
  obtain ⟨ao', cp', e1, _, _, h4, _⟩ := ops_of_own h.own
  simp only [Value.slice.injEq] at e1
  obtain ⟨rfl, _, rfl⟩ := e1
  refine ⟨h4, fun a ha hR => ?_⟩
  have h1 := h.hR
  have := (h.own.lt a.block (by rw [ha]; rfl)).1
  omega

set_option maxRecDepth 10000 in
set_option maxHeartbeats 2000000 in
theorem delta_cnt {w : World} {s : ByteArray} {R B cap b : Nat} (h : Rdr w s R B cap b 0) (h8 : 8 ≤ s.size) (hv : verB (numAt s 0 8) = true) (hs : s.size < 9 ∨ (9 ≤ s.size ∧ cntB (bt s 8) = false)) :
    Calls Tryd.prog 62 #[.pointer (some ⟨R, 0, none⟩)] w fun ev w' => ∃ fb, w.heap.size ≤ fb ∧ ev = .returned (.tuple #[.agg #[.int .u64 0, .slice none 0 0], .iface 100 (.pointer (some ⟨fb, 0, none⟩))]) ∧ ErrIs w' (.iface 100 (.pointer (some ⟨fb, 0, none⟩))) (if s.size < 9 then 1 else 5) 8 ∧ w.grownBy w' (some R) := by
  have hRw : R < w.heap.size := cell_lt h.rd.c0
  have qa := below_trans (below_alloc w (.cells #[.int .u64 0, .slice none 0 0] 25)) (below_alloc _ (.cells #[.int .u64 0, .slice none 0 0] 25))
  have ha := h.keep qa
  have hcall : ∀ w1, Rdr w1 s R B cap 0 8 → Calls Tryd.prog 77 #[.pointer (some ⟨R, 0, none⟩)] w1 fun ev w' => ∃ fb, w1.heap.size ≤ fb ∧ ev = .returned (.tuple #[.int .i64 0, .iface 100 (.pointer (some ⟨fb, 0, none⟩))]) ∧ ErrIs w' (.iface 100 (.pointer (some ⟨fb, 0, none⟩))) (if s.size < 9 then 1 else 5) 8 ∧ w1.grownBy w' (some R) := by
    intro w1 r1
    rcases hs with h1 | ⟨h1, h2⟩
    · rw [if_pos h1]; exact cnt_short r1 (by omega)
    · rw [if_neg (by omega)]; exact cnt_bad r1 (by omega) h2
  generalize (if s.size < 9 then (1 : Int) else 5) = kk at hcall ⊢
  go_enter Tryd.func62, Tryd.ntmps62
  go_wp2_with fail
  refine (ver_ok ha (by omega) hv).mono ?_
  rintro ev w1 ⟨rfl, r1, g1⟩
  go_wp2_with fail
  refine (hcall w1 r1).mono ?_
  clear hcall
  rintro ev w2 ⟨fb, hfb, rfl, hx, g2⟩
  have g12 := grown_trans g1 g2
  have hfb' : w.heap.size + 1 < fb := by have := g1.size; simp at this; omega
  have n0 : some w.heap.size ≠ some R := by simp; omega
  have n1 : some (w.heap.size + 1) ≠ some R := by simp; omega
  have r0 : w2.cell? ⟨w.heap.size, 0, none⟩ = some (.int .u64 0) := g12.cell (by simp) n0
  have r1 : w2.cell? ⟨w.heap.size, 1, none⟩ = some (.slice none 0 0) := g12.cell (by simp) n0
  have d0 : w2.cell? ⟨w.heap.size + 1, 0, none⟩ = some (.int .u64 0) := g12.cell (by simp) n1
  have d1 : w2.cell? ⟨w.heap.size + 1, 1, none⟩ = some (.slice none 0 0) := g12.cell (by simp) n1
  have f0 : w2.frozen? ⟨w.heap.size, 0, none⟩ = false := (World.frozen?_of_block (g12.block _ (by simp <;> omega) n0)).trans (by simp)
  have f1 : w2.frozen? ⟨w.heap.size, 1, none⟩ = false := (World.frozen?_of_block (g12.block _ (by simp <;> omega) n0)).trans (by simp)
  go_wp2
  exact bodyPost_ret (v := .tuple #[.agg #[.int .u64 0, .slice none 0 0], .iface 100 (.pointer (some ⟨fb, 0, none⟩))]) (by simp [results, Tryd.results62, go_sem, r0, r1]) rfl ⟨fb, by omega, rfl, (hx.set (by simp <;> omega)).set (by simp <;> omega), grown_new' (grown_new' (grown_start (grown_start g12)) (by simp)) (by simp)⟩

set_option maxRecDepth 10000 in
set_option maxHeartbeats 4000000 in
theorem delta_main {w : World} {s : ByteArray} {R B cap b n : Nat} (h : Rdr w s R B cap b 0) (g : Glob w) (h2 : 2 < R) (h9 : 9 ≤ s.size) (hv : verB (numAt s 0 8) = true) (hc : cntB (bt s 8) = true) (hn : (n : Int) = bt s 8) :
    Calls Tryd.prog 62 #[.pointer (some ⟨R, 0, none⟩)] w fun ev w' =>
      (∃ k a, chgs s n 9 [] = .error (k, a) ∧ ∃ (fb : Nat) (x : Value), w.heap.size ≤ fb ∧ isDelta x ∧ ev = .returned (.tuple #[x, .iface 100 (.pointer (some ⟨fb, 0, none⟩))]) ∧ ErrIs w' (.iface 100 (.pointer (some ⟨fb, 0, none⟩))) k a ∧ w.grownBy w' (some R)) ∨
      (∃ (l : List OpD) (e : Nat) (ao : Option Addr) (cp : Nat), chgs s n 9 [] = .ok (l, e) ∧ ev = .returned (.tuple #[.agg #[.int .u64 (numAt s 0 8), .slice ao l.length cp], .nilIface]) ∧ w'.ownsRow (w.heap.size + 2) 47 4 (.slice ao l.length cp) l.length (opsC l) ∧ (∃ b', Rdr w' s R B cap b' e) ∧ w.grownBy w' (some R)) := by
  have hRw : R < w.heap.size := cell_lt h.rd.c0
  have hBw : B < w.heap.size := cell_lt (h.bs 0 (by omega))
  have hn8 : n ≤ 8 := by simp [cntB] at hc; omega
  obtain ⟨i0, hi, hz0, hz1, hz2⟩ := info_parts Tryd.info47
  have qa := below_trans (below_alloc w (.cells #[.int .u64 0, .slice none 0 0] 25)) (below_alloc _ (.cells #[.int .u64 0, .slice none 0 0] 25))
  have ha := h.keep qa
  have ga := g.keep qa
  go_enter Tryd.func62, Tryd.ntmps62
  go_wp2_with fail
  refine (ver_ok ha (by omega) hv).mono ?_
  rintro ev w1 ⟨rfl, r1, g1⟩
  go_wp2_with fail
  refine (cnt_ok r1 (by omega) hc).mono ?_
  rintro ev w2 ⟨rfl, rr2, g2⟩
  have g12 := grown_trans g1 g2
  have n0 : some w.heap.size ≠ some R := by simp; omega
  have n1 : some (w.heap.size + 1) ≠ some R := by simp; omega
  have rc0 : w2.cell? ⟨w.heap.size, 0, none⟩ = some (.int .u64 0) := g12.cell (by simp) n0
  have rc1 : w2.cell? ⟨w.heap.size, 1, none⟩ = some (.slice none 0 0) := g12.cell (by simp) n0
  have d0 : w2.cell? ⟨w.heap.size + 1, 0, none⟩ = some (.int .u64 0) := g12.cell (by simp) n1
  have d1 : w2.cell? ⟨w.heap.size + 1, 1, none⟩ = some (.slice none 0 0) := g12.cell (by simp) n1
  have f0 : w2.frozen? ⟨w.heap.size, 0, none⟩ = false := (World.frozen?_of_block (g12.block _ (by simp <;> omega) n0)).trans (by simp)
  have f1 : w2.frozen? ⟨w.heap.size, 1, none⟩ = false := (World.frozen?_of_block (g12.block _ (by simp <;> omega) n0)).trans (by simp)
  have df0 : w2.frozen? ⟨w.heap.size + 1, 0, none⟩ = false := (World.frozen?_of_block (g12.block _ (by simp <;> omega) n1)).trans (by simp)
  have df1 : w2.frozen? ⟨w.heap.size + 1, 1, none⟩ = false := (World.frozen?_of_block (g12.block _ (by simp <;> omega) n1)).trans (by simp)
  have hDL : DL w (w2.setCell ⟨w.heap.size + 1, 0, none⟩ (.int .u64 (numAt s 0 8))) s R B cap (numAt s 0 8) [] 9 none 0 := by
    have gl2 := (ga.grown h2 g12)
    have hc' : ∀ (a : Addr) (x : Value), w2.cell? a = some x → a ≠ ⟨w.heap.size + 1, 0, none⟩ → (w2.setCell ⟨w.heap.size + 1, 0, none⟩ (.int .u64 (numAt s 0 8))).cell? a = some x := fun a x h1 h3 => by
      rw [World.cell?_setCell_other _ _ _ _ (fun h => h3 h.symm)]; exact h1
    refine ⟨World.ownsRow_nil _ _ _ _, ⟨_, rr2.set (by simp <;> omega) (by simp <;> omega)⟩, World.cell?_setCell_same _ _ _ d0, hc' _ _ d1 (by simp), by simpa using df1, hc' _ _ rc0 (by simp), hc' _ _ rc1 (by simp), by simpa using f0, by simpa using f1, ⟨hc' _ _ gl2.k0 (by simp <;> omega), hc' _ _ gl2.k1 (by simp), hc' _ _ gl2.k2 (by simp), hc' _ _ gl2.v0 (by simp <;> omega), hc' _ _ gl2.v1 (by simp), hc' _ _ gl2.v2 (by simp)⟩, ?_, hRw, hBw, h2⟩
    exact grown_new' (grown_start (grown_start g12)) (by simp)
  have bb := bt_lo s 8
  go_wp2_with fail
  clear rc0 rc1 d0 d1 f0 f1 df0 df1 g12 g1 g2 rr2 r1 ha ga qa
  rw [← hn]
  have HN : Hid ((n : Int) = bt s 8) := hn
  clear hn bb hc
  have HG : Hid (chgs s n 9 [] = chgs s (n - 0) 9 []) := rfl
  go_loopw [31] (fun i wr => ∃ (j : Nat) (l : List OpD) (e : Nat) (ao : Option Addr) (cp : Nat), j ≤ n ∧ i = .int .i64 j ∧ l.length = j ∧ chgs s n 9 [] = chgs s (n - j) e l ∧ DL w wr s R B cap (numAt s 0 8) l e ao cp)
    (fun i _ => n - (intOf i).toNat)
  case atStart => exact ⟨0, [], 9, none, 0, Nat.zero_le _, rfl, rfl, rfl, hDL⟩
  case round =>
    obtain ⟨j, l, e, ao, cp, hj, rfl, hlj, hch, hd⟩ := hrel
    have HCH : Hid (chgs s n 9 [] = chgs s (n - j) e l) := hch
    have HLJ : Hid (l.length = j) := hlj
    have hl8 : l.length ≤ 8 := by omega
    have hij : l.length ≤ j := by omega
    clear hch hlj hDL HG
    have d0 := hd.d0
    have d1 := hd.d1
    by_cases hlt : j < n
    · obtain ⟨b1, rb⟩ := hd.rd
      go_wp2_with fail
      refine (rdChange rb hd.gl h2 hd.ops.1 hd.ops.2 hl8).mono ?_
      rintro ev w3 (⟨k, a, hce, fb, o, hfb, rfl, hx, g3⟩ | ⟨o, e', hce, rfl, hr3, g3⟩)
      · have HE : Hid (chgs s n 9 [] = .error (k, a)) := by
          show _ = _
          rw [HCH.out, show n - j = (n - j - 1) + 1 by omega, chgs, hce]
        have hR := hd.hR
        have m1 : some (w.heap.size + 1) ≠ some R := by simp; omega
        have m0 : some w.heap.size ≠ some R := by simp; omega
        have x0 := g3.cell hd.d0 m1
        have x1 := g3.cell hd.d1 m1
        have y0 := g3.cell hd.r0 m0
        have y1 := g3.cell hd.r1 m0
        have z0 := (World.frozen?_of_block (g3.block _ (cell_lt hd.r0) m0)).trans hd.rf0
        have z1 := (World.frozen?_of_block (g3.block _ (cell_lt hd.r1) m0)).trans hd.rf1
        have x0' : ∀ q, (w3.alloc q).cell? ⟨w.heap.size + 1, 0, none⟩ = some (.int .u64 (numAt s 0 8)) := fun q => (World.cell?_alloc_lt _ _ _ (cell_lt x0)).trans x0
        have x1' : ∀ q, (w3.alloc q).cell? ⟨w.heap.size + 1, 1, none⟩ = some (.slice ao l.length cp) := fun q => (World.cell?_alloc_lt _ _ _ (cell_lt x1)).trans x1
        have y0' : ∀ q, (w3.alloc q).cell? ⟨w.heap.size, 0, none⟩ = some (.int .u64 0) := fun q => (World.cell?_alloc_lt _ _ _ (cell_lt y0)).trans y0
        have y1' : ∀ q, (w3.alloc q).cell? ⟨w.heap.size, 1, none⟩ = some (.slice none 0 0) := fun q => (World.cell?_alloc_lt _ _ _ (cell_lt y1)).trans y1
        have z0' : ∀ q, (w3.alloc q).frozen? ⟨w.heap.size, 0, none⟩ = false := fun q => (World.frozen?_alloc_old _ _ _ (Nat.ne_of_lt (cell_lt y0))).trans z0
        have z1' : ∀ q, (w3.alloc q).frozen? ⟨w.heap.size, 1, none⟩ = false := fun q => (World.frozen?_alloc_old _ _ _ (Nat.ne_of_lt (cell_lt y1))).trans z1
        have hfb' : w.heap.size + 1 < fb := by have := cell_lt hd.d1; simp at this; omega
        have hx' := hx.keep (below_alloc w3 (.cells #[.int .i64 o.kind, .int .i64 o.table, .string o.key, .string o.val] 47))
        have hgr := grown_alloc (grown_trans hd.gr g3) (.cells #[.int .i64 o.kind, .int .i64 o.table, .string o.key, .string o.val] 47)
        clear hce hx x0 x1 y0 y1 z0 z1 d0 d1
        go_wp2
        exact bodyPost_ret (v := .tuple #[.agg #[.int .u64 (numAt s 0 8), .slice ao l.length cp], .iface 100 (.pointer (some ⟨fb, 0, none⟩))]) (by simp [results, Tryd.results62, go_sem, y0', y1']) rfl (.inl ⟨k, a, HE.out, fb, _, by omega, ⟨_, _, _, _, rfl⟩, rfl, (hx'.set (by simp <;> omega)).set (by simp <;> omega), grown_new' (grown_new' hgr (by simp)) (by simp)⟩)
      · have HE : Hid (chgs s n 9 [] = chgs s (n - (j + 1)) e' (l ++ [o])) := by
          show _ = _
          rw [HCH.out, show n - j = (n - (j + 1)) + 1 by omega, chgs, hce]
        have hd3 := hd.grown hr3 g3
        have hd4 := hd3.keep (below_alloc w3 (.cells #[.int .i64 o.kind, .int .i64 o.table, .string o.key, .string o.val] 47))
        have hd5 := hd4.keep (below_alloc _ (.cells #[.int .i64 o.kind, .int .i64 o.table, .string o.key, .string o.val] 47))
        have e1 := hd4.d1
        have f1 := hd5.df
        have e51 := hd5.d1
        clear hce d0 d1
        have hsz : w.heap.size + 1 < w3.heap.size := cell_lt hd3.d1
        go_wp2_with (at_builtin; go_must (refine wpList_append_own _ rfl _ _ 23 rfl (w.heap.size + 2) 47 i0 (.agg #[.int .i64 0, .int .i64 0, .string ⟨#[]⟩, .string ⟨#[]⟩]) 4 48 Tryd.underlying23 hi hz0 hz1 hz2 rfl (by decide) (.slice ao l.length cp) l.length (opsC l) rfl hd5.own ⟨w3.heap.size + 1, 0, none⟩ 1 1 (opC o) rfl rfl (op_new _ _ (by simp) o) (opC_one o) (by unfold maxLen; omega) (by omega) (by simp; omega) ?_); intro v6 w6 hown6 hgrow6 _; obtain ⟨ao6, cp6, rfl⟩ := own_slice hown6; have c61 := hgrow6.cell e51 (fun e1 => absurd (hd5.own.lt _ e1.symm).1 (by simp)); have f61 : w6.frozen? ⟨w.heap.size + 1, 1, none⟩ = false := (World.frozen?_of_block (hgrow6.block _ (cell_lt e51) (fun e1 => absurd (hd5.own.lt _ e1.symm).1 (by simp)))).trans f1)
        go_roundw
        case rel =>
          have hp := hd5.push (l' := l ++ [o]) (ao' := ao6) (cp' := cp6) (by rw [opsC_snoc, List.length_append]; exact hown6) hgrow6
          rw [List.length_append] at hp
          exact ⟨j + 1, l ++ [o], e', ao6, cp6, by omega, by go_num, by have := HLJ.out; simp; omega, HE.out, hp⟩
        case measure => simp [intOf]; omega
    · obtain rfl : j = n := by omega
      have HE : Hid (chgs s j 9 [] = .ok (l, e)) := by
        show _ = _
        rw [HCH.out, Nat.sub_self, chgs]
      have r0 := hd.r0
      have r1 := hd.r1
      have f0 := hd.rf0
      have f1 := hd.rf1
      obtain ⟨b1, rb⟩ := hd.rd
      have hgr := hd.gr
      have hown := hd.own
      go_wp2
      refine bodyPost_ret (v := .tuple #[.agg #[.int .u64 (numAt s 0 8), .slice ao l.length cp], .nilIface]) (by simp [results, Tryd.results62, go_sem, r0, r1]) rfl (.inr ⟨l, e, ao, cp, HE.out, rfl, ?_, ⟨b1, ?_⟩, ?_⟩)
      · exact ownsRow_setCell_below (ownsRow_setCell_below hown (by simp) _) (by simp) _
      · exact (rb.set (by simp <;> omega) (by simp <;> omega)).set (by simp <;> omega) (by simp <;> omega)
      · exact grown_new' (grown_new' hgr (by simp)) (by simp)
end Go.Proofs.YtindifjhocgkbaaDoor
