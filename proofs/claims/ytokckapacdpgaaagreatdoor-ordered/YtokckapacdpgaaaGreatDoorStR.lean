import Derived.Test.YtokckapacdpgaaaGreatDoorEnR
import Derived.Test.YtokckapacdpgaaaGreatDoorItD
namespace Go.Proofs.YtokckapacdpgaaaGreatDoor
open Go.RowKit

/-- What the loop of state knows. -/
structure SL (w wr : World) (s : ByteArray) (R B cap : Nat) (l : List En) (e : Nat) (v : Value) : Prop where
  own : wr.ownsRow w.heap.size 183 3 v l.length (cellsE l)
  rd : ∃ b', Rdr wr s R B cap b' e
  gl : Glob wr
  gr : w.grownBy wr (some R)
  hR : R < w.heap.size
  hB : B < w.heap.size
  h2 : 2 < R
theorem SL.keep {w wr w' : World} {s : ByteArray} {R B cap : Nat} {l : List En} {e : Nat} {v : Value} (h : SL w wr s R B cap l e v) (q : Below wr.heap.size wr w') : SL w w' s R B cap l e v := by
  obtain ⟨b', hb⟩ := h.rd
  exact ⟨h.own.kept (grown_of_below (r := none) q) (by cases v.ownBlock <;> simp), ⟨b', hb.keep q⟩, h.gl.keep q, grown_trans h.gr (grown_of_below q), h.hR, h.hB, h.h2⟩
theorem SL.grown {w wr w' : World} {s : ByteArray} {R B cap : Nat} {l : List En} {e e' : Nat} {v : Value} (h : SL w wr s R B cap l e v) (hr : ∃ b', Rdr w' s R B cap b' e') (g : wr.grownBy w' (some R)) : SL w w' s R B cap l e' v := by
  have hR := h.hR
  exact ⟨h.own.kept g (.inr (fun e1 => by have := (h.own.lt R e1).1; omega)), hr, h.gl.grown h.h2 g, grown_trans h.gr g, h.hR, h.hB, h.h2⟩
theorem SL.push {w wr w' : World} {s : ByteArray} {R B cap : Nat} {l l' : List En} {e : Nat} {v v' : Value} (h : SL w wr s R B cap l e v) (ho : w'.ownsRow w.heap.size 183 3 v' l'.length (cellsE l')) (g : wr.grownBy w' v.ownBlock) : SL w w' s R B cap l' e v' := by
  have hR := h.hR
  have hB := h.hB
  have h2 := h.h2
  have hlt := h.own.lt
  have ne : ∀ k, k < w.heap.size → some k ≠ v.ownBlock := fun k hk e1 => by have := (hlt k e1.symm).1; omega
  have hf : ∀ (a : Addr), a.block < w.heap.size → a.block < wr.heap.size → w'.frozen? a = wr.frozen? a := fun a h1 h2 => World.frozen?_of_block (g.block _ h2 (ne _ h1))
  obtain ⟨b', rb⟩ := h.rd
  refine ⟨ho, ⟨b', ⟨⟨g.cell rb.rd.c0 (ne _ hR), g.cell rb.rd.c1 (ne _ hR), g.cell rb.rd.c2 (ne _ hR), (hf _ hR (cell_lt rb.rd.c1)).trans rb.rd.f1, (hf _ hR (cell_lt rb.rd.c2)).trans rb.rd.f2⟩, fun i hi => g.cell (rb.bs i hi) (ne _ hB), rb.ne, rb.le, rb.cp, rb.mx⟩⟩, ?_, ?_, hR, hB, h2⟩
  · have n0 := ne 0 (by omega)
    have n1 := ne 1 (by omega)
    have n2 := ne 2 (by omega)
    exact ⟨g.cell h.gl.k0 (ne _ (by simp; omega)), g.cell h.gl.k1 (ne _ (by simp; omega)), g.cell h.gl.k2 (ne _ (by simp; omega)), g.cell h.gl.v0 (ne _ (by simp; omega)), g.cell h.gl.v1 (ne _ (by simp; omega)), g.cell h.gl.v2 (ne _ (by simp; omega))⟩
  · exact ⟨g.os.trans h.gr.os, g.tape.trans h.gr.tape, g.output.trans h.gr.output, Nat.le_trans h.gr.size g.size, fun k hk hne => (g.block k (Nat.lt_of_lt_of_le hk h.gr.size) (ne _ hk)).trans (h.gr.block k hk hne)⟩
theorem SL.ens {w wr : World} {s : ByteArray} {R B cap : Nat} {l : List En} {e : Nat} {v : Value} (h : SL w wr s R B cap l e v) : EnsIn wr v l ∧ (∀ b off n c, v = .slice (some ⟨b, off, none⟩) n c → b ≠ R) := by
  refine ⟨EnsIn.of_owns h.own, fun b off n c hv e1 => ?_⟩
  have hR := h.hR
  have := (h.own.lt b (by rw [hv]; rfl)).1
  omega

set_option maxRecDepth 10000 in
set_option maxHeartbeats 1000000 in
theorem st_ver {w : World} {s : ByteArray} {R B cap b : Nat} (h : Rdr w s R B cap b 0) (hs : s.size < 8 ∨ (8 ≤ s.size ∧ verB (numAt s 0 8) = false)) :
    Calls Tryz.prog 108 #[.pointer (some ⟨R, 0, none⟩)] w fun ev w' => ∃ fb, w.heap.size ≤ fb ∧ ev = .returned (.tuple #[.int .u64 0, .slice none 0 0, .iface 133 (.pointer (some ⟨fb, 0, none⟩))]) ∧ ErrIs w' (.iface 133 (.pointer (some ⟨fb, 0, none⟩))) (if s.size < 8 then 1 else 4) 0 ∧ w.grownBy w' (some R) := by
  have hcall : Calls Tryz.prog 126 #[.pointer (some ⟨R, 0, none⟩)] w fun ev w' => ∃ fb, w.heap.size ≤ fb ∧ ev = .returned (.tuple #[.int .u64 0, .iface 133 (.pointer (some ⟨fb, 0, none⟩))]) ∧ ErrIs w' (.iface 133 (.pointer (some ⟨fb, 0, none⟩))) (if s.size < 8 then 1 else 4) 0 ∧ w.grownBy w' (some R) := by
    rcases hs with h1 | ⟨h1, h2⟩
    · rw [if_pos h1]; exact ver_short h (by omega)
    · rw [if_neg (by omega)]; exact ver_bad h (by omega) h2
  generalize (if s.size < 8 then (1 : Int) else 4) = kk at hcall ⊢
  go_enter Tryz.func108, Tryz.ntmps108
  go_wp2_with fail
  refine hcall.mono ?_
  clear hcall
  rintro ev w1 ⟨fb, hfb, rfl, hx, g1⟩
  go_wp2
  go_ret3
  exact ⟨fb, hfb, rfl, hx, g1⟩
set_option maxRecDepth 10000 in
set_option maxHeartbeats 1000000 in
theorem st_cnt {w : World} {s : ByteArray} {R B cap b : Nat} (h : Rdr w s R B cap b 0) (h8 : 8 ≤ s.size) (hv : verB (numAt s 0 8) = true) (hs : s.size < 10) :
    Calls Tryz.prog 108 #[.pointer (some ⟨R, 0, none⟩)] w fun ev w' => ∃ fb, w.heap.size ≤ fb ∧ ev = .returned (.tuple #[.int .u64 0, .slice none 0 0, .iface 133 (.pointer (some ⟨fb, 0, none⟩))]) ∧ ErrIs w' (.iface 133 (.pointer (some ⟨fb, 0, none⟩))) 1 8 ∧ w.grownBy w' (some R) := by
  go_enter Tryz.func108, Tryz.ntmps108
  go_wp2_with fail
  refine (ver_ok h (by omega) hv).mono ?_
  rintro ev w1 ⟨rfl, r1, g1⟩
  go_wp2_with fail
  refine (pc_no 2 r1 (by omega) (by omega)).mono ?_
  rintro ev w2 ⟨fb, hfb, rfl, hx, g2⟩
  go_wp2
  go_ret3
  exact ⟨fb, Nat.le_trans g1.size hfb, rfl, hx, grown_trans g1 g2⟩

theorem ent_new (W : World) (B : Nat) (hB : B = W.heap.size) (x : En) : ∀ j u, (e3 x)[j]? = some u → (W.alloc (.cells #[.int .i64 x.t, .string x.k, .string x.v] 183)).cell? ((⟨B, 0, none⟩ : Addr).add j) = some u := by
  subst hB
  intro j u hj
  rw [Addr.add_lit, Nat.zero_add, World.cell?_alloc_at _ _ _ j rfl]
  simpa [e3] using hj
set_option maxRecDepth 10000 in
set_option maxHeartbeats 4000000 in
theorem st_main {w : World} {s : ByteArray} {R B cap b n : Nat} (h : Rdr w s R B cap b 0) (g : Glob w) (h2 : 2 < R) (h10 : 10 ≤ s.size) (hv : verB (numAt s 0 8) = true) (hn : (n : Int) = numAt s 8 2) :
    Calls Tryz.prog 108 #[.pointer (some ⟨R, 0, none⟩)] w fun ev w' =>
      (∃ k a, ents s n 10 [] = .error (k, a) ∧ ∃ (fb : Nat), w.heap.size ≤ fb ∧ ev = .returned (.tuple #[.int .u64 0, .slice none 0 0, .iface 133 (.pointer (some ⟨fb, 0, none⟩))]) ∧ ErrIs w' (.iface 133 (.pointer (some ⟨fb, 0, none⟩))) k a ∧ w.grownBy w' (some R)) ∨
      (∃ (l : List En) (e : Nat) (v : Value), ents s n 10 [] = .ok (l, e) ∧ ev = .returned (.tuple #[.int .u64 (numAt s 0 8), v, .nilIface]) ∧ w'.ownsRow w.heap.size 183 3 v l.length (cellsE l) ∧ (∃ b', Rdr w' s R B cap b' e) ∧ w.grownBy w' (some R)) := by
  have hRw : R < w.heap.size := cell_lt h.rd.c0
  have hBw : B < w.heap.size := cell_lt (h.bs 0 (by omega))
  have b8 := bt_lo s 8
  have b9 := bt_lo s 9
  have hn8 : n ≤ 65535 := by rw [numAt2] at hn; omega
  obtain ⟨i0, hi, hz0, hz1, hz2⟩ := info_parts Tryz.infoEn
  go_enter Tryz.func108, Tryz.ntmps108
  go_wp2_with fail
  refine (ver_ok h (by omega) hv).mono ?_
  rintro ev w1 ⟨rfl, r1, g1⟩
  go_wp2_with fail
  refine (pc_ok 2 r1 (by omega) (by omega)).mono ?_
  rintro ev w2 ⟨rfl, rr2, g2⟩
  have g12 := grown_trans g1 g2
  go_wp2_with fail
  refine (wNumber s B 8 2 _ _ rr2.bs (by omega) (by omega)).mono ?_
  rintro ev w3 ⟨rfl, rfl⟩
  have hSL : SL w w3 s R B cap [] 10 (.slice none 0 0) := ⟨World.ownsRow_nil _ _ _ _, ⟨_, rr2⟩, g.grown h2 g12, g12, hRw, hBw, h2⟩
  have hwk := g12
  clear g1 g2 rr2 r1 g12 b8 b9
  rw [← hn]
  have HN : Hid ((n : Int) = numAt s 8 2) := hn
  clear hn
  go_wp2_with fail
  go_loopw [8, 29] (fun y i wr => ∃ (j : Nat) (l : List En) (e : Nat), j ≤ n ∧ i = .int .u64 j ∧ l.length = j ∧ ents s n 10 [] = ents s (n - j) e l ∧ SL w wr s R B cap l e y)
    (fun _ i _ => n - (intOf i).toNat)
  case atStart => exact ⟨0, [], 10, Nat.zero_le _, rfl, rfl, rfl, hSL⟩
  case round =>
    obtain ⟨j, l, e, hj, rfl, hlj, hch, hd⟩ := hrel
    have HCH : Hid (ents s n 10 [] = ents s (n - j) e l) := hch
    have HLJ : Hid (l.length = j) := hlj
    have hl8 : l.length ≤ 65535 := by omega
    clear hch hlj hSL
    by_cases hlt : j < n
    · obtain ⟨b1, rb⟩ := hd.rd
      obtain ⟨ao, cp, rfl⟩ := hd.ens.1.slice
      go_wp2_with fail
      refine (rdEntry rb hd.gl h2 hd.ens.1 hd.ens.2 (by omega)).mono ?_
      rintro ev w4 (⟨k, a, hce, fb, x, hfb, rfl, hx, g4⟩ | ⟨x, e', hce, rfl, hr4, g4⟩)
      · have HE : Hid (ents s n 10 [] = .error (k, a)) := by
          show _ = _
          rw [HCH.out, show n - j = (n - j - 1) + 1 by omega, ents, hce]
        have hx' := hx.keep (below_alloc w4 (.cells #[.int .i64 x.t, .string x.k, .string x.v] 183))
        have hgr := grown_alloc (grown_trans hd.gr g4) (.cells #[.int .i64 x.t, .string x.k, .string x.v] 183)
        have hsz := hd.gr.size
        clear hce hx
        go_wp2
        go_ret3
        exact .inl ⟨k, a, HE.out, fb, by omega, rfl, hx', hgr⟩
      · have HE : Hid (ents s n 10 [] = ents s (n - (j + 1)) e' (l ++ [x])) := by
          show _ = _
          rw [HCH.out, show n - j = (n - (j + 1)) + 1 by omega, ents, hce]
        have hd4 := (hd.grown hr4 g4).keep (below_alloc w4 (.cells #[.int .i64 x.t, .string x.k, .string x.v] 183))
        have hd5 := hd4.keep (below_alloc _ (.cells #[.int .i64 x.t, .string x.k, .string x.v] 183))
        have hsz := hd5.gr.size
        clear hce
        go_wp2_with (at_builtin; go_must (refine wpList_append_own _ rfl _ _ 112 rfl w.heap.size 183 i0 zE 3 40 Tryz.underlying112 hi hz0 hz1 hz2 rfl (by decide) (.slice ao l.length cp) l.length (cellsE l) rfl hd5.own ⟨w4.heap.size + 1, 0, none⟩ 1 1 (e3 x) rfl rfl (ent_new _ _ (by simp) x) (e3_one x) (by unfold maxLen; omega) (by omega) hsz ?_); intro v6 w6 hown6 hgrow6 _)
        go_roundw
        case rel =>
          have hp := hd5.push (l' := l ++ [x]) (by rw [cells_snoc, List.length_append]; exact hown6) hgrow6
          exact ⟨j + 1, l ++ [x], e', by omega, by go_num, by have := HLJ.out; simp; omega, HE.out, hp⟩
        case measure => simp [intOf]; omega
    · obtain rfl : j = n := by omega
      have HE : Hid (ents s j 10 [] = .ok (l, e)) := by
        show _ = _
        rw [HCH.out, Nat.sub_self, ents]
      have hrd := hd.rd
      have hgr := hd.gr
      have hown := hd.own
      go_wp2
      go_ret3
      exact .inr ⟨l, e, _, HE.out, rfl, hown, hrd, hgr⟩

theorem rdState {w : World} {s : ByteArray} {R B cap b : Nat} (h : Rdr w s R B cap b 0) (g : Glob w) (h2 : 2 < R) :
    Calls Tryz.prog 108 #[.pointer (some ⟨R, 0, none⟩)] w fun ev w' =>
      (∃ k a, stl s = .error (k, a) ∧ ∃ (fb : Nat), w.heap.size ≤ fb ∧ ev = .returned (.tuple #[.int .u64 0, .slice none 0 0, .iface 133 (.pointer (some ⟨fb, 0, none⟩))]) ∧ ErrIs w' (.iface 133 (.pointer (some ⟨fb, 0, none⟩))) k a ∧ w.grownBy w' (some R)) ∨
      (∃ (v : Int) (l : List En) (e : Nat) (x : Value), stl s = .ok (v, l, e) ∧ ev = .returned (.tuple #[.int .u64 v, x, .nilIface]) ∧ w'.ownsRow w.heap.size 183 3 x l.length (cellsE l) ∧ (∃ b', Rdr w' s R B cap b' e) ∧ w.grownBy w' (some R)) := by
  by_cases c1 : s.size < 8
  · refine (st_ver h (.inl c1)).mono ?_
    rintro ev w' ⟨fb, h1, h2, h3, h4⟩
    rw [if_pos c1] at h3
    exact .inl ⟨1, 0, by rw [stl, if_pos c1], fb, h1, h2, h3, h4⟩
  cases c2 : verB (numAt s 0 8)
  · refine (st_ver h (.inr ⟨by omega, c2⟩)).mono ?_
    rintro ev w' ⟨fb, h1, h2, h3, h4⟩
    rw [if_neg c1] at h3
    exact .inl ⟨4, 0, by rw [stl, if_neg c1, if_pos c2], fb, h1, h2, h3, h4⟩
  have n2 : ¬ verB (numAt s 0 8) = false := by rw [c2]; simp
  by_cases c3 : s.size < 10
  · refine (st_cnt h (by omega) c2 c3).mono ?_
    rintro ev w' ⟨fb, h1, h2, h3, h4⟩
    exact .inl ⟨1, 8, by rw [stl, if_neg c1, if_neg n2, if_pos c3], fb, h1, h2, h3, h4⟩
  have b8 := bt_lo s 8
  have b9 := bt_lo s 9
  have hnn := numAt2 s
  refine (st_main (n := (numAt s 8 2).toNat) h g h2 (by omega) c2 (by omega)).mono ?_
  rintro ev w' (⟨k, a, hc, fb, h1, h3, h4, h5⟩ | ⟨l, e, x, hc, h3, h4, h5, h6⟩)
  · exact .inl ⟨k, a, by rw [stl, if_neg c1, if_neg n2, if_neg c3, hc], fb, h1, h3, h4, h5⟩
  · exact .inr ⟨_, l, e, x, by rw [stl, if_neg c1, if_neg n2, if_neg c3, hc], h3, h4, h5, h6⟩
end Go.Proofs.YtokckapacdpgaaaGreatDoor
