import Derived.Test.YtindifjhocgkbaaGreatDoorRmPToRmQ
import Derived.Laws.CopyRow
namespace Go.Proofs.YtindifjhocgkbaaGreatDoor
open Go.RowKit Go.ChangeMaps Go.MapKept Go.WideShapes Go.WideMaps
theorem TxIn.take {w : World} {ao : Option Addr} {cap : Nat} {ss : List ByteArray} (h : TxIn w (.slice ao ss.length cap) ss) {k : Nat} (hk : k ≤ ss.length) : TxIn w (.slice ao k cap) (ss.take k) := by
  have hl : (ss.take k).length = k := by rw [List.length_take]; omega
  rcases h with ⟨e, he⟩ | ⟨b, off, cap', e, hb, hc⟩
  · subst he
    simp only [List.length_nil, Value.slice.injEq] at e hk
    obtain ⟨rfl, _, rfl⟩ := e
    obtain rfl : k = 0 := by omega
    exact .inl ⟨rfl, rfl⟩
  · simp only [Value.slice.injEq] at e
    obtain ⟨rfl, _, rfl⟩ := e
    exact .inr ⟨b, off, cap, by rw [hl], hb, fun i hi => by rw [List.getElem_take]; exact hc i (by rw [hl] at hi; omega)⟩
theorem own_cap {w : World} {base e size n : Nat} {v : Value} {xs : List Value} (h : w.ownsRow base e size v n xs) : ∃ ao cp, v = .slice ao n cp ∧ n ≤ cp ∧ cp ≤ maxLen := by
  rcases h with ⟨hl, ⟨rfl, hn⟩ | ⟨g, cap, cur, rfl, hb, hc, hnc, hcm, _⟩⟩
  · exact ⟨none, 0, by rw [hn], by omega, Nat.zero_le _⟩
  · exact ⟨_, cap, rfl, hnc, hcm⟩
theorem set_self {w : World} {g i : Nat} {cs : Array Value} {t : TypeId} {v : Value} (hg : w.heap[g]? = some (.cells cs t (0, 0))) (hv : cs.setIfInBounds i v = cs) : w.setCell ⟨g, i, none⟩ v = w := by
  rw [setCell_eq_setRow w g i cs t (0, 0) v hg, hv, setRow_self w g cs t (0, 0) hg]
/-- What is wanted, and what is to be done, where there may be no room. -/
def wanL (r : Nat → Int) (h w : List En) : List En := if overL w r = -1 then w else h
def donL (r : Nat → Int) (h w : List En) : List ByteArray := if overL w r = -1 then doneL h w else []
theorem res_first {r : Nat → Int} {h w : List En} (hs : Srt h) (hw : Srt w) (h1 : h.length ≤ 1000) (h2 : w.length ≤ 1000) : resL r h w 100000 false = wanL r h w ∧ resG r h w 100000 false = donL r h w := by
  unfold resL resG wanL donL res1 log1
  have hd := doneL_len h w
  by_cases ho : overL w r = -1
  · simp only [Bool.false_eq_true, if_false, if_pos ho]
    exact ⟨afterL_all hs hw (by omega), List.take_of_length_le (by omega)⟩
  · simp [if_neg ho]
theorem res_stop {r : Nat → Int} {h w : List En} {k : Nat} (hk : k ≤ (donL r h w).length) : resL r h w k false = afterL h (wanL r h w) k ∧ resG r h w k false = (donL r h w).take k := by
  unfold donL at hk
  unfold resL resG wanL donL res1 log1
  by_cases ho : overL w r = -1
  · simp only [Bool.false_eq_true, if_false, if_pos ho]
    exact ⟨trivial, trivial⟩
  · rw [if_neg ho] at hk
    obtain rfl : k = 0 := by simpa using hk
    simp [if_neg ho, afterL_zero]
theorem res_again {r : Nat → Int} {h w : List En} (k : Nat) : resL r h w k true = wanL r h w ∧ resG r h w k true = donL r h w := ⟨rfl, rfl⟩
theorem overL_ge (l : List En) (r : Nat → Int) : overL l r = -1 ∨ 0 ≤ overL l r := by
  unfold overL
  split
  · right; omega
  · split
    · right; omega
    · split
      · right; omega
      · left; rfl
/-- What the walk knows behind the document's own answer. -/
structure RcI (w W : World) (G : Nat) (k a : Int) (vh vw vd : Value) (h wn : List En) (dn : List ByteArray) : Prop where
  g0 : W.heap[G]? = some (.cells #[.int .i64 k, .int .i64 a] 39 (0, 0))
  hh : EnsIn W vh h
  hw : EnsIn W vw wn
  hd : TxIn W vd dn
  cp : ∃ ao cp, vd = .slice ao dn.length cp ∧ dn.length ≤ cp ∧ cp ≤ maxLen
  q : Below w.heap.size w W
theorem RcI.keep {w W W' : World} {G : Nat} {k a : Int} {vh vw vd : Value} {h wn : List En} {dn : List ByteArray} (i : RcI w W G k a vh vw vd h wn dn) (q : Below W.heap.size W W') : RcI w W' G k a vh vw vd h wn dn :=
  ⟨(q.block G (Array.getElem?_eq_some_iff.1 i.g0).1).trans i.g0, i.hh.keep q, i.hw.keep q, i.hd.keep q, i.cp, i.q.trans (q.mono i.q.size)⟩
theorem RcI.cells {w W : World} {G : Nat} {k a : Int} {vh vw vd : Value} {h wn : List En} {dn : List ByteArray} (i : RcI w W G k a vh vw vd h wn dn) : W.cell? ⟨G, 0, none⟩ = some (.int .i64 k) ∧ W.cell? ⟨G, 1, none⟩ = some (.int .i64 a) := by
  have := i.g0
  exact ⟨by simp [World.cell?, this], by simp [World.cell?, this]⟩
set_option maxRecDepth 100000 in
set_option maxHeartbeats 4000000 in
theorem lReconciles (ra : Option Addr) (n rc : Nat) (x : Nat → Int) (old : List En) (xo : Option Addr) (xc : Nat) (vw : Value) (want : List En) (stop : Int) (w : World)
    (hr : 0 < n → ∃ b off, ra = some ⟨b, off, none⟩ ∧ b < w.heap.size ∧ ∀ i, i < n → w.cell? ⟨b, off + i, none⟩ = some (.int .i64 (x i))) (hn : (n : Int) ≤ 9223372036854775807)
    (hold : EnsLo w (.slice xo old.length xc) old) (hon : old.length ≤ 3518437208780) (hos : ∀ e ∈ old, Siz e) (hw : EnsLo w vw want) (hcw : ∀ a n c, vw = .slice a n c → n ≤ c ∧ (c : Int) ≤ 9223372036854775807) (g : Glob w) (he : EtIs w)
    (hst : -9223372036854775808 ≤ stop ∧ stop ≤ 9223372036854775807) :
    Calls Tryz.prog 6 #[.slice ra n rc, .slice xo old.length xc, vw, .int .i64 stop] w fun e w' => e = .returned (.bool true) ∧ Below w.heap.size w w' := by
  have HR := (show Hid _ from hr)
  have HOS := (show Hid _ from hos)
  have HCW := (show Hid _ from hcw)
  have HST := (show Hid _ from hst)
  clear hr hos hcw hst
  have HHR : Hid (∀ W', Below w.heap.size w W' → (0 < n → ∃ b off, ra = some ⟨b, off, none⟩ ∧ b < W'.heap.size ∧ ∀ i, i < n → W'.cell? ⟨b, off + i, none⟩ = some (.int .i64 (x i)))) := fun W' q h0 => by
    obtain ⟨b, off, e1, e2, e3⟩ := HR.out h0
    exact ⟨b, off, e1, Nat.lt_of_lt_of_le e2 q.size, fun i hi => (q.cell (p := ⟨b, off + i, none⟩) e2).trans (e3 i hi)⟩
  obtain ⟨wo, wc, rfl⟩ := hw.slice
  go_enter Tryz.func6, Tryz.ntmps6
  go_wp2_with fail
  refine (lRooms ra n rc x w HR.out hn).mono ?_
  rintro e w1 ⟨B, rfl, hR⟩
  obtain ⟨r, hrr⟩ : ∃ r, (fun t => if t < n then clampR (x t) else 40) = r := ⟨_, rfl⟩
  have HRR : Hid ((fun t => if t < n then clampR (x t) else 40) = r) := hrr
  rw [hrr] at hR
  have hr4 : ∀ t : Nat, 0 ≤ r t ∧ r t ≤ 40 := fun t => by
    rw [← hrr]
    dsimp only
    split
    · unfold clampR; split <;> (try split) <;> omega
    · omega
  clear hrr
  have HR4 := (show Hid _ from hr4)
  clear hr4
  have q1 := hR.q
  have hRc := hR.c
  have hBl := cell_lt (hRc 0 (by omega))
  go_wp2_with fail
  refine (lProperL _ want _ (hw.keep q1)).mono ?_
  rintro e w2 ⟨y1, rfl, hy1, q2⟩
  obtain ⟨E, hEe⟩ : ∃ E, want.take 300 = E := ⟨_, rfl⟩
  have hL3 : (want.take 300).length ≤ 300 := by simp; omega
  rw [hEe] at hy1 hL3
  have HE : Hid (want.take 300 = E) := hEe
  clear hEe
  have hLl := layL_length E
  have HWS : Hid (Srt (layL E)) := layL_srt E
  have HWZ := (show Hid _ from lay_siz E)
  obtain ⟨WL, hWL⟩ : ∃ WL, layL E = WL := ⟨_, rfl⟩
  have HWL : Hid (layL E = WL) := hWL
  rw [hWL] at hy1 hLl HWS HWZ
  clear hWL
  have Q2 := q1.trans (q2.mono q1.size)
  have hRc2 : ∀ t, t < 3 → w2.cell? ⟨B, t, none⟩ = some (.int .i64 (r t)) := fun t ht => (q2.cell (p := ⟨B, t, none⟩) hBl).trans (hRc t ht)
  obtain ⟨y1o, y1c, rfl⟩ := hy1.slice
  clear hRc hR q1 q2
  go_wp2_with fail
  refine (lThere old xo xc B r w2 (hold.keep Q2) (by omega) hRc2 (fun t _ => HR4.out t)).mono ?_
  rintro e w3 ⟨y2, rfl, hy2, q3⟩
  have HH : Hid (HdI r (old.foldl (thereS r) [])) := there_hd old [] (HdI.nil (fun t _ => (HR4.out t).1))
  have HHZ := (show Hid _ from there_siz (r := r) old [] (by simp) HOS.out)
  obtain ⟨h, hh⟩ : ∃ h, old.foldl (thereS r) [] = h := ⟨_, rfl⟩
  have HHE : Hid (old.foldl (thereS r) [] = h) := hh
  rw [hh] at hy2 HH HHZ
  clear hh
  have hhl := HH.out.len (fun t _ => (HR4.out t).2)
  have Q3 := Q2.trans (q3.mono Q2.size)
  have hy1' := hy1.keep q3
  have hRc3 : ∀ t, t < 3 → w3.cell? ⟨B, t, none⟩ = some (.int .i64 (r t)) := fun t ht => (q3.cell (p := ⟨B, t, none⟩) (cell_lt (hRc2 t ht))).trans (hRc2 t ht)
  obtain ⟨y2o, y2c, rfl⟩ := hy2.slice
  clear hRc2 hy1 q3 Q2
  go_wp2_with fail
  refine (rDone _ _ h WL w3 hy2 hy1' (by omega) (by omega) (fun e he => (HHZ.out e he).2.1) (fun e he => (HWZ.out e he).2)).mono ?_
  rintro e w4 ⟨y3, rfl, hy3, q4⟩
  have Q4 := Q3.trans (q4.mono Q3.size)
  have hy1 := hy1'.keep q4
  have hy2' := hy2.keep q4
  have hRc4 : ∀ t, t < 3 → w4.cell? ⟨B, t, none⟩ = some (.int .i64 (r t)) := fun t ht => (q4.cell (p := ⟨B, t, none⟩) (cell_lt (hRc3 t ht))).trans (hRc3 t ht)
  obtain ⟨y3o, y3c, e3, hc3, hm3⟩ := own_cap hy3
  subst e3
  clear hRc3 hy1' hy2 q4 Q3
  go_wp2_with fail
  have qa := below_alloc w4 (.cells #[.int .i64 0, .int .i64 0] 39)
  have bG : (w4.alloc (.cells #[.int .i64 0, .int .i64 0] 39)).heap[w4.heap.size]? = some (.cells #[.int .i64 0, .int .i64 0] 39 (0, 0)) := (MapKept.heap_alloc w4 _).1
  have Q5 := Q4.trans (qa.mono Q4.size)
  have hy1a := hy1.keep qa
  have hy2a := hy2'.keep qa
  have hy3a := owns_below hy3 qa
  have hRc5 : ∀ t, t < 3 → (w4.alloc (.cells #[.int .i64 0, .int .i64 0] 39)).cell? ⟨B, t, none⟩ = some (.int .i64 (r t)) := fun t ht => (qa.cell (p := ⟨B, t, none⟩) (cell_lt (hRc4 t ht))).trans (hRc4 t ht)
  have hGw : w.heap.size ≤ w4.heap.size := Q4.size
  have HKH : Hid (∀ W', Below w4.heap.size w4 W' → EnsIn W' (.slice y2o h.length y2c) h) := fun W' q => hy2'.keep q
  have QG := qa
  have hGs := qa.size
  clear hRc4 hy1 hy2' hy3 Q4 qa
  generalize w4.alloc (.cells #[.int .i64 0, .int .i64 0] 39) = W5 at *
  generalize w4.heap.size = G at *
  refine (rOver _ WL B 3 r W5 hy1a (by omega) hRc5).mono ?_
  rintro e w6 ⟨rfl, q6⟩
  have bG6 := (q6.block G (Array.getElem?_eq_some_iff.1 bG).1).trans bG
  have Q6 := Q5.trans (q6.mono Q5.size)
  have hy1 := hy1a.keep q6
  have hy2 := hy2a.keep q6
  have hy3 := owns_below hy3a q6
  have QG6 := QG.trans (q6.mono hGs)
  clear hRc5 hy1a hy2a hy3a Q5 q6 bG QG
  have hdl := doneL_len h WL
  obtain ⟨o, hoo⟩ : ∃ o, overL WL r = o := ⟨_, rfl⟩
  have HOO : Hid (overL WL r = o) := hoo
  have hog := overL_ge WL r
  rw [hoo] at hog ⊢
  clear hoo
  obtain ⟨WN, hWN⟩ : ∃ WN, wanL r h WL = WN := ⟨_, rfl⟩
  obtain ⟨DN, hDN⟩ : ∃ DN, donL r h WL = DN := ⟨_, rfl⟩
  have HWN : Hid (wanL r h WL = WN) := hWN
  have HDN : Hid (donL r h WL = DN) := hDN
  clear hWN hDN
  have hwn : WN.length ≤ 300 := by
    rw [← HWN.out]; unfold wanL; split
    · omega
    · omega
  have hdn : DN.length ≤ 420 := by
    rw [← HDN.out]; unfold donL; split
    · omega
    · simp
  go_upto_if 37 with fail
  go_cut [10, 12] from 22 to 40 (fun vw' vd wc => RcI w wc G (fK o) (fA o) (.slice y2o h.length y2c) vw' vd h WN DN)
  case first =>
    rcases hog with ho | ho
    · have e1 : WL = WN := by rw [← HWN.out]; unfold wanL; rw [HOO.out, if_pos ho]
      have e2 : doneL h WL = DN := by rw [← HDN.out]; unfold donL; rw [HOO.out, if_pos ho]
      subst ho
      go_wp2_with fail
      go_meet
      exact ⟨bG6, hy2, e1 ▸ hy1, e2 ▸ TxIn.of_owns hy3, e2 ▸ ⟨_, _, rfl, hc3, hm3⟩, Q6⟩
    · have hne : ¬ o = -1 := by omega
      have e1 : h = WN := by rw [← HWN.out]; unfold wanL; rw [HOO.out, if_neg hne]
      have e2 : [] = DN := by rw [← HDN.out]; unfold donL; rw [HOO.out, if_neg hne]
      have e3 : fK o = 10 := if_neg hne
      have e4 : fA o = o := if_neg hne
      have y0 : w6.cell? ⟨G, 0, none⟩ = some (.int .i64 0) := by simp [World.cell?, bG6]
      have y1 : w6.cell? ⟨G, 1, none⟩ = some (.int .i64 0) := by simp [World.cell?, bG6]
      have z0 := frozen_of_row w6 G 0 _ _ bG6
      have z1 := frozen_of_row w6 G 1 _ _ bG6
      have x1 := heap_setCell_same w6 G 0 _ _ (.int .i64 10) bG6
      have x2 := heap_setCell_same _ G 1 _ _ (.int .i64 o) x1
      have Q7 := (Q6.setCell (p := ⟨G, 0, none⟩) hGw (.int .i64 10)).setCell (p := ⟨G, 1, none⟩) hGw (.int .i64 o)
      go_wp2_with fail
      go_meet
      rw [e3, e4]
      have hh7 := HKH.out _ ((QG6.setCell (p := ⟨G, 0, none⟩) (Nat.le_refl _) (.int .i64 10)).setCell (p := ⟨G, 1, none⟩) (Nat.le_refl _) (.int .i64 o))
      exact ⟨by simpa using x2, hh7, e1 ▸ hh7, .inl ⟨rfl, e2.symm⟩, ⟨none, 0, by rw [← e2]; rfl, by rw [← e2]; exact Nat.le_refl _, Nat.zero_le _⟩, Q7⟩
  case rest =>
    have I := hcut
    clear hcut bG6 Q6 hy1 hy2 hy3 hc3 hm3 hog HKH QG6
    obtain ⟨KK, hKK⟩ : ∃ KK, fK o = KK := ⟨_, rfl⟩
    obtain ⟨AA, hAA⟩ : ∃ AA, fA o = AA := ⟨_, rfl⟩
    have HKK : Hid (fK (overL WL r) = KK) := by show _ = _; rw [HOO.out]; exact hKK
    have HAA : Hid (fA (overL WL r) = AA) := by show _ = _; rw [HOO.out]; exact hAA
    rw [hKK, hAA] at I
    clear hKK hAA
    obtain ⟨vdo, vdc, rfl, hdc, hdm⟩ := I.cp
    obtain ⟨vwo, vwc, rfl⟩ := I.hw.slice
    have HRES := (show Hid _ from res_first (r := r) HH.out.s HWS.out (by omega) (by omega))
    rw [HWN.out, HDN.out] at HRES
    go_wp2_with fail
    refine (lLimitedL _ want _ (hw.keep I.q) HCW.out).mono ?_
    rintro e wc ⟨yl, rfl, hyl, rfl⟩
    rw [HE.out] at hyl
    obtain ⟨ylo, ylc, rfl⟩ := hyl.slice
    go_wp2_with fail
    refine (pReconciled ra n rc x old xo xc _ E (-1) false true 100000 wc (HHR.out wc I.q) hn (hold.keep I.q) hon HOS.out hyl hL3 (g.keep I.q) (he.keep I.q) (.inl ⟨rfl, rfl, rfl⟩) (by omega)).mono ?_
    rw [HRR.out, HHE.out, HWL.out, HKK.out, HAA.out, HRES.out.1, HRES.out.2]
    rintro e w8 ⟨vl, vg, rfl, hl8, hg8, q8⟩
    have I8 := I.keep q8
    clear I hyl
    obtain ⟨vlo, vlc, rfl⟩ := hl8.slice
    obtain ⟨vgo, vgc, rfl⟩ := hg8.slice
    go_wp2_with fail
    have qa := below_alloc w8 (.cells #[.int .i64 KK, .int .i64 AA, .int .i64 0] 29)
    have bX : (w8.alloc (.cells #[.int .i64 KK, .int .i64 AA, .int .i64 0] 29)).heap[w8.heap.size]? = some (.cells #[.int .i64 KK, .int .i64 AA, .int .i64 0] 29 (0, 0)) := (MapKept.heap_alloc w8 _).1
    have I9 := I8.keep qa
    have hl9 := hl8.keep qa
    have hg9 := hg8.keep qa
    have hXw : w.heap.size ≤ w8.heap.size := I8.q.size
    clear I8 hl8 hg8 q8 qa
    generalize w8.alloc (.cells #[.int .i64 KK, .int .i64 AA, .int .i64 0] 29) = W9 at *
    generalize w8.heap.size = FX at *
    refine (lSameE _ _ WN (by omega) W9 hl9 I9.hw).mono ?_
    rintro e w10 ⟨rfl, q10⟩
    have I10 := I9.keep q10
    have hg10 := hg9.keep q10
    have bX10 := (q10.block FX (Array.getElem?_eq_some_iff.1 bX).1).trans bX
    clear I9 hl9 hg9 bX q10
    go_wp2_with fail
    refine (lSameT _ _ DN w10 hg10 I10.hd (by omega)).mono ?_
    rintro e w11 ⟨rfl, q11⟩
    have I11 := I10.keep q11
    have bX11 := (q11.block FX (Array.getElem?_eq_some_iff.1 bX10).1).trans bX10
    clear I10 hg10 bX10 q11
    obtain ⟨g0, g1⟩ := I11.cells
    have y0 : w11.cell? ⟨FX, 0, none⟩ = some (.int .i64 KK) := by simp [World.cell?, bX11]
    have y1 : w11.cell? ⟨FX, 1, none⟩ = some (.int .i64 AA) := by simp [World.cell?, bX11]
    have y2 : w11.cell? ⟨FX, 2, none⟩ = some (.int .i64 0) := by simp [World.cell?, bX11]
    go_wp2_with fail
    refine (lSame' KK AA w11).mono ?_
    rintro e w12 ⟨rfl, q12⟩
    have I12 := I11.keep q12
    have bX12 := (q12.block FX (Array.getElem?_eq_some_iff.1 bX11).1).trans bX11
    clear I11 bX11 q12 g0 g1 y0 y1 y2
    have hpk := lPick' stop (DN.length + 1) w12 HST.out (by omega) (by omega)
    rw [Int.natCast_add] at hpk
    go_wp2_with fail
    refine hpk.mono ?_
    rintro e w12 ⟨k, hk, rfl, rfl⟩
    clear hpk
    have HRS := (show Hid _ from res_stop (r := r) (h := h) (w := WL) (k := k) (by rw [HDN.out]; omega))
    rw [HWN.out, HDN.out] at HRS
    go_wp2_with fail
    refine (lLimitedL _ want _ (hw.keep I12.q) HCW.out).mono ?_
    rintro e w12 ⟨yl, rfl, hyl, rfl⟩
    rw [HE.out] at hyl
    obtain ⟨ylo2, ylc2, rfl⟩ := hyl.slice
    go_wp2_with fail
    refine (pReconciled ra n rc x old xo xc _ E (k : Int) false false k w12 (HHR.out w12 I12.q) hn (hold.keep I12.q) hon HOS.out hyl hL3 (g.keep I12.q) (he.keep I12.q) (.inr ⟨rfl, rfl⟩) (by omega)).mono ?_
    rw [HRR.out, HHE.out, HWL.out, HKK.out, HAA.out, HRS.out.1, HRS.out.2]
    rintro e w13 ⟨vl2, vg2, rfl, hl13, hg13, q13⟩
    have I13 := I12.keep q13
    have bX13 := (q13.block FX (Array.getElem?_eq_some_iff.1 bX12).1).trans bX12
    clear I12 hyl q13 bX12
    obtain ⟨vlo2, vlc2, rfl⟩ := hl13.slice
    obtain ⟨vgo2, vgc2, rfl⟩ := hg13.slice
    have hal := after_len (w := WN) HH.out.s k
    go_wp2_with fail
    refine (rAfter _ _ h WN k w13 I13.hh I13.hw HH.out.s (by omega) (by omega) (by omega)).mono ?_
    rintro e w14 ⟨va, rfl, ha14, q14⟩
    have I14 := I13.keep q14
    have hl14 := hl13.keep q14
    have hg14 := hg13.keep q14
    have bX14 := (q14.block FX (Array.getElem?_eq_some_iff.1 bX13).1).trans bX13
    clear I13 hl13 hg13 bX13 q14
    obtain ⟨vao, vac, rfl⟩ := ha14.slice
    go_wp2_with fail
    refine (lSameE _ _ (afterL h WN k) (by omega) w14 hl14 ha14).mono ?_
    rintro e w15 ⟨rfl, q15⟩
    have I15 := I14.keep q15
    have hg15 := hg14.keep q15
    have bX15 := (q15.block FX (Array.getElem?_eq_some_iff.1 bX14).1).trans bX14
    clear I14 hl14 ha14 hg14 bX14 q15
    have hkd : k ≤ DN.length := by omega
    have hkc : k ≤ vdc := by omega
    have hvc : vdc ≤ 9223372036854775807 := by unfold maxLen at hdm; omega
    have ik1 : (k : Int) ≤ (vdc : Int) := by omega
    go_wp2_with fail
    have hdt : (DN.take k).length = k := by rw [List.length_take]; omega
    rw [hdt] at hg15
    refine (lSameT _ _ (DN.take k) w15 hg15 (I15.hd.take hkd) (by omega)).mono ?_
    clear hdt
    rintro e w16 ⟨rfl, q16⟩
    have I16 := I15.keep q16
    have bX16 := (q16.block FX (Array.getElem?_eq_some_iff.1 bX15).1).trans bX15
    clear I15 hg15 bX15 q16 hkc hvc ik1
    go_wp2_with fail
    refine (lLimitedL _ want _ (hw.keep I16.q) HCW.out).mono ?_
    rintro e w16 ⟨yl, rfl, hyl, rfl⟩
    rw [HE.out] at hyl
    obtain ⟨ylo3, ylc3, rfl⟩ := hyl.slice
    go_wp2_with fail
    refine (pReconciled ra n rc x old xo xc _ E (k : Int) true false k w16 (HHR.out w16 I16.q) hn (hold.keep I16.q) hon HOS.out hyl hL3 (g.keep I16.q) (he.keep I16.q) (.inr ⟨rfl, rfl⟩) (by omega)).mono ?_
    rw [HRR.out, HHE.out, HWL.out, HKK.out, HAA.out, (res_again k).1, (res_again k).2, HWN.out, HDN.out]
    rintro e w17 ⟨vl3, vg3, rfl, hl17, hg17, q17⟩
    have I17 := I16.keep q17
    have bX17 := (q17.block FX (Array.getElem?_eq_some_iff.1 bX16).1).trans bX16
    have hll := (Array.getElem?_eq_some_iff.1 bX16).1
    clear I16 hyl bX16
    obtain ⟨vlo3, vlc3, rfl⟩ := hl17.slice
    obtain ⟨vgo3, vgc3, rfl⟩ := hg17.slice
    have y0 : w17.cell? ⟨FX, 0, none⟩ = some (.int .i64 KK) := by simp [World.cell?, bX17]
    have y1 : w17.cell? ⟨FX, 1, none⟩ = some (.int .i64 AA) := by simp [World.cell?, bX17]
    have y2 : w17.cell? ⟨FX, 2, none⟩ = some (.int .i64 0) := by simp [World.cell?, bX17]
    have z0 := frozen_of_row w17 FX 0 _ _ bX17
    have z1 := frozen_of_row w17 FX 1 _ _ bX17
    have z2 := frozen_of_row w17 FX 2 _ _ bX17
    go_wp2_with fail
    rw [set_self (v := .int .i64 KK) bX17 rfl, set_self (v := .int .i64 AA) bX17 rfl, set_self (v := .int .i64 0) bX17 rfl]
    clear z0 z1 z2 y0 y1 y2 q17 hll
    refine (lSameE _ _ WN (by omega) w17 hl17 I17.hw).mono ?_
    rintro e w18 ⟨rfl, q18⟩
    have I18 := I17.keep q18
    have hg18 := hg17.keep q18
    have bX18 := (q18.block FX (Array.getElem?_eq_some_iff.1 bX17).1).trans bX17
    clear I17 hl17 hg17 bX17 q18
    go_wp2_with fail
    refine (lSameT _ _ DN w18 hg18 I18.hd (by omega)).mono ?_
    rintro e w19 ⟨rfl, q19⟩
    have I19 := I18.keep q19
    have bX19 := (q19.block FX (Array.getElem?_eq_some_iff.1 bX18).1).trans bX18
    clear I18 hg18 bX18 q19
    obtain ⟨g0, g1⟩ := I19.cells
    have y0 : w19.cell? ⟨FX, 0, none⟩ = some (.int .i64 KK) := by simp [World.cell?, bX19]
    have y1 : w19.cell? ⟨FX, 1, none⟩ = some (.int .i64 AA) := by simp [World.cell?, bX19]
    have y2 : w19.cell? ⟨FX, 2, none⟩ = some (.int .i64 0) := by simp [World.cell?, bX19]
    go_wp2_with fail
    refine (lSame' KK AA w19).mono ?_
    rintro e w20 ⟨rfl, q20⟩
    have I20 := I19.keep q20
    clear I19 bX19 g0 g1 y0 y1 y2
    go_wp2_with fail
    go_ret
    exact ⟨rfl, I20.q⟩
end Go.Proofs.YtindifjhocgkbaaGreatDoor
