import Derived.Test.YtindifjhocgkbaaGreatDoorRmLToRmM
import Derived.Test.YtindifjhocgkbaaGreatDoorRmN
import Derived.Test.YtindifjhocgkbaaGreatDoorRmO
import Derived.Test.YtindifjhocgkbaaGreatDoorRcE
namespace Go.Proofs.YtindifjhocgkbaaGreatDoor
open Go.RowKit Go.ChangeMaps Go.MapKept Go.WideShapes Go.WideMaps
theorem HostI.log0 {n0 H M : Nat} {r : Nat → Int} {l : List En} {log : List ByteArray} {left : Int} {dead : Bool} {W : World} (h : HostI n0 H M r l log left dead W) :
    HostI n0 H M r l [] left dead (W.setCell ⟨H, 11, none⟩ (.slice none 0 0)) := by
  obtain ⟨a, b, c, f, g, vl, e, ho⟩ := h.blk
  exact ⟨⟨a, b, c, f, g, .slice none 0 0, by rw [heap_setCell_same _ _ _ _ _ _ e]; simp [hostC], World.ownsRow_nil _ _ _ _⟩, h.mp.kept (heap_setCell_other _ _ _ _ h.ne), h.hH, h.hM⟩
theorem TabIs.hk {n0 T : Nat} {l : List En} {W W' : World} (h : TabIs W T l) (k : HK n0 W W') : TabIs W' T l := by
  obtain ⟨v, h1, h2⟩ := h.blk
  refine ⟨v, k.far _ _ _ _ h1 (by decide) (by decide), ?_⟩
  rcases h2 with ⟨hl, hn | ⟨g, cap, cur, hv, hb, hc, hrest⟩⟩
  · exact ⟨hl, .inl hn⟩
  · exact ⟨hl, .inr ⟨g, cap, cur, hv, hb, k.far _ _ _ _ hc (by decide) (by decide), hrest⟩⟩
theorem fits_there {r : Nat → Int} {l : List En} (h : HdI r l) (e : En) : (if fits r l e = true then put e l else l) = thereS r l e := by
  unfold thereS fits
  by_cases ht : 0 ≤ e.t ∧ e.t ≤ 2
  · have e1 : roomOf r e.t = r e.t.toNat := if_pos ht
    rw [e1, cntM_T]
    by_cases hf : fnd e.t e.k l = true
    · rw [if_pos (by simp [hf]), if_pos ⟨ht, .inl hf⟩]
    · by_cases hc : (cntT e.t l : Int) < r e.t.toNat
      · rw [if_pos (by simp [hc]), if_pos ⟨ht, .inr hc⟩]
      · rw [if_neg (by simp [hf, hc]), if_neg (fun h => h.2.elim hf hc)]
  · have e1 : roomOf r e.t = 0 := if_neg ht
    have e2 : fnd e.t e.k l = false := by
      cases hf : fnd e.t e.k l
      · rfl
      · obtain ⟨x, hx, xt, _⟩ := (fnd_mem h.s).1 hf
        exact absurd (xt ▸ h.t x hx) ht
    rw [if_neg (by rw [e1, e2]; simp), if_neg (fun h => ht h.1)]
theorem there_siz {r : Nat → Int} : ∀ (old l : List En), (∀ e ∈ l, Siz e) → (∀ e ∈ old, Siz e) → ∀ e ∈ old.foldl (thereS r) l, Siz e
  | [], _, h, _ => h
  | x :: old, l, h, ho => there_siz old _ (fun e he => by
      unfold thereS at he
      split at he
      · rcases List.mem_cons.1 ((put_perm x l).mem_iff.1 he) with rfl | h'
        · exact ho _ List.mem_cons_self
        · exact h _ (del_mem h')
      · exact h _ he) (fun e he => ho e (List.mem_cons_of_mem _ he))
theorem there_hd {r : Nat → Int} : ∀ (old l : List En), HdI r l → HdI r (old.foldl (thereS r) l)
  | [], _, h => h
  | x :: old, _, h => there_hd old _ (h.step x)
theorem lay_siz (es : List En) : ∀ e ∈ layL es, Siz e := fun e he => by
  have h := layL_ok es e he
  have h1 := okE_in h
  have h2 := keyB_size h.2.1
  have h3 := valB_size h.2.2
  exact ⟨⟨by simp [Lit.wf, IntKind.min, IntKind.max, IntKind.signed, IntKind.bits]; omega, by unfold maxLen; omega⟩, by omega, by omega⟩
/-- What a datapath holds behind one time, and what was done then. -/
def res1 (r : Nat → Int) (h want : List En) (c : Nat) : List En := if overL want r = -1 then afterL h want c else h
def log1 (r : Nat → Int) (h want : List En) (c : Nat) : List ByteArray := if overL want r = -1 then (doneL h want).take c else []
def fK (o : Int) : Int := if o = -1 then 0 else 10
def fA (o : Int) : Int := if o = -1 then 0 else o
theorem RecP.host {n0 H M : Nat} {r : Nat → Int} {l want : List En} {log : List ByteArray} {left : Int} {dead : Bool} {c : Nat} {x : Value} {W' : World} (h : RecP n0 H M r l want log left dead c x W') :
    (∃ left' dead', HostI n0 H M r (res1 r l want c) (log ++ log1 r l want c) left' dead' W') ∧ ErrIs W' x (fK (overL want r)) (fA (overL want r)) := by
  unfold res1 log1 fK fA
  rcases h with ⟨h0, hx, h⟩ | ⟨h0, hx, h⟩
  · rw [if_pos h0, if_pos h0, if_pos h0, if_pos h0]
    exact ⟨h, .inl ⟨rfl, rfl, hx⟩⟩
  · have h1 : ¬ overL want r = -1 := by omega
    rw [if_neg h1, if_neg h1, if_neg h1, if_neg h1, List.append_nil]
    exact ⟨⟨_, _, h⟩, hx⟩
theorem pPartsE (x : Value) (k a : Int) (w : World) (he : EtIs w) (h : ErrIs w x k a) :
    Calls Tryz.prog 34 #[x] w fun e w' => e = .returned (.agg #[.int .i64 k, .int .i64 a, .int .i64 0]) ∧ Below w.heap.size w w' := by
  rcases h with ⟨rfl, rfl, rfl⟩ | ⟨h1, h2, b, rfl, c0, c1, c2⟩
  · exact parts_nil w
  · exact parts_fault b k a w he h1 h2 c0 c1 c2
theorem after_mem {h w : List En} (hs : Srt h) (hw : Srt w) (n : Nat) {y : En} (hy : y ∈ afterL h w n) : y ∈ w ∨ y ∈ h := by
  rcases ((afterL_mem hs hw n).2 y).1 hy with h1 | h1
  · exact .inl (mem_puts.1 (List.mem_of_mem_take h1)).1
  · exact .inr h1.1.1
theorem after_len {h w : List En} (hs : Srt h) (n : Nat) : (afterL h w n).length ≤ h.length + w.length :=
  (aft2_fold (o := h) w _ _ (aft1_fold (w := w) h (h, n) (m := h.length) (n := n) ⟨hs, Nat.le_refl _, Nat.le_refl _⟩)).2.1
theorem res1_good {r : Nat → Int} {h w : List En} (hs : Srt h) (hw : Srt w) (h1 : ∀ e ∈ h, Siz e) (h2 : ∀ e ∈ w, Siz e) (c : Nat) :
    Srt (res1 r h w c) ∧ (∀ e ∈ res1 r h w c, Siz e) ∧ (res1 r h w c).length ≤ h.length + w.length := by
  unfold res1
  split
  · exact ⟨(afterL_mem hs hw c).1, fun e he => (after_mem hs hw c he).elim (h2 e) (h1 e), after_len hs c⟩
  · exact ⟨hs, h1, Nat.le_add_right _ _⟩
theorem log1_len (r : Nat → Int) (h w : List En) (c : Nat) : (log1 r h w c).length ≤ h.length + w.length := by
  unfold log1
  split
  · exact Nat.le_trans (by rw [List.length_take]; exact Nat.min_le_right _ _) (doneL_len h w)
  · simp
/-- The second time. -/
theorem res2_eq {r : Nat → Int} {h w : List En} (hs : Srt h) (hw : Srt w) (h1 : h.length ≤ 1000) (h2 : w.length ≤ 1000) (c : Nat) :
    res1 r (res1 r h w c) w 100000 = (if overL w r = -1 then w else h) ∧ log1 r h w c ++ log1 r (res1 r h w c) w 100000 = (if overL w r = -1 then doneL h w else []) := by
  unfold res1 log1
  by_cases ho : overL w r = -1
  · simp only [if_pos ho]
    have hl := after_len (w := w) hs c
    have hd := doneL_len (afterL h w c) w
    refine ⟨afterL_all (afterL_mem hs hw c).1 hw (by omega), ?_⟩
    rw [List.take_of_length_le (by omega : (doneL (afterL h w c) w).length ≤ 100000), doneL_after hs hw, List.take_append_drop]
  · simp [if_neg ho]
def resL (r : Nat → Int) (h w : List En) (c : Nat) (again : Bool) : List En := if again then (if overL w r = -1 then w else h) else res1 r h w c
def resG (r : Nat → Int) (h w : List En) (c : Nat) (again : Bool) : List ByteArray := if again then (if overL w r = -1 then doneL h w else []) else log1 r h w c
theorem pLaidL (v : Value) (es : List En) (w : World) (hI : EnsLo w v es) (hl : es.length ≤ 100000) (g : Glob w) :
    Calls Tryz.prog 50 #[v] w fun e w' => ∃ T, e = .returned (.pointer (some ⟨T, 0, none⟩)) ∧ w.heap.size ≤ T ∧ TabIs w' T (layL es) ∧ Below w.heap.size w w' := by
  rcases hI with ⟨ao, cap, rfl, rfl⟩ | h
  · exact pLaid0 ao cap w
  · exact pLaid v es w h hl g
theorem TxIn.of_owns {w : World} {base : Nat} {v : Value} {ss : List ByteArray} (h : w.ownsRow base 9 1 v ss.length (ss.map .string)) : TxIn w v ss := by
  rcases h with ⟨hl, ⟨rfl, hn⟩ | ⟨g, cap, cur, rfl, hb, hc, hnc, hcm, hcs, htk⟩⟩
  · exact .inl ⟨rfl, List.length_eq_zero_iff.1 hn⟩
  · refine .inr ⟨g, 0, cap, rfl, (Array.getElem?_eq_some_iff.1 hc).1, fun i hi => ?_⟩
    have h1 : (cur.toList.take (ss.length * 1))[i]? = some (.string ss[i]) := by rw [htk]; simp [hi]
    rw [List.getElem?_take, if_pos (by omega)] at h1
    simp [World.cell?, hc]
    simpa using h1
end Go.Proofs.YtindifjhocgkbaaGreatDoor
namespace Go.Proofs.YtindifjhocgkbaaGreatDoor
open Go.RowKit Go.ChangeMaps Go.MapKept Go.WideShapes Go.WideMaps
theorem HW.grownC {n0 M : Nat} {A : World} {H i : Nat} {v : Value} {r : Nat → Int} {l : List En} {log : List ByteArray} {left : Int} {dead : Bool} {W : World} (q : HW n0 M A W) (h : HostI n0 H M r l log left dead W) : HW n0 M A (W.setCell ⟨H, i, none⟩ v) := q.trans (h.setW i v)
set_option maxRecDepth 100000 in
set_option maxHeartbeats 4000000 in
theorem pReconciled (ra : Option Addr) (n rc : Nat) (x : Nat → Int) (old : List En) (xo : Option Addr) (xc : Nat) (vy : Value) (want : List En) (stop : Int) (again big : Bool) (c : Nat) (w : World)
    (hr : 0 < n → ∃ b off, ra = some ⟨b, off, none⟩ ∧ b < w.heap.size ∧ ∀ i, i < n → w.cell? ⟨b, off + i, none⟩ = some (.int .i64 (x i))) (hn : (n : Int) ≤ 9223372036854775807)
    (hold : EnsLo w (.slice xo old.length xc) old) (hon : old.length ≤ 3518437208780) (hos : ∀ e ∈ old, Siz e) (hw : EnsLo w vy want) (hwl : want.length ≤ 300) (g : Glob w) (he : EtIs w)
    (hst : (big = true ∧ stop = -1 ∧ c = 100000) ∨ (big = false ∧ stop = c)) (hc : c ≤ 100000) :
    Calls Tryz.prog 29 #[.slice ra n rc, .slice xo old.length xc, vy, .int .i64 stop, .bool again] w fun e w' => ∃ vl vg, e = .returned (.tuple #[vl, vg, .agg #[.int .i64 (fK (overL (layL want) (fun t => if t < n then clampR (x t) else 40))), .int .i64 (fA (overL (layL want) (fun t => if t < n then clampR (x t) else 40))), .int .i64 0]]) ∧
      EnsIn w' vl (resL (fun t => if t < n then clampR (x t) else 40) (old.foldl (thereS (fun t => if t < n then clampR (x t) else 40)) []) (layL want) c again) ∧ TxIn w' vg (resG (fun t => if t < n then clampR (x t) else 40) (old.foldl (thereS (fun t => if t < n then clampR (x t) else 40)) []) (layL want) c again) ∧ Below w.heap.size w w' := by
  obtain ⟨r, hrr⟩ : ∃ r, (fun t => if t < n then clampR (x t) else 40) = r := ⟨_, rfl⟩
  have hr4 : ∀ t : Nat, 0 ≤ r t ∧ r t ≤ 40 := fun t => by
    rw [← hrr]
    dsimp only
    split
    · unfold clampR; split <;> (try split) <;> omega
    · omega
  rw [hrr]
  have HOS := (show Hid _ from hos)
  have HR4 := (show Hid _ from hr4)
  have HR := (show Hid _ from hr)
  have hstop : (max stop (-1) : Int) = stop := by rcases hst with ⟨_, h, _⟩ | ⟨_, h⟩ <;> omega
  have HST := (show Hid _ from hst)
  clear hos hr4 hr hst
  obtain ⟨yo, yc, rfl⟩ := hw.slice
  go_enter Tryz.func29, Tryz.ntmps29
  go_wp2_with fail
  have q0 := below_alloc w (.cells #[.int .i64 0, .int .i64 0, .int .i64 0] 29)
  have bF : (w.alloc (.cells #[.int .i64 0, .int .i64 0, .int .i64 0] 29)).heap[w.heap.size]? = some (.cells #[.int .i64 0, .int .i64 0, .int .i64 0] 29 (0, 0)) := (MapKept.heap_alloc w _).1
  generalize w.alloc (.cells #[.int .i64 0, .int .i64 0, .int .i64 0] 29) = w0 at *
  obtain ⟨FB, hFB⟩ : ∃ FB, w.heap.size = FB := ⟨_, rfl⟩
  rw [hFB] at bF ⊢
  refine (pNewHost ra n rc x w0 (fun h0 => by
    obtain ⟨b, off, e1, e2, e3⟩ := HR.out h0
    exact ⟨b, off, e1, Nat.lt_of_lt_of_le e2 q0.size, fun i hi => (q0.cell (p := ⟨b, off + i, none⟩) e2).trans (e3 i hi)⟩) hn).mono ?_
  rintro e w1 ⟨H, M, rfl, k1, q1⟩
  rw [hrr] at k1
  have hF0 : FB < w0.heap.size := (Array.getElem?_eq_some_iff.1 bF).1
  have bF1 := (q1.block FB hF0).trans bF
  have q01 := q0.trans (q1.mono q0.size)
  go_wp2_with fail
  have b1 : (w1.alloc (.cells #[.pointer (some ⟨H, 0, none⟩)] 123)).heap[w1.heap.size]? = some (.cells #[.pointer (some ⟨H, 0, none⟩)] 123 (0, 0)) := (MapKept.heap_alloc w1 _).1
  have qa := below_alloc w1 (.cells #[.pointer (some ⟨H, 0, none⟩)] 123)
  have k2 := k1.keep qa
  have bF2 := (qa.block FB (Array.getElem?_eq_some_iff.1 bF1).1).trans bF1
  have q02 := q01.trans (qa.mono q01.size)
  have hn00 := q0.size
  generalize w1.alloc (.cells #[.pointer (some ⟨H, 0, none⟩)] 123) = W1 at *
  generalize w1.heap.size = P at *
  generalize w0.heap.size = n0 at *
  clear bF bF1 q0 q1 q01 qa k1
  have HWS : Hid (Srt (layL want)) := layL_srt want
  have HWZ := (show Hid _ from lay_siz want)
  have HWT : Hid (∀ e ∈ layL want, 0 ≤ e.t ∧ e.t ≤ 2) := fun e h => by have := okE_in (layL_ok want e h); omega
  have hwl2 := layL_length want
  go_loopw [25] (fun i wr => ∃ (j : Nat) (log : List ByteArray), j ≤ old.length ∧ i = .int .i64 j ∧ log.length ≤ 2 * j ∧ HostI n0 H M r ((old.take j).foldl (thereS r) []) log (-1) false wr ∧ HW n0 M W1 wr) (fun i _ => old.length - (intOf i).toNat)
  case atStart => exact ⟨0, [], Nat.zero_le _, rfl, by simp, by simpa using k2, HW.refl _ _ _⟩
  case round =>
    obtain ⟨j, log, hj, rfl, hlg, k3, W3⟩ := hrel
    have q3 := q02.trans (W3.1.low.mono hn00)
    have b3 := W3.1.far _ _ _ _ b1 (by decide) (by decide)
    have HD : HdI r ((old.take j).foldl (thereS r) []) := there_hd _ [] (HdI.nil (fun t _ => (HR4.out t).1))
    have HDZ := there_siz (r := r) (old.take j) [] (by simp) (fun e h => HOS.out e (List.mem_of_mem_take h))
    have hdl := HD.len (fun t _ => (HR4.out t).2)
    by_cases hlt : j < old.length
    · have HF : Hid ((old.take (j + 1)).foldl (thereS r) [] = thereS r ((old.take j).foldl (thereS r) []) old[j]) := fold_take _ _ _ _ hlt
      have HSZ := (show Hid _ from HOS.out old[j] (List.getElem_mem hlt))
      have hcl : ∃ b off, xo = some ⟨b, off, none⟩ ∧ wr.cell? ⟨b, off + j * 3, none⟩ = some (.int .i64 old[j].t) ∧ wr.cell? ⟨b, off + j * 3 + 1, none⟩ = some (.string old[j].k) ∧ wr.cell? ⟨b, off + j * 3 + 2, none⟩ = some (.string old[j].v) := by
        rcases hold with ⟨_, _, _, e⟩ | ⟨_, e⟩ | ⟨b, off, cap, hv, hb, hc⟩
        · rw [e] at hlt; simp at hlt
        · rw [e] at hlt; simp at hlt
        · simp only [Value.slice.injEq] at hv
          exact ⟨b, off, hv.1, (q3.cell (p := ⟨b, off + j * 3, none⟩) hb).trans (hc.c0 j hlt), (q3.cell (p := ⟨b, off + j * 3 + 1, none⟩) hb).trans (hc.c1 j hlt), (q3.cell (p := ⟨b, off + j * 3 + 2, none⟩) hb).trans (hc.c2 j hlt)⟩
      generalize old[j] = X at *
      generalize (old.take j).foldl (thereS r) [] = L at *
      obtain ⟨b, off, rfl, d0, d1, d2⟩ := hcl
      have p0 : wr.cell? ⟨P, 0, none⟩ = some (.pointer (some ⟨H, 0, none⟩)) := by simp [World.cell?, b3]
      have hPl := cell_lt p0
      have p0a : ∀ o, (wr.alloc o).cell? ⟨P, 0, none⟩ = some (.pointer (some ⟨H, 0, none⟩)) := fun o => (World.cell?_alloc_lt _ _ _ hPl).trans p0
      have il : ((j : Nat) : Int) < (old.length : Int) := by omega
      have q5 := below_alloc wr (.cells #[.int .i64 X.t, .string X.k, .string X.v] 62)
      have k5 := k3.keep q5
      have HKS : Hid (Srt L) := HD.s
      have HKK : Hid (∀ e ∈ L, KOk e) := fun e h => (HDZ e h).1
      have HHD : Hid (HdI r L) := HD
      clear HD HDZ
      go_wp2_with fail
      refine (hPut n0 H M r L log (-1) false _ k5 (by omega) (by omega) X.t X.k X.v HKS.out HKK.out HSZ.out.1 HSZ.out.2.1 HSZ.out.2.2 (by omega) (by omega)).mono ?_
      rintro e w6 ⟨rfl, k6, W6⟩
      have hft := fits_there HHD.out X
      simp only [show (false || decide ((-1 : Int) = 0)) = false from rfl, Bool.false_eq_true, if_false, show leftN (-1) = -1 from rfl] at k6
      rw [show (⟨X.t, X.k, X.v⟩ : En) = X from rfl, hft] at k6
      have HL6 : Hid (∃ log', log'.length ≤ 2 * (j + 1) ∧ HostI n0 H M r (thereS r L X) log' (-1) false w6) := by
        refine ⟨_, ?_, k6⟩
        split
        · simp; omega
        · simp; omega
      clear k6 hft k5
      go_wp2_with fail
      go_roundw
      case rel =>
        obtain ⟨log', hl', k7⟩ := HL6.out
        exact ⟨j + 1, log', by omega, by go_num, hl', by rw [HF.out]; exact k7, W3.trans ((HW.below q5 k3.n0).trans W6)⟩
      case measure => simp [intOf]; omega
    · obtain rfl : j = old.length := by omega
      rw [List.take_length] at k3 HD HDZ hdl
      clear hlt
      have HHS : Hid (Srt (old.foldl (thereS r) [])) := HD.s
      have HHZ : Hid (∀ e ∈ old.foldl (thereS r) [], Siz e) := HDZ
      clear HD HDZ
      obtain ⟨h, hhe⟩ : ∃ h, old.foldl (thereS r) [] = h := ⟨_, rfl⟩
      have HHE : Hid (old.foldl (thereS r) [] = h) := hhe
      rw [hhe] at k3 hdl HHS HHZ
      clear hhe
      have bF3 := W3.1.far _ _ _ _ bF2 (by decide) (by decide)
      clear W3 bF2 b1 k2 q02
      go_wp2_with fail
      refine (pLaidL _ want _ (hw.keep q3) (by omega) (g.keep q3)).mono ?_
      rintro e w4 ⟨T, rfl, hT, tab, q4⟩
      have k4 := k3.keep q4
      have b4 := (q4.block P (Array.getElem?_eq_some_iff.1 b3).1).trans b3
      have bF4 := (q4.block FB (Array.getElem?_eq_some_iff.1 bF3).1).trans bF3
      have Q4 := q3.trans (q4.mono q3.size)
      clear k3 b3 bF3 q3 q4 hT
      obtain ⟨WL, hwe⟩ : ∃ WL, layL want = WL := ⟨_, rfl⟩
      have HWE : Hid (layL want = WL) := hwe
      rw [hwe] at HWS HWZ HWT hwl2 tab
      clear hwe
      obtain ⟨vl, c11, _⟩ := k4.log_cell
      have f11 := k4.cells.2.2.2 11
      have k5 := k4.log0
      have c3 := k5.cells.1
      have f3 := k5.cells.2.2.2 3
      have k6 := k5.set3 stop
      have W6 := (k4.setW 11 (.slice none 0 0)).trans (k5.setW 3 (.int .i64 stop))
      have b6 := W6.1.far _ _ _ _ b4 (by decide) (by decide)
      have bF6 := W6.1.far _ _ _ _ bF4 (by decide) (by decide)
      have tab6 := tab.hk W6.1
      have Q6 := Q4.trans (W6.1.low.mono hn00)
      have p6 : ((w4.setCell ⟨H, 11, none⟩ (.slice none 0 0)).setCell ⟨H, 3, none⟩ (.int .i64 stop)).cell? ⟨P, 0, none⟩ = some (.pointer (some ⟨H, 0, none⟩)) := by simp [World.cell?, b6]
      have hLD : LD big stop false c := by
        unfold LD
        rcases HST.out with ⟨h1, h2, _⟩ | ⟨h1, h2⟩
        · rw [h1]; exact ⟨h2, rfl⟩
        · rw [h1]; exact .inl ⟨rfl, h2⟩
      have hLb : big = true → 60000 ≤ c := fun h => by
        rcases HST.out with ⟨_, _, h2⟩ | ⟨h1, _⟩
        · omega
        · rw [h1] at h; cases h
      have HLD : Hid (LD big stop false c) := hLD
      clear hLD
      go_wp2_with fail
      clear c11 f11 c3 f3 k5 p6 k4 b4 bF4 tab W6 Q4
      generalize (w4.setCell ⟨H, 11, none⟩ (.slice none 0 0)).setCell ⟨H, 3, none⟩ (.int .i64 stop) = W7 at *
      refine (oReconcile n0 H M T r h [] stop false big c WL W7 k6 HLD.out hLb (by omega) tab6 HWS.out HHS.out HHZ.out HWZ.out HWT.out (by omega) (by omega) (by simp)).mono ?_
      rintro e w8 ⟨x8, rfl, hR, W8⟩
      obtain ⟨⟨left8, dead8, k8⟩, hE8⟩ := hR.host
      rw [List.nil_append] at k8
      have b8 := W8.1.far _ _ _ _ b6 (by decide) (by decide)
      have bF8 := W8.1.far _ _ _ _ bF6 (by decide) (by decide)
      have tab8 := tab6.hk W8.1
      have Q8 := Q6.trans (W8.1.low.mono hn00)
      clear hR W8 b6 bF6 tab6 Q6 k6
      go_wp2_with fail
      refine (pPartsE x8 _ _ _ (he.keep Q8) hE8).mono ?_
      rintro e w9 ⟨rfl, q9⟩
      have k9 := k8.keep q9
      have b9 := (q9.block P (Array.getElem?_eq_some_iff.1 b8).1).trans b8
      have bF9 := (q9.block FB (Array.getElem?_eq_some_iff.1 bF8).1).trans bF8
      have tab9 := tab8.keep q9
      have Q9 := Q8.trans (q9.mono Q8.size)
      clear k8 b8 bF8 tab8 Q8 q9 hE8
      obtain ⟨KK, hKK⟩ : ∃ KK, fK (overL WL r) = KK := ⟨_, rfl⟩
      obtain ⟨AA, hAA⟩ : ∃ AA, fA (overL WL r) = AA := ⟨_, rfl⟩
      have HKK : Hid (fK (overL WL r) = KK) := hKK
      have HAA : Hid (fA (overL WL r) = AA) := hAA
      rw [hKK, hAA]
      clear hKK hAA
      go_upto_if 57 with fail
      have qa := below_alloc w9 (.cells #[.int .i64 KK, .int .i64 AA, .int .i64 0] 29)
      have bX : (w9.alloc (.cells #[.int .i64 KK, .int .i64 AA, .int .i64 0] 29)).heap[w9.heap.size]? = some (.cells #[.int .i64 KK, .int .i64 AA, .int .i64 0] 29 (0, 0)) := (MapKept.heap_alloc w9 _).1
      have k10 := k9.keep qa
      have b10 := (qa.block P (Array.getElem?_eq_some_iff.1 b9).1).trans b9
      have bF10 := (qa.block FB (Array.getElem?_eq_some_iff.1 bF9).1).trans bF9
      have tab10 := tab9.keep qa
      have Q10 := Q9.trans (qa.mono Q9.size)
      have hFX : FB ≠ w9.heap.size := Nat.ne_of_lt (Array.getElem?_eq_some_iff.1 bF9).1
      clear k9 b9 bF9 tab9 qa
      have hXw : w.heap.size ≤ w9.heap.size := Q9.size
      generalize w9.alloc (.cells #[.int .i64 KK, .int .i64 AA, .int .i64 0] 29) = W10 at *
      generalize w9.heap.size = FX at *
      go_cut [] from 19 to 75 (fun wc => ∃ left dead, HostI n0 H M r (resL r h WL c again) (resG r h WL c again) left dead wc ∧ wc.heap[FB]? = some (.cells #[.int .i64 0, .int .i64 0, .int .i64 0] 29 (0, 0)) ∧ wc.heap[FX]? = some (.cells #[.int .i64 KK, .int .i64 AA, .int .i64 0] 29 (0, 0)) ∧ Below w.heap.size w wc)
      case first =>
        cases again
        · go_wp2_with fail
          go_meet
          exact ⟨left8, dead8, k10, bF10, bX, Q10⟩
        · have c3 := k10.cells.1
          have f3 := k10.cells.2.2.2 3
          have k11 := k10.set3 (-1)
          have c5 := k11.cells.2.1
          have f5 := k11.cells.2.2.2 5
          have k12 := k11.set5 false
          have W12 := (k10.setW 3 (.int .i64 (-1))).trans (k11.setW 5 (.bool false))
          have b12 := W12.1.far _ _ _ _ b10 (by decide) (by decide)
          have bF12 := W12.1.far _ _ _ _ bF10 (by decide) (by decide)
          have bX12 := W12.1.far _ _ _ _ bX (by decide) (by decide)
          have tab12 := tab10.hk W12.1
          have Q12 := Q10.trans (W12.1.low.mono hn00)
          have p12 : ((W10.setCell ⟨H, 3, none⟩ (.int .i64 (-1))).setCell ⟨H, 5, none⟩ (.bool false)).cell? ⟨P, 0, none⟩ = some (.pointer (some ⟨H, 0, none⟩)) := by simp [World.cell?, b12]
          go_wp2_with fail
          clear c3 f3 c5 f5 k11 p12 k10 b10 bF10 bX tab10 W12 Q10
          generalize (W10.setCell ⟨H, 3, none⟩ (.int .i64 (-1))).setCell ⟨H, 5, none⟩ (.bool false) = W13 at *
          obtain ⟨HG1, HG2, HG3⟩ := res1_good (r := r) HHS.out HWS.out HHZ.out HWZ.out c
          have hlg1 := log1_len r h WL c
          refine (oReconcile n0 H M T r (res1 r h WL c) (log1 r h WL c) (-1) false true 100000 WL W13 k12 ⟨rfl, rfl⟩ (fun _ => by omega) (by omega) tab12 HWS.out HG1 HG2 HWZ.out HWT.out (by omega) (by omega) (by omega)).mono ?_
          rintro e w14 ⟨x14, rfl, hR, W14⟩
          obtain ⟨⟨left14, dead14, k14⟩, hE14⟩ := hR.host
          obtain ⟨e14, e15⟩ := res2_eq (r := r) HHS.out HWS.out (by omega) (by omega) c
          rw [e14, e15] at k14
          rw [HKK.out, HAA.out] at hE14
          have bF14 := W14.1.far _ _ _ _ bF12 (by decide) (by decide)
          have bX14 := W14.1.far _ _ _ _ bX12 (by decide) (by decide)
          have Q14 := Q12.trans (W14.1.low.mono hn00)
          clear hR W14 b12 bF12 bX12 tab12 Q12 k12 HG1 HG2 HG3 e14 e15
          go_wp2_with fail
          refine (pPartsE x14 _ _ _ (he.keep Q14) hE14).mono ?_
          rintro e w15 ⟨rfl, q15⟩
          have k15 := k14.keep q15
          have bF15 := (q15.block FB (Array.getElem?_eq_some_iff.1 bF14).1).trans bF14
          have bX15 := (q15.block FX (Array.getElem?_eq_some_iff.1 bX14).1).trans bX14
          have Q15 := Q14.trans (q15.mono Q14.size)
          clear k14 bF14 bX14 Q14 q15 hE14
          have y0 : w15.cell? ⟨FX, 0, none⟩ = some (.int .i64 KK) := by simp [World.cell?, bX15]
          have y1 : w15.cell? ⟨FX, 1, none⟩ = some (.int .i64 AA) := by simp [World.cell?, bX15]
          have y2 : w15.cell? ⟨FX, 2, none⟩ = some (.int .i64 0) := by simp [World.cell?, bX15]
          have z0 := frozen_of_row w15 FX 0 _ _ bX15
          have z1 := frozen_of_row w15 FX 1 _ _ bX15
          have z2 := frozen_of_row w15 FX 2 _ _ bX15
          have k16 := k15.grown (grown_cell w15 FX 0 (.int .i64 KK)) (fun j e => by cases e; exact .inl ⟨_, _, _, bX15, by decide, by decide⟩)
          have x16 := heap_setCell_same w15 FX 0 _ _ (.int .i64 KK) bX15
          have k17 := k16.grown (grown_cell _ FX 1 (.int .i64 AA)) (fun j e => by cases e; exact .inl ⟨_, _, _, x16, by decide, by decide⟩)
          have x17 := heap_setCell_same _ FX 1 _ _ (.int .i64 AA) x16
          have k18 := k17.grown (grown_cell _ FX 2 (.int .i64 0)) (fun j e => by cases e; exact .inl ⟨_, _, _, x17, by decide, by decide⟩)
          have x18 := heap_setCell_same _ FX 2 _ _ (.int .i64 0) x17
          have bF18 : (((w15.setCell ⟨FX, 0, none⟩ (.int .i64 KK)).setCell ⟨FX, 1, none⟩ (.int .i64 AA)).setCell ⟨FX, 2, none⟩ (.int .i64 0)).heap[FB]? = some (.cells #[.int .i64 0, .int .i64 0, .int .i64 0] 29 (0, 0)) := (heap_setCell_other _ _ _ _ hFX).trans ((heap_setCell_other _ _ _ _ hFX).trans ((heap_setCell_other _ _ _ _ hFX).trans bF15))
          have Q18 := ((Q15.setCell (p := ⟨FX, 0, none⟩) hXw (.int .i64 KK)).setCell (p := ⟨FX, 1, none⟩) hXw (.int .i64 AA)).setCell (p := ⟨FX, 2, none⟩) hXw (.int .i64 0)
          go_wp2_with fail
          go_meet
          exact ⟨left14, dead14, k18, bF18, by simpa using x18, Q18⟩
      case rest =>
        obtain ⟨left, dead, kc, bFc, bXc, Qc⟩ := hcut
        clear k10 b10 bF10 bX tab10 Q10
        obtain ⟨vg, cg, hog⟩ := kc.log_cell
        have hgood : Srt (resL r h WL c again) ∧ (resL r h WL c again).length ≤ 1000 := by
          obtain ⟨HG1, _, HG3⟩ := res1_good (r := r) HHS.out HWS.out HHZ.out HWZ.out c
          unfold resL
          cases again
          · exact ⟨HG1, by simp only [Bool.false_eq_true, if_false]; omega⟩
          · simp only [if_true]
            split
            · exact ⟨HWS.out, by omega⟩
            · exact ⟨HHS.out, by omega⟩
        obtain ⟨LL, hll⟩ : ∃ LL, resL r h WL c again = LL := ⟨_, rfl⟩
        obtain ⟨GG, hgg⟩ : ∃ GG, resG r h WL c again = GG := ⟨_, rfl⟩
        have HLL : Hid (resL r h WL c again = LL) := hll
        have HGG : Hid (resG r h WL c again = GG) := hgg
        rw [hll] at kc hgood
        rw [hgg] at kc hog
        clear hll hgg
        have y0 : wc.cell? ⟨FX, 0, none⟩ = some (.int .i64 KK) := by simp [World.cell?, bXc]
        have y1 : wc.cell? ⟨FX, 1, none⟩ = some (.int .i64 AA) := by simp [World.cell?, bXc]
        have y2 : wc.cell? ⟨FX, 2, none⟩ = some (.int .i64 0) := by simp [World.cell?, bXc]
        have kd := kc.keep (below_drew wc)
        have hFBl := (Array.getElem?_eq_some_iff.1 bFc).1
        have hFH : ¬ FB = H := fun e => by
          obtain ⟨a, b, c', f, g', vl', e1, _⟩ := kc.blk
          rw [e, e1] at bFc; cases bFc
        have hFX1 : ¬ FB = FX := hFX
        have hHl := kc.ltH
        have hXl := (Array.getElem?_eq_some_iff.1 bXc).1
        go_wp2_with fail
        go_region_held3 (fun w' => w'.cell? ⟨H, 11, none⟩ = some vg ∧ w'.cell? ⟨FX, 0, none⟩ = some (.int .i64 KK) ∧ w'.cell? ⟨FX, 1, none⟩ = some (.int .i64 AA) ∧ w'.cell? ⟨FX, 2, none⟩ = some (.int .i64 0))
          (first | go_keep | exact ⟨by assumption, by assumption, by assumption, by assumption⟩)
          (first | (go_at_call 62; refine (hDumpL n0 H M r LL GG left dead _ kd hgood.1 (by omega)).mono ?_; rintro e w17 ⟨v17, rfl, ho17, q17⟩; have qq := below_trans (below_drew wc) q17; have s0 := (qq.cell (p := ⟨H, 11, none⟩) hHl).trans cg; have s1 := (qq.cell (p := ⟨FX, 0, none⟩) hXl).trans y0; have s2 := (qq.cell (p := ⟨FX, 1, none⟩) hXl).trans y1; have s3 := (qq.cell (p := ⟨FX, 2, none⟩) hXl).trans y2; have bF17 := (qq.block FB hFBl).trans bFc; have u0 := (show w17.cell? ⟨FB, 0, none⟩ = some (.int .i64 0) by simp [World.cell?, bF17]); have u1 := (show w17.cell? ⟨FB, 1, none⟩ = some (.int .i64 0) by simp [World.cell?, bF17]); have u2 := (show w17.cell? ⟨FB, 2, none⟩ = some (.int .i64 0) by simp [World.cell?, bF17]); have f0 := frozen_of_row w17 FB 0 _ _ bF17; have f1 := frozen_of_row w17 FB 1 _ _ bF17; have f2 := frozen_of_row w17 FB 2 _ _ bF17))
        have hne1 : v17.ownBlock ≠ some FB := fun e => by have := (own_lt ho17 e).2; simp at this; omega
        have hne2 : vg.ownBlock ≠ some FB := fun e => by have := (own_lt hog e).2; omega
        have hogw := owns_below hog qq
        have o18 := ((ho17.kept (grown_cell w17 FB 0 (.int .i64 KK)) (.inr hne1)).kept (grown_cell _ FB 1 (.int .i64 AA)) (.inr hne1)).kept (grown_cell _ FB 2 (.int .i64 0)) (.inr hne1)
        have g18 := ((hogw.kept (grown_cell w17 FB 0 (.int .i64 KK)) (.inr hne2)).kept (grown_cell _ FB 1 (.int .i64 AA)) (.inr hne2)).kept (grown_cell _ FB 2 (.int .i64 0)) (.inr hne2)
        have x16 := heap_setCell_same w17 FB 0 _ _ (.int .i64 KK) bF17
        have x17 := heap_setCell_same _ FB 1 _ _ (.int .i64 AA) x16
        have x18 := heap_setCell_same _ FB 2 _ _ (.int .i64 0) x17
        have Q17 := Qc.trans (qq.mono Qc.size)
        have Q18 := ((Q17.setCell (p := ⟨FB, 0, none⟩) (Nat.le_of_eq hFB) (.int .i64 KK)).setCell (p := ⟨FB, 1, none⟩) (Nat.le_of_eq hFB) (.int .i64 AA)).setCell (p := ⟨FB, 2, none⟩) (Nat.le_of_eq hFB) (.int .i64 0)
        clear x16 x17 hogw hne1 hne2 s0 s1 s2 s3 u0 u1 u2 f0 f1 f2 ho17 hog q17 qq Qc Q17
        generalize ((w17.setCell ⟨FB, 0, none⟩ (.int .i64 KK)).setCell ⟨FB, 1, none⟩ (.int .i64 AA)).setCell ⟨FB, 2, none⟩ (.int .i64 0) = W18 at *
        have t0 : W18.cell? ⟨FB, 0, none⟩ = some (.int .i64 KK) := by simp [World.cell?, x18]
        have t1 : W18.cell? ⟨FB, 1, none⟩ = some (.int .i64 AA) := by simp [World.cell?, x18]
        have t2 : W18.cell? ⟨FB, 2, none⟩ = some (.int .i64 0) := by simp [World.cell?, x18]
        go_wp2_with fail
        rw [HHE.out, HWE.out, HKK.out, HAA.out, HLL.out, HGG.out]
        exact bodyPost_ret (v := .tuple #[v17, vg, .agg #[.int .i64 KK, .int .i64 AA, .int .i64 0]]) (by simp [results, Tryz.results29, go_sem, t0, t1, t2]) rfl ⟨v17, vg, rfl, EnsIn.of_owns o18, TxIn.of_owns g18, Q18⟩
end Go.Proofs.YtindifjhocgkbaaGreatDoor
