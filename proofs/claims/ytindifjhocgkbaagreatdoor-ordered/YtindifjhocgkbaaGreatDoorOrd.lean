import Derived.Test.YtindifjhocgkbaaGreatDoorEncA
import Derived.Test.YtindifjhocgkbaaGreatDoorDecA
import Derived.Test.YtindifjhocgkbaaGreatDoorAptB
import Derived.Test.YtindifjhocgkbaaGreatDoorKeepC
namespace Go.Proofs.YtindifjhocgkbaaGreatDoor
open Go.RowKit

/-- The number that pick tells. -/
def pickV (c n : Int) : Int := if c < 0 then (-(c + 1)) % n else c % n
theorem pickV_lo {c n : Int} (hn : 0 < n) : 0 ≤ pickV c n ∧ pickV c n < n := by
  unfold pickV
  split
  · exact ⟨Int.emod_nonneg _ (by omega), Int.emod_lt_of_pos _ hn⟩
  · exact ⟨Int.emod_nonneg _ (by omega), Int.emod_lt_of_pos _ hn⟩
set_option maxHeartbeats 1000000 in
theorem kPickV (c n : Int) (w : World) (hc : -9223372036854775808 ≤ c ∧ c ≤ 9223372036854775807) (hn : 0 < n) (hn' : n ≤ 4611686018427387904) :
    Calls Tryz.prog 22 #[.int .i64 c, .int .i64 n] w fun e w' => e = .returned (.int .i64 (pickV c n)) ∧ w' = w := by
  by_cases h : c < 0
  · have ev : pickV c n = (-(c + 1)) % n := by unfold pickV; rw [if_pos h]
    rw [ev]
    go_enter Tryz.func22, Tryz.ntmps22
    go_wp2
    go_ret
    have e1 : -((c + 1).tmod n) = (-(c + 1)) % n := by rw [← Int.neg_tmod, Int.tmod_eq_emod_of_nonneg (by omega)]
    exact ⟨by rw [e1]; rfl, rfl⟩
  · have ev : pickV c n = c % n := by unfold pickV; rw [if_neg h]
    rw [ev]
    go_enter Tryz.func22, Tryz.ntmps22
    go_wp2
    go_ret
    exact ⟨rfl, rfl⟩

/-- Tables, and what they hold. -/
structure OrI (w : World) (T F : Nat) (l : List En) (W : World) : Prop where
  t : TabIs W T l
  f : W.cell? ⟨F, 0, none⟩ = some (.pointer (some ⟨T, 0, none⟩))
  q : Below w.heap.size w W
theorem OrI.keep {w : World} {T F : Nat} {l : List En} {W W' : World} (h : OrI w T F l W) (q : Below W.heap.size W W') : OrI w T F l W' :=
  ⟨h.t.keep q, (q.cell (p := ⟨F, 0, none⟩) (cell_lt h.f)).trans h.f, below_trans h.q q⟩
theorem OrI.app {w : World} {T F : Nat} {l l' : List En} {W W' : World} (h : OrI w T F l W) (t : TabIs W' T l') (g : W.grownBy W' (some T)) (hd : F ≠ T ∧ w.heap.size ≤ T) : OrI w T F l' W' :=
  ⟨t, g.cell h.f (by simpa using hd.1), h.q.grown g h.q.size (fun b hb => by cases hb; exact hd.2)⟩
theorem or_start (w : World) : OrI w w.heap.size (w.heap.size + 1) [] ((w.alloc (.cells #[.slice none 0 0] 116)).alloc (.cells #[.pointer (some ⟨w.heap.size, 0, none⟩)] 77)) := by
  have q2 := below_alloc (w.alloc (.cells #[.slice none 0 0] 116)) (.cells #[.pointer (some ⟨w.heap.size, 0, none⟩)] 77)
  have t1 : TabIs (w.alloc (.cells #[.slice none 0 0] 116)) w.heap.size [] := ⟨_, heap_alloc_new _ _, World.ownsRow_nil _ _ _ _⟩
  exact ⟨t1.keep q2, World.cell?_alloc_at _ _ _ 0 (by simp), below_trans (below_alloc _ _) q2⟩

theorem staB_length {v : Int} {l : List En} (h : Ok l) : (staB v l).length ≤ 10 + l.length * 11 := by
  have h1 := ensV_length h
  rw [← ensB_cells h, cellsB_length] at h1
  simp [staB, beB]
  omega
/-- What is written is read as it was. -/
theorem sta_back {v : Int} {l : List En} (hv : verB v = true) (hl : l.length ≤ 65535) (ho : Ok l) (hs : Srt l) : ∃ S : ByteArray, staS v (layL l) = S ∧ sta S = .ok (v, l) ∧ S.size ≤ 1000000 ∧ verK v = 0 := by
  have e : staS v (layL l) = ⟨(staB v l).toArray⟩ := by rw [layL_same ho hs, staS, if_pos hv]
  have hn := staB_length (v := v) ho
  refine ⟨_, e, sta_enc hv hl ho hs (by simp), ?_, by unfold verK; rw [if_pos hv]⟩
  show (staB v l).toArray.size ≤ _
  simp
  omega
/-- A fault in a block of its own. -/
structure FzAt (W : World) (P : Nat) (k a : Int) : Prop where
  c0 : W.cell? ⟨P, 0, none⟩ = some (.int .i64 k)
  c1 : W.cell? ⟨P, 1, none⟩ = some (.int .i64 a)
  c2 : W.cell? ⟨P, 2, none⟩ = some (.int .i64 0)
  fr : ∀ i, W.frozen? ⟨P, i, none⟩ = false
theorem FzAt.keep {W W' : World} {P : Nat} {k a : Int} (h : FzAt W P k a) (q : Below W.heap.size W W') : FzAt W' P k a :=
  ⟨(q.cell (cell_lt h.c0)).trans h.c0, (q.cell (cell_lt h.c1)).trans h.c1, (q.cell (cell_lt h.c2)).trans h.c2, fun i => (q.frozen (p := ⟨P, i, none⟩) (show P < _ from cell_lt h.c0)).trans (h.fr i)⟩
theorem fz_new (W : World) (k a : Int) : FzAt (W.alloc (.cells #[.int .i64 k, .int .i64 a, .int .i64 0] 29)) W.heap.size k a :=
  ⟨by simp, by simp, by simp, fun i => World.frozen?_alloc_at _ _ _ i rfl⟩
theorem FzAt.set {W : World} {P : Nat} {k a : Int} (h : FzAt W P k a) (k' a' : Int) : FzAt (((W.setCell ⟨P, 0, none⟩ (.int .i64 k')).setCell ⟨P, 1, none⟩ (.int .i64 a')).setCell ⟨P, 2, none⟩ (.int .i64 0)) P k' a' := by
  have hne : ∀ i j : Nat, i ≠ j → (⟨P, i, none⟩ : Addr) ≠ ⟨P, j, none⟩ := fun i j h e => h (Addr.mk.inj e).2.1
  refine ⟨?_, ?_, ?_, fun i => by simp only [World.frozen?_setCell]; exact h.fr i⟩
  · rw [World.cell?_setCell_other _ _ _ _ (hne 2 0 (by decide)), World.cell?_setCell_other _ _ _ _ (hne 1 0 (by decide))]
    exact World.cell?_setCell_same _ _ _ h.c0
  · rw [World.cell?_setCell_other _ _ _ _ (hne 2 1 (by decide))]
    exact World.cell?_setCell_same _ _ _ ((World.cell?_setCell_other _ _ _ _ (hne 0 1 (by decide))).trans h.c1)
  · exact World.cell?_setCell_same _ _ _ ((World.cell?_setCell_other _ _ _ _ (hne 1 2 (by decide))).trans ((World.cell?_setCell_other _ _ _ _ (hne 0 2 (by decide))).trans h.c2))
theorem FzAt.other {W : World} {P : Nat} {k a : Int} (h : FzAt W P k a) (Q : Nat) (hQ : Q ≠ P) (o : Nat) (v : Value) : FzAt (W.setCell ⟨Q, o, none⟩ v) P k a := by
  have hc : ∀ i, (W.setCell ⟨Q, o, none⟩ v).cell? ⟨P, i, none⟩ = W.cell? ⟨P, i, none⟩ := fun i => World.cell?_setCell_other _ _ _ _ (fun e => hQ (Addr.mk.inj e).1)
  exact ⟨(hc 0).trans h.c0, (hc 1).trans h.c1, (hc 2).trans h.c2, fun i => by simp only [World.frozen?_setCell]; exact h.fr i⟩
theorem EnsIn.set {W : World} {b : Nat} {v : Value} {l : List En} {n base : Nat} {xs : List Value} {e size : Nat} (h : EnsIn W v l) (ho : W.ownsRow base e size v n xs) (hb : b < base) (o : Nat) (x : Value) : EnsIn (W.setCell ⟨b, o, none⟩ x) v l ∧ (W.setCell ⟨b, o, none⟩ x).ownsRow base e size v n xs := by
  have g : W.grownBy (W.setCell ⟨b, o, none⟩ x) (some b) := grown_set' (grown_refl _ _) rfl
  have hno : v.ownBlock ≠ some b := fun e1 => by have := (ho.lt b e1).1; omega
  refine ⟨h.grown (fun b' off n c hv e1 => hno (by rw [hv, e1]; rfl)) g, ho.kept g (.inr hno)⟩
theorem cb_less : ∀ (a b : List UInt8), Lib.compareBytes a b < 0 → Op.bytesLess a b = true
  | [], [], h => by simp [Lib.compareBytes] at h
  | _ :: _, [], h => by simp [Lib.compareBytes] at h
  | [], _ :: _, _ => by simp [Op.bytesLess]
  | x :: a, y :: b, h => by
    unfold Lib.compareBytes at h
    by_cases xy : x < y
    · simp [Op.bytesLess, xy]
    · by_cases yx : y < x
      · simp [xy, yx] at h
      · have := u8_tri xy yx
        subst this
        simp [xy] at h
        simp [Op.bytesLess, cb_less a b h]
theorem cmpB_less {a b : ByteArray} (h : cmpB a b < 0) : Op.bytesLess a.toList b.toList = true := by
  rw [ByteArray.toList_eq, ByteArray.toList_eq]; exact cb_less _ _ h
/-- Two neighbours in their order. -/
theorem srt_step {l : List En} (h : Srt l) (i : Nat) (hi : i + 1 < l.length) : l[i].t < l[i + 1].t ∨ (l[i].t = l[i + 1].t ∧ cmpB l[i].k l[i + 1].k < 0) := by
  have h1 := List.pairwise_iff_getElem.1 h i (i + 1) (by omega) hi (by omega)
  unfold cmpK at h1
  split at h1
  · rename_i h2
    exact .inr ⟨(cmpT_zero _ _).1 h2, h1⟩
  · unfold cmpT at h1
    split at h1
    · rename_i h3; exact .inl h3
    · split at h1 <;> omega
theorem IntsIn.sub {w : World} {b off n : Nat} (h : IntsIn w (some ⟨b, off, none⟩) n) (i m : Nat) (hm : i + m ≤ n) : IntsIn w (some ⟨b, off + i, none⟩) m := fun hp => by
  obtain ⟨b', off', e, hb, hc⟩ := h (by omega)
  simp only [Option.some.injEq, Addr.mk.injEq, and_true] at e
  obtain ⟨rfl, rfl⟩ := e
  refine ⟨b, off + i, rfl, hb, fun k hk => ?_⟩
  obtain ⟨x, h1, h2⟩ := hc (i + k) (by omega)
  exact ⟨x, by rw [← h1]; congr 2; omega, h2⟩
set_option maxRecDepth 10000 in
set_option maxHeartbeats 4000000 in
theorem kOrdered (v : Int) (ra : Option Addr) (n rc : Nat) (s : ByteArray) (w : World) (hv : -9223372036854775808 ≤ v ∧ v ≤ 9223372036854775807) (hn : n ≤ 9223372036854775800) (hrc : n ≤ rc) (_hrm : rc ≤ 9223372036854775807) (hr : IntsIn w ra n) (hs : s.size ≤ 140737488355328) (g : Glob w) (he : EtIs w) :
    Calls Tryz.prog 5 #[.int .i64 v, .slice ra n rc, .string s] w fun e w' => e = .returned (.bool true) ∧ Below w.heap.size w w' := by
  go_enter Tryz.func5, Tryz.ntmps5
  go_wp2_with fail
  refine (pFold _).mono ?_
  rintro e w1 ⟨rfl, rfl⟩
  have hI0 := or_start w
  have g2 := g.lt
  go_wp2_with fail
  generalize (w.alloc (.cells #[.slice none 0 0] 116)).alloc (.cells #[.pointer (some ⟨w.heap.size, 0, none⟩)] 77) = W0 at *
  have sn : Srt ([] : List En) := List.Pairwise.nil
  have on : Ok ([] : List En) := fun _ h => absurd h (by simp)
  go_loopw [9] (fun i wr => ∃ (K : Nat) (l : List En), K ≤ 160 ∧ K % 8 = 0 ∧ i = .int .i64 (K : Int) ∧ l.length ≤ K ∧ Srt l ∧ Ok l ∧ OrI w w.heap.size (w.heap.size + 1) l wr)
    (fun i _ => 200 - (intOf i).toNat)
  case atStart => exact ⟨0, [], by omega, rfl, rfl, by simp, sn, on, hI0⟩
  case round =>
    clear sn on hI0
    obtain ⟨K, l, hK1, hK8, rfl, hl, hsr, hok, hI⟩ := hrel
    have HS : Hid (Srt l) := hsr
    have HO : Hid (Ok l) := hok
    clear hsr hok
    by_cases hlt : K + 8 ≤ n ∧ K < 160
    · obtain ⟨hlt1, hlt2⟩ := hlt
      have il1 : ((K : Nat) : Int) + 8 ≤ (n : Int) := by omega
      have il2 : ((K : Nat) : Int) < 160 := by omega
      obtain ⟨b, off, rfl, hb, _⟩ := hr (by omega)
      have ilc : ((K : Nat) : Int) + 8 ≤ (rc : Int) := by omega
      have ilz : ¬ rc = K := by omega
      have hsub := (hr.keep hI.q).sub K 8 hlt1
      go_wp2_with fail
      refine (kDelta 1 _ 8 _ _ (by omega) hsub).mono ?_
      rintro e w2 ⟨d, ao, cp, rfl, gd, d1, d8, od, q2⟩
      have pd := pairOk_of gd
      have hw := wrongD_good (v := 1) (by decide) d1 d8 (of_pairOk pd)
      obtain ⟨ao', cp', e1, e2, _, e4, _⟩ := ops_of_own od
      simp only [Value.slice.injEq] at e1
      obtain ⟨rfl, _, rfl⟩ := e1
      have HA : Hid (aftD l 1 d = aft l d) := by show _ = _; unfold aftD; rw [hw]; rfl
      have HW : Hid (wrongD 1 d = (0, 0)) := hw
      clear hw gd
      have I2 := hI.keep q2
      have hTl := hI.t.lt
      clear hI
      go_wp2_with fail
      refine (fApply (w.heap.size + 1) w.heap.size l 1 ao cp d _ I2.f I2.t (by decide) e2 e4 (g.keep I2.q) (he.keep I2.q) (by omega) HS.out (by omega)).mono ?_
      rintro e w3 ⟨rfl, t3, g3⟩
      rw [HA.out] at t3
      rw [HW.out]
      have I3 := I2.app t3 g3 ⟨by omega, Nat.le_refl _⟩
      have hal := aft_length d l
      have HS3 : Hid (Srt (aft l d)) := aft_srt HS.out
      have HO3 : Hid (Ok (aft l d)) := aft_ok d l HO.out pd.1
      clear pd I2 e4 od
      go_wp2_with fail
      go_roundw
      case rel => exact ⟨K + 8, aft l d, by omega, by omega, by go_num, by omega, HS3.out, HO3.out, I3.keep (below_alloc _ _)⟩
      case measure => simp [intOf]; omega
    · have hlt' : (n : Int) < (K : Int) + 8 ∨ ((K : Int) + 8 ≤ (n : Int) ∧ (160 : Int) ≤ (K : Int)) := by omega
      clear hlt
      have hl1 : l.length ≤ 160 := by omega
      have hpv := pickV_lo (c := v) (n := 4611686018427387904) (by decide)
      obtain ⟨P, HP⟩ : ∃ P, Hid (pickV v 4611686018427387904 = P) := ⟨_, rfl⟩
      rw [HP.out] at hpv
      have HVB : Hid (verB (1 + P) = true) := by show _ = _; simp [verB]; omega
      obtain ⟨S, hS1, hS2, hS3, hS4⟩ := sta_back HVB.out (by omega) HO.out HS.out
      have HS1 : Hid (staS (1 + P) (layL l) = S) := hS1
      have HS2 : Hid (sta S = .ok (1 + P, l)) := hS2
      have HS4 : Hid (verK (1 + P) = 0) := hS4
      clear hS1 hS2 hS4
      rcases hlt' with hx1 | ⟨hx1, hx2⟩
      all_goals
        go_wp2_with fail
        refine (fEntries (w.heap.size + 1) w.heap.size l _ hI.f hI.t (by omega)).mono ?_
        rintro e w4 ⟨x, rfl, ox, q4⟩
        obtain ⟨xo, xc, rfl⟩ := own_slice ox
        have qw4 := below_trans hI.q q4
        go_wp2_with fail
        refine (kPickV v 4611686018427387904 _ hv (by decide) (by decide)).mono ?_
        rintro e w4 ⟨rfl, rfl⟩
        rw [HP.out]
        go_wp2_with fail
        refine (pEncodeAll (1 + P) _ l _ (EnsIn.of_owns ox) (by omega) (by omega) (g.keep qw4) (he.keep qw4)).mono ?_
        rintro e w5 ⟨rfl, q5⟩
        rw [HS1.out, HS4.out]
        have qw5 := below_trans qw4 q5
        go_wp2_with fail
        have F5 := fz_new w5 0 0
        have q55 := below_alloc w5 (.cells #[.int .i64 0, .int .i64 0, .int .i64 0] 29)
        have I5 := (EnsIn.of_owns ox).keep (below_trans q5 q55)
        have Q5 := below_trans qw5 q55
        have hFA : w.heap.size ≤ w5.heap.size := qw5.size
        clear q4 q5 qw4 qw5 q55 ox hI
        generalize w5.alloc (.cells #[.int .i64 0, .int .i64 0, .int .i64 0] 29) = W5 at *
        generalize w5.heap.size = FA at *
        refine (pDecodeAll S _ (g.keep Q5) (he.keep Q5) (by unfold maxLen; omega)).mono ?_
        rintro e w6 ⟨(⟨k, a, h1, _⟩ | ⟨v6, l6, y, h1, rfl, oy⟩), q6⟩
        · exact absurd (HS2.out.symm.trans h1) (by simp)
        obtain ⟨rfl, rfl⟩ : 1 + P = v6 ∧ l = l6 := by have := ok_inj (HS2.out.symm.trans h1); simpa using this
        clear h1
        obtain ⟨yo, yc, rfl⟩ := own_slice oy
        go_wp2_with fail
        have F6 := fz_new w6 0 0
        have q66 := below_alloc w6 (.cells #[.int .i64 0, .int .i64 0, .int .i64 0] 29)
        have F56 := (F5.keep q6).keep q66
        have I6 := (I5.keep q6).keep q66
        have J6 := (EnsIn.of_owns oy).keep q66
        have Q6 := below_trans (below_trans Q5 q6) q66
        have hGA : w.heap.size ≤ w6.heap.size := (below_trans Q5 q6).size
        have hFG : FA < w6.heap.size := Nat.lt_of_lt_of_le (cell_lt F5.c0) q6.size
        clear q6 q66 F5 I5 oy Q5
        generalize w6.alloc (.cells #[.int .i64 0, .int .i64 0, .int .i64 0] 29) = W6 at *
        generalize w6.heap.size = GA at *
        refine (kSame _ _ l (by omega) _ I6 J6).mono ?_
        rintro e w7 ⟨rfl, q7⟩
        have F7 := F6.keep q7
        have F57 := F56.keep q7
        have Q7 := below_trans Q6 q7
        clear F6 F56 I6 J6 Q6 q7
        have f50 := F57.c0
        have f51 := F57.c1
        have f52 := F57.c2
        have f70 := F7.c0
        have f71 := F7.c1
        have f72 := F7.c2
        go_wp2_with fail
        refine (kPickV v 4611686018427387904 _ hv (by decide) (by decide)).mono ?_
        rintro e w7 ⟨rfl, rfl⟩
        rw [HP.out]
        go_wp2_with fail
        clear f50 f51 f52 f70 f71 f72
        refine (pDecodeAll s _ (g.keep Q7) (he.keep Q7) (by unfold maxLen; omega)).mono ?_
        rintro e w8 ⟨(⟨k, a, h1, hk1, rfl⟩ | ⟨v8, l8, y, h1, rfl, oy⟩), q8⟩
        · have hpl := place_of_sta h1
          clear h1
          have F8 := F7.keep q8
          have f80 := F8.c0
          have f81 := F8.c1
          have f82 := F8.c2
          have z80 := F8.fr 0
          have z81 := F8.fr 1
          have z82 := F8.fr 2
          go_wp2_with fail
          go_ret
          exact ⟨rfl, (((below_trans Q7 q8).setCell (p := ⟨GA, 0, none⟩) hGA _).setCell (p := ⟨GA, 1, none⟩) hGA _).setCell (p := ⟨GA, 2, none⟩) hGA _⟩
        · obtain ⟨e1, e2, e3, e4, e5⟩ := enc_sta h1
          clear h1
          have HV8 : Hid (verB v8 = true) := e1
          have HO8 : Hid (Ok l8) := e3
          have HS8 : Hid (Srt l8) := e4
          have HB8 : Hid (s.data.toList = staB v8 l8) := e5
          clear e1 e3 e4 e5
          have F8 := F7.keep q8
          have f80 := F8.c0
          have f81 := F8.c1
          have f82 := F8.c2
          have z80 := F8.fr 0
          have z81 := F8.fr 1
          have z82 := F8.fr 2
          obtain ⟨mo, mc, rfl⟩ := own_slice oy
          have hG7 : GA < w7.heap.size := cell_lt F7.c0
          have E8 := EnsIn.of_owns oy
          have F9 := F8.set 0 0
          have F59 := (((F57.keep q8).other GA (by omega) 0 (.int .i64 0)).other GA (by omega) 1 (.int .i64 0)).other GA (by omega) 2 (.int .i64 0)
          have E81 := E8.set oy hG7 0 (.int .i64 0)
          have E82 := E81.1.set E81.2 hG7 1 (.int .i64 0)
          have E9 := (E82.1.set E82.2 hG7 2 (.int .i64 0)).1
          have Q9 := (((below_trans Q7 q8).setCell (p := ⟨GA, 0, none⟩) hGA (.int .i64 0)).setCell (p := ⟨GA, 1, none⟩) hGA (.int .i64 0)).setCell (p := ⟨GA, 2, none⟩) hGA (.int .i64 0)
          clear E8 E81 E82 oy F7 F57 Q7 q8
          go_wp2_with fail
          clear f80 f81 f82 z80 z81 z82 F8
          generalize ((w8.setCell ⟨GA, 0, none⟩ (.int .i64 0)).setCell ⟨GA, 1, none⟩ (.int .i64 0)).setCell ⟨GA, 2, none⟩ (.int .i64 0) = W9 at *
          go_loopw [18] (fun i wr => ∃ j : Nat, 1 ≤ j ∧ (j = 1 ∨ j ≤ l8.length) ∧ i = .int .i64 j ∧ Below W9.heap.size W9 wr)
            (fun i _ => l8.length - (intOf i).toNat)
          case atStart => exact ⟨1, by omega, .inl rfl, rfl, Below.refl _ _⟩
          case round =>
            obtain ⟨j, hj1, hj2, rfl, hq⟩ := hrel
            have E10 := E9.keep hq
            by_cases hlt : j < l8.length
            · rcases E10 with ⟨_, he0⟩ | ⟨mb, moff, mcap, hme, hmb, hmc⟩
              · rw [he0] at hlt; simp at hlt
              simp only [Value.slice.injEq] at hme
              obtain ⟨rfl, _, rfl⟩ := hme
              have ij : (j : Int) < (l8.length : Int) := by omega
              have hst := srt_step HS8.out (j - 1) (by omega)
              have ejj : j - 1 + 1 = j := by omega
              have d0 := hmc.c0 (j - 1) (by omega)
              have d1 := hmc.c1 (j - 1) (by omega)
              have u0 := hmc.c0 j (by omega)
              have u1 := hmc.c1 j (by omega)
              simp only [ejj] at hst
              have hw1 : IntKind.i64.wrap ((j : Int) - 1) = ((j - 1 : Nat) : Int) := by simp [IntKind.wrap, IntKind.bits, IntKind.signed]; omega
              have il1 : ((j - 1 : Nat) : Int) < (l8.length : Int) := by omega
              generalize l8[j - 1] = X at *
              generalize l8[j] = Y at *
              clear ejj
              generalize hjm : j - 1 = jm at *
              clear hjm
              rcases hst with ht | ⟨ht, hkk⟩
              · have hn1 : ¬ Y.t < X.t := by omega
                have hn2 : ¬ X.t = Y.t := by omega
                go_wp2_with fail
                go_quiet (fail)
                go_wp2_with fail
                go_roundw
                case rel => exact ⟨j + 1, by omega, .inr (by omega), by go_num, below_trans hq (below_drawn _ _)⟩
                case measure => simp [intOf]; omega
              · have hn1 : ¬ Y.t < X.t := by omega
                have hcb := cmpB_less hkk
                clear hkk
                rw [← ht] at u0
                clear ht
                go_wp2_with fail
                go_quiet (fail)
                go_wp2_with fail
                go_roundw
                case rel => exact ⟨j + 1, by omega, .inr (by omega), by go_num, below_trans hq (below_drawn _ _)⟩
                case measure => simp [intOf]; omega
            · have ij : ¬ (j : Int) < (l8.length : Int) := by omega
              have h80 : 0 ≤ v8 := by have := HV8.out; simp [verB] at this; omega
              have HE : Hid (staS v8 (layL l8) = s) := by
                show _ = _
                rw [layL_same HO8.out HS8.out, staS, if_pos HV8.out, ← HB8.out]
              have HK8 : Hid (verK v8 = 0) := by show _ = _; unfold verK; rw [if_pos HV8.out]
              have Q10 := below_trans Q9 hq
              have F10 := F59.keep hq
              go_wp2_with fail
              refine (pEncodeAll v8 _ l8 _ E10 h80 (by omega) (g.keep Q10) (he.keep Q10)).mono ?_
              rintro e w11 ⟨rfl, q11⟩
              rw [HE.out, HK8.out]
              have F11 := F10.keep q11
              have f0 := F11.c0
              have f1 := F11.c1
              have f2 := F11.c2
              have z0 := F11.fr 0
              have z1 := F11.fr 1
              have z2 := F11.fr 2
              go_wp2_with fail
              go_ret
              exact ⟨rfl, (((below_trans Q10 q11).setCell (p := ⟨FA, 0, none⟩) hFA _).setCell (p := ⟨FA, 1, none⟩) hFA _).setCell (p := ⟨FA, 2, none⟩) hFA _⟩
end Go.Proofs.YtindifjhocgkbaaGreatDoor
