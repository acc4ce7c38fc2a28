import Derived.Test.YtindifjhocgkbaaGreatDoorRcC
import Derived.Test.YtindifjhocgkbaaGreatDoorRmD
import Derived.Test.YtindifjhocgkbaaGreatDoorRmE
import Derived.Test.YtindifjhocgkbaaGreatDoorRmHToByt
namespace Go.Proofs.YtindifjhocgkbaaGreatDoor
open Go.RowKit
/-- What one entry that is there does to a list, and to how many may yet be done. -/
def aft1 (want : List En) (s : List En × Nat) (e : En) : List En × Nat := if want.any (isK e) = false ∧ 0 < s.2 then (del e.t e.k s.1, s.2 - 1) else s
/-- What one entry that is wanted does. -/
def aft2 (old : List En) (s : List En × Nat) (e : En) : List En × Nat := if old.any (isE e) = false ∧ 0 < s.2 then (put e s.1, s.2 - 1) else s
def afterL (h w : List En) (n : Nat) : List En := (w.foldl (aft2 h) (h.foldl (aft1 w) (h, n))).1
theorem fold_take {α β : Type} (f : β → α → β) (s : β) (l : List α) (j : Nat) (hj : j < l.length) : (l.take (j + 1)).foldl f s = f ((l.take j).foldl f s) l[j] := by
  rw [List.take_succ_eq_append_getElem hj, List.foldl_append]; rfl
/-- A list in order of at most so many entries, and at most so many that may be done. -/
def AfI (m n : Nat) (s : List En × Nat) : Prop := Srt s.1 ∧ s.1.length ≤ m ∧ s.2 ≤ n
theorem aft1_good {w : List En} {m n : Nat} {s : List En × Nat} {e : En} (h : AfI m n s) : AfI m n (aft1 w s e) := by
  unfold aft1
  split
  · exact ⟨del_srt h.1, Nat.le_trans (del_length _ _ _) h.2.1, by have := h.2.2; simp; omega⟩
  · exact h
theorem aft2_good {o : List En} {m n : Nat} {s : List En × Nat} {e : En} (h : AfI m n s) : AfI (m + 1) n (aft2 o s e) := by
  unfold aft2
  split
  · exact ⟨put_srt h.1, by have := put_length e s.1; have := h.2.1; simp; omega, by have := h.2.2; simp; omega⟩
  · exact ⟨h.1, by have := h.2.1; omega, h.2.2⟩
theorem aft1_fold {w : List En} {m n : Nat} : ∀ (l : List En) (s : List En × Nat), AfI m n s → AfI m n (l.foldl (aft1 w) s)
  | [], _, h => h
  | _ :: l, _, h => aft1_fold l _ (aft1_good h)
theorem aft2_fold {o : List En} {n : Nat} : ∀ (l : List En) (m : Nat) (s : List En × Nat), AfI m n s → AfI (m + l.length) n (l.foldl (aft2 o) s)
  | [], _, _, h => h
  | x :: l, m, s, h => by
    have := aft2_fold (o := o) l (m + 1) _ (aft2_good (o := o) (e := x) h)
    simpa [Nat.add_assoc, Nat.add_comm 1 l.length] using this
set_option maxRecDepth 10000 in
set_option maxHeartbeats 4000000 in
theorem rAfter (vh vw : Value) (h l : List En) (n : Nat) (w : World) (hh : EnsIn w vh h) (hw : EnsIn w vw l) (hs : Srt h) (hn : n ≤ 1000000) (hl1 : h.length ≤ 10000) (hl2 : l.length ≤ 10000) :
    Calls Tryz.prog 32 #[vh, vw, .int .i64 n] w fun e w' => ∃ y, e = .returned y ∧ EnsIn w' y (afterL h l n) ∧ Below w.heap.size w w' := by
  obtain ⟨ao, ac, rfl⟩ := hh.slice
  obtain ⟨bo, bc, rfl⟩ := hw.slice
  have HI0 : Hid (AfI h.length n (h, n)) := ⟨hs, Nat.le_refl _, Nat.le_refl _⟩
  clear hs
  go_enter Tryz.func32, Tryz.ntmps32
  go_wp2_with fail
  go_loopw [2, 7, 8] (fun c y i wr => ∃ (j : Nat) (L : List En) (N : Nat), j ≤ h.length ∧ c = .int .i64 N ∧ i = .int .i64 j ∧ Hid ((h.take j).foldl (aft1 l) (h, n) = (L, N)) ∧ EnsIn wr y L ∧ Below w.heap.size w wr)
    (fun _ _ i _ => h.length - (intOf i).toNat)
  case atStart => exact ⟨0, h, n, Nat.zero_le _, rfl, rfl, (show Hid _ from rfl), hh, Below.refl _ _⟩
  case round =>
    obtain ⟨j, L, N, hj, rfl, rfl, HL, hE, hq⟩ := hrel
    have hA := aft1_fold (w := l) (h.take j) _ HI0.out
    rw [HL.out] at hA
    obtain ⟨hA1, hA2, hA3⟩ := hA
    have HA1 : Hid (Srt L) := hA1
    clear hA1
    dsimp only at hA2 hA3
    obtain ⟨yo, yc, rfl⟩ := hE.slice
    have hw1 := hw.keep hq
    by_cases hlt : j < h.length
    · have HT : Hid ((h.take (j + 1)).foldl (aft1 l) (h, n) = aft1 l (L, N) h[j]) := by show _ = _; rw [fold_take _ _ _ _ hlt, HL.out]
      have HC : Hid (∀ W', Below w.heap.size w W' → ∃ b off, ao = some ⟨b, off, none⟩ ∧ W'.cell? ⟨b, off + j * 3, none⟩ = some (.int .i64 h[j].t) ∧ W'.cell? ⟨b, off + j * 3 + 1, none⟩ = some (.string h[j].k) ∧ W'.cell? ⟨b, off + j * 3 + 2, none⟩ = some (.string h[j].v)) := fun W' q => by
        obtain ⟨b, off, cap, hv, d0, d1, d2⟩ := hh.at q hlt
        simp only [Value.slice.injEq] at hv
        exact ⟨b, off, hv.1, d0, d1, d2⟩
      generalize h[j] = X at *
      obtain ⟨b, off, rfl, d0, d1, d2⟩ := HC.out _ hq
      have il : ((j : Nat) : Int) < (h.length : Int) := by omega
      clear HL
      go_wp2_with fail
      refine (rHeld _ X l _ hw1 (by omega)).mono ?_
      rintro e w2 ⟨rfl, q2⟩
      have hE2 := hE.keep q2
      have q3 := below_trans hq q2
      obtain ⟨b', off', hbo, d0', d1', d2'⟩ := HC.out _ q3
      simp only [Option.some.injEq, Addr.mk.injEq, and_true] at hbo
      obtain ⟨rfl, rfl⟩ := hbo
      clear d0 d1 d2 hE hq q2 hw1
      cases hk : l.any (isK X)
      · by_cases hN : N = 0
        · subst hN
          have HT2 : Hid (aft1 l (L, 0) X = (L, 0)) := by show _ = _; simp [aft1]
          go_wp2_with fail
          go_roundw
          case rel => exact ⟨j + 1, L, 0, by omega, rfl, by go_num, by rw [HT.out]; exact HT2, hE2, q3⟩
          case measure => simp [intOf]; omega
        · have HT2 : Hid (aft1 l (L, N) X = (del X.t X.k L, N - 1)) := by show _ = _; unfold aft1; rw [if_pos ⟨hk, by simp; omega⟩]
          have iN : (0 : Int) < (N : Int) := by omega
          have iN2 : (N : Int) ≤ 1000000 := by omega
          go_wp2_with fail
          refine (rWith _ L X true _ hE2 (by omega)).mono ?_
          rintro ev w4 ⟨y, rfl, oy, q4⟩
          rw [withR_del HA1.out] at oy
          obtain ⟨zo, zc, rfl⟩ := own_slice oy
          go_wp2_with fail
          go_roundw
          case rel => exact ⟨j + 1, _, N - 1, by omega, by go_num, by go_num, by rw [HT.out]; exact HT2, EnsIn.of_owns oy, below_trans q3 q4⟩
          case measure => simp [intOf]; omega
      · have HT2 : Hid (aft1 l (L, N) X = (L, N)) := by show _ = _; simp [aft1, hk]
        go_wp2_with fail
        go_roundw
        case rel => exact ⟨j + 1, L, N, by omega, rfl, by go_num, by rw [HT.out]; exact HT2, hE2, q3⟩
        case measure => simp [intOf]; omega
    · obtain rfl : j = h.length := by omega
      have HF : Hid (h.foldl (aft1 l) (h, n) = (L, N)) := by have := HL.out; rw [List.take_length] at this; exact this
      clear HL
      go_wp2_with fail
      have HI1 : Hid (AfI h.length n (L, N)) := ⟨HA1.out, hA2, hA3⟩
      go_loopw [2, 7, 10] (fun c y i wr => ∃ (j : Nat) (L2 : List En) (N2 : Nat), j ≤ l.length ∧ c = .int .i64 N2 ∧ i = .int .i64 j ∧ Hid ((l.take j).foldl (aft2 h) (L, N) = (L2, N2)) ∧ EnsIn wr y L2 ∧ Below w.heap.size w wr)
        (fun _ _ i _ => l.length - (intOf i).toNat)
      case atStart => exact ⟨0, L, N, Nat.zero_le _, rfl, rfl, (show Hid _ from rfl), hE, hq⟩
      case round =>
        clear hE hq hw1 HA1 hA2 hA3
        obtain ⟨j, L2, N2, hj, rfl, rfl, HL, hE, hq⟩ := hrel
        have hA := aft2_fold (o := h) (l.take j) _ _ HI1.out
        rw [HL.out] at hA
        obtain ⟨hA1, hA2, hA3⟩ := hA
        have HA1 : Hid (Srt L2) := hA1
        clear hA1
        simp only [List.length_take] at hA2 hA3
        obtain ⟨yo, yc, rfl⟩ := hE.slice
        have hh1 := hh.keep hq
        by_cases hlt : j < l.length
        · have HT : Hid ((l.take (j + 1)).foldl (aft2 h) (L, N) = aft2 h (L2, N2) l[j]) := by show _ = _; rw [fold_take _ _ _ _ hlt, HL.out]
          have HC : Hid (∀ W', Below w.heap.size w W' → ∃ b off, bo = some ⟨b, off, none⟩ ∧ W'.cell? ⟨b, off + j * 3, none⟩ = some (.int .i64 l[j].t) ∧ W'.cell? ⟨b, off + j * 3 + 1, none⟩ = some (.string l[j].k) ∧ W'.cell? ⟨b, off + j * 3 + 2, none⟩ = some (.string l[j].v)) := fun W' q => by
            obtain ⟨b, off, cap, hv, d0, d1, d2⟩ := hw.at q hlt
            simp only [Value.slice.injEq] at hv
            exact ⟨b, off, hv.1, d0, d1, d2⟩
          generalize l[j] = X at *
          obtain ⟨b, off, rfl, d0, d1, d2⟩ := HC.out _ hq
          have il : ((j : Nat) : Int) < (l.length : Int) := by omega
          clear HL
          go_wp2_with fail
          refine (rHas _ X h _ hh1 (by omega)).mono ?_
          rintro e w2 ⟨rfl, q2⟩
          have hE2 := hE.keep q2
          have q3 := below_trans hq q2
          obtain ⟨b', off', hbo, d0', d1', d2'⟩ := HC.out _ q3
          simp only [Option.some.injEq, Addr.mk.injEq, and_true] at hbo
          obtain ⟨rfl, rfl⟩ := hbo
          clear d0 d1 d2 hE hq q2 hh1
          cases hk : h.any (isE X)
          · by_cases hN : N2 = 0
            · subst hN
              have HT2 : Hid (aft2 h (L2, 0) X = (L2, 0)) := by show _ = _; simp [aft2]
              go_wp2_with fail
              go_roundw
              case rel => exact ⟨j + 1, L2, 0, by omega, rfl, by go_num, by rw [HT.out]; exact HT2, hE2, q3⟩
              case measure => simp [intOf]; omega
            · have HT2 : Hid (aft2 h (L2, N2) X = (put X L2, N2 - 1)) := by show _ = _; unfold aft2; rw [if_pos ⟨hk, by simp; omega⟩]
              have iN : (0 : Int) < (N2 : Int) := by omega
              have iN2 : (N2 : Int) ≤ 1000000 := by omega
              go_wp2_with fail
              refine (rWith _ L2 X false _ hE2 (by omega)).mono ?_
              rintro ev w4 ⟨y, rfl, oy, q4⟩
              rw [withR_put HA1.out] at oy
              obtain ⟨zo, zc, rfl⟩ := own_slice oy
              go_wp2_with fail
              go_roundw
              case rel => exact ⟨j + 1, _, N2 - 1, by omega, by go_num, by go_num, by rw [HT.out]; exact HT2, EnsIn.of_owns oy, below_trans q3 q4⟩
              case measure => simp [intOf]; omega
          · have HT2 : Hid (aft2 h (L2, N2) X = (L2, N2)) := by show _ = _; simp [aft2, hk]
            go_wp2_with fail
            go_roundw
            case rel => exact ⟨j + 1, L2, N2, by omega, rfl, by go_num, by rw [HT.out]; exact HT2, hE2, q3⟩
            case measure => simp [intOf]; omega
        · obtain rfl : j = l.length := by omega
          have HF2 : Hid (afterL h l n = L2) := by
            have := HL.out
            rw [List.take_length] at this
            show _ = _
            unfold afterL
            rw [HF.out, this]
          clear HL
          go_wp2
          go_ret
          exact ⟨_, rfl, by rw [HF2.out]; exact hE, hq⟩
end Go.Proofs.YtindifjhocgkbaaGreatDoor
namespace Go.Proofs.YtindifjhocgkbaaGreatDoor
open Go.RowKit
/-! ### What is done to a datapath, as lists -/
theorem mem_del {t : Int} {k : ByteArray} {l : List En} (hs : Srt l) {y : En} : y ∈ del t k l ↔ y ∈ l ∧ ¬ (y.t = t ∧ y.k = k) := by
  have e := del_filter (e := ⟨t, k, k⟩) hs
  dsimp only at e
  rw [← e, List.mem_filter]
  simp only [sameE, Bool.not_eq_true', decide_eq_false_iff_not]
theorem mem_put {e y : En} {l : List En} (hs : Srt l) : y ∈ put e l ↔ y = e ∨ (y ∈ l ∧ ¬ (y.t = e.t ∧ y.k = e.k)) := by
  rw [(put_perm e l).mem_iff, List.mem_cons, mem_del hs]
theorem srt_extM {a b : List En} (ha : Srt a) (hb : Srt b) (h : ∀ y, y ∈ a ↔ y ∈ b) : a = b := by
  induction a generalizing b with
  | nil =>
    cases b with
    | nil => rfl
    | cons y b => exact absurd ((h y).2 (by simp)) (by simp)
  | cons x a ih =>
    cases b with
    | nil => exact absurd ((h x).1 (by simp)) (by simp)
    | cons y b =>
      obtain ⟨a1, a2⟩ := List.pairwise_cons.1 ha
      obtain ⟨b1, b2⟩ := List.pairwise_cons.1 hb
      have hxy : x = y := by
        rcases List.mem_cons.1 ((h x).1 (by simp)) with e | e
        · exact e
        · rcases List.mem_cons.1 ((h y).2 (by simp)) with e' | e'
          · exact e'.symm
          · have c1 := b1 x e
            have c2 := a1 y e'
            rw [cmpK_neg] at c1
            omega
      subst hxy
      have irr : ∀ {l : List En}, (∀ z ∈ l, cmpK x.t x.k z.t z.k < 0) → x ∉ l := fun hl hx => by
        have := hl x hx
        rw [(cmpK_zero _ _ _ _).2 ⟨rfl, rfl⟩] at this
        omega
      rw [ih a2 b2 (fun z => ?_)]
      constructor
      · intro hz
        rcases List.mem_cons.1 ((h z).1 (List.mem_cons_of_mem _ hz)) with e | e
        · exact absurd (e ▸ hz) (irr a1)
        · exact e
      · intro hz
        rcases List.mem_cons.1 ((h z).2 (List.mem_cons_of_mem _ hz)) with e | e
        · exact absurd (e ▸ hz) (irr b1)
        · exact e
theorem any_isK {e : En} {l : List En} (hs : Srt l) : l.any (isK e) = fnd e.t e.k l := by
  rw [Bool.eq_iff_iff, List.any_eq_true, fnd_mem hs]
  simp [isK]
theorem any_isE {e : En} {l : List En} : l.any (isE e) = true ↔ e ∈ l := by
  rw [List.any_eq_true]
  constructor
  · rintro ⟨x, hx, h⟩
    simp [isE] at h
    obtain ⟨x1, x2, x3⟩ := x
    obtain ⟨e1, e2, e3⟩ := e
    simp_all
  · intro h
    exact ⟨e, h, by simp [isE]⟩
theorem any_isE' {e : En} {l : List En} (hs : Srt l) : l.any (isE e) = decide (got e.t e.k l = some e.v) := by
  rw [Bool.eq_iff_iff, any_isE, decide_eq_true_iff, got_mem hs]
  constructor
  · intro h; exact ⟨e, h, rfl, rfl, rfl⟩
  · rintro ⟨x, hx, h1, h2, h3⟩
    obtain ⟨x1, x2, x3⟩ := x
    obtain ⟨e1, e2, e3⟩ := e
    simp_all
theorem cnt_perm (t : Int) {a b : List En} (h : a.Perm b) : cntT t a = cntT t b := (h.filter _).length_eq
/-- Of fewer keys there are fewer in a table. -/
theorem cnt_lt {t : Int} {k : ByteArray} : ∀ {l w : List En}, Srt l → Srt w → (∀ x ∈ l, fnd x.t x.k w = true) → fnd t k w = true → fnd t k l = false → cntT t l < cntT t w
  | [], w, _, hw, _, hf, _ => by
    obtain ⟨x, _, xt, _, xp⟩ := del_perm hf
    rw [cnt_perm t xp, cntT_cons, if_pos xt, show cntT t [] = 0 from rfl]
    omega
  | x :: l, w, hl, hw, hsub, hf, hn => by
    obtain ⟨h1, h2⟩ := List.pairwise_cons.1 hl
    have hnx : ¬ (x.t = t ∧ x.k = k) := fun e => by
      rw [(fnd_mem hl).2 ⟨x, by simp, e⟩] at hn; cases hn
    have hnl : fnd t k l = false := by
      cases hc : fnd t k l
      · rfl
      · obtain ⟨y, hy, e⟩ := (fnd_mem h2).1 hc
        rw [(fnd_mem hl).2 ⟨y, by simp [hy], e⟩] at hn; cases hn
    obtain ⟨y, hy, yt, yk, yp⟩ := del_perm (hsub x (by simp))
    have ih := cnt_lt (t := t) (k := k) h2 (del_srt (t := x.t) (k := x.k) hw) (fun z hz => ?_) ?_ hnl
    · rw [cntT_cons, cnt_perm t yp, cntT_cons, yt]
      omega
    · obtain ⟨u, hu, ut, uk⟩ := (fnd_mem hw).1 (hsub z (by simp [hz]))
      refine (fnd_mem (del_srt hw)).2 ⟨u, (mem_del hw).2 ⟨hu, fun e => ?_⟩, ut, uk⟩
      have := h1 z hz
      rw [← ut, ← uk, e.1, e.2, (cmpK_zero _ _ _ _).2 ⟨rfl, rfl⟩] at this
      omega
    · obtain ⟨u, hu, ut, uk⟩ := (fnd_mem hw).1 hf
      exact (fnd_mem (del_srt hw)).2 ⟨u, (mem_del hw).2 ⟨hu, fun e => hnx ⟨e.1 ▸ ut, e.2 ▸ uk⟩⟩, ut, uk⟩
/-! ### The texts of what is done -/
/-- One more call, while so many are left: a drop of an entry that is there. -/
def rec1 (want : List En) (s : (List En × Nat) × List ByteArray) (e : En) : (List En × Nat) × List ByteArray :=
  if want.any (isK e) = false ∧ 0 < s.1.2 then ((del e.t e.k s.1.1, s.1.2 - 1), s.2 ++ [dropT e]) else s
def rec2 (old : List En) (s : (List En × Nat) × List ByteArray) (e : En) : (List En × Nat) × List ByteArray :=
  if old.any (isE e) = false ∧ 0 < s.1.2 then ((put e s.1.1, s.1.2 - 1), s.2 ++ [putT e]) else s
theorem rec1_fst (w : List En) (s : (List En × Nat) × List ByteArray) (e : En) : (rec1 w s e).1 = aft1 w s.1 e := by
  unfold rec1 aft1; split <;> rfl
theorem rec2_fst (h : List En) (s : (List En × Nat) × List ByteArray) (e : En) : (rec2 h s e).1 = aft2 h s.1 e := by
  unfold rec2 aft2; split <;> rfl
theorem rec1_fold (w : List En) : ∀ (l : List En) (s : (List En × Nat) × List ByteArray), (l.foldl (rec1 w) s).1 = l.foldl (aft1 w) s.1
  | [], _ => rfl
  | e :: l, s => by rw [List.foldl_cons, List.foldl_cons, rec1_fold w l, rec1_fst]
theorem rec2_fold (h : List En) : ∀ (l : List En) (s : (List En × Nat) × List ByteArray), (l.foldl (rec2 h) s).1 = l.foldl (aft2 h) s.1
  | [], _ => rfl
  | e :: l, s => by rw [List.foldl_cons, List.foldl_cons, rec2_fold h l, rec2_fst]
/-- What is done in all. -/
def doneL (h w : List En) : List ByteArray := (h.filter (fun e => !w.any (isK e))).map dropT ++ (w.filter (fun e => !h.any (isE e))).map putT
theorem rec1_log (w : List En) : ∀ (l L : List En) (n : Nat) (g : List ByteArray), (l.foldl (rec1 w) ((L, n), g)).2 = g ++ ((l.filter (fun e => !w.any (isK e))).map dropT).take n ∧ (l.foldl (rec1 w) ((L, n), g)).1.2 = n - (l.filter (fun e => !w.any (isK e))).length
  | [], L, n, g => by simp
  | e :: l, L, n, g => by
    rw [List.foldl_cons]
    cases hk : w.any (isK e)
    · cases n with
      | zero =>
        have : rec1 w ((L, 0), g) e = ((L, 0), g) := by simp [rec1]
        rw [this]
        obtain ⟨h1, h2⟩ := rec1_log w l L 0 g
        rw [h1, h2]; simp
      | succ n =>
        have : rec1 w ((L, n + 1), g) e = ((del e.t e.k L, n), g ++ [dropT e]) := by simp [rec1, hk]
        rw [this]
        obtain ⟨h1, h2⟩ := rec1_log w l (del e.t e.k L) n (g ++ [dropT e])
        rw [h1, h2]
        simp [hk]
    · have : rec1 w ((L, n), g) e = ((L, n), g) := by simp [rec1, hk]
      rw [this]
      obtain ⟨h1, h2⟩ := rec1_log w l L n g
      rw [h1, h2]; simp [hk]
theorem rec2_log (h : List En) : ∀ (l L : List En) (n : Nat) (g : List ByteArray), (l.foldl (rec2 h) ((L, n), g)).2 = g ++ ((l.filter (fun e => !h.any (isE e))).map putT).take n
  | [], L, n, g => by simp
  | e :: l, L, n, g => by
    rw [List.foldl_cons]
    cases hk : h.any (isE e)
    · cases n with
      | zero =>
        have : rec2 h ((L, 0), g) e = ((L, 0), g) := by simp [rec2]
        rw [this, rec2_log h l L 0 g]; simp
      | succ n =>
        have : rec2 h ((L, n + 1), g) e = ((put e L, n), g ++ [putT e]) := by simp [rec2, hk]
        rw [this, rec2_log h l (put e L) n (g ++ [putT e])]
        simp [hk]
    · have : rec2 h ((L, n), g) e = ((L, n), g) := by simp [rec2, hk]
      rw [this, rec2_log h l L n g]; simp [hk]
/-- All that a datapath goes through. -/
def recAll (h w : List En) (n : Nat) : (List En × Nat) × List ByteArray := w.foldl (rec2 h) (h.foldl (rec1 w) ((h, n), []))
theorem recAll_list (h w : List En) (n : Nat) : (recAll h w n).1.1 = afterL h w n := by
  unfold recAll afterL
  rw [rec2_fold, rec1_fold]
theorem recAll_log (h w : List En) (n : Nat) : (recAll h w n).2 = (doneL h w).take n := by
  unfold recAll doneL
  obtain ⟨h1, h2⟩ := rec1_log w h h n []
  generalize h.foldl (rec1 w) ((h, n), []) = s at *
  obtain ⟨⟨L, m⟩, g⟩ := s
  dsimp only at h1 h2
  rw [rec2_log, h1, h2, List.take_append]
  simp
theorem afterL_zero (h w : List En) : afterL h w 0 = h := by
  have a1 : ∀ l : List En, l.foldl (aft1 w) (h, 0) = (h, 0) := fun l => by induction l with | nil => rfl | cons x l ih => rw [List.foldl_cons, show aft1 w (h, 0) x = (h, 0) by simp [aft1]]; exact ih
  have a2 : ∀ l : List En, l.foldl (aft2 h) (h, 0) = (h, 0) := fun l => by induction l with | nil => rfl | cons x l ih => rw [List.foldl_cons, show aft2 h (h, 0) x = (h, 0) by simp [aft2]]; exact ih
  unfold afterL
  rw [a1, a2]
/-- Behind the drops: all that were there but for those that were dropped. -/
theorem drops_mem {h w : List En} (hs : Srt h) : ∀ (l L : List En) (n : Nat), Srt L → (∀ x ∈ l, x ∈ h) → (∀ x ∈ L, x ∈ h) →
    Srt (l.foldl (aft1 w) (L, n)).1 ∧ ∀ y, y ∈ (l.foldl (aft1 w) (L, n)).1 ↔ y ∈ L ∧ y ∉ (l.filter (fun e => !w.any (isK e))).take n
  | [], L, n, hL, _, _ => ⟨hL, fun y => by simp⟩
  | e :: l, L, n, hL, hsub, hLh => by
    rw [List.foldl_cons]
    cases hk : w.any (isK e)
    · rw [List.filter_cons_of_pos (by simp [hk])]
      cases n with
      | zero =>
        have e1 : aft1 w (L, 0) e = (L, 0) := by simp [aft1]
        rw [e1]
        obtain ⟨h1, h3⟩ := drops_mem hs l L 0 hL (fun x hx => hsub x (by simp [hx])) hLh
        refine ⟨h1, fun y => ?_⟩
        rw [h3]; simp
      | succ n =>
        have e1 : aft1 w (L, n + 1) e = (del e.t e.k L, n) := by simp [aft1, hk]
        rw [e1]
        obtain ⟨h1, h3⟩ := drops_mem hs l (del e.t e.k L) n (del_srt hL) (fun x hx => hsub x (by simp [hx])) (fun x hx => hLh x ((mem_del hL).1 hx).1)
        refine ⟨h1, fun y => ?_⟩
        rw [h3, mem_del hL, List.take_succ_cons, List.mem_cons, not_or]
        constructor
        · rintro ⟨⟨a, b⟩, c⟩
          exact ⟨a, fun d => b (by subst d; exact ⟨rfl, rfl⟩), c⟩
        · rintro ⟨a, b, c⟩
          exact ⟨⟨a, fun d => b (srt_uniq hs (hLh y a) (hsub e (by simp)) d.1 d.2)⟩, c⟩
    · rw [List.filter_cons_of_neg (by simp [hk])]
      have e1 : aft1 w (L, n) e = (L, n) := by simp [aft1, hk]
      rw [e1]
      exact drops_mem hs l L n hL (fun x hx => hsub x (by simp [hx])) hLh
/-- Behind the puts. -/
theorem puts_mem {h : List En} : ∀ (s L : List En) (n : Nat), Srt L → Srt s →
    Srt (s.foldl (aft2 h) (L, n)).1 ∧ ∀ y, y ∈ (s.foldl (aft2 h) (L, n)).1 ↔ y ∈ (s.filter (fun e => !h.any (isE e))).take n ∨ (y ∈ L ∧ ∀ z ∈ (s.filter (fun e => !h.any (isE e))).take n, ¬ (z.t = y.t ∧ z.k = y.k))
  | [], L, n, hL, _ => ⟨hL, fun y => by simp⟩
  | e :: s, L, n, hL, hS => by
    obtain ⟨hS1, hS2⟩ := List.pairwise_cons.1 hS
    rw [List.foldl_cons]
    cases hk : h.any (isE e)
    · rw [List.filter_cons_of_pos (by simp [hk])]
      cases n with
      | zero =>
        have e1 : aft2 h (L, 0) e = (L, 0) := by simp [aft2]
        rw [e1]
        obtain ⟨h1, h3⟩ := puts_mem (h := h) s L 0 hL hS2
        refine ⟨h1, fun y => ?_⟩
        rw [h3]; simp
      | succ n =>
        have e1 : aft2 h (L, n + 1) e = (put e L, n) := by simp [aft2, hk]
        rw [e1]
        obtain ⟨h1, h3⟩ := puts_mem (h := h) s (put e L) n (put_srt hL) hS2
        have hne : ∀ z ∈ (s.filter (fun e => !h.any (isE e))).take n, ¬ (z.t = e.t ∧ z.k = e.k) := fun z hz q => by
          have := hS1 z (List.mem_filter.1 (List.mem_of_mem_take hz)).1
          rw [q.1, q.2, (cmpK_zero _ _ _ _).2 ⟨rfl, rfl⟩] at this
          omega
        refine ⟨h1, fun y => ?_⟩
        rw [h3, mem_put hL, List.take_succ_cons, List.mem_cons]
        generalize (s.filter (fun e => !h.any (isE e))).take n = T at *
        constructor
        · rintro (a | ⟨rfl | ⟨a, b⟩, c⟩)
          · exact .inl (.inr a)
          · exact .inl (.inl rfl)
          · refine .inr ⟨a, fun z hz => ?_⟩
            rcases List.mem_cons.1 hz with rfl | hz
            · exact fun q => b ⟨q.1.symm, q.2.symm⟩
            · exact c z hz
        · rintro ((rfl | a) | ⟨a, b⟩)
          · exact .inr ⟨.inl rfl, hne⟩
          · exact .inl a
          · exact .inr ⟨.inr ⟨a, fun q => b e (by simp) ⟨q.1.symm, q.2.symm⟩⟩, fun z hz => b z (by simp [hz])⟩
    · rw [List.filter_cons_of_neg (by simp [hk])]
      have e1 : aft2 h (L, n) e = (L, n) := by simp [aft2, hk]
      rw [e1]
      exact puts_mem (h := h) s L n hL hS2
/-- The drops, and the puts. -/
def dropsL (h w : List En) : List En := h.filter (fun e => !w.any (isK e))
def putsL (h w : List En) : List En := w.filter (fun e => !h.any (isE e))
theorem afterL_mem {h w : List En} (hs : Srt h) (hw : Srt w) (n : Nat) : Srt (afterL h w n) ∧ ∀ y, y ∈ afterL h w n ↔ y ∈ (putsL h w).take (n - (dropsL h w).length) ∨ ((y ∈ h ∧ y ∉ (dropsL h w).take n) ∧ ∀ z ∈ (putsL h w).take (n - (dropsL h w).length), ¬ (z.t = y.t ∧ z.k = y.k)) := by
  unfold afterL
  obtain ⟨h1, h3⟩ := drops_mem (w := w) hs h h n hs (fun _ hx => hx) (fun _ hx => hx)
  have h4 := (rec1_log w h h n []).2
  rw [rec1_fold] at h4
  dsimp only at h4
  generalize h.foldl (aft1 w) (h, n) = s at *
  obtain ⟨L, m⟩ := s
  dsimp only at h1 h3 h4
  subst h4
  obtain ⟨k1, k2⟩ := puts_mem (h := h) w L (n - (h.filter (fun e => !w.any (isK e))).length) h1 hw
  refine ⟨k1, fun y => ?_⟩
  rw [k2, h3]
  rfl
theorem mem_drops {h w : List En} {y : En} : y ∈ dropsL h w ↔ y ∈ h ∧ w.any (isK y) = false := by simp [dropsL]
theorem mem_puts {h w : List En} {y : En} : y ∈ putsL h w ↔ y ∈ w ∧ y ∉ h := by
  unfold putsL
  rw [List.mem_filter]
  have := @any_isE y h
  cases hc : h.any (isE y) <;> simp_all
theorem inK {w : List En} {y : En} (h : y ∈ w) : w.any (isK y) = true := List.any_eq_true.2 ⟨y, h, by simp [isK]⟩
theorem inK' {w : List En} {y z : En} (h : z ∈ w) (ht : z.t = y.t) (hk : z.k = y.k) : w.any (isK y) = true := List.any_eq_true.2 ⟨z, h, by simp [isK, ht, hk]⟩
theorem mem_drop_srt {D : List En} (hs : Srt D) (n : Nat) (y : En) : y ∈ D.drop n ↔ y ∈ D ∧ y ∉ D.take n := by
  have e := List.take_append_drop n D
  constructor
  · intro h
    refine ⟨List.mem_of_mem_drop h, fun h' => ?_⟩
    rw [← e] at hs
    have := (List.pairwise_append.1 hs).2.2 y h' y h
    rw [(cmpK_zero _ _ _ _).2 ⟨rfl, rfl⟩] at this
    omega
  · rintro ⟨a, b⟩
    rw [← e] at a
    rcases List.mem_append.1 a with a | a
    · exact absurd a b
    · exact a
theorem srt_filter {l : List En} (h : Srt l) (p : En → Bool) : Srt (l.filter p) := List.Pairwise.filter p h
theorem srt_drop {l : List En} (h : Srt l) (n : Nat) : Srt (l.drop n) := List.Pairwise.sublist (List.drop_sublist n l) h
theorem afterL_all {h w : List En} (hs : Srt h) (hw : Srt w) {n : Nat} (hn : h.length + w.length ≤ n) : afterL h w n = w := by
  obtain ⟨h1, h2⟩ := afterL_mem hs hw n
  have l1 : (dropsL h w).length ≤ h.length := List.length_filter_le _ _
  have l2 : (putsL h w).length ≤ w.length := List.length_filter_le _ _
  refine srt_extM h1 hw (fun y => ?_)
  rw [h2, List.take_of_length_le (by omega), List.take_of_length_le (by omega)]
  constructor
  · rintro (a | ⟨⟨a, b⟩, c⟩)
    · exact (mem_puts.1 a).1
    · have hk : w.any (isK y) = true := by
        cases hc : w.any (isK y)
        · exact absurd (mem_drops.2 ⟨a, hc⟩) b
        · rfl
      obtain ⟨z, hz, e⟩ := List.any_eq_true.1 hk
      simp [isK] at e
      by_cases hh : z ∈ h
      · rw [← srt_uniq hs hh a e.1 e.2]; exact hz
      · exact absurd e (c z (mem_puts.2 ⟨hz, hh⟩))
  · intro a
    by_cases hh : y ∈ h
    · refine .inr ⟨⟨hh, fun b => ?_⟩, fun z hz e => ?_⟩
      · have := (mem_drops.1 b).2
        rw [inK a] at this; cases this
      · have hz' := mem_puts.1 hz
        rw [srt_uniq hw hz'.1 a e.1 e.2] at hz'
        exact hz'.2 hh
    · exact .inl (mem_puts.2 ⟨a, hh⟩)
/-- What is yet to be done behind the first n. -/
theorem doneL_after {h w : List En} (hs : Srt h) (hw : Srt w) (n : Nat) : doneL (afterL h w n) w = (doneL h w).drop n := by
  obtain ⟨h1, h2⟩ := afterL_mem hs hw n
  have clash : ∀ {y z : En}, z ∈ (putsL h w).take (n - (dropsL h w).length) → z.t = y.t → z.k = y.k → w.any (isK y) = true := fun {y z} hz a b => inK' (mem_puts.1 (List.mem_of_mem_take hz)).1 a b
  have d1 : dropsL (afterL h w n) w = (dropsL h w).drop n := by
    refine srt_extM (srt_filter h1 _) (srt_drop (srt_filter hs _) n) (fun y => ?_)
    rw [mem_drop_srt (show Srt (dropsL h w) from srt_filter hs _), mem_drops, mem_drops, h2]
    constructor
    · rintro ⟨a | ⟨⟨a, b⟩, c⟩, d⟩
      · rw [inK (mem_puts.1 (List.mem_of_mem_take a)).1] at d; cases d
      · exact ⟨⟨a, d⟩, b⟩
    · rintro ⟨⟨a, b⟩, c⟩
      refine ⟨.inr ⟨⟨a, c⟩, fun z hz e => ?_⟩, b⟩
      rw [clash hz e.1 e.2] at b; cases b
  have d2 : putsL (afterL h w n) w = (putsL h w).drop (n - (dropsL h w).length) := by
    refine srt_extM (srt_filter hw _) (srt_drop (srt_filter hw _) _) (fun y => ?_)
    rw [mem_drop_srt (show Srt (putsL h w) from srt_filter hw _), mem_puts, mem_puts, h2]
    constructor
    · rintro ⟨a, b⟩
      rw [not_or] at b
      refine ⟨⟨a, fun hh => ?_⟩, b.1⟩
      refine b.2 ⟨⟨hh, fun c => ?_⟩, fun z hz e => ?_⟩
      · have := (mem_drops.1 (List.mem_of_mem_take c)).2
        rw [inK a] at this; cases this
      · have hz' := mem_puts.1 (List.mem_of_mem_take hz)
        rw [srt_uniq hw hz'.1 a e.1 e.2] at hz'
        exact hz'.2 hh
    · rintro ⟨⟨a, b⟩, c⟩
      refine ⟨a, ?_⟩
      rintro (d | ⟨⟨d, _⟩, _⟩)
      · exact c d
      · exact b d
  have e1 : doneL (afterL h w n) w = (dropsL (afterL h w n) w).map dropT ++ (putsL (afterL h w n) w).map putT := rfl
  have e2 : doneL h w = (dropsL h w).map dropT ++ (putsL h w).map putT := rfl
  rw [e1, e2, d1, d2, List.drop_append, List.map_drop, List.map_drop, List.length_map]
theorem doneL_len (h w : List En) : (doneL h w).length ≤ h.length + w.length := by
  have l1 : (dropsL h w).length ≤ h.length := List.length_filter_le _ _
  have l2 : (putsL h w).length ≤ w.length := List.length_filter_le _ _
  have e2 : doneL h w = (dropsL h w).map dropT ++ (putsL h w).map putT := rfl
  rw [e2]; simp; omega
end Go.Proofs.YtindifjhocgkbaaGreatDoor
namespace Go.Proofs.YtindifjhocgkbaaGreatDoor
open Go.RowKit Go.ChangeMaps Go.MapKept Go.WideShapes Go.WideMaps Go.Shelf
abbrev dpI (H : Nat) : Value := .iface 123 (dpV H)
theorem m_Room (h : Value) (w : World) : (Go.method 404 123 (.agg #[h]) "Room").run Tryz.prog w = .ok (85, .agg #[h]) w := by kernel_rfl
theorem m_Dump (h : Value) (w : World) : (Go.method 404 123 (.agg #[h]) "Dump").run Tryz.prog w = .ok (199, .agg #[h]) w := by kernel_rfl
theorem m_Put (h : Value) (w : World) : (Go.method 404 123 (.agg #[h]) "Put").run Tryz.prog w = .ok (60, .agg #[h]) w := by kernel_rfl
theorem m_Drop (h : Value) (w : World) : (Go.method 404 123 (.agg #[h]) "Drop").run Tryz.prog w = .ok (198, .agg #[h]) w := by kernel_rfl
theorem eql_dp (v : Value) (w : World) : (binOp .eql 162 (.iface 123 v) .nilIface).run Tryz.prog w = .ok (.bool false) w := by kernel_rfl
set_option maxRecDepth 100000 in
set_option maxHeartbeats 1000000 in
theorem dRoom (n0 H M : Nat) (r : Nat → Int) (l : List En) (log : List ByteArray) (left : Int) (dead : Bool) (W : World) (h : HostI n0 H M r l log left dead W) (t : Int) :
    Calls Tryz.prog 128 #[dpI H, .int .i64 t] W fun e W' => e = .returned (.int .i64 (roomOf r t)) ∧ Below W.heap.size W W' := by
  have h1 := eql_dp
  have h2 := m_Room
  go_enter Tryz.func128, Tryz.ntmps128
  go_wp2_with fail
  refine (hRoom n0 H M r l log left dead W h t).mono ?_
  rintro e w1 ⟨rfl, q1⟩
  go_wp2
  go_ret
  exact ⟨rfl, q1⟩
set_option maxRecDepth 100000 in
set_option maxHeartbeats 1000000 in
theorem dHeld (n0 H M : Nat) (r : Nat → Int) (l : List En) (log : List ByteArray) (left : Int) (dead : Bool) (W : World) (h : HostI n0 H M r l log left dead W) (hs : Srt l) (hn : l.length ≤ 100000) :
    Calls Tryz.prog 129 #[dpI H] W fun e W' => ∃ v, e = .returned v ∧ EnsT W' v l ∧ Below W.heap.size W W' := by
  have h1 := eql_dp
  have h2 := m_Dump
  go_enter Tryz.func129, Tryz.ntmps129
  go_wp2_with fail
  refine (hDump H W).mono ?_
  rintro e w1 ⟨rfl, rfl⟩
  have q0 := below_alloc W (.cells #[.pointer (some ⟨H, 0, none⟩)] 123)
  have k0 := h.keep q0
  go_wp2_with fail
  refine (lOrdered W.heap.size H M l _ (by simp) k0.cells.2.2.1 k0.mp hs hn).mono ?_
  rintro e w2 ⟨v, rfl, hE, q2⟩
  go_wp2
  go_ret
  exact ⟨v, rfl, hE, below_trans q0 q2⟩
/-- What tells that there is no room, if so. -/
def FullIs (w : World) (x : Value) (o : Int) : Prop := (o = -1 ∧ x = .nilIface) ∨ (0 ≤ o ∧ ErrIs w x 10 o)
set_option maxRecDepth 100000 in
set_option maxHeartbeats 1000000 in
theorem dFull (n0 H M : Nat) (r : Nat → Int) (l : List En) (log : List ByteArray) (left : Int) (dead : Bool) (W : World) (h : HostI n0 H M r l log left dead W) (v : Value) (want : List En) (hI : EnsIn W v want) (hn : want.length ≤ 100000) :
    Calls Tryz.prog 110 #[dpI H, v] W fun e W' => ∃ x, e = .returned x ∧ FullIs W' x (overL want r) ∧ Below W.heap.size W W' := by
  obtain ⟨a, c, rfl⟩ := hI.slice
  go_enter Tryz.func110, Tryz.ntmps110
  go_wp2_with fail
  go_loopw [6] (fun i wr => ∃ j : Nat, j ≤ 3 ∧ i = .int .i64 j ∧ Hid (∀ t : Nat, t < j → (cntT t want : Int) ≤ r t) ∧ Below W.heap.size W wr) (fun i _ => 3 - (intOf i).toNat)
  case atStart => exact ⟨0, by omega, rfl, (show Hid _ from fun t ht => by omega), Below.refl _ _⟩
  case round =>
    obtain ⟨j, hj, rfl, HA, hq⟩ := hrel
    by_cases hlt : j < 3
    · have il : (j : Int) < 3 := by omega
      have hrj : roomOf r (j : Int) = r j := by unfold roomOf; rw [if_pos (by omega)]; simp
      have hc0 := cntT_le (j : Int) want
      have k1 := h.keep hq
      have hI1 := hI.keep hq
      go_wp2_with fail
      refine (lCount _ (j : Int) want (by omega) _ hI1).mono ?_
      rintro e w1 ⟨rfl, q1⟩
      have k2 := k1.keep q1
      go_wp2_with fail
      refine (dRoom n0 H M r l log left dead _ k2 (j : Int)).mono ?_
      rintro e w2 ⟨rfl, q2⟩
      rw [hrj]
      have q3 := below_trans hq (below_trans q1 q2)
      clear k1 k2 hI1 q1 q2 hq
      by_cases hgt : r j < (cntT (j : Int) want : Int)
      · have ho := overL_at hlt HA.out hgt
        go_wp2_with fail
        go_ret
        refine ⟨_, rfl, ?_, below_trans q3 (below_alloc _ _)⟩
        rw [ho]
        exact .inr ⟨by omega, .inr ⟨by omega, by omega, _, rfl, by simp, by simp, by simp⟩⟩
      · have hle : (cntT (j : Int) want : Int) ≤ r j := by omega
        have HA2 : Hid (∀ t : Nat, t < j + 1 → (cntT t want : Int) ≤ r t) := fun t ht => by
          rcases (show t < j ∨ t = j by omega) with e | e
          · exact HA.out t e
          · rw [e]; exact hle
        go_wp2_with fail
        go_roundw
        case rel => exact ⟨j + 1, by omega, by go_num, HA2, q3⟩
        case measure => simp [intOf]; omega
    · obtain rfl : j = 3 := by omega
      have ho := overL_none HA.out
      go_wp2_with fail
      go_ret
      exact ⟨_, rfl, .inl ⟨ho, rfl⟩, hq⟩
end Go.Proofs.YtindifjhocgkbaaGreatDoor
