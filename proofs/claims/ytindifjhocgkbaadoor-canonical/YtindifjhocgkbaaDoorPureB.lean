import Derived.Test.YtindifjhocgkbaaDoorPure
namespace Go.Proofs.YtindifjhocgkbaaDoor
open Go.RowKit

theorem opsB_cons (o : OpD) (m : List OpD) : opsB (o :: m) = opB o ++ opsB m := by simp [opsB]
theorem opsB_append (a b : List OpD) : opsB (a ++ b) = opsB a ++ opsB b := by simp [opsB, List.flatMap_append]

theorem chgs_of_bytes {s : ByteArray} : ∀ (m : List OpD) (e : Nat) (l : List OpD) (rest : List UInt8), (∀ j (hj : j < m.length), wrongN m[j] (l ++ m.take j) = 0) → s.data.toList.drop e = opsB m ++ rest →
    chgs s m.length e l = .ok (l ++ m, e + (opsB m).length)
  | [], e, l, rest, _, _ => by simp [chgs, opsB]
  | o :: m, e, l, rest, hw, hd => by
    have h0 : wrongN o l = 0 := by have h := hw 0 (by simp); rw [List.take_zero, List.append_nil] at h; exact h
    rw [opsB_cons, List.append_assoc] at hd
    have hc := chg_of_bytes h0 hd
    have hne : opB o ≠ [] := by simp [opB]
    have hd' := (take_of_drop hd hne).2.2
    have ih := chgs_of_bytes m (e + (opB o).length) (l ++ [o]) rest (fun j hj => by have := hw (j + 1) (by simpa using hj); simpa using this) hd'
    rw [List.length_cons, chgs, hc]
    simp only [ih, opsB_cons, List.length_append, List.append_assoc, List.singleton_append]
    rw [Nat.add_assoc]

theorem bytes_of_chgs {s : ByteArray} : ∀ (n e : Nat) (l m : List OpD) (e' : Nat), e ≤ s.size → chgs s n e l = .ok (m, e') →
    ∃ m', m = l ++ m' ∧ m'.length = n ∧ e' ≤ s.size ∧ s.data.toList.drop e = opsB m' ++ s.data.toList.drop e' ∧ ∀ j (hj : j < m'.length), wrongN m'[j] (l ++ m'.take j) = 0
  | 0, e, l, m, e', he, h => by
    simp only [chgs] at h
    have := ok_inj h
    simp only [Prod.mk.injEq] at this
    obtain ⟨rfl, rfl⟩ := this
    exact ⟨[], by simp, rfl, he, by simp [opsB], fun j hj => absurd hj (by simp)⟩
  | n + 1, e, l, m, e', he, h => by
    rw [chgs] at h
    cases hc : chg s e l with
    | error f => rw [hc] at h; cases h
    | ok p =>
      obtain ⟨o, e1⟩ := p
      rw [hc] at h
      obtain ⟨w0, _, l1, d1⟩ := bytes_of_chg hc
      obtain ⟨m', rfl, hm, l2, d2, hw⟩ := bytes_of_chgs n e1 (l ++ [o]) m e' l1 h
      refine ⟨o :: m', by simp, by simp [hm], l2, by rw [d1, d2, opsB_cons, List.append_assoc], fun j hj => ?_⟩
      cases j with
      | zero => simpa using w0
      | succ j =>
        have := hw j (by simpa using hj)
        simpa using this
theorem place_of_chgs {s : ByteArray} : ∀ (n e : Nat) (l : List OpD) (k a : Int), e ≤ s.size → chgs s n e l = .error (k, a) → 0 ≤ a ∧ a ≤ s.size
  | 0, e, l, k, a, _, h => by simp [chgs] at h
  | n + 1, e, l, k, a, he, h => by
    rw [chgs] at h
    cases hc : chg s e l with
    | error f =>
      rw [hc] at h
      obtain ⟨k', a'⟩ := f
      simp only [Except.error.injEq, Prod.mk.injEq] at h
      obtain ⟨rfl, rfl⟩ := h
      exact place_of_chg he hc
    | ok p =>
      obtain ⟨o, e1⟩ := p
      rw [hc] at h
      exact place_of_chgs n e1 (l ++ [o]) k a (bytes_of_chg hc).2.2.1 h

theorem dec_enc {v : Int} {l : List OpD} (h : (wrongD v l).1 = 0) : dec (encS v l) = .ok (v, l) := by
  obtain ⟨h1, h2, h3⟩ := wrongD_ok h
  have hv : 1 ≤ v ∧ v ≤ 18446744073709551614 := by simpa [verB] using h1
  have hl : 1 ≤ (l.length : Int) ∧ (l.length : Int) ≤ 8 := by simpa [cntB] using h2
  have hs : (encS v l).data.toList = beB v 8 ++ (UInt8.ofNat l.length :: opsB l) := by rw [encS, if_pos h]; simp [encB]
  generalize encS v l = s at hs
  have hd0 : s.data.toList.drop 0 = beB v 8 ++ (UInt8.ofNat l.length :: opsB l) := by rw [List.drop_zero]; exact hs
  rw [beB8] at hd0
  obtain ⟨b0, _, hd1⟩ := bt_of_drop hd0
  obtain ⟨b1, _, hd2⟩ := bt_of_drop hd1
  obtain ⟨b2, _, hd3⟩ := bt_of_drop hd2
  obtain ⟨b3, _, hd4⟩ := bt_of_drop hd3
  obtain ⟨b4, _, hd5⟩ := bt_of_drop hd4
  obtain ⟨b5, _, hd6⟩ := bt_of_drop hd5
  obtain ⟨b6, _, hd7⟩ := bt_of_drop hd6
  obtain ⟨b7, _, hd8⟩ := bt_of_drop hd7
  obtain ⟨b8, z8, hd9⟩ := bt_of_drop hd8
  rw [byte_back _ (Int.emod_nonneg _ (by decide)) (Int.emod_lt_of_pos _ (by decide))] at b0 b1 b2 b3 b4 b5 b6 b7
  simp only [Nat.zero_add, Nat.reduceAdd] at b0 b1 b2 b3 b4 b5 b6 b7 b8 z8 hd9
  have hn : numAt s 0 8 = v := by rw [numAt8, b0, b1, b2, b3, b4, b5, b6, b7]; omega
  have h8 : bt s 8 = (l.length : Int) := by rw [b8]; have := byte_back (l.length : Int) (by omega) (by omega); simpa using this
  have hc := chgs_of_bytes l 9 [] [] (fun j hj => by simpa using h3 j hj) (by rw [hd9]; simp)
  have hz : 9 + (opsB l).length = s.size := by
    have := congrArg List.length hd9
    rw [List.length_drop, size_list] at this
    omega
  rw [dec, dl, hn, h8, if_neg (by omega), if_neg (by rw [h1]; simp), if_neg (by omega), if_neg (by rw [h2]; simp), Int.toNat_natCast, hc]
  simp only [List.nil_append]
  rw [if_neg (by omega)]

theorem enc_dec {s : ByteArray} {v : Int} {l : List OpD} (h : dec s = .ok (v, l)) : (wrongD v l).1 = 0 ∧ encS v l = s ∧ (0 ≤ v ∧ v ≤ 18446744073709551615) ∧ l.length ≤ 8 := by
  by_cases c1 : s.size < 8
  · rw [dec, dl, if_pos c1] at h; cases h
  cases c2 : verB (numAt s 0 8)
  · rw [dec, dl, if_neg c1, if_pos c2] at h; cases h
  by_cases c3 : s.size < 9
  · rw [dec, dl, if_neg c1, if_neg (by rw [c2]; simp), if_pos c3] at h; cases h
  cases c4 : cntB (bt s 8)
  · rw [dec, dl, if_neg c1, if_neg (by rw [c2]; simp), if_neg c3, if_pos c4] at h; cases h
  rw [dec, dl, if_neg c1, if_neg (by rw [c2]; simp), if_neg c3, if_neg (by rw [c4]; simp)] at h
  have hb8 : 1 ≤ bt s 8 ∧ bt s 8 ≤ 8 := by simpa [cntB] using c4
  cases hc : chgs s (bt s 8).toNat 9 [] with
  | error f => rw [hc] at h; cases h
  | ok p =>
    obtain ⟨m, e⟩ := p
    rw [hc] at h
    simp only at h
    by_cases c5 : e < s.size
    · rw [if_pos c5] at h; cases h
    rw [if_neg c5] at h
    have := ok_inj h
    simp only [Prod.mk.injEq] at this
    obtain ⟨rfl, rfl⟩ := this
    obtain ⟨m', e1, hm, l2, d2, hw⟩ := bytes_of_chgs _ 9 [] m e (by omega) hc
    rw [List.nil_append] at e1
    subst e1
    have hml : (m.length : Int) = bt s 8 := by omega
    have hwd : (wrongD (numAt s 0 8) m).1 = 0 := by
      rw [wrongD_0 c2 (by rw [hml]; exact c4)]
      have key : ∀ (n i : Nat), i + n ≤ m.length → firstW m n i = (0, 0) := by
        intro n
        induction n with
        | zero => intro i _; rfl
        | succ n ih =>
          intro i hi
          rw [firstW, if_pos (by rw [wrongAt_eq (by omega)]; simpa using hw i (by omega))]
          exact ih (i + 1) (by omega)
      rw [key m.length 0 (by omega)]
    refine ⟨hwd, ba_ext ?_, ⟨(numAt_bd8 s 0).1, (numAt_bd8 s 0).2⟩, by omega⟩
    rw [encS, if_pos hwd]
    have hz : e = s.size := by omega
    have hdz : s.data.toList.drop e = [] := List.drop_eq_nil_of_le (by rw [size_list]; omega)
    rw [hdz, List.append_nil] at d2
    have hL : s.data.toList = UInt8.ofNat (bt s 0).toNat :: UInt8.ofNat (bt s 1).toNat :: UInt8.ofNat (bt s 2).toNat :: UInt8.ofNat (bt s 3).toNat :: UInt8.ofNat (bt s 4).toNat :: UInt8.ofNat (bt s 5).toNat :: UInt8.ofNat (bt s 6).toNat :: UInt8.ofNat (bt s 7).toNat :: UInt8.ofNat (bt s 8).toNat :: opsB m := by
      rw [← d2, ← drop_bt s 8 (by omega), ← drop_bt s 7 (by omega), ← drop_bt s 6 (by omega), ← drop_bt s 5 (by omega), ← drop_bt s 4 (by omega), ← drop_bt s 3 (by omega), ← drop_bt s 2 (by omega), ← drop_bt s 1 (by omega), ← drop_bt s 0 (by omega), List.drop_zero]
    obtain ⟨s0, s1, s2, s3, s4, s5, s6, s7⟩ := split8 _ _ _ _ _ _ _ _ (bt_lo s 0) (bt_lo s 1) (bt_lo s 2) (bt_lo s 3) (bt_lo s 4) (bt_lo s 5) (bt_lo s 6) (bt_lo s 7)
    have hmn : (bt s 8).toNat = m.length := by omega
    rw [hL, encB, beB8, numAt8, s0, s1, s2, s3, s4, s5, s6, s7, hmn]
    simp

theorem place_of_dec {s : ByteArray} {k a : Int} (h : dec s = .error (k, a)) : 0 ≤ a ∧ a ≤ s.size := by
  by_cases c1 : s.size < 8
  · rw [dec, dl, if_pos c1] at h; simp only [Except.error.injEq, Prod.mk.injEq] at h; omega
  cases c2 : verB (numAt s 0 8)
  · rw [dec, dl, if_neg c1, if_pos c2] at h; simp only [Except.error.injEq, Prod.mk.injEq] at h; omega
  by_cases c3 : s.size < 9
  · rw [dec, dl, if_neg c1, if_neg (by rw [c2]; simp), if_pos c3] at h; simp only [Except.error.injEq, Prod.mk.injEq] at h; omega
  cases c4 : cntB (bt s 8)
  · rw [dec, dl, if_neg c1, if_neg (by rw [c2]; simp), if_neg c3, if_pos c4] at h; simp only [Except.error.injEq, Prod.mk.injEq] at h; omega
  rw [dec, dl, if_neg c1, if_neg (by rw [c2]; simp), if_neg c3, if_neg (by rw [c4]; simp)] at h
  cases hc : chgs s (bt s 8).toNat 9 [] with
  | error f =>
    rw [hc] at h
    obtain ⟨k', a'⟩ := f
    simp only [Except.error.injEq, Prod.mk.injEq] at h
    obtain ⟨rfl, rfl⟩ := h
    exact place_of_chgs _ 9 [] _ _ (by omega) hc
  | ok p =>
    obtain ⟨m, e⟩ := p
    rw [hc] at h
    simp only at h
    by_cases c5 : e < s.size
    · rw [if_pos c5] at h; simp only [Except.error.injEq, Prod.mk.injEq] at h; omega
    · rw [if_neg c5] at h; cases h
end Go.Proofs.YtindifjhocgkbaaDoor
