import Derived.Test.YtindifjhocgkbaaGreatDoorByt
import Derived.Test.YtindifjhocgkbaaGreatDoorLst
namespace Go.Proofs.YtindifjhocgkbaaGreatDoor
open Go.RowKit

/-! ### A state, as bytes -/
def enB (e : En) : List UInt8 := UInt8.ofNat e.t.toNat :: (e.k.data.toList ++ e.v.data.toList)
def ensB (l : List En) : List UInt8 := l.flatMap enB
def staB (v : Int) (l : List En) : List UInt8 := beB v 8 ++ (beB (l.length : Int) 2 ++ ensB l)
/-- A key stands behind the last of some entries. -/
def behind (t : Int) (k : ByteArray) (l : List En) : Bool := match l.getLast? with | none => true | some e => decide (cmpK e.t e.k t k < 0)
/-- The entry at a place: the fault, or the entry and the place behind it. -/
def ent (s : ByteArray) (e : Nat) (l : List En) : Except (Int × Int) (En × Nat) :=
  if s.size < e + 1 then .error (1, e) else
  if tabB (bt s e) = false then .error (6, e) else
  if s.size < e + 1 + (kbN (bt s e)).toNat then .error (1, ((e + 1 : Nat) : Int)) else
  if keyB (bt s e) (s.extract (e + 1) (e + 1 + (kbN (bt s e)).toNat)) = false then .error (7, ((e + 1 : Nat) : Int)) else
  if behind (bt s e) (s.extract (e + 1) (e + 1 + (kbN (bt s e)).toNat)) l = false then .error (14, ((e + 1 : Nat) : Int)) else
  if s.size < e + 1 + (kbN (bt s e)).toNat + (vbN (bt s e)).toNat then .error (1, ((e + 1 + (kbN (bt s e)).toNat : Nat) : Int)) else
  if valB (bt s e) (s.extract (e + 1 + (kbN (bt s e)).toNat) (e + 1 + (kbN (bt s e)).toNat + (vbN (bt s e)).toNat)) = false then .error (9, ((e + 1 + (kbN (bt s e)).toNat : Nat) : Int)) else
  .ok (⟨bt s e, s.extract (e + 1) (e + 1 + (kbN (bt s e)).toNat), s.extract (e + 1 + (kbN (bt s e)).toNat) (e + 1 + (kbN (bt s e)).toNat + (vbN (bt s e)).toNat)⟩, e + 1 + (kbN (bt s e)).toNat + (vbN (bt s e)).toNat)
def ents (s : ByteArray) : Nat → Nat → List En → Except (Int × Int) (List En × Nat)
  | 0, e, l => .ok (l, e)
  | n + 1, e, l => match ent s e l with
    | .error f => .error f
    | .ok (x, e') => ents s n e' (l ++ [x])
def stl (s : ByteArray) : Except (Int × Int) (Int × List En × Nat) :=
  if s.size < 8 then .error (1, 0) else
  if verB (numAt s 0 8) = false then .error (4, 0) else
  if s.size < 10 then .error (1, 8) else
  match ents s (numAt s 8 2).toNat 10 [] with
  | .error f => .error f
  | .ok (l, e) => .ok (numAt s 0 8, l, e)
def sta (s : ByteArray) : Except (Int × Int) (Int × List En) :=
  match stl s with
  | .error f => .error f
  | .ok (v, l, e) => if e < s.size then .error (2, e) else .ok (v, l)

theorem okE_in {x : En} (h : okE x) : 0 ≤ x.t ∧ x.t < 3 := by have := kindB_in h.1; omega
theorem okE_mk {t : Int} {k v : ByteArray} (h : tabB t = true) (hk : keyB t k = true) (hv : valB t v = true) : okE ⟨t, k, v⟩ := by
  have ht : 0 ≤ t ∧ t < 3 := by simpa [tabB] using h
  exact ⟨by simp [kindB]; exact ht, hk, hv⟩
theorem enB_length (x : En) : (enB x).length = 1 + x.k.size + x.v.size := by simp [enB]; omega
theorem ensB_cons (x : En) (m : List En) : ensB (x :: m) = enB x ++ ensB m := by simp [ensB]

theorem ent_of_bytes {s : ByteArray} {e : Nat} {l : List En} {x : En} {rest : List UInt8} (hx : okE x) (hb : behind x.t x.k l = true) (hd : s.data.toList.drop e = enB x ++ rest) : ent s e l = .ok (x, e + (enB x).length) := by
  obtain ⟨h0, h3⟩ := okE_in hx
  obtain ⟨_, w2, w3⟩ := hx
  have hks := keyB_is h0 h3 w2
  have hvs := valB_is h0 h3 w3
  have hkb := kbN_bd x.t
  have hvb := vbN_bd x.t
  obtain ⟨t, key, val⟩ := x
  simp only at *
  have hd1 : s.data.toList.drop e = UInt8.ofNat t.toNat :: (key.data.toList ++ (val.data.toList ++ rest)) := by rw [hd]; simp [enB]
  obtain ⟨b0, l0, hd3⟩ := bt_of_drop hd1
  rw [byte_back _ (by omega) (by omega)] at b0
  have hkn : key.data.toList ≠ [] := fun h => by have : key.size = 0 := by rw [← size_list, h]; rfl
                                                 omega
  obtain ⟨l2, ek, hd4⟩ := take_of_drop hd3 hkn
  rw [size_list] at l2 ek hd4
  have kk : (kbN t).toNat = key.size := by omega
  have ekey : s.extract (e + 1) (e + 1 + key.size) = key := ba_ext ek
  have hvn : val.data.toList ≠ [] := fun h => by have : val.size = 0 := by rw [← size_list, h]; rfl
                                                 omega
  obtain ⟨l3, ev, _⟩ := take_of_drop hd4 hvn
  rw [size_list] at l3 ev
  have vv : (vbN t).toNat = val.size := by omega
  have eval : s.extract (e + 1 + key.size) (e + 1 + key.size + val.size) = val := ba_ext ev
  have n1 : ¬ s.size < e + 1 := by omega
  have n2 : ¬ tabB t = false := by rw [tabB_t h0 h3]; simp
  have n3 : ¬ s.size < e + 1 + key.size := by omega
  have n4 : ¬ keyB t key = false := by rw [w2]; simp
  have n5 : ¬ behind t key l = false := by rw [hb]; simp
  have n6 : ¬ s.size < e + 1 + key.size + val.size := by omega
  have n7 : ¬ valB t val = false := by rw [w3]; simp
  rw [ent, b0, kk, ekey, vv, eval, if_neg n1, if_neg n2, if_neg n3, if_neg n4, if_neg n5, if_neg n6, if_neg n7, enB_length]
  simp; omega

theorem bytes_of_ent {s : ByteArray} {e e' : Nat} {l : List En} {x : En} (h : ent s e l = .ok (x, e')) : okE x ∧ behind x.t x.k l = true ∧ e' = e + (enB x).length ∧ e' ≤ s.size ∧ s.data.toList.drop e = enB x ++ s.data.toList.drop e' := by
  by_cases c1 : s.size < e + 1
  · rw [ent, if_pos c1] at h; cases h
  cases c2 : tabB (bt s e)
  · rw [ent, if_neg c1, if_pos c2] at h; cases h
  have n2 : ¬ tabB (bt s e) = false := by rw [c2]; simp
  have hkb := kbN_bd (bt s e)
  have hvb := vbN_bd (bt s e)
  obtain ⟨k, kk⟩ : ∃ k : Nat, (kbN (bt s e)).toNat = k := ⟨_, rfl⟩
  obtain ⟨m, mm⟩ : ∃ m : Nat, (vbN (bt s e)).toNat = m := ⟨_, rfl⟩
  rw [ent, kk, mm, if_neg c1, if_neg n2] at h
  by_cases c3 : s.size < e + 1 + k
  · rw [if_pos c3] at h; cases h
  rw [if_neg c3] at h
  cases c4 : keyB (bt s e) (s.extract (e + 1) (e + 1 + k))
  · rw [if_pos c4] at h; cases h
  rw [if_neg (by rw [c4]; simp)] at h
  cases c5 : behind (bt s e) (s.extract (e + 1) (e + 1 + k)) l
  · rw [if_pos c5] at h; cases h
  rw [if_neg (by rw [c5]; simp)] at h
  by_cases c7 : s.size < e + 1 + k + m
  · rw [if_pos c7] at h; cases h
  rw [if_neg c7] at h
  cases c8 : valB (bt s e) (s.extract (e + 1 + k) (e + 1 + k + m))
  · rw [if_pos c8] at h; cases h
  rw [if_neg (by rw [c8]; simp)] at h
  have := ok_inj h
  simp only [Prod.mk.injEq] at this
  obtain ⟨rfl, rfl⟩ := this
  have sk : (s.extract (e + 1) (e + 1 + k)).size = k := by rw [← size_list]; exact piece_length s (e + 1) k (by omega)
  have sm : (s.extract (e + 1 + k) (e + 1 + k + m)).size = m := by rw [← size_list]; exact piece_length s (e + 1 + k) m (by omega)
  refine ⟨okE_mk c2 c4 c8, c5, ?_, by omega, ?_⟩
  · rw [enB_length]; simp only [sk, sm]; omega
  · rw [drop_bt s e (by omega), drop_ext s (e + 1) k, drop_ext s (e + 1 + k) m]; simp [enB]
theorem place_of_ent {s : ByteArray} {e : Nat} {l : List En} {k a : Int} (he : e ≤ s.size) (h : ent s e l = .error (k, a)) : 0 ≤ a ∧ a ≤ s.size := by
  have hkb := kbN_bd (bt s e)
  unfold ent at h
  repeat' split at h
  all_goals first
    | (simp only [Except.error.injEq, Prod.mk.injEq] at h; omega)
    | cases h

theorem behind_srt {l : List En} {x : En} (hs : Srt l) (hb : behind x.t x.k l = true) : Srt (l ++ [x]) := by
  refine List.pairwise_append.2 ⟨hs, by simp, fun a ha b hb' => ?_⟩
  obtain rfl : b = x := by simpa using hb'
  rcases List.eq_nil_or_concat l with rfl | ⟨m, y, rfl⟩
  · simp at ha
  · simp only [List.concat_eq_append] at *
    have hy : cmpK y.t y.k b.t b.k < 0 := by simpa [behind] using hb
    rcases List.mem_append.1 ha with h | h
    · exact cmpK_trans ((List.pairwise_append.1 hs).2.2 a h y (by simp)) hy
    · obtain rfl : a = y := by simpa using h
      exact hy
theorem srt_behind {l m : List En} {x : En} (hs : Srt (l ++ x :: m)) : behind x.t x.k l = true := by
  rcases List.eq_nil_or_concat l with rfl | ⟨m', y, rfl⟩
  · rfl
  · simp only [List.concat_eq_append] at *
    have := (List.pairwise_append.1 hs).2.2 y (by simp) x (by simp)
    simpa [behind] using this
theorem ents_of_bytes {s : ByteArray} : ∀ (m : List En) (e : Nat) (l : List En) (rest : List UInt8), Ok m → Srt (l ++ m) → s.data.toList.drop e = ensB m ++ rest → ents s m.length e l = .ok (l ++ m, e + (ensB m).length)
  | [], e, l, rest, _, _, _ => by simp [ents, ensB]
  | x :: m, e, l, rest, ho, hs, hd => by
    rw [ensB_cons, List.append_assoc] at hd
    have hc := ent_of_bytes (l := l) (ho x (by simp)) (srt_behind hs) hd
    have hd' := (take_of_drop hd (by simp [enB])).2.2
    have ih := ents_of_bytes m (e + (enB x).length) (l ++ [x]) rest (fun y hy => ho y (by simp [hy])) (by simpa using hs) hd'
    rw [List.length_cons, ents, hc]
    simp only [ih, ensB_cons, List.length_append, List.append_assoc, List.singleton_append]
    rw [Nat.add_assoc]
theorem bytes_of_ents {s : ByteArray} : ∀ (n e : Nat) (l m : List En) (e' : Nat), e ≤ s.size → Srt l → ents s n e l = .ok (m, e') →
    ∃ m', m = l ++ m' ∧ m'.length = n ∧ e' ≤ s.size ∧ s.data.toList.drop e = ensB m' ++ s.data.toList.drop e' ∧ Ok m' ∧ Srt m
  | 0, e, l, m, e', he, hs, h => by
    simp only [ents] at h
    have := ok_inj h
    simp only [Prod.mk.injEq] at this
    obtain ⟨rfl, rfl⟩ := this
    exact ⟨[], by simp, rfl, he, by simp [ensB], fun _ h => absurd h (by simp), hs⟩
  | n + 1, e, l, m, e', he, hs, h => by
    rw [ents] at h
    cases hc : ent s e l with
    | error f => rw [hc] at h; cases h
    | ok p =>
      obtain ⟨x, e1⟩ := p
      rw [hc] at h
      obtain ⟨w0, w1, _, l1, d1⟩ := bytes_of_ent hc
      obtain ⟨m', rfl, hm, l2, d2, ho, hs'⟩ := bytes_of_ents n e1 (l ++ [x]) m e' l1 (behind_srt hs w1) h
      refine ⟨x :: m', by simp, by simp [hm], l2, by rw [d1, d2, ensB_cons, List.append_assoc], fun y hy => ?_, hs'⟩
      rcases List.mem_cons.1 hy with rfl | hy
      · exact w0
      · exact ho y hy
theorem place_of_ents {s : ByteArray} : ∀ (n e : Nat) (l : List En) (k a : Int), e ≤ s.size → ents s n e l = .error (k, a) → 0 ≤ a ∧ a ≤ s.size
  | 0, e, l, k, a, _, h => by simp [ents] at h
  | n + 1, e, l, k, a, he, h => by
    rw [ents] at h
    cases hc : ent s e l with
    | error f =>
      rw [hc] at h
      obtain ⟨k', a'⟩ := f
      simp only [Except.error.injEq, Prod.mk.injEq] at h
      obtain ⟨rfl, rfl⟩ := h
      exact place_of_ent he hc
    | ok p =>
      obtain ⟨x, e1⟩ := p
      rw [hc] at h
      exact place_of_ents n e1 (l ++ [x]) k a (bytes_of_ent hc).2.2.2.1 h
theorem numAt2 (s : ByteArray) : numAt s 8 2 = bt s 8 * 256 + bt s 9 := by simp [numAt]
theorem beB2 (n : Int) : beB n 2 = [UInt8.ofNat (n / 256 % 256).toNat, UInt8.ofNat (n % 256).toNat] := by simp [beB]

/-- A state that was written is read as it was. -/
theorem sta_enc {s : ByteArray} {v : Int} {l : List En} (h1 : verB v = true) (hl : l.length ≤ 65535) (ho : Ok l) (hs : Srt l) (hb : s.data.toList = staB v l) : sta s = .ok (v, l) := by
  have hv : 1 ≤ v ∧ v ≤ 18446744073709551614 := by simpa [verB] using h1
  have hd0 : s.data.toList.drop 0 = beB v 8 ++ (beB (l.length : Int) 2 ++ ensB l) := by rw [List.drop_zero]; exact hb
  rw [beB8, beB2] at hd0
  simp only [List.cons_append, List.nil_append] at hd0
  obtain ⟨b0, _, hd1⟩ := bt_of_drop hd0
  obtain ⟨b1, _, hd2⟩ := bt_of_drop hd1
  obtain ⟨b2, _, hd3⟩ := bt_of_drop hd2
  obtain ⟨b3, _, hd4⟩ := bt_of_drop hd3
  obtain ⟨b4, _, hd5⟩ := bt_of_drop hd4
  obtain ⟨b5, _, hd6⟩ := bt_of_drop hd5
  obtain ⟨b6, _, hd7⟩ := bt_of_drop hd6
  obtain ⟨b7, _, hd8⟩ := bt_of_drop hd7
  obtain ⟨b8, _, hd9⟩ := bt_of_drop hd8
  obtain ⟨b9, z9, hd10⟩ := bt_of_drop hd9
  rw [byte_back _ (Int.emod_nonneg _ (by decide)) (Int.emod_lt_of_pos _ (by decide))] at b0 b1 b2 b3 b4 b5 b6 b7 b8 b9
  simp only [Nat.zero_add, Nat.reduceAdd] at b0 b1 b2 b3 b4 b5 b6 b7 b8 b9 z9 hd10
  have hn : numAt s 0 8 = v := by rw [numAt8, b0, b1, b2, b3, b4, b5, b6, b7]; omega
  have h8 : (numAt s 8 2).toNat = l.length := by rw [numAt2, b8, b9]; omega
  have hc := ents_of_bytes l 10 [] [] ho (by simpa using hs) (by rw [hd10]; simp)
  have hz : 10 + (ensB l).length = s.size := by
    have := congrArg List.length hd10
    rw [List.length_drop, size_list] at this
    omega
  rw [sta, stl, hn, h8, if_neg (by omega), if_neg (by rw [h1]; simp), if_neg (by omega), hc]
  simp only [List.nil_append]
  rw [if_neg (by omega)]
/-- What is read as a state is just what it is written as, in its order. -/
theorem enc_sta {s : ByteArray} {v : Int} {l : List En} (h : sta s = .ok (v, l)) : verB v = true ∧ l.length ≤ 65535 ∧ Ok l ∧ Srt l ∧ s.data.toList = staB v l := by
  by_cases c1 : s.size < 8
  · rw [sta, stl, if_pos c1] at h; cases h
  cases c2 : verB (numAt s 0 8)
  · rw [sta, stl, if_neg c1, if_pos c2] at h; cases h
  by_cases c3 : s.size < 10
  · rw [sta, stl, if_neg c1, if_neg (by rw [c2]; simp), if_pos c3] at h; cases h
  rw [sta, stl, if_neg c1, if_neg (by rw [c2]; simp), if_neg c3] at h
  cases hc : ents s (numAt s 8 2).toNat 10 [] with
  | error f => rw [hc] at h; cases h
  | ok p =>
    obtain ⟨m, e⟩ := p
    rw [hc] at h
    simp only at h
    by_cases c5 : e < s.size
    · rw [if_pos c5] at h; cases h
    rw [if_neg c5] at h
    have := ok_inj h
    simp only [Prod.mk.injEq] at this
    obtain ⟨rfl, rfl⟩ := this
    obtain ⟨m', e1, hm, l2, d2, ho, hs⟩ := bytes_of_ents _ 10 [] m e (by omega) List.Pairwise.nil hc
    rw [List.nil_append] at e1
    subst e1
    have b8 := bt_lo s 8
    have b9 := bt_lo s 9
    have hnn := numAt2 s
    have hml : (m.length : Int) = bt s 8 * 256 + bt s 9 := by omega
    refine ⟨c2, by omega, ho, hs, ?_⟩
    have hz : e = s.size := by omega
    have hdz : s.data.toList.drop e = [] := List.drop_eq_nil_of_le (by rw [size_list]; omega)
    rw [hdz, List.append_nil] at d2
    have hL : s.data.toList = UInt8.ofNat (bt s 0).toNat :: UInt8.ofNat (bt s 1).toNat :: UInt8.ofNat (bt s 2).toNat :: UInt8.ofNat (bt s 3).toNat :: UInt8.ofNat (bt s 4).toNat :: UInt8.ofNat (bt s 5).toNat :: UInt8.ofNat (bt s 6).toNat :: UInt8.ofNat (bt s 7).toNat :: UInt8.ofNat (bt s 8).toNat :: UInt8.ofNat (bt s 9).toNat :: ensB m := by
      rw [← d2, ← drop_bt s 9 (by omega), ← drop_bt s 8 (by omega), ← drop_bt s 7 (by omega), ← drop_bt s 6 (by omega), ← drop_bt s 5 (by omega), ← drop_bt s 4 (by omega), ← drop_bt s 3 (by omega), ← drop_bt s 2 (by omega), ← drop_bt s 1 (by omega), ← drop_bt s 0 (by omega), List.drop_zero]
    obtain ⟨s0, s1, s2, s3, s4, s5, s6, s7⟩ := split8 _ _ _ _ _ _ _ _ (bt_lo s 0) (bt_lo s 1) (bt_lo s 2) (bt_lo s 3) (bt_lo s 4) (bt_lo s 5) (bt_lo s 6) (bt_lo s 7)
    have s8 : (bt s 8 * 256 + bt s 9) / 256 % 256 = bt s 8 := by omega
    have s9 : (bt s 8 * 256 + bt s 9) % 256 = bt s 9 := by omega
    rw [hL, staB, beB8, beB2, numAt8, s0, s1, s2, s3, s4, s5, s6, s7, hml, s8, s9]
    simp
theorem place_of_sta {s : ByteArray} {k a : Int} (h : sta s = .error (k, a)) : 0 ≤ a ∧ a ≤ s.size := by
  by_cases c1 : s.size < 8
  · rw [sta, stl, if_pos c1] at h; simp only [Except.error.injEq, Prod.mk.injEq] at h; omega
  cases c2 : verB (numAt s 0 8)
  · rw [sta, stl, if_neg c1, if_pos c2] at h; simp only [Except.error.injEq, Prod.mk.injEq] at h; omega
  by_cases c3 : s.size < 10
  · rw [sta, stl, if_neg c1, if_neg (by rw [c2]; simp), if_pos c3] at h; simp only [Except.error.injEq, Prod.mk.injEq] at h; omega
  rw [sta, stl, if_neg c1, if_neg (by rw [c2]; simp), if_neg c3] at h
  cases hc : ents s (numAt s 8 2).toNat 10 [] with
  | error f =>
    rw [hc] at h
    obtain ⟨k', a'⟩ := f
    simp only [Except.error.injEq, Prod.mk.injEq] at h
    obtain ⟨rfl, rfl⟩ := h
    exact place_of_ents _ 10 [] _ _ (by omega) hc
  | ok p =>
    obtain ⟨m, e⟩ := p
    rw [hc] at h
    simp only at h
    obtain ⟨_, _, _, l2, _⟩ := bytes_of_ents _ 10 [] m e (by omega) List.Pairwise.nil hc
    by_cases c5 : e < s.size
    · rw [if_pos c5] at h; simp only [Except.error.injEq, Prod.mk.injEq] at h; omega
    · rw [if_neg c5] at h; cases h
end Go.Proofs.YtindifjhocgkbaaGreatDoor
