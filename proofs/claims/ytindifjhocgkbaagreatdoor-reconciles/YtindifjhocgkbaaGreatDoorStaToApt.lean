import Derived.Test.YtindifjhocgkbaaGreatDoorRmHToByt
import Derived.Test.YtindifjhocgkbaaGreatDoorRowAToLst
import Derived.Test.YtindifjhocgkbaaGreatDoorLstB
import Derived.Test.YtindifjhocgkbaaGreatDoorEncToEnt
namespace Go.Proofs.YtindifjhocgkbaaGreatDoor
open Go.RowKit

/-! ### A state, as bytes -/
def enB (e : En) : List UInt8 := UInt8.ofNat e.t.toNat :: (e.k.data.toList ++ e.v.data.toList)
def ensB (l : List En) : List UInt8 := l.flatMap enB
def staB (v : Int) (l : List En) : List UInt8 := beB v 8 ++ (beB (l.length : Int) 2 ++ ensB l)
/-- A key stands behind the last of some entries. -/
def behind (t : Int) (k : ByteArray) (l : List En) : Bool := match l.getLast? with | none => true | some e => decide (cmpK e.t e.k t k < 0)
/-- The entry at a place: the fault, or the entry and the place behind it. -/
def ent (s : ByteArray) (e : Nat) (l : List En) : Except (Int × Int) (En × Nat) :=
  if s.size < e + 1 then .error (1, e) else
  if tabB (bt s e) = false then .error (6, e) else
  if s.size < e + 1 + (kbN (bt s e)).toNat then .error (1, ((e + 1 : Nat) : Int)) else
  if keyB (bt s e) (s.extract (e + 1) (e + 1 + (kbN (bt s e)).toNat)) = false then .error (7, ((e + 1 : Nat) : Int)) else
  if behind (bt s e) (s.extract (e + 1) (e + 1 + (kbN (bt s e)).toNat)) l = false then .error (14, ((e + 1 : Nat) : Int)) else
  if s.size < e + 1 + (kbN (bt s e)).toNat + (vbN (bt s e)).toNat then .error (1, ((e + 1 + (kbN (bt s e)).toNat : Nat) : Int)) else
  if valB (bt s e) (s.extract (e + 1 + (kbN (bt s e)).toNat) (e + 1 + (kbN (bt s e)).toNat + (vbN (bt s e)).toNat)) = false then .error (9, ((e + 1 + (kbN (bt s e)).toNat : Nat) : Int)) else
  .ok (⟨bt s e, s.extract (e + 1) (e + 1 + (kbN (bt s e)).toNat), s.extract (e + 1 + (kbN (bt s e)).toNat) (e + 1 + (kbN (bt s e)).toNat + (vbN (bt s e)).toNat)⟩, e + 1 + (kbN (bt s e)).toNat + (vbN (bt s e)).toNat)
def ents (s : ByteArray) : Nat → Nat → List En → Except (Int × Int) (List En × Nat)
  | 0, e, l => .ok (l, e)
  | n + 1, e, l => match ent s e l with
    | .error f => .error f
    | .ok (x, e') => ents s n e' (l ++ [x])
def stl (s : ByteArray) : Except (Int × Int) (Int × List En × Nat) :=
  if s.size < 8 then .error (1, 0) else
  if verB (numAt s 0 8) = false then .error (4, 0) else
  if s.size < 10 then .error (1, 8) else
  match ents s (numAt s 8 2).toNat 10 [] with
  | .error f => .error f
  | .ok (l, e) => .ok (numAt s 0 8, l, e)
def sta (s : ByteArray) : Except (Int × Int) (Int × List En) :=
  match stl s with
  | .error f => .error f
  | .ok (v, l, e) => if e < s.size then .error (2, e) else .ok (v, l)

theorem okE_in {x : En} (h : okE x) : 0 ≤ x.t ∧ x.t < 3 := by have := kindB_in h.1; omega
theorem okE_mk {t : Int} {k v : ByteArray} (h : tabB t = true) (hk : keyB t k = true) (hv : valB t v = true) : okE ⟨t, k, v⟩ := by
  have ht : 0 ≤ t ∧ t < 3 := by simpa [tabB] using h
  exact ⟨by simp [kindB]; exact ht, hk, hv⟩
theorem enB_length (x : En) : (enB x).length = 1 + x.k.size + x.v.size := by simp [enB]; omega
theorem ensB_cons (x : En) (m : List En) : ensB (x :: m) = enB x ++ ensB m := by simp [ensB]

theorem ent_of_bytes {s : ByteArray} {e : Nat} {l : List En} {x : En} {rest : List UInt8} (hx : okE x) (hb : behind x.t x.k l = true) (hd : s.data.toList.drop e = enB x ++ rest) : ent s e l = .ok (x, e + (enB x).length) := by
  obtain ⟨h0, h3⟩ := okE_in hx
  obtain ⟨_, w2, w3⟩ := hx
  have hks := keyB_is h0 h3 w2
  have hvs := valB_is h0 h3 w3
  have hkb := kbN_bd x.t
  have hvb := vbN_bd x.t
  obtain ⟨t, key, val⟩ := x
  simp only at *
  have hd1 : s.data.toList.drop e = UInt8.ofNat t.toNat :: (key.data.toList ++ (val.data.toList ++ rest)) := by rw [hd]; simp [enB]
  obtain ⟨b0, l0, hd3⟩ := bt_of_drop hd1
  rw [byte_back _ (by omega) (by omega)] at b0
  have hkn : key.data.toList ≠ [] := fun h => by have : key.size = 0 := by rw [← size_list, h]; rfl
                                                 omega
  obtain ⟨l2, ek, hd4⟩ := take_of_drop hd3 hkn
  rw [size_list] at l2 ek hd4
  have kk : (kbN t).toNat = key.size := by omega
  have ekey : s.extract (e + 1) (e + 1 + key.size) = key := ba_ext ek
  have hvn : val.data.toList ≠ [] := fun h => by have : val.size = 0 := by rw [← size_list, h]; rfl
                                                 omega
  obtain ⟨l3, ev, _⟩ := take_of_drop hd4 hvn
  rw [size_list] at l3 ev
  have vv : (vbN t).toNat = val.size := by omega
  have eval : s.extract (e + 1 + key.size) (e + 1 + key.size + val.size) = val := ba_ext ev
  have n1 : ¬ s.size < e + 1 := by omega
  have n2 : ¬ tabB t = false := by rw [tabB_t h0 h3]; simp
  have n3 : ¬ s.size < e + 1 + key.size := by omega
  have n4 : ¬ keyB t key = false := by rw [w2]; simp
  have n5 : ¬ behind t key l = false := by rw [hb]; simp
  have n6 : ¬ s.size < e + 1 + key.size + val.size := by omega
  have n7 : ¬ valB t val = false := by rw [w3]; simp
  rw [ent, b0, kk, ekey, vv, eval, if_neg n1, if_neg n2, if_neg n3, if_neg n4, if_neg n5, if_neg n6, if_neg n7, enB_length]
  simp; omega

theorem bytes_of_ent {s : ByteArray} {e e' : Nat} {l : List En} {x : En} (h : ent s e l = .ok (x, e')) : okE x ∧ behind x.t x.k l = true ∧ e' = e + (enB x).length ∧ e' ≤ s.size ∧ s.data.toList.drop e = enB x ++ s.data.toList.drop e' := by
  by_cases c1 : s.size < e + 1
  · rw [ent, if_pos c1] at h; cases h
  cases c2 : tabB (bt s e)
  · rw [ent, if_neg c1, if_pos c2] at h; cases h
  have n2 : ¬ tabB (bt s e) = false := by rw [c2]; simp
  have hkb := kbN_bd (bt s e)
  have hvb := vbN_bd (bt s e)
  obtain ⟨k, kk⟩ : ∃ k : Nat, (kbN (bt s e)).toNat = k := ⟨_, rfl⟩
  obtain ⟨m, mm⟩ : ∃ m : Nat, (vbN (bt s e)).toNat = m := ⟨_, rfl⟩
  rw [ent, kk, mm, if_neg c1, if_neg n2] at h
  by_cases c3 : s.size < e + 1 + k
  · rw [if_pos c3] at h; cases h
  rw [if_neg c3] at h
  cases c4 : keyB (bt s e) (s.extract (e + 1) (e + 1 + k))
  · rw [if_pos c4] at h; cases h
  rw [if_neg (by rw [c4]; simp)] at h
  cases c5 : behind (bt s e) (s.extract (e + 1) (e + 1 + k)) l
  · rw [if_pos c5] at h; cases h
  rw [if_neg (by rw [c5]; simp)] at h
  by_cases c7 : s.size < e + 1 + k + m
  · rw [if_pos c7] at h; cases h
  rw [if_neg c7] at h
  cases c8 : valB (bt s e) (s.extract (e + 1 + k) (e + 1 + k + m))
  · rw [if_pos c8] at h; cases h
  rw [if_neg (by rw [c8]; simp)] at h
  have := ok_inj h
  simp only [Prod.mk.injEq] at this
  obtain ⟨rfl, rfl⟩ := this
  have sk : (s.extract (e + 1) (e + 1 + k)).size = k := by rw [← size_list]; exact piece_length s (e + 1) k (by omega)
  have sm : (s.extract (e + 1 + k) (e + 1 + k + m)).size = m := by rw [← size_list]; exact piece_length s (e + 1 + k) m (by omega)
  refine ⟨okE_mk c2 c4 c8, c5, ?_, by omega, ?_⟩
  · rw [enB_length]; simp only [sk, sm]; omega
  · rw [drop_bt s e (by omega), drop_ext s (e + 1) k, drop_ext s (e + 1 + k) m]; simp [enB]
theorem place_of_ent {s : ByteArray} {e : Nat} {l : List En} {k a : Int} (he : e ≤ s.size) (h : ent s e l = .error (k, a)) : 0 ≤ a ∧ a ≤ s.size := by
  have hkb := kbN_bd (bt s e)
  unfold ent at h
  repeat' split at h
  all_goals first
    | (simp only [Except.error.injEq, Prod.mk.injEq] at h; omega)
    | cases h

theorem behind_srt {l : List En} {x : En} (hs : Srt l) (hb : behind x.t x.k l = true) : Srt (l ++ [x]) := by
  refine List.pairwise_append.2 ⟨hs, by simp, fun a ha b hb' => ?_⟩
  obtain rfl : b = x := by simpa using hb'
  rcases List.eq_nil_or_concat l with rfl | ⟨m, y, rfl⟩
  · simp at ha
  · simp only [List.concat_eq_append] at *
    have hy : cmpK y.t y.k b.t b.k < 0 := by simpa [behind] using hb
    rcases List.mem_append.1 ha with h | h
    · exact cmpK_trans ((List.pairwise_append.1 hs).2.2 a h y (by simp)) hy
    · obtain rfl : a = y := by simpa using h
      exact hy
theorem srt_behind {l m : List En} {x : En} (hs : Srt (l ++ x :: m)) : behind x.t x.k l = true := by
  rcases List.eq_nil_or_concat l with rfl | ⟨m', y, rfl⟩
  · rfl
  · simp only [List.concat_eq_append] at *
    have := (List.pairwise_append.1 hs).2.2 y (by simp) x (by simp)
    simpa [behind] using this
theorem ents_of_bytes {s : ByteArray} : ∀ (m : List En) (e : Nat) (l : List En) (rest : List UInt8), Ok m → Srt (l ++ m) → s.data.toList.drop e = ensB m ++ rest → ents s m.length e l = .ok (l ++ m, e + (ensB m).length)
  | [], e, l, rest, _, _, _ => by simp [ents, ensB]
  | x :: m, e, l, rest, ho, hs, hd => by
    rw [ensB_cons, List.append_assoc] at hd
    have hc := ent_of_bytes (l := l) (ho x (by simp)) (srt_behind hs) hd
    have hd' := (take_of_drop hd (by simp [enB])).2.2
    have ih := ents_of_bytes m (e + (enB x).length) (l ++ [x]) rest (fun y hy => ho y (by simp [hy])) (by simpa using hs) hd'
    rw [List.length_cons, ents, hc]
    simp only [ih, ensB_cons, List.length_append, List.append_assoc, List.singleton_append]
    rw [Nat.add_assoc]
theorem bytes_of_ents {s : ByteArray} : ∀ (n e : Nat) (l m : List En) (e' : Nat), e ≤ s.size → Srt l → ents s n e l = .ok (m, e') →
    ∃ m', m = l ++ m' ∧ m'.length = n ∧ e' ≤ s.size ∧ s.data.toList.drop e = ensB m' ++ s.data.toList.drop e' ∧ Ok m' ∧ Srt m
  | 0, e, l, m, e', he, hs, h => by
    simp only [ents] at h
    have := ok_inj h
    simp only [Prod.mk.injEq] at this
    obtain ⟨rfl, rfl⟩ := this
    exact ⟨[], by simp, rfl, he, by simp [ensB], fun _ h => absurd h (by simp), hs⟩
  | n + 1, e, l, m, e', he, hs, h => by
    rw [ents] at h
    cases hc : ent s e l with
    | error f => rw [hc] at h; cases h
    | ok p =>
      obtain ⟨x, e1⟩ := p
      rw [hc] at h
      obtain ⟨w0, w1, _, l1, d1⟩ := bytes_of_ent hc
      obtain ⟨m', rfl, hm, l2, d2, ho, hs'⟩ := bytes_of_ents n e1 (l ++ [x]) m e' l1 (behind_srt hs w1) h
      refine ⟨x :: m', by simp, by simp [hm], l2, by rw [d1, d2, ensB_cons, List.append_assoc], fun y hy => ?_, hs'⟩
      rcases List.mem_cons.1 hy with rfl | hy
      · exact w0
      · exact ho y hy
theorem place_of_ents {s : ByteArray} : ∀ (n e : Nat) (l : List En) (k a : Int), e ≤ s.size → ents s n e l = .error (k, a) → 0 ≤ a ∧ a ≤ s.size
  | 0, e, l, k, a, _, h => by simp [ents] at h
  | n + 1, e, l, k, a, he, h => by
    rw [ents] at h
    cases hc : ent s e l with
    | error f =>
      rw [hc] at h
      obtain ⟨k', a'⟩ := f
      simp only [Except.error.injEq, Prod.mk.injEq] at h
      obtain ⟨rfl, rfl⟩ := h
      exact place_of_ent he hc
    | ok p =>
      obtain ⟨x, e1⟩ := p
      rw [hc] at h
      exact place_of_ents n e1 (l ++ [x]) k a (bytes_of_ent hc).2.2.2.1 h
theorem numAt2 (s : ByteArray) : numAt s 8 2 = bt s 8 * 256 + bt s 9 := by simp [numAt]
theorem beB2 (n : Int) : beB n 2 = [UInt8.ofNat (n / 256 % 256).toNat, UInt8.ofNat (n % 256).toNat] := by simp [beB]

/-- A state that was written is read as it was. -/
theorem sta_enc {s : ByteArray} {v : Int} {l : List En} (h1 : verB v = true) (hl : l.length ≤ 65535) (ho : Ok l) (hs : Srt l) (hb : s.data.toList = staB v l) : sta s = .ok (v, l) := by
  have hv : 1 ≤ v ∧ v ≤ 18446744073709551614 := by simpa [verB] using h1
  have hd0 : s.data.toList.drop 0 = beB v 8 ++ (beB (l.length : Int) 2 ++ ensB l) := by rw [List.drop_zero]; exact hb
  rw [beB8, beB2] at hd0
  simp only [List.cons_append, List.nil_append] at hd0
  obtain ⟨b0, _, hd1⟩ := bt_of_drop hd0
  obtain ⟨b1, _, hd2⟩ := bt_of_drop hd1
  obtain ⟨b2, _, hd3⟩ := bt_of_drop hd2
  obtain ⟨b3, _, hd4⟩ := bt_of_drop hd3
  obtain ⟨b4, _, hd5⟩ := bt_of_drop hd4
  obtain ⟨b5, _, hd6⟩ := bt_of_drop hd5
  obtain ⟨b6, _, hd7⟩ := bt_of_drop hd6
  obtain ⟨b7, _, hd8⟩ := bt_of_drop hd7
  obtain ⟨b8, _, hd9⟩ := bt_of_drop hd8
  obtain ⟨b9, z9, hd10⟩ := bt_of_drop hd9
  rw [byte_back _ (Int.emod_nonneg _ (by decide)) (Int.emod_lt_of_pos _ (by decide))] at b0 b1 b2 b3 b4 b5 b6 b7 b8 b9
  simp only [Nat.zero_add, Nat.reduceAdd] at b0 b1 b2 b3 b4 b5 b6 b7 b8 b9 z9 hd10
  have hn : numAt s 0 8 = v := by rw [numAt8, b0, b1, b2, b3, b4, b5, b6, b7]; omega
  have h8 : (numAt s 8 2).toNat = l.length := by rw [numAt2, b8, b9]; omega
  have hc := ents_of_bytes l 10 [] [] ho (by simpa using hs) (by rw [hd10]; simp)
  have hz : 10 + (ensB l).length = s.size := by
    have := congrArg List.length hd10
    rw [List.length_drop, size_list] at this
    omega
  rw [sta, stl, hn, h8, if_neg (by omega), if_neg (by rw [h1]; simp), if_neg (by omega), hc]
  simp only [List.nil_append]
  rw [if_neg (by omega)]
/-- What is read as a state is just what it is written as, in its order. -/
theorem enc_sta {s : ByteArray} {v : Int} {l : List En} (h : sta s = .ok (v, l)) : verB v = true ∧ l.length ≤ 65535 ∧ Ok l ∧ Srt l ∧ s.data.toList = staB v l := by
  by_cases c1 : s.size < 8
  · rw [sta, stl, if_pos c1] at h; cases h
  cases c2 : verB (numAt s 0 8)
  · rw [sta, stl, if_neg c1, if_pos c2] at h; cases h
  by_cases c3 : s.size < 10
  · rw [sta, stl, if_neg c1, if_neg (by rw [c2]; simp), if_pos c3] at h; cases h
  rw [sta, stl, if_neg c1, if_neg (by rw [c2]; simp), if_neg c3] at h
  cases hc : ents s (numAt s 8 2).toNat 10 [] with
  | error f => rw [hc] at h; cases h
  | ok p =>
    obtain ⟨m, e⟩ := p
    rw [hc] at h
    simp only at h
    by_cases c5 : e < s.size
    · rw [if_pos c5] at h; cases h
    rw [if_neg c5] at h
    have := ok_inj h
    simp only [Prod.mk.injEq] at this
    obtain ⟨rfl, rfl⟩ := this
    obtain ⟨m', e1, hm, l2, d2, ho, hs⟩ := bytes_of_ents _ 10 [] m e (by omega) List.Pairwise.nil hc
    rw [List.nil_append] at e1
    subst e1
    have b8 := bt_lo s 8
    have b9 := bt_lo s 9
    have hnn := numAt2 s
    have hml : (m.length : Int) = bt s 8 * 256 + bt s 9 := by omega
    refine ⟨c2, by omega, ho, hs, ?_⟩
    have hz : e = s.size := by omega
    have hdz : s.data.toList.drop e = [] := List.drop_eq_nil_of_le (by rw [size_list]; omega)
    rw [hdz, List.append_nil] at d2
    have hL : s.data.toList = UInt8.ofNat (bt s 0).toNat :: UInt8.ofNat (bt s 1).toNat :: UInt8.ofNat (bt s 2).toNat :: UInt8.ofNat (bt s 3).toNat :: UInt8.ofNat (bt s 4).toNat :: UInt8.ofNat (bt s 5).toNat :: UInt8.ofNat (bt s 6).toNat :: UInt8.ofNat (bt s 7).toNat :: UInt8.ofNat (bt s 8).toNat :: UInt8.ofNat (bt s 9).toNat :: ensB m := by
      rw [← d2, ← drop_bt s 9 (by omega), ← drop_bt s 8 (by omega), ← drop_bt s 7 (by omega), ← drop_bt s 6 (by omega), ← drop_bt s 5 (by omega), ← drop_bt s 4 (by omega), ← drop_bt s 3 (by omega), ← drop_bt s 2 (by omega), ← drop_bt s 1 (by omega), ← drop_bt s 0 (by omega), List.drop_zero]
    obtain ⟨s0, s1, s2, s3, s4, s5, s6, s7⟩ := split8 _ _ _ _ _ _ _ _ (bt_lo s 0) (bt_lo s 1) (bt_lo s 2) (bt_lo s 3) (bt_lo s 4) (bt_lo s 5) (bt_lo s 6) (bt_lo s 7)
    have s8 : (bt s 8 * 256 + bt s 9) / 256 % 256 = bt s 8 := by omega
    have s9 : (bt s 8 * 256 + bt s 9) % 256 = bt s 9 := by omega
    rw [hL, staB, beB8, beB2, numAt8, s0, s1, s2, s3, s4, s5, s6, s7, hml, s8, s9]
    simp
theorem place_of_sta {s : ByteArray} {k a : Int} (h : sta s = .error (k, a)) : 0 ≤ a ∧ a ≤ s.size := by
  by_cases c1 : s.size < 8
  · rw [sta, stl, if_pos c1] at h; simp only [Except.error.injEq, Prod.mk.injEq] at h; omega
  cases c2 : verB (numAt s 0 8)
  · rw [sta, stl, if_neg c1, if_pos c2] at h; simp only [Except.error.injEq, Prod.mk.injEq] at h; omega
  by_cases c3 : s.size < 10
  · rw [sta, stl, if_neg c1, if_neg (by rw [c2]; simp), if_pos c3] at h; simp only [Except.error.injEq, Prod.mk.injEq] at h; omega
  rw [sta, stl, if_neg c1, if_neg (by rw [c2]; simp), if_neg c3] at h
  cases hc : ents s (numAt s 8 2).toNat 10 [] with
  | error f =>
    rw [hc] at h
    obtain ⟨k', a'⟩ := f
    simp only [Except.error.injEq, Prod.mk.injEq] at h
    obtain ⟨rfl, rfl⟩ := h
    exact place_of_ents _ 10 [] _ _ (by omega) hc
  | ok p =>
    obtain ⟨m, e⟩ := p
    rw [hc] at h
    simp only at h
    obtain ⟨_, _, _, l2, _⟩ := bytes_of_ents _ 10 [] m e (by omega) List.Pairwise.nil hc
    by_cases c5 : e < s.size
    · rw [if_pos c5] at h; simp only [Except.error.injEq, Prod.mk.injEq] at h; omega
    · rw [if_neg c5] at h; cases h
end Go.Proofs.YtindifjhocgkbaaGreatDoor
namespace Go.Proofs.YtindifjhocgkbaaGreatDoor

theorem srt_ext : ∀ {a b : List En}, Srt a → Srt b → (∀ y, y ∈ a ↔ y ∈ b) → a = b
  | [], [], _, _, _ => rfl
  | [], y :: b, _, _, h => absurd ((h y).2 (by simp)) (by simp)
  | x :: a, [], _, _, h => absurd ((h x).1 (by simp)) (by simp)
  | x :: a, y :: b, ha, hb, h => by
    have ha' := List.pairwise_cons.1 ha
    have hb' := List.pairwise_cons.1 hb
    have self : ∀ (e : En), ¬ cmpK e.t e.k e.t e.k < 0 := fun e => by have := (cmpK_zero e.t e.k e.t e.k).2 ⟨rfl, rfl⟩; omega
    have e : x = y := by
      rcases List.mem_cons.1 ((h x).1 (by simp)) with e | h1
      · exact e
      · rcases List.mem_cons.1 ((h y).2 (by simp)) with e | h2
        · exact e.symm
        · exact absurd (cmpK_trans (ha'.1 y h2) (hb'.1 x h1)) (self x)
    subst e
    congr 1
    refine srt_ext ha'.2 hb'.2 fun z => ⟨fun hz => ?_, fun hz => ?_⟩
    · rcases List.mem_cons.1 ((h z).1 (by simp [hz])) with e | h1
      · subst e; exact absurd (ha'.1 z hz) (self z)
      · exact h1
    · rcases List.mem_cons.1 ((h z).2 (by simp [hz])) with e | h1
      · subst e; exact absurd (hb'.1 z hz) (self z)
      · exact h1
theorem del_iff {t : Int} {k : ByteArray} {y : En} {l : List En} (hs : Srt l) : y ∈ del t k l ↔ y ∈ l ∧ ¬ (y.t = t ∧ y.k = k) := by
  rw [show del t k l = l.filter (fun x => !sameE ⟨t, k, ⟨#[]⟩⟩ x) from (del_filter (e := ⟨t, k, ⟨#[]⟩⟩) hs).symm]
  simp [List.mem_filter, sameE]
  intro _
  exact ⟨fun h a b => h.elim (fun h => h a) (fun h => h b), fun h => by by_cases a : y.t = t; exact .inr (h a); exact .inl a⟩
theorem put_iff {e y : En} : ∀ {l : List En}, Srt l → (y ∈ put e l ↔ y = e ∨ (y ∈ l ∧ ¬ (y.t = e.t ∧ y.k = e.k)))
  | [], _ => by simp [put]
  | x :: l, hs => by
    have hs' := List.pairwise_cons.1 hs
    unfold put
    split
    · rename_i h
      have hx : ¬ (x.t = e.t ∧ x.k = e.k) := fun hc => by have := (cmpK_zero _ _ _ _).2 hc; unfold En.cmp at h; omega
      rw [List.mem_cons, put_iff hs'.2, List.mem_cons]
      constructor
      · rintro (rfl | rfl | ⟨h1, h2⟩)
        · exact .inr ⟨.inl rfl, hx⟩
        · exact .inl rfl
        · exact .inr ⟨.inr h1, h2⟩
      · rintro (rfl | ⟨rfl | h1, h2⟩)
        · exact .inr (.inl rfl)
        · exact .inl rfl
        · exact .inr (.inr ⟨h1, h2⟩)
    split
    · rename_i h0
      obtain ⟨e1, e2⟩ := (cmpK_zero _ _ _ _).1 h0
      rw [List.mem_cons, List.mem_cons]
      constructor
      · rintro (rfl | h1)
        · exact .inl rfl
        · refine .inr ⟨.inr h1, fun hc => ?_⟩
          have := hs'.1 y h1
          rw [e1, e2, hc.1, hc.2] at this
          have z := (cmpK_zero e.t e.k e.t e.k).2 ⟨rfl, rfl⟩; omega
      · rintro (rfl | ⟨rfl | h1, h2⟩)
        · exact .inl rfl
        · exact absurd ⟨e1, e2⟩ h2
        · exact .inr h1
    · rename_i h1 h2
      have h3 := cmp_pos h1 h2
      have hg : ∀ z ∈ x :: l, ¬ (z.t = e.t ∧ z.k = e.k) := fun z hz hc => by
        have : cmpK e.t e.k z.t z.k < 0 := by
          rcases List.mem_cons.1 hz with rfl | hz
          · exact h3
          · exact cmpK_trans h3 (hs'.1 z hz)
        rw [hc.1, hc.2] at this
        have z0 := (cmpK_zero e.t e.k e.t e.k).2 ⟨rfl, rfl⟩; omega
      rw [List.mem_cons]
      constructor
      · rintro (rfl | h4)
        · exact .inl rfl
        · exact .inr ⟨h4, hg y h4⟩
      · rintro (rfl | ⟨h4, _⟩)
        · exact .inl rfl
        · exact .inr h4
/-- Two changes of different keys may come in either order. -/
theorem chd_comm {l : List En} {o p : OpD} (hs : Srt l) (hne : ¬ (o.table = p.table ∧ o.key = p.key)) : chd (chd l o) p = chd (chd l p) o := by
  refine srt_ext (chd_srt (chd_srt hs)) (chd_srt (chd_srt hs)) fun y => ?_
  have hne' : ¬ (p.table = o.table ∧ p.key = o.key) := fun h => hne ⟨h.1.symm, h.2.symm⟩
  have so : Srt (chd l o) := chd_srt hs
  have sp : Srt (chd l p) := chd_srt hs
  unfold chd at *
  by_cases ho : o.kind = 2 <;> by_cases hp : p.kind = 2
  · simp only [ho, hp, if_true] at *
    rw [del_iff so, del_iff hs, del_iff sp, del_iff hs]
    constructor <;> (rintro ⟨⟨a, b⟩, c⟩; exact ⟨⟨a, c⟩, b⟩)
  · simp only [ho, hp, if_true, if_false] at *
    rw [put_iff so, del_iff hs, del_iff sp, put_iff hs]
    constructor
    · rintro (rfl | ⟨⟨a, b⟩, c⟩)
      · exact ⟨.inl rfl, hne'⟩
      · exact ⟨.inr ⟨a, c⟩, b⟩
    · rintro ⟨rfl | ⟨a, c⟩, b⟩
      · exact .inl rfl
      · exact .inr ⟨⟨a, b⟩, c⟩
  · simp only [ho, hp, if_true, if_false] at *
    rw [del_iff so, put_iff hs, put_iff sp, del_iff hs]
    constructor
    · rintro ⟨rfl | ⟨a, c⟩, b⟩
      · exact .inl rfl
      · exact .inr ⟨⟨a, b⟩, c⟩
    · rintro (rfl | ⟨⟨a, b⟩, c⟩)
      · exact ⟨.inl rfl, hne⟩
      · exact ⟨.inr ⟨a, c⟩, b⟩
  · simp only [ho, hp, if_false] at *
    rw [put_iff so, put_iff hs, put_iff sp, put_iff hs]
    constructor
    · rintro (rfl | ⟨rfl | ⟨a, c⟩, b⟩)
      · exact .inr ⟨.inl rfl, hne'⟩
      · exact .inl rfl
      · exact .inr ⟨.inr ⟨a, b⟩, c⟩
    · rintro (rfl | ⟨rfl | ⟨a, c⟩, b⟩)
      · exact .inr ⟨.inl rfl, hne⟩
      · exact .inl rfl
      · exact .inr ⟨.inr ⟨a, b⟩, c⟩
theorem aft_chd {o : OpD} : ∀ {f : List OpD} {l : List En}, Srt l → (∀ p ∈ f, ¬ (o.table = p.table ∧ o.key = p.key)) → aft (chd l o) f = chd (aft l f) o
  | [], l, _, _ => rfl
  | p :: f, l, hs, h => by
    show aft (chd (chd l o) p) f = chd (aft (chd l p) f) o
    rw [chd_comm hs (h p (by simp)), aft_chd (chd_srt hs) fun q hq => h q (by simp [hq])]
theorem aft_comm : ∀ {d f : List OpD} {l : List En}, Srt l → (∀ o ∈ d, ∀ p ∈ f, ¬ (o.table = p.table ∧ o.key = p.key)) → aft (aft l d) f = aft (aft l f) d
  | [], f, l, _, _ => rfl
  | o :: d, f, l, hs, h => by
    show aft (aft (chd l o) d) f = aft (chd (aft l f) o) d
    rw [aft_comm (chd_srt hs) fun q hq => h q (by simp [hq]), aft_chd hs (h o (by simp))]

/-- Changes each of which may be, no key twice. -/
def PairOk (l : List OpD) : Prop := (∀ o ∈ l, kindB o.kind o.table = true ∧ keyB o.table o.key = true ∧ fitsB o = true) ∧ l.Pairwise (fun a b => sameKey b.table b.key a = false)
theorem pairOk_of {l : List OpD} (h : ∀ j (hj : j < l.length), wrongN l[j] (l.take j) = 0) : PairOk l := by
  refine ⟨fun o ho => ?_, List.pairwise_iff_getElem.2 fun i j hi hj hij => ?_⟩
  · obtain ⟨j, hj, rfl⟩ := List.getElem_of_mem ho
    have := wrongN_ok (h j hj)
    exact ⟨this.1, this.2.1, this.2.2.2⟩
  · have := (wrongN_ok (h j hj)).2.2.1
    rw [List.any_eq_false] at this
    have hm : l[i] ∈ l.take j := by
      rw [List.mem_iff_getElem]
      exact ⟨i, by simp; omega, by simp⟩
    simpa using this _ hm
theorem of_pairOk {l : List OpD} (h : PairOk l) : ∀ j (hj : j < l.length), wrongN l[j] (l.take j) = 0 := fun j hj => by
  obtain ⟨h1, h2, h3⟩ := h.1 l[j] (List.getElem_mem hj)
  refine wrongN_0 h1 h2 ?_ h3
  rw [List.any_eq_false]
  intro x hx
  obtain ⟨i, hi, rfl⟩ := List.getElem_of_mem hx
  have hij : i < j := by simp at hi; omega
  have := List.pairwise_iff_getElem.1 h.2 i j (by omega) hj hij
  simp [this]
theorem pairOk_sub {l m : List OpD} (h : PairOk l) (hs : m.Sublist l) : PairOk m := ⟨fun o ho => h.1 o (hs.subset ho), h.2.sublist hs⟩
theorem wrongD_good {v : Int} {l : List OpD} (hv : verB v = true) (h1 : 1 ≤ l.length) (h8 : l.length ≤ 8) (h : ∀ j (hj : j < l.length), wrongN l[j] (l.take j) = 0) : wrongD v l = (0, 0) := by
  refine wrongD_zero ?_
  rw [wrongD_0 hv (by simp [cntB]; omega)]
  have key : ∀ (n i : Nat), i + n ≤ l.length → firstW l n i = (0, 0) := by
    intro n
    induction n with
    | zero => intro i _; rfl
    | succ n ih => intro i hi; rw [firstW, if_pos (by rw [wrongAt_eq (by omega)]; exact h i (by omega))]; exact ih (i + 1) (by omega)
  rw [key _ _ (by omega)]
/-- The changes of e whose key is none of d's. -/
def fewOf (d e : List OpD) : List OpD := e.filter (fun p => !d.any (sameKey p.table p.key))
theorem few_step (d e : List OpD) (j : Nat) (h : j < e.length) : fewOf d (e.take (j + 1)) = if d.any (sameKey e[j].table e[j].key) then fewOf d (e.take j) else fewOf d (e.take j) ++ [e[j]] := by
  unfold fewOf
  rw [List.take_succ_eq_append_getElem h, List.filter_append]
  by_cases hc : d.any (sameKey e[j].table e[j].key) = true
  · rw [if_pos hc]; simp [hc]
  · rw [if_neg hc]
    have hc' : d.any (sameKey e[j].table e[j].key) = false := by simpa using hc
    simp [hc']
theorem few_apart {d e : List OpD} : ∀ o ∈ d, ∀ p ∈ fewOf d e, ¬ (o.table = p.table ∧ o.key = p.key) := fun o ho p hp hc => by
  have h := (List.mem_filter.1 hp).2
  have h' : d.any (sameKey p.table p.key) = false := by simpa using h
  rw [List.any_eq_false] at h'
  exact h' o ho (by simp [sameKey, hc.1, hc.2])
end Go.Proofs.YtindifjhocgkbaaGreatDoor
