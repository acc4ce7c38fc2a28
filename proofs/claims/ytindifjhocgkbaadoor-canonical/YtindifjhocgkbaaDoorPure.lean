import Derived.Test.YtindifjhocgkbaaDoorRDecB
import Derived.Test.YtindifjhocgkbaaDoorByt
namespace Go.Proofs.YtindifjhocgkbaaDoor
open Go.RowKit

theorem opB_length (o : OpD) : (opB o).length = 2 + o.key.size + o.val.size := by simp [opB]; omega

theorem chg_of_bytes {s : ByteArray} {e : Nat} {l : List OpD} {o : OpD} {rest : List UInt8} (hw : wrongN o l = 0) (hd : s.data.toList.drop e = opB o ++ rest) : chg s e l = .ok (o, e + (opB o).length) := by
  obtain ⟨w1, w2, w3, w4⟩ := wrongN_ok hw
  obtain ⟨hk, h0, h3⟩ := kindB_in w1
  have hks := keyB_is h0 h3 w2
  have hkb := kbN_bd o.table
  have hvb := vbN_bd o.table
  obtain ⟨kind, table, key, val⟩ := o
  simp only at *
  have hd1 : s.data.toList.drop e = UInt8.ofNat kind.toNat :: (UInt8.ofNat table.toNat :: (key.data.toList ++ (val.data.toList ++ rest))) := by rw [hd]; simp [opB]
  obtain ⟨b0, l0, hd2⟩ := bt_of_drop hd1
  obtain ⟨b1, l1, hd3⟩ := bt_of_drop hd2
  rw [byte_back _ (by omega) (by omega)] at b0 b1
  have hkn : key.data.toList ≠ [] := fun h => by have : key.size = 0 := by rw [← size_list, h]; rfl
                                                 omega
  obtain ⟨l2, ek, hd4⟩ := take_of_drop hd3 hkn
  rw [size_list] at l2 ek hd4
  have kk : (kbN table).toNat = key.size := by omega
  have ekey : s.extract (e + 1 + 1) (e + 1 + 1 + key.size) = key := ba_ext ek
  have n1 : ¬ s.size < e + 2 := by omega
  have n2 : ¬ kindB kind table = false := by rw [w1]; simp
  have n3 : ¬ s.size < e + 2 + key.size := by omega
  have n4 : ¬ keyB table key = false := by rw [w2]; simp
  have n5 : ¬ l.any (sameKey table key) = true := by rw [w3]; simp
  rw [chg, b0, b1, kk, ekey, if_neg n1, if_neg n2, if_neg n3, if_neg n4, if_neg n5, opB_length]
  rcases hk with rfl | rfl
  · rw [if_neg (by decide)]
    rw [fits1 (by simp)] at w4
    simp only at w4
    have hvs := valB_is h0 h3 w4
    have hvn : val.data.toList ≠ [] := fun h => by have : val.size = 0 := by rw [← size_list, h]; rfl
                                                   omega
    obtain ⟨l3, ev, _⟩ := take_of_drop hd4 hvn
    rw [size_list] at l3 ev
    have vv : (vbN table).toNat = val.size := by omega
    have eval : s.extract (e + 1 + 1 + key.size) (e + 1 + 1 + key.size + val.size) = val := ba_ext ev
    have n7 : ¬ s.size < e + 2 + key.size + val.size := by omega
    have n8 : ¬ valB table val = false := by rw [w4]; simp
    rw [vv, if_neg n7, eval, if_neg n8]
    simp; omega
  · rw [if_pos rfl]
    rw [fits2 rfl] at w4
    obtain rfl := empty_of w4
    have : (⟨#[]⟩ : ByteArray).size = 0 := rfl
    simp [this]; omega

theorem bytes_of_chg {s : ByteArray} {e e' : Nat} {l : List OpD} {o : OpD} (h : chg s e l = .ok (o, e')) : wrongN o l = 0 ∧ e' = e + (opB o).length ∧ e' ≤ s.size ∧ s.data.toList.drop e = opB o ++ s.data.toList.drop e' := by
  by_cases c1 : s.size < e + 2
  · rw [chg, if_pos c1] at h; cases h
  cases c2 : kindB (bt s e) (bt s (e + 1))
  · rw [chg, if_neg c1, if_pos c2] at h; cases h
  have n2 : ¬ kindB (bt s e) (bt s (e + 1)) = false := by rw [c2]; simp
  obtain ⟨hk12, ht0, ht3⟩ := kindB_in c2
  have hkb := kbN_bd (bt s (e + 1))
  have hvb := vbN_bd (bt s (e + 1))
  obtain ⟨k, hk⟩ : ∃ k : Nat, kbN (bt s (e + 1)) = (k : Int) := ⟨(kbN (bt s (e + 1))).toNat, by omega⟩
  obtain ⟨m, hm⟩ : ∃ m : Nat, vbN (bt s (e + 1)) = (m : Int) := ⟨(vbN (bt s (e + 1))).toNat, by omega⟩
  have kk : (kbN (bt s (e + 1))).toNat = k := by omega
  have mm : (vbN (bt s (e + 1))).toNat = m := by omega
  rw [chg, kk, mm, if_neg c1, if_neg n2] at h
  by_cases c3 : s.size < e + 2 + k
  · rw [if_pos c3] at h; cases h
  rw [if_neg c3] at h
  cases c4 : keyB (bt s (e + 1)) (s.extract (e + 2) (e + 2 + k))
  · rw [if_pos c4] at h; cases h
  rw [if_neg (by rw [c4]; simp)] at h
  cases c5 : l.any (sameKey (bt s (e + 1)) (s.extract (e + 2) (e + 2 + k)))
  rotate_left
  · rw [if_pos c5] at h; cases h
  rw [if_neg (by rw [c5]; simp)] at h
  have e2 : s.data.toList.drop e = [UInt8.ofNat (bt s e).toNat, UInt8.ofNat (bt s (e + 1)).toNat] ++ (s.extract (e + 2) (e + 2 + k)).data.toList ++ s.data.toList.drop (e + 2 + k) := by
    rw [drop_bt s e (by omega), drop_bt s (e + 1) (by omega), drop_ext s (e + 2) k]; simp
  have sk : (s.extract (e + 2) (e + 2 + k)).size = k := by rw [← size_list]; exact piece_length s (e + 2) k (by omega)
  rcases hk12 with k1 | k2
  rotate_left
  · rw [if_pos k2] at h
    have := ok_inj h
    simp only [Prod.mk.injEq] at this
    obtain ⟨rfl, rfl⟩ := this
    refine ⟨wrongN_fine ⟨ht0, ht3⟩ c4 c5, ?_, by omega, ?_⟩
    · rw [opB_length]; simp only [sk]; have : (⟨#[]⟩ : ByteArray).size = 0 := rfl; omega
    · rw [e2, k2]; simp [opB]
  · rw [if_neg (by omega)] at h
    by_cases c7 : s.size < e + 2 + k + m
    · rw [if_pos c7] at h; cases h
    rw [if_neg c7] at h
    cases c8 : valB (bt s (e + 1)) (s.extract (e + 2 + k) (e + 2 + k + m))
    · rw [if_pos c8] at h; cases h
    rw [if_neg (by rw [c8]; simp), k1] at h
    have := ok_inj h
    simp only [Prod.mk.injEq] at this
    obtain ⟨rfl, rfl⟩ := this
    have sm : (s.extract (e + 2 + k) (e + 2 + k + m)).size = m := by rw [← size_list]; exact piece_length s (e + 2 + k) m (by omega)
    refine ⟨wrongN_0 (by rw [← k1]; exact c2) c4 c5 (by rw [fits1 (by simp)]; exact c8), ?_, by omega, ?_⟩
    · rw [opB_length]; simp only [sk, sm]; omega
    · rw [e2, k1, drop_ext s (e + 2 + k) m]; simp [opB]
theorem place_of_chg {s : ByteArray} {e : Nat} {l : List OpD} {k a : Int} (he : e ≤ s.size) (h : chg s e l = .error (k, a)) : 0 ≤ a ∧ a ≤ s.size := by
  have hkb := kbN_bd (bt s (e + 1))
  unfold chg at h
  repeat' split at h
  all_goals first
    | (simp only [Except.error.injEq, Prod.mk.injEq] at h; omega)
    | cases h
end Go.Proofs.YtindifjhocgkbaaDoor
