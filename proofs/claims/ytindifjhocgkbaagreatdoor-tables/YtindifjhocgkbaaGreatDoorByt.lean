import Derived.Test.YtindifjhocgkbaaGreatDoorRdB
import Derived.Test.YtindifjhocgkbaaGreatDoorOpC
namespace Go.Proofs.YtindifjhocgkbaaGreatDoor
open Go.RowKit

/-! ### Bytes, dropped and taken -/
theorem size_list (s : ByteArray) : s.data.toList.length = s.size := Array.length_toList
theorem ext_list (s : ByteArray) (a k : Nat) : (s.extract a (a + k)).data.toList = (s.data.toList.drop a).take k := by
  rw [ByteArray.data_extract, Array.toList_extract]; simp [List.extract_eq_take_drop]
theorem ba_ext {a b : ByteArray} (h : a.data.toList = b.data.toList) : a = b := by
  apply ByteArray.ext; exact Array.toList_inj.1 h
theorem drop_bt (s : ByteArray) (e : Nat) (h : e < s.size) : s.data.toList.drop e = UInt8.ofNat (bt s e).toNat :: s.data.toList.drop (e + 1) := by
  have h' : e < s.data.toList.length := by rw [size_list]; exact h
  rw [List.drop_eq_getElem_cons h']
  congr 1
  unfold bt
  rw [List.getD_eq_getElem?_getD, List.getElem?_eq_getElem h']
  simp
theorem drop_ext (s : ByteArray) (e k : Nat) : s.data.toList.drop e = (s.extract e (e + k)).data.toList ++ s.data.toList.drop (e + k) := by
  rw [ext_list, ← List.drop_drop]; exact (List.take_append_drop k _).symm
theorem bt_of_drop {s : ByteArray} {e : Nat} {x : UInt8} {r : List UInt8} (h : s.data.toList.drop e = x :: r) : bt s e = (x.toNat : Int) ∧ e < s.size ∧ s.data.toList.drop (e + 1) = r := by
  have h1 : e < s.data.toList.length := by
    rcases Nat.lt_or_ge e s.data.toList.length with h2 | h2
    · exact h2
    · rw [List.drop_eq_nil_of_le h2] at h; cases h
  rw [List.drop_eq_getElem_cons h1] at h
  simp only [List.cons.injEq] at h
  refine ⟨?_, by rw [← size_list]; exact h1, h.2⟩
  unfold bt
  rw [List.getD_eq_getElem?_getD, List.getElem?_eq_getElem h1, ← h.1]; rfl
theorem take_of_drop {s : ByteArray} {e : Nat} {a r : List UInt8} (h : s.data.toList.drop e = a ++ r) (ha : a ≠ []) : e + a.length ≤ s.size ∧ (s.extract e (e + a.length)).data.toList = a ∧ s.data.toList.drop (e + a.length) = r := by
  have h1 := congrArg List.length h
  rw [List.length_drop, size_list, List.length_append] at h1
  have h2 : 0 < a.length := List.length_pos_iff.2 ha
  refine ⟨by omega, ?_, ?_⟩
  · rw [ext_list, h]; simp
  · rw [← List.drop_drop, h]; simp

/-! ### A change -/
theorem keyB_is {t : Int} {k : ByteArray} (h0 : 0 ≤ t) (h3 : t < 3) (h : keyB t k = true) : (k.size : Int) = kbN t := by
  by_cases e : (k.size : Int) = kbN t
  · exact e
  · rw [keyB_no h0 h3 e] at h; cases h
theorem valB_is {t : Int} {v : ByteArray} (h0 : 0 ≤ t) (h3 : t < 3) (h : valB t v = true) : (v.size : Int) = vbN t := by
  rcases cases3 h0 h3 with rfl | rfl | rfl
  · by_cases e : v.size = 4
    · simp [vbN, e]
    · rw [valB_no4 (by decide) e] at h; cases h
  · by_cases e : v.size = 4
    · simp [vbN, e]
    · rw [valB_no4 (by decide) e] at h; cases h
  · by_cases e : v.size = 2
    · simp [vbN, e]
    · rw [valB_no2 e] at h; cases h
theorem empty_of {v : ByteArray} (h : v.toList.isEmpty = true) : v = ⟨#[]⟩ := by
  apply ba_ext
  rw [ByteArray.toList_eq] at h
  simpa using h
theorem ok_inj {α β : Type} {a b : α} (h : (Except.ok a : Except β α) = .ok b) : a = b := by cases h; rfl
theorem numAt8 (s : ByteArray) : numAt s 0 8 = ((((((bt s 0 * 256 + bt s 1) * 256 + bt s 2) * 256 + bt s 3) * 256 + bt s 4) * 256 + bt s 5) * 256 + bt s 6) * 256 + bt s 7 := by
  simp [numAt]
theorem beB8 (n : Int) : beB n 8 = [UInt8.ofNat (n / 72057594037927936 % 256).toNat, UInt8.ofNat (n / 281474976710656 % 256).toNat, UInt8.ofNat (n / 1099511627776 % 256).toNat, UInt8.ofNat (n / 4294967296 % 256).toNat, UInt8.ofNat (n / 16777216 % 256).toNat, UInt8.ofNat (n / 65536 % 256).toNat, UInt8.ofNat (n / 256 % 256).toNat, UInt8.ofNat (n % 256).toNat] := by
  simp [beB]
theorem split8 (b0 b1 b2 b3 b4 b5 b6 b7 : Int) (h0 : 0 ≤ b0 ∧ b0 ≤ 255) (h1 : 0 ≤ b1 ∧ b1 ≤ 255) (h2 : 0 ≤ b2 ∧ b2 ≤ 255) (h3 : 0 ≤ b3 ∧ b3 ≤ 255) (h4 : 0 ≤ b4 ∧ b4 ≤ 255) (h5 : 0 ≤ b5 ∧ b5 ≤ 255) (h6 : 0 ≤ b6 ∧ b6 ≤ 255) (h7 : 0 ≤ b7 ∧ b7 ≤ 255) :
    (((((((b0 * 256 + b1) * 256 + b2) * 256 + b3) * 256 + b4) * 256 + b5) * 256 + b6) * 256 + b7) / 72057594037927936 % 256 = b0 ∧
    (((((((b0 * 256 + b1) * 256 + b2) * 256 + b3) * 256 + b4) * 256 + b5) * 256 + b6) * 256 + b7) / 281474976710656 % 256 = b1 ∧
    (((((((b0 * 256 + b1) * 256 + b2) * 256 + b3) * 256 + b4) * 256 + b5) * 256 + b6) * 256 + b7) / 1099511627776 % 256 = b2 ∧
    (((((((b0 * 256 + b1) * 256 + b2) * 256 + b3) * 256 + b4) * 256 + b5) * 256 + b6) * 256 + b7) / 4294967296 % 256 = b3 ∧
    (((((((b0 * 256 + b1) * 256 + b2) * 256 + b3) * 256 + b4) * 256 + b5) * 256 + b6) * 256 + b7) / 16777216 % 256 = b4 ∧
    (((((((b0 * 256 + b1) * 256 + b2) * 256 + b3) * 256 + b4) * 256 + b5) * 256 + b6) * 256 + b7) / 65536 % 256 = b5 ∧
    (((((((b0 * 256 + b1) * 256 + b2) * 256 + b3) * 256 + b4) * 256 + b5) * 256 + b6) * 256 + b7) / 256 % 256 = b6 ∧
    (((((((b0 * 256 + b1) * 256 + b2) * 256 + b3) * 256 + b4) * 256 + b5) * 256 + b6) * 256 + b7) % 256 = b7 := by
  refine ⟨?_, ?_, ?_, ?_, ?_, ?_, ?_, ?_⟩ <;> omega
end Go.Proofs.YtindifjhocgkbaaGreatDoor
