import Derived.Test.YtindifjhocgkbaaDoorLng
namespace Go.Proofs.YtindifjhocgkbaaDoor
open Go.RowKit Go.Maps

theorem low_zero (N : Nat) : ∀ m, (∀ i, i < m → N / 2 ^ i % 2 = 0) → N % 2 ^ m = 0
  | 0, _ => by simp [Nat.mod_one]
  | m + 1, h => by
    have ih := low_zero N m fun i hi => h i (by omega)
    have h1 := h m (by omega)
    rw [Nat.pow_succ, Nat.mod_mul, ih, h1]; simp
theorem pre_step (N M k : Nat) (hk : k < 32) : (N / 2 ^ (31 - k) = M / 2 ^ (31 - k)) ↔ (N / 2 ^ (32 - k) = M / 2 ^ (32 - k)) ∧ N / 2 ^ (31 - k) % 2 = M / 2 ^ (31 - k) % 2 := by
  have e : 32 - k = (31 - k) + 1 := by omega
  rw [e, Nat.pow_succ, ← Nat.div_div_eq_div_mul, ← Nat.div_div_eq_div_mul]
  generalize N / 2 ^ (31 - k) = x
  generalize M / 2 ^ (31 - k) = y
  omega
theorem pre_dec (N M k : Nat) (hk : k < 32) : decide (N / 2 ^ (32 - (k + 1)) = M / 2 ^ (32 - (k + 1))) = (decide (N / 2 ^ (32 - k) = M / 2 ^ (32 - k)) && decide (N / 2 ^ (31 - k) % 2 = M / 2 ^ (31 - k) % 2)) := by
  rw [show 32 - (k + 1) = 31 - k by omega, ← Bool.decide_and, decide_eq_decide]; exact pre_step N M k hk
theorem pre_zero (a b : ByteArray) : decide (numN a / 2 ^ (32 - 0) = numN b / 2 ^ (32 - 0)) = true := by
  have h1 := numN_lt a; have h2 := numN_lt b
  rw [Nat.div_eq_of_lt h1, Nat.div_eq_of_lt h2]; simp
/-- A bit of an address. -/
theorem bit_num (s : ByteArray) (i : Nat) (h : i < 32) : bit7 (bt s (i / 8)).toNat (i % 8) = numN s / 2 ^ (31 - i) % 2 := by
  have h1 := bit_at s i h
  have h2 := bt_lo s (i / 8)
  unfold bit7
  have e : (((bt s (i / 8)).toNat / 2 ^ (7 - i % 8) % 2 : Nat) : Int) = bt s (i / 8) / 2 ^ (7 - i % 8) % 2 := by
    rw [Int.natCast_emod, Int.natCast_ediv, Int.natCast_pow]
    rw [Int.toNat_of_nonneg h2.1]; rfl
  have := e.trans h1
  exact_mod_cast this
theorem key_of_bits {s : ByteArray} {n : Nat} (hs : s.size = 5) (h4 : bt s 4 = n) (hn : n ≤ 32) (h : ∀ j, n ≤ j → j < 32 → bit7 (bt s (j / 8)).toNat (j % 8) = 0) : keyB 1 s = true := by
  rw [keyB_1 hs]
  have hz : numN s % 2 ^ (32 - n) = 0 := low_zero _ _ fun i hi => by
    have hj := h (31 - i) (by omega) (by omega)
    rw [bit_num s (31 - i) (by omega), show 31 - (31 - i) = i by omega] at hj
    exact hj
  have hz2 := (num_split (numN s) n hn).1 hz
  have e : ((numN s * 2 ^ n : Nat) : Int) = (numN s : Int) * 2 ^ n := by rw [Int.natCast_mul, Int.natCast_pow]; rfl
  have h5 : (bt s 4).toNat = n := by omega
  rw [h5, ← numN_eq, ← e, h4]
  generalize numN s * 2 ^ n = X at *
  simp; omega
theorem val_i (i : Int) : valB 1 (baOf [1, i, 2, 3]) = true := by
  rw [valB_4 (by decide) (baOf_size _)]
  simp [baOf, ByteArray.toList_eq]
theorem wrongD_one {p v : ByteArray} (hp : keyB 1 p = true) (hv : valB 1 v = true) : wrongD 1 [⟨1, 1, p, v⟩] = (0, 0) := by
  refine wrongD_zero ?_
  rw [wrongD_0 (by decide) (by rfl)]
  show (firstW [⟨1, 1, p, v⟩] 1 0).1 = 0
  rw [firstW]
  have h0 : wrongAt [⟨1, 1, p, v⟩] 0 = 0 := by
    rw [wrongAt_eq (by simp)]
    exact wrongN_0 rfl hp rfl (by rw [fits1 (by simp)]; exact hv)
  rw [if_pos h0]; rfl

/-- The map of what was used, read at a key. -/
def UsedIs (D : DataW Unit) (l : List En) : Prop := IsMap D ∧ ∀ s : ByteArray, (D.atKey (.string s.data.toList) (.lit (.int .i64 0)) = .lit (.int .i64 0) ∧ ∀ e ∈ l, e.k ≠ s) ∨ D.atKey (.string s.data.toList) (.lit (.int .i64 0)) = .lit (.int .i64 1)
theorem used_put {D : DataW Unit} {l : List En} (h : UsedIs D l) (p v : ByteArray) : UsedIs (D.put (.string p.data.toList) (.lit (.int .i64 1))) (put ⟨1, p, v⟩ l) := by
  obtain ⟨hm, hs⟩ := h
  refine ⟨hm.put _ _, fun s => ?_⟩
  by_cases e : s = p
  · subst e
    exact .inr (atKey_put_same hm (by simp [WideAt.IsKeyLit]) _ _)
  · rw [atKey_put_other (fun e' => e (by simp at e'; exact ByteArray.ext e'))]
    rcases hs s with ⟨h1, h2⟩ | h1
    · refine .inl ⟨h1, fun x hx => ?_⟩
      rcases put_mem hx with rfl | hx
      · exact fun e' => e e'.symm
      · exact h2 x hx
    · exact .inr h1
theorem used_nil : UsedIs (.map []) [] := ⟨by simp [IsMap], fun s => .inl ⟨by simp [DataW.atKey], by simp⟩⟩
end Go.Proofs.YtindifjhocgkbaaDoor
