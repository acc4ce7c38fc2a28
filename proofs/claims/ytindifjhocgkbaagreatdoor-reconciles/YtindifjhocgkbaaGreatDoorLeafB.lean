import Derived.Test.YtindifjhocgkbaaGreatDoorLeafA
import Derived.Deep.QuietTactic
namespace Go.Proofs.YtindifjhocgkbaaGreatDoor
open Go.RowKit

def num (a : ByteArray) : Nat → Int
  | 0 => 0
  | k + 1 => num a k * 256 + bt a k
theorem num_bd (a : ByteArray) (k : Nat) : 0 ≤ num a k ∧ num a k < 256 ^ k := by
  induction k with
  | zero => simp [num]
  | succ k ih => have := bt_lo a k; simp only [num, Int.pow_succ]; omega
theorem num_bd3 (a : ByteArray) (k : Nat) (h : k < 4) : 0 ≤ num a k ∧ num a k < 16777216 := by
  have h1 := num_bd a k
  rcases (show k = 0 ∨ k = 1 ∨ k = 2 ∨ k = 3 by omega) with rfl | rfl | rfl | rfl <;> simp at h1 ⊢ <;> omega

theorem or_step (x y : Int) (h0 : 0 ≤ x) (h1 : x < 16777216) (h2 : 0 ≤ y) (h3 : y ≤ 255) :
    bits BinOp.or IntKind.u32 (x * 256 % 4294967296) (y % 4294967296) = x * 256 + y := by
  rw [Int.emod_eq_of_lt (by omega) (by omega), Int.emod_eq_of_lt (by omega) (by omega)]
  exact bits_join .u32 32 (by decide) (fun n a b => by simp [IntKind.wrap, IntKind.bits, IntKind.signed]; omega) 8 _ _ (by omega) (by omega) (by omega) (by omega) (by omega) (by omega)

set_option maxHeartbeats 400000 in
theorem bitsOf (a : ByteArray) (w : World) (ha : a.size = 4) :
    Calls Tryz.prog 141 #[.string a] w fun e w' => e = .returned (.int .u32 (num a 4)) ∧ w' = w := by
  have hsz : (a.size : Int) ≤ 4 := by omega
  have HA : Hid (a.size = 4) := ha
  clear ha
  go_enter Tryz.func141, Tryz.ntmps141
  go_wp2
  go_loop [3, 4, 7] (fun b _ i => ∃ k : Nat, k ≤ a.size ∧ i = .int .i64 k ∧ b = .int .u32 (num a k)) (fun _ _ i => a.size - (intOf i).toNat)
  case atStart => exact ⟨0, Nat.zero_le _, rfl, rfl⟩
  case round =>
    obtain ⟨k, hk, rfl, rfl⟩ := hrel
    by_cases hlt : k < a.size
    · go_wp2
      go_round
      case rel => exact ⟨k + 1, by omega, by go_num, by rw [bt_eq hlt, or_step _ _ (num_bd3 a k (by omega)).1 (num_bd3 a k (by omega)).2 (bt_lo a k).1 (bt_lo a k).2]; rfl⟩
      case measure => simp [intOf]; omega
    · obtain rfl : k = 4 := by have := HA.out; omega
      go_wp2
      go_ret
      exact ⟨rfl, rfl⟩

set_option maxHeartbeats 400000 in
theorem isPrefix (a : ByteArray) (l : Int) (w : World) (ha : a.size = 4) (h0 : 0 ≤ l) (h1 : l ≤ 255) :
    Calls Tryz.prog 133 #[.string a, .int .u8 l] w fun e w' => e = .returned (.bool (decide (l ≤ 32) && (num a 4 * 2 ^ l.toNat % 4294967296 == 0))) ∧ w' = w := by
  have HA : Hid (a.size = 4) := ha
  clear ha
  by_cases hl : l ≤ 32
  all_goals
    go_enter Tryz.func133, Tryz.ntmps133
    go_wp2_with (go_at_call 141; refine (bitsOf a _ HA.out).mono ?_; rintro e w' ⟨rfl, rfl⟩)
    all_goals go_ret
    all_goals refine ⟨ret_bool ?_, rfl⟩
    all_goals first | (simp; done) | (simp; intro h; omega) | (simp [hl]; done)

def bitsTo (N a i : Nat) : Nat := (N / 2 ^ (32 - i)) % 2 ^ (i - a)
theorem bitsTo_step (N a i : Nat) (ha : a ≤ i) (hi : i < 32) : bitsTo N a (i + 1) = 2 * bitsTo N a i + N / 2 ^ (31 - i) % 2 := by
  unfold bitsTo
  have e1 : 32 - i = (31 - i) + 1 := by omega
  have e2 : i + 1 - a = (i - a) + 1 := by omega
  have e3 : 32 - (i + 1) = 31 - i := by omega
  rw [e3, e2, e1, Nat.pow_succ 2 (31 - i), ← Nat.div_div_eq_div_mul]
  generalize N / 2 ^ (31 - i) = M
  rw [Nat.pow_succ, Nat.mul_comm (2 ^ (i - a)) 2, Nat.mod_mul]
  omega
theorem bitsTo_lt (N a i : Nat) (h : i ≤ 32) : bitsTo N a i < 4294967296 := by
  unfold bitsTo
  have h1 : 0 < 2 ^ (i - a) := Nat.pow_pos (by decide)
  have h2 := Nat.mod_lt (N / 2 ^ (32 - i)) h1
  have h3 : 2 ^ (i - a) ≤ 2 ^ 32 := Nat.pow_le_pow_right (by decide) (by omega)
  omega
def numN (a : ByteArray) : Nat := (num a 4).toNat
theorem numN_eq (a : ByteArray) : ((numN a : Nat) : Int) = num a 4 := by unfold numN; have := (num_bd a 4).1; omega
theorem bit_at (a : ByteArray) (i : Nat) (h : i < 32) : bt a (i / 8) / 2 ^ (7 - i % 8) % 2 = ((numN a / 2 ^ (31 - i) % 2 : Nat) : Int) := by
  have h0 := bt_lo a 0
  have h1 := bt_lo a 1
  have h2 := bt_lo a 2
  have h3 := bt_lo a 3
  have hn := numN_eq a
  simp only [num] at hn
  have key : ∀ j, j < 32 → bt a (j / 8) / 2 ^ (7 - j % 8) % 2 = ((numN a / 2 ^ (31 - j) % 2 : Nat) : Int) := by
    intro j hj
    rcases (show j = 0 ∨ j = 1 ∨ j = 2 ∨ j = 3 ∨ j = 4 ∨ j = 5 ∨ j = 6 ∨ j = 7 ∨ j = 8 ∨ j = 9 ∨ j = 10 ∨ j = 11 ∨ j = 12 ∨ j = 13 ∨ j = 14 ∨ j = 15 ∨ j = 16 ∨ j = 17 ∨ j = 18 ∨ j = 19 ∨ j = 20 ∨ j = 21 ∨ j = 22 ∨ j = 23 ∨ j = 24 ∨ j = 25 ∨ j = 26 ∨ j = 27 ∨ j = 28 ∨ j = 29 ∨ j = 30 ∨ j = 31 by omega) with rfl | rfl | rfl | rfl | rfl | rfl | rfl | rfl | rfl | rfl | rfl | rfl | rfl | rfl | rfl | rfl | rfl | rfl | rfl | rfl | rfl | rfl | rfl | rfl | rfl | rfl | rfl | rfl | rfl | rfl | rfl | rfl <;> simp <;> omega
  exact key i h

theorem w64 {x : Int} (h0 : -9223372036854775808 ≤ x) (h1 : x ≤ 9223372036854775807) : wrap64 x = x := by unfold wrap64; omega
theorem bits_round (a : ByteArray) (l k : Nat) (hlk : l ≤ k) (hlt : k < 32) (hi : k / 8 < a.size) :
    wrap64 (2 * ↑(bitsTo (numN a) l k) + (wrap64 (↑(a[k / 8]'hi).toNat / 2 ^ (7 - k % 8))).tmod 2) = ↑(bitsTo (numN a) l (k + 1)) := by
  rw [bt_eq hi]
  have hb := bitsTo_lt (numN a) l k (by omega)
  have hq : 0 ≤ bt a (k / 8) / 2 ^ (7 - k % 8) ∧ bt a (k / 8) / 2 ^ (7 - k % 8) ≤ 255 := by
    have h := bt_lo a (k / 8)
    refine ⟨Int.ediv_nonneg h.1 (Int.pow_nonneg (by decide)), ?_⟩
    exact Int.le_trans (Int.ediv_le_self _ h.1) h.2
  have hx := bit_at a k hlt
  rw [w64 (x := bt a (k / 8) / 2 ^ (7 - k % 8)) (by omega) (by omega), Int.tmod_eq_emod_of_nonneg hq.1, hx, bitsTo_step _ _ _ hlk hlt]
  rw [w64 (by omega) (by omega)]
  simp

set_option maxHeartbeats 400000 in
theorem rBits (a : ByteArray) (l : Int) (w : World) (ha : a.size = 4) (h0 : 0 ≤ l) (h1 : l ≤ 32) :
    Calls Tryz.prog 74 #[.string a, .int .i64 l, .int .i64 32] w fun e w' => e = .returned (.int .i64 (bitsTo (numN a) l.toNat 32)) ∧ w' = w := by
  obtain ⟨l, rfl⟩ := Int.eq_ofNat_of_zero_le h0
  simp only [Int.toNat_natCast]
  have hl : l ≤ 32 := by omega
  have hsz : (a.size : Int) ≤ 4 := by omega
  have hsz' : (4 : Int) ≤ a.size := by omega
  have HA : Hid (a.size = 4) := ha
  clear ha
  go_enter Tryz.func74, Tryz.ntmps74
  go_wp2
  go_loop [7, 8] (fun n i => ∃ k : Nat, l ≤ k ∧ k ≤ 32 ∧ i = .int .i64 k ∧ n = .int .i64 (bitsTo (numN a) l k)) (fun _ i => 32 - (intOf i).toNat)
  case atStart => exact ⟨l, by omega, by omega, rfl, by simp [bitsTo, Nat.mod_one]⟩
  case round =>
    obtain ⟨k, hlk, hk, rfl, rfl⟩ := hrel
    have hb := bitsTo_lt (numN a) l k hk
    by_cases hlt : k < 32
    · go_wp2
      go_round
      case rel => exact ⟨k + 1, by omega, by omega, by go_num, congrArg (Value.int IntKind.i64) (bits_round a l k hlk hlt (by omega))⟩
      case measure => simp [intOf]; omega
    · obtain rfl : k = 32 := by omega
      go_wp2
      go_ret
      exact ⟨rfl, rfl⟩

def keyB (t : Int) (k : ByteArray) : Bool :=
  if t = 0 then decide (k.size = 6) && (bt k 0 % 2 == 0) else if t = 1 then decide (k.size = 5) && (decide (bt k 4 ≤ 32) && (num k 4 * 2 ^ (bt k 4).toNat % 4294967296 == 0)) else decide (k.size = 2)
theorem keyB_no {t : Int} {k : ByteArray} (h0 : 0 ≤ t) (h3 : t < 3) (h : (k.size : Int) ≠ kbN t) : keyB t k = false := by
  rcases cases3 h0 h3 with rfl | rfl | rfl <;> simp [kbN] at h <;> simp [keyB] <;> omega
theorem keyB_0 {k : ByteArray} (h : k.size = 6) : keyB 0 k = (bt k 0 % 2 == 0) := by simp [keyB, h]
theorem keyB_1 {k : ByteArray} (h : k.size = 5) : keyB 1 k = (decide (bt k 4 ≤ 32) && (num k 4 * 2 ^ (bt k 4).toNat % 4294967296 == 0)) := by simp [keyB, h]
theorem keyB_2 {k : ByteArray} (h : k.size = 2) : keyB 2 k = true := by simp [keyB, h]
theorem and1 {x : Int} (h0 : 0 ≤ x) (h1 : x ≤ 255) : bits .and .u8 x 1 = x % 2 := bits_mask .u8 8 (by decide) wraps_u8 1 (by decide) x h0 (by omega)

theorem quiet_same2 {P : Program} {f : FuncId} {args : Array Value} {W : World} {a n : Nat} {v : Value}
    (h : Calls P f args (W.drewN (a + n)) fun e w' => e = .returned v ∧ w' = W.drewN (a + n)) : Calls P f args (W.drewN (a + n)) fun e w'' => e = .returned v ∧ ∃ m, w'' = W.drewN (a + m) :=
  h.mono fun _ _ ⟨he, hm⟩ => ⟨he, n, hm⟩
theorem isTable_in (t : Int) (w : World) (h0 : 0 ≤ t) (h3 : t < 3) :
    Calls Tryz.prog 132 #[.int .i64 t] w fun e w' => e = .returned (.bool true) ∧ w' = w := by
  have h := isTable t w
  rw [tabB_t h0 h3] at h
  exact h

set_option maxHeartbeats 400000 in
theorem isKey_no (t : Int) (k : ByteArray) (w : World) (h0 : 0 ≤ t) (h3 : t < 3) (g : Glob w) (hs : (k.size : Int) ≠ kbN t) :
    Calls Tryz.prog 115 #[.agg #[.int .i64 t, .string k]] w fun e w' => e = .returned (.bool (keyB t k)) ∧ Below w.heap.size w w' := by
  rw [keyB_no h0 h3 hs]
  have c0 := g.k0
  have c1 := g.k1
  have c2 := g.k2
  have hz := g.lt
  have d0 : ∀ o, (w.alloc o).cell? ⟨1, 0, none⟩ = some (.int .i64 6) := fun o => (World.cell?_alloc_lt _ _ _ (by simp; omega)).trans c0
  have d1 : ∀ o, (w.alloc o).cell? ⟨1, 1, none⟩ = some (.int .i64 5) := fun o => (World.cell?_alloc_lt _ _ _ (by simp; omega)).trans c1
  have d2 : ∀ o, (w.alloc o).cell? ⟨1, 2, none⟩ = some (.int .i64 2) := fun o => (World.cell?_alloc_lt _ _ _ (by simp; omega)).trans c2
  rcases cases3 h0 h3 with rfl | rfl | rfl
  · have hb : ((k.size : Int) != 6) = true := by simpa [kbN] using hs
    clear hs
    go_enter Tryz.func115, Tryz.ntmps115
    go_wp2_with fail
    go_quiet ((go_at_call 132; exact Calls.quiet_of_same (isTable_in _ _ (by decide) (by decide))))
    go_wp2
    go_ret
    exact ⟨rfl, below_drewN ((Below.refl _ _).alloc (Nat.le_refl _) _) _⟩
  · have hb : ((k.size : Int) != 5) = true := by simpa [kbN] using hs
    clear hs
    go_enter Tryz.func115, Tryz.ntmps115
    go_wp2_with fail
    go_quiet ((go_at_call 132; exact Calls.quiet_of_same (isTable_in _ _ (by decide) (by decide))))
    go_wp2
    go_ret
    exact ⟨rfl, below_drewN ((Below.refl _ _).alloc (Nat.le_refl _) _) _⟩
  · have hb : ((k.size : Int) != 2) = true := by simpa [kbN] using hs
    clear hs
    go_enter Tryz.func115, Tryz.ntmps115
    go_wp2_with fail
    go_quiet ((go_at_call 132; exact Calls.quiet_of_same (isTable_in _ _ (by decide) (by decide))))
    go_wp2
    go_ret
    exact ⟨rfl, below_drewN ((Below.refl _ _).alloc (Nat.le_refl _) _) _⟩

theorem bt_extract {k : ByteArray} {i : Nat} (hi : i < 4) : bt (k.extract 0 4) i = bt k i := by
  unfold bt
  simp only [ByteArray.data_extract, Array.toList_extract]
  congr 2
  simp [List.getD_eq_getElem?_getD, hi]
theorem num_extract (k : ByteArray) : num (k.extract 0 4) 4 = num k 4 := by
  simp only [num, bt_extract (k := k) (i := 0) (by decide), bt_extract (k := k) (i := 1) (by decide), bt_extract (k := k) (i := 2) (by decide), bt_extract (k := k) (i := 3) (by decide)]
theorem size_extract {k : ByteArray} (h : 4 ≤ k.size) : (k.extract 0 4).size = 4 := by simp; omega
theorem isPrefix_key (k : ByteArray) (j4 : 4 < k.size) (w : World) :
    Calls Tryz.prog 133 #[.string (k.extract 0 4), .int .u8 ((k[4]'j4).toNat : Int)] w fun e w' => e = .returned (.bool (decide (((k[4]'j4).toNat : Int) ≤ 32) && (num k 4 * 2 ^ ((k[4]'j4).toNat : Int).toNat % 4294967296 == 0))) ∧ w' = w := by
  have hp := isPrefix (k.extract 0 4) ((k[4]'j4).toNat : Int) w (size_extract (by omega)) (by omega) (by have := (k[4]'j4).toNat_lt; omega)
  rw [num_extract] at hp
  exact hp

set_option maxHeartbeats 400000 in
theorem isKey (t : Int) (k : ByteArray) (w : World) (h0 : 0 ≤ t) (h3 : t < 3) (g : Glob w) :
    Calls Tryz.prog 115 #[.agg #[.int .i64 t, .string k]] w fun e w' => e = .returned (.bool (keyB t k)) ∧ Below w.heap.size w w' := by
  by_cases hs : (k.size : Int) = kbN t
  rotate_left
  · exact isKey_no t k w h0 h3 g hs
  have c0 := g.k0
  have c1 := g.k1
  have c2 := g.k2
  have hz := g.lt
  have d0 : ∀ o, (w.alloc o).cell? ⟨1, 0, none⟩ = some (.int .i64 6) := fun o => (World.cell?_alloc_lt _ _ _ (by simp; omega)).trans c0
  have d1 : ∀ o, (w.alloc o).cell? ⟨1, 1, none⟩ = some (.int .i64 5) := fun o => (World.cell?_alloc_lt _ _ _ (by simp; omega)).trans c1
  have d2 : ∀ o, (w.alloc o).cell? ⟨1, 2, none⟩ = some (.int .i64 2) := fun o => (World.cell?_alloc_lt _ _ _ (by simp; omega)).trans c2
  rcases cases3 h0 h3 with rfl | rfl | rfl
  · have hs' : k.size = 6 := by simp [kbN] at hs; omega
    have j0 : 0 < k.size := by omega
    have hb : ((k.size : Int) != 6) = false := by simp; omega
    rw [keyB_0 hs', ← bt_eq j0, ← and1 (by omega) (by have := (k[0]'j0).toNat_lt; omega)]
    clear hs hs'
    go_enter Tryz.func115, Tryz.ntmps115
    go_wp2_with fail
    go_quiet ((go_at_call 132; exact Calls.quiet_of_same (isTable_in _ _ (by decide) (by decide))))
    go_wp2
    go_ret
    exact ⟨rfl, below_drewN ((Below.refl _ _).alloc (Nat.le_refl _) _) _⟩
  · have hs' : k.size = 5 := by simp [kbN] at hs; omega
    have j4 : 4 < k.size := by omega
    have hj4 : (4 : Int) < (k.size : Int) := by omega
    have hj4' : (4 : Int) ≤ (k.size : Int) := by omega
    have hb : ((k.size : Int) != 5) = false := by simp; omega
    rw [keyB_1 hs', ← bt_eq j4]
    clear hs hs'
    go_enter Tryz.func115, Tryz.ntmps115
    go_wp2_with fail
    go_quiet ((go_at_call 132; exact Calls.quiet_of_same (isTable_in _ _ (by decide) (by decide))))
    go_wp2_with fail
    go_quiet ((go_at_call 133; exact quiet_same2 (isPrefix_key k j4 _)))
    go_wp2
    go_ret
    exact ⟨rfl, below_drewN (below_drewN ((Below.refl _ _).alloc (Nat.le_refl _) _) _) _⟩
  · have hs' : k.size = 2 := by simp [kbN] at hs; omega
    have hb : ((k.size : Int) != 2) = false := by simp; omega
    rw [keyB_2 hs']
    clear hs hs'
    go_enter Tryz.func115, Tryz.ntmps115
    go_wp2_with fail
    go_quiet ((go_at_call 132; exact Calls.quiet_of_same (isTable_in _ _ (by decide) (by decide))))
    go_wp2
    go_ret
    exact ⟨rfl, below_drewN ((Below.refl _ _).alloc (Nat.le_refl _) _) _⟩

theorem num_split (N a : Nat) (h : a ≤ 32) : (N % 2 ^ (32 - a) = 0) ↔ N * 2 ^ a % 4294967296 = 0 := by
  have e : (4294967296 : Nat) = 2 ^ (32 - a) * 2 ^ a := by rw [← Nat.pow_add, Nat.sub_add_cancel h]
  rw [e, Nat.mul_mod_mul_right]
  have : 0 < 2 ^ a := Nat.pow_pos (by decide)
  constructor
  · intro h; rw [h]; simp
  · intro h; rcases Nat.mul_eq_zero.1 h with h | h <;> omega
theorem bits_zero (k : ByteArray) (l : Nat) (h : l ≤ 32) : (((bitsTo (numN k) l 32 : Nat) : Int) == 0) = (num k 4 * 2 ^ l % 4294967296 == 0) := by
  rw [Bool.eq_iff_iff, beq_iff_eq, beq_iff_eq, ← numN_eq]
  have h1 := num_split (numN k) l h
  have h2 : bitsTo (numN k) l 32 = numN k % 2 ^ (32 - l) := by simp [bitsTo]
  have e : ((numN k * 2 ^ l : Nat) : Int) = (numN k : Int) * 2 ^ l := by rw [Int.natCast_mul, Int.natCast_pow]; rfl
  rw [h2, ← e]
  generalize numN k * 2 ^ l = X at *
  generalize numN k % 2 ^ (32 - l) = Y at *
  omega
theorem rBits_key (k : ByteArray) (j4 : 4 < k.size) (h : ((k[4]'j4).toNat : Int) ≤ 32) (w : World) :
    Calls Tryz.prog 74 #[.string (k.extract 0 4), .int .i64 ((k[4]'j4).toNat : Int), .int .i64 32] w fun e w' => e = .returned (.int .i64 (bitsTo (numN k) (k[4]'j4).toNat 32)) ∧ w' = w := by
  have hp := rBits (k.extract 0 4) ((k[4]'j4).toNat : Int) w (size_extract (by omega)) (by omega) h
  unfold numN at hp
  rw [num_extract] at hp
  exact hp

set_option maxHeartbeats 400000 in
theorem rIsKey (t : Int) (k : ByteArray) (w : World) (h0 : 0 ≤ t) (h3 : t < 3) :
    Calls Tryz.prog 68 #[.int .i64 t, .string k] w fun e w' => e = .returned (.bool (keyB t k)) ∧ ∃ n, w' = w.drewN n := by
  by_cases hs : (k.size : Int) = kbN t
  rotate_left
  · have hb : ((k.size : Int) != kbN t) = true := by simpa using hs
    rw [keyB_no h0 h3 hs]
    clear hs
    go_enter Tryz.func68, Tryz.ntmps68
    go_wp2_with (go_at_call 99; refine (sizes _ _).mono ?_; rintro e w' ⟨rfl, rfl⟩)
    go_ret
    exact ⟨rfl, 0, rfl⟩
  have hb : ((k.size : Int) != kbN t) = false := by simpa using hs
  rcases cases3 h0 h3 with rfl | rfl | rfl
  · have hs' : k.size = 6 := by simp [kbN] at hs; omega
    have j0 : 0 < k.size := by omega
    rw [keyB_0 hs', ← bt_eq j0]
    clear hs hs'
    go_enter Tryz.func68, Tryz.ntmps68
    go_wp2_with (go_at_call 99; refine (sizes _ _).mono ?_; rintro e w' ⟨rfl, rfl⟩)
    go_ret
    exact ⟨rfl, 0, rfl⟩
  · have hs' : k.size = 5 := by simp [kbN] at hs; omega
    have j4 : 4 < k.size := by omega
    have hj4 : (4 : Int) < (k.size : Int) := by omega
    rw [keyB_1 hs', ← bt_eq j4]
    clear hs hs'
    by_cases hl : ((k[4]'j4).toNat : Int) ≤ 32
    · rw [Int.toNat_natCast, ← bits_zero k _ (by omega)]
      go_enter Tryz.func68, Tryz.ntmps68
      go_wp2_with (go_at_call 99; refine (sizes _ _).mono ?_; rintro e w' ⟨rfl, rfl⟩)
      go_quiet ((go_at_call 74; exact Calls.quiet_of_same (rBits_key k j4 hl _)))
      go_wp2
      go_ret
      exact ⟨by simp [hl], _, rfl⟩
    · have hd : decide (((k[4]'j4).toNat : Int) ≤ 32) = false := by simpa using hl
      rw [hd]
      go_enter Tryz.func68, Tryz.ntmps68
      go_wp2_with (go_at_call 99; refine (sizes _ _).mono ?_; rintro e w' ⟨rfl, rfl⟩)
      go_quiet (fail)
      go_wp2
      go_ret
      exact ⟨by simp, _, rfl⟩
  · have hs' : k.size = 2 := by simp [kbN] at hs; omega
    rw [keyB_2 hs']
    clear hs hs'
    go_enter Tryz.func68, Tryz.ntmps68
    go_wp2_with (go_at_call 99; refine (sizes _ _).mono ?_; rintro e w' ⟨rfl, rfl⟩)
    go_ret
    exact ⟨rfl, 0, rfl⟩
end Go.Proofs.YtindifjhocgkbaaGreatDoor
