import Derived.Test.YtindifjhocgkbaaGreatDoorErrC
import Derived.Laws.IdiomStrings
namespace Go.Proofs.YtindifjhocgkbaaGreatDoor
open Go.RowKit

/-- The bytes of a string lie at a block's begin. -/
def BytesAt (w : World) (B : Nat) (s : ByteArray) : Prop := ∀ i, i < s.size → w.cell? ⟨B, i, none⟩ = some (.int .u8 (bt s i))
/-- A reader over them. -/
structure RdAt (w : World) (R B n cap b e : Nat) : Prop where
  c0 : w.cell? ⟨R, 0, none⟩ = some (.slice (some ⟨B, 0, none⟩) n cap)
  c1 : w.cell? ⟨R, 1, none⟩ = some (.int .i64 (b : Int))
  c2 : w.cell? ⟨R, 2, none⟩ = some (.int .i64 (e : Int))
  f1 : w.frozen? ⟨R, 1, none⟩ = false
  f2 : w.frozen? ⟨R, 2, none⟩ = false
theorem RdAt.keep {w w' : World} {R B n cap b e : Nat} (h : RdAt w R B n cap b e) (q : Below w.heap.size w w') : RdAt w' R B n cap b e :=
  ⟨(q.cell (cell_lt h.c0)).trans h.c0, (q.cell (cell_lt h.c1)).trans h.c1, (q.cell (cell_lt h.c2)).trans h.c2, (q.frozen (p := ⟨R, 1, none⟩) (cell_lt h.c1)).trans h.f1, (q.frozen (p := ⟨R, 2, none⟩) (cell_lt h.c2)).trans h.f2⟩
theorem BytesAt.keep {w w' : World} {B : Nat} {s : ByteArray} (h : BytesAt w B s) (q : Below w.heap.size w w') : BytesAt w' B s :=
  fun i hi => (q.cell (cell_lt (h i hi))).trans (h i hi)
theorem grown_trans {a b c : World} {r : Option Nat} (h : a.grownBy b r) (k : b.grownBy c r) : a.grownBy c r :=
  ⟨k.os.trans h.os, k.tape.trans h.tape, k.output.trans h.output, Nat.le_trans h.size k.size, fun i hi hn => (k.block i (Nat.lt_of_lt_of_le hi h.size) hn).trans (h.block i hi hn)⟩
theorem grown_of_below {a b : World} {r : Option Nat} (h : Below a.heap.size a b) : a.grownBy b r := ⟨h.os, h.tape, h.output, h.size, fun i hi _ => h.block i hi⟩
theorem grown_refl (a : World) (r : Option Nat) : a.grownBy a r := ⟨rfl, rfl, rfl, Nat.le_refl _, fun _ _ _ => rfl⟩
theorem BytesAt.grown {w w' : World} {B R : Nat} {s : ByteArray} (h : BytesAt w B s) (hne : B ≠ R) (g : w.grownBy w' (some R)) : BytesAt w' B s :=
  fun i hi => g.cell (h i hi) (by simpa using hne)
theorem Glob.grown {w w' : World} {R : Nat} (h : Glob w) (hR : 2 < R) (g : w.grownBy w' (some R)) : Glob w' :=
  ⟨g.cell h.k0 (by simp; omega), g.cell h.k1 (by simp; omega), g.cell h.k2 (by simp; omega), g.cell h.v0 (by simp; omega), g.cell h.v1 (by simp; omega), g.cell h.v2 (by simp; omega)⟩
theorem OpsIn.grown {w w' : World} {ao : Option Addr} {l : List OpD} {R : Nat} (h : OpsIn w ao l) (hR : ∀ a, ao = some a → a.block ≠ R) (g : w.grownBy w' (some R)) : OpsIn w' ao l := by
  intro hn
  obtain ⟨b, off, e, hb, ho⟩ := h hn
  have hne : some b ≠ some R := by have := hR _ e; simpa using this
  exact ⟨b, off, e, Nat.lt_of_lt_of_le hb g.size, fun i hi => g.cell (ho.c0 i hi) hne, fun i hi => g.cell (ho.c1 i hi) hne, fun i hi => g.cell (ho.c2 i hi) hne, fun i hi => g.cell (ho.c3 i hi) hne⟩
theorem grown_set' {W w : World} {a : Addr} {v : Value} {R : Nat} (h : W.grownBy w (some R)) (ha : a.block = R) : W.grownBy (w.setCell a v) (some R) :=
  ⟨h.os, h.tape, h.output, by simpa [World.setCell] using h.size, fun k hk hne => by rw [Below.heap_setCell _ _ _ _ (fun e => hne (by simp [e, ha]))]; exact h.block k hk hne⟩
theorem grown_drawn' {W w : World} {row : Option Nat} (h : W.grownBy w row) (n : Nat) : W.grownBy (w.drewN n) row := ⟨h.os, h.tape, h.output, h.size, h.block⟩
theorem grown_alloc {W w : World} {row : Option Nat} (h : W.grownBy w row) (o : Obj) : W.grownBy (w.alloc o) row :=
  grown_trans h (World.grownBy_alloc w o row)

/-- A fault's cells, behind a store elsewhere. -/
theorem ErrIs.set {w : World} {fb : Nat} {k a : Int} {p : Addr} {v : Value} (h : ErrIs w (.iface 133 (.pointer (some ⟨fb, 0, none⟩))) k a) (hp : p.block ≠ fb) : ErrIs (w.setCell p v) (.iface 133 (.pointer (some ⟨fb, 0, none⟩))) k a := by
  rcases h with ⟨_, _, e⟩ | ⟨h1, h2, b, e, c0, c1, c2⟩
  · cases e
  · have hb : b = fb := by simpa using e.symm
    subst hb
    exact .inr ⟨h1, h2, b, rfl, by rw [World.cell?_setCell_other _ _ _ _ (fun h => hp (by rw [h]))]; exact c0, by rw [World.cell?_setCell_other _ _ _ _ (fun h => hp (by rw [h]))]; exact c1, by rw [World.cell?_setCell_other _ _ _ _ (fun h => hp (by rw [h]))]; exact c2⟩
theorem ErrIs.grown {w w' : World} {fb R : Nat} {k a : Int} (h : ErrIs w (.iface 133 (.pointer (some ⟨fb, 0, none⟩))) k a) (hp : fb ≠ R) (g : w.grownBy w' (some R)) : ErrIs w' (.iface 133 (.pointer (some ⟨fb, 0, none⟩))) k a := by
  rcases h with ⟨_, _, e⟩ | ⟨h1, h2, b, e, c0, c1, c2⟩
  · cases e
  · have hb : b = fb := by simpa using e.symm
    subst hb
    exact .inr ⟨h1, h2, b, rfl, g.cell c0 (by simpa using hp), g.cell c1 (by simpa using hp), g.cell c2 (by simpa using hp)⟩
theorem ErrIs.lt {w : World} {fb : Nat} {k a : Int} (h : ErrIs w (.iface 133 (.pointer (some ⟨fb, 0, none⟩))) k a) : fb < w.heap.size := by
  rcases h with ⟨_, _, e⟩ | ⟨h1, h2, b, e, c0, c1, c2⟩
  · cases e
  · have hb : b = fb := by simpa using e.symm
    subst hb
    exact cell_lt c0

set_option maxHeartbeats 1000000 in
theorem rdFault (k : Int) (R B n cap b e : Nat) (w : World) (h : RdAt w R B n cap b e) (h1 : 1 ≤ k) (h2 : k ≤ 14) :
    Calls Tryz.prog 142 #[.pointer (some ⟨R, 0, none⟩), .int .i64 k] w fun ev w' => ∃ fb, w.heap.size ≤ fb ∧ ev = .returned (.iface 133 (.pointer (some ⟨fb, 0, none⟩))) ∧ ErrIs w' (.iface 133 (.pointer (some ⟨fb, 0, none⟩))) k (b : Int) ∧ Below w.heap.size w w' := by
  have c1 := h.c1
  go_enter Tryz.func142, Tryz.ntmps142
  go_wp2_with fail
  refine (fault _ _ _).mono ?_
  rintro ev w1 ⟨rfl, rfl⟩
  go_wp2
  go_ret
  exact ⟨_, Nat.le_refl _, rfl, errIs_new _ _ _ h1 h2, below_alloc _ _⟩

theorem RdAt.begins {w : World} {R B n cap b e : Nat} (h : RdAt w R B n cap b e) (b' : Nat) : RdAt (w.setCell ⟨R, 1, none⟩ (.int .i64 (b' : Int))) R B n cap b' e :=
  ⟨(World.cell?_setCell_other _ _ _ _ (by simp)).trans h.c0, World.cell?_setCell_same _ _ _ h.c1, (World.cell?_setCell_other _ _ _ _ (by simp)).trans h.c2, by simpa using h.f1, by simpa using h.f2⟩
theorem RdAt.ends {w : World} {R B n cap b e : Nat} (h : RdAt w R B n cap b e) (e' : Nat) : RdAt (w.setCell ⟨R, 2, none⟩ (.int .i64 (e' : Int))) R B n cap b e' :=
  ⟨(World.cell?_setCell_other _ _ _ _ (by simp)).trans h.c0, (World.cell?_setCell_other _ _ _ _ (by simp)).trans h.c1, World.cell?_setCell_same _ _ _ h.c2, by simpa using h.f1, by simpa using h.f2⟩
theorem RdAt.drawn {w : World} {R B n cap b e : Nat} (h : RdAt w R B n cap b e) (k : Nat) : RdAt (w.drewN k) R B n cap b e := h.keep (below_drawn _ _)

set_option maxHeartbeats 1000000 in
theorem piece_no (size R B n cap b e : Nat) (w : World) (h : RdAt w R B n cap b e) (he : e ≤ n) (_hn : n ≤ 9223372036854775807) (hs : size ≤ 8) (hlt : n < e + size) :
    Calls Tryz.prog 125 #[.pointer (some ⟨R, 0, none⟩), .int .i64 (size : Int)] w fun ev w' => ∃ fb, w.heap.size ≤ fb ∧ ev = .returned (.tuple #[.slice none 0 0, .iface 133 (.pointer (some ⟨fb, 0, none⟩))]) ∧ ErrIs w' (.iface 133 (.pointer (some ⟨fb, 0, none⟩))) 1 (e : Int) ∧ RdAt w' R B n cap e e ∧ w.grownBy w' (some R) := by
  have hr := h
  obtain ⟨c0, c1, c2, f1, f2⟩ := h
  go_enter Tryz.func125, Tryz.ntmps125
  go_wp2_with fail
  go_quiet (fail)
  go_wp2_with fail
  have hr1 := (hr.begins e).drawn nq
  refine (rdFault 1 R B n cap e e _ hr1 (by decide) (by decide)).mono ?_
  rintro ev w1 ⟨fb, hfb, rfl, hx, q1⟩
  go_wp2
  go_ret2
  exact ⟨fb, by simpa [World.setCell] using hfb, rfl, hx, hr1.keep q1, grown_trans (grown_drawn' (grown_set' (grown_refl _ _) rfl) _) (grown_of_below q1)⟩

theorem ret_piece (B e cap : Nat) {a b : Nat} (h : a = b) : Ending.returned (.tuple #[.slice (some ⟨B, e, none⟩) a (cap - e), .nilIface]) = .returned (.tuple #[.slice (some ⟨B, e, none⟩) b (cap - e), .nilIface]) := by rw [h]
set_option maxHeartbeats 1000000 in
theorem piece_ok (size R B n cap b e : Nat) (w : World) (h : RdAt w R B n cap b e) (hc : n ≤ cap) (hn : cap ≤ maxLen) (hs : 1 ≤ size) (hlt : e + size ≤ n) :
    Calls Tryz.prog 125 #[.pointer (some ⟨R, 0, none⟩), .int .i64 (size : Int)] w fun ev w' => ev = .returned (.tuple #[.slice (some ⟨B, e, none⟩) size (cap - e), .nilIface]) ∧ RdAt w' R B n cap e (e + size) ∧ w.grownBy w' (some R) := by
  have hr := h
  obtain ⟨c0, c1, c2, f1, f2⟩ := h
  unfold maxLen at hn
  have hx1 : ((e : Nat) : Int) + (size : Int) ≤ (cap : Int) := by omega
  have hx2 : ¬ cap = e := by omega
  go_enter Tryz.func125, Tryz.ntmps125
  go_wp2_with fail
  go_quiet (fail)
  go_wp2_with fail
  go_quiet (fail)
  go_wp2
  go_ret2
  refine ⟨ret_piece B e cap (by omega), ?_, ?_⟩
  · have hz : ((e : Int) + (size : Int)) = ((e + size : Nat) : Int) := by omega
    rw [hz]
    exact RdAt.drawn (RdAt.ends (RdAt.drawn (RdAt.begins hr e) _) (e + size)) _
  · exact grown_drawn' (grown_set' (a := ⟨R, 2, none⟩) (grown_drawn' (grown_set' (a := ⟨R, 1, none⟩) (grown_refl _ _) rfl) _) rfl) _

/-! ### Numbers -/
def numAt (s : ByteArray) (off : Nat) : Nat → Int
  | 0 => 0
  | k + 1 => numAt s off k * 256 + bt s (off + k)
theorem numAt_bd (s : ByteArray) (off k : Nat) : 0 ≤ numAt s off k ∧ numAt s off k < 256 ^ k := by
  induction k with
  | zero => simp [numAt]
  | succ k ih => have := bt_lo s (off + k); simp only [numAt, Int.pow_succ]; omega
theorem numAt_bd7 (s : ByteArray) (off k : Nat) (h : k < 8) : 0 ≤ numAt s off k ∧ numAt s off k < 72057594037927936 := by
  have h1 := numAt_bd s off k
  rcases (show k = 0 ∨ k = 1 ∨ k = 2 ∨ k = 3 ∨ k = 4 ∨ k = 5 ∨ k = 6 ∨ k = 7 by omega) with rfl | rfl | rfl | rfl | rfl | rfl | rfl | rfl <;> simp at h1 ⊢ <;> omega
theorem numAt_bd8 (s : ByteArray) (off : Nat) : 0 ≤ numAt s off 8 ∧ numAt s off 8 ≤ 18446744073709551615 := by
  have h1 := numAt_bd7 s off 7 (by omega)
  have h2 := bt_lo s (off + 7)
  simp only [numAt] at h1 ⊢
  omega
theorem or_step64 (x y : Int) (h0 : 0 ≤ x) (h1 : x < 72057594037927936) (h2 : 0 ≤ y) (h3 : y ≤ 255) :
    bits BinOp.or IntKind.u64 (IntKind.u64.wrap (x * 256)) y = x * 256 + y := by
  rw [show IntKind.u64.wrap (x * 256) = x * 256 by simp [IntKind.wrap, IntKind.bits, IntKind.signed]; omega]
  exact bits_join .u64 64 (by decide) (fun n a b => by simp [IntKind.wrap, IntKind.bits, IntKind.signed]; omega) 8 _ _ (by omega) (by omega) (by omega) (by omega) (by omega) (by omega)

set_option maxRecDepth 10000 in
set_option maxHeartbeats 400000 in
theorem wNumber (s : ByteArray) (B off k c : Nat) (w : World) (hb : BytesAt w B s) (hk : k ≤ 8) (hs : off + k ≤ s.size) :
    Calls Tryz.prog 126 #[.slice (some ⟨B, off, none⟩) k c] w fun e w' => e = .returned (.int .u64 (numAt s off k)) ∧ w' = w := by
  go_enter Tryz.func126, Tryz.ntmps126
  go_wp2
  go_loop [3, 5, 8] (fun n _ i => ∃ j : Nat, j ≤ k ∧ i = .int .i64 j ∧ n = .int .u64 (numAt s off j)) (fun _ _ i => k - (intOf i).toNat)
  case atStart => exact ⟨0, Nat.zero_le _, rfl, rfl⟩
  case round =>
    obtain ⟨j, hj, rfl, rfl⟩ := hrel
    by_cases hlt : j < k
    · have hc := hb (off + j) (by omega)
      have hbt := bt_lo s (off + j)
      have hnb := numAt_bd7 s off j (by omega)
      have HN : Hid (0 ≤ numAt s off j ∧ numAt s off j < 72057594037927936) := hnb
      clear hnb
      go_wp2
      go_round
      case rel => exact ⟨j + 1, by omega, by go_num, by first | rfl | (rw [or_step64 _ _ HN.out.1 HN.out.2 hbt.1 hbt.2]; rfl)⟩
      case measure => simp [intOf]; omega
    · obtain rfl : j = k := by omega
      go_wp2
      go_ret
      exact ⟨rfl, rfl⟩
end Go.Proofs.YtindifjhocgkbaaGreatDoor
