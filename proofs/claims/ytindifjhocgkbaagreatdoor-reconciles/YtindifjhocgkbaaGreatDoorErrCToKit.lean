import Derived.Test.YtindifjhocgkbaaGreatDoorEncToEnt
import Derived.Test.YtindifjhocgkbaaGreatDoorWrg
import Derived.Laws.IdiomStrings
namespace Go.Proofs.YtindifjhocgkbaaGreatDoor
open Go.RowKit

theorem ErrIs.cases0 {w : World} {x : Value} {k a : Int} (h : ErrIs w x k a) : (k = 0 ∧ x = .nilIface) ∨ (k ≠ 0 ∧ ∃ b, x = .iface 133 (.pointer (some ⟨b, 0, none⟩))) := by
  rcases h with ⟨rfl, _, rfl⟩ | ⟨h1, h2, b, rfl, _⟩
  · exact .inl ⟨rfl, rfl⟩
  · exact .inr ⟨by omega, b, rfl⟩
end Go.Proofs.YtindifjhocgkbaaGreatDoor
namespace Go.Proofs.YtindifjhocgkbaaGreatDoor
open Go.RowKit

/-- The bytes of a string lie at a block's begin. -/
def BytesAt (w : World) (B : Nat) (s : ByteArray) : Prop := ∀ i, i < s.size → w.cell? ⟨B, i, none⟩ = some (.int .u8 (bt s i))
/-- A reader over them. -/
structure RdAt (w : World) (R B n cap b e : Nat) : Prop where
  c0 : w.cell? ⟨R, 0, none⟩ = some (.slice (some ⟨B, 0, none⟩) n cap)
  c1 : w.cell? ⟨R, 1, none⟩ = some (.int .i64 (b : Int))
  c2 : w.cell? ⟨R, 2, none⟩ = some (.int .i64 (e : Int))
  f1 : w.frozen? ⟨R, 1, none⟩ = false
  f2 : w.frozen? ⟨R, 2, none⟩ = false
theorem RdAt.keep {w w' : World} {R B n cap b e : Nat} (h : RdAt w R B n cap b e) (q : Below w.heap.size w w') : RdAt w' R B n cap b e :=
  ⟨(q.cell (cell_lt h.c0)).trans h.c0, (q.cell (cell_lt h.c1)).trans h.c1, (q.cell (cell_lt h.c2)).trans h.c2, (q.frozen (p := ⟨R, 1, none⟩) (cell_lt h.c1)).trans h.f1, (q.frozen (p := ⟨R, 2, none⟩) (cell_lt h.c2)).trans h.f2⟩
theorem BytesAt.keep {w w' : World} {B : Nat} {s : ByteArray} (h : BytesAt w B s) (q : Below w.heap.size w w') : BytesAt w' B s :=
  fun i hi => (q.cell (cell_lt (h i hi))).trans (h i hi)
theorem grown_trans {a b c : World} {r : Option Nat} (h : a.grownBy b r) (k : b.grownBy c r) : a.grownBy c r :=
  ⟨k.os.trans h.os, k.tape.trans h.tape, k.output.trans h.output, Nat.le_trans h.size k.size, fun i hi hn => (k.block i (Nat.lt_of_lt_of_le hi h.size) hn).trans (h.block i hi hn)⟩
theorem grown_of_below {a b : World} {r : Option Nat} (h : Below a.heap.size a b) : a.grownBy b r := ⟨h.os, h.tape, h.output, h.size, fun i hi _ => h.block i hi⟩
theorem grown_refl (a : World) (r : Option Nat) : a.grownBy a r := ⟨rfl, rfl, rfl, Nat.le_refl _, fun _ _ _ => rfl⟩
theorem BytesAt.grown {w w' : World} {B R : Nat} {s : ByteArray} (h : BytesAt w B s) (hne : B ≠ R) (g : w.grownBy w' (some R)) : BytesAt w' B s :=
  fun i hi => g.cell (h i hi) (by simpa using hne)
theorem Glob.grown {w w' : World} {R : Nat} (h : Glob w) (hR : 2 < R) (g : w.grownBy w' (some R)) : Glob w' :=
  ⟨g.cell h.k0 (by simp; omega), g.cell h.k1 (by simp; omega), g.cell h.k2 (by simp; omega), g.cell h.v0 (by simp; omega), g.cell h.v1 (by simp; omega), g.cell h.v2 (by simp; omega)⟩
theorem OpsIn.grown {w w' : World} {ao : Option Addr} {l : List OpD} {R : Nat} (h : OpsIn w ao l) (hR : ∀ a, ao = some a → a.block ≠ R) (g : w.grownBy w' (some R)) : OpsIn w' ao l := by
  intro hn
  obtain ⟨b, off, e, hb, ho⟩ := h hn
  have hne : some b ≠ some R := by have := hR _ e; simpa using this
  exact ⟨b, off, e, Nat.lt_of_lt_of_le hb g.size, fun i hi => g.cell (ho.c0 i hi) hne, fun i hi => g.cell (ho.c1 i hi) hne, fun i hi => g.cell (ho.c2 i hi) hne, fun i hi => g.cell (ho.c3 i hi) hne⟩
theorem grown_set' {W w : World} {a : Addr} {v : Value} {R : Nat} (h : W.grownBy w (some R)) (ha : a.block = R) : W.grownBy (w.setCell a v) (some R) :=
  ⟨h.os, h.tape, h.output, by simpa [World.setCell] using h.size, fun k hk hne => by rw [Below.heap_setCell _ _ _ _ (fun e => hne (by simp [e, ha]))]; exact h.block k hk hne⟩
theorem grown_drawn' {W w : World} {row : Option Nat} (h : W.grownBy w row) (n : Nat) : W.grownBy (w.drewN n) row := ⟨h.os, h.tape, h.output, h.size, h.block⟩
theorem grown_alloc {W w : World} {row : Option Nat} (h : W.grownBy w row) (o : Obj) : W.grownBy (w.alloc o) row :=
  grown_trans h (World.grownBy_alloc w o row)

/-- A fault's cells, behind a store elsewhere. -/
theorem ErrIs.set {w : World} {fb : Nat} {k a : Int} {p : Addr} {v : Value} (h : ErrIs w (.iface 133 (.pointer (some ⟨fb, 0, none⟩))) k a) (hp : p.block ≠ fb) : ErrIs (w.setCell p v) (.iface 133 (.pointer (some ⟨fb, 0, none⟩))) k a := by
  rcases h with ⟨_, _, e⟩ | ⟨h1, h2, b, e, c0, c1, c2⟩
  · cases e
  · have hb : b = fb := by simpa using e.symm
    subst hb
    exact .inr ⟨h1, h2, b, rfl, by rw [World.cell?_setCell_other _ _ _ _ (fun h => hp (by rw [h]))]; exact c0, by rw [World.cell?_setCell_other _ _ _ _ (fun h => hp (by rw [h]))]; exact c1, by rw [World.cell?_setCell_other _ _ _ _ (fun h => hp (by rw [h]))]; exact c2⟩
theorem ErrIs.grown {w w' : World} {fb R : Nat} {k a : Int} (h : ErrIs w (.iface 133 (.pointer (some ⟨fb, 0, none⟩))) k a) (hp : fb ≠ R) (g : w.grownBy w' (some R)) : ErrIs w' (.iface 133 (.pointer (some ⟨fb, 0, none⟩))) k a := by
  rcases h with ⟨_, _, e⟩ | ⟨h1, h2, b, e, c0, c1, c2⟩
  · cases e
  · have hb : b = fb := by simpa using e.symm
    subst hb
    exact .inr ⟨h1, h2, b, rfl, g.cell c0 (by simpa using hp), g.cell c1 (by simpa using hp), g.cell c2 (by simpa using hp)⟩
theorem ErrIs.lt {w : World} {fb : Nat} {k a : Int} (h : ErrIs w (.iface 133 (.pointer (some ⟨fb, 0, none⟩))) k a) : fb < w.heap.size := by
  rcases h with ⟨_, _, e⟩ | ⟨h1, h2, b, e, c0, c1, c2⟩
  · cases e
  · have hb : b = fb := by simpa using e.symm
    subst hb
    exact cell_lt c0

set_option maxHeartbeats 1000000 in
theorem rdFault (k : Int) (R B n cap b e : Nat) (w : World) (h : RdAt w R B n cap b e) (h1 : 1 ≤ k) (h2 : k ≤ 14) :
    Calls Tryz.prog 142 #[.pointer (some ⟨R, 0, none⟩), .int .i64 k] w fun ev w' => ∃ fb, w.heap.size ≤ fb ∧ ev = .returned (.iface 133 (.pointer (some ⟨fb, 0, none⟩))) ∧ ErrIs w' (.iface 133 (.pointer (some ⟨fb, 0, none⟩))) k (b : Int) ∧ Below w.heap.size w w' := by
  have c1 := h.c1
  go_enter Tryz.func142, Tryz.ntmps142
  go_wp2_with fail
  refine (fault _ _ _).mono ?_
  rintro ev w1 ⟨rfl, rfl⟩
  go_wp2
  go_ret
  exact ⟨_, Nat.le_refl _, rfl, errIs_new _ _ _ h1 h2, below_alloc _ _⟩

theorem RdAt.begins {w : World} {R B n cap b e : Nat} (h : RdAt w R B n cap b e) (b' : Nat) : RdAt (w.setCell ⟨R, 1, none⟩ (.int .i64 (b' : Int))) R B n cap b' e :=
  ⟨(World.cell?_setCell_other _ _ _ _ (by simp)).trans h.c0, World.cell?_setCell_same _ _ _ h.c1, (World.cell?_setCell_other _ _ _ _ (by simp)).trans h.c2, by simpa using h.f1, by simpa using h.f2⟩
theorem RdAt.ends {w : World} {R B n cap b e : Nat} (h : RdAt w R B n cap b e) (e' : Nat) : RdAt (w.setCell ⟨R, 2, none⟩ (.int .i64 (e' : Int))) R B n cap b e' :=
  ⟨(World.cell?_setCell_other _ _ _ _ (by simp)).trans h.c0, (World.cell?_setCell_other _ _ _ _ (by simp)).trans h.c1, World.cell?_setCell_same _ _ _ h.c2, by simpa using h.f1, by simpa using h.f2⟩
theorem RdAt.drawn {w : World} {R B n cap b e : Nat} (h : RdAt w R B n cap b e) (k : Nat) : RdAt (w.drewN k) R B n cap b e := h.keep (below_drawn _ _)

set_option maxHeartbeats 1000000 in
theorem piece_no (size R B n cap b e : Nat) (w : World) (h : RdAt w R B n cap b e) (he : e ≤ n) (_hn : n ≤ 9223372036854775807) (hs : size ≤ 8) (hlt : n < e + size) :
    Calls Tryz.prog 125 #[.pointer (some ⟨R, 0, none⟩), .int .i64 (size : Int)] w fun ev w' => ∃ fb, w.heap.size ≤ fb ∧ ev = .returned (.tuple #[.slice none 0 0, .iface 133 (.pointer (some ⟨fb, 0, none⟩))]) ∧ ErrIs w' (.iface 133 (.pointer (some ⟨fb, 0, none⟩))) 1 (e : Int) ∧ RdAt w' R B n cap e e ∧ w.grownBy w' (some R) := by
  have hr := h
  obtain ⟨c0, c1, c2, f1, f2⟩ := h
  go_enter Tryz.func125, Tryz.ntmps125
  go_wp2_with fail
  go_quiet (fail)
  go_wp2_with fail
  have hr1 := (hr.begins e).drawn nq
  refine (rdFault 1 R B n cap e e _ hr1 (by decide) (by decide)).mono ?_
  rintro ev w1 ⟨fb, hfb, rfl, hx, q1⟩
  go_wp2
  go_ret2
  exact ⟨fb, by simpa [World.setCell] using hfb, rfl, hx, hr1.keep q1, grown_trans (grown_drawn' (grown_set' (grown_refl _ _) rfl) _) (grown_of_below q1)⟩

theorem ret_piece (B e cap : Nat) {a b : Nat} (h : a = b) : Ending.returned (.tuple #[.slice (some ⟨B, e, none⟩) a (cap - e), .nilIface]) = .returned (.tuple #[.slice (some ⟨B, e, none⟩) b (cap - e), .nilIface]) := by rw [h]
set_option maxHeartbeats 1000000 in
theorem piece_ok (size R B n cap b e : Nat) (w : World) (h : RdAt w R B n cap b e) (hc : n ≤ cap) (hn : cap ≤ maxLen) (hs : 1 ≤ size) (hlt : e + size ≤ n) :
    Calls Tryz.prog 125 #[.pointer (some ⟨R, 0, none⟩), .int .i64 (size : Int)] w fun ev w' => ev = .returned (.tuple #[.slice (some ⟨B, e, none⟩) size (cap - e), .nilIface]) ∧ RdAt w' R B n cap e (e + size) ∧ w.grownBy w' (some R) := by
  have hr := h
  obtain ⟨c0, c1, c2, f1, f2⟩ := h
  unfold maxLen at hn
  have hx1 : ((e : Nat) : Int) + (size : Int) ≤ (cap : Int) := by omega
  have hx2 : ¬ cap = e := by omega
  go_enter Tryz.func125, Tryz.ntmps125
  go_wp2_with fail
  go_quiet (fail)
  go_wp2_with fail
  go_quiet (fail)
  go_wp2
  go_ret2
  refine ⟨ret_piece B e cap (by omega), ?_, ?_⟩
  · have hz : ((e : Int) + (size : Int)) = ((e + size : Nat) : Int) := by omega
    rw [hz]
    exact RdAt.drawn (RdAt.ends (RdAt.drawn (RdAt.begins hr e) _) (e + size)) _
  · exact grown_drawn' (grown_set' (a := ⟨R, 2, none⟩) (grown_drawn' (grown_set' (a := ⟨R, 1, none⟩) (grown_refl _ _) rfl) _) rfl) _

/-! ### Numbers -/
def numAt (s : ByteArray) (off : Nat) : Nat → Int
  | 0 => 0
  | k + 1 => numAt s off k * 256 + bt s (off + k)
theorem numAt_bd (s : ByteArray) (off k : Nat) : 0 ≤ numAt s off k ∧ numAt s off k < 256 ^ k := by
  induction k with
  | zero => simp [numAt]
  | succ k ih => have := bt_lo s (off + k); simp only [numAt, Int.pow_succ]; omega
theorem numAt_bd7 (s : ByteArray) (off k : Nat) (h : k < 8) : 0 ≤ numAt s off k ∧ numAt s off k < 72057594037927936 := by
  have h1 := numAt_bd s off k
  rcases (show k = 0 ∨ k = 1 ∨ k = 2 ∨ k = 3 ∨ k = 4 ∨ k = 5 ∨ k = 6 ∨ k = 7 by omega) with rfl | rfl | rfl | rfl | rfl | rfl | rfl | rfl <;> simp at h1 ⊢ <;> omega
theorem numAt_bd8 (s : ByteArray) (off : Nat) : 0 ≤ numAt s off 8 ∧ numAt s off 8 ≤ 18446744073709551615 := by
  have h1 := numAt_bd7 s off 7 (by omega)
  have h2 := bt_lo s (off + 7)
  simp only [numAt] at h1 ⊢
  omega
theorem or_step64 (x y : Int) (h0 : 0 ≤ x) (h1 : x < 72057594037927936) (h2 : 0 ≤ y) (h3 : y ≤ 255) :
    bits BinOp.or IntKind.u64 (IntKind.u64.wrap (x * 256)) y = x * 256 + y := by
  rw [show IntKind.u64.wrap (x * 256) = x * 256 by simp [IntKind.wrap, IntKind.bits, IntKind.signed]; omega]
  exact bits_join .u64 64 (by decide) (fun n a b => by simp [IntKind.wrap, IntKind.bits, IntKind.signed]; omega) 8 _ _ (by omega) (by omega) (by omega) (by omega) (by omega) (by omega)

set_option maxRecDepth 10000 in
set_option maxHeartbeats 400000 in
theorem wNumber (s : ByteArray) (B off k c : Nat) (w : World) (hb : BytesAt w B s) (hk : k ≤ 8) (hs : off + k ≤ s.size) :
    Calls Tryz.prog 126 #[.slice (some ⟨B, off, none⟩) k c] w fun e w' => e = .returned (.int .u64 (numAt s off k)) ∧ w' = w := by
  go_enter Tryz.func126, Tryz.ntmps126
  go_wp2
  go_loop [3, 5, 8] (fun n _ i => ∃ j : Nat, j ≤ k ∧ i = .int .i64 j ∧ n = .int .u64 (numAt s off j)) (fun _ _ i => k - (intOf i).toNat)
  case atStart => exact ⟨0, Nat.zero_le _, rfl, rfl⟩
  case round =>
    obtain ⟨j, hj, rfl, rfl⟩ := hrel
    by_cases hlt : j < k
    · have hc := hb (off + j) (by omega)
      have hbt := bt_lo s (off + j)
      have hnb := numAt_bd7 s off j (by omega)
      have HN : Hid (0 ≤ numAt s off j ∧ numAt s off j < 72057594037927936) := hnb
      clear hnb
      go_wp2
      go_round
      case rel => exact ⟨j + 1, by omega, by go_num, by first | rfl | (rw [or_step64 _ _ HN.out.1 HN.out.2 hbt.1 hbt.2]; rfl)⟩
      case measure => simp [intOf]; omega
    · obtain rfl : j = k := by omega
      go_wp2
      go_ret
      exact ⟨rfl, rfl⟩
end Go.Proofs.YtindifjhocgkbaaGreatDoor
namespace Go.Proofs.YtindifjhocgkbaaGreatDoor
open Go.RowKit

theorem piece_length (s : ByteArray) (e k : Nat) (hs : e + k ≤ s.size) : (s.extract e (e + k)).data.toList.length = k := by
  simp only [ByteArray.data_extract, Array.toList_extract]; simp; have : s.data.size = s.size := rfl; omega
theorem bt_piece (s : ByteArray) (e k j : Nat) (hj : j < k) (hs : e + k ≤ s.size) : ∃ h : j < (s.extract e (e + k)).data.toList.length, (((s.extract e (e + k)).data.toList[j]).toNat : Int) = bt s (e + j) := by
  have hl := piece_length s e k hs
  refine ⟨by omega, ?_⟩
  have hz : s.data.size = s.size := rfl
  unfold bt
  simp only [ByteArray.data_extract, Array.toList_extract]
  simp [List.getD_eq_getElem?_getD]
  rw [Array.getElem?_eq_getElem (by omega)]
  simp
/-- 'string(p)' of a piece. -/
theorem str_piece (s : ByteArray) (B e k c : Nat) (W : World) (hb : BytesAt W B s) (hs : e + k ≤ s.size) : (convert 53 9 (.slice (some ⟨B, e, none⟩) k c)).run Tryz.prog W = .ok (.string (s.extract e (e + k))) W := by
  have hl := piece_length s e k hs
  have h := run_convert_bytes_back W 53 9 5 ⟨B, e, none⟩ c (s.extract e (e + k)).data.toList Tryz.underlying53 Tryz.underlying5 Tryz.underlying9 (fun j hj => by
    obtain ⟨h', e'⟩ := bt_piece s e k j (by omega) hs
    rw [e', ← hb (e + j) (by omega)]
    congr 1
    simp [Addr.add])
  rw [hl] at h
  exact h

/-- A reader over a string's bytes. -/
structure Rdr (w : World) (s : ByteArray) (R B cap b e : Nat) : Prop where
  rd : RdAt w R B s.size cap b e
  bs : BytesAt w B s
  ne : B ≠ R
  le : e ≤ s.size
  cp : s.size ≤ cap
  mx : cap ≤ 9223372036854775807
theorem Rdr.keep {w w' : World} {s : ByteArray} {R B cap b e : Nat} (h : Rdr w s R B cap b e) (q : Below w.heap.size w w') : Rdr w' s R B cap b e :=
  ⟨h.rd.keep q, h.bs.keep q, h.ne, h.le, h.cp, h.mx⟩
theorem Rdr.set {w : World} {s : ByteArray} {R B cap b e : Nat} {p : Addr} {v : Value} (h : Rdr w s R B cap b e) (h1 : p.block ≠ R) (h2 : p.block ≠ B) : Rdr (w.setCell p v) s R B cap b e :=
  have hR : ∀ o, (w.setCell p v).cell? ⟨R, o, none⟩ = w.cell? ⟨R, o, none⟩ := fun o => World.cell?_setCell_other _ _ _ _ (fun h => h1 (by rw [h]))
  ⟨⟨(hR _).trans h.rd.c0, (hR _).trans h.rd.c1, (hR _).trans h.rd.c2, by simpa using h.rd.f1, by simpa using h.rd.f2⟩, fun i hi => (World.cell?_setCell_other _ _ _ _ (fun h => h2 (by rw [h]))).trans (h.bs i hi), h.ne, h.le, h.cp, h.mx⟩
theorem pc_no {w : World} {s : ByteArray} {R B cap b e : Nat} (size : Nat) (h : Rdr w s R B cap b e) (hs : size ≤ 8) (hlt : s.size < e + size) :
    Calls Tryz.prog 125 #[.pointer (some ⟨R, 0, none⟩), .int .i64 (size : Int)] w fun ev w' => ∃ fb, w.heap.size ≤ fb ∧ ev = .returned (.tuple #[.slice none 0 0, .iface 133 (.pointer (some ⟨fb, 0, none⟩))]) ∧ ErrIs w' (.iface 133 (.pointer (some ⟨fb, 0, none⟩))) 1 (e : Int) ∧ w.grownBy w' (some R) := by
  have hcp := h.cp
  have hmx := h.mx
  refine (piece_no size R B s.size cap b e w h.rd h.le (by omega) hs hlt).mono ?_
  rintro ev w1 ⟨fb, hfb, rfl, hx, r1, g1⟩
  exact ⟨fb, hfb, rfl, hx, g1⟩
theorem pc_ok {w : World} {s : ByteArray} {R B cap b e : Nat} (size : Nat) (h : Rdr w s R B cap b e) (hs : 1 ≤ size) (hlt : e + size ≤ s.size) :
    Calls Tryz.prog 125 #[.pointer (some ⟨R, 0, none⟩), .int .i64 (size : Int)] w fun ev w' => ev = .returned (.tuple #[.slice (some ⟨B, e, none⟩) size (cap - e), .nilIface]) ∧ Rdr w' s R B cap e (e + size) ∧ w.grownBy w' (some R) := by
  have hcp := h.cp
  have hmx := h.mx
  refine (piece_ok size R B s.size cap b e w h.rd h.cp (by unfold maxLen; omega) hs hlt).mono ?_
  rintro ev w1 ⟨rfl, r1, g1⟩
  exact ⟨rfl, ⟨r1, h.bs.grown h.ne g1, h.ne, hlt, h.cp, h.mx⟩, g1⟩
theorem rdFault' {w : World} {s : ByteArray} {R B cap b e : Nat} (k : Int) (h : Rdr w s R B cap b e) (h1 : 1 ≤ k) (h2 : k ≤ 14) :
    Calls Tryz.prog 142 #[.pointer (some ⟨R, 0, none⟩), .int .i64 k] w fun ev w' => ∃ fb, w.heap.size ≤ fb ∧ ev = .returned (.iface 133 (.pointer (some ⟨fb, 0, none⟩))) ∧ ErrIs w' (.iface 133 (.pointer (some ⟨fb, 0, none⟩))) k (b : Int) ∧ Below w.heap.size w w' :=
  rdFault k R B s.size cap b e w h.rd h1 h2

set_option maxHeartbeats 1000000 in
theorem ver_short {w : World} {s : ByteArray} {R B cap b e : Nat} (h : Rdr w s R B cap b e) (hs : s.size < e + 8) :
    Calls Tryz.prog 124 #[.pointer (some ⟨R, 0, none⟩)] w fun ev w' => ∃ fb, w.heap.size ≤ fb ∧ ev = .returned (.tuple #[.int .u64 0, .iface 133 (.pointer (some ⟨fb, 0, none⟩))]) ∧ ErrIs w' (.iface 133 (.pointer (some ⟨fb, 0, none⟩))) 1 (e : Int) ∧ w.grownBy w' (some R) := by
  go_enter Tryz.func124, Tryz.ntmps124
  go_wp2_with fail
  refine (pc_no 8 h (by omega) (by omega)).mono ?_
  rintro ev w1 ⟨fb, hfb, rfl, hx, g1⟩
  go_wp2
  go_ret2
  exact ⟨fb, hfb, rfl, hx, g1⟩
set_option maxHeartbeats 1000000 in
theorem ver_bad {w : World} {s : ByteArray} {R B cap b e : Nat} (h : Rdr w s R B cap b e) (hs : e + 8 ≤ s.size) (hv : verB (numAt s e 8) = false) :
    Calls Tryz.prog 124 #[.pointer (some ⟨R, 0, none⟩)] w fun ev w' => ∃ fb, w.heap.size ≤ fb ∧ ev = .returned (.tuple #[.int .u64 0, .iface 133 (.pointer (some ⟨fb, 0, none⟩))]) ∧ ErrIs w' (.iface 133 (.pointer (some ⟨fb, 0, none⟩))) 4 (e : Int) ∧ w.grownBy w' (some R) := by
  go_enter Tryz.func124, Tryz.ntmps124
  go_wp2_with fail
  refine (pc_ok 8 h (by omega) (by omega)).mono ?_
  rintro ev w1 ⟨rfl, r1, g1⟩
  go_wp2_with fail
  refine (wNumber s B e 8 _ _ r1.bs (by omega) (by omega)).mono ?_
  rintro ev w2 ⟨rfl, rfl⟩
  go_wp2_with fail
  refine (wIsVersion _ _ (numAt_bd8 s e).1).mono ?_
  rintro ev w2 ⟨rfl, rfl⟩
  go_wp2_with fail
  refine (rdFault' 4 r1 (by decide) (by decide)).mono ?_
  rintro ev w2 ⟨fb, hfb, rfl, hx, q2⟩
  go_wp2
  go_ret2
  exact ⟨fb, Nat.le_trans g1.size hfb, rfl, hx, grown_trans g1 (grown_of_below q2)⟩
set_option maxHeartbeats 1000000 in
theorem ver_ok {w : World} {s : ByteArray} {R B cap b e : Nat} (h : Rdr w s R B cap b e) (hs : e + 8 ≤ s.size) (hv : verB (numAt s e 8) = true) :
    Calls Tryz.prog 124 #[.pointer (some ⟨R, 0, none⟩)] w fun ev w' => ev = .returned (.tuple #[.int .u64 (numAt s e 8), .nilIface]) ∧ Rdr w' s R B cap e (e + 8) ∧ w.grownBy w' (some R) := by
  go_enter Tryz.func124, Tryz.ntmps124
  go_wp2_with fail
  refine (pc_ok 8 h (by omega) (by omega)).mono ?_
  rintro ev w1 ⟨rfl, r1, g1⟩
  go_wp2_with fail
  refine (wNumber s B e 8 _ _ r1.bs (by omega) (by omega)).mono ?_
  rintro ev w2 ⟨rfl, rfl⟩
  go_wp2_with fail
  refine (wIsVersion _ _ (numAt_bd8 s e).1).mono ?_
  rintro ev w2 ⟨rfl, rfl⟩
  go_wp2
  go_ret2
  exact ⟨rfl, r1, g1⟩
theorem vbN_bd (t : Int) : 2 ≤ vbN t ∧ vbN t ≤ 4 := by unfold vbN; split <;> (try split) <;> omega
theorem kbN_bd (t : Int) : 2 ≤ kbN t ∧ kbN t ≤ 6 := by unfold kbN; split <;> (try split) <;> omega
set_option maxHeartbeats 1000000 in
theorem val_short {w : World} {s : ByteArray} {R B cap b e : Nat} {t : Int} (h : Rdr w s R B cap b e) (g : Glob w) (_hR : 2 < R) (h0 : 0 ≤ t) (h3 : t < 3) (hs : s.size < e + (vbN t).toNat) :
    Calls Tryz.prog 146 #[.pointer (some ⟨R, 0, none⟩), .int .i64 t] w fun ev w' => ∃ fb, w.heap.size ≤ fb ∧ ev = .returned (.tuple #[.string ⟨#[]⟩, .iface 133 (.pointer (some ⟨fb, 0, none⟩))]) ∧ ErrIs w' (.iface 133 (.pointer (some ⟨fb, 0, none⟩))) 1 (e : Int) ∧ w.grownBy w' (some R) := by
  have hvb := vbN_bd t
  obtain ⟨k, hk⟩ : ∃ k : Nat, vbN t = (k : Int) := ⟨(vbN t).toNat, by omega⟩
  have HK : Hid (vbN t = (k : Int)) := hk
  have hk2 : 2 ≤ k ∧ k ≤ 4 := by omega
  have hs' : s.size < e + k := by omega
  clear hs hk
  go_enter Tryz.func146, Tryz.ntmps146
  go_wp2_with fail
  refine (valueBytes _ _ h0 h3 g).mono ?_
  rintro ev w0 ⟨rfl, rfl⟩
  rw [HK.out]
  go_wp2_with fail
  refine (pc_no k h (by omega) (by omega)).mono ?_
  rintro ev w1 ⟨fb, hfb, rfl, hx, g1⟩
  go_wp2
  go_ret2
  exact ⟨fb, hfb, rfl, hx, g1⟩
set_option maxHeartbeats 1000000 in
theorem val_bad {w : World} {s : ByteArray} {R B cap b e : Nat} {t : Int} (h : Rdr w s R B cap b e) (g : Glob w) (_hR : 2 < R) (h0 : 0 ≤ t) (h3 : t < 3) (hs : e + (vbN t).toNat ≤ s.size) (hv : valB t (s.extract e (e + (vbN t).toNat)) = false) :
    Calls Tryz.prog 146 #[.pointer (some ⟨R, 0, none⟩), .int .i64 t] w fun ev w' => ∃ fb, w.heap.size ≤ fb ∧ ev = .returned (.tuple #[.string ⟨#[]⟩, .iface 133 (.pointer (some ⟨fb, 0, none⟩))]) ∧ ErrIs w' (.iface 133 (.pointer (some ⟨fb, 0, none⟩))) 9 (e : Int) ∧ w.grownBy w' (some R) := by
  have hvb := vbN_bd t
  obtain ⟨k, hk⟩ : ∃ k : Nat, vbN t = (k : Int) := ⟨(vbN t).toNat, by omega⟩
  have HK : Hid (vbN t = (k : Int)) := hk
  have hk2 : 2 ≤ k ∧ k ≤ 4 := by omega
  have hs' : e + k ≤ s.size := by omega
  have hv' : valB t (s.extract e (e + k)) = false := by rw [show e + k = e + (vbN t).toNat by omega]; exact hv
  clear hs hk hv
  go_enter Tryz.func146, Tryz.ntmps146
  go_wp2_with fail
  refine (valueBytes _ _ h0 h3 g).mono ?_
  rintro ev w0 ⟨rfl, rfl⟩
  rw [HK.out]
  go_wp2_with fail
  refine (pc_ok k h (by omega) (by omega)).mono ?_
  rintro ev w1 ⟨rfl, r1, g1⟩
  have hcv := str_piece s B e k (cap - e) w1 r1.bs hs'
  go_wp2_with fail
  refine (isValue _ _ _ h0 h3 (g.grown _hR g1)).mono ?_
  rintro ev w2 ⟨rfl, rfl⟩
  go_wp2_with fail
  refine (rdFault' 9 r1 (by decide) (by decide)).mono ?_
  rintro ev w2 ⟨fb, hfb, rfl, hx, q2⟩
  go_wp2
  go_ret2
  exact ⟨fb, Nat.le_trans g1.size hfb, rfl, hx, grown_trans g1 (grown_of_below q2)⟩
set_option maxHeartbeats 1000000 in
theorem val_ok {w : World} {s : ByteArray} {R B cap b e : Nat} {t : Int} (h : Rdr w s R B cap b e) (g : Glob w) (_hR : 2 < R) (h0 : 0 ≤ t) (h3 : t < 3) (hs : e + (vbN t).toNat ≤ s.size) (hv : valB t (s.extract e (e + (vbN t).toNat)) = true) :
    Calls Tryz.prog 146 #[.pointer (some ⟨R, 0, none⟩), .int .i64 t] w fun ev w' => ev = .returned (.tuple #[.string (s.extract e (e + (vbN t).toNat)), .nilIface]) ∧ Rdr w' s R B cap e (e + (vbN t).toNat) ∧ w.grownBy w' (some R) := by
  have hvb := vbN_bd t
  obtain ⟨k, hk⟩ : ∃ k : Nat, vbN t = (k : Int) := ⟨(vbN t).toNat, by omega⟩
  have HK : Hid (vbN t = (k : Int)) := hk
  have hk2 : 2 ≤ k ∧ k ≤ 4 := by omega
  have hs' : e + k ≤ s.size := by omega
  have hv' : valB t (s.extract e (e + k)) = true := by rw [show e + k = e + (vbN t).toNat by omega]; exact hv
  clear hs hk hv
  rw [show (vbN t).toNat = k by have := HK.out; omega]
  go_enter Tryz.func146, Tryz.ntmps146
  go_wp2_with fail
  refine (valueBytes _ _ h0 h3 g).mono ?_
  rintro ev w0 ⟨rfl, rfl⟩
  rw [HK.out]
  go_wp2_with fail
  refine (pc_ok k h (by omega) (by omega)).mono ?_
  rintro ev w1 ⟨rfl, r1, g1⟩
  have hcv := str_piece s B e k (cap - e) w1 r1.bs hs'
  go_wp2_with fail
  refine (isValue _ _ _ h0 h3 (g.grown _hR g1)).mono ?_
  rintro ev w2 ⟨rfl, rfl⟩
  go_wp2
  go_ret2
  exact ⟨rfl, r1, g1⟩
theorem grown_new {w W : World} {o : Obj} {R : Nat} {a : Addr} {v : Value} (g : (w.alloc o).grownBy W (some R)) (ha : a.block = w.heap.size) : w.grownBy (W.setCell a v) (some R) :=
  ⟨g.os, g.tape, g.output, by have := g.size; simp at this; simp [World.setCell]; omega, fun k hk hne => by
    rw [Below.heap_setCell _ _ _ _ (by omega), g.block k (by simp; omega) hne, Below.heap_alloc _ _ _ hk]⟩
theorem grown_new' {w W : World} {R : Nat} {a : Addr} {v : Value} (g : w.grownBy W (some R)) (ha : w.heap.size ≤ a.block) : w.grownBy (W.setCell a v) (some R) :=
  ⟨g.os, g.tape, g.output, by simpa [World.setCell] using g.size, fun k hk hne => by rw [Below.heap_setCell _ _ _ _ (by omega)]; exact g.block k hk hne⟩
theorem grown_start {w W : World} {o : Obj} {R : Nat} (g : (w.alloc o).grownBy W (some R)) : w.grownBy W (some R) := grown_trans (World.grownBy_alloc w o (some R)) g
set_option maxHeartbeats 1000000 in
theorem key_short {w : World} {s : ByteArray} {R B cap b e : Nat} {t : Int} (h : Rdr w s R B cap b e) (g : Glob w) (_hR : 2 < R) (h0 : 0 ≤ t) (h3 : t < 3) (hs : s.size < e + (kbN t).toNat) :
    Calls Tryz.prog 144 #[.pointer (some ⟨R, 0, none⟩), .int .i64 t] w fun ev w' => ∃ fb, w.heap.size ≤ fb ∧ ev = .returned (.tuple #[.agg #[.int .i64 0, .string ⟨#[]⟩], .iface 133 (.pointer (some ⟨fb, 0, none⟩))]) ∧ ErrIs w' (.iface 133 (.pointer (some ⟨fb, 0, none⟩))) 1 (e : Int) ∧ w.grownBy w' (some R) := by
  have hkb := kbN_bd t
  obtain ⟨k, hk⟩ : ∃ k : Nat, kbN t = (k : Int) := ⟨(kbN t).toNat, by omega⟩
  have HK : Hid (kbN t = (k : Int)) := hk
  have hk2 : 2 ≤ k ∧ k ≤ 6 := by omega
  have ha := h.keep (below_alloc w (.cells #[.int .i64 0, .string ⟨#[]⟩] 83))
  have ga := g.keep (below_alloc w (.cells #[.int .i64 0, .string ⟨#[]⟩] 83))
  have hRw : R < w.heap.size := cell_lt h.rd.c0
  have hs' : s.size < e + k := by omega
  clear hs hk
  go_enter Tryz.func144, Tryz.ntmps144
  go_wp2_with fail
  refine (keyBytes _ _ h0 h3 ga).mono ?_
  rintro ev w0 ⟨rfl, rfl⟩
  rw [HK.out]
  go_wp2_with fail
  refine (pc_no k ha (by omega) (by omega)).mono ?_
  rintro ev w1 ⟨fb, hfb, rfl, hx, g1⟩
  have rc0 : w1.cell? ⟨w.heap.size, 0, none⟩ = some (.int .i64 0) := g1.cell (by simp) (by simp; omega)
  have rc1 : w1.cell? ⟨w.heap.size, 1, none⟩ = some (.string ⟨#[]⟩) := g1.cell (by simp) (by simp; omega)
  have rf0 : w1.frozen? ⟨w.heap.size, 0, none⟩ = false := (World.frozen?_of_block (g1.block _ (by simp) (by simp; omega))).trans (by simp)
  have rf1 : w1.frozen? ⟨w.heap.size, 1, none⟩ = false := (World.frozen?_of_block (g1.block _ (by simp) (by simp; omega))).trans (by simp)
  have hfb' : w.heap.size < fb := by simp at hfb; omega
  go_wp2
  exact bodyPost_ret (v := .tuple #[.agg #[.int .i64 0, .string ⟨#[]⟩], .iface 133 (.pointer (some ⟨fb, 0, none⟩))]) (by simp [results, Tryz.results144, go_sem, rc0, rc1]) rfl ⟨fb, by omega, rfl, (hx.set (by simp; omega)).set (by simp; omega), grown_new' (grown_new' (grown_start g1) (by simp)) (by simp)⟩
set_option maxHeartbeats 1000000 in
theorem key_bad {w : World} {s : ByteArray} {R B cap b e : Nat} {t : Int} (h : Rdr w s R B cap b e) (g : Glob w) (_hR : 2 < R) (h0 : 0 ≤ t) (h3 : t < 3) (hs : e + (kbN t).toNat ≤ s.size) (hv : keyB t (s.extract e (e + (kbN t).toNat)) = false) :
    Calls Tryz.prog 144 #[.pointer (some ⟨R, 0, none⟩), .int .i64 t] w fun ev w' => ∃ fb, w.heap.size ≤ fb ∧ ev = .returned (.tuple #[.agg #[.int .i64 0, .string ⟨#[]⟩], .iface 133 (.pointer (some ⟨fb, 0, none⟩))]) ∧ ErrIs w' (.iface 133 (.pointer (some ⟨fb, 0, none⟩))) 7 (e : Int) ∧ w.grownBy w' (some R) := by
  have hkb := kbN_bd t
  obtain ⟨k, hk⟩ : ∃ k : Nat, kbN t = (k : Int) := ⟨(kbN t).toNat, by omega⟩
  have HK : Hid (kbN t = (k : Int)) := hk
  have hk2 : 2 ≤ k ∧ k ≤ 6 := by omega
  have ha := h.keep (below_alloc w (.cells #[.int .i64 0, .string ⟨#[]⟩] 83))
  have ga := g.keep (below_alloc w (.cells #[.int .i64 0, .string ⟨#[]⟩] 83))
  have hRw : R < w.heap.size := cell_lt h.rd.c0
  have hs' : e + k ≤ s.size := by omega
  have hv' : keyB t (s.extract e (e + k)) = false := by rw [show e + k = e + (kbN t).toNat by omega]; exact hv
  clear hs hk hv
  go_enter Tryz.func144, Tryz.ntmps144
  go_wp2_with fail
  refine (keyBytes _ _ h0 h3 ga).mono ?_
  rintro ev w0 ⟨rfl, rfl⟩
  rw [HK.out]
  go_wp2_with fail
  refine (pc_ok k ha (by omega) (by omega)).mono ?_
  rintro ev w1 ⟨rfl, r1, g1⟩
  have rc0 : w1.cell? ⟨w.heap.size, 0, none⟩ = some (.int .i64 0) := g1.cell (by simp) (by simp; omega)
  have rc1 : w1.cell? ⟨w.heap.size, 1, none⟩ = some (.string ⟨#[]⟩) := g1.cell (by simp) (by simp; omega)
  have rf0 : w1.frozen? ⟨w.heap.size, 0, none⟩ = false := (World.frozen?_of_block (g1.block _ (by simp) (by simp; omega))).trans (by simp)
  have rf1 : w1.frozen? ⟨w.heap.size, 1, none⟩ = false := (World.frozen?_of_block (g1.block _ (by simp) (by simp; omega))).trans (by simp)
  have hcv := str_piece s B e k (cap - e) w1 r1.bs hs'
  have gl1 := ga.grown _hR g1
  have q1a : ∀ o, Below w1.heap.size w1 (w1.alloc o) := fun o => below_alloc w1 o
  go_wp2_with fail
  refine (isKey _ _ _ h0 h3 (gl1.keep (q1a _))).mono ?_
  rintro ev w2 ⟨rfl, q2⟩
  have q12 := below_trans (q1a _) q2
  have sc0 := (q12.cell (p := ⟨w.heap.size, 0, none⟩) (cell_lt rc0)).trans rc0
  have sc1 := (q12.cell (p := ⟨w.heap.size, 1, none⟩) (cell_lt rc1)).trans rc1
  have sf0 := (q12.frozen (p := ⟨w.heap.size, 0, none⟩) (cell_lt rc0)).trans rf0
  have sf1 := (q12.frozen (p := ⟨w.heap.size, 1, none⟩) (cell_lt rc1)).trans rf1
  go_wp2_with fail
  refine (rdFault' 7 (r1.keep q12) (by decide) (by decide)).mono ?_
  rintro ev w3 ⟨fb, hfb, rfl, hx, q3⟩
  have uc0 := (q3.cell (p := ⟨w.heap.size, 0, none⟩) (cell_lt sc0)).trans sc0
  have uc1 := (q3.cell (p := ⟨w.heap.size, 1, none⟩) (cell_lt sc1)).trans sc1
  have uf0 := (q3.frozen (p := ⟨w.heap.size, 0, none⟩) (cell_lt sc0)).trans sf0
  have uf1 := (q3.frozen (p := ⟨w.heap.size, 1, none⟩) (cell_lt sc1)).trans sf1
  have hfb' : w.heap.size < fb := by have h1 := g1.size; have h2 := q12.size; simp at h1; omega
  go_wp2
  exact bodyPost_ret (v := .tuple #[.agg #[.int .i64 0, .string ⟨#[]⟩], .iface 133 (.pointer (some ⟨fb, 0, none⟩))]) (by simp [results, Tryz.results144, go_sem, uc0, uc1]) rfl ⟨fb, by omega, rfl, (hx.set (by simp; omega)).set (by simp; omega), grown_new' (grown_new' (grown_trans (grown_start g1) (grown_of_below (below_trans q12 q3))) (by simp)) (by simp)⟩
set_option maxHeartbeats 1000000 in
theorem key_ok {w : World} {s : ByteArray} {R B cap b e : Nat} {t : Int} (h : Rdr w s R B cap b e) (g : Glob w) (_hR : 2 < R) (h0 : 0 ≤ t) (h3 : t < 3) (hs : e + (kbN t).toNat ≤ s.size) (hv : keyB t (s.extract e (e + (kbN t).toNat)) = true) :
    Calls Tryz.prog 144 #[.pointer (some ⟨R, 0, none⟩), .int .i64 t] w fun ev w' => ev = .returned (.tuple #[.agg #[.int .i64 t, .string (s.extract e (e + (kbN t).toNat))], .nilIface]) ∧ Rdr w' s R B cap e (e + (kbN t).toNat) ∧ w.grownBy w' (some R) := by
  have hkb := kbN_bd t
  obtain ⟨k, hk⟩ : ∃ k : Nat, kbN t = (k : Int) := ⟨(kbN t).toNat, by omega⟩
  have HK : Hid (kbN t = (k : Int)) := hk
  have hk2 : 2 ≤ k ∧ k ≤ 6 := by omega
  have ha := h.keep (below_alloc w (.cells #[.int .i64 0, .string ⟨#[]⟩] 83))
  have ga := g.keep (below_alloc w (.cells #[.int .i64 0, .string ⟨#[]⟩] 83))
  have hRw : R < w.heap.size := cell_lt h.rd.c0
  have hs' : e + k ≤ s.size := by omega
  have hv' : keyB t (s.extract e (e + k)) = true := by rw [show e + k = e + (kbN t).toNat by omega]; exact hv
  clear hs hk hv
  rw [show (kbN t).toNat = k by have := HK.out; omega]
  go_enter Tryz.func144, Tryz.ntmps144
  go_wp2_with fail
  refine (keyBytes _ _ h0 h3 ga).mono ?_
  rintro ev w0 ⟨rfl, rfl⟩
  rw [HK.out]
  go_wp2_with fail
  refine (pc_ok k ha (by omega) (by omega)).mono ?_
  rintro ev w1 ⟨rfl, r1, g1⟩
  have rc0 : w1.cell? ⟨w.heap.size, 0, none⟩ = some (.int .i64 0) := g1.cell (by simp) (by simp; omega)
  have rc1 : w1.cell? ⟨w.heap.size, 1, none⟩ = some (.string ⟨#[]⟩) := g1.cell (by simp) (by simp; omega)
  have rf0 : w1.frozen? ⟨w.heap.size, 0, none⟩ = false := (World.frozen?_of_block (g1.block _ (by simp) (by simp; omega))).trans (by simp)
  have rf1 : w1.frozen? ⟨w.heap.size, 1, none⟩ = false := (World.frozen?_of_block (g1.block _ (by simp) (by simp; omega))).trans (by simp)
  have hcv := str_piece s B e k (cap - e) w1 r1.bs hs'
  have gl1 := ga.grown _hR g1
  have q1a : ∀ o, Below w1.heap.size w1 (w1.alloc o) := fun o => below_alloc w1 o
  go_wp2_with fail
  refine (isKey _ _ _ h0 h3 (gl1.keep (q1a _))).mono ?_
  rintro ev w2 ⟨rfl, q2⟩
  have q12 := below_trans (q1a _) q2
  have sc0 := (q12.cell (p := ⟨w.heap.size, 0, none⟩) (cell_lt rc0)).trans rc0
  have sc1 := (q12.cell (p := ⟨w.heap.size, 1, none⟩) (cell_lt rc1)).trans rc1
  have sf0 := (q12.frozen (p := ⟨w.heap.size, 0, none⟩) (cell_lt rc0)).trans rf0
  have sf1 := (q12.frozen (p := ⟨w.heap.size, 1, none⟩) (cell_lt rc1)).trans rf1
  have kv0 : w2.cell? ⟨w1.heap.size, 0, none⟩ = some (.int .i64 t) := (q2.cell (p := ⟨w1.heap.size, 0, none⟩) (by simp)).trans (by simp)
  have kv1 : w2.cell? ⟨w1.heap.size, 1, none⟩ = some (.string (s.extract e (e + k))) := (q2.cell (p := ⟨w1.heap.size, 1, none⟩) (by simp)).trans (by simp)
  have r2 := r1.keep q12
  have hnR : R ≠ w.heap.size := by omega
  have hnB : B ≠ w.heap.size := by have := cell_lt (h.bs e (by omega)); simp at this; omega
  go_wp2
  refine bodyPost_ret (v := .tuple #[.agg #[.int .i64 t, .string (s.extract e (e + k))], .nilIface]) (by simp [results, Tryz.results144, go_sem, sc0, sc1]) rfl ⟨rfl, ?_, grown_new' (grown_new' (grown_trans (grown_start g1) (grown_of_below q12)) (by simp)) (by simp)⟩
  exact (r2.set (by simpa using fun h => hnR h.symm) (by simpa using fun h => hnB h.symm)).set (by simpa using fun h => hnR h.symm) (by simpa using fun h => hnB h.symm)
end Go.Proofs.YtindifjhocgkbaaGreatDoor
namespace Go.Proofs.YtindifjhocgkbaaGreatDoor
open Go.RowKit

theorem byte_bk (x : Int) (h0 : 0 ≤ x) (h1 : x < 256) : (((UInt8.ofNat x.toNat).toNat : Nat) : Int) = x := by
  simp [UInt8.toNat_ofNat']; omega
theorem str_whole (s : ByteArray) (B c : Nat) (W : World) (hb : BytesAt W B s) : (convert 53 9 (.slice (some ⟨B, 0, none⟩) s.size c)).run Tryz.prog W = .ok (.string s) W := by
  have h := str_piece s B 0 s.size c W hb (by omega)
  rw [Nat.zero_add] at h
  have e : s.extract 0 s.size = s := by
    apply ByteArray.ext
    have hz : s.data.size = s.size := rfl
    rw [ByteArray.data_extract, ← hz]; simp
  rw [e] at h
  exact h
set_option maxHeartbeats 1000000 in
theorem kPick (c n : Int) (w : World) (hc : -9223372036854775808 ≤ c ∧ c ≤ 9223372036854775807) (hn : 0 < n) (hn' : n ≤ 4611686018427387904) :
    Calls Tryz.prog 22 #[.int .i64 c, .int .i64 n] w fun e w' => ∃ k : Int, 0 ≤ k ∧ k < n ∧ e = .returned (.int .i64 k) ∧ w' = w := by
  by_cases h : c < 0
  · go_enter Tryz.func22, Tryz.ntmps22
    go_wp2
    go_ret
    have e1 : -((c + 1).tmod n) = (-(c + 1)) % n := by rw [← Int.neg_tmod, Int.tmod_eq_emod_of_nonneg (by omega)]
    have e2 := Int.emod_nonneg (-(c + 1)) (show n ≠ 0 by omega)
    have e3 := Int.emod_lt_of_pos (-(c + 1)) (show (0 : Int) < n by omega)
    exact ⟨(-(c + 1)) % n, e2, e3, by rw [e1]; rfl, rfl⟩
  · go_enter Tryz.func22, Tryz.ntmps22
    go_wp2
    go_ret
    have e2 := Int.emod_nonneg c (show n ≠ 0 by omega)
    have e3 := Int.emod_lt_of_pos c (show (0 : Int) < n by omega)
    exact ⟨c % n, e2, e3, rfl, rfl⟩

/-- A string out of numbers. -/
def baOf (xs : List Int) : ByteArray := ⟨(xs.map fun x => UInt8.ofNat x.toNat).toArray⟩
theorem baOf_size (xs : List Int) : (baOf xs).size = xs.length := by simp [baOf, ByteArray.size]
theorem bt_baOf (xs : List Int) (i : Nat) (h : i < xs.length) (h0 : 0 ≤ xs[i] ∧ xs[i] < 256) : bt (baOf xs) i = xs[i] := by
  unfold bt baOf
  rw [List.getD_eq_getElem?_getD]
  simp only [List.getElem?_map, List.getElem?_eq_getElem h, Option.map_some, Option.getD_some]
  exact byte_bk _ h0.1 h0.2
theorem str_lit (W : World) (xs : List Int) (B : Nat) (t : TypeId) (c : Nat) (hB : B = W.heap.size) (hx : ∀ x ∈ xs, 0 ≤ x ∧ x < 256) :
    (convert 53 9 (.slice (some ⟨B, 0, none⟩) xs.length c)).run Tryz.prog (W.alloc (.cells (xs.map fun x => Value.int .u8 x).toArray t)) = .ok (.string (baOf xs)) (W.alloc (.cells (xs.map fun x => Value.int .u8 x).toArray t)) := by
  have h := str_whole (baOf xs) B c (W.alloc (.cells (xs.map fun x => Value.int .u8 x).toArray t)) (fun i hi => by
    rw [baOf_size] at hi
    rw [bt_baOf xs i hi (hx _ (List.getElem_mem hi))]
    subst hB
    rw [World.cell?_alloc_new]
    simp [hi])
  rw [baOf_size] at h
  exact h
/-- A slice of integers that came in. -/
def IntsIn (w : World) (ao : Option Addr) (n : Nat) : Prop := 0 < n → ∃ b off, ao = some ⟨b, off, none⟩ ∧ b < w.heap.size ∧ ∀ i, i < n → ∃ x : Int, w.cell? ⟨b, off + i, none⟩ = some (.int .i64 x) ∧ -9223372036854775808 ≤ x ∧ x ≤ 9223372036854775807
theorem IntsIn.keep {w w' : World} {ao : Option Addr} {n : Nat} (h : IntsIn w ao n) (q : Below w.heap.size w w') : IntsIn w' ao n := fun hp => by
  obtain ⟨b, off, e, hb, hc⟩ := h hp
  exact ⟨b, off, e, Nat.lt_of_lt_of_le hb q.size, fun i hi => by obtain ⟨x, h1, h2⟩ := hc i hi; exact ⟨x, (q.cell (p := ⟨b, off + i, none⟩) hb).trans h1, h2⟩⟩
end Go.Proofs.YtindifjhocgkbaaGreatDoor
