import Derived.Test.YtindifjhocgkbaaDoorRdB
namespace Go.Proofs.YtindifjhocgkbaaDoor
open Go.RowKit

def kbn (t : Int) : Nat := (kbN t).toNat
def vbn (t : Int) : Nat := (vbN t).toNat
/-- The change at a place: the fault, or the change and the place behind it. -/
def chg (s : ByteArray) (e : Nat) (l : List OpD) : Except (Int × Int) (OpD × Nat) :=
  if s.size < e + 2 then .error (1, e) else
  if kindB (bt s e) (bt s (e + 1)) = false then .error (6, e) else
  if s.size < e + 2 + (kbN (bt s (e + 1))).toNat then .error (1, ((e + 2 : Nat) : Int)) else
  if keyB (bt s (e + 1)) (s.extract (e + 2) (e + 2 + (kbN (bt s (e + 1))).toNat)) = false then .error (7, ((e + 2 : Nat) : Int)) else
  if l.any (sameKey (bt s (e + 1)) (s.extract (e + 2) (e + 2 + (kbN (bt s (e + 1))).toNat))) = true then .error (8, ((e + 2 : Nat) : Int)) else
  if bt s e = 2 then .ok (⟨2, bt s (e + 1), s.extract (e + 2) (e + 2 + (kbN (bt s (e + 1))).toNat), ⟨#[]⟩⟩, e + 2 + (kbN (bt s (e + 1))).toNat) else
  if s.size < e + 2 + (kbN (bt s (e + 1))).toNat + (vbN (bt s (e + 1))).toNat then .error (1, ((e + 2 + (kbN (bt s (e + 1))).toNat : Nat) : Int)) else
  if valB (bt s (e + 1)) (s.extract (e + 2 + (kbN (bt s (e + 1))).toNat) (e + 2 + (kbN (bt s (e + 1))).toNat + (vbN (bt s (e + 1))).toNat)) = false then .error (9, ((e + 2 + (kbN (bt s (e + 1))).toNat : Nat) : Int)) else
  .ok (⟨bt s e, bt s (e + 1), s.extract (e + 2) (e + 2 + (kbN (bt s (e + 1))).toNat), s.extract (e + 2 + (kbN (bt s (e + 1))).toNat) (e + 2 + (kbN (bt s (e + 1))).toNat + (vbN (bt s (e + 1))).toNat)⟩, e + 2 + (kbN (bt s (e + 1))).toNat + (vbN (bt s (e + 1))).toNat)

/-- A block of four cells that may be written. -/
structure Own4 (w : World) (b : Nat) : Prop where
  e0 : ∃ v, w.cell? ⟨b, 0, none⟩ = some v
  e1 : ∃ v, w.cell? ⟨b, 1, none⟩ = some v
  e2 : ∃ v, w.cell? ⟨b, 2, none⟩ = some v
  e3 : ∃ v, w.cell? ⟨b, 3, none⟩ = some v
  f0 : w.frozen? ⟨b, 0, none⟩ = false
  f1 : w.frozen? ⟨b, 1, none⟩ = false
  f2 : w.frozen? ⟨b, 2, none⟩ = false
  f3 : w.frozen? ⟨b, 3, none⟩ = false
theorem Own4.lt {w : World} {b : Nat} (h : Own4 w b) : b < w.heap.size := by obtain ⟨v, h⟩ := h.e0; exact cell_lt h
theorem Own4.keep {w w' : World} {b : Nat} (h : Own4 w b) (q : Below w.heap.size w w') : Own4 w' b := by
  have hb := h.lt
  obtain ⟨⟨a0, h0⟩, ⟨a1, h1⟩, ⟨a2, h2⟩, ⟨a3, h3⟩, f0, f1, f2, f3⟩ := h
  exact ⟨⟨a0, (q.cell (p := ⟨b, 0, none⟩) hb).trans h0⟩, ⟨a1, (q.cell (p := ⟨b, 1, none⟩) hb).trans h1⟩, ⟨a2, (q.cell (p := ⟨b, 2, none⟩) hb).trans h2⟩, ⟨a3, (q.cell (p := ⟨b, 3, none⟩) hb).trans h3⟩, (q.frozen (p := ⟨b, 0, none⟩) hb).trans f0, (q.frozen (p := ⟨b, 1, none⟩) hb).trans f1, (q.frozen (p := ⟨b, 2, none⟩) hb).trans f2, (q.frozen (p := ⟨b, 3, none⟩) hb).trans f3⟩
theorem Own4.grown {w w' : World} {b R : Nat} (h : Own4 w b) (hne : b ≠ R) (g : w.grownBy w' (some R)) : Own4 w' b := by
  have hb := h.lt
  have hn : some b ≠ some R := by simpa using hne
  have hf : ∀ o, w'.frozen? ⟨b, o, none⟩ = w.frozen? ⟨b, o, none⟩ := fun o => World.frozen?_of_block (g.block b hb hn)
  obtain ⟨⟨a0, h0⟩, ⟨a1, h1⟩, ⟨a2, h2⟩, ⟨a3, h3⟩, f0, f1, f2, f3⟩ := h
  exact ⟨⟨a0, g.cell h0 hn⟩, ⟨a1, g.cell h1 hn⟩, ⟨a2, g.cell h2 hn⟩, ⟨a3, g.cell h3 hn⟩, (hf _).trans f0, (hf _).trans f1, (hf _).trans f2, (hf _).trans f3⟩

set_option maxRecDepth 10000 in
set_option maxHeartbeats 2000000 in
theorem chg_short {w : World} {s : ByteArray} {R B cap b e : Nat} {ao : Option Addr} {cap' : Nat} {l : List OpD} (h : Rdr w s R B cap b e) (g : Glob w) (_hR : 2 < R) (_ho : OpsIn w ao l) (_hno : ∀ a, ao = some a → a.block ≠ R) (_hl : l.length ≤ 8) (hs : s.size < e + 2) :
    Calls Tryd.prog 78 #[.pointer (some ⟨R, 0, none⟩), .slice ao l.length cap'] w fun ev w' => ∃ fb, w.heap.size ≤ fb ∧ ev = .returned (.tuple #[.agg #[.int .i64 0, .int .i64 0, .string ⟨#[]⟩, .string ⟨#[]⟩], .iface 100 (.pointer (some ⟨fb, 0, none⟩))]) ∧ ErrIs w' (.iface 100 (.pointer (some ⟨fb, 0, none⟩))) 1 (e : Int) ∧ w.grownBy w' (some R) := by
  have hRw : R < w.heap.size := cell_lt h.rd.c0
  have ha := h.keep (below_alloc w (.cells #[.int .i64 0, .int .i64 0, .string ⟨#[]⟩, .string ⟨#[]⟩] 47))
  have ga := g.keep (below_alloc w (.cells #[.int .i64 0, .int .i64 0, .string ⟨#[]⟩, .string ⟨#[]⟩] 47))
  have oa : Own4 (w.alloc (.cells #[.int .i64 0, .int .i64 0, .string ⟨#[]⟩, .string ⟨#[]⟩] 47)) w.heap.size := ⟨⟨_, by simp; rfl⟩, ⟨_, by simp; rfl⟩, ⟨_, by simp; rfl⟩, ⟨_, by simp; rfl⟩, by simp, by simp, by simp, by simp⟩
  go_enter Tryd.func78, Tryd.ntmps78
  go_wp2_with fail
  refine (pc_no 2 ha (by omega) (by omega)).mono ?_
  rintro ev w1 ⟨fb, hfb, rfl, hx, g1⟩
  have o1 := oa.grown (by omega) g1
  obtain ⟨⟨x0, y0⟩, ⟨x1, y1⟩, ⟨x2, y2⟩, ⟨x3, y3⟩, z0, z1, z2, z3⟩ := o1
  have hfb' : w.heap.size < fb := by simp at hfb; omega
  go_wp2
  exact bodyPost_ret (v := .tuple #[.agg #[.int .i64 0, .int .i64 0, .string ⟨#[]⟩, .string ⟨#[]⟩], .iface 100 (.pointer (some ⟨fb, 0, none⟩))]) (by simp [results, Tryd.results78, go_sem, y0, y1, y2, y3]) rfl ⟨fb, by omega, rfl, (hx.set (by simp; omega)).set (by simp; omega) |>.set (by simp; omega) |>.set (by simp; omega), grown_new' (grown_new' (grown_new' (grown_new' (grown_start g1) (by simp)) (by simp)) (by simp)) (by simp)⟩
set_option maxRecDepth 10000 in
set_option maxHeartbeats 2000000 in
theorem chg_kind {w : World} {s : ByteArray} {R B cap b e : Nat} {ao : Option Addr} {cap' : Nat} {l : List OpD} (h : Rdr w s R B cap b e) (g : Glob w) (_hR : 2 < R) (_ho : OpsIn w ao l) (_hno : ∀ a, ao = some a → a.block ≠ R) (_hl : l.length ≤ 8) (hs : e + 2 ≤ s.size) (hk : kindB (bt s e) (bt s (e + 1)) = false) :
    Calls Tryd.prog 78 #[.pointer (some ⟨R, 0, none⟩), .slice ao l.length cap'] w fun ev w' => ∃ fb, w.heap.size ≤ fb ∧ ev = .returned (.tuple #[.agg #[.int .i64 0, .int .i64 0, .string ⟨#[]⟩, .string ⟨#[]⟩], .iface 100 (.pointer (some ⟨fb, 0, none⟩))]) ∧ ErrIs w' (.iface 100 (.pointer (some ⟨fb, 0, none⟩))) 6 (e : Int) ∧ w.grownBy w' (some R) := by
  have hRw : R < w.heap.size := cell_lt h.rd.c0
  have ha := h.keep (below_alloc w (.cells #[.int .i64 0, .int .i64 0, .string ⟨#[]⟩, .string ⟨#[]⟩] 47))
  have ga := g.keep (below_alloc w (.cells #[.int .i64 0, .int .i64 0, .string ⟨#[]⟩, .string ⟨#[]⟩] 47))
  have oa : Own4 (w.alloc (.cells #[.int .i64 0, .int .i64 0, .string ⟨#[]⟩, .string ⟨#[]⟩] 47)) w.heap.size := ⟨⟨_, by simp; rfl⟩, ⟨_, by simp; rfl⟩, ⟨_, by simp; rfl⟩, ⟨_, by simp; rfl⟩, by simp, by simp, by simp, by simp⟩
  go_enter Tryd.func78, Tryd.ntmps78
  go_wp2_with fail
  refine (pc_ok 2 ha (by omega) (by omega)).mono ?_
  rintro ev w1 ⟨rfl, r1, g1⟩
  have o1 := oa.grown (by omega) g1
  have b0 := r1.bs e (by omega)
  have b1 := r1.bs (e + 1) (by omega)
  have t0 := bt_lo s e
  have t1 := bt_lo s (e + 1)
  have hs1 := g1.size
  simp only [World.size_alloc] at hs1
  go_wp2_with fail
  go_quiet (fail)
  go_wp2_with fail
  refine (isKind _ _ _).mono ?_
  rintro ev w2 ⟨rfl, rfl⟩
  go_wp2_with fail
  refine (rdFault' 6 (r1.keep (below_drawn _ _)) (by decide) (by decide)).mono ?_
  rintro ev w2 ⟨fb, hfb, rfl, hx, q2⟩
  have o2 := (o1.keep (below_drawn _ _)).keep q2
  obtain ⟨⟨x0, y0⟩, ⟨x1, y1⟩, ⟨x2, y2⟩, ⟨x3, y3⟩, z0, z1, z2, z3⟩ := o2
  have hfb' : w.heap.size < fb := by simp at hfb; omega
  go_wp2
  exact bodyPost_ret (v := .tuple #[.agg #[.int .i64 0, .int .i64 0, .string ⟨#[]⟩, .string ⟨#[]⟩], .iface 100 (.pointer (some ⟨fb, 0, none⟩))]) (by simp [results, Tryd.results78, go_sem, y0, y1, y2, y3]) rfl ⟨fb, by omega, rfl, (hx.set (by simp; omega)).set (by simp; omega) |>.set (by simp; omega) |>.set (by simp; omega), grown_new' (grown_new' (grown_new' (grown_new' (grown_trans (grown_drawn' (grown_start g1) _) (grown_of_below q2)) (by simp)) (by simp)) (by simp)) (by simp)⟩
set_option maxRecDepth 10000 in
set_option maxHeartbeats 2000000 in
theorem chg_kshort {w : World} {s : ByteArray} {R B cap b e : Nat} {ao : Option Addr} {cap' : Nat} {l : List OpD} (h : Rdr w s R B cap b e) (g : Glob w) (_hR : 2 < R) (_ho : OpsIn w ao l) (_hno : ∀ a, ao = some a → a.block ≠ R) (_hl : l.length ≤ 8) (hs : e + 2 ≤ s.size) (hk : kindB (bt s e) (bt s (e + 1)) = true) (hs2 : s.size < e + 2 + (kbN (bt s (e + 1))).toNat) :
    Calls Tryd.prog 78 #[.pointer (some ⟨R, 0, none⟩), .slice ao l.length cap'] w fun ev w' => ∃ fb, w.heap.size ≤ fb ∧ ev = .returned (.tuple #[.agg #[.int .i64 0, .int .i64 0, .string ⟨#[]⟩, .string ⟨#[]⟩], .iface 100 (.pointer (some ⟨fb, 0, none⟩))]) ∧ ErrIs w' (.iface 100 (.pointer (some ⟨fb, 0, none⟩))) 1 ((e + 2 : Nat) : Int) ∧ w.grownBy w' (some R) := by
  have hRw : R < w.heap.size := cell_lt h.rd.c0
  have ha := h.keep (below_alloc w (.cells #[.int .i64 0, .int .i64 0, .string ⟨#[]⟩, .string ⟨#[]⟩] 47))
  have ga := g.keep (below_alloc w (.cells #[.int .i64 0, .int .i64 0, .string ⟨#[]⟩, .string ⟨#[]⟩] 47))
  have oa : Own4 (w.alloc (.cells #[.int .i64 0, .int .i64 0, .string ⟨#[]⟩, .string ⟨#[]⟩] 47)) w.heap.size := ⟨⟨_, by simp; rfl⟩, ⟨_, by simp; rfl⟩, ⟨_, by simp; rfl⟩, ⟨_, by simp; rfl⟩, by simp, by simp, by simp, by simp⟩
  go_enter Tryd.func78, Tryd.ntmps78
  go_wp2_with fail
  refine (pc_ok 2 ha (by omega) (by omega)).mono ?_
  rintro ev w1 ⟨rfl, r1, g1⟩
  have o1 := oa.grown (by omega) g1
  have b0 := r1.bs e (by omega)
  have b1 := r1.bs (e + 1) (by omega)
  have t0 := bt_lo s e
  have t1 := bt_lo s (e + 1)
  have hs1 := g1.size
  simp only [World.size_alloc] at hs1
  go_wp2_with fail
  go_quiet (fail)
  go_wp2_with fail
  refine (isKind _ _ _).mono ?_
  rintro ev w2 ⟨rfl, rfl⟩
  have hki := kindB_in hk
  have hk0 : 0 ≤ bt s (e + 1) := hki.2.1
  have hk3 : bt s (e + 1) < 3 := hki.2.2
  have rk := r1.keep (below_drawn _ nq)
  have gk := (ga.grown _hR g1).keep (below_drawn _ nq)
  have ok := o1.keep (below_drawn _ nq)
  have wk : w.grownBy (w1.drewN nq) (some R) := grown_drawn' (grown_start g1) _
  have ik := ((_ho.keep (below_alloc w (.cells #[.int .i64 0, .int .i64 0, .string ⟨#[]⟩, .string ⟨#[]⟩] 47))).grown _hno g1).keep (below_drawn _ nq)
  clear hki
  go_wp2_with fail
  refine (key_short rk gk _hR hk0 hk3 hs2).mono ?_
  rintro ev w3 ⟨fb, hfb, rfl, hx, g3⟩
  have o3 := (ok.grown (by omega) g3).keep (below_alloc _ (.cells #[.int .i64 0, .string ⟨#[]⟩] 45))
  have hx3 := hx.keep (below_alloc _ (.cells #[.int .i64 0, .string ⟨#[]⟩] 45))
  obtain ⟨⟨x0, y0⟩, ⟨x1, y1⟩, ⟨x2, y2⟩, ⟨x3, y3⟩, z0, z1, z2, z3⟩ := o3
  have hfb' : w.heap.size < fb := by simp at hfb; omega
  go_wp2
  exact bodyPost_ret (v := .tuple #[.agg #[.int .i64 0, .int .i64 0, .string ⟨#[]⟩, .string ⟨#[]⟩], .iface 100 (.pointer (some ⟨fb, 0, none⟩))]) (by simp [results, Tryd.results78, go_sem, y0, y1, y2, y3]) rfl ⟨fb, by omega, rfl, (hx3.set (by simp; omega)).set (by simp; omega) |>.set (by simp; omega) |>.set (by simp; omega), grown_new' (grown_new' (grown_new' (grown_new' (grown_alloc (grown_trans wk g3) _) (by simp)) (by simp)) (by simp)) (by simp)⟩
set_option maxRecDepth 10000 in
set_option maxHeartbeats 2000000 in
theorem chg_kbad {w : World} {s : ByteArray} {R B cap b e : Nat} {ao : Option Addr} {cap' : Nat} {l : List OpD} (h : Rdr w s R B cap b e) (g : Glob w) (_hR : 2 < R) (_ho : OpsIn w ao l) (_hno : ∀ a, ao = some a → a.block ≠ R) (_hl : l.length ≤ 8) (hs : e + 2 ≤ s.size) (hk : kindB (bt s e) (bt s (e + 1)) = true) (hs2 : e + 2 + (kbN (bt s (e + 1))).toNat ≤ s.size) (hv : keyB (bt s (e + 1)) (s.extract (e + 2) (e + 2 + (kbN (bt s (e + 1))).toNat)) = false) :
    Calls Tryd.prog 78 #[.pointer (some ⟨R, 0, none⟩), .slice ao l.length cap'] w fun ev w' => ∃ fb, w.heap.size ≤ fb ∧ ev = .returned (.tuple #[.agg #[.int .i64 0, .int .i64 0, .string ⟨#[]⟩, .string ⟨#[]⟩], .iface 100 (.pointer (some ⟨fb, 0, none⟩))]) ∧ ErrIs w' (.iface 100 (.pointer (some ⟨fb, 0, none⟩))) 7 ((e + 2 : Nat) : Int) ∧ w.grownBy w' (some R) := by
  have hRw : R < w.heap.size := cell_lt h.rd.c0
  have ha := h.keep (below_alloc w (.cells #[.int .i64 0, .int .i64 0, .string ⟨#[]⟩, .string ⟨#[]⟩] 47))
  have ga := g.keep (below_alloc w (.cells #[.int .i64 0, .int .i64 0, .string ⟨#[]⟩, .string ⟨#[]⟩] 47))
  have oa : Own4 (w.alloc (.cells #[.int .i64 0, .int .i64 0, .string ⟨#[]⟩, .string ⟨#[]⟩] 47)) w.heap.size := ⟨⟨_, by simp; rfl⟩, ⟨_, by simp; rfl⟩, ⟨_, by simp; rfl⟩, ⟨_, by simp; rfl⟩, by simp, by simp, by simp, by simp⟩
  go_enter Tryd.func78, Tryd.ntmps78
  go_wp2_with fail
  refine (pc_ok 2 ha (by omega) (by omega)).mono ?_
  rintro ev w1 ⟨rfl, r1, g1⟩
  have o1 := oa.grown (by omega) g1
  have b0 := r1.bs e (by omega)
  have b1 := r1.bs (e + 1) (by omega)
  have t0 := bt_lo s e
  have t1 := bt_lo s (e + 1)
  have hs1 := g1.size
  simp only [World.size_alloc] at hs1
  go_wp2_with fail
  go_quiet (fail)
  go_wp2_with fail
  refine (isKind _ _ _).mono ?_
  rintro ev w2 ⟨rfl, rfl⟩
  have hki := kindB_in hk
  have hk0 : 0 ≤ bt s (e + 1) := hki.2.1
  have hk3 : bt s (e + 1) < 3 := hki.2.2
  have rk := r1.keep (below_drawn _ nq)
  have gk := (ga.grown _hR g1).keep (below_drawn _ nq)
  have ok := o1.keep (below_drawn _ nq)
  have wk : w.grownBy (w1.drewN nq) (some R) := grown_drawn' (grown_start g1) _
  have ik := ((_ho.keep (below_alloc w (.cells #[.int .i64 0, .int .i64 0, .string ⟨#[]⟩, .string ⟨#[]⟩] 47))).grown _hno g1).keep (below_drawn _ nq)
  clear hki
  go_wp2_with fail
  refine (key_bad rk gk _hR hk0 hk3 hs2 hv).mono ?_
  rintro ev w3 ⟨fb, hfb, rfl, hx, g3⟩
  have o3 := (ok.grown (by omega) g3).keep (below_alloc _ (.cells #[.int .i64 0, .string ⟨#[]⟩] 45))
  have hx3 := hx.keep (below_alloc _ (.cells #[.int .i64 0, .string ⟨#[]⟩] 45))
  obtain ⟨⟨x0, y0⟩, ⟨x1, y1⟩, ⟨x2, y2⟩, ⟨x3, y3⟩, z0, z1, z2, z3⟩ := o3
  have hfb' : w.heap.size < fb := by simp at hfb; omega
  go_wp2
  exact bodyPost_ret (v := .tuple #[.agg #[.int .i64 0, .int .i64 0, .string ⟨#[]⟩, .string ⟨#[]⟩], .iface 100 (.pointer (some ⟨fb, 0, none⟩))]) (by simp [results, Tryd.results78, go_sem, y0, y1, y2, y3]) rfl ⟨fb, by omega, rfl, (hx3.set (by simp; omega)).set (by simp; omega) |>.set (by simp; omega) |>.set (by simp; omega), grown_new' (grown_new' (grown_new' (grown_new' (grown_alloc (grown_trans wk g3) _) (by simp)) (by simp)) (by simp)) (by simp)⟩
set_option maxRecDepth 10000 in
set_option maxHeartbeats 2000000 in
theorem chg_twice {w : World} {s : ByteArray} {R B cap b e : Nat} {ao : Option Addr} {cap' : Nat} {l : List OpD} (h : Rdr w s R B cap b e) (g : Glob w) (_hR : 2 < R) (_ho : OpsIn w ao l) (_hno : ∀ a, ao = some a → a.block ≠ R) (_hl : l.length ≤ 8) (hs : e + 2 ≤ s.size) (hk : kindB (bt s e) (bt s (e + 1)) = true) (hs2 : e + 2 + (kbN (bt s (e + 1))).toNat ≤ s.size) (hv : keyB (bt s (e + 1)) (s.extract (e + 2) (e + 2 + (kbN (bt s (e + 1))).toNat)) = true) (hy : l.any (sameKey (bt s (e + 1)) (s.extract (e + 2) (e + 2 + (kbN (bt s (e + 1))).toNat))) = true) :
    Calls Tryd.prog 78 #[.pointer (some ⟨R, 0, none⟩), .slice ao l.length cap'] w fun ev w' => ∃ fb, w.heap.size ≤ fb ∧ ev = .returned (.tuple #[.agg #[.int .i64 0, .int .i64 0, .string ⟨#[]⟩, .string ⟨#[]⟩], .iface 100 (.pointer (some ⟨fb, 0, none⟩))]) ∧ ErrIs w' (.iface 100 (.pointer (some ⟨fb, 0, none⟩))) 8 ((e + 2 : Nat) : Int) ∧ w.grownBy w' (some R) := by
  have hRw : R < w.heap.size := cell_lt h.rd.c0
  have ha := h.keep (below_alloc w (.cells #[.int .i64 0, .int .i64 0, .string ⟨#[]⟩, .string ⟨#[]⟩] 47))
  have ga := g.keep (below_alloc w (.cells #[.int .i64 0, .int .i64 0, .string ⟨#[]⟩, .string ⟨#[]⟩] 47))
  have oa : Own4 (w.alloc (.cells #[.int .i64 0, .int .i64 0, .string ⟨#[]⟩, .string ⟨#[]⟩] 47)) w.heap.size := ⟨⟨_, by simp; rfl⟩, ⟨_, by simp; rfl⟩, ⟨_, by simp; rfl⟩, ⟨_, by simp; rfl⟩, by simp, by simp, by simp, by simp⟩
  go_enter Tryd.func78, Tryd.ntmps78
  go_wp2_with fail
  refine (pc_ok 2 ha (by omega) (by omega)).mono ?_
  rintro ev w1 ⟨rfl, r1, g1⟩
  have o1 := oa.grown (by omega) g1
  have b0 := r1.bs e (by omega)
  have b1 := r1.bs (e + 1) (by omega)
  have t0 := bt_lo s e
  have t1 := bt_lo s (e + 1)
  have hs1 := g1.size
  simp only [World.size_alloc] at hs1
  go_wp2_with fail
  go_quiet (fail)
  go_wp2_with fail
  refine (isKind _ _ _).mono ?_
  rintro ev w2 ⟨rfl, rfl⟩
  have hki := kindB_in hk
  have hk0 : 0 ≤ bt s (e + 1) := hki.2.1
  have hk3 : bt s (e + 1) < 3 := hki.2.2
  have rk := r1.keep (below_drawn _ nq)
  have gk := (ga.grown _hR g1).keep (below_drawn _ nq)
  have ok := o1.keep (below_drawn _ nq)
  have wk : w.grownBy (w1.drewN nq) (some R) := grown_drawn' (grown_start g1) _
  have ik := ((_ho.keep (below_alloc w (.cells #[.int .i64 0, .int .i64 0, .string ⟨#[]⟩, .string ⟨#[]⟩] 47))).grown _hno g1).keep (below_drawn _ nq)
  clear hki
  go_wp2_with fail
  refine (key_ok rk gk _hR hk0 hk3 hs2 hv).mono ?_
  rintro ev w3 ⟨rfl, r3, g3⟩
  have hs3 := g3.size
  have r4 := r3.keep (below_alloc _ (.cells #[.int .i64 (bt s (e + 1)), .string (s.extract (e + 2) (e + 2 + (kbN (bt s (e + 1))).toNat))] 45))
  have o4 := (ok.grown (by omega) g3).keep (below_alloc _ (.cells #[.int .i64 (bt s (e + 1)), .string (s.extract (e + 2) (e + 2 + (kbN (bt s (e + 1))).toNat))] 45))
  have i4 := (ik.grown _hno g3).keep (below_alloc _ (.cells #[.int .i64 (bt s (e + 1)), .string (s.extract (e + 2) (e + 2 + (kbN (bt s (e + 1))).toNat))] 45))
  have g4 := (gk.grown _hR g3).keep (below_alloc _ (.cells #[.int .i64 (bt s (e + 1)), .string (s.extract (e + 2) (e + 2 + (kbN (bt s (e + 1))).toNat))] 45))
  have wk3 := grown_trans wk g3
  go_wp2_with fail
  refine (changed ao cap' l _ _ _ _hl i4).mono ?_
  rintro ev w5 ⟨rfl, q5⟩
  have r5 := r4.keep q5
  have o5 := o4.keep q5
  have g5 := g4.keep q5
  have wk5 : w.grownBy w5 (some R) := grown_trans (grown_alloc wk3 _) (grown_of_below q5)
  have kc0 : w5.cell? ⟨w3.heap.size, 0, none⟩ = some (.int .i64 (bt s (e + 1))) := (q5.cell (p := ⟨w3.heap.size, 0, none⟩) (by simp)).trans (by simp)
  have kc1 : w5.cell? ⟨w3.heap.size, 1, none⟩ = some (.string (s.extract (e + 2) (e + 2 + (kbN (bt s (e + 1))).toNat))) := (q5.cell (p := ⟨w3.heap.size, 1, none⟩) (by simp)).trans (by simp)
  have hs5 := q5.size
  simp only [World.size_alloc] at hs5
  go_wp2_with fail
  refine (rdFault' 8 r5 (by decide) (by decide)).mono ?_
  rintro ev w6 ⟨fb, hfb, rfl, hx, q6⟩
  have o6 := o5.keep q6
  obtain ⟨⟨x0, y0⟩, ⟨x1, y1⟩, ⟨x2, y2⟩, ⟨x3, y3⟩, z0, z1, z2, z3⟩ := o6
  have hfb' : w.heap.size < fb := by simp at hs3; omega
  go_wp2
  exact bodyPost_ret (v := .tuple #[.agg #[.int .i64 0, .int .i64 0, .string ⟨#[]⟩, .string ⟨#[]⟩], .iface 100 (.pointer (some ⟨fb, 0, none⟩))]) (by simp [results, Tryd.results78, go_sem, y0, y1, y2, y3]) rfl ⟨fb, by omega, rfl, (hx.set (by simp; omega)).set (by simp; omega) |>.set (by simp; omega) |>.set (by simp; omega), grown_new' (grown_new' (grown_new' (grown_new' (grown_trans wk5 (grown_of_below q6)) (by simp)) (by simp)) (by simp)) (by simp)⟩
set_option maxRecDepth 10000 in
set_option maxHeartbeats 2000000 in
theorem chg_drop {w : World} {s : ByteArray} {R B cap b e : Nat} {ao : Option Addr} {cap' : Nat} {l : List OpD} (h : Rdr w s R B cap b e) (g : Glob w) (_hR : 2 < R) (_ho : OpsIn w ao l) (_hno : ∀ a, ao = some a → a.block ≠ R) (_hl : l.length ≤ 8) (hs : e + 2 ≤ s.size) (hk : kindB (bt s e) (bt s (e + 1)) = true) (hs2 : e + 2 + (kbN (bt s (e + 1))).toNat ≤ s.size) (hv : keyB (bt s (e + 1)) (s.extract (e + 2) (e + 2 + (kbN (bt s (e + 1))).toNat)) = true) (hy : l.any (sameKey (bt s (e + 1)) (s.extract (e + 2) (e + 2 + (kbN (bt s (e + 1))).toNat))) = false) (h2 : bt s e = 2) :
    Calls Tryd.prog 78 #[.pointer (some ⟨R, 0, none⟩), .slice ao l.length cap'] w fun ev w' => ev = .returned (.tuple #[.agg #[.int .i64 2, .int .i64 (bt s (e + 1)), .string (s.extract (e + 2) (e + 2 + (kbN (bt s (e + 1))).toNat)), .string ⟨#[]⟩], .nilIface]) ∧ (∃ b', Rdr w' s R B cap b' (e + 2 + (kbN (bt s (e + 1))).toNat)) ∧ w.grownBy w' (some R) := by
  have hRw : R < w.heap.size := cell_lt h.rd.c0
  have ha := h.keep (below_alloc w (.cells #[.int .i64 0, .int .i64 0, .string ⟨#[]⟩, .string ⟨#[]⟩] 47))
  have ga := g.keep (below_alloc w (.cells #[.int .i64 0, .int .i64 0, .string ⟨#[]⟩, .string ⟨#[]⟩] 47))
  have oa : Own4 (w.alloc (.cells #[.int .i64 0, .int .i64 0, .string ⟨#[]⟩, .string ⟨#[]⟩] 47)) w.heap.size := ⟨⟨_, by simp; rfl⟩, ⟨_, by simp; rfl⟩, ⟨_, by simp; rfl⟩, ⟨_, by simp; rfl⟩, by simp, by simp, by simp, by simp⟩
  have hkk : kindB 2 (bt s (e + 1)) = true := by rw [← h2]; exact hk
  go_enter Tryd.func78, Tryd.ntmps78
  go_wp2_with fail
  refine (pc_ok 2 ha (by omega) (by omega)).mono ?_
  rintro ev w1 ⟨rfl, r1, g1⟩
  have o1 := oa.grown (by omega) g1
  have b0 := r1.bs e (by omega)
  have b1 := r1.bs (e + 1) (by omega)
  have t0 := bt_lo s e
  have t1 := bt_lo s (e + 1)
  have hs1 := g1.size
  simp only [World.size_alloc] at hs1
  go_wp2_with fail
  go_quiet (fail)
  go_wp2_with fail
  refine (isKind _ _ _).mono ?_
  rintro ev w2 ⟨rfl, rfl⟩
  have hki := kindB_in hk
  have hk0 : 0 ≤ bt s (e + 1) := hki.2.1
  have hk3 : bt s (e + 1) < 3 := hki.2.2
  have rk := r1.keep (below_drawn _ nq)
  have gk := (ga.grown _hR g1).keep (below_drawn _ nq)
  have ok := o1.keep (below_drawn _ nq)
  have wk : w.grownBy (w1.drewN nq) (some R) := grown_drawn' (grown_start g1) _
  have ik := ((_ho.keep (below_alloc w (.cells #[.int .i64 0, .int .i64 0, .string ⟨#[]⟩, .string ⟨#[]⟩] 47))).grown _hno g1).keep (below_drawn _ nq)
  clear hki
  go_wp2_with fail
  refine (key_ok rk gk _hR hk0 hk3 hs2 hv).mono ?_
  rintro ev w3 ⟨rfl, r3, g3⟩
  have hs3 := g3.size
  have r4 := r3.keep (below_alloc _ (.cells #[.int .i64 (bt s (e + 1)), .string (s.extract (e + 2) (e + 2 + (kbN (bt s (e + 1))).toNat))] 45))
  have o4 := (ok.grown (by omega) g3).keep (below_alloc _ (.cells #[.int .i64 (bt s (e + 1)), .string (s.extract (e + 2) (e + 2 + (kbN (bt s (e + 1))).toNat))] 45))
  have i4 := (ik.grown _hno g3).keep (below_alloc _ (.cells #[.int .i64 (bt s (e + 1)), .string (s.extract (e + 2) (e + 2 + (kbN (bt s (e + 1))).toNat))] 45))
  have g4 := (gk.grown _hR g3).keep (below_alloc _ (.cells #[.int .i64 (bt s (e + 1)), .string (s.extract (e + 2) (e + 2 + (kbN (bt s (e + 1))).toNat))] 45))
  have wk3 := grown_trans wk g3
  go_wp2_with fail
  refine (changed ao cap' l _ _ _ _hl i4).mono ?_
  rintro ev w5 ⟨rfl, q5⟩
  have r5 := r4.keep q5
  have o5 := o4.keep q5
  have g5 := g4.keep q5
  have wk5 : w.grownBy w5 (some R) := grown_trans (grown_alloc wk3 _) (grown_of_below q5)
  have kc0 : w5.cell? ⟨w3.heap.size, 0, none⟩ = some (.int .i64 (bt s (e + 1))) := (q5.cell (p := ⟨w3.heap.size, 0, none⟩) (by simp)).trans (by simp)
  have kc1 : w5.cell? ⟨w3.heap.size, 1, none⟩ = some (.string (s.extract (e + 2) (e + 2 + (kbN (bt s (e + 1))).toNat))) := (q5.cell (p := ⟨w3.heap.size, 1, none⟩) (by simp)).trans (by simp)
  have hs5 := q5.size
  simp only [World.size_alloc] at hs5
  have hB : B < w.heap.size := by have := cell_lt (h.bs e (by omega)); simpa using this
  have r6 := r5.keep (below_alloc _ (.cells #[.int .i64 2, .int .i64 (bt s (e + 1)), .string (s.extract (e + 2) (e + 2 + (kbN (bt s (e + 1))).toNat)), .string ⟨#[]⟩] 47))
  have o6 := o5.keep (below_alloc _ (.cells #[.int .i64 2, .int .i64 (bt s (e + 1)), .string (s.extract (e + 2) (e + 2 + (kbN (bt s (e + 1))).toNat)), .string ⟨#[]⟩] 47))
  obtain ⟨⟨x0, y0⟩, ⟨x1, y1⟩, ⟨x2, y2⟩, ⟨x3, y3⟩, z0, z1, z2, z3⟩ := o6
  have HS : Hid (w.heap.size < w5.heap.size ∧ R < w.heap.size ∧ B < w.heap.size) := ⟨by simp at hs3; omega, hRw, hB⟩
  have HO := o5
  clear hs1 hs3 hs5 hRw hB o5 o4 oa o1 ok
  go_wp2
  obtain ⟨hs6, hRw, hB⟩ := HS.out
  exact bodyPost_ret (v := .tuple #[.agg #[.int .i64 2, .int .i64 (bt s (e + 1)), .string (s.extract (e + 2) (e + 2 + (kbN (bt s (e + 1))).toNat)), .string ⟨#[]⟩], .nilIface]) (by simp [results, Tryd.results78, go_sem, y0, y1, y2, y3]) rfl ⟨rfl, ⟨_, (((r6.set (by simp; omega) (by simp; omega)).set (by simp; omega) (by simp; omega)).set (by simp; omega) (by simp; omega)).set (by simp; omega) (by simp; omega)⟩, grown_new' (grown_new' (grown_new' (grown_new' (grown_alloc wk5 _) (by simp)) (by simp)) (by simp)) (by simp)⟩
set_option maxRecDepth 10000 in
set_option maxHeartbeats 2000000 in
theorem chg_vshort {w : World} {s : ByteArray} {R B cap b e : Nat} {ao : Option Addr} {cap' : Nat} {l : List OpD} (h : Rdr w s R B cap b e) (g : Glob w) (_hR : 2 < R) (_ho : OpsIn w ao l) (_hno : ∀ a, ao = some a → a.block ≠ R) (_hl : l.length ≤ 8) (hs : e + 2 ≤ s.size) (hk : kindB (bt s e) (bt s (e + 1)) = true) (hs2 : e + 2 + (kbN (bt s (e + 1))).toNat ≤ s.size) (hv : keyB (bt s (e + 1)) (s.extract (e + 2) (e + 2 + (kbN (bt s (e + 1))).toNat)) = true) (hy : l.any (sameKey (bt s (e + 1)) (s.extract (e + 2) (e + 2 + (kbN (bt s (e + 1))).toNat))) = false) (h2 : bt s e = 1) (hs3v : s.size < e + 2 + (kbN (bt s (e + 1))).toNat + (vbN (bt s (e + 1))).toNat) :
    Calls Tryd.prog 78 #[.pointer (some ⟨R, 0, none⟩), .slice ao l.length cap'] w fun ev w' => ∃ fb, w.heap.size ≤ fb ∧ ev = .returned (.tuple #[.agg #[.int .i64 1, .int .i64 (bt s (e + 1)), .string (s.extract (e + 2) (e + 2 + (kbN (bt s (e + 1))).toNat)), .string ⟨#[]⟩], .iface 100 (.pointer (some ⟨fb, 0, none⟩))]) ∧ ErrIs w' (.iface 100 (.pointer (some ⟨fb, 0, none⟩))) 1 ((e + 2 + (kbN (bt s (e + 1))).toNat : Nat) : Int) ∧ w.grownBy w' (some R) := by
  have hRw : R < w.heap.size := cell_lt h.rd.c0
  have ha := h.keep (below_alloc w (.cells #[.int .i64 0, .int .i64 0, .string ⟨#[]⟩, .string ⟨#[]⟩] 47))
  have ga := g.keep (below_alloc w (.cells #[.int .i64 0, .int .i64 0, .string ⟨#[]⟩, .string ⟨#[]⟩] 47))
  have oa : Own4 (w.alloc (.cells #[.int .i64 0, .int .i64 0, .string ⟨#[]⟩, .string ⟨#[]⟩] 47)) w.heap.size := ⟨⟨_, by simp; rfl⟩, ⟨_, by simp; rfl⟩, ⟨_, by simp; rfl⟩, ⟨_, by simp; rfl⟩, by simp, by simp, by simp, by simp⟩
  have hkk : kindB 1 (bt s (e + 1)) = true := by rw [← h2]; exact hk
  go_enter Tryd.func78, Tryd.ntmps78
  go_wp2_with fail
  refine (pc_ok 2 ha (by omega) (by omega)).mono ?_
  rintro ev w1 ⟨rfl, r1, g1⟩
  have o1 := oa.grown (by omega) g1
  have b0 := r1.bs e (by omega)
  have b1 := r1.bs (e + 1) (by omega)
  have t0 := bt_lo s e
  have t1 := bt_lo s (e + 1)
  have hs1 := g1.size
  simp only [World.size_alloc] at hs1
  go_wp2_with fail
  go_quiet (fail)
  go_wp2_with fail
  refine (isKind _ _ _).mono ?_
  rintro ev w2 ⟨rfl, rfl⟩
  have hki := kindB_in hk
  have hk0 : 0 ≤ bt s (e + 1) := hki.2.1
  have hk3 : bt s (e + 1) < 3 := hki.2.2
  have rk := r1.keep (below_drawn _ nq)
  have gk := (ga.grown _hR g1).keep (below_drawn _ nq)
  have ok := o1.keep (below_drawn _ nq)
  have wk : w.grownBy (w1.drewN nq) (some R) := grown_drawn' (grown_start g1) _
  have ik := ((_ho.keep (below_alloc w (.cells #[.int .i64 0, .int .i64 0, .string ⟨#[]⟩, .string ⟨#[]⟩] 47))).grown _hno g1).keep (below_drawn _ nq)
  clear hki
  go_wp2_with fail
  refine (key_ok rk gk _hR hk0 hk3 hs2 hv).mono ?_
  rintro ev w3 ⟨rfl, r3, g3⟩
  have hs3 := g3.size
  have r4 := r3.keep (below_alloc _ (.cells #[.int .i64 (bt s (e + 1)), .string (s.extract (e + 2) (e + 2 + (kbN (bt s (e + 1))).toNat))] 45))
  have o4 := (ok.grown (by omega) g3).keep (below_alloc _ (.cells #[.int .i64 (bt s (e + 1)), .string (s.extract (e + 2) (e + 2 + (kbN (bt s (e + 1))).toNat))] 45))
  have i4 := (ik.grown _hno g3).keep (below_alloc _ (.cells #[.int .i64 (bt s (e + 1)), .string (s.extract (e + 2) (e + 2 + (kbN (bt s (e + 1))).toNat))] 45))
  have g4 := (gk.grown _hR g3).keep (below_alloc _ (.cells #[.int .i64 (bt s (e + 1)), .string (s.extract (e + 2) (e + 2 + (kbN (bt s (e + 1))).toNat))] 45))
  have wk3 := grown_trans wk g3
  go_wp2_with fail
  refine (changed ao cap' l _ _ _ _hl i4).mono ?_
  rintro ev w5 ⟨rfl, q5⟩
  have r5 := r4.keep q5
  have o5 := o4.keep q5
  have g5 := g4.keep q5
  have wk5 : w.grownBy w5 (some R) := grown_trans (grown_alloc wk3 _) (grown_of_below q5)
  have kc0 : w5.cell? ⟨w3.heap.size, 0, none⟩ = some (.int .i64 (bt s (e + 1))) := (q5.cell (p := ⟨w3.heap.size, 0, none⟩) (by simp)).trans (by simp)
  have kc1 : w5.cell? ⟨w3.heap.size, 1, none⟩ = some (.string (s.extract (e + 2) (e + 2 + (kbN (bt s (e + 1))).toNat))) := (q5.cell (p := ⟨w3.heap.size, 1, none⟩) (by simp)).trans (by simp)
  have hs5 := q5.size
  simp only [World.size_alloc] at hs5
  have hB : B < w.heap.size := by have := cell_lt (h.bs e (by omega)); simpa using this
  have r6 := r5.keep (below_alloc _ (.cells #[.int .i64 1, .int .i64 (bt s (e + 1)), .string (s.extract (e + 2) (e + 2 + (kbN (bt s (e + 1))).toNat)), .string ⟨#[]⟩] 47))
  have o6 := o5.keep (below_alloc _ (.cells #[.int .i64 1, .int .i64 (bt s (e + 1)), .string (s.extract (e + 2) (e + 2 + (kbN (bt s (e + 1))).toNat)), .string ⟨#[]⟩] 47))
  have g6 := g5.keep (below_alloc _ (.cells #[.int .i64 1, .int .i64 (bt s (e + 1)), .string (s.extract (e + 2) (e + 2 + (kbN (bt s (e + 1))).toNat)), .string ⟨#[]⟩] 47))
  have wk6 := grown_alloc wk5 (.cells #[.int .i64 1, .int .i64 (bt s (e + 1)), .string (s.extract (e + 2) (e + 2 + (kbN (bt s (e + 1))).toNat)), .string ⟨#[]⟩] 47)
  have hs6 : w.heap.size < w5.heap.size := by simp at hs3; omega
  have hR5 : R < w5.heap.size := by omega
  have p6 : Own4 (w5.alloc (.cells #[.int .i64 1, .int .i64 (bt s (e + 1)), .string (s.extract (e + 2) (e + 2 + (kbN (bt s (e + 1))).toNat)), .string ⟨#[]⟩] 47)) w5.heap.size := ⟨⟨_, by simp; rfl⟩, ⟨_, by simp; rfl⟩, ⟨_, by simp; rfl⟩, ⟨_, by simp; rfl⟩, by simp, by simp, by simp, by simp⟩
  have pc0 : (w5.alloc (.cells #[.int .i64 1, .int .i64 (bt s (e + 1)), .string (s.extract (e + 2) (e + 2 + (kbN (bt s (e + 1))).toNat)), .string ⟨#[]⟩] 47)).cell? ⟨w5.heap.size, 0, none⟩ = some (.int .i64 1) := by simp
  have pc1 : (w5.alloc (.cells #[.int .i64 1, .int .i64 (bt s (e + 1)), .string (s.extract (e + 2) (e + 2 + (kbN (bt s (e + 1))).toNat)), .string ⟨#[]⟩] 47)).cell? ⟨w5.heap.size, 1, none⟩ = some (.int .i64 (bt s (e + 1))) := by simp
  have pc2 : (w5.alloc (.cells #[.int .i64 1, .int .i64 (bt s (e + 1)), .string (s.extract (e + 2) (e + 2 + (kbN (bt s (e + 1))).toNat)), .string ⟨#[]⟩] 47)).cell? ⟨w5.heap.size, 2, none⟩ = some (.string (s.extract (e + 2) (e + 2 + (kbN (bt s (e + 1))).toNat))) := by simp
  have pc3 : (w5.alloc (.cells #[.int .i64 1, .int .i64 (bt s (e + 1)), .string (s.extract (e + 2) (e + 2 + (kbN (bt s (e + 1))).toNat)), .string ⟨#[]⟩] 47)).cell? ⟨w5.heap.size, 3, none⟩ = some (.string ⟨#[]⟩) := by simp
  have pf3 : (w5.alloc (.cells #[.int .i64 1, .int .i64 (bt s (e + 1)), .string (s.extract (e + 2) (e + 2 + (kbN (bt s (e + 1))).toNat)), .string ⟨#[]⟩] 47)).frozen? ⟨w5.heap.size, 3, none⟩ = false := by simp
  go_wp2_with fail
  refine (val_short r6 g6 _hR hk0 hk3 hs3v).mono ?_
  rintro ev w7 ⟨fb, hfb, rfl, hx, g7⟩
  have qc0 := g7.cell pc0 (by simp; omega)
  have qc1 := g7.cell pc1 (by simp; omega)
  have qc2 := g7.cell pc2 (by simp; omega)
  have qc3 := g7.cell pc3 (by simp; omega)
  have qf3 := (World.frozen?_of_block (g7.block w5.heap.size (by simp) (by simp; omega))).trans pf3
  have o7 := o6.grown (by omega) g7
  obtain ⟨⟨x0, y0⟩, ⟨x1, y1⟩, ⟨x2, y2⟩, ⟨x3, y3⟩, z0, z1, z2, z3⟩ := o7
  have hfb' : w5.heap.size < fb := by simp at hfb; omega
  go_wp2
  exact bodyPost_ret (v := .tuple #[.agg #[.int .i64 1, .int .i64 (bt s (e + 1)), .string (s.extract (e + 2) (e + 2 + (kbN (bt s (e + 1))).toNat)), .string ⟨#[]⟩], .iface 100 (.pointer (some ⟨fb, 0, none⟩))]) (by simp [results, Tryd.results78, go_sem, y0, y1, y2, y3]) rfl ⟨fb, by omega, rfl, ((hx.set (by simp; omega)).set (by simp; omega)).set (by simp; omega) |>.set (by simp; omega) |>.set (by simp; omega), grown_new' (grown_new' (grown_new' (grown_new' (grown_new' (grown_trans wk6 g7) (by simp; omega)) (by simp)) (by simp)) (by simp)) (by simp)⟩
set_option maxRecDepth 10000 in
set_option maxHeartbeats 2000000 in
theorem chg_vbad {w : World} {s : ByteArray} {R B cap b e : Nat} {ao : Option Addr} {cap' : Nat} {l : List OpD} (h : Rdr w s R B cap b e) (g : Glob w) (_hR : 2 < R) (_ho : OpsIn w ao l) (_hno : ∀ a, ao = some a → a.block ≠ R) (_hl : l.length ≤ 8) (hs : e + 2 ≤ s.size) (hk : kindB (bt s e) (bt s (e + 1)) = true) (hs2 : e + 2 + (kbN (bt s (e + 1))).toNat ≤ s.size) (hv : keyB (bt s (e + 1)) (s.extract (e + 2) (e + 2 + (kbN (bt s (e + 1))).toNat)) = true) (hy : l.any (sameKey (bt s (e + 1)) (s.extract (e + 2) (e + 2 + (kbN (bt s (e + 1))).toNat))) = false) (h2 : bt s e = 1) (hs3v : e + 2 + (kbN (bt s (e + 1))).toNat + (vbN (bt s (e + 1))).toNat ≤ s.size) (hvv : valB (bt s (e + 1)) (s.extract (e + 2 + (kbN (bt s (e + 1))).toNat) (e + 2 + (kbN (bt s (e + 1))).toNat + (vbN (bt s (e + 1))).toNat)) = false) :
    Calls Tryd.prog 78 #[.pointer (some ⟨R, 0, none⟩), .slice ao l.length cap'] w fun ev w' => ∃ fb, w.heap.size ≤ fb ∧ ev = .returned (.tuple #[.agg #[.int .i64 1, .int .i64 (bt s (e + 1)), .string (s.extract (e + 2) (e + 2 + (kbN (bt s (e + 1))).toNat)), .string ⟨#[]⟩], .iface 100 (.pointer (some ⟨fb, 0, none⟩))]) ∧ ErrIs w' (.iface 100 (.pointer (some ⟨fb, 0, none⟩))) 9 ((e + 2 + (kbN (bt s (e + 1))).toNat : Nat) : Int) ∧ w.grownBy w' (some R) := by
  have hRw : R < w.heap.size := cell_lt h.rd.c0
  have ha := h.keep (below_alloc w (.cells #[.int .i64 0, .int .i64 0, .string ⟨#[]⟩, .string ⟨#[]⟩] 47))
  have ga := g.keep (below_alloc w (.cells #[.int .i64 0, .int .i64 0, .string ⟨#[]⟩, .string ⟨#[]⟩] 47))
  have oa : Own4 (w.alloc (.cells #[.int .i64 0, .int .i64 0, .string ⟨#[]⟩, .string ⟨#[]⟩] 47)) w.heap.size := ⟨⟨_, by simp; rfl⟩, ⟨_, by simp; rfl⟩, ⟨_, by simp; rfl⟩, ⟨_, by simp; rfl⟩, by simp, by simp, by simp, by simp⟩
  have hkk : kindB 1 (bt s (e + 1)) = true := by rw [← h2]; exact hk
  go_enter Tryd.func78, Tryd.ntmps78
  go_wp2_with fail
  refine (pc_ok 2 ha (by omega) (by omega)).mono ?_
  rintro ev w1 ⟨rfl, r1, g1⟩
  have o1 := oa.grown (by omega) g1
  have b0 := r1.bs e (by omega)
  have b1 := r1.bs (e + 1) (by omega)
  have t0 := bt_lo s e
  have t1 := bt_lo s (e + 1)
  have hs1 := g1.size
  simp only [World.size_alloc] at hs1
  go_wp2_with fail
  go_quiet (fail)
  go_wp2_with fail
  refine (isKind _ _ _).mono ?_
  rintro ev w2 ⟨rfl, rfl⟩
  have hki := kindB_in hk
  have hk0 : 0 ≤ bt s (e + 1) := hki.2.1
  have hk3 : bt s (e + 1) < 3 := hki.2.2
  have rk := r1.keep (below_drawn _ nq)
  have gk := (ga.grown _hR g1).keep (below_drawn _ nq)
  have ok := o1.keep (below_drawn _ nq)
  have wk : w.grownBy (w1.drewN nq) (some R) := grown_drawn' (grown_start g1) _
  have ik := ((_ho.keep (below_alloc w (.cells #[.int .i64 0, .int .i64 0, .string ⟨#[]⟩, .string ⟨#[]⟩] 47))).grown _hno g1).keep (below_drawn _ nq)
  clear hki
  go_wp2_with fail
  refine (key_ok rk gk _hR hk0 hk3 hs2 hv).mono ?_
  rintro ev w3 ⟨rfl, r3, g3⟩
  have hs3 := g3.size
  have r4 := r3.keep (below_alloc _ (.cells #[.int .i64 (bt s (e + 1)), .string (s.extract (e + 2) (e + 2 + (kbN (bt s (e + 1))).toNat))] 45))
  have o4 := (ok.grown (by omega) g3).keep (below_alloc _ (.cells #[.int .i64 (bt s (e + 1)), .string (s.extract (e + 2) (e + 2 + (kbN (bt s (e + 1))).toNat))] 45))
  have i4 := (ik.grown _hno g3).keep (below_alloc _ (.cells #[.int .i64 (bt s (e + 1)), .string (s.extract (e + 2) (e + 2 + (kbN (bt s (e + 1))).toNat))] 45))
  have g4 := (gk.grown _hR g3).keep (below_alloc _ (.cells #[.int .i64 (bt s (e + 1)), .string (s.extract (e + 2) (e + 2 + (kbN (bt s (e + 1))).toNat))] 45))
  have wk3 := grown_trans wk g3
  go_wp2_with fail
  refine (changed ao cap' l _ _ _ _hl i4).mono ?_
  rintro ev w5 ⟨rfl, q5⟩
  have r5 := r4.keep q5
  have o5 := o4.keep q5
  have g5 := g4.keep q5
  have wk5 : w.grownBy w5 (some R) := grown_trans (grown_alloc wk3 _) (grown_of_below q5)
  have kc0 : w5.cell? ⟨w3.heap.size, 0, none⟩ = some (.int .i64 (bt s (e + 1))) := (q5.cell (p := ⟨w3.heap.size, 0, none⟩) (by simp)).trans (by simp)
  have kc1 : w5.cell? ⟨w3.heap.size, 1, none⟩ = some (.string (s.extract (e + 2) (e + 2 + (kbN (bt s (e + 1))).toNat))) := (q5.cell (p := ⟨w3.heap.size, 1, none⟩) (by simp)).trans (by simp)
  have hs5 := q5.size
  simp only [World.size_alloc] at hs5
  have hB : B < w.heap.size := by have := cell_lt (h.bs e (by omega)); simpa using this
  have r6 := r5.keep (below_alloc _ (.cells #[.int .i64 1, .int .i64 (bt s (e + 1)), .string (s.extract (e + 2) (e + 2 + (kbN (bt s (e + 1))).toNat)), .string ⟨#[]⟩] 47))
  have o6 := o5.keep (below_alloc _ (.cells #[.int .i64 1, .int .i64 (bt s (e + 1)), .string (s.extract (e + 2) (e + 2 + (kbN (bt s (e + 1))).toNat)), .string ⟨#[]⟩] 47))
  have g6 := g5.keep (below_alloc _ (.cells #[.int .i64 1, .int .i64 (bt s (e + 1)), .string (s.extract (e + 2) (e + 2 + (kbN (bt s (e + 1))).toNat)), .string ⟨#[]⟩] 47))
  have wk6 := grown_alloc wk5 (.cells #[.int .i64 1, .int .i64 (bt s (e + 1)), .string (s.extract (e + 2) (e + 2 + (kbN (bt s (e + 1))).toNat)), .string ⟨#[]⟩] 47)
  have hs6 : w.heap.size < w5.heap.size := by simp at hs3; omega
  have hR5 : R < w5.heap.size := by omega
  have p6 : Own4 (w5.alloc (.cells #[.int .i64 1, .int .i64 (bt s (e + 1)), .string (s.extract (e + 2) (e + 2 + (kbN (bt s (e + 1))).toNat)), .string ⟨#[]⟩] 47)) w5.heap.size := ⟨⟨_, by simp; rfl⟩, ⟨_, by simp; rfl⟩, ⟨_, by simp; rfl⟩, ⟨_, by simp; rfl⟩, by simp, by simp, by simp, by simp⟩
  have pc0 : (w5.alloc (.cells #[.int .i64 1, .int .i64 (bt s (e + 1)), .string (s.extract (e + 2) (e + 2 + (kbN (bt s (e + 1))).toNat)), .string ⟨#[]⟩] 47)).cell? ⟨w5.heap.size, 0, none⟩ = some (.int .i64 1) := by simp
  have pc1 : (w5.alloc (.cells #[.int .i64 1, .int .i64 (bt s (e + 1)), .string (s.extract (e + 2) (e + 2 + (kbN (bt s (e + 1))).toNat)), .string ⟨#[]⟩] 47)).cell? ⟨w5.heap.size, 1, none⟩ = some (.int .i64 (bt s (e + 1))) := by simp
  have pc2 : (w5.alloc (.cells #[.int .i64 1, .int .i64 (bt s (e + 1)), .string (s.extract (e + 2) (e + 2 + (kbN (bt s (e + 1))).toNat)), .string ⟨#[]⟩] 47)).cell? ⟨w5.heap.size, 2, none⟩ = some (.string (s.extract (e + 2) (e + 2 + (kbN (bt s (e + 1))).toNat))) := by simp
  have pc3 : (w5.alloc (.cells #[.int .i64 1, .int .i64 (bt s (e + 1)), .string (s.extract (e + 2) (e + 2 + (kbN (bt s (e + 1))).toNat)), .string ⟨#[]⟩] 47)).cell? ⟨w5.heap.size, 3, none⟩ = some (.string ⟨#[]⟩) := by simp
  have pf3 : (w5.alloc (.cells #[.int .i64 1, .int .i64 (bt s (e + 1)), .string (s.extract (e + 2) (e + 2 + (kbN (bt s (e + 1))).toNat)), .string ⟨#[]⟩] 47)).frozen? ⟨w5.heap.size, 3, none⟩ = false := by simp
  go_wp2_with fail
  refine (val_bad r6 g6 _hR hk0 hk3 hs3v hvv).mono ?_
  rintro ev w7 ⟨fb, hfb, rfl, hx, g7⟩
  have qc0 := g7.cell pc0 (by simp; omega)
  have qc1 := g7.cell pc1 (by simp; omega)
  have qc2 := g7.cell pc2 (by simp; omega)
  have qc3 := g7.cell pc3 (by simp; omega)
  have qf3 := (World.frozen?_of_block (g7.block w5.heap.size (by simp) (by simp; omega))).trans pf3
  have o7 := o6.grown (by omega) g7
  obtain ⟨⟨x0, y0⟩, ⟨x1, y1⟩, ⟨x2, y2⟩, ⟨x3, y3⟩, z0, z1, z2, z3⟩ := o7
  have hfb' : w5.heap.size < fb := by simp at hfb; omega
  go_wp2
  exact bodyPost_ret (v := .tuple #[.agg #[.int .i64 1, .int .i64 (bt s (e + 1)), .string (s.extract (e + 2) (e + 2 + (kbN (bt s (e + 1))).toNat)), .string ⟨#[]⟩], .iface 100 (.pointer (some ⟨fb, 0, none⟩))]) (by simp [results, Tryd.results78, go_sem, y0, y1, y2, y3]) rfl ⟨fb, by omega, rfl, ((hx.set (by simp; omega)).set (by simp; omega)).set (by simp; omega) |>.set (by simp; omega) |>.set (by simp; omega), grown_new' (grown_new' (grown_new' (grown_new' (grown_new' (grown_trans wk6 g7) (by simp; omega)) (by simp)) (by simp)) (by simp)) (by simp)⟩
set_option maxRecDepth 10000 in
set_option maxHeartbeats 2000000 in
theorem chg_put {w : World} {s : ByteArray} {R B cap b e : Nat} {ao : Option Addr} {cap' : Nat} {l : List OpD} (h : Rdr w s R B cap b e) (g : Glob w) (_hR : 2 < R) (_ho : OpsIn w ao l) (_hno : ∀ a, ao = some a → a.block ≠ R) (_hl : l.length ≤ 8) (hs : e + 2 ≤ s.size) (hk : kindB (bt s e) (bt s (e + 1)) = true) (hs2 : e + 2 + (kbN (bt s (e + 1))).toNat ≤ s.size) (hv : keyB (bt s (e + 1)) (s.extract (e + 2) (e + 2 + (kbN (bt s (e + 1))).toNat)) = true) (hy : l.any (sameKey (bt s (e + 1)) (s.extract (e + 2) (e + 2 + (kbN (bt s (e + 1))).toNat))) = false) (h2 : bt s e = 1) (hs3v : e + 2 + (kbN (bt s (e + 1))).toNat + (vbN (bt s (e + 1))).toNat ≤ s.size) (hvv : valB (bt s (e + 1)) (s.extract (e + 2 + (kbN (bt s (e + 1))).toNat) (e + 2 + (kbN (bt s (e + 1))).toNat + (vbN (bt s (e + 1))).toNat)) = true) :
    Calls Tryd.prog 78 #[.pointer (some ⟨R, 0, none⟩), .slice ao l.length cap'] w fun ev w' => ev = .returned (.tuple #[.agg #[.int .i64 1, .int .i64 (bt s (e + 1)), .string (s.extract (e + 2) (e + 2 + (kbN (bt s (e + 1))).toNat)), .string (s.extract (e + 2 + (kbN (bt s (e + 1))).toNat) (e + 2 + (kbN (bt s (e + 1))).toNat + (vbN (bt s (e + 1))).toNat))], .nilIface]) ∧ (∃ b', Rdr w' s R B cap b' (e + 2 + (kbN (bt s (e + 1))).toNat + (vbN (bt s (e + 1))).toNat)) ∧ w.grownBy w' (some R) := by
  have hRw : R < w.heap.size := cell_lt h.rd.c0
  have ha := h.keep (below_alloc w (.cells #[.int .i64 0, .int .i64 0, .string ⟨#[]⟩, .string ⟨#[]⟩] 47))
  have ga := g.keep (below_alloc w (.cells #[.int .i64 0, .int .i64 0, .string ⟨#[]⟩, .string ⟨#[]⟩] 47))
  have oa : Own4 (w.alloc (.cells #[.int .i64 0, .int .i64 0, .string ⟨#[]⟩, .string ⟨#[]⟩] 47)) w.heap.size := ⟨⟨_, by simp; rfl⟩, ⟨_, by simp; rfl⟩, ⟨_, by simp; rfl⟩, ⟨_, by simp; rfl⟩, by simp, by simp, by simp, by simp⟩
  have hkk : kindB 1 (bt s (e + 1)) = true := by rw [← h2]; exact hk
  go_enter Tryd.func78, Tryd.ntmps78
  go_wp2_with fail
  refine (pc_ok 2 ha (by omega) (by omega)).mono ?_
  rintro ev w1 ⟨rfl, r1, g1⟩
  have o1 := oa.grown (by omega) g1
  have b0 := r1.bs e (by omega)
  have b1 := r1.bs (e + 1) (by omega)
  have t0 := bt_lo s e
  have t1 := bt_lo s (e + 1)
  have hs1 := g1.size
  simp only [World.size_alloc] at hs1
  go_wp2_with fail
  go_quiet (fail)
  go_wp2_with fail
  refine (isKind _ _ _).mono ?_
  rintro ev w2 ⟨rfl, rfl⟩
  have hki := kindB_in hk
  have hk0 : 0 ≤ bt s (e + 1) := hki.2.1
  have hk3 : bt s (e + 1) < 3 := hki.2.2
  have rk := r1.keep (below_drawn _ nq)
  have gk := (ga.grown _hR g1).keep (below_drawn _ nq)
  have ok := o1.keep (below_drawn _ nq)
  have wk : w.grownBy (w1.drewN nq) (some R) := grown_drawn' (grown_start g1) _
  have ik := ((_ho.keep (below_alloc w (.cells #[.int .i64 0, .int .i64 0, .string ⟨#[]⟩, .string ⟨#[]⟩] 47))).grown _hno g1).keep (below_drawn _ nq)
  clear hki
  go_wp2_with fail
  refine (key_ok rk gk _hR hk0 hk3 hs2 hv).mono ?_
  rintro ev w3 ⟨rfl, r3, g3⟩
  have hs3 := g3.size
  have r4 := r3.keep (below_alloc _ (.cells #[.int .i64 (bt s (e + 1)), .string (s.extract (e + 2) (e + 2 + (kbN (bt s (e + 1))).toNat))] 45))
  have o4 := (ok.grown (by omega) g3).keep (below_alloc _ (.cells #[.int .i64 (bt s (e + 1)), .string (s.extract (e + 2) (e + 2 + (kbN (bt s (e + 1))).toNat))] 45))
  have i4 := (ik.grown _hno g3).keep (below_alloc _ (.cells #[.int .i64 (bt s (e + 1)), .string (s.extract (e + 2) (e + 2 + (kbN (bt s (e + 1))).toNat))] 45))
  have g4 := (gk.grown _hR g3).keep (below_alloc _ (.cells #[.int .i64 (bt s (e + 1)), .string (s.extract (e + 2) (e + 2 + (kbN (bt s (e + 1))).toNat))] 45))
  have wk3 := grown_trans wk g3
  go_wp2_with fail
  refine (changed ao cap' l _ _ _ _hl i4).mono ?_
  rintro ev w5 ⟨rfl, q5⟩
  have r5 := r4.keep q5
  have o5 := o4.keep q5
  have g5 := g4.keep q5
  have wk5 : w.grownBy w5 (some R) := grown_trans (grown_alloc wk3 _) (grown_of_below q5)
  have kc0 : w5.cell? ⟨w3.heap.size, 0, none⟩ = some (.int .i64 (bt s (e + 1))) := (q5.cell (p := ⟨w3.heap.size, 0, none⟩) (by simp)).trans (by simp)
  have kc1 : w5.cell? ⟨w3.heap.size, 1, none⟩ = some (.string (s.extract (e + 2) (e + 2 + (kbN (bt s (e + 1))).toNat))) := (q5.cell (p := ⟨w3.heap.size, 1, none⟩) (by simp)).trans (by simp)
  have hs5 := q5.size
  simp only [World.size_alloc] at hs5
  have hB : B < w.heap.size := by have := cell_lt (h.bs e (by omega)); simpa using this
  have r6 := r5.keep (below_alloc _ (.cells #[.int .i64 1, .int .i64 (bt s (e + 1)), .string (s.extract (e + 2) (e + 2 + (kbN (bt s (e + 1))).toNat)), .string ⟨#[]⟩] 47))
  have o6 := o5.keep (below_alloc _ (.cells #[.int .i64 1, .int .i64 (bt s (e + 1)), .string (s.extract (e + 2) (e + 2 + (kbN (bt s (e + 1))).toNat)), .string ⟨#[]⟩] 47))
  have g6 := g5.keep (below_alloc _ (.cells #[.int .i64 1, .int .i64 (bt s (e + 1)), .string (s.extract (e + 2) (e + 2 + (kbN (bt s (e + 1))).toNat)), .string ⟨#[]⟩] 47))
  have wk6 := grown_alloc wk5 (.cells #[.int .i64 1, .int .i64 (bt s (e + 1)), .string (s.extract (e + 2) (e + 2 + (kbN (bt s (e + 1))).toNat)), .string ⟨#[]⟩] 47)
  have hs6 : w.heap.size < w5.heap.size := by simp at hs3; omega
  have hR5 : R < w5.heap.size := by omega
  have p6 : Own4 (w5.alloc (.cells #[.int .i64 1, .int .i64 (bt s (e + 1)), .string (s.extract (e + 2) (e + 2 + (kbN (bt s (e + 1))).toNat)), .string ⟨#[]⟩] 47)) w5.heap.size := ⟨⟨_, by simp; rfl⟩, ⟨_, by simp; rfl⟩, ⟨_, by simp; rfl⟩, ⟨_, by simp; rfl⟩, by simp, by simp, by simp, by simp⟩
  have pc0 : (w5.alloc (.cells #[.int .i64 1, .int .i64 (bt s (e + 1)), .string (s.extract (e + 2) (e + 2 + (kbN (bt s (e + 1))).toNat)), .string ⟨#[]⟩] 47)).cell? ⟨w5.heap.size, 0, none⟩ = some (.int .i64 1) := by simp
  have pc1 : (w5.alloc (.cells #[.int .i64 1, .int .i64 (bt s (e + 1)), .string (s.extract (e + 2) (e + 2 + (kbN (bt s (e + 1))).toNat)), .string ⟨#[]⟩] 47)).cell? ⟨w5.heap.size, 1, none⟩ = some (.int .i64 (bt s (e + 1))) := by simp
  have pc2 : (w5.alloc (.cells #[.int .i64 1, .int .i64 (bt s (e + 1)), .string (s.extract (e + 2) (e + 2 + (kbN (bt s (e + 1))).toNat)), .string ⟨#[]⟩] 47)).cell? ⟨w5.heap.size, 2, none⟩ = some (.string (s.extract (e + 2) (e + 2 + (kbN (bt s (e + 1))).toNat))) := by simp
  have pc3 : (w5.alloc (.cells #[.int .i64 1, .int .i64 (bt s (e + 1)), .string (s.extract (e + 2) (e + 2 + (kbN (bt s (e + 1))).toNat)), .string ⟨#[]⟩] 47)).cell? ⟨w5.heap.size, 3, none⟩ = some (.string ⟨#[]⟩) := by simp
  have pf3 : (w5.alloc (.cells #[.int .i64 1, .int .i64 (bt s (e + 1)), .string (s.extract (e + 2) (e + 2 + (kbN (bt s (e + 1))).toNat)), .string ⟨#[]⟩] 47)).frozen? ⟨w5.heap.size, 3, none⟩ = false := by simp
  go_wp2_with fail
  refine (val_ok r6 g6 _hR hk0 hk3 hs3v hvv).mono ?_
  rintro ev w7 ⟨rfl, r7, g7⟩
  have qc0 := g7.cell pc0 (by simp; omega)
  have qc1 := g7.cell pc1 (by simp; omega)
  have qc2 := g7.cell pc2 (by simp; omega)
  have qc3 := g7.cell pc3 (by simp; omega)
  have qf3 := (World.frozen?_of_block (g7.block w5.heap.size (by simp) (by simp; omega))).trans pf3
  have o7 := o6.grown (by omega) g7
  obtain ⟨⟨x0, y0⟩, ⟨x1, y1⟩, ⟨x2, y2⟩, ⟨x3, y3⟩, z0, z1, z2, z3⟩ := o7
  go_wp2
  exact bodyPost_ret (v := .tuple #[.agg #[.int .i64 1, .int .i64 (bt s (e + 1)), .string (s.extract (e + 2) (e + 2 + (kbN (bt s (e + 1))).toNat)), .string (s.extract (e + 2 + (kbN (bt s (e + 1))).toNat) (e + 2 + (kbN (bt s (e + 1))).toNat + (vbN (bt s (e + 1))).toNat))], .nilIface]) (by simp [results, Tryd.results78, go_sem, y0, y1, y2, y3]) rfl ⟨rfl, ⟨_, ((((r7.set (by simp; omega) (by simp; omega)).set (by simp; omega) (by simp; omega)).set (by simp; omega) (by simp; omega)).set (by simp; omega) (by simp; omega)).set (by simp; omega) (by simp; omega)⟩, grown_new' (grown_new' (grown_new' (grown_new' (grown_new' (grown_trans wk6 g7) (by simp; omega)) (by simp)) (by simp)) (by simp)) (by simp)⟩
end Go.Proofs.YtindifjhocgkbaaDoor
