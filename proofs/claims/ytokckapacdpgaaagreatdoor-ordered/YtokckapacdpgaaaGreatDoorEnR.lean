import Derived.Test.YtokckapacdpgaaaGreatDoorBeh
import Derived.Test.YtokckapacdpgaaaGreatDoorTbl
namespace Go.Proofs.YtokckapacdpgaaaGreatDoor
open Go.RowKit

/-- A block of three cells that may be written. -/
structure Own3 (w : World) (b : Nat) : Prop where
  e0 : ∃ v, w.cell? ⟨b, 0, none⟩ = some v
  e1 : ∃ v, w.cell? ⟨b, 1, none⟩ = some v
  e2 : ∃ v, w.cell? ⟨b, 2, none⟩ = some v
  f0 : w.frozen? ⟨b, 0, none⟩ = false
  f1 : w.frozen? ⟨b, 1, none⟩ = false
  f2 : w.frozen? ⟨b, 2, none⟩ = false
theorem Own3.lt {w : World} {b : Nat} (h : Own3 w b) : b < w.heap.size := by obtain ⟨v, h⟩ := h.e0; exact cell_lt h
theorem Own3.grown {w w' : World} {b : Nat} {r : Option Nat} (h : Own3 w b) (hn : some b ≠ r) (g : w.grownBy w' r) : Own3 w' b := by
  have hb := h.lt
  have hf : ∀ o, w'.frozen? ⟨b, o, none⟩ = w.frozen? ⟨b, o, none⟩ := fun o => World.frozen?_of_block (g.block b hb hn)
  obtain ⟨⟨a0, h0⟩, ⟨a1, h1⟩, ⟨a2, h2⟩, f0, f1, f2⟩ := h
  exact ⟨⟨a0, g.cell h0 hn⟩, ⟨a1, g.cell h1 hn⟩, ⟨a2, g.cell h2 hn⟩, (hf _).trans f0, (hf _).trans f1, (hf _).trans f2⟩
theorem Own3.keep {w w' : World} {b : Nat} (h : Own3 w b) (q : Below w.heap.size w w') : Own3 w' b := h.grown (r := none) (by simp) (grown_of_below q)
theorem own3_new (w : World) (x y z : Value) (t : TypeId) : Own3 (w.alloc (.cells #[x, y, z] t)) w.heap.size := ⟨⟨_, by simp; rfl⟩, ⟨_, by simp; rfl⟩, ⟨_, by simp; rfl⟩, by simp, by simp, by simp⟩

set_option maxRecDepth 10000 in
set_option maxHeartbeats 2000000 in
theorem ent_tab {w : World} {s : ByteArray} {R B cap b e : Nat} {v : Value} {l : List En} (h : Rdr w s R B cap b e) (hI : EnsIn w v l) (hs : s.size < e + 1 ∨ (e + 1 ≤ s.size ∧ tabB (bt s e) = false)) :
    Calls Tryz.prog 129 #[.pointer (some ⟨R, 0, none⟩), v] w fun ev w' => ∃ fb, w.heap.size ≤ fb ∧ ev = .returned (.tuple #[.agg #[.int .i64 0, .string ⟨#[]⟩, .string ⟨#[]⟩], .iface 133 (.pointer (some ⟨fb, 0, none⟩))]) ∧ ErrIs w' (.iface 133 (.pointer (some ⟨fb, 0, none⟩))) (if s.size < e + 1 then 1 else 6) (e : Int) ∧ w.grownBy w' (some R) := by
  have hRw : R < w.heap.size := cell_lt h.rd.c0
  obtain ⟨ao, cp, rfl⟩ := hI.slice
  have hcall : ∀ w1 b, Rdr w1 s R B cap b e → Calls Tryz.prog 143 #[.pointer (some ⟨R, 0, none⟩)] w1 fun ev w' => ∃ fb, w1.heap.size ≤ fb ∧ ev = .returned (.tuple #[.int .i64 0, .iface 133 (.pointer (some ⟨fb, 0, none⟩))]) ∧ ErrIs w' (.iface 133 (.pointer (some ⟨fb, 0, none⟩))) (if s.size < e + 1 then 1 else 6) (e : Int) ∧ w1.grownBy w' (some R) := by
    intro w1 b r1
    rcases hs with h1 | ⟨h1, h2⟩
    · rw [if_pos h1]; exact tab_short r1 (by omega)
    · rw [if_neg (by omega)]; exact tab_bad r1 (by omega) h2
  generalize (if s.size < e + 1 then (1 : Int) else 6) = kk at hcall ⊢
  have ha := h.keep (below_alloc w (.cells #[.int .i64 0, .string ⟨#[]⟩, .string ⟨#[]⟩] 183))
  have oa := own3_new w (.int .i64 0) (.string ⟨#[]⟩) (.string ⟨#[]⟩) 183
  go_enter Tryz.func129, Tryz.ntmps129
  go_wp2_with fail
  refine (hcall _ _ ha).mono ?_
  clear hcall
  rintro ev w1 ⟨fb, hfb, rfl, hx, g1⟩
  have o1 := oa.grown (by simp; omega) g1
  obtain ⟨⟨x0, y0⟩, ⟨x1, y1⟩, ⟨x2, y2⟩, z0, z1, z2⟩ := o1
  have hfb' : w.heap.size < fb := by simp at hfb; omega
  go_wp2
  exact bodyPost_ret (v := .tuple #[.agg #[.int .i64 0, .string ⟨#[]⟩, .string ⟨#[]⟩], .iface 133 (.pointer (some ⟨fb, 0, none⟩))]) (by simp [results, Tryz.results129, go_sem, y0, y1, y2]) rfl ⟨fb, by omega, rfl, (hx.set (by simp; omega)).set (by simp; omega) |>.set (by simp; omega), grown_new' (grown_new' (grown_new' (grown_start g1) (by simp)) (by simp)) (by simp)⟩
set_option maxRecDepth 10000 in
set_option maxHeartbeats 2000000 in
theorem ent_key {w : World} {s : ByteArray} {R B cap b e : Nat} {v : Value} {l : List En} (h : Rdr w s R B cap b e) (g : Glob w) (hR : 2 < R) (hI : EnsIn w v l) (hno : ∀ b off n c, v = .slice (some ⟨b, off, none⟩) n c → b ≠ R) (_hl : l.length ≤ 1000000) (h1 : e + 1 ≤ s.size) (ht : tabB (bt s e) = true) (hs : s.size < e + 1 + (kbN (bt s e)).toNat ∨ (e + 1 + (kbN (bt s e)).toNat ≤ s.size ∧ keyB (bt s e) (s.extract (e + 1) (e + 1 + (kbN (bt s e)).toNat)) = false)) :
    Calls Tryz.prog 129 #[.pointer (some ⟨R, 0, none⟩), v] w fun ev w' => ∃ fb, w.heap.size ≤ fb ∧ ev = .returned (.tuple #[.agg #[.int .i64 0, .string ⟨#[]⟩, .string ⟨#[]⟩], .iface 133 (.pointer (some ⟨fb, 0, none⟩))]) ∧ ErrIs w' (.iface 133 (.pointer (some ⟨fb, 0, none⟩))) (if s.size < e + 1 + (kbN (bt s e)).toNat then 1 else 7) ((e + 1 : Nat) : Int) ∧ w.grownBy w' (some R) := by
  have hRw : R < w.heap.size := cell_lt h.rd.c0
  obtain ⟨ao, cp, rfl⟩ := hI.slice
  have ht0 : 0 ≤ bt s e := by simp [tabB] at ht; omega
  have ht3 : bt s e < 3 := by simp [tabB] at ht; omega
  have ha := h.keep (below_alloc w (.cells #[.int .i64 0, .string ⟨#[]⟩, .string ⟨#[]⟩] 183))
  have ga := g.keep (below_alloc w (.cells #[.int .i64 0, .string ⟨#[]⟩, .string ⟨#[]⟩] 183))
  have ia := hI.keep (below_alloc w (.cells #[.int .i64 0, .string ⟨#[]⟩, .string ⟨#[]⟩] 183))
  have oa := own3_new w (.int .i64 0) (.string ⟨#[]⟩) (.string ⟨#[]⟩) 183
  have hcall : ∀ w1 b, Rdr w1 s R B cap b (e + 1) → Glob w1 → Calls Tryz.prog 144 #[.pointer (some ⟨R, 0, none⟩), .int .i64 (bt s e)] w1 fun ev w' => ∃ fb, w1.heap.size ≤ fb ∧ ev = .returned (.tuple #[.agg #[.int .i64 0, .string ⟨#[]⟩], .iface 133 (.pointer (some ⟨fb, 0, none⟩))]) ∧ ErrIs w' (.iface 133 (.pointer (some ⟨fb, 0, none⟩))) (if s.size < e + 1 + (kbN (bt s e)).toNat then 1 else 7) ((e + 1 : Nat) : Int) ∧ w1.grownBy w' (some R) := by
    intro w1 b r1 g1
    rcases hs with h1 | ⟨h1, h2⟩
    · rw [if_pos h1]; exact key_short r1 g1 hR ht0 ht3 h1
    · rw [if_neg (by omega)]; exact key_bad r1 g1 hR ht0 ht3 h1 h2
  clear hs
  generalize (if s.size < e + 1 + (kbN (bt s e)).toNat then (1 : Int) else 7) = kk at hcall ⊢
  go_enter Tryz.func129, Tryz.ntmps129
  go_wp2_with fail
  refine (tab_ok ha h1 ht).mono ?_
  rintro ev w1 ⟨rfl, r1, g1⟩
  have o1 := oa.grown (by simp; omega) g1
  have gl1 := ga.grown hR g1
  have i1 := ia.grown hno g1
  have wk1 := grown_start g1
  have hs1 := g1.size
  simp only [World.size_alloc] at hs1
  clear g1 ha ga ia oa
  go_wp2_with fail
  refine (hcall _ _ r1 gl1).mono ?_
  clear hcall
  rintro ev w2 ⟨fb, hfb, rfl, hx, g2⟩
  have o2 := (o1.grown (by simp; omega) g2).keep (below_alloc _ (.cells #[.int .i64 0, .string ⟨#[]⟩] 83))
  have hx := hx.keep (below_alloc _ (.cells #[.int .i64 0, .string ⟨#[]⟩] 83))
  have wk2 := grown_alloc (grown_trans wk1 g2) (.cells #[.int .i64 0, .string ⟨#[]⟩] 83)
  obtain ⟨⟨x0, y0⟩, ⟨x1, y1⟩, ⟨x2, y2⟩, z0, z1, z2⟩ := o2
  have hfb' : w.heap.size < fb := by omega
  go_wp2
  exact bodyPost_ret (v := .tuple #[.agg #[.int .i64 0, .string ⟨#[]⟩, .string ⟨#[]⟩], .iface 133 (.pointer (some ⟨fb, 0, none⟩))]) (by simp [results, Tryz.results129, go_sem, y0, y1, y2]) rfl ⟨fb, by omega, rfl, (hx.set (by simp; omega)).set (by simp; omega) |>.set (by simp; omega), grown_new' (grown_new' (grown_new' wk2 (by simp)) (by simp)) (by simp)⟩
set_option maxRecDepth 10000 in
set_option maxHeartbeats 2000000 in
theorem ent_ord {w : World} {s : ByteArray} {R B cap b e : Nat} {v : Value} {l : List En} (h : Rdr w s R B cap b e) (g : Glob w) (hR : 2 < R) (hI : EnsIn w v l) (hno : ∀ b off n c, v = .slice (some ⟨b, off, none⟩) n c → b ≠ R) (hl : l.length ≤ 1000000) (h1 : e + 1 ≤ s.size) (ht : tabB (bt s e) = true) (hk : e + 1 + (kbN (bt s e)).toNat ≤ s.size) (hkb : keyB (bt s e) (s.extract (e + 1) (e + 1 + (kbN (bt s e)).toNat)) = true) (hbe : behind (bt s e) (s.extract (e + 1) (e + 1 + (kbN (bt s e)).toNat)) l = false) :
    Calls Tryz.prog 129 #[.pointer (some ⟨R, 0, none⟩), v] w fun ev w' => ∃ fb, w.heap.size ≤ fb ∧ ev = .returned (.tuple #[.agg #[.int .i64 0, .string ⟨#[]⟩, .string ⟨#[]⟩], .iface 133 (.pointer (some ⟨fb, 0, none⟩))]) ∧ ErrIs w' (.iface 133 (.pointer (some ⟨fb, 0, none⟩))) 14 ((e + 1 : Nat) : Int) ∧ w.grownBy w' (some R) := by
  have hRw : R < w.heap.size := cell_lt h.rd.c0
  obtain ⟨ao, cp, rfl⟩ := hI.slice
  have ht0 : 0 ≤ bt s e := by simp [tabB] at ht; omega
  have ht3 : bt s e < 3 := by simp [tabB] at ht; omega
  have ha := h.keep (below_alloc w (.cells #[.int .i64 0, .string ⟨#[]⟩, .string ⟨#[]⟩] 183))
  have ga := g.keep (below_alloc w (.cells #[.int .i64 0, .string ⟨#[]⟩, .string ⟨#[]⟩] 183))
  have ia := hI.keep (below_alloc w (.cells #[.int .i64 0, .string ⟨#[]⟩, .string ⟨#[]⟩] 183))
  have oa := own3_new w (.int .i64 0) (.string ⟨#[]⟩) (.string ⟨#[]⟩) 183
  go_enter Tryz.func129, Tryz.ntmps129
  go_wp2_with fail
  refine (tab_ok ha h1 ht).mono ?_
  rintro ev w1 ⟨rfl, r1, g1⟩
  have o1 := oa.grown (by simp; omega) g1
  have gl1 := ga.grown hR g1
  have i1 := ia.grown hno g1
  have wk1 := grown_start g1
  have hs1 := g1.size
  simp only [World.size_alloc] at hs1
  clear g1 ha ga ia oa
  go_wp2_with fail
  refine (key_ok r1 gl1 hR ht0 ht3 hk hkb).mono ?_
  rintro ev w2 ⟨rfl, r2, g2⟩
  have hs2 := g2.size
  have qk := below_alloc w2 (.cells #[.int .i64 (bt s e), .string (s.extract (e + 1) (e + 1 + (kbN (bt s e)).toNat))] 83)
  have o3 := (o1.grown (by simp; omega) g2).keep qk
  have r3 := r2.keep qk
  have gl3 := (gl1.grown hR g2).keep qk
  have i3 := (i1.grown hno g2).keep qk
  have wk3 := grown_alloc (grown_trans wk1 g2) (.cells #[.int .i64 (bt s e), .string (s.extract (e + 1) (e + 1 + (kbN (bt s e)).toNat))] 83)
  have kc0 : (w2.alloc (.cells #[.int .i64 (bt s e), .string (s.extract (e + 1) (e + 1 + (kbN (bt s e)).toNat))] 83)).cell? ⟨w2.heap.size, 0, none⟩ = some (.int .i64 (bt s e)) := by simp
  have kc1 : (w2.alloc (.cells #[.int .i64 (bt s e), .string (s.extract (e + 1) (e + 1 + (kbN (bt s e)).toNat))] 83)).cell? ⟨w2.heap.size, 1, none⟩ = some (.string (s.extract (e + 1) (e + 1 + (kbN (bt s e)).toNat))) := by simp
  have hs3 : w2.heap.size < (w2.alloc (.cells #[.int .i64 (bt s e), .string (s.extract (e + 1) (e + 1 + (kbN (bt s e)).toNat))] 83)).heap.size := by simp
  clear qk r2 g2 wk1 o1 gl1 i1 r1
  go_wp2_with fail
  generalize w2.alloc (.cells #[.int .i64 (bt s e), .string (s.extract (e + 1) (e + 1 + (kbN (bt s e)).toNat))] 83) = W3 at *
  refine (wBehind _ l (bt s e) (s.extract (e + 1) (e + 1 + (kbN (bt s e)).toNat)) _ i3 hl).mono ?_
  rintro ev w4 ⟨rfl, q4⟩
  have o4 := o3.keep q4
  have r4 := r3.keep q4
  have gl4 := gl3.keep q4
  have wk4 : w.grownBy w4 (some R) := grown_trans wk3 (grown_of_below q4)
  have kd0 := (q4.cell (p := ⟨w2.heap.size, 0, none⟩) hs3).trans kc0
  have kd1 := (q4.cell (p := ⟨w2.heap.size, 1, none⟩) hs3).trans kc1
  have hs4 := q4.size
  clear q4 o3 r3 gl3 wk3 kc0 kc1
  rw [hbe]
  have HBE : Hid (behind (bt s e) (s.extract (e + 1) (e + 1 + (kbN (bt s e)).toNat)) l = false) := hbe
  clear hbe
  go_wp2_with fail
  refine (rdFault' 14 r4 (by decide) (by decide)).mono ?_
  rintro ev w5 ⟨fb, hfb, rfl, hx, q5⟩
  have o5 := o4.keep q5
  obtain ⟨⟨x0, y0⟩, ⟨x1, y1⟩, ⟨x2, y2⟩, z0, z1, z2⟩ := o5
  have hfb' : w.heap.size < fb := by omega
  have wk5 : w.grownBy w5 (some R) := grown_trans wk4 (grown_of_below q5)
  go_wp2
  exact bodyPost_ret (v := .tuple #[.agg #[.int .i64 0, .string ⟨#[]⟩, .string ⟨#[]⟩], .iface 133 (.pointer (some ⟨fb, 0, none⟩))]) (by simp [results, Tryz.results129, go_sem, y0, y1, y2]) rfl ⟨fb, by omega, rfl, (hx.set (by simp; omega)).set (by simp; omega) |>.set (by simp; omega), grown_new' (grown_new' (grown_new' wk5 (by simp)) (by simp)) (by simp)⟩
set_option maxRecDepth 10000 in
set_option maxHeartbeats 2000000 in
theorem ent_val {w : World} {s : ByteArray} {R B cap b e : Nat} {v : Value} {l : List En} (h : Rdr w s R B cap b e) (g : Glob w) (hR : 2 < R) (hI : EnsIn w v l) (hno : ∀ b off n c, v = .slice (some ⟨b, off, none⟩) n c → b ≠ R) (hl : l.length ≤ 1000000) (h1 : e + 1 ≤ s.size) (ht : tabB (bt s e) = true) (hk : e + 1 + (kbN (bt s e)).toNat ≤ s.size) (hkb : keyB (bt s e) (s.extract (e + 1) (e + 1 + (kbN (bt s e)).toNat)) = true) (hbe : behind (bt s e) (s.extract (e + 1) (e + 1 + (kbN (bt s e)).toNat)) l = true) (hs : s.size < e + 1 + (kbN (bt s e)).toNat + (vbN (bt s e)).toNat ∨ (e + 1 + (kbN (bt s e)).toNat + (vbN (bt s e)).toNat ≤ s.size ∧ valB (bt s e) (s.extract (e + 1 + (kbN (bt s e)).toNat) (e + 1 + (kbN (bt s e)).toNat + (vbN (bt s e)).toNat)) = false)) :
    Calls Tryz.prog 129 #[.pointer (some ⟨R, 0, none⟩), v] w fun ev w' => ∃ fb, w.heap.size ≤ fb ∧ ev = .returned (.tuple #[.agg #[.int .i64 (bt s e), .string (s.extract (e + 1) (e + 1 + (kbN (bt s e)).toNat)), .string ⟨#[]⟩], .iface 133 (.pointer (some ⟨fb, 0, none⟩))]) ∧ ErrIs w' (.iface 133 (.pointer (some ⟨fb, 0, none⟩))) (if s.size < e + 1 + (kbN (bt s e)).toNat + (vbN (bt s e)).toNat then 1 else 9) ((e + 1 + (kbN (bt s e)).toNat : Nat) : Int) ∧ w.grownBy w' (some R) := by
  have hRw : R < w.heap.size := cell_lt h.rd.c0
  obtain ⟨ao, cp, rfl⟩ := hI.slice
  have ht0 : 0 ≤ bt s e := by simp [tabB] at ht; omega
  have ht3 : bt s e < 3 := by simp [tabB] at ht; omega
  have ha := h.keep (below_alloc w (.cells #[.int .i64 0, .string ⟨#[]⟩, .string ⟨#[]⟩] 183))
  have ga := g.keep (below_alloc w (.cells #[.int .i64 0, .string ⟨#[]⟩, .string ⟨#[]⟩] 183))
  have ia := hI.keep (below_alloc w (.cells #[.int .i64 0, .string ⟨#[]⟩, .string ⟨#[]⟩] 183))
  have oa := own3_new w (.int .i64 0) (.string ⟨#[]⟩) (.string ⟨#[]⟩) 183
  have hcall : ∀ w1 b, Rdr w1 s R B cap b (e + 1 + (kbN (bt s e)).toNat) → Glob w1 → Calls Tryz.prog 146 #[.pointer (some ⟨R, 0, none⟩), .int .i64 (bt s e)] w1 fun ev w' => ∃ fb, w1.heap.size ≤ fb ∧ ev = .returned (.tuple #[.string ⟨#[]⟩, .iface 133 (.pointer (some ⟨fb, 0, none⟩))]) ∧ ErrIs w' (.iface 133 (.pointer (some ⟨fb, 0, none⟩))) (if s.size < e + 1 + (kbN (bt s e)).toNat + (vbN (bt s e)).toNat then 1 else 9) ((e + 1 + (kbN (bt s e)).toNat : Nat) : Int) ∧ w1.grownBy w' (some R) := by
    intro w1 b r1 g1
    rcases hs with h1 | ⟨h1, h2⟩
    · rw [if_pos h1]; exact val_short r1 g1 hR ht0 ht3 h1
    · rw [if_neg (by omega)]; exact val_bad r1 g1 hR ht0 ht3 h1 h2
  clear hs
  generalize (if s.size < e + 1 + (kbN (bt s e)).toNat + (vbN (bt s e)).toNat then (1 : Int) else 9) = kk at hcall ⊢
  go_enter Tryz.func129, Tryz.ntmps129
  go_wp2_with fail
  refine (tab_ok ha h1 ht).mono ?_
  rintro ev w1 ⟨rfl, r1, g1⟩
  have o1 := oa.grown (by simp; omega) g1
  have gl1 := ga.grown hR g1
  have i1 := ia.grown hno g1
  have wk1 := grown_start g1
  have hs1 := g1.size
  simp only [World.size_alloc] at hs1
  clear g1 ha ga ia oa
  go_wp2_with fail
  refine (key_ok r1 gl1 hR ht0 ht3 hk hkb).mono ?_
  rintro ev w2 ⟨rfl, r2, g2⟩
  have hs2 := g2.size
  have qk := below_alloc w2 (.cells #[.int .i64 (bt s e), .string (s.extract (e + 1) (e + 1 + (kbN (bt s e)).toNat))] 83)
  have o3 := (o1.grown (by simp; omega) g2).keep qk
  have r3 := r2.keep qk
  have gl3 := (gl1.grown hR g2).keep qk
  have i3 := (i1.grown hno g2).keep qk
  have wk3 := grown_alloc (grown_trans wk1 g2) (.cells #[.int .i64 (bt s e), .string (s.extract (e + 1) (e + 1 + (kbN (bt s e)).toNat))] 83)
  have kc0 : (w2.alloc (.cells #[.int .i64 (bt s e), .string (s.extract (e + 1) (e + 1 + (kbN (bt s e)).toNat))] 83)).cell? ⟨w2.heap.size, 0, none⟩ = some (.int .i64 (bt s e)) := by simp
  have kc1 : (w2.alloc (.cells #[.int .i64 (bt s e), .string (s.extract (e + 1) (e + 1 + (kbN (bt s e)).toNat))] 83)).cell? ⟨w2.heap.size, 1, none⟩ = some (.string (s.extract (e + 1) (e + 1 + (kbN (bt s e)).toNat))) := by simp
  have hs3 : w2.heap.size < (w2.alloc (.cells #[.int .i64 (bt s e), .string (s.extract (e + 1) (e + 1 + (kbN (bt s e)).toNat))] 83)).heap.size := by simp
  clear qk r2 g2 wk1 o1 gl1 i1 r1
  go_wp2_with fail
  generalize w2.alloc (.cells #[.int .i64 (bt s e), .string (s.extract (e + 1) (e + 1 + (kbN (bt s e)).toNat))] 83) = W3 at *
  refine (wBehind _ l (bt s e) (s.extract (e + 1) (e + 1 + (kbN (bt s e)).toNat)) _ i3 hl).mono ?_
  rintro ev w4 ⟨rfl, q4⟩
  have o4 := o3.keep q4
  have r4 := r3.keep q4
  have gl4 := gl3.keep q4
  have wk4 : w.grownBy w4 (some R) := grown_trans wk3 (grown_of_below q4)
  have kd0 := (q4.cell (p := ⟨w2.heap.size, 0, none⟩) hs3).trans kc0
  have kd1 := (q4.cell (p := ⟨w2.heap.size, 1, none⟩) hs3).trans kc1
  have hs4 := q4.size
  clear q4 o3 r3 gl3 wk3 kc0 kc1
  rw [hbe]
  have HBE : Hid (behind (bt s e) (s.extract (e + 1) (e + 1 + (kbN (bt s e)).toNat)) l = true) := hbe
  clear hbe
  go_wp2_with fail
  refine (hcall _ _ r4 gl4).mono ?_
  clear hcall
  rintro ev w5 ⟨fb, hfb, rfl, hx, g5⟩
  have o5 := o4.grown (by simp; omega) g5
  have ke0 := g5.cell kd0 (by simp; omega)
  have ke1 := g5.cell kd1 (by simp; omega)
  have wk5 := grown_trans wk4 g5
  obtain ⟨⟨x0, y0⟩, ⟨x1, y1⟩, ⟨x2, y2⟩, z0, z1, z2⟩ := o5
  have hfb' : w.heap.size < fb := by omega
  go_wp2
  exact bodyPost_ret (v := .tuple #[.agg #[.int .i64 (bt s e), .string (s.extract (e + 1) (e + 1 + (kbN (bt s e)).toNat)), .string ⟨#[]⟩], .iface 133 (.pointer (some ⟨fb, 0, none⟩))]) (by simp [results, Tryz.results129, go_sem, y0, y1, y2]) rfl ⟨fb, by omega, rfl, (hx.set (by simp; omega)).set (by simp; omega) |>.set (by simp; omega), grown_new' (grown_new' (grown_new' wk5 (by simp)) (by simp)) (by simp)⟩
set_option maxRecDepth 10000 in
set_option maxHeartbeats 2000000 in
theorem ent_ok {w : World} {s : ByteArray} {R B cap b e : Nat} {v : Value} {l : List En} (h : Rdr w s R B cap b e) (g : Glob w) (hR : 2 < R) (hI : EnsIn w v l) (hno : ∀ b off n c, v = .slice (some ⟨b, off, none⟩) n c → b ≠ R) (hl : l.length ≤ 1000000) (h1 : e + 1 ≤ s.size) (ht : tabB (bt s e) = true) (hk : e + 1 + (kbN (bt s e)).toNat ≤ s.size) (hkb : keyB (bt s e) (s.extract (e + 1) (e + 1 + (kbN (bt s e)).toNat)) = true) (hbe : behind (bt s e) (s.extract (e + 1) (e + 1 + (kbN (bt s e)).toNat)) l = true) (hs : e + 1 + (kbN (bt s e)).toNat + (vbN (bt s e)).toNat ≤ s.size) (hvb : valB (bt s e) (s.extract (e + 1 + (kbN (bt s e)).toNat) (e + 1 + (kbN (bt s e)).toNat + (vbN (bt s e)).toNat)) = true) :
    Calls Tryz.prog 129 #[.pointer (some ⟨R, 0, none⟩), v] w fun ev w' => ev = .returned (.tuple #[.agg #[.int .i64 (bt s e), .string (s.extract (e + 1) (e + 1 + (kbN (bt s e)).toNat)), .string (s.extract (e + 1 + (kbN (bt s e)).toNat) (e + 1 + (kbN (bt s e)).toNat + (vbN (bt s e)).toNat))], .nilIface]) ∧ (∃ b', Rdr w' s R B cap b' (e + 1 + (kbN (bt s e)).toNat + (vbN (bt s e)).toNat)) ∧ w.grownBy w' (some R) := by
  have hBw : B < w.heap.size := cell_lt (h.bs e (by omega))
  have hRw : R < w.heap.size := cell_lt h.rd.c0
  obtain ⟨ao, cp, rfl⟩ := hI.slice
  have ht0 : 0 ≤ bt s e := by simp [tabB] at ht; omega
  have ht3 : bt s e < 3 := by simp [tabB] at ht; omega
  have ha := h.keep (below_alloc w (.cells #[.int .i64 0, .string ⟨#[]⟩, .string ⟨#[]⟩] 183))
  have ga := g.keep (below_alloc w (.cells #[.int .i64 0, .string ⟨#[]⟩, .string ⟨#[]⟩] 183))
  have ia := hI.keep (below_alloc w (.cells #[.int .i64 0, .string ⟨#[]⟩, .string ⟨#[]⟩] 183))
  have oa := own3_new w (.int .i64 0) (.string ⟨#[]⟩) (.string ⟨#[]⟩) 183
  go_enter Tryz.func129, Tryz.ntmps129
  go_wp2_with fail
  refine (tab_ok ha h1 ht).mono ?_
  rintro ev w1 ⟨rfl, r1, g1⟩
  have o1 := oa.grown (by simp; omega) g1
  have gl1 := ga.grown hR g1
  have i1 := ia.grown hno g1
  have wk1 := grown_start g1
  have hs1 := g1.size
  simp only [World.size_alloc] at hs1
  clear g1 ha ga ia oa
  go_wp2_with fail
  refine (key_ok r1 gl1 hR ht0 ht3 hk hkb).mono ?_
  rintro ev w2 ⟨rfl, r2, g2⟩
  have hs2 := g2.size
  have qk := below_alloc w2 (.cells #[.int .i64 (bt s e), .string (s.extract (e + 1) (e + 1 + (kbN (bt s e)).toNat))] 83)
  have o3 := (o1.grown (by simp; omega) g2).keep qk
  have r3 := r2.keep qk
  have gl3 := (gl1.grown hR g2).keep qk
  have i3 := (i1.grown hno g2).keep qk
  have wk3 := grown_alloc (grown_trans wk1 g2) (.cells #[.int .i64 (bt s e), .string (s.extract (e + 1) (e + 1 + (kbN (bt s e)).toNat))] 83)
  have kc0 : (w2.alloc (.cells #[.int .i64 (bt s e), .string (s.extract (e + 1) (e + 1 + (kbN (bt s e)).toNat))] 83)).cell? ⟨w2.heap.size, 0, none⟩ = some (.int .i64 (bt s e)) := by simp
  have kc1 : (w2.alloc (.cells #[.int .i64 (bt s e), .string (s.extract (e + 1) (e + 1 + (kbN (bt s e)).toNat))] 83)).cell? ⟨w2.heap.size, 1, none⟩ = some (.string (s.extract (e + 1) (e + 1 + (kbN (bt s e)).toNat))) := by simp
  have hs3 : w2.heap.size < (w2.alloc (.cells #[.int .i64 (bt s e), .string (s.extract (e + 1) (e + 1 + (kbN (bt s e)).toNat))] 83)).heap.size := by simp
  clear qk r2 g2 wk1 o1 gl1 i1 r1
  go_wp2_with fail
  generalize w2.alloc (.cells #[.int .i64 (bt s e), .string (s.extract (e + 1) (e + 1 + (kbN (bt s e)).toNat))] 83) = W3 at *
  refine (wBehind _ l (bt s e) (s.extract (e + 1) (e + 1 + (kbN (bt s e)).toNat)) _ i3 hl).mono ?_
  rintro ev w4 ⟨rfl, q4⟩
  have o4 := o3.keep q4
  have r4 := r3.keep q4
  have gl4 := gl3.keep q4
  have wk4 : w.grownBy w4 (some R) := grown_trans wk3 (grown_of_below q4)
  have kd0 := (q4.cell (p := ⟨w2.heap.size, 0, none⟩) hs3).trans kc0
  have kd1 := (q4.cell (p := ⟨w2.heap.size, 1, none⟩) hs3).trans kc1
  have hs4 := q4.size
  clear q4 o3 r3 gl3 wk3 kc0 kc1
  rw [hbe]
  have HBE : Hid (behind (bt s e) (s.extract (e + 1) (e + 1 + (kbN (bt s e)).toNat)) l = true) := hbe
  clear hbe
  go_wp2_with fail
  refine (val_ok r4 gl4 hR ht0 ht3 hs hvb).mono ?_
  rintro ev w5 ⟨rfl, r5, g5⟩
  have o5 := o4.grown (by simp; omega) g5
  have ke0 := g5.cell kd0 (by simp; omega)
  have ke1 := g5.cell kd1 (by simp; omega)
  have wk5 := grown_trans wk4 g5
  obtain ⟨⟨x0, y0⟩, ⟨x1, y1⟩, ⟨x2, y2⟩, z0, z1, z2⟩ := o5
  go_wp2
  exact bodyPost_ret (v := .tuple #[.agg #[.int .i64 (bt s e), .string (s.extract (e + 1) (e + 1 + (kbN (bt s e)).toNat)), .string (s.extract (e + 1 + (kbN (bt s e)).toNat) (e + 1 + (kbN (bt s e)).toNat + (vbN (bt s e)).toNat))], .nilIface]) (by simp [results, Tryz.results129, go_sem, y0, y1, y2]) rfl ⟨rfl, ⟨_, ((r5.set (by simp; omega) (by simp; omega)).set (by simp; omega) (by simp; omega)).set (by simp; omega) (by simp; omega)⟩, grown_new' (grown_new' (grown_new' wk5 (by simp)) (by simp)) (by simp)⟩

theorem rdEntry {w : World} {s : ByteArray} {R B cap b e : Nat} {v : Value} {l : List En} (h : Rdr w s R B cap b e) (g : Glob w) (hR : 2 < R) (hI : EnsIn w v l) (hno : ∀ b off n c, v = .slice (some ⟨b, off, none⟩) n c → b ≠ R) (hl : l.length ≤ 1000000) :
    Calls Tryz.prog 129 #[.pointer (some ⟨R, 0, none⟩), v] w fun ev w' =>
      (∃ k a, ent s e l = .error (k, a) ∧ ∃ (fb : Nat) (x : En), w.heap.size ≤ fb ∧ ev = .returned (.tuple #[.agg #[.int .i64 x.t, .string x.k, .string x.v], .iface 133 (.pointer (some ⟨fb, 0, none⟩))]) ∧ ErrIs w' (.iface 133 (.pointer (some ⟨fb, 0, none⟩))) k a ∧ w.grownBy w' (some R)) ∨
      (∃ (x : En) (e' : Nat), ent s e l = .ok (x, e') ∧ ev = .returned (.tuple #[.agg #[.int .i64 x.t, .string x.k, .string x.v], .nilIface]) ∧ (∃ b', Rdr w' s R B cap b' e') ∧ w.grownBy w' (some R)) := by
  by_cases c1 : s.size < e + 1
  · refine (ent_tab h hI (.inl c1)).mono ?_
    rintro ev w' ⟨fb, h1, h2, h3, h4⟩
    rw [if_pos c1] at h3
    exact .inl ⟨_, _, by rw [ent, if_pos c1], fb, ⟨0, ⟨#[]⟩, ⟨#[]⟩⟩, h1, h2, h3, h4⟩
  cases c2 : tabB (bt s e)
  · refine (ent_tab h hI (.inr ⟨by omega, c2⟩)).mono ?_
    rintro ev w' ⟨fb, h1, h2, h3, h4⟩
    rw [if_neg c1] at h3
    exact .inl ⟨_, _, by rw [ent, if_neg c1, if_pos c2], fb, ⟨0, ⟨#[]⟩, ⟨#[]⟩⟩, h1, h2, h3, h4⟩
  have n2 : ¬ tabB (bt s e) = false := by rw [c2]; simp
  by_cases c3 : s.size < e + 1 + (kbN (bt s e)).toNat
  · refine (ent_key h g hR hI hno hl (by omega) c2 (.inl c3)).mono ?_
    rintro ev w' ⟨fb, h1, h2, h3, h4⟩
    rw [if_pos c3] at h3
    exact .inl ⟨_, _, by rw [ent, if_neg c1, if_neg n2, if_pos c3], fb, ⟨0, ⟨#[]⟩, ⟨#[]⟩⟩, h1, h2, h3, h4⟩
  cases c4 : keyB (bt s e) (s.extract (e + 1) (e + 1 + (kbN (bt s e)).toNat))
  · refine (ent_key h g hR hI hno hl (by omega) c2 (.inr ⟨by omega, c4⟩)).mono ?_
    rintro ev w' ⟨fb, h1, h2, h3, h4⟩
    rw [if_neg c3] at h3
    exact .inl ⟨_, _, by rw [ent, if_neg c1, if_neg n2, if_neg c3, if_pos c4], fb, ⟨0, ⟨#[]⟩, ⟨#[]⟩⟩, h1, h2, h3, h4⟩
  have n4 : ¬ keyB (bt s e) (s.extract (e + 1) (e + 1 + (kbN (bt s e)).toNat)) = false := by rw [c4]; simp
  cases c5 : behind (bt s e) (s.extract (e + 1) (e + 1 + (kbN (bt s e)).toNat)) l
  · refine (ent_ord h g hR hI hno hl (by omega) c2 (by omega) c4 c5).mono ?_
    rintro ev w' ⟨fb, h1, h2, h3, h4⟩
    exact .inl ⟨_, _, by rw [ent, if_neg c1, if_neg n2, if_neg c3, if_neg n4, if_pos c5], fb, ⟨0, ⟨#[]⟩, ⟨#[]⟩⟩, h1, h2, h3, h4⟩
  have n5 : ¬ behind (bt s e) (s.extract (e + 1) (e + 1 + (kbN (bt s e)).toNat)) l = false := by rw [c5]; simp
  by_cases c7 : s.size < e + 1 + (kbN (bt s e)).toNat + (vbN (bt s e)).toNat
  · refine (ent_val h g hR hI hno hl (by omega) c2 (by omega) c4 c5 (.inl c7)).mono ?_
    rintro ev w' ⟨fb, h1, h2, h3, h4⟩
    rw [if_pos c7] at h3
    exact .inl ⟨_, _, by rw [ent, if_neg c1, if_neg n2, if_neg c3, if_neg n4, if_neg n5, if_pos c7], fb, ⟨bt s e, (s.extract (e + 1) (e + 1 + (kbN (bt s e)).toNat)), ⟨#[]⟩⟩, h1, h2, h3, h4⟩
  cases c8 : valB (bt s e) (s.extract (e + 1 + (kbN (bt s e)).toNat) (e + 1 + (kbN (bt s e)).toNat + (vbN (bt s e)).toNat))
  · refine (ent_val h g hR hI hno hl (by omega) c2 (by omega) c4 c5 (.inr ⟨by omega, c8⟩)).mono ?_
    rintro ev w' ⟨fb, h1, h2, h3, h4⟩
    rw [if_neg c7] at h3
    exact .inl ⟨_, _, by rw [ent, if_neg c1, if_neg n2, if_neg c3, if_neg n4, if_neg n5, if_neg c7, if_pos c8], fb, ⟨bt s e, (s.extract (e + 1) (e + 1 + (kbN (bt s e)).toNat)), ⟨#[]⟩⟩, h1, h2, h3, h4⟩
  have n8 : ¬ valB (bt s e) (s.extract (e + 1 + (kbN (bt s e)).toNat) (e + 1 + (kbN (bt s e)).toNat + (vbN (bt s e)).toNat)) = false := by rw [c8]; simp
  refine (ent_ok h g hR hI hno hl (by omega) c2 (by omega) c4 c5 (by omega) c8).mono ?_
  rintro ev w' ⟨h1, h2, h3⟩
  exact .inr ⟨⟨bt s e, (s.extract (e + 1) (e + 1 + (kbN (bt s e)).toNat)), (s.extract (e + 1 + (kbN (bt s e)).toNat) (e + 1 + (kbN (bt s e)).toNat + (vbN (bt s e)).toNat))⟩, _, by rw [ent, if_neg c1, if_neg n2, if_neg c3, if_neg n4, if_neg n5, if_neg c7, if_neg n8], h1, h2, h3⟩
end Go.Proofs.YtokckapacdpgaaaGreatDoor
