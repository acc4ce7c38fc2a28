import Derived.Test.YtindifjhocgkbaaGreatDoorErrCToKit
import Derived.Test.YtindifjhocgkbaaGreatDoorStaToApt
import Derived.Test.YtindifjhocgkbaaGreatDoorFnd
import Derived.Test.YtindifjhocgkbaaGreatDoorItD
import Derived.Test.YtindifjhocgkbaaGreatDoorDon
namespace Go.Proofs.YtindifjhocgkbaaGreatDoor
open Go.RowKit

set_option maxHeartbeats 1000000 in
theorem tab_short {w : World} {s : ByteArray} {R B cap b e : Nat} (h : Rdr w s R B cap b e) (hs : s.size < e + 1) :
    Calls Tryz.prog 143 #[.pointer (some ⟨R, 0, none⟩)] w fun ev w' => ∃ fb, w.heap.size ≤ fb ∧ ev = .returned (.tuple #[.int .i64 0, .iface 133 (.pointer (some ⟨fb, 0, none⟩))]) ∧ ErrIs w' (.iface 133 (.pointer (some ⟨fb, 0, none⟩))) 1 (e : Int) ∧ w.grownBy w' (some R) := by
  go_enter Tryz.func143, Tryz.ntmps143
  go_wp2_with fail
  refine (pc_no 1 h (by omega) (by omega)).mono ?_
  rintro ev w1 ⟨fb, hfb, rfl, hx, g1⟩
  go_wp2
  go_ret2
  exact ⟨fb, hfb, rfl, hx, g1⟩
set_option maxHeartbeats 1000000 in
theorem tab_bad {w : World} {s : ByteArray} {R B cap b e : Nat} (h : Rdr w s R B cap b e) (hs : e + 1 ≤ s.size) (hv : tabB (bt s e) = false) :
    Calls Tryz.prog 143 #[.pointer (some ⟨R, 0, none⟩)] w fun ev w' => ∃ fb, w.heap.size ≤ fb ∧ ev = .returned (.tuple #[.int .i64 0, .iface 133 (.pointer (some ⟨fb, 0, none⟩))]) ∧ ErrIs w' (.iface 133 (.pointer (some ⟨fb, 0, none⟩))) 6 (e : Int) ∧ w.grownBy w' (some R) := by
  go_enter Tryz.func143, Tryz.ntmps143
  go_wp2_with fail
  refine (pc_ok 1 h (by omega) (by omega)).mono ?_
  rintro ev w1 ⟨rfl, r1, g1⟩
  have bb := bt_lo s e
  have cb := r1.bs e (by omega)
  go_wp2_with fail
  refine (isTable _ _).mono ?_
  rintro ev w2 ⟨rfl, rfl⟩
  go_wp2_with fail
  refine (rdFault' 6 r1 (by decide) (by decide)).mono ?_
  rintro ev w2 ⟨fb, hfb, rfl, hx, q2⟩
  go_wp2
  go_ret2
  exact ⟨fb, Nat.le_trans g1.size hfb, rfl, hx, grown_trans g1 (grown_of_below q2)⟩
set_option maxHeartbeats 1000000 in
theorem tab_ok {w : World} {s : ByteArray} {R B cap b e : Nat} (h : Rdr w s R B cap b e) (hs : e + 1 ≤ s.size) (hv : tabB (bt s e) = true) :
    Calls Tryz.prog 143 #[.pointer (some ⟨R, 0, none⟩)] w fun ev w' => ev = .returned (.tuple #[.int .i64 (bt s e), .nilIface]) ∧ Rdr w' s R B cap e (e + 1) ∧ w.grownBy w' (some R) := by
  go_enter Tryz.func143, Tryz.ntmps143
  go_wp2_with fail
  refine (pc_ok 1 h (by omega) (by omega)).mono ?_
  rintro ev w1 ⟨rfl, r1, g1⟩
  have bb := bt_lo s e
  have cb := r1.bs e (by omega)
  go_wp2_with fail
  refine (isTable _ _).mono ?_
  rintro ev w2 ⟨rfl, rfl⟩
  go_wp2
  go_ret2
  exact ⟨rfl, r1, g1⟩
end Go.Proofs.YtindifjhocgkbaaGreatDoor
namespace Go.Proofs.YtindifjhocgkbaaGreatDoor
open Go.RowKit

theorem behind_last {l : List En} {t : Int} {k : ByteArray} (h : 0 < l.length) : behind t k l = decide (cmpK (l[l.length - 1]'(by omega)).t (l[l.length - 1]'(by omega)).k t k < 0) := by
  unfold behind
  rw [List.getLast?_eq_getElem?, List.getElem?_eq_getElem (by omega)]
theorem EnsIn.slice {w : World} {v : Value} {l : List En} (h : EnsIn w v l) : ∃ ao cap, v = .slice ao l.length cap := by
  rcases h with ⟨rfl, rfl⟩ | ⟨b, off, cap, rfl, _⟩
  · exact ⟨none, 0, rfl⟩
  · exact ⟨_, _, rfl⟩
theorem EnsIn.grown {w w' : World} {v : Value} {l : List En} {R : Nat} (h : EnsIn w v l) (hno : ∀ b off n c, v = .slice (some ⟨b, off, none⟩) n c → b ≠ R) (g : w.grownBy w' (some R)) : EnsIn w' v l := by
  rcases h with h | ⟨b, off, cap, rfl, hb, hc⟩
  · exact .inl h
  · have hn : some b ≠ some R := by have := hno b off _ _ rfl; simpa using this
    exact .inr ⟨b, off, cap, rfl, Nat.lt_of_lt_of_le hb g.size, ⟨fun i hi => g.cell (hc.c0 i hi) hn, fun i hi => g.cell (hc.c1 i hi) hn, fun i hi => g.cell (hc.c2 i hi) hn⟩⟩
set_option maxRecDepth 10000 in
set_option maxHeartbeats 1000000 in
theorem wBehind (v : Value) (l : List En) (t : Int) (k : ByteArray) (w : World) (hI : EnsIn w v l) (hl : l.length ≤ 1000000) :
    Calls Tryz.prog 145 #[.agg #[.int .i64 t, .string k], v] w fun e w' => e = .returned (.bool (behind t k l)) ∧ Below w.heap.size w w' := by
  by_cases h0 : l.length = 0
  · obtain rfl : l = [] := List.eq_nil_of_length_eq_zero h0
    obtain ⟨ao, cap, rfl⟩ := hI.slice
    go_enter Tryz.func145, Tryz.ntmps145
    go_wp2_with fail
    go_quiet (fail)
    go_wp2
    go_ret
    exact ⟨rfl, below_trans (below_alloc _ _) (below_drawn _ _)⟩
  · rcases hI with ⟨_, rfl⟩ | ⟨b, off, cap, rfl, hb, hc⟩
    · exact absurd rfl h0
    rw [behind_last (by omega)]
    have hlt : l.length - 1 < l.length := by omega
    have h1 : ¬ ((l.length : Int) = 0) := by omega
    have q := below_alloc w (.cells #[.int .i64 t, .string k] 83)
    have d0 := (q.cell (p := ⟨b, off + (l.length - 1) * 3, none⟩) hb).trans (hc.c0 _ hlt)
    have d1 := (q.cell (p := ⟨b, off + (l.length - 1) * 3 + 1, none⟩) hb).trans (hc.c1 _ hlt)
    generalize l[l.length - 1] = y at *
    have hw : IntKind.i64.wrap ((l.length : Int) - 1) = ((l.length - 1 : Nat) : Int) := by simp [IntKind.wrap, IntKind.bits, IntKind.signed]; omega
    have il : ((l.length - 1 : Nat) : Int) < (l.length : Int) := by omega
    generalize l.length - 1 = m at *
    go_enter Tryz.func145, Tryz.ntmps145
    go_wp2_with fail
    refine region_tail 12 (by kernel_rfl) (by kernel_rfl) ?_
    simp only [List.take_succ_cons, List.take_zero, List.drop_succ_cons, List.drop_zero]
    iterate 12 still_step
    refine wpStill_nil ?_
    go_wp2_with fail
    refine (eCompare _ _ _ _ _).mono ?_
    rintro e w1 ⟨rfl, q1⟩
    go_wp2_with fail
    go_ret
    refine ⟨?_, below_trans q (below_trans (below_drew _) q1)⟩
    have hb0 : ((l.length : Int) == 0) = false := by simpa using h1
    simp [hb0]
end Go.Proofs.YtindifjhocgkbaaGreatDoor
namespace Go.Proofs.YtindifjhocgkbaaGreatDoor
open Go.RowKit

/-- A block of three cells that may be written. -/
structure Own3 (w : World) (b : Nat) : Prop where
  e0 : ∃ v, w.cell? ⟨b, 0, none⟩ = some v
  e1 : ∃ v, w.cell? ⟨b, 1, none⟩ = some v
  e2 : ∃ v, w.cell? ⟨b, 2, none⟩ = some v
  f0 : w.frozen? ⟨b, 0, none⟩ = false
  f1 : w.frozen? ⟨b, 1, none⟩ = false
  f2 : w.frozen? ⟨b, 2, none⟩ = false
theorem Own3.lt {w : World} {b : Nat} (h : Own3 w b) : b < w.heap.size := by obtain ⟨v, h⟩ := h.e0; exact cell_lt h
theorem Own3.grown {w w' : World} {b : Nat} {r : Option Nat} (h : Own3 w b) (hn : some b ≠ r) (g : w.grownBy w' r) : Own3 w' b := by
  have hb := h.lt
  have hf : ∀ o, w'.frozen? ⟨b, o, none⟩ = w.frozen? ⟨b, o, none⟩ := fun o => World.frozen?_of_block (g.block b hb hn)
  obtain ⟨⟨a0, h0⟩, ⟨a1, h1⟩, ⟨a2, h2⟩, f0, f1, f2⟩ := h
  exact ⟨⟨a0, g.cell h0 hn⟩, ⟨a1, g.cell h1 hn⟩, ⟨a2, g.cell h2 hn⟩, (hf _).trans f0, (hf _).trans f1, (hf _).trans f2⟩
theorem Own3.keep {w w' : World} {b : Nat} (h : Own3 w b) (q : Below w.heap.size w w') : Own3 w' b := h.grown (r := none) (by simp) (grown_of_below q)
theorem own3_new (w : World) (x y z : Value) (t : TypeId) : Own3 (w.alloc (.cells #[x, y, z] t)) w.heap.size := ⟨⟨_, by simp; rfl⟩, ⟨_, by simp; rfl⟩, ⟨_, by simp; rfl⟩, by simp, by simp, by simp⟩

set_option maxRecDepth 10000 in
set_option maxHeartbeats 2000000 in
theorem ent_tab {w : World} {s : ByteArray} {R B cap b e : Nat} {v : Value} {l : List En} (h : Rdr w s R B cap b e) (hI : EnsIn w v l) (hs : s.size < e + 1 ∨ (e + 1 ≤ s.size ∧ tabB (bt s e) = false)) :
    Calls Tryz.prog 127 #[.pointer (some ⟨R, 0, none⟩), v] w fun ev w' => ∃ fb, w.heap.size ≤ fb ∧ ev = .returned (.tuple #[.agg #[.int .i64 0, .string ⟨#[]⟩, .string ⟨#[]⟩], .iface 133 (.pointer (some ⟨fb, 0, none⟩))]) ∧ ErrIs w' (.iface 133 (.pointer (some ⟨fb, 0, none⟩))) (if s.size < e + 1 then 1 else 6) (e : Int) ∧ w.grownBy w' (some R) := by
  have hRw : R < w.heap.size := cell_lt h.rd.c0
  obtain ⟨ao, cp, rfl⟩ := hI.slice
  have hcall : ∀ w1 b, Rdr w1 s R B cap b e → Calls Tryz.prog 143 #[.pointer (some ⟨R, 0, none⟩)] w1 fun ev w' => ∃ fb, w1.heap.size ≤ fb ∧ ev = .returned (.tuple #[.int .i64 0, .iface 133 (.pointer (some ⟨fb, 0, none⟩))]) ∧ ErrIs w' (.iface 133 (.pointer (some ⟨fb, 0, none⟩))) (if s.size < e + 1 then 1 else 6) (e : Int) ∧ w1.grownBy w' (some R) := by
    intro w1 b r1
    rcases hs with h1 | ⟨h1, h2⟩
    · rw [if_pos h1]; exact tab_short r1 (by omega)
    · rw [if_neg (by omega)]; exact tab_bad r1 (by omega) h2
  generalize (if s.size < e + 1 then (1 : Int) else 6) = kk at hcall ⊢
  have ha := h.keep (below_alloc w (.cells #[.int .i64 0, .string ⟨#[]⟩, .string ⟨#[]⟩] 183))
  have oa := own3_new w (.int .i64 0) (.string ⟨#[]⟩) (.string ⟨#[]⟩) 183
  go_enter Tryz.func127, Tryz.ntmps127
  go_wp2_with fail
  refine (hcall _ _ ha).mono ?_
  clear hcall
  rintro ev w1 ⟨fb, hfb, rfl, hx, g1⟩
  have o1 := oa.grown (by simp; omega) g1
  obtain ⟨⟨x0, y0⟩, ⟨x1, y1⟩, ⟨x2, y2⟩, z0, z1, z2⟩ := o1
  have hfb' : w.heap.size < fb := by simp at hfb; omega
  go_wp2
  exact bodyPost_ret (v := .tuple #[.agg #[.int .i64 0, .string ⟨#[]⟩, .string ⟨#[]⟩], .iface 133 (.pointer (some ⟨fb, 0, none⟩))]) (by simp [results, Tryz.results127, go_sem, y0, y1, y2]) rfl ⟨fb, by omega, rfl, (hx.set (by simp; omega)).set (by simp; omega) |>.set (by simp; omega), grown_new' (grown_new' (grown_new' (grown_start g1) (by simp)) (by simp)) (by simp)⟩
set_option maxRecDepth 10000 in
set_option maxHeartbeats 2000000 in
theorem ent_key {w : World} {s : ByteArray} {R B cap b e : Nat} {v : Value} {l : List En} (h : Rdr w s R B cap b e) (g : Glob w) (hR : 2 < R) (hI : EnsIn w v l) (hno : ∀ b off n c, v = .slice (some ⟨b, off, none⟩) n c → b ≠ R) (_hl : l.length ≤ 1000000) (h1 : e + 1 ≤ s.size) (ht : tabB (bt s e) = true) (hs : s.size < e + 1 + (kbN (bt s e)).toNat ∨ (e + 1 + (kbN (bt s e)).toNat ≤ s.size ∧ keyB (bt s e) (s.extract (e + 1) (e + 1 + (kbN (bt s e)).toNat)) = false)) :
    Calls Tryz.prog 127 #[.pointer (some ⟨R, 0, none⟩), v] w fun ev w' => ∃ fb, w.heap.size ≤ fb ∧ ev = .returned (.tuple #[.agg #[.int .i64 0, .string ⟨#[]⟩, .string ⟨#[]⟩], .iface 133 (.pointer (some ⟨fb, 0, none⟩))]) ∧ ErrIs w' (.iface 133 (.pointer (some ⟨fb, 0, none⟩))) (if s.size < e + 1 + (kbN (bt s e)).toNat then 1 else 7) ((e + 1 : Nat) : Int) ∧ w.grownBy w' (some R) := by
  have hRw : R < w.heap.size := cell_lt h.rd.c0
  obtain ⟨ao, cp, rfl⟩ := hI.slice
  have ht0 : 0 ≤ bt s e := by simp [tabB] at ht; omega
  have ht3 : bt s e < 3 := by simp [tabB] at ht; omega
  have ha := h.keep (below_alloc w (.cells #[.int .i64 0, .string ⟨#[]⟩, .string ⟨#[]⟩] 183))
  have ga := g.keep (below_alloc w (.cells #[.int .i64 0, .string ⟨#[]⟩, .string ⟨#[]⟩] 183))
  have ia := hI.keep (below_alloc w (.cells #[.int .i64 0, .string ⟨#[]⟩, .string ⟨#[]⟩] 183))
  have oa := own3_new w (.int .i64 0) (.string ⟨#[]⟩) (.string ⟨#[]⟩) 183
  have hcall : ∀ w1 b, Rdr w1 s R B cap b (e + 1) → Glob w1 → Calls Tryz.prog 144 #[.pointer (some ⟨R, 0, none⟩), .int .i64 (bt s e)] w1 fun ev w' => ∃ fb, w1.heap.size ≤ fb ∧ ev = .returned (.tuple #[.agg #[.int .i64 0, .string ⟨#[]⟩], .iface 133 (.pointer (some ⟨fb, 0, none⟩))]) ∧ ErrIs w' (.iface 133 (.pointer (some ⟨fb, 0, none⟩))) (if s.size < e + 1 + (kbN (bt s e)).toNat then 1 else 7) ((e + 1 : Nat) : Int) ∧ w1.grownBy w' (some R) := by
    intro w1 b r1 g1
    rcases hs with h1 | ⟨h1, h2⟩
    · rw [if_pos h1]; exact key_short r1 g1 hR ht0 ht3 h1
    · rw [if_neg (by omega)]; exact key_bad r1 g1 hR ht0 ht3 h1 h2
  clear hs
  generalize (if s.size < e + 1 + (kbN (bt s e)).toNat then (1 : Int) else 7) = kk at hcall ⊢
  go_enter Tryz.func127, Tryz.ntmps127
  go_wp2_with fail
  refine (tab_ok ha h1 ht).mono ?_
  rintro ev w1 ⟨rfl, r1, g1⟩
  have o1 := oa.grown (by simp; omega) g1
  have gl1 := ga.grown hR g1
  have i1 := ia.grown hno g1
  have wk1 := grown_start g1
  have hs1 := g1.size
  simp only [World.size_alloc] at hs1
  clear g1 ha ga ia oa
  go_wp2_with fail
  refine (hcall _ _ r1 gl1).mono ?_
  clear hcall
  rintro ev w2 ⟨fb, hfb, rfl, hx, g2⟩
  have o2 := (o1.grown (by simp; omega) g2).keep (below_alloc _ (.cells #[.int .i64 0, .string ⟨#[]⟩] 83))
  have hx := hx.keep (below_alloc _ (.cells #[.int .i64 0, .string ⟨#[]⟩] 83))
  have wk2 := grown_alloc (grown_trans wk1 g2) (.cells #[.int .i64 0, .string ⟨#[]⟩] 83)
  obtain ⟨⟨x0, y0⟩, ⟨x1, y1⟩, ⟨x2, y2⟩, z0, z1, z2⟩ := o2
  have hfb' : w.heap.size < fb := by omega
  go_wp2
  exact bodyPost_ret (v := .tuple #[.agg #[.int .i64 0, .string ⟨#[]⟩, .string ⟨#[]⟩], .iface 133 (.pointer (some ⟨fb, 0, none⟩))]) (by simp [results, Tryz.results127, go_sem, y0, y1, y2]) rfl ⟨fb, by omega, rfl, (hx.set (by simp; omega)).set (by simp; omega) |>.set (by simp; omega), grown_new' (grown_new' (grown_new' wk2 (by simp)) (by simp)) (by simp)⟩
set_option maxRecDepth 10000 in
set_option maxHeartbeats 2000000 in
theorem ent_ord {w : World} {s : ByteArray} {R B cap b e : Nat} {v : Value} {l : List En} (h : Rdr w s R B cap b e) (g : Glob w) (hR : 2 < R) (hI : EnsIn w v l) (hno : ∀ b off n c, v = .slice (some ⟨b, off, none⟩) n c → b ≠ R) (hl : l.length ≤ 1000000) (h1 : e + 1 ≤ s.size) (ht : tabB (bt s e) = true) (hk : e + 1 + (kbN (bt s e)).toNat ≤ s.size) (hkb : keyB (bt s e) (s.extract (e + 1) (e + 1 + (kbN (bt s e)).toNat)) = true) (hbe : behind (bt s e) (s.extract (e + 1) (e + 1 + (kbN (bt s e)).toNat)) l = false) :
    Calls Tryz.prog 127 #[.pointer (some ⟨R, 0, none⟩), v] w fun ev w' => ∃ fb, w.heap.size ≤ fb ∧ ev = .returned (.tuple #[.agg #[.int .i64 0, .string ⟨#[]⟩, .string ⟨#[]⟩], .iface 133 (.pointer (some ⟨fb, 0, none⟩))]) ∧ ErrIs w' (.iface 133 (.pointer (some ⟨fb, 0, none⟩))) 14 ((e + 1 : Nat) : Int) ∧ w.grownBy w' (some R) := by
  have hRw : R < w.heap.size := cell_lt h.rd.c0
  obtain ⟨ao, cp, rfl⟩ := hI.slice
  have ht0 : 0 ≤ bt s e := by simp [tabB] at ht; omega
  have ht3 : bt s e < 3 := by simp [tabB] at ht; omega
  have ha := h.keep (below_alloc w (.cells #[.int .i64 0, .string ⟨#[]⟩, .string ⟨#[]⟩] 183))
  have ga := g.keep (below_alloc w (.cells #[.int .i64 0, .string ⟨#[]⟩, .string ⟨#[]⟩] 183))
  have ia := hI.keep (below_alloc w (.cells #[.int .i64 0, .string ⟨#[]⟩, .string ⟨#[]⟩] 183))
  have oa := own3_new w (.int .i64 0) (.string ⟨#[]⟩) (.string ⟨#[]⟩) 183
  go_enter Tryz.func127, Tryz.ntmps127
  go_wp2_with fail
  refine (tab_ok ha h1 ht).mono ?_
  rintro ev w1 ⟨rfl, r1, g1⟩
  have o1 := oa.grown (by simp; omega) g1
  have gl1 := ga.grown hR g1
  have i1 := ia.grown hno g1
  have wk1 := grown_start g1
  have hs1 := g1.size
  simp only [World.size_alloc] at hs1
  clear g1 ha ga ia oa
  go_wp2_with fail
  refine (key_ok r1 gl1 hR ht0 ht3 hk hkb).mono ?_
  rintro ev w2 ⟨rfl, r2, g2⟩
  have hs2 := g2.size
  have qk := below_alloc w2 (.cells #[.int .i64 (bt s e), .string (s.extract (e + 1) (e + 1 + (kbN (bt s e)).toNat))] 83)
  have o3 := (o1.grown (by simp; omega) g2).keep qk
  have r3 := r2.keep qk
  have gl3 := (gl1.grown hR g2).keep qk
  have i3 := (i1.grown hno g2).keep qk
  have wk3 := grown_alloc (grown_trans wk1 g2) (.cells #[.int .i64 (bt s e), .string (s.extract (e + 1) (e + 1 + (kbN (bt s e)).toNat))] 83)
  have kc0 : (w2.alloc (.cells #[.int .i64 (bt s e), .string (s.extract (e + 1) (e + 1 + (kbN (bt s e)).toNat))] 83)).cell? ⟨w2.heap.size, 0, none⟩ = some (.int .i64 (bt s e)) := by simp
  have kc1 : (w2.alloc (.cells #[.int .i64 (bt s e), .string (s.extract (e + 1) (e + 1 + (kbN (bt s e)).toNat))] 83)).cell? ⟨w2.heap.size, 1, none⟩ = some (.string (s.extract (e + 1) (e + 1 + (kbN (bt s e)).toNat))) := by simp
  have hs3 : w2.heap.size < (w2.alloc (.cells #[.int .i64 (bt s e), .string (s.extract (e + 1) (e + 1 + (kbN (bt s e)).toNat))] 83)).heap.size := by simp
  clear qk r2 g2 wk1 o1 gl1 i1 r1
  go_wp2_with fail
  generalize w2.alloc (.cells #[.int .i64 (bt s e), .string (s.extract (e + 1) (e + 1 + (kbN (bt s e)).toNat))] 83) = W3 at *
  refine (wBehind _ l (bt s e) (s.extract (e + 1) (e + 1 + (kbN (bt s e)).toNat)) _ i3 hl).mono ?_
  rintro ev w4 ⟨rfl, q4⟩
  have o4 := o3.keep q4
  have r4 := r3.keep q4
  have gl4 := gl3.keep q4
  have wk4 : w.grownBy w4 (some R) := grown_trans wk3 (grown_of_below q4)
  have kd0 := (q4.cell (p := ⟨w2.heap.size, 0, none⟩) hs3).trans kc0
  have kd1 := (q4.cell (p := ⟨w2.heap.size, 1, none⟩) hs3).trans kc1
  have hs4 := q4.size
  clear q4 o3 r3 gl3 wk3 kc0 kc1
  rw [hbe]
  have HBE : Hid (behind (bt s e) (s.extract (e + 1) (e + 1 + (kbN (bt s e)).toNat)) l = false) := hbe
  clear hbe
  go_wp2_with fail
  refine (rdFault' 14 r4 (by decide) (by decide)).mono ?_
  rintro ev w5 ⟨fb, hfb, rfl, hx, q5⟩
  have o5 := o4.keep q5
  obtain ⟨⟨x0, y0⟩, ⟨x1, y1⟩, ⟨x2, y2⟩, z0, z1, z2⟩ := o5
  have hfb' : w.heap.size < fb := by omega
  have wk5 : w.grownBy w5 (some R) := grown_trans wk4 (grown_of_below q5)
  go_wp2
  exact bodyPost_ret (v := .tuple #[.agg #[.int .i64 0, .string ⟨#[]⟩, .string ⟨#[]⟩], .iface 133 (.pointer (some ⟨fb, 0, none⟩))]) (by simp [results, Tryz.results127, go_sem, y0, y1, y2]) rfl ⟨fb, by omega, rfl, (hx.set (by simp; omega)).set (by simp; omega) |>.set (by simp; omega), grown_new' (grown_new' (grown_new' wk5 (by simp)) (by simp)) (by simp)⟩
set_option maxRecDepth 10000 in
set_option maxHeartbeats 2000000 in
theorem ent_val {w : World} {s : ByteArray} {R B cap b e : Nat} {v : Value} {l : List En} (h : Rdr w s R B cap b e) (g : Glob w) (hR : 2 < R) (hI : EnsIn w v l) (hno : ∀ b off n c, v = .slice (some ⟨b, off, none⟩) n c → b ≠ R) (hl : l.length ≤ 1000000) (h1 : e + 1 ≤ s.size) (ht : tabB (bt s e) = true) (hk : e + 1 + (kbN (bt s e)).toNat ≤ s.size) (hkb : keyB (bt s e) (s.extract (e + 1) (e + 1 + (kbN (bt s e)).toNat)) = true) (hbe : behind (bt s e) (s.extract (e + 1) (e + 1 + (kbN (bt s e)).toNat)) l = true) (hs : s.size < e + 1 + (kbN (bt s e)).toNat + (vbN (bt s e)).toNat ∨ (e + 1 + (kbN (bt s e)).toNat + (vbN (bt s e)).toNat ≤ s.size ∧ valB (bt s e) (s.extract (e + 1 + (kbN (bt s e)).toNat) (e + 1 + (kbN (bt s e)).toNat + (vbN (bt s e)).toNat)) = false)) :
    Calls Tryz.prog 127 #[.pointer (some ⟨R, 0, none⟩), v] w fun ev w' => ∃ fb, w.heap.size ≤ fb ∧ ev = .returned (.tuple #[.agg #[.int .i64 (bt s e), .string (s.extract (e + 1) (e + 1 + (kbN (bt s e)).toNat)), .string ⟨#[]⟩], .iface 133 (.pointer (some ⟨fb, 0, none⟩))]) ∧ ErrIs w' (.iface 133 (.pointer (some ⟨fb, 0, none⟩))) (if s.size < e + 1 + (kbN (bt s e)).toNat + (vbN (bt s e)).toNat then 1 else 9) ((e + 1 + (kbN (bt s e)).toNat : Nat) : Int) ∧ w.grownBy w' (some R) := by
  have hRw : R < w.heap.size := cell_lt h.rd.c0
  obtain ⟨ao, cp, rfl⟩ := hI.slice
  have ht0 : 0 ≤ bt s e := by simp [tabB] at ht; omega
  have ht3 : bt s e < 3 := by simp [tabB] at ht; omega
  have ha := h.keep (below_alloc w (.cells #[.int .i64 0, .string ⟨#[]⟩, .string ⟨#[]⟩] 183))
  have ga := g.keep (below_alloc w (.cells #[.int .i64 0, .string ⟨#[]⟩, .string ⟨#[]⟩] 183))
  have ia := hI.keep (below_alloc w (.cells #[.int .i64 0, .string ⟨#[]⟩, .string ⟨#[]⟩] 183))
  have oa := own3_new w (.int .i64 0) (.string ⟨#[]⟩) (.string ⟨#[]⟩) 183
  have hcall : ∀ w1 b, Rdr w1 s R B cap b (e + 1 + (kbN (bt s e)).toNat) → Glob w1 → Calls Tryz.prog 146 #[.pointer (some ⟨R, 0, none⟩), .int .i64 (bt s e)] w1 fun ev w' => ∃ fb, w1.heap.size ≤ fb ∧ ev = .returned (.tuple #[.string ⟨#[]⟩, .iface 133 (.pointer (some ⟨fb, 0, none⟩))]) ∧ ErrIs w' (.iface 133 (.pointer (some ⟨fb, 0, none⟩))) (if s.size < e + 1 + (kbN (bt s e)).toNat + (vbN (bt s e)).toNat then 1 else 9) ((e + 1 + (kbN (bt s e)).toNat : Nat) : Int) ∧ w1.grownBy w' (some R) := by
    intro w1 b r1 g1
    rcases hs with h1 | ⟨h1, h2⟩
    · rw [if_pos h1]; exact val_short r1 g1 hR ht0 ht3 h1
    · rw [if_neg (by omega)]; exact val_bad r1 g1 hR ht0 ht3 h1 h2
  clear hs
  generalize (if s.size < e + 1 + (kbN (bt s e)).toNat + (vbN (bt s e)).toNat then (1 : Int) else 9) = kk at hcall ⊢
  go_enter Tryz.func127, Tryz.ntmps127
  go_wp2_with fail
  refine (tab_ok ha h1 ht).mono ?_
  rintro ev w1 ⟨rfl, r1, g1⟩
  have o1 := oa.grown (by simp; omega) g1
  have gl1 := ga.grown hR g1
  have i1 := ia.grown hno g1
  have wk1 := grown_start g1
  have hs1 := g1.size
  simp only [World.size_alloc] at hs1
  clear g1 ha ga ia oa
  go_wp2_with fail
  refine (key_ok r1 gl1 hR ht0 ht3 hk hkb).mono ?_
  rintro ev w2 ⟨rfl, r2, g2⟩
  have hs2 := g2.size
  have qk := below_alloc w2 (.cells #[.int .i64 (bt s e), .string (s.extract (e + 1) (e + 1 + (kbN (bt s e)).toNat))] 83)
  have o3 := (o1.grown (by simp; omega) g2).keep qk
  have r3 := r2.keep qk
  have gl3 := (gl1.grown hR g2).keep qk
  have i3 := (i1.grown hno g2).keep qk
  have wk3 := grown_alloc (grown_trans wk1 g2) (.cells #[.int .i64 (bt s e), .string (s.extract (e + 1) (e + 1 + (kbN (bt s e)).toNat))] 83)
  have kc0 : (w2.alloc (.cells #[.int .i64 (bt s e), .string (s.extract (e + 1) (e + 1 + (kbN (bt s e)).toNat))] 83)).cell? ⟨w2.heap.size, 0, none⟩ = some (.int .i64 (bt s e)) := by simp
  have kc1 : (w2.alloc (.cells #[.int .i64 (bt s e), .string (s.extract (e + 1) (e + 1 + (kbN (bt s e)).toNat))] 83)).cell? ⟨w2.heap.size, 1, none⟩ = some (.string (s.extract (e + 1) (e + 1 + (kbN (bt s e)).toNat))) := by simp
  have hs3 : w2.heap.size < (w2.alloc (.cells #[.int .i64 (bt s e), .string (s.extract (e + 1) (e + 1 + (kbN (bt s e)).toNat))] 83)).heap.size := by simp
  clear qk r2 g2 wk1 o1 gl1 i1 r1
  go_wp2_with fail
  generalize w2.alloc (.cells #[.int .i64 (bt s e), .string (s.extract (e + 1) (e + 1 + (kbN (bt s e)).toNat))] 83) = W3 at *
  refine (wBehind _ l (bt s e) (s.extract (e + 1) (e + 1 + (kbN (bt s e)).toNat)) _ i3 hl).mono ?_
  rintro ev w4 ⟨rfl, q4⟩
  have o4 := o3.keep q4
  have r4 := r3.keep q4
  have gl4 := gl3.keep q4
  have wk4 : w.grownBy w4 (some R) := grown_trans wk3 (grown_of_below q4)
  have kd0 := (q4.cell (p := ⟨w2.heap.size, 0, none⟩) hs3).trans kc0
  have kd1 := (q4.cell (p := ⟨w2.heap.size, 1, none⟩) hs3).trans kc1
  have hs4 := q4.size
  clear q4 o3 r3 gl3 wk3 kc0 kc1
  rw [hbe]
  have HBE : Hid (behind (bt s e) (s.extract (e + 1) (e + 1 + (kbN (bt s e)).toNat)) l = true) := hbe
  clear hbe
  go_wp2_with fail
  refine (hcall _ _ r4 gl4).mono ?_
  clear hcall
  rintro ev w5 ⟨fb, hfb, rfl, hx, g5⟩
  have o5 := o4.grown (by simp; omega) g5
  have ke0 := g5.cell kd0 (by simp; omega)
  have ke1 := g5.cell kd1 (by simp; omega)
  have wk5 := grown_trans wk4 g5
  obtain ⟨⟨x0, y0⟩, ⟨x1, y1⟩, ⟨x2, y2⟩, z0, z1, z2⟩ := o5
  have hfb' : w.heap.size < fb := by omega
  go_wp2
  exact bodyPost_ret (v := .tuple #[.agg #[.int .i64 (bt s e), .string (s.extract (e + 1) (e + 1 + (kbN (bt s e)).toNat)), .string ⟨#[]⟩], .iface 133 (.pointer (some ⟨fb, 0, none⟩))]) (by simp [results, Tryz.results127, go_sem, y0, y1, y2]) rfl ⟨fb, by omega, rfl, (hx.set (by simp; omega)).set (by simp; omega) |>.set (by simp; omega), grown_new' (grown_new' (grown_new' wk5 (by simp)) (by simp)) (by simp)⟩
set_option maxRecDepth 10000 in
set_option maxHeartbeats 2000000 in
theorem ent_ok {w : World} {s : ByteArray} {R B cap b e : Nat} {v : Value} {l : List En} (h : Rdr w s R B cap b e) (g : Glob w) (hR : 2 < R) (hI : EnsIn w v l) (hno : ∀ b off n c, v = .slice (some ⟨b, off, none⟩) n c → b ≠ R) (hl : l.length ≤ 1000000) (h1 : e + 1 ≤ s.size) (ht : tabB (bt s e) = true) (hk : e + 1 + (kbN (bt s e)).toNat ≤ s.size) (hkb : keyB (bt s e) (s.extract (e + 1) (e + 1 + (kbN (bt s e)).toNat)) = true) (hbe : behind (bt s e) (s.extract (e + 1) (e + 1 + (kbN (bt s e)).toNat)) l = true) (hs : e + 1 + (kbN (bt s e)).toNat + (vbN (bt s e)).toNat ≤ s.size) (hvb : valB (bt s e) (s.extract (e + 1 + (kbN (bt s e)).toNat) (e + 1 + (kbN (bt s e)).toNat + (vbN (bt s e)).toNat)) = true) :
    Calls Tryz.prog 127 #[.pointer (some ⟨R, 0, none⟩), v] w fun ev w' => ev = .returned (.tuple #[.agg #[.int .i64 (bt s e), .string (s.extract (e + 1) (e + 1 + (kbN (bt s e)).toNat)), .string (s.extract (e + 1 + (kbN (bt s e)).toNat) (e + 1 + (kbN (bt s e)).toNat + (vbN (bt s e)).toNat))], .nilIface]) ∧ (∃ b', Rdr w' s R B cap b' (e + 1 + (kbN (bt s e)).toNat + (vbN (bt s e)).toNat)) ∧ w.grownBy w' (some R) := by
  have hBw : B < w.heap.size := cell_lt (h.bs e (by omega))
  have hRw : R < w.heap.size := cell_lt h.rd.c0
  obtain ⟨ao, cp, rfl⟩ := hI.slice
  have ht0 : 0 ≤ bt s e := by simp [tabB] at ht; omega
  have ht3 : bt s e < 3 := by simp [tabB] at ht; omega
  have ha := h.keep (below_alloc w (.cells #[.int .i64 0, .string ⟨#[]⟩, .string ⟨#[]⟩] 183))
  have ga := g.keep (below_alloc w (.cells #[.int .i64 0, .string ⟨#[]⟩, .string ⟨#[]⟩] 183))
  have ia := hI.keep (below_alloc w (.cells #[.int .i64 0, .string ⟨#[]⟩, .string ⟨#[]⟩] 183))
  have oa := own3_new w (.int .i64 0) (.string ⟨#[]⟩) (.string ⟨#[]⟩) 183
  go_enter Tryz.func127, Tryz.ntmps127
  go_wp2_with fail
  refine (tab_ok ha h1 ht).mono ?_
  rintro ev w1 ⟨rfl, r1, g1⟩
  have o1 := oa.grown (by simp; omega) g1
  have gl1 := ga.grown hR g1
  have i1 := ia.grown hno g1
  have wk1 := grown_start g1
  have hs1 := g1.size
  simp only [World.size_alloc] at hs1
  clear g1 ha ga ia oa
  go_wp2_with fail
  refine (key_ok r1 gl1 hR ht0 ht3 hk hkb).mono ?_
  rintro ev w2 ⟨rfl, r2, g2⟩
  have hs2 := g2.size
  have qk := below_alloc w2 (.cells #[.int .i64 (bt s e), .string (s.extract (e + 1) (e + 1 + (kbN (bt s e)).toNat))] 83)
  have o3 := (o1.grown (by simp; omega) g2).keep qk
  have r3 := r2.keep qk
  have gl3 := (gl1.grown hR g2).keep qk
  have i3 := (i1.grown hno g2).keep qk
  have wk3 := grown_alloc (grown_trans wk1 g2) (.cells #[.int .i64 (bt s e), .string (s.extract (e + 1) (e + 1 + (kbN (bt s e)).toNat))] 83)
  have kc0 : (w2.alloc (.cells #[.int .i64 (bt s e), .string (s.extract (e + 1) (e + 1 + (kbN (bt s e)).toNat))] 83)).cell? ⟨w2.heap.size, 0, none⟩ = some (.int .i64 (bt s e)) := by simp
  have kc1 : (w2.alloc (.cells #[.int .i64 (bt s e), .string (s.extract (e + 1) (e + 1 + (kbN (bt s e)).toNat))] 83)).cell? ⟨w2.heap.size, 1, none⟩ = some (.string (s.extract (e + 1) (e + 1 + (kbN (bt s e)).toNat))) := by simp
  have hs3 : w2.heap.size < (w2.alloc (.cells #[.int .i64 (bt s e), .string (s.extract (e + 1) (e + 1 + (kbN (bt s e)).toNat))] 83)).heap.size := by simp
  clear qk r2 g2 wk1 o1 gl1 i1 r1
  go_wp2_with fail
  generalize w2.alloc (.cells #[.int .i64 (bt s e), .string (s.extract (e + 1) (e + 1 + (kbN (bt s e)).toNat))] 83) = W3 at *
  refine (wBehind _ l (bt s e) (s.extract (e + 1) (e + 1 + (kbN (bt s e)).toNat)) _ i3 hl).mono ?_
  rintro ev w4 ⟨rfl, q4⟩
  have o4 := o3.keep q4
  have r4 := r3.keep q4
  have gl4 := gl3.keep q4
  have wk4 : w.grownBy w4 (some R) := grown_trans wk3 (grown_of_below q4)
  have kd0 := (q4.cell (p := ⟨w2.heap.size, 0, none⟩) hs3).trans kc0
  have kd1 := (q4.cell (p := ⟨w2.heap.size, 1, none⟩) hs3).trans kc1
  have hs4 := q4.size
  clear q4 o3 r3 gl3 wk3 kc0 kc1
  rw [hbe]
  have HBE : Hid (behind (bt s e) (s.extract (e + 1) (e + 1 + (kbN (bt s e)).toNat)) l = true) := hbe
  clear hbe
  go_wp2_with fail
  refine (val_ok r4 gl4 hR ht0 ht3 hs hvb).mono ?_
  rintro ev w5 ⟨rfl, r5, g5⟩
  have o5 := o4.grown (by simp; omega) g5
  have ke0 := g5.cell kd0 (by simp; omega)
  have ke1 := g5.cell kd1 (by simp; omega)
  have wk5 := grown_trans wk4 g5
  obtain ⟨⟨x0, y0⟩, ⟨x1, y1⟩, ⟨x2, y2⟩, z0, z1, z2⟩ := o5
  go_wp2
  exact bodyPost_ret (v := .tuple #[.agg #[.int .i64 (bt s e), .string (s.extract (e + 1) (e + 1 + (kbN (bt s e)).toNat)), .string (s.extract (e + 1 + (kbN (bt s e)).toNat) (e + 1 + (kbN (bt s e)).toNat + (vbN (bt s e)).toNat))], .nilIface]) (by simp [results, Tryz.results127, go_sem, y0, y1, y2]) rfl ⟨rfl, ⟨_, ((r5.set (by simp; omega) (by simp; omega)).set (by simp; omega) (by simp; omega)).set (by simp; omega) (by simp; omega)⟩, grown_new' (grown_new' (grown_new' wk5 (by simp)) (by simp)) (by simp)⟩

theorem rdEntry {w : World} {s : ByteArray} {R B cap b e : Nat} {v : Value} {l : List En} (h : Rdr w s R B cap b e) (g : Glob w) (hR : 2 < R) (hI : EnsIn w v l) (hno : ∀ b off n c, v = .slice (some ⟨b, off, none⟩) n c → b ≠ R) (hl : l.length ≤ 1000000) :
    Calls Tryz.prog 127 #[.pointer (some ⟨R, 0, none⟩), v] w fun ev w' =>
      (∃ k a, ent s e l = .error (k, a) ∧ ∃ (fb : Nat) (x : En), w.heap.size ≤ fb ∧ ev = .returned (.tuple #[.agg #[.int .i64 x.t, .string x.k, .string x.v], .iface 133 (.pointer (some ⟨fb, 0, none⟩))]) ∧ ErrIs w' (.iface 133 (.pointer (some ⟨fb, 0, none⟩))) k a ∧ w.grownBy w' (some R)) ∨
      (∃ (x : En) (e' : Nat), ent s e l = .ok (x, e') ∧ ev = .returned (.tuple #[.agg #[.int .i64 x.t, .string x.k, .string x.v], .nilIface]) ∧ (∃ b', Rdr w' s R B cap b' e') ∧ w.grownBy w' (some R)) := by
  by_cases c1 : s.size < e + 1
  · refine (ent_tab h hI (.inl c1)).mono ?_
    rintro ev w' ⟨fb, h1, h2, h3, h4⟩
    rw [if_pos c1] at h3
    exact .inl ⟨_, _, by rw [ent, if_pos c1], fb, ⟨0, ⟨#[]⟩, ⟨#[]⟩⟩, h1, h2, h3, h4⟩
  cases c2 : tabB (bt s e)
  · refine (ent_tab h hI (.inr ⟨by omega, c2⟩)).mono ?_
    rintro ev w' ⟨fb, h1, h2, h3, h4⟩
    rw [if_neg c1] at h3
    exact .inl ⟨_, _, by rw [ent, if_neg c1, if_pos c2], fb, ⟨0, ⟨#[]⟩, ⟨#[]⟩⟩, h1, h2, h3, h4⟩
  have n2 : ¬ tabB (bt s e) = false := by rw [c2]; simp
  by_cases c3 : s.size < e + 1 + (kbN (bt s e)).toNat
  · refine (ent_key h g hR hI hno hl (by omega) c2 (.inl c3)).mono ?_
    rintro ev w' ⟨fb, h1, h2, h3, h4⟩
    rw [if_pos c3] at h3
    exact .inl ⟨_, _, by rw [ent, if_neg c1, if_neg n2, if_pos c3], fb, ⟨0, ⟨#[]⟩, ⟨#[]⟩⟩, h1, h2, h3, h4⟩
  cases c4 : keyB (bt s e) (s.extract (e + 1) (e + 1 + (kbN (bt s e)).toNat))
  · refine (ent_key h g hR hI hno hl (by omega) c2 (.inr ⟨by omega, c4⟩)).mono ?_
    rintro ev w' ⟨fb, h1, h2, h3, h4⟩
    rw [if_neg c3] at h3
    exact .inl ⟨_, _, by rw [ent, if_neg c1, if_neg n2, if_neg c3, if_pos c4], fb, ⟨0, ⟨#[]⟩, ⟨#[]⟩⟩, h1, h2, h3, h4⟩
  have n4 : ¬ keyB (bt s e) (s.extract (e + 1) (e + 1 + (kbN (bt s e)).toNat)) = false := by rw [c4]; simp
  cases c5 : behind (bt s e) (s.extract (e + 1) (e + 1 + (kbN (bt s e)).toNat)) l
  · refine (ent_ord h g hR hI hno hl (by omega) c2 (by omega) c4 c5).mono ?_
    rintro ev w' ⟨fb, h1, h2, h3, h4⟩
    exact .inl ⟨_, _, by rw [ent, if_neg c1, if_neg n2, if_neg c3, if_neg n4, if_pos c5], fb, ⟨0, ⟨#[]⟩, ⟨#[]⟩⟩, h1, h2, h3, h4⟩
  have n5 : ¬ behind (bt s e) (s.extract (e + 1) (e + 1 + (kbN (bt s e)).toNat)) l = false := by rw [c5]; simp
  by_cases c7 : s.size < e + 1 + (kbN (bt s e)).toNat + (vbN (bt s e)).toNat
  · refine (ent_val h g hR hI hno hl (by omega) c2 (by omega) c4 c5 (.inl c7)).mono ?_
    rintro ev w' ⟨fb, h1, h2, h3, h4⟩
    rw [if_pos c7] at h3
    exact .inl ⟨_, _, by rw [ent, if_neg c1, if_neg n2, if_neg c3, if_neg n4, if_neg n5, if_pos c7], fb, ⟨bt s e, (s.extract (e + 1) (e + 1 + (kbN (bt s e)).toNat)), ⟨#[]⟩⟩, h1, h2, h3, h4⟩
  cases c8 : valB (bt s e) (s.extract (e + 1 + (kbN (bt s e)).toNat) (e + 1 + (kbN (bt s e)).toNat + (vbN (bt s e)).toNat))
  · refine (ent_val h g hR hI hno hl (by omega) c2 (by omega) c4 c5 (.inr ⟨by omega, c8⟩)).mono ?_
    rintro ev w' ⟨fb, h1, h2, h3, h4⟩
    rw [if_neg c7] at h3
    exact .inl ⟨_, _, by rw [ent, if_neg c1, if_neg n2, if_neg c3, if_neg n4, if_neg n5, if_neg c7, if_pos c8], fb, ⟨bt s e, (s.extract (e + 1) (e + 1 + (kbN (bt s e)).toNat)), ⟨#[]⟩⟩, h1, h2, h3, h4⟩
  have n8 : ¬ valB (bt s e) (s.extract (e + 1 + (kbN (bt s e)).toNat) (e + 1 + (kbN (bt s e)).toNat + (vbN (bt s e)).toNat)) = false := by rw [c8]; simp
  refine (ent_ok h g hR hI hno hl (by omega) c2 (by omega) c4 c5 (by omega) c8).mono ?_
  rintro ev w' ⟨h1, h2, h3⟩
  exact .inr ⟨⟨bt s e, (s.extract (e + 1) (e + 1 + (kbN (bt s e)).toNat)), (s.extract (e + 1 + (kbN (bt s e)).toNat) (e + 1 + (kbN (bt s e)).toNat + (vbN (bt s e)).toNat))⟩, _, by rw [ent, if_neg c1, if_neg n2, if_neg c3, if_neg n4, if_neg n5, if_neg c7, if_neg n8], h1, h2, h3⟩
end Go.Proofs.YtindifjhocgkbaaGreatDoor
namespace Go.Proofs.YtindifjhocgkbaaGreatDoor
open Go.RowKit

/-- What the loop of state knows. -/
structure SL (w wr : World) (s : ByteArray) (R B cap : Nat) (l : List En) (e : Nat) (v : Value) : Prop where
  own : wr.ownsRow w.heap.size 183 3 v l.length (cellsE l)
  rd : ∃ b', Rdr wr s R B cap b' e
  gl : Glob wr
  gr : w.grownBy wr (some R)
  hR : R < w.heap.size
  hB : B < w.heap.size
  h2 : 2 < R
theorem SL.keep {w wr w' : World} {s : ByteArray} {R B cap : Nat} {l : List En} {e : Nat} {v : Value} (h : SL w wr s R B cap l e v) (q : Below wr.heap.size wr w') : SL w w' s R B cap l e v := by
  obtain ⟨b', hb⟩ := h.rd
  exact ⟨h.own.kept (grown_of_below (r := none) q) (by cases v.ownBlock <;> simp), ⟨b', hb.keep q⟩, h.gl.keep q, grown_trans h.gr (grown_of_below q), h.hR, h.hB, h.h2⟩
theorem SL.grown {w wr w' : World} {s : ByteArray} {R B cap : Nat} {l : List En} {e e' : Nat} {v : Value} (h : SL w wr s R B cap l e v) (hr : ∃ b', Rdr w' s R B cap b' e') (g : wr.grownBy w' (some R)) : SL w w' s R B cap l e' v := by
  have hR := h.hR
  exact ⟨h.own.kept g (.inr (fun e1 => by have := (h.own.lt R e1).1; omega)), hr, h.gl.grown h.h2 g, grown_trans h.gr g, h.hR, h.hB, h.h2⟩
theorem SL.push {w wr w' : World} {s : ByteArray} {R B cap : Nat} {l l' : List En} {e : Nat} {v v' : Value} (h : SL w wr s R B cap l e v) (ho : w'.ownsRow w.heap.size 183 3 v' l'.length (cellsE l')) (g : wr.grownBy w' v.ownBlock) : SL w w' s R B cap l' e v' := by
  have hR := h.hR
  have hB := h.hB
  have h2 := h.h2
  have hlt := h.own.lt
  have ne : ∀ k, k < w.heap.size → some k ≠ v.ownBlock := fun k hk e1 => by have := (hlt k e1.symm).1; omega
  have hf : ∀ (a : Addr), a.block < w.heap.size → a.block < wr.heap.size → w'.frozen? a = wr.frozen? a := fun a h1 h2 => World.frozen?_of_block (g.block _ h2 (ne _ h1))
  obtain ⟨b', rb⟩ := h.rd
  refine ⟨ho, ⟨b', ⟨⟨g.cell rb.rd.c0 (ne _ hR), g.cell rb.rd.c1 (ne _ hR), g.cell rb.rd.c2 (ne _ hR), (hf _ hR (cell_lt rb.rd.c1)).trans rb.rd.f1, (hf _ hR (cell_lt rb.rd.c2)).trans rb.rd.f2⟩, fun i hi => g.cell (rb.bs i hi) (ne _ hB), rb.ne, rb.le, rb.cp, rb.mx⟩⟩, ?_, ?_, hR, hB, h2⟩
  · have n0 := ne 0 (by omega)
    have n1 := ne 1 (by omega)
    have n2 := ne 2 (by omega)
    exact ⟨g.cell h.gl.k0 (ne _ (by simp; omega)), g.cell h.gl.k1 (ne _ (by simp; omega)), g.cell h.gl.k2 (ne _ (by simp; omega)), g.cell h.gl.v0 (ne _ (by simp; omega)), g.cell h.gl.v1 (ne _ (by simp; omega)), g.cell h.gl.v2 (ne _ (by simp; omega))⟩
  · exact ⟨g.os.trans h.gr.os, g.tape.trans h.gr.tape, g.output.trans h.gr.output, Nat.le_trans h.gr.size g.size, fun k hk hne => (g.block k (Nat.lt_of_lt_of_le hk h.gr.size) (ne _ hk)).trans (h.gr.block k hk hne)⟩
theorem SL.ens {w wr : World} {s : ByteArray} {R B cap : Nat} {l : List En} {e : Nat} {v : Value} (h : SL w wr s R B cap l e v) : EnsIn wr v l ∧ (∀ b off n c, v = .slice (some ⟨b, off, none⟩) n c → b ≠ R) := by
  refine ⟨EnsIn.of_owns h.own, fun b off n c hv e1 => ?_⟩
  have hR := h.hR
  have := (h.own.lt b (by rw [hv]; rfl)).1
  omega

set_option maxRecDepth 10000 in
set_option maxHeartbeats 1000000 in
theorem st_ver {w : World} {s : ByteArray} {R B cap b : Nat} (h : Rdr w s R B cap b 0) (hs : s.size < 8 ∨ (8 ≤ s.size ∧ verB (numAt s 0 8) = false)) :
    Calls Tryz.prog 108 #[.pointer (some ⟨R, 0, none⟩)] w fun ev w' => ∃ fb, w.heap.size ≤ fb ∧ ev = .returned (.tuple #[.int .u64 0, .slice none 0 0, .iface 133 (.pointer (some ⟨fb, 0, none⟩))]) ∧ ErrIs w' (.iface 133 (.pointer (some ⟨fb, 0, none⟩))) (if s.size < 8 then 1 else 4) 0 ∧ w.grownBy w' (some R) := by
  have hcall : Calls Tryz.prog 124 #[.pointer (some ⟨R, 0, none⟩)] w fun ev w' => ∃ fb, w.heap.size ≤ fb ∧ ev = .returned (.tuple #[.int .u64 0, .iface 133 (.pointer (some ⟨fb, 0, none⟩))]) ∧ ErrIs w' (.iface 133 (.pointer (some ⟨fb, 0, none⟩))) (if s.size < 8 then 1 else 4) 0 ∧ w.grownBy w' (some R) := by
    rcases hs with h1 | ⟨h1, h2⟩
    · rw [if_pos h1]; exact ver_short h (by omega)
    · rw [if_neg (by omega)]; exact ver_bad h (by omega) h2
  generalize (if s.size < 8 then (1 : Int) else 4) = kk at hcall ⊢
  go_enter Tryz.func108, Tryz.ntmps108
  go_wp2_with fail
  refine hcall.mono ?_
  clear hcall
  rintro ev w1 ⟨fb, hfb, rfl, hx, g1⟩
  go_wp2
  go_ret3
  exact ⟨fb, hfb, rfl, hx, g1⟩
set_option maxRecDepth 10000 in
set_option maxHeartbeats 1000000 in
theorem st_cnt {w : World} {s : ByteArray} {R B cap b : Nat} (h : Rdr w s R B cap b 0) (h8 : 8 ≤ s.size) (hv : verB (numAt s 0 8) = true) (hs : s.size < 10) :
    Calls Tryz.prog 108 #[.pointer (some ⟨R, 0, none⟩)] w fun ev w' => ∃ fb, w.heap.size ≤ fb ∧ ev = .returned (.tuple #[.int .u64 0, .slice none 0 0, .iface 133 (.pointer (some ⟨fb, 0, none⟩))]) ∧ ErrIs w' (.iface 133 (.pointer (some ⟨fb, 0, none⟩))) 1 8 ∧ w.grownBy w' (some R) := by
  go_enter Tryz.func108, Tryz.ntmps108
  go_wp2_with fail
  refine (ver_ok h (by omega) hv).mono ?_
  rintro ev w1 ⟨rfl, r1, g1⟩
  go_wp2_with fail
  refine (pc_no 2 r1 (by omega) (by omega)).mono ?_
  rintro ev w2 ⟨fb, hfb, rfl, hx, g2⟩
  go_wp2
  go_ret3
  exact ⟨fb, Nat.le_trans g1.size hfb, rfl, hx, grown_trans g1 g2⟩

theorem ent_new (W : World) (B : Nat) (hB : B = W.heap.size) (x : En) : ∀ j u, (e3 x)[j]? = some u → (W.alloc (.cells #[.int .i64 x.t, .string x.k, .string x.v] 183)).cell? ((⟨B, 0, none⟩ : Addr).add j) = some u := by
  subst hB
  intro j u hj
  rw [Addr.add_lit, Nat.zero_add, World.cell?_alloc_at _ _ _ j rfl]
  simpa [e3] using hj
set_option maxRecDepth 10000 in
set_option maxHeartbeats 4000000 in
theorem st_main {w : World} {s : ByteArray} {R B cap b n : Nat} (h : Rdr w s R B cap b 0) (g : Glob w) (h2 : 2 < R) (h10 : 10 ≤ s.size) (hv : verB (numAt s 0 8) = true) (hn : (n : Int) = numAt s 8 2) :
    Calls Tryz.prog 108 #[.pointer (some ⟨R, 0, none⟩)] w fun ev w' =>
      (∃ k a, ents s n 10 [] = .error (k, a) ∧ ∃ (fb : Nat), w.heap.size ≤ fb ∧ ev = .returned (.tuple #[.int .u64 0, .slice none 0 0, .iface 133 (.pointer (some ⟨fb, 0, none⟩))]) ∧ ErrIs w' (.iface 133 (.pointer (some ⟨fb, 0, none⟩))) k a ∧ w.grownBy w' (some R)) ∨
      (∃ (l : List En) (e : Nat) (v : Value), ents s n 10 [] = .ok (l, e) ∧ ev = .returned (.tuple #[.int .u64 (numAt s 0 8), v, .nilIface]) ∧ w'.ownsRow w.heap.size 183 3 v l.length (cellsE l) ∧ (∃ b', Rdr w' s R B cap b' e) ∧ w.grownBy w' (some R)) := by
  have hRw : R < w.heap.size := cell_lt h.rd.c0
  have hBw : B < w.heap.size := cell_lt (h.bs 0 (by omega))
  have b8 := bt_lo s 8
  have b9 := bt_lo s 9
  have hn8 : n ≤ 65535 := by rw [numAt2] at hn; omega
  obtain ⟨i0, hi, hz0, hz1, hz2⟩ := info_parts Tryz.infoEn
  go_enter Tryz.func108, Tryz.ntmps108
  go_wp2_with fail
  refine (ver_ok h (by omega) hv).mono ?_
  rintro ev w1 ⟨rfl, r1, g1⟩
  go_wp2_with fail
  refine (pc_ok 2 r1 (by omega) (by omega)).mono ?_
  rintro ev w2 ⟨rfl, rr2, g2⟩
  have g12 := grown_trans g1 g2
  go_wp2_with fail
  refine (wNumber s B 8 2 _ _ rr2.bs (by omega) (by omega)).mono ?_
  rintro ev w3 ⟨rfl, rfl⟩
  have hSL : SL w w3 s R B cap [] 10 (.slice none 0 0) := ⟨World.ownsRow_nil _ _ _ _, ⟨_, rr2⟩, g.grown h2 g12, g12, hRw, hBw, h2⟩
  have hwk := g12
  clear g1 g2 rr2 r1 g12 b8 b9
  rw [← hn]
  have HN : Hid ((n : Int) = numAt s 8 2) := hn
  clear hn
  go_wp2_with fail
  go_loopw [8, 29] (fun y i wr => ∃ (j : Nat) (l : List En) (e : Nat), j ≤ n ∧ i = .int .u64 j ∧ l.length = j ∧ ents s n 10 [] = ents s (n - j) e l ∧ SL w wr s R B cap l e y)
    (fun _ i _ => n - (intOf i).toNat)
  case atStart => exact ⟨0, [], 10, Nat.zero_le _, rfl, rfl, rfl, hSL⟩
  case round =>
    obtain ⟨j, l, e, hj, rfl, hlj, hch, hd⟩ := hrel
    have HCH : Hid (ents s n 10 [] = ents s (n - j) e l) := hch
    have HLJ : Hid (l.length = j) := hlj
    have hl8 : l.length ≤ 65535 := by omega
    clear hch hlj hSL
    by_cases hlt : j < n
    · obtain ⟨b1, rb⟩ := hd.rd
      obtain ⟨ao, cp, rfl⟩ := hd.ens.1.slice
      go_wp2_with fail
      refine (rdEntry rb hd.gl h2 hd.ens.1 hd.ens.2 (by omega)).mono ?_
      rintro ev w4 (⟨k, a, hce, fb, x, hfb, rfl, hx, g4⟩ | ⟨x, e', hce, rfl, hr4, g4⟩)
      · have HE : Hid (ents s n 10 [] = .error (k, a)) := by
          show _ = _
          rw [HCH.out, show n - j = (n - j - 1) + 1 by omega, ents, hce]
        have hx' := hx.keep (below_alloc w4 (.cells #[.int .i64 x.t, .string x.k, .string x.v] 183))
        have hgr := grown_alloc (grown_trans hd.gr g4) (.cells #[.int .i64 x.t, .string x.k, .string x.v] 183)
        have hsz := hd.gr.size
        clear hce hx
        go_wp2
        go_ret3
        exact .inl ⟨k, a, HE.out, fb, by omega, rfl, hx', hgr⟩
      · have HE : Hid (ents s n 10 [] = ents s (n - (j + 1)) e' (l ++ [x])) := by
          show _ = _
          rw [HCH.out, show n - j = (n - (j + 1)) + 1 by omega, ents, hce]
        have hd4 := (hd.grown hr4 g4).keep (below_alloc w4 (.cells #[.int .i64 x.t, .string x.k, .string x.v] 183))
        have hd5 := hd4.keep (below_alloc _ (.cells #[.int .i64 x.t, .string x.k, .string x.v] 183))
        have hsz := hd5.gr.size
        clear hce
        go_wp2_with (at_builtin; go_must (refine wpList_append_own _ rfl _ _ 112 rfl w.heap.size 183 i0 zE 3 40 Tryz.underlying112 hi hz0 hz1 hz2 rfl (by decide) (.slice ao l.length cp) l.length (cellsE l) rfl hd5.own ⟨w4.heap.size + 1, 0, none⟩ 1 1 (e3 x) rfl rfl (ent_new _ _ (by simp) x) (e3_one x) (by unfold maxLen; omega) (by omega) hsz ?_); intro v6 w6 hown6 hgrow6 _)
        go_roundw
        case rel =>
          have hp := hd5.push (l' := l ++ [x]) (by rw [cells_snoc, List.length_append]; exact hown6) hgrow6
          exact ⟨j + 1, l ++ [x], e', by omega, by go_num, by have := HLJ.out; simp; omega, HE.out, hp⟩
        case measure => simp [intOf]; omega
    · obtain rfl : j = n := by omega
      have HE : Hid (ents s j 10 [] = .ok (l, e)) := by
        show _ = _
        rw [HCH.out, Nat.sub_self, ents]
      have hrd := hd.rd
      have hgr := hd.gr
      have hown := hd.own
      go_wp2
      go_ret3
      exact .inr ⟨l, e, _, HE.out, rfl, hown, hrd, hgr⟩

theorem rdState {w : World} {s : ByteArray} {R B cap b : Nat} (h : Rdr w s R B cap b 0) (g : Glob w) (h2 : 2 < R) :
    Calls Tryz.prog 108 #[.pointer (some ⟨R, 0, none⟩)] w fun ev w' =>
      (∃ k a, stl s = .error (k, a) ∧ ∃ (fb : Nat), w.heap.size ≤ fb ∧ ev = .returned (.tuple #[.int .u64 0, .slice none 0 0, .iface 133 (.pointer (some ⟨fb, 0, none⟩))]) ∧ ErrIs w' (.iface 133 (.pointer (some ⟨fb, 0, none⟩))) k a ∧ w.grownBy w' (some R)) ∨
      (∃ (v : Int) (l : List En) (e : Nat) (x : Value), stl s = .ok (v, l, e) ∧ ev = .returned (.tuple #[.int .u64 v, x, .nilIface]) ∧ w'.ownsRow w.heap.size 183 3 x l.length (cellsE l) ∧ (∃ b', Rdr w' s R B cap b' e) ∧ w.grownBy w' (some R)) := by
  by_cases c1 : s.size < 8
  · refine (st_ver h (.inl c1)).mono ?_
    rintro ev w' ⟨fb, h1, h2, h3, h4⟩
    rw [if_pos c1] at h3
    exact .inl ⟨1, 0, by rw [stl, if_pos c1], fb, h1, h2, h3, h4⟩
  cases c2 : verB (numAt s 0 8)
  · refine (st_ver h (.inr ⟨by omega, c2⟩)).mono ?_
    rintro ev w' ⟨fb, h1, h2, h3, h4⟩
    rw [if_neg c1] at h3
    exact .inl ⟨4, 0, by rw [stl, if_neg c1, if_pos c2], fb, h1, h2, h3, h4⟩
  have n2 : ¬ verB (numAt s 0 8) = false := by rw [c2]; simp
  by_cases c3 : s.size < 10
  · refine (st_cnt h (by omega) c2 c3).mono ?_
    rintro ev w' ⟨fb, h1, h2, h3, h4⟩
    exact .inl ⟨1, 8, by rw [stl, if_neg c1, if_neg n2, if_pos c3], fb, h1, h2, h3, h4⟩
  have b8 := bt_lo s 8
  have b9 := bt_lo s 9
  have hnn := numAt2 s
  refine (st_main (n := (numAt s 8 2).toNat) h g h2 (by omega) c2 (by omega)).mono ?_
  rintro ev w' (⟨k, a, hc, fb, h1, h3, h4, h5⟩ | ⟨l, e, x, hc, h3, h4, h5, h6⟩)
  · exact .inl ⟨k, a, by rw [stl, if_neg c1, if_neg n2, if_neg c3, hc], fb, h1, h3, h4, h5⟩
  · exact .inr ⟨_, l, e, x, by rw [stl, if_neg c1, if_neg n2, if_neg c3, hc], h3, h4, h5, h6⟩
end Go.Proofs.YtindifjhocgkbaaGreatDoor
namespace Go.Proofs.YtindifjhocgkbaaGreatDoor
open Go.RowKit

/-- What DecodeAll answers. -/
def StaIs (w0 w : World) (s : ByteArray) (ev : Ending) : Prop :=
  (∃ k a fb, sta s = .error (k, a) ∧ ev = .returned (.tuple #[.int .u64 0, .slice none 0 0, .iface 133 (.pointer (some ⟨fb, 0, none⟩))]) ∧ ErrIs w (.iface 133 (.pointer (some ⟨fb, 0, none⟩))) k a) ∨
  (∃ v l x, sta s = .ok (v, l) ∧ ev = .returned (.tuple #[.int .u64 v, x, .nilIface]) ∧ w.ownsRow w0.heap.size 183 3 x l.length (cellsE l))
theorem below_fresh' {w W : World} {R : Nat} (g : w.grownBy W (some R)) (hR : w.heap.size ≤ R) : Below w.heap.size w W :=
  ⟨g.os, g.tape, g.output, g.size, fun k hk => g.block k hk (by simp; omega)⟩

set_option maxRecDepth 10000 in
set_option maxHeartbeats 2000000 in
theorem wDecodeAll (s : ByteArray) (B cap : Nat) (w : World) (g : Glob w) (hB : B < w.heap.size) (hb : BytesAt w B s) (hc : s.size ≤ cap) (hm : cap ≤ 9223372036854775807) :
    Calls Tryz.prog 82 #[.slice (some ⟨B, 0, none⟩) s.size cap] w fun ev w' => StaIs w w' s ev ∧ Below w.heap.size w w' := by
  have h2 := g.lt
  have qa := below_alloc w (.cells #[.slice (some ⟨B, 0, none⟩) s.size cap, .int .i64 0, .int .i64 0] 191)
  have hr : Rdr (w.alloc (.cells #[.slice (some ⟨B, 0, none⟩) s.size cap, .int .i64 0, .int .i64 0] 191)) s w.heap.size B cap 0 0 :=
    ⟨⟨by simp, by simp, by simp, by simp, by simp⟩, hb.keep qa, by omega, by omega, hc, hm⟩
  have ga := g.keep qa
  go_enter Tryz.func82, Tryz.ntmps82
  go_wp2_with fail
  refine (rdState hr ga (by omega)).mono ?_
  rintro ev w1 (⟨k, a, hd, fb, hfb, rfl, hx, g1⟩ | ⟨v, l, e, x, hd, rfl, hown, ⟨b', rb⟩, g1⟩)
  · have HD : Hid (sta s = .error (k, a)) := by show _ = _; rw [sta, hd]
    have q1 := below_fresh' (grown_start g1) (Nat.le_refl _)
    clear hd
    go_wp2
    go_ret3
    exact ⟨.inl ⟨k, a, fb, HD.out, rfl, hx⟩, q1⟩
  · have q1 := below_fresh' (grown_start g1) (Nat.le_refl _)
    obtain ⟨ao, cp, rfl⟩ := own_slice hown
    by_cases he : e < s.size
    · have HD : Hid (sta s = .error (2, (e : Int))) := by show _ = _; rw [sta, hd]; simp [he]
      clear hd
      go_wp2_with fail
      refine (rdDone_more rb he).mono ?_
      rintro ev w2 ⟨fb, hfb, rfl, hx, q2⟩
      go_wp2
      go_ret3
      exact ⟨.inl ⟨2, _, fb, HD.out, rfl, hx⟩, below_trans q1 q2⟩
    · have HD : Hid (sta s = .ok (v, l)) := by show _ = _; rw [sta, hd]; simp [he]
      clear hd
      go_wp2_with fail
      refine (rdDone_ok rb he).mono ?_
      rintro ev w2 ⟨rfl, q2⟩
      have hown2 := hown.kept (grown_of_below (r := none) q2) (by cases (Value.slice ao l.length cp).ownBlock <;> simp)
      go_wp2
      go_ret3
      exact ⟨.inr ⟨v, l, _, HD.out, rfl, own_mono hown2 (by simp)⟩, below_trans q1 q2⟩

/-- What overlay's DecodeAll answers: nothing and the fault, or tables. -/
def OStaIs (w0 w : World) (s : ByteArray) (ev : Ending) : Prop :=
  (∃ k a fb, sta s = .error (k, a) ∧ ev = .returned (.tuple #[.int .u64 0, .pointer none, .iface 133 (.pointer (some ⟨fb, 0, none⟩))]) ∧ ErrIs w (.iface 133 (.pointer (some ⟨fb, 0, none⟩))) k a) ∨
  (∃ v l T, sta s = .ok (v, l) ∧ w0.heap.size ≤ T ∧ ev = .returned (.tuple #[.int .u64 v, .pointer (some ⟨T, 0, none⟩), .nilIface]) ∧ TabIs w T l)
set_option maxHeartbeats 1000000 in
theorem oDecodeAll (s : ByteArray) (B cap : Nat) (w : World) (g : Glob w) (hB : B < w.heap.size) (hb : BytesAt w B s) (hc : s.size ≤ cap) (hm : cap ≤ 9223372036854775807) :
    Calls Tryz.prog 56 #[.slice (some ⟨B, 0, none⟩) s.size cap] w fun ev w' => OStaIs w w' s ev ∧ Below w.heap.size w w' := by
  go_enter Tryz.func56, Tryz.ntmps56
  go_wp2_with fail
  refine (wDecodeAll s B cap _ g hB hb hc hm).mono ?_
  rintro ev w1 ⟨hd, q1⟩
  rcases hd with ⟨k, a, fb, he, rfl, hx⟩ | ⟨v, l, x, he, rfl, hown⟩
  · have HE : Hid (sta s = .error (k, a)) := he
    clear he
    go_wp2
    go_ret3
    exact ⟨.inl ⟨k, a, fb, HE.out, rfl, hx⟩, q1⟩
  · have HE : Hid (sta s = .ok (v, l)) := he
    clear he
    obtain ⟨ao, cp, rfl⟩ := own_slice hown
    have q := q1.size
    go_wp2
    go_ret3
    exact ⟨.inr ⟨v, l, _, HE.out, q, rfl, ⟨_, heap_alloc_new _ _, own_mono (hown.alloc _) (Nat.zero_le _)⟩⟩, below_trans q1 (below_alloc _ _)⟩
end Go.Proofs.YtindifjhocgkbaaGreatDoor
namespace Go.Proofs.YtindifjhocgkbaaGreatDoor
open Go.RowKit

/-- '[]byte(s)'. -/
theorem bytes_of' (s : ByteArray) (W : World) (hs : s.size ≤ maxLen) : ∃ cp W1, (convert 9 53 (.string s)).run Tryz.prog W = .ok (.slice (some ⟨W.heap.size, 0, none⟩) s.size cp) W1 ∧ s.size ≤ cp ∧ cp ≤ 9223372036854775807 ∧ BytesAt W1 W.heap.size s ∧ (∀ i, i < s.size → W1.frozen? ⟨W.heap.size, i, none⟩ = false) ∧ Below W.heap.size W W1 ∧ W1.heap.size = W.heap.size + 1 := by
  have hz : s.data.size = s.size := rfl
  have hge := grownCap_ge W s.size 0 5
  have hcell : (W.drew.alloc (.cells (bytesRow s (grownCap W s.size 0 5)) 5 ((bytesRow s (grownCap W s.size 0 5)).size, (bytesRow s (grownCap W s.size 0 5)).size + 1))).heap[W.heap.size]? = some (.cells (bytesRow s (grownCap W s.size 0 5)) 5 ((bytesRow s (grownCap W s.size 0 5)).size, (bytesRow s (grownCap W s.size 0 5)).size + 1)) := heap_alloc_new W.drew _
  have hsz : (bytesRow s (grownCap W s.size 0 5)).size = grownCap W s.size 0 5 := by simp [bytesRow]; omega
  refine ⟨_, _, run_bytes_of_string W _ _ _ s Tryz.underlying9 Tryz.underlying53 Tryz.underlying5, hge, ?_, fun i hi => ?_, fun i hi => ?_, ?_, by simp⟩
  · have h := grownCap_le_maxLen W s.size 0 5 hs; unfold maxLen at h; omega
  · simp only [World.cell?, hcell]
    have hi' : i < s.data.size := by omega
    have hx : (bytesRow s (grownCap W s.size 0 5))[i]? = some (.int .u8 (bt s i)) := by
      rw [← bt_eq hi]
      unfold bytesRow
      rw [Array.getElem?_append_left (by simpa using hi'), Array.getElem?_map, Array.getElem?_eq_getElem hi']
      rfl
    simpa using hx
  · simp only [World.frozen?, hcell]
    simp; omega
  · exact (below_drew W).trans ((below_alloc W.drew _))

end Go.Proofs.YtindifjhocgkbaaGreatDoor
namespace Go.Proofs.YtindifjhocgkbaaGreatDoor
open Go.RowKit

/-- What plain's DecodeAll answers. -/
def PStaIs (w0 w : World) (s : ByteArray) (ev : Ending) : Prop :=
  (∃ k a, sta s = .error (k, a) ∧ 1 ≤ k ∧ ev = .returned (.tuple #[.int .u64 0, .slice none 0 0, .agg #[.int .i64 k, .int .i64 a, .int .i64 0]])) ∨
  (∃ v l x, sta s = .ok (v, l) ∧ ev = .returned (.tuple #[.int .u64 v, x, .agg #[.int .i64 0, .int .i64 0, .int .i64 0]]) ∧ w.ownsRow w0.heap.size 62 3 x l.length (cellsE l))

set_option maxRecDepth 10000 in
set_option maxHeartbeats 2000000 in
theorem pDecodeAll (s : ByteArray) (w : World) (g : Glob w) (he : EtIs w) (hs : s.size ≤ maxLen) :
    Calls Tryz.prog 23 #[.string s] w fun ev w' => PStaIs w w' s ev ∧ Below w.heap.size w w' := by
  have qa := below_alloc w (.cells #[.int .i64 0, .int .i64 0, .int .i64 0] 29)
  obtain ⟨cp, W1, hrun, hc1, hc2, hb1, hf1, q1, hs1⟩ := bytes_of' s (w.alloc (.cells #[.int .i64 0, .int .i64 0, .int .i64 0] 29)) hs
  simp only [World.size_alloc] at hrun hb1 hf1 hs1
  have qw1 := below_trans qa q1
  have p0 : W1.cell? ⟨w.heap.size, 0, none⟩ = some (.int .i64 0) := (q1.cell (p := ⟨w.heap.size, 0, none⟩) (by simp <;> omega)).trans (by simp)
  have p1 : W1.cell? ⟨w.heap.size, 1, none⟩ = some (.int .i64 0) := (q1.cell (p := ⟨w.heap.size, 1, none⟩) (by simp <;> omega)).trans (by simp)
  have p2 : W1.cell? ⟨w.heap.size, 2, none⟩ = some (.int .i64 0) := (q1.cell (p := ⟨w.heap.size, 2, none⟩) (by simp <;> omega)).trans (by simp)
  have pf0 : W1.frozen? ⟨w.heap.size, 0, none⟩ = false := (q1.frozen (p := ⟨w.heap.size, 0, none⟩) (by simp <;> omega)).trans (by simp)
  have pf1 : W1.frozen? ⟨w.heap.size, 1, none⟩ = false := (q1.frozen (p := ⟨w.heap.size, 1, none⟩) (by simp <;> omega)).trans (by simp)
  have pf2 : W1.frozen? ⟨w.heap.size, 2, none⟩ = false := (q1.frozen (p := ⟨w.heap.size, 2, none⟩) (by simp <;> omega)).trans (by simp)
  unfold maxLen at hs
  go_enter Tryz.func23, Tryz.ntmps23
  go_wp2_with fail
  clear hrun
  refine (oDecodeAll s (w.heap.size + 1) cp W1 (g.keep qw1) (by omega) hb1 hc1 (by omega)).mono ?_
  rintro ev w2 ⟨hd, q2⟩
  have hw1 : w.heap.size < W1.heap.size := cell_lt p0
  have he2 := (he.keep qw1).keep q2
  rcases hd with ⟨k, a, fb, hst, rfl, hx⟩ | ⟨v, l, T, hst, hT, rfl, htab⟩
  · have HE : Hid (sta s = .error (k, a)) := hst
    clear hst
    have hk1 : 1 ≤ k := by
      rcases hx with ⟨_, _, e⟩ | ⟨h, _⟩
      · cases e
      · exact h
    go_wp2_with fail
    refine (partsOf _ k a _ he2 hx).mono ?_
    rintro ev w3 ⟨rfl, q3⟩
    have q13 := below_trans q2 q3
    have hs3 := q13.size
    go_wp2_with fail
    have QA : Below W1.heap.size W1 (w3.alloc (.cells #[.int .i64 k, .int .i64 a, .int .i64 0] 29)) := below_trans q13 (below_alloc _ _)
    have f0 : (w3.alloc (.cells #[.int .i64 k, .int .i64 a, .int .i64 0] 29)).cell? ⟨w3.heap.size, 0, none⟩ = some (.int .i64 k) := by simp
    have f1 : (w3.alloc (.cells #[.int .i64 k, .int .i64 a, .int .i64 0] 29)).cell? ⟨w3.heap.size, 1, none⟩ = some (.int .i64 a) := by simp
    have f2 : (w3.alloc (.cells #[.int .i64 k, .int .i64 a, .int .i64 0] 29)).cell? ⟨w3.heap.size, 2, none⟩ = some (.int .i64 0) := by simp
    generalize w3.alloc (.cells #[.int .i64 k, .int .i64 a, .int .i64 0] 29) = W4 at *
    have Y0 := (QA.cell (p := ⟨w.heap.size, 0, none⟩) hw1).trans p0
    have Y1 := (QA.cell (p := ⟨w.heap.size, 1, none⟩) hw1).trans p1
    have Y2 := (QA.cell (p := ⟨w.heap.size, 2, none⟩) hw1).trans p2
    have Z0 := (QA.frozen (p := ⟨w.heap.size, 0, none⟩) hw1).trans pf0
    have Z1 := (QA.frozen (p := ⟨w.heap.size, 1, none⟩) hw1).trans pf1
    have Z2 := (QA.frozen (p := ⟨w.heap.size, 2, none⟩) hw1).trans pf2
    have QW := qw1.trans (QA.mono (by omega))
    clear p0 p1 p2 pf0 pf1 pf2 hf1
    go_region
    go_wp2
    exact bodyPost_ret (v := .tuple #[.int .u64 0, .slice none 0 0, .agg #[.int .i64 k, .int .i64 a, .int .i64 0]]) (by simp [results, Tryz.results23, go_sem, Y0, Y1, Y2]) rfl ⟨.inl ⟨k, a, HE.out, hk1, rfl⟩, (((QW.setCell (by simp) _).setCell (by simp) _).setCell (by simp) _).drew⟩
  · have hlen := (enc_sta hst).2.1
    have HE : Hid (sta s = .ok (v, l)) := hst
    clear hst
    go_wp2_with fail
    refine (partsOf _ 0 0 _ he2 (errIs_nil _)).mono ?_
    rintro ev w3 ⟨rfl, q3⟩
    have q13 := below_trans q2 q3
    have hs3 := q13.size
    have t3 := htab.keep q3
    go_wp2_with fail
    have f0 : (w3.alloc (.cells #[.int .i64 0, .int .i64 0, .int .i64 0] 29)).cell? ⟨w3.heap.size, 0, none⟩ = some (.int .i64 0) := by simp
    have f1 : (w3.alloc (.cells #[.int .i64 0, .int .i64 0, .int .i64 0] 29)).cell? ⟨w3.heap.size, 1, none⟩ = some (.int .i64 0) := by simp
    have f2 : (w3.alloc (.cells #[.int .i64 0, .int .i64 0, .int .i64 0] 29)).cell? ⟨w3.heap.size, 2, none⟩ = some (.int .i64 0) := by simp
    have qb := below_alloc w3 (.cells #[.int .i64 0, .int .i64 0, .int .i64 0] 29)
    have q14 := below_trans q13 qb
    have t4 := t3.keep qb
    generalize w3.alloc (.cells #[.int .i64 0, .int .i64 0, .int .i64 0] 29) = W4 at *
    have hs4 : w3.heap.size < W4.heap.size := cell_lt f0
    refine (tEntries T l _ t4).mono ?_
    rintro e w5 ⟨x, rfl, rfl, hI, hc⟩
    go_wp2_with fail
    refine (pListed _ x l (by omega) _ hc hI).mono ?_
    rintro e w6 ⟨y, rfl, ho, q6⟩
    obtain ⟨ao, cpp, rfl⟩ := own_slice ho
    have q46 := below_trans (below_alloc W4 (.cells #[x] 112)) q6
    have QA := below_trans q14 q46
    have F0 := (q46.cell (p := ⟨w3.heap.size, 0, none⟩) hs4).trans f0
    have F1 := (q46.cell (p := ⟨w3.heap.size, 1, none⟩) hs4).trans f1
    have F2 := (q46.cell (p := ⟨w3.heap.size, 2, none⟩) hs4).trans f2
    have Y0 := (QA.cell (p := ⟨w.heap.size, 0, none⟩) hw1).trans p0
    have Y1 := (QA.cell (p := ⟨w.heap.size, 1, none⟩) hw1).trans p1
    have Y2 := (QA.cell (p := ⟨w.heap.size, 2, none⟩) hw1).trans p2
    have Z0 := (QA.frozen (p := ⟨w.heap.size, 0, none⟩) hw1).trans pf0
    have Z1 := (QA.frozen (p := ⟨w.heap.size, 1, none⟩) hw1).trans pf1
    have Z2 := (QA.frozen (p := ⟨w.heap.size, 2, none⟩) hw1).trans pf2
    have QW := qw1.trans (QA.mono (by omega))
    have hbase : w.heap.size < (W4.alloc (.cells #[x] 112)).heap.size := by simp; omega
    clear p0 p1 p2 pf0 pf1 pf2 hf1 f0 f1 f2
    go_wp2_with fail
    go_region
    go_wp2
    exact bodyPost_ret (v := .tuple #[.int .u64 v, .slice ao l.length cpp, .agg #[.int .i64 0, .int .i64 0, .int .i64 0]]) (by simp [results, Tryz.results23, go_sem, Y0, Y1, Y2]) rfl ⟨.inr ⟨v, l, _, HE.out, rfl, own_mono (ownsRow_setCell_below (ownsRow_setCell_below (ownsRow_setCell_below ho hbase _) hbase _) hbase _).drew (by omega)⟩, (((QW.setCell (by simp) _).setCell (by simp) _).setCell (by simp) _).drew⟩
end Go.Proofs.YtindifjhocgkbaaGreatDoor
