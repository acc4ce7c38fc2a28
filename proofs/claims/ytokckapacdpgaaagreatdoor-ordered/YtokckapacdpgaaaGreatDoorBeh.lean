import Derived.Test.YtokckapacdpgaaaGreatDoorSta
import Derived.Test.YtokckapacdpgaaaGreatDoorFnd
namespace Go.Proofs.YtokckapacdpgaaaGreatDoor
open Go.RowKit

theorem behind_last {l : List En} {t : Int} {k : ByteArray} (h : 0 < l.length) : behind t k l = decide (cmpK (l[l.length - 1]'(by omega)).t (l[l.length - 1]'(by omega)).k t k < 0) := by
  unfold behind
  rw [List.getLast?_eq_getElem?, List.getElem?_eq_getElem (by omega)]
theorem EnsIn.slice {w : World} {v : Value} {l : List En} (h : EnsIn w v l) : ∃ ao cap, v = .slice ao l.length cap := by
  rcases h with ⟨rfl, rfl⟩ | ⟨b, off, cap, rfl, _⟩
  · exact ⟨none, 0, rfl⟩
  · exact ⟨_, _, rfl⟩
theorem EnsIn.grown {w w' : World} {v : Value} {l : List En} {R : Nat} (h : EnsIn w v l) (hno : ∀ b off n c, v = .slice (some ⟨b, off, none⟩) n c → b ≠ R) (g : w.grownBy w' (some R)) : EnsIn w' v l := by
  rcases h with h | ⟨b, off, cap, rfl, hb, hc⟩
  · exact .inl h
  · have hn : some b ≠ some R := by have := hno b off _ _ rfl; simpa using this
    exact .inr ⟨b, off, cap, rfl, Nat.lt_of_lt_of_le hb g.size, ⟨fun i hi => g.cell (hc.c0 i hi) hn, fun i hi => g.cell (hc.c1 i hi) hn, fun i hi => g.cell (hc.c2 i hi) hn⟩⟩
set_option maxRecDepth 10000 in
set_option maxHeartbeats 1000000 in
theorem wBehind (v : Value) (l : List En) (t : Int) (k : ByteArray) (w : World) (hI : EnsIn w v l) (hl : l.length ≤ 1000000) :
    Calls Tryz.prog 145 #[.agg #[.int .i64 t, .string k], v] w fun e w' => e = .returned (.bool (behind t k l)) ∧ Below w.heap.size w w' := by
  by_cases h0 : l.length = 0
  · obtain rfl : l = [] := List.eq_nil_of_length_eq_zero h0
    obtain ⟨ao, cap, rfl⟩ := hI.slice
    go_enter Tryz.func145, Tryz.ntmps145
    go_wp2_with fail
    go_quiet (fail)
    go_wp2
    go_ret
    exact ⟨rfl, below_trans (below_alloc _ _) (below_drawn _ _)⟩
  · rcases hI with ⟨_, rfl⟩ | ⟨b, off, cap, rfl, hb, hc⟩
    · exact absurd rfl h0
    rw [behind_last (by omega)]
    have hlt : l.length - 1 < l.length := by omega
    have h1 : ¬ ((l.length : Int) = 0) := by omega
    have q := below_alloc w (.cells #[.int .i64 t, .string k] 83)
    have d0 := (q.cell (p := ⟨b, off + (l.length - 1) * 3, none⟩) hb).trans (hc.c0 _ hlt)
    have d1 := (q.cell (p := ⟨b, off + (l.length - 1) * 3 + 1, none⟩) hb).trans (hc.c1 _ hlt)
    generalize l[l.length - 1] = y at *
    have hw : IntKind.i64.wrap ((l.length : Int) - 1) = ((l.length - 1 : Nat) : Int) := by simp [IntKind.wrap, IntKind.bits, IntKind.signed]; omega
    have il : ((l.length - 1 : Nat) : Int) < (l.length : Int) := by omega
    generalize l.length - 1 = m at *
    go_enter Tryz.func145, Tryz.ntmps145
    go_wp2_with fail
    refine region_tail 12 (by kernel_rfl) (by kernel_rfl) ?_
    simp only [List.take_succ_cons, List.take_zero, List.drop_succ_cons, List.drop_zero]
    iterate 12 still_step
    refine wpStill_nil ?_
    go_wp2_with fail
    refine (eCompare _ _ _ _ _).mono ?_
    rintro e w1 ⟨rfl, q1⟩
    go_wp2_with fail
    go_ret
    refine ⟨?_, below_trans q (below_trans (below_drew _) q1)⟩
    have hb0 : ((l.length : Int) == 0) = false := by simpa using h1
    simp [hb0]
end Go.Proofs.YtokckapacdpgaaaGreatDoor
