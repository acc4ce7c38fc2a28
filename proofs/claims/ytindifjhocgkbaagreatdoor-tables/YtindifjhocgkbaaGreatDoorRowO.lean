import Derived.Test.YtindifjhocgkbaaGreatDoorRowA
import Derived.Test.YtindifjhocgkbaaGreatDoorOpC
namespace Go.Proofs.YtindifjhocgkbaaGreatDoor
open Go.ChangeShapes Go.WideShapes Go.RowKit Go.Joins Go.Deep
open Go.ChangeMaps (open_string shut_string)

section
variable {H : Type} {enc : TypeId × Value → H}

set_option maxRecDepth 100000 in
/-- One change, as its four cells. -/
theorem open_op {W : World} {fuel : Nat} {cs : List Value} {x : DataW H × List MemPlace} (h : DataW.trod enc Tryz.prog W 0 (fun _ => true) true fuel 85 cs = some x) :
    ∃ o : OpD, cs = opC o := by
  obtain ⟨y0, y1, y2, n, hx, hl, h0, h1, h2⟩ := trod_struct3 Tryz.underlying85 h
  rw [Tryz.cellsOpR] at hl
  match cs, hl with
  | [c0, c1, c2, c3], _ =>
    obtain ⟨a, e0, _, _⟩ := DataW.trod_int Tryz.underlying3 h0
    obtain ⟨z0, z1, m, _, _, k0, k1⟩ := trod_struct2 Tryz.underlying83 h1
    obtain ⟨b, e1, _, _⟩ := DataW.trod_int Tryz.underlying3 k0
    obtain ⟨s, e2, _, _⟩ := DataW.trod_string Tryz.underlying9 k1
    obtain ⟨t, e3, _, _⟩ := DataW.trod_string Tryz.underlying9 h2
    simp [Tryz.cellsIntR, Tryz.cellsKeyR, Tryz.cellsStrR] at e0 e1 e2 e3
    exact ⟨⟨a, b, s, t⟩, by simp [opC, e0, e1, e2, e3]⟩

theorem open_ops {W : World} {fuel : Nat} {c : Value} {x : DataW H × List MemPlace} (h : DataW.trod enc Tryz.prog W 0 (fun _ => true) true fuel 32 [c] = some x) :
    ∃ (ao : Option Addr) (l : List OpD) (cap : Nat), c = .slice ao l.length cap ∧ (ao = none → cap = 0) ∧ l.length ≤ cap ∧ cap ≤ maxLen ∧ OpsIn W ao l ∧
      (cap = 0 ∨ ∃ elems spare, x.1 = .slice elems spare ∧ elems.length + spare.length = cap) := by
  rcases open_slice Tryz.underlying32 h with ⟨hc, hx⟩ | ⟨a, len, cap, m, n, D, Pl, hc, _, hl, hm, hmm, hx, hall⟩
  · simp only [List.cons.injEq, and_true] at hc
    exact ⟨none, [], 0, hc, fun _ => rfl, Nat.le_refl _, Nat.zero_le _, fun h => absurd h (by simp), .inl rfl⟩
  · simp only [List.cons.injEq, and_true] at hc
    simp only [if_true] at hmm
    subst hmm
    rw [Tryz.cellsOpR] at hall
    obtain ⟨V, hV⟩ := @choose_lt OpD ⟨⟨0, 0, ⟨#[]⟩, ⟨#[]⟩⟩⟩ _ ( fun i o => W.cells? 0 (a.add (i * 4)) 4 = some (opC o)) (fun i hi => by
      obtain ⟨cs', h1, h2⟩ := hall i hi
      obtain ⟨o, rfl⟩ := open_op h2
      exact ⟨o, h1⟩)
    have hlen : ((List.range len).map V).length = len := by simp
    refine ⟨some a, (List.range len).map V, m, by rw [hlen]; exact hc, fun h => absurd h (by simp), by rw [hlen]; exact hl, hm, fun hp => ?_, .inr ⟨_, _, by rw [hx], by simp; omega⟩⟩
    rw [hlen] at hp
    have hcell : ∀ i, i < len → ∀ j, j < 4 → W.cell? ((a.add (i * 4)).add j) = (opC (V i))[j]? := fun i hi j hj => (World.cells?_some (hV i (by omega))).2.2 j hj
    obtain ⟨b, off, spot⟩ := a
    have hspot : spot = none := by
      have h0 := hcell 0 hp 0 (by decide)
      have e0 : ((⟨b, off, spot⟩ : Addr).add (0 * 4)).add 0 = ⟨b, off, spot⟩ := by simp [Addr.add]
      rw [e0] at h0
      exact World.cell?_spot (h0.trans (show (opC (V 0))[0]? = some (.int .i64 (V 0).kind) from rfl))
    subst hspot
    have hc2 : ∀ i, i < len → ∀ j, j < 4 → W.cell? ⟨b, off + i * 4 + j, none⟩ = (opC (V i))[j]? := fun i hi j hj => by have h := hcell i hi j hj; rwa [add_none, add_none] at h
    refine ⟨b, off, rfl, cell_lt (hc2 0 hp 0 (by decide)), ?_⟩
    refine ⟨fun i hi => ?_, fun i hi => ?_, fun i hi => ?_, fun i hi => ?_⟩
    all_goals rw [hlen] at hi
    · simpa [opC] using hc2 i hi 0 (by decide)
    · simpa [opC] using hc2 i hi 1 (by decide)
    · simpa [opC] using hc2 i hi 2 (by decide)
    · simpa [opC] using hc2 i hi 3 (by decide)
end
end Go.Proofs.YtindifjhocgkbaaGreatDoor
