import Derived.Test.YtfmgelmmpiookaaDoorRows
import Derived.Test.YtfmgelmmpiookaaDoorLawC
import Derived.ChangeSame
import Derived.ChangeVars
import Derived.JoinedOf
import Derived.RowKit
import Derived.RowKitTokens
import Derived.LaidLaws
import Derived.LaidHandle
import Derived.Stop.Joined
import Derived.Lib.LaidTab
import Derived.Stop.LaidErr
import Derived.Lib.SmallJoins
import Derived.Deep.Slices
import Derived.Deep.Strs
import Derived.Carry
import Derived.SizedLaws
import Derived.StringKeys
namespace Go.Proofs.YtfmgelmmpiookaaDoor
open Go.ChangeShapes Go.WideShapes Go.RowKit Go.Joins Go.Deep
open Go.ChangeMaps (open_string shut_string)

theorem Tryd.ownR : ownKnob Tryd.prog.godebug = none := by kernel_rfl
theorem Tryd.laidOutR : laidOutB Tryd.prog = true := by kernel_rfl
theorem Tryd.etR : Tryd.prog.globalNamed "errors.errorType" = some 0 := by kernel_rfl
theorem Tryd.kbR : Tryd.prog.globalNamed "overlay/entry.keyBytes" = some 1 := by kernel_rfl
theorem Tryd.vbR : Tryd.prog.globalNamed "overlay/entry.valueBytes" = some 2 := by kernel_rfl
theorem Tryd.rtR : (Tryd.prog.cutTypes.find? (·.1 == "internal/reflectlite.rtype")).map (·.2) = some 150 := by kernel_rfl
theorem Tryd.sizeR : Tryd.prog.types.size = 229 := by kernel_rfl
theorem Tryd.oneRowR : ((List.range 229).filter fun t => Tryd.prog.rowNamed t [101, 114, 114, 111, 114]) = [72] := by kernel_rfl
theorem Tryd.handleR : typeHandle Tryd.prog 72 = .pointer (some ⟨4, 72, none⟩) := by kernel_rfl
theorem Tryd.cellsOpR : Tryd.prog.cellsOf 47 = 4 := by kernel_rfl
theorem Tryd.cellsKeyR : Tryd.prog.cellsOf 45 = 2 := by kernel_rfl
theorem Tryd.cellsDeltaR : Tryd.prog.cellsOf 25 = 2 := by kernel_rfl
theorem Tryd.bytesOpR : Tryd.prog.bytesOf 47 = 48 := by kernel_rfl
theorem Tryd.cellsIntR : Tryd.prog.cellsOf 3 = 1 := by kernel_rfl
theorem Tryd.cellsStrR : Tryd.prog.cellsOf 9 = 1 := by kernel_rfl

def laidL : List (String × DataW Unit) := [("errors.errorType", Rows.laid_errors_errorType), ("overlay/entry.keyBytes", Rows.laid_overlay_entry_keyBytes), ("overlay/entry.valueBytes", Rows.laid_overlay_entry_valueBytes)]

theorem laid_parts {W : World} (h : laidMetH Tryd.prog laidL W) : laidMet Tryd.prog [("overlay/entry.keyBytes", Rows.laid_overlay_entry_keyBytes), ("overlay/entry.valueBytes", Rows.laid_overlay_entry_valueBytes)] W ∧ handlesMet Tryd.prog [("errors.errorType", Rows.laid_errors_errorType)] W := h
theorem et_of_laid {W : World} (h : laidMetH Tryd.prog laidL W) : EtIs W := by
  obtain ⟨name, u, ty, e1, e2, e3, e4, e5⟩ := (laid_parts h).2 _ (List.mem_singleton.2 rfl)
  have en : name = [101, 114, 114, 111, 114] := (Option.some.inj e1).symm
  subst en
  obtain rfl := Option.some.inj (Tryd.rtR.symm.trans e2)
  have hm : ty ∈ (List.range 229).filter fun t => Tryd.prog.rowNamed t [101, 114, 114, 111, 114] := List.mem_filter.2 ⟨List.mem_range.2 (by rw [← Tryd.sizeR]; exact e3), e4⟩
  rw [Tryd.oneRowR] at hm
  obtain rfl := List.mem_singleton.1 hm
  rw [Tryd.handleR] at e5
  unfold EtIs
  simpa using World.var?_cell Tryd.etR e5 0
theorem glob_of_laid {W : World} (h : laidMetH Tryd.prog laidL W) : Glob W := by
  have h1 : laidMet Tryd.prog (("overlay/entry.keyBytes", Lib.tabData .i64 [6, 5, 2]) :: [("overlay/entry.valueBytes", Rows.laid_overlay_entry_valueBytes)]) W := (laid_parts h).1
  have h2 : laidMet Tryd.prog (("overlay/entry.valueBytes", Lib.tabData .i64 [4, 4, 2]) :: []) W := laidMet.tail (laid_parts h).1
  have k := Lib.tabIs_of_head Tryd.kbR (t := 188) (by kernel_rfl) Tryd.underlying188 Tryd.underlying3 Tryd.cellsIntR (by kernel_rfl) h1
  have v := Lib.tabIs_of_head Tryd.vbR (t := 188) (by kernel_rfl) Tryd.underlying188 Tryd.underlying3 Tryd.cellsIntR (by kernel_rfl) h2
  exact ⟨k.cell Tryd.kbR 0 (by decide), k.cell Tryd.kbR 1 (by decide), k.cell Tryd.kbR 2 (by decide), v.cell Tryd.vbR 0 (by decide), v.cell Tryd.vbR 1 (by decide), v.cell Tryd.vbR 2 (by decide)⟩

section
variable {H : Type} {enc : TypeId × Value → H}

theorem add_none (b off j : Nat) : (⟨b, off, none⟩ : Addr).add j = ⟨b, off + j, none⟩ := by unfold Addr.add; split <;> simp_all
set_option maxRecDepth 100000 in
/-- One change, as its four cells. -/
theorem open_op {W : World} {fuel : Nat} {cs : List Value} {x : DataW H × List MemPlace} (h : DataW.trod enc Tryd.prog W 0 (fun _ => true) true fuel 47 cs = some x) :
    ∃ o : OpD, cs = opC o := by
  obtain ⟨y0, y1, y2, n, hx, hl, h0, h1, h2⟩ := trod_struct3 Tryd.underlying47 h
  rw [Tryd.cellsOpR] at hl
  match cs, hl with
  | [c0, c1, c2, c3], _ =>
    obtain ⟨a, e0, _, _⟩ := DataW.trod_int Tryd.underlying3 h0
    obtain ⟨z0, z1, m, _, _, k0, k1⟩ := trod_struct2 Tryd.underlying45 h1
    obtain ⟨b, e1, _, _⟩ := DataW.trod_int Tryd.underlying3 k0
    obtain ⟨s, e2, _, _⟩ := DataW.trod_string Tryd.underlying9 k1
    obtain ⟨t, e3, _, _⟩ := DataW.trod_string Tryd.underlying9 h2
    simp [Tryd.cellsIntR, Tryd.cellsKeyR, Tryd.cellsStrR] at e0 e1 e2 e3
    exact ⟨⟨a, b, s, t⟩, by simp [opC, e0, e1, e2, e3]⟩

theorem open_ops {W : World} {fuel : Nat} {c : Value} {x : DataW H × List MemPlace} (h : DataW.trod enc Tryd.prog W 0 (fun _ => true) true fuel 23 [c] = some x) :
    ∃ (ao : Option Addr) (l : List OpD) (cap : Nat), c = .slice ao l.length cap ∧ (ao = none → cap = 0) ∧ l.length ≤ cap ∧ cap ≤ maxLen ∧ OpsIn W ao l ∧
      (cap = 0 ∨ ∃ elems spare, x.1 = .slice elems spare ∧ elems.length + spare.length = cap) := by
  rcases open_slice Tryd.underlying23 h with ⟨hc, hx⟩ | ⟨a, len, cap, m, n, D, Pl, hc, _, hl, hm, hmm, hx, hall⟩
  · simp only [List.cons.injEq, and_true] at hc
    exact ⟨none, [], 0, hc, fun _ => rfl, Nat.le_refl _, Nat.zero_le _, fun h => absurd h (by simp), .inl rfl⟩
  · simp only [List.cons.injEq, and_true] at hc
    simp only [if_true] at hmm
    subst hmm
    rw [Tryd.cellsOpR] at hall
    obtain ⟨V, hV⟩ := @choose_lt OpD ⟨⟨0, 0, ⟨#[]⟩, ⟨#[]⟩⟩⟩ _ ( fun i o => W.cells? 0 (a.add (i * 4)) 4 = some (opC o)) (fun i hi => by
      obtain ⟨cs', h1, h2⟩ := hall i hi
      obtain ⟨o, rfl⟩ := open_op h2
      exact ⟨o, h1⟩)
    have hlen : ((List.range len).map V).length = len := by simp
    refine ⟨some a, (List.range len).map V, m, by rw [hlen]; exact hc, fun h => absurd h (by simp), by rw [hlen]; exact hl, hm, fun hp => ?_, .inr ⟨_, _, by rw [hx], by simp; omega⟩⟩
    rw [hlen] at hp
    have hcell : ∀ i, i < len → ∀ j, j < 4 → W.cell? ((a.add (i * 4)).add j) = (opC (V i))[j]? := fun i hi j hj => (World.cells?_some (hV i (by omega))).2.2 j hj
    obtain ⟨b, off, spot⟩ := a
    have hspot : spot = none := by
      have h0 := hcell 0 hp 0 (by decide)
      have e0 : ((⟨b, off, spot⟩ : Addr).add (0 * 4)).add 0 = ⟨b, off, spot⟩ := by simp [Addr.add]
      rw [e0] at h0
      exact World.cell?_spot (h0.trans (show (opC (V 0))[0]? = some (.int .i64 (V 0).kind) from rfl))
    subst hspot
    have hc2 : ∀ i, i < len → ∀ j, j < 4 → W.cell? ⟨b, off + i * 4 + j, none⟩ = (opC (V i))[j]? := fun i hi j hj => by have h := hcell i hi j hj; rwa [add_none, add_none] at h
    refine ⟨b, off, rfl, cell_lt (hc2 0 hp 0 (by decide)), ?_⟩
    refine ⟨fun i hi => ?_, fun i hi => ?_, fun i hi => ?_, fun i hi => ?_⟩
    all_goals rw [hlen] at hi
    · simpa [opC] using hc2 i hi 0 (by decide)
    · simpa [opC] using hc2 i hi 1 (by decide)
    · simpa [opC] using hc2 i hi 2 (by decide)
    · simpa [opC] using hc2 i hi 3 (by decide)
end
end Go.Proofs.YtfmgelmmpiookaaDoor
