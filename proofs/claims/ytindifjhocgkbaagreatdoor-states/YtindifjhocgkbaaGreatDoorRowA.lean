import Derived.Test.YtindifjhocgkbaaGreatDoorRows
import Derived.Test.YtindifjhocgkbaaGreatDoorParts
import Derived.Test.YtindifjhocgkbaaGreatDoorKit
import Derived.ChangeSame
import Derived.ChangeVars
import Derived.JoinedOf
import Derived.RowKit
import Derived.RowKitTokens
import Derived.LaidLaws
import Derived.LaidHandle
import Derived.Stop.Joined
import Derived.Lib.LaidTab
import Derived.Stop.LaidErr
import Derived.Lib.SmallJoins
import Derived.Deep.Slices
import Derived.Deep.Strs
import Derived.Carry
import Derived.SizedLaws
import Derived.StringKeys
namespace Go.Proofs.YtindifjhocgkbaaGreatDoor
open Go.ChangeShapes Go.WideShapes Go.RowKit Go.Joins Go.Deep
open Go.ChangeMaps (open_string shut_string)

theorem Tryz.ownR : ownKnob Tryz.prog.godebug = none := by kernel_rfl
theorem Tryz.laidOutR : laidOutB Tryz.prog = true := by kernel_rfl
theorem Tryz.etR : Tryz.prog.globalNamed "errors.errorType" = some 0 := by kernel_rfl
theorem Tryz.kbR : Tryz.prog.globalNamed "overlay/entry.keyBytes" = some 1 := by kernel_rfl
theorem Tryz.vbR : Tryz.prog.globalNamed "overlay/entry.valueBytes" = some 2 := by kernel_rfl
theorem Tryz.rtR : (Tryz.prog.cutTypes.find? (·.1 == "internal/reflectlite.rtype")).map (·.2) = some 196 := by kernel_rfl
theorem Tryz.sizeR : Tryz.prog.types.size = 304 := by kernel_rfl
theorem Tryz.oneRowR : ((List.range 304).filter fun t => Tryz.prog.rowNamed t [101, 114, 114, 111, 114]) = [80] := by kernel_rfl
theorem Tryz.handleR : typeHandle Tryz.prog 80 = .pointer (some ⟨4, 80, none⟩) := by kernel_rfl
theorem Tryz.cellsOpR : Tryz.prog.cellsOf 85 = 4 := by kernel_rfl
theorem Tryz.cellsKeyR : Tryz.prog.cellsOf 83 = 2 := by kernel_rfl
theorem Tryz.cellsDeltaR : Tryz.prog.cellsOf 34 = 2 := by kernel_rfl
theorem Tryz.bytesOpR : Tryz.prog.bytesOf 85 = 48 := by kernel_rfl
theorem Tryz.cellsIntR : Tryz.prog.cellsOf 3 = 1 := by kernel_rfl
theorem Tryz.cellsStrR : Tryz.prog.cellsOf 9 = 1 := by kernel_rfl

def laidL : List (String × DataW Unit) := [("errors.errorType", Rows.laid_errors_errorType), ("overlay/entry.keyBytes", Rows.laid_overlay_entry_keyBytes), ("overlay/entry.valueBytes", Rows.laid_overlay_entry_valueBytes)]

theorem laid_parts {W : World} (h : laidMetH Tryz.prog laidL W) : laidMet Tryz.prog [("overlay/entry.keyBytes", Rows.laid_overlay_entry_keyBytes), ("overlay/entry.valueBytes", Rows.laid_overlay_entry_valueBytes)] W ∧ handlesMet Tryz.prog [("errors.errorType", Rows.laid_errors_errorType)] W := h
theorem et_of_laid {W : World} (h : laidMetH Tryz.prog laidL W) : EtIs W := by
  obtain ⟨name, u, ty, e1, e2, e3, e4, e5⟩ := (laid_parts h).2 _ (List.mem_singleton.2 rfl)
  have en : name = [101, 114, 114, 111, 114] := (Option.some.inj e1).symm
  subst en
  obtain rfl := Option.some.inj (Tryz.rtR.symm.trans e2)
  have hm : ty ∈ (List.range 304).filter fun t => Tryz.prog.rowNamed t [101, 114, 114, 111, 114] := List.mem_filter.2 ⟨List.mem_range.2 (by rw [← Tryz.sizeR]; exact e3), e4⟩
  rw [Tryz.oneRowR] at hm
  obtain rfl := List.mem_singleton.1 hm
  rw [Tryz.handleR] at e5
  unfold EtIs
  simpa using World.var?_cell Tryz.etR e5 0
theorem glob_of_laid {W : World} (h : laidMetH Tryz.prog laidL W) : Glob W := by
  have h1 : laidMet Tryz.prog (("overlay/entry.keyBytes", Lib.tabData .i64 [6, 5, 2]) :: [("overlay/entry.valueBytes", Rows.laid_overlay_entry_valueBytes)]) W := (laid_parts h).1
  have h2 : laidMet Tryz.prog (("overlay/entry.valueBytes", Lib.tabData .i64 [4, 4, 2]) :: []) W := laidMet.tail (laid_parts h).1
  have k := Lib.tabIs_of_head Tryz.kbR (t := 127) (by kernel_rfl) Tryz.underlying127 Tryz.underlying3 Tryz.cellsIntR (by kernel_rfl) h1
  have v := Lib.tabIs_of_head Tryz.vbR (t := 127) (by kernel_rfl) Tryz.underlying127 Tryz.underlying3 Tryz.cellsIntR (by kernel_rfl) h2
  exact ⟨k.cell Tryz.kbR 0 (by decide), k.cell Tryz.kbR 1 (by decide), k.cell Tryz.kbR 2 (by decide), v.cell Tryz.vbR 0 (by decide), v.cell Tryz.vbR 1 (by decide), v.cell Tryz.vbR 2 (by decide)⟩

section
variable {H : Type} {enc : TypeId × Value → H}

theorem add_none (b off j : Nat) : (⟨b, off, none⟩ : Addr).add j = ⟨b, off + j, none⟩ := by unfold Addr.add; split <;> simp_all
end
theorem Tryz.bytesIntR : Tryz.prog.bytesOf 3 = 8 := by kernel_rfl
section
variable {H : Type} {enc : TypeId × Value → H}
theorem open_raw {W : World} {fuel : Nat} {c : Value} {x : DataW H × List MemPlace} (h : DataW.trod enc Tryz.prog W 0 (fun _ => true) true fuel 24 [c] = some x) :
    ∃ (ra : Option Addr) (n rc : Nat), c = .slice ra n rc ∧ IntsIn W ra n ∧ (n = 0 ∨ ∃ elems spare, x.1 = .slice elems spare ∧ n ≤ elems.length + spare.length) := by
  rcases open_slice1 Tryz.underlying24 Tryz.cellsIntR h with ⟨hc, hx⟩ | ⟨a, len, cap, m, k, V, D, Pl, hc, _, hl, hm, hmm, hx, hall⟩
  · simp only [List.cons.injEq, and_true] at hc
    exact ⟨none, 0, 0, hc, fun h => absurd h (by omega), .inl rfl⟩
  · simp only [List.cons.injEq, and_true] at hc
    simp only [if_true] at hmm
    subst hmm
    refine ⟨some a, len, m, hc, fun hp => ?_, .inr ⟨_, _, by rw [hx], by simp <;> omega⟩⟩
    obtain ⟨b, off, spot⟩ := a
    have hspot : spot = none := by
      have h0 := (hall 0 (by omega)).1
      have e0 : (⟨b, off, spot⟩ : Addr).add 0 = ⟨b, off, spot⟩ := by simp [Addr.add]
      rw [e0] at h0
      exact World.cell?_spot h0
    subst hspot
    have hcell : ∀ i, i < m → W.cell? ⟨b, off + i, none⟩ = some (V i) := fun i hi => by have h := (hall i hi).1; rwa [add_none] at h
    refine ⟨b, off, rfl, cell_lt (hcell 0 (by omega)), fun i hi => ?_⟩
    obtain ⟨z, e1, _, wz⟩ := DataW.trod_int Tryz.underlying3 (hall i (by omega)).2
    simp only [List.cons.injEq, and_true] at e1
    have bz : -9223372036854775808 ≤ z ∧ z ≤ 9223372036854775807 := by simpa [Lit.wf, IntKind.min, IntKind.max, IntKind.signed, IntKind.bits] using wz
    exact ⟨z, by rw [hcell i (by omega), e1], bz.1, bz.2⟩
end

/-- The three variables laid in a world (a world that meets the condition: the settled one, so laid). -/
def laidW (w0 : World) : World :=
  { w0 with heap := ((w0.heap.modify 0 fun
      | .cells _ t frozen => .cells #[.iface 196 (.agg #[.pointer (some ⟨4, 80, none⟩)])] t frozen
      | o => o).modify 1 fun
      | .cells _ t frozen => .cells #[.int .i64 6, .int .i64 5, .int .i64 2] t frozen
      | o => o).modify 2 fun
      | .cells _ t frozen => .cells #[.int .i64 4, .int .i64 4, .int .i64 2] t frozen
      | o => o }
theorem laidWorld_met (os : Os) (args : Array Value) : laidMetH Tryz.prog laidL ((laidW (World.holding Tryz.prog os ⟨#[], #[], []⟩)).forCall (fun _ _ => 0) ⟨#[], args, []⟩).memory :=
  laidMetH_of_parts (laidMet_of_run' 8 (by kernel_rfl) (by kernel_rfl)) (by kernel_rfl)

end Go.Proofs.YtindifjhocgkbaaGreatDoor
