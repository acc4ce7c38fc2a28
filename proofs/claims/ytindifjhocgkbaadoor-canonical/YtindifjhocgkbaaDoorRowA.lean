import Derived.Test.YtindifjhocgkbaaDoorRows
import Derived.Test.YtindifjhocgkbaaDoorParts
import Derived.Test.YtindifjhocgkbaaDoorKit
import Derived.ChangeSame
import Derived.ChangeVars
import Derived.JoinedOf
import Derived.RowKit
import Derived.RowKitTokens
import Derived.LaidLaws
import Derived.LaidHandle
import Derived.Stop.Joined
import Derived.Lib.LaidTab
import Derived.Stop.LaidErr
import Derived.Lib.SmallJoins
import Derived.Deep.Slices
import Derived.Deep.Strs
import Derived.Carry
import Derived.SizedLaws
import Derived.StringKeys
namespace Go.Proofs.YtindifjhocgkbaaDoor
open Go.ChangeShapes Go.WideShapes Go.RowKit Go.Joins Go.Deep
open Go.ChangeMaps (open_string shut_string)

theorem Tryd.ownR : ownKnob Tryd.prog.godebug = none := by kernel_rfl
theorem Tryd.laidOutR : laidOutB Tryd.prog = true := by kernel_rfl
theorem Tryd.etR : Tryd.prog.globalNamed "errors.errorType" = some 0 := by kernel_rfl
theorem Tryd.kbR : Tryd.prog.globalNamed "overlay/entry.keyBytes" = some 1 := by kernel_rfl
theorem Tryd.vbR : Tryd.prog.globalNamed "overlay/entry.valueBytes" = some 2 := by kernel_rfl
theorem Tryd.rtR : (Tryd.prog.cutTypes.find? (·.1 == "internal/reflectlite.rtype")).map (·.2) = some 150 := by kernel_rfl
theorem Tryd.sizeR : Tryd.prog.types.size = 229 := by kernel_rfl
theorem Tryd.oneRowR : ((List.range 229).filter fun t => Tryd.prog.rowNamed t [101, 114, 114, 111, 114]) = [72] := by kernel_rfl
theorem Tryd.handleR : typeHandle Tryd.prog 72 = .pointer (some ⟨4, 72, none⟩) := by kernel_rfl
theorem Tryd.cellsOpR : Tryd.prog.cellsOf 47 = 4 := by kernel_rfl
theorem Tryd.cellsKeyR : Tryd.prog.cellsOf 45 = 2 := by kernel_rfl
theorem Tryd.cellsDeltaR : Tryd.prog.cellsOf 25 = 2 := by kernel_rfl
theorem Tryd.bytesOpR : Tryd.prog.bytesOf 47 = 48 := by kernel_rfl
theorem Tryd.cellsIntR : Tryd.prog.cellsOf 3 = 1 := by kernel_rfl
theorem Tryd.cellsStrR : Tryd.prog.cellsOf 9 = 1 := by kernel_rfl

def laidL : List (String × DataW Unit) := [("errors.errorType", Rows.laid_errors_errorType), ("overlay/entry.keyBytes", Rows.laid_overlay_entry_keyBytes), ("overlay/entry.valueBytes", Rows.laid_overlay_entry_valueBytes)]

theorem laid_parts {W : World} (h : laidMetH Tryd.prog laidL W) : laidMet Tryd.prog [("overlay/entry.keyBytes", Rows.laid_overlay_entry_keyBytes), ("overlay/entry.valueBytes", Rows.laid_overlay_entry_valueBytes)] W ∧ handlesMet Tryd.prog [("errors.errorType", Rows.laid_errors_errorType)] W := h
theorem et_of_laid {W : World} (h : laidMetH Tryd.prog laidL W) : EtIs W := by
  obtain ⟨name, u, ty, e1, e2, e3, e4, e5⟩ := (laid_parts h).2 _ (List.mem_singleton.2 rfl)
  have en : name = [101, 114, 114, 111, 114] := (Option.some.inj e1).symm
  subst en
  obtain rfl := Option.some.inj (Tryd.rtR.symm.trans e2)
  have hm : ty ∈ (List.range 229).filter fun t => Tryd.prog.rowNamed t [101, 114, 114, 111, 114] := List.mem_filter.2 ⟨List.mem_range.2 (by rw [← Tryd.sizeR]; exact e3), e4⟩
  rw [Tryd.oneRowR] at hm
  obtain rfl := List.mem_singleton.1 hm
  rw [Tryd.handleR] at e5
  unfold EtIs
  simpa using World.var?_cell Tryd.etR e5 0
theorem glob_of_laid {W : World} (h : laidMetH Tryd.prog laidL W) : Glob W := by
  have h1 : laidMet Tryd.prog (("overlay/entry.keyBytes", Lib.tabData .i64 [6, 5, 2]) :: [("overlay/entry.valueBytes", Rows.laid_overlay_entry_valueBytes)]) W := (laid_parts h).1
  have h2 : laidMet Tryd.prog (("overlay/entry.valueBytes", Lib.tabData .i64 [4, 4, 2]) :: []) W := laidMet.tail (laid_parts h).1
  have k := Lib.tabIs_of_head Tryd.kbR (t := 188) (by kernel_rfl) Tryd.underlying188 Tryd.underlying3 Tryd.cellsIntR (by kernel_rfl) h1
  have v := Lib.tabIs_of_head Tryd.vbR (t := 188) (by kernel_rfl) Tryd.underlying188 Tryd.underlying3 Tryd.cellsIntR (by kernel_rfl) h2
  exact ⟨k.cell Tryd.kbR 0 (by decide), k.cell Tryd.kbR 1 (by decide), k.cell Tryd.kbR 2 (by decide), v.cell Tryd.vbR 0 (by decide), v.cell Tryd.vbR 1 (by decide), v.cell Tryd.vbR 2 (by decide)⟩

section
variable {H : Type} {enc : TypeId × Value → H}

theorem add_none (b off j : Nat) : (⟨b, off, none⟩ : Addr).add j = ⟨b, off + j, none⟩ := by unfold Addr.add; split <;> simp_all
end
theorem Tryd.bytesIntR : Tryd.prog.bytesOf 3 = 8 := by kernel_rfl
section
variable {H : Type} {enc : TypeId × Value → H}
theorem open_raw {W : World} {fuel : Nat} {c : Value} {x : DataW H × List MemPlace} (h : DataW.trod enc Tryd.prog W 0 (fun _ => true) true fuel 36 [c] = some x) :
    ∃ (ra : Option Addr) (n rc : Nat), c = .slice ra n rc ∧ IntsIn W ra n ∧ (n = 0 ∨ ∃ elems spare, x.1 = .slice elems spare ∧ n ≤ elems.length + spare.length) := by
  rcases open_slice1 Tryd.underlying36 Tryd.cellsIntR h with ⟨hc, hx⟩ | ⟨a, len, cap, m, k, V, D, Pl, hc, _, hl, hm, hmm, hx, hall⟩
  · simp only [List.cons.injEq, and_true] at hc
    exact ⟨none, 0, 0, hc, fun h => absurd h (by omega), .inl rfl⟩
  · simp only [List.cons.injEq, and_true] at hc
    simp only [if_true] at hmm
    subst hmm
    refine ⟨some a, len, m, hc, fun hp => ?_, .inr ⟨_, _, by rw [hx], by simp <;> omega⟩⟩
    obtain ⟨b, off, spot⟩ := a
    have hspot : spot = none := by
      have h0 := (hall 0 (by omega)).1
      have e0 : (⟨b, off, spot⟩ : Addr).add 0 = ⟨b, off, spot⟩ := by simp [Addr.add]
      rw [e0] at h0
      exact World.cell?_spot h0
    subst hspot
    have hcell : ∀ i, i < m → W.cell? ⟨b, off + i, none⟩ = some (V i) := fun i hi => by have h := (hall i hi).1; rwa [add_none] at h
    refine ⟨b, off, rfl, cell_lt (hcell 0 (by omega)), fun i hi => ?_⟩
    obtain ⟨z, e1, _, wz⟩ := DataW.trod_int Tryd.underlying3 (hall i (by omega)).2
    simp only [List.cons.injEq, and_true] at e1
    have bz : -9223372036854775808 ≤ z ∧ z ≤ 9223372036854775807 := by simpa [Lit.wf, IntKind.min, IntKind.max, IntKind.signed, IntKind.bits] using wz
    exact ⟨z, by rw [hcell i (by omega), e1], bz.1, bz.2⟩
end

/-- The three variables laid in a world (a world that meets the condition: the settled one, so laid). -/
def laidW (w0 : World) : World :=
  { w0 with heap := ((w0.heap.modify 0 fun
      | .cells _ t frozen => .cells #[.iface 150 (.agg #[.pointer (some ⟨4, 72, none⟩)])] t frozen
      | o => o).modify 1 fun
      | .cells _ t frozen => .cells #[.int .i64 6, .int .i64 5, .int .i64 2] t frozen
      | o => o).modify 2 fun
      | .cells _ t frozen => .cells #[.int .i64 4, .int .i64 4, .int .i64 2] t frozen
      | o => o }
theorem laidWorld_met (os : Os) (args : Array Value) : laidMetH Tryd.prog laidL ((laidW (World.holding Tryd.prog os ⟨#[], #[], []⟩)).forCall (fun _ _ => 0) ⟨#[], args, []⟩).memory :=
  laidMetH_of_parts (laidMet_of_run' 8 (by kernel_rfl) (by kernel_rfl)) (by kernel_rfl)

end Go.Proofs.YtindifjhocgkbaaDoor
