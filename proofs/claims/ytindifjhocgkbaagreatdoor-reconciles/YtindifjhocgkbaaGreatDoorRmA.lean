import Derived.Test.YtindifjhocgkbaaGreatDoorFnd
import Derived.Test.YtindifjhocgkbaaGreatDoorLstB
import Derived.Maps.RangeWalk
import Derived.DeepKeys4
namespace Go.Proofs.YtindifjhocgkbaaGreatDoor
open Go.RowKit Go.ChangeMaps Go.MapKept Go.WideShapes Go.WideMaps
open Go.Maps (Keyed)
/-- A key of a datapath's map, and what it holds. -/
abbrev keyV (t : Int) (k : ByteArray) : Value := .agg #[.int .i64 t, .string k]
abbrev hldV (v : ByteArray) : Value := .agg #[.string v]
def kvE (e : En) : Value × Value := (keyV e.t e.k, hldV e.v)
def kvM (x : MapEntry) : Value × Value := (x.key, x.val)
theorem kvE_inj {a b : En} (h : kvE a = kvE b) : a = b := by
  obtain ⟨a1, a2, a3⟩ := a
  obtain ⟨b1, b2, b3⟩ := b
  simp [kvE] at h
  simp [h]
theorem Tryz.laidOutM : laidOutB Tryz.prog = true := by kernel_rfl
theorem Tryz.rowK : (83 : TypeId) < Tryz.prog.types.size := of_decide_eq_true (by kernel_rfl)
theorem Tryz.keyAtK : Tryz.prog.keyTypeAt 2 83 = true := by kernel_rfl
theorem keyLaw : Keyed Tryz.prog 83 := Keyed.of_law (deep_law_laid Tryz.laidOutM (m := 2) (by omega) Tryz.rowK Tryz.keyAtK (by rw [Tryz.underlying83]))
/-- What may be a key at all. -/
def KOk (e : En) : Prop := (Lit.int .i64 e.t).wf = true ∧ e.k.size ≤ maxLen
theorem Tryz.keyTypeK : Tryz.prog.keyType 83 = true := by kernel_rfl
theorem Tryz.cellsK : Tryz.prog.cellsOf 83 = 2 := by kernel_rfl
theorem Tryz.cellsKi : Tryz.prog.cellsOf 3 = 1 := by kernel_rfl
theorem Tryz.cellsKs : Tryz.prog.cellsOf 9 = 1 := by kernel_rfl
theorem Tryz.sizeTy : Tryz.prog.types.size = 304 := by kernel_rfl
theorem keyLits_mk (d : Nat) (t : Int) (k : ByteArray) (ht : (Lit.int .i64 t).wf = true) (hk : k.size ≤ maxLen) : Tryz.prog.keyLits (d + 1 + 1) 83 [.int .i64 t, .string k] = some [.int .i64 t, .string k.data.toList] := by
  simp [Program.keyLits, Tryz.underlying83, Tryz.underlying3, Tryz.underlying9, Tryz.cellsK, Tryz.cellsKi, Tryz.cellsKs, ht, hk]
theorem keyOf_mk (t : Int) (k : ByteArray) (ht : (Lit.int .i64 t).wf = true) (hk : k.size ≤ maxLen) : ∃ l, keyOf Tryz.prog 83 (keyV t k) = some l := by
  have h1 : (keyV t k).formed Tryz.prog 83 = true := by simp [Value.formed, Tryz.underlying83, Tryz.cellsK]
  have h2 := keyLits_mk (Tryz.prog.types.size - 1) t k ht hk
  have hs : Tryz.prog.types.size - 1 + 1 + 1 = Tryz.prog.types.size + 1 := by rw [Tryz.sizeTy]
  rw [hs] at h2
  refine ⟨.string (Go.keyBytes [.int .i64 t, .string k.data.toList]), ?_⟩
  unfold keyOf
  rw [Tryz.underlying83]
  simp only [Tryz.keyTypeK, h1, Value.cells, h2, Bool.and_self, if_true, Option.map_some]
end Go.Proofs.YtindifjhocgkbaaGreatDoor
