/-
  NARROWER THAN 'FOR EVERY INPUT', by the rows' own cells (each row's printed sentence says how): Deltas: laid · Canonical: laid · Apart: laid · Longest: laid.
  DERIVED. THE GIVEN ROWS OF THIS SEAT. 4 by the template 'for every input the law returns true; each argument reads behind the call as it read before'; 0 by the template 'total and deterministic' (their statements: YtindifjhocgkbaaDoorTotals.lean).
  GIVEN WITH THE SEED: the statements are not yours to turn. If you find one false, say at which input.
  Laid BY PROGRAM, IN A SANDBOX (cutbox-rows.mjs): the forced cells as the released guide's own fill.sh prints them over the translation 5cc65ae457655d34… (all of the seat's roots in one cut). By AI agents, Wed Nov 11 2026. No macro, syntax, notation, axiom, sorry.
-/
import Derived.Test.YtindifjhocgkbaaDoorChecked
import GoSem.Claim
import GoSem.ClaimJoined
import GoSem.ClaimMapViews
import Derived.JoinedTies
import Derived.KernelRfl
namespace Go.Proofs.YtindifjhocgkbaaDoor
/- THE CELL 'sum', in the pinned program and in every row, IS THE sha256 OF THE DUMP (.gsa) THAT YtindifjhocgkbaaDoorProg.lean LOADS. Nothing in Lean hashes anything: it is a label: what it is worth is what the hold of that sum in a sandbox is worth. -/
noncomputable def Tryd.pinned : Pinned := { name := "ytindifjhocgkbaadoor", sum := "5cc65ae457655d346b7adf7a457ff5e77b594eeead2824bf6d96c991cf482040", checked := Tryd.checked }
namespace Rows
def none {H : Type} : Left H := { results := [], args := [] }

/- WHAT THE LISTED PACKAGE-LEVEL VARIABLES READ AS WHEN THE CALL BEGINS. Each datum BY PROGRAM (the guide's laid-datum.mjs) off the statement by which the dump's own 'gosem.cut.vars' lays the variable. In a bare row this is a premise. The card (YtindifjhocgkbaaDoorCards.lean) ties it to the program's text. -/
def laid_errors_errorType {H : Type} : DataW H := .iface "internal/reflectlite.rtype" (.agg [.ptr (.lit (.string [101, 114, 114, 111, 114]))])
def laid_overlay_entry_keyBytes {H : Type} : DataW H := .agg [.lit (.int .i64 6), .lit (.int .i64 5), .lit (.int .i64 2)]
def laid_overlay_entry_valueBytes {H : Type} : DataW H := .agg [.lit (.int .i64 4), .lit (.int .i64 4), .lit (.int .i64 2)]

/-- 'overlaylaw.Deltas': WHATEVER THE INPUT: true; the input reads as it did. -/
def deltasSpec : ChangeSpec := { name := "deltas", fn := fun _ => fun
  | [d1, d2, d3, d4] => { results := [.lit (.bool true)], args := [d1, d2, d3, d4] }
  | _ => none }
def deltasRow : OpenClaim := { program := "ytindifjhocgkbaadoor", sum := "5cc65ae457655d346b7adf7a457ff5e77b594eeead2824bf6d96c991cf482040", func := "overlay/overlaylaw.Deltas", spec := "deltas", inPlace := ["internal/reflectlite.ValueOf", "(internal/reflectlite.Value).Type", "(internal/reflectlite.Value).IsNil", "internal/reflectlite.TypeOf", "(internal/reflectlite.Value).Elem", "(internal/reflectlite.Value).Set"], unfollowed := true, recurses := true, named := ["overlay/entry.keyBytes", "overlay/entry.valueBytes", "errors.errorType"], apart := false, laid := [("errors.errorType", laid_errors_errorType), ("overlay/entry.keyBytes", laid_overlay_entry_keyBytes), ("overlay/entry.valueBytes", laid_overlay_entry_valueBytes)] }
def DeltasSaid : Prop := deltasRow.holds Tryd.pinned (OpenSpec.ofChange deltasSpec)

/-- ITS FALSE NEIGHBOUR: 'it returns false'. Refute it at one input. -/
def deltasWrong : ChangeSpec := { name := "deltas", fn := fun _ => fun
  | [d1, d2, d3, d4] => { results := [.lit (.bool false)], args := [d1, d2, d3, d4] }
  | _ => none }
def DeltasWrongFalsely : Prop := deltasRow.holds Tryd.pinned (OpenSpec.ofChange deltasWrong)

/-- 'overlaykeep.Canonical': WHATEVER THE INPUT: true; the input reads as it did. -/
def canonicalSpec : ChangeSpec := { name := "canonical", fn := fun _ => fun
  | [d1, d2, d3] => { results := [.lit (.bool true)], args := [d1, d2, d3] }
  | _ => none }
def canonicalRow : OpenClaim := { program := "ytindifjhocgkbaadoor", sum := "5cc65ae457655d346b7adf7a457ff5e77b594eeead2824bf6d96c991cf482040", func := "overlay/overlaykeep.Canonical", spec := "canonical", inPlace := ["internal/reflectlite.ValueOf", "(internal/reflectlite.Value).Type", "(internal/reflectlite.Value).IsNil", "internal/reflectlite.TypeOf", "(internal/reflectlite.Value).Elem", "(internal/reflectlite.Value).Set"], unfollowed := true, recurses := true, named := ["overlay/entry.keyBytes", "overlay/entry.valueBytes", "errors.errorType"], apart := false, laid := [("errors.errorType", laid_errors_errorType), ("overlay/entry.keyBytes", laid_overlay_entry_keyBytes), ("overlay/entry.valueBytes", laid_overlay_entry_valueBytes)] }
def CanonicalSaid : Prop := canonicalRow.holds Tryd.pinned (OpenSpec.ofChange canonicalSpec)

/-- ITS FALSE NEIGHBOUR: 'it returns false'. Refute it at one input. -/
def canonicalWrong : ChangeSpec := { name := "canonical", fn := fun _ => fun
  | [d1, d2, d3] => { results := [.lit (.bool false)], args := [d1, d2, d3] }
  | _ => none }
def CanonicalWrongFalsely : Prop := canonicalRow.holds Tryd.pinned (OpenSpec.ofChange canonicalWrong)

/-- 'overlaykeep.Apart': WHATEVER THE INPUT: true; the input reads as it did. -/
def apartSpec : ChangeSpec := { name := "apart", fn := fun _ => fun
  | [d1, d2, d3] => { results := [.lit (.bool true)], args := [d1, d2, d3] }
  | _ => none }
def apartRow : OpenClaim := { program := "ytindifjhocgkbaadoor", sum := "5cc65ae457655d346b7adf7a457ff5e77b594eeead2824bf6d96c991cf482040", func := "overlay/overlaykeep.Apart", spec := "apart", inPlace := ["internal/bytealg.abigen_runtime_cmpstring", "slices.overlaps[overlay/entry.Entry]", "internal/reflectlite.ValueOf", "(internal/reflectlite.Value).Type", "(internal/reflectlite.Value).IsNil", "internal/reflectlite.TypeOf", "(internal/reflectlite.Value).Elem", "(internal/reflectlite.Value).Set"], unfollowed := true, recurses := true, named := ["overlay/entry.keyBytes", "overlay/entry.valueBytes", "errors.errorType"], apart := false, laid := [("errors.errorType", laid_errors_errorType), ("overlay/entry.keyBytes", laid_overlay_entry_keyBytes), ("overlay/entry.valueBytes", laid_overlay_entry_valueBytes)] }
def ApartSaid : Prop := apartRow.holds Tryd.pinned (OpenSpec.ofChange apartSpec)

/-- ITS FALSE NEIGHBOUR: 'it returns false'. Refute it at one input. -/
def apartWrong : ChangeSpec := { name := "apart", fn := fun _ => fun
  | [d1, d2, d3] => { results := [.lit (.bool false)], args := [d1, d2, d3] }
  | _ => none }
def ApartWrongFalsely : Prop := apartRow.holds Tryd.pinned (OpenSpec.ofChange apartWrong)

/-- 'overlaykeep.Longest': WHATEVER THE INPUT: true; the input reads as it did. -/
def longestSpec : ChangeSpec := { name := "longest", fn := fun _ => fun
  | [d1, d2] => { results := [.lit (.bool true)], args := [d1, d2] }
  | _ => none }
def longestRow : OpenClaim := { program := "ytindifjhocgkbaadoor", sum := "5cc65ae457655d346b7adf7a457ff5e77b594eeead2824bf6d96c991cf482040", func := "overlay/overlaykeep.Longest", spec := "longest", inPlace := ["internal/bytealg.abigen_runtime_cmpstring", "slices.overlaps[overlay/entry.Entry]", "internal/reflectlite.ValueOf", "(internal/reflectlite.Value).Type", "(internal/reflectlite.Value).IsNil", "internal/reflectlite.TypeOf", "(internal/reflectlite.Value).Elem", "(internal/reflectlite.Value).Set"], unfollowed := true, recurses := true, named := ["overlay/entry.keyBytes", "overlay/entry.valueBytes", "errors.errorType"], apart := false, laid := [("errors.errorType", laid_errors_errorType), ("overlay/entry.keyBytes", laid_overlay_entry_keyBytes), ("overlay/entry.valueBytes", laid_overlay_entry_valueBytes)] }
def LongestSaid : Prop := longestRow.holds Tryd.pinned (OpenSpec.ofChange longestSpec)

/-- ITS FALSE NEIGHBOUR: 'it returns false'. Refute it at one input. -/
def longestWrong : ChangeSpec := { name := "longest", fn := fun _ => fun
  | [d1, d2] => { results := [.lit (.bool false)], args := [d1, d2] }
  | _ => none }
def LongestWrongFalsely : Prop := longestRow.holds Tryd.pinned (OpenSpec.ofChange longestWrong)

/- THE SECOND FORM. 'bulk': how many values and letters a reading holds, each counted each time it is reached (what is shared counts as often as it is met; a slice's spare places count too). A statement '..UptoSaid' is the law's where the arguments, and the package variables that the reading takes, are together of bulk at most 1048576: NARROWER than '..Said'. Prove '..Said' where nothing that the law and all that it calls make is longer than what came in: it says more and counts as full. Else prove '..UptoSaid'. A law counts once. -/
mutual
def uptoBulk {H : Type} : DataW H → Nat
  | .lit (.string bytes) => bytes.length + 1
  | .lit _ => 1
  | .nil => 1
  | .ptr d => uptoBulk d + 1
  | .slice elems spare => uptoBulkAll elems + uptoBulkAll spare + 1
  | .agg parts => uptoBulkAll parts + 1
  | .iface _ d => uptoBulk d + 1
  | .map entries => uptoBulkEntries entries + 1
  | .held _ => 1
def uptoBulkAll {H : Type} : List (DataW H) → Nat
  | [] => 0
  | d :: r => uptoBulk d + uptoBulkAll r
def uptoBulkEntries {H : Type} : List (Lit × DataW H) → Nat
  | [] => 0
  | x :: r => uptoBulkEntry x + uptoBulkEntries r
def uptoBulkEntry {H : Type} : Lit × DataW H → Nat
  | (.string bytes, d) => bytes.length + uptoBulk d + 1
  | (_, d) => uptoBulk d + 1
 end
def uptoSmall : (H : Type) → List (DataW H) → Bool := fun _ ds => decide (uptoBulkAll ds ≤ 1048576)
def OpenSpec.upto (s : _root_.Go.ChangeSpec) : _root_.Go.OpenSpec := { _root_.Go.OpenSpec.ofChange s with cond := some uptoSmall }

/-- 'overlaylaw.Deltas', WHERE WHAT IT READS IS OF BULK AT MOST 1048576: true; the input reads as it did. -/
def deltasUptoRow : OpenClaim := { program := "ytindifjhocgkbaadoor", sum := "5cc65ae457655d346b7adf7a457ff5e77b594eeead2824bf6d96c991cf482040", func := "overlay/overlaylaw.Deltas", spec := "deltas", inPlace := ["internal/reflectlite.ValueOf", "(internal/reflectlite.Value).Type", "(internal/reflectlite.Value).IsNil", "internal/reflectlite.TypeOf", "(internal/reflectlite.Value).Elem", "(internal/reflectlite.Value).Set"], unfollowed := true, recurses := true, named := ["overlay/entry.keyBytes", "overlay/entry.valueBytes", "errors.errorType"], apart := false, laid := [("errors.errorType", laid_errors_errorType), ("overlay/entry.keyBytes", laid_overlay_entry_keyBytes), ("overlay/entry.valueBytes", laid_overlay_entry_valueBytes)], narrowed := true }
def DeltasUptoSaid : Prop := deltasUptoRow.holds Tryd.pinned (OpenSpec.upto deltasSpec)

/-- 'overlaykeep.Canonical', WHERE WHAT IT READS IS OF BULK AT MOST 1048576: true; the input reads as it did. -/
def canonicalUptoRow : OpenClaim := { program := "ytindifjhocgkbaadoor", sum := "5cc65ae457655d346b7adf7a457ff5e77b594eeead2824bf6d96c991cf482040", func := "overlay/overlaykeep.Canonical", spec := "canonical", inPlace := ["internal/reflectlite.ValueOf", "(internal/reflectlite.Value).Type", "(internal/reflectlite.Value).IsNil", "internal/reflectlite.TypeOf", "(internal/reflectlite.Value).Elem", "(internal/reflectlite.Value).Set"], unfollowed := true, recurses := true, named := ["overlay/entry.keyBytes", "overlay/entry.valueBytes", "errors.errorType"], apart := false, laid := [("errors.errorType", laid_errors_errorType), ("overlay/entry.keyBytes", laid_overlay_entry_keyBytes), ("overlay/entry.valueBytes", laid_overlay_entry_valueBytes)], narrowed := true }
def CanonicalUptoSaid : Prop := canonicalUptoRow.holds Tryd.pinned (OpenSpec.upto canonicalSpec)

/-- 'overlaykeep.Apart', WHERE WHAT IT READS IS OF BULK AT MOST 1048576: true; the input reads as it did. -/
def apartUptoRow : OpenClaim := { program := "ytindifjhocgkbaadoor", sum := "5cc65ae457655d346b7adf7a457ff5e77b594eeead2824bf6d96c991cf482040", func := "overlay/overlaykeep.Apart", spec := "apart", inPlace := ["internal/bytealg.abigen_runtime_cmpstring", "slices.overlaps[overlay/entry.Entry]", "internal/reflectlite.ValueOf", "(internal/reflectlite.Value).Type", "(internal/reflectlite.Value).IsNil", "internal/reflectlite.TypeOf", "(internal/reflectlite.Value).Elem", "(internal/reflectlite.Value).Set"], unfollowed := true, recurses := true, named := ["overlay/entry.keyBytes", "overlay/entry.valueBytes", "errors.errorType"], apart := false, laid := [("errors.errorType", laid_errors_errorType), ("overlay/entry.keyBytes", laid_overlay_entry_keyBytes), ("overlay/entry.valueBytes", laid_overlay_entry_valueBytes)], narrowed := true }
def ApartUptoSaid : Prop := apartUptoRow.holds Tryd.pinned (OpenSpec.upto apartSpec)

/-- 'overlaykeep.Longest', WHERE WHAT IT READS IS OF BULK AT MOST 1048576: true; the input reads as it did. -/
def longestUptoRow : OpenClaim := { program := "ytindifjhocgkbaadoor", sum := "5cc65ae457655d346b7adf7a457ff5e77b594eeead2824bf6d96c991cf482040", func := "overlay/overlaykeep.Longest", spec := "longest", inPlace := ["internal/bytealg.abigen_runtime_cmpstring", "slices.overlaps[overlay/entry.Entry]", "internal/reflectlite.ValueOf", "(internal/reflectlite.Value).Type", "(internal/reflectlite.Value).IsNil", "internal/reflectlite.TypeOf", "(internal/reflectlite.Value).Elem", "(internal/reflectlite.Value).Set"], unfollowed := true, recurses := true, named := ["overlay/entry.keyBytes", "overlay/entry.valueBytes", "errors.errorType"], apart := false, laid := [("errors.errorType", laid_errors_errorType), ("overlay/entry.keyBytes", laid_overlay_entry_keyBytes), ("overlay/entry.valueBytes", laid_overlay_entry_valueBytes)], narrowed := true }
def LongestUptoSaid : Prop := longestUptoRow.holds Tryd.pinned (OpenSpec.upto longestSpec)

end Rows
end Go.Proofs.YtindifjhocgkbaaDoor
