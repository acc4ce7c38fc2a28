/-
  NARROWER THAN 'FOR EVERY INPUT', by the rows' own cells (each row's printed sentence says how): Tables: laid · States: laid · Ordered: laid · Reconciles: laid.
  DERIVED. THE GIVEN ROWS OF THIS SEAT. 4 by the template 'for every input the law returns true; each argument reads behind the call as it read before'; 0 by the template 'total and deterministic' (their statements: YtindifjhocgkbaaGreatDoorTotals.lean).
  GIVEN WITH THE SEED: the statements are not yours to turn. If you find one false, say at which input.
  Laid BY PROGRAM, IN A SANDBOX (cutbox-rows.mjs): the forced cells as the released guide's own fill.sh prints them over the translation c9b41c880bf8d0df… (all of the seat's roots in one cut). By AI agents, Wed Nov 11 2026. No macro, syntax, notation, axiom, sorry.
-/
import Derived.Test.YtindifjhocgkbaaGreatDoorChecked
import GoSem.Claim
import GoSem.ClaimJoined
import GoSem.ClaimMapViews
import Derived.JoinedTies
import Derived.KernelRfl
namespace Go.Proofs.YtindifjhocgkbaaGreatDoor
/- THE CELL 'sum', in the pinned program and in every row, IS THE sha256 OF THE DUMP (.gsa) THAT YtindifjhocgkbaaGreatDoorProg.lean LOADS. Nothing in Lean hashes anything: it is a label: what it is worth is what the hold of that sum in a sandbox is worth. -/
noncomputable def Tryz.pinned : Pinned := { name := "ytindifjhocgkbaagreatdoor", sum := "c9b41c880bf8d0dfd17a113be7a22b99ce187304bb277c92b0cf467fc50a4774", checked := Tryz.checked }
namespace Rows
def none {H : Type} : Left H := { results := [], args := [] }

/- WHAT THE LISTED PACKAGE-LEVEL VARIABLES READ AS WHEN THE CALL BEGINS. Each datum BY PROGRAM (the guide's laid-datum.mjs) off the statement by which the dump's own 'gosem.cut.vars' lays the variable. In a bare row this is a premise. The card (YtindifjhocgkbaaGreatDoorCards.lean) ties it to the program's text. -/
def laid_errors_errorType {H : Type} : DataW H := .iface "internal/reflectlite.rtype" (.agg [.ptr (.lit (.string [101, 114, 114, 111, 114]))])
def laid_overlay_entry_keyBytes {H : Type} : DataW H := .agg [.lit (.int .i64 6), .lit (.int .i64 5), .lit (.int .i64 2)]
def laid_overlay_entry_valueBytes {H : Type} : DataW H := .agg [.lit (.int .i64 4), .lit (.int .i64 4), .lit (.int .i64 2)]

/-- 'overlaylaw.Tables': WHATEVER THE INPUT: true; the input reads as it did. -/
def tablesSpec : ChangeSpec := { name := "tables", fn := fun _ => fun
  | [d1, d2, d3] => { results := [.lit (.bool true)], args := [d1, d2, d3] }
  | _ => none }
def tablesRow : OpenClaim := { program := "ytindifjhocgkbaagreatdoor", sum := "c9b41c880bf8d0dfd17a113be7a22b99ce187304bb277c92b0cf467fc50a4774", func := "overlay/overlaylaw.Tables", spec := "tables", inPlace := ["internal/bytealg.abigen_runtime_cmpstring", "slices.overlaps[overlay/entry.Entry]", "internal/reflectlite.ValueOf", "(internal/reflectlite.Value).Type", "(internal/reflectlite.Value).IsNil", "internal/reflectlite.TypeOf", "(internal/reflectlite.Value).Elem", "(internal/reflectlite.Value).Set"], unfollowed := true, recurses := true, named := ["overlay/entry.keyBytes", "overlay/entry.valueBytes", "errors.errorType"], plainKeys := false, apart := false, laid := [("errors.errorType", laid_errors_errorType), ("overlay/entry.keyBytes", laid_overlay_entry_keyBytes), ("overlay/entry.valueBytes", laid_overlay_entry_valueBytes)] }
def TablesSaid : Prop := tablesRow.holds Tryz.pinned (OpenSpec.ofChange tablesSpec)

/-- ITS FALSE NEIGHBOUR: 'it returns false'. Refute it at one input. -/
def tablesWrong : ChangeSpec := { name := "tables", fn := fun _ => fun
  | [d1, d2, d3] => { results := [.lit (.bool false)], args := [d1, d2, d3] }
  | _ => none }
def TablesWrongFalsely : Prop := tablesRow.holds Tryz.pinned (OpenSpec.ofChange tablesWrong)

/-- 'overlaylaw.States': WHATEVER THE INPUT: true; the input reads as it did. -/
def statesSpec : ChangeSpec := { name := "states", fn := fun _ => fun
  | [d1, d2, d3, d4, d5] => { results := [.lit (.bool true)], args := [d1, d2, d3, d4, d5] }
  | _ => none }
def statesRow : OpenClaim := { program := "ytindifjhocgkbaagreatdoor", sum := "c9b41c880bf8d0dfd17a113be7a22b99ce187304bb277c92b0cf467fc50a4774", func := "overlay/overlaylaw.States", spec := "states", inPlace := ["internal/bytealg.abigen_runtime_cmpstring", "internal/reflectlite.ValueOf", "(internal/reflectlite.Value).Type", "(internal/reflectlite.Value).IsNil", "internal/reflectlite.TypeOf", "(internal/reflectlite.Value).Elem", "(internal/reflectlite.Value).Set", "slices.overlaps[overlay/entry.Entry]"], unfollowed := true, recurses := true, named := ["overlay/entry.keyBytes", "overlay/entry.valueBytes", "errors.errorType"], plainKeys := false, apart := false, laid := [("errors.errorType", laid_errors_errorType), ("overlay/entry.keyBytes", laid_overlay_entry_keyBytes), ("overlay/entry.valueBytes", laid_overlay_entry_valueBytes)] }
def StatesSaid : Prop := statesRow.holds Tryz.pinned (OpenSpec.ofChange statesSpec)

/-- ITS FALSE NEIGHBOUR: 'it returns false'. Refute it at one input. -/
def statesWrong : ChangeSpec := { name := "states", fn := fun _ => fun
  | [d1, d2, d3, d4, d5] => { results := [.lit (.bool false)], args := [d1, d2, d3, d4, d5] }
  | _ => none }
def StatesWrongFalsely : Prop := statesRow.holds Tryz.pinned (OpenSpec.ofChange statesWrong)

/-- 'overlaykeep.Ordered': WHATEVER THE INPUT: true; the input reads as it did. -/
def orderedSpec : ChangeSpec := { name := "ordered", fn := fun _ => fun
  | [d1, d2, d3] => { results := [.lit (.bool true)], args := [d1, d2, d3] }
  | _ => none }
def orderedRow : OpenClaim := { program := "ytindifjhocgkbaagreatdoor", sum := "c9b41c880bf8d0dfd17a113be7a22b99ce187304bb277c92b0cf467fc50a4774", func := "overlay/overlaykeep.Ordered", spec := "ordered", inPlace := ["internal/bytealg.abigen_runtime_cmpstring", "slices.overlaps[overlay/entry.Entry]", "internal/reflectlite.ValueOf", "(internal/reflectlite.Value).Type", "(internal/reflectlite.Value).IsNil", "internal/reflectlite.TypeOf", "(internal/reflectlite.Value).Elem", "(internal/reflectlite.Value).Set"], unfollowed := true, recurses := true, named := ["overlay/entry.keyBytes", "overlay/entry.valueBytes", "errors.errorType"], plainKeys := false, apart := false, laid := [("errors.errorType", laid_errors_errorType), ("overlay/entry.keyBytes", laid_overlay_entry_keyBytes), ("overlay/entry.valueBytes", laid_overlay_entry_valueBytes)] }
def OrderedSaid : Prop := orderedRow.holds Tryz.pinned (OpenSpec.ofChange orderedSpec)

/-- ITS FALSE NEIGHBOUR: 'it returns false'. Refute it at one input. -/
def orderedWrong : ChangeSpec := { name := "ordered", fn := fun _ => fun
  | [d1, d2, d3] => { results := [.lit (.bool false)], args := [d1, d2, d3] }
  | _ => none }
def OrderedWrongFalsely : Prop := orderedRow.holds Tryz.pinned (OpenSpec.ofChange orderedWrong)

/-- 'overlaylaw.Reconciles': WHATEVER THE INPUT: true; the input reads as it did. -/
def reconcilesSpec : ChangeSpec := { name := "reconciles", fn := fun _ => fun
  | [d1, d2, d3, d4] => { results := [.lit (.bool true)], args := [d1, d2, d3, d4] }
  | _ => none }
def reconcilesRow : OpenClaim := { program := "ytindifjhocgkbaagreatdoor", sum := "c9b41c880bf8d0dfd17a113be7a22b99ce187304bb277c92b0cf467fc50a4774", func := "overlay/overlaylaw.Reconciles", spec := "reconciles", inPlace := ["internal/bytealg.abigen_runtime_cmpstring", "slices.overlaps[overlay/entry.Entry]", "internal/reflectlite.ValueOf", "(internal/reflectlite.Value).Type", "(internal/reflectlite.Value).IsNil", "internal/reflectlite.TypeOf", "(internal/reflectlite.Value).Elem", "(internal/reflectlite.Value).Set"], unfollowed := true, recurses := true, named := ["overlay/entry.keyBytes", "overlay/entry.valueBytes", "errors.errorType"], plainKeys := false, apart := false, laid := [("errors.errorType", laid_errors_errorType), ("overlay/entry.keyBytes", laid_overlay_entry_keyBytes), ("overlay/entry.valueBytes", laid_overlay_entry_valueBytes)] }
def ReconcilesSaid : Prop := reconcilesRow.holds Tryz.pinned (OpenSpec.ofChange reconcilesSpec)

/-- ITS FALSE NEIGHBOUR: 'it returns false'. Refute it at one input. -/
def reconcilesWrong : ChangeSpec := { name := "reconciles", fn := fun _ => fun
  | [d1, d2, d3, d4] => { results := [.lit (.bool false)], args := [d1, d2, d3, d4] }
  | _ => none }
def ReconcilesWrongFalsely : Prop := reconcilesRow.holds Tryz.pinned (OpenSpec.ofChange reconcilesWrong)

/- THE SECOND FORM. 'bulk': how many values and letters a reading holds, each counted each time it is reached (what is shared counts as often as it is met; a slice's spare places count too). A statement '..UptoSaid' is the law's where the arguments, and the package variables that the reading takes, are together of bulk at most 1048576: NARROWER than '..Said'. Prove '..Said' where nothing that the law and all that it calls make is longer than what came in: it says more and counts as full. Else prove '..UptoSaid'. A law counts once. -/
mutual
def uptoBulk {H : Type} : DataW H → Nat
  | .lit (.string bytes) => bytes.length + 1
  | .lit _ => 1
  | .nil => 1
  | .ptr d => uptoBulk d + 1
  | .slice elems spare => uptoBulkAll elems + uptoBulkAll spare + 1
  | .agg parts => uptoBulkAll parts + 1
  | .iface _ d => uptoBulk d + 1
  | .map entries => uptoBulkEntries entries + 1
  | .held _ => 1
def uptoBulkAll {H : Type} : List (DataW H) → Nat
  | [] => 0
  | d :: r => uptoBulk d + uptoBulkAll r
def uptoBulkEntries {H : Type} : List (Lit × DataW H) → Nat
  | [] => 0
  | x :: r => uptoBulkEntry x + uptoBulkEntries r
def uptoBulkEntry {H : Type} : Lit × DataW H → Nat
  | (.string bytes, d) => bytes.length + uptoBulk d + 1
  | (_, d) => uptoBulk d + 1
 end
def uptoSmall : (H : Type) → List (DataW H) → Bool := fun _ ds => decide (uptoBulkAll ds ≤ 1048576)
def OpenSpec.upto (s : _root_.Go.ChangeSpec) : _root_.Go.OpenSpec := { _root_.Go.OpenSpec.ofChange s with cond := some uptoSmall }

/-- 'overlaylaw.Tables', WHERE WHAT IT READS IS OF BULK AT MOST 1048576: true; the input reads as it did. -/
def tablesUptoRow : OpenClaim := { program := "ytindifjhocgkbaagreatdoor", sum := "c9b41c880bf8d0dfd17a113be7a22b99ce187304bb277c92b0cf467fc50a4774", func := "overlay/overlaylaw.Tables", spec := "tables", inPlace := ["internal/bytealg.abigen_runtime_cmpstring", "slices.overlaps[overlay/entry.Entry]", "internal/reflectlite.ValueOf", "(internal/reflectlite.Value).Type", "(internal/reflectlite.Value).IsNil", "internal/reflectlite.TypeOf", "(internal/reflectlite.Value).Elem", "(internal/reflectlite.Value).Set"], unfollowed := true, recurses := true, named := ["overlay/entry.keyBytes", "overlay/entry.valueBytes", "errors.errorType"], plainKeys := false, apart := false, laid := [("errors.errorType", laid_errors_errorType), ("overlay/entry.keyBytes", laid_overlay_entry_keyBytes), ("overlay/entry.valueBytes", laid_overlay_entry_valueBytes)], narrowed := true }
def TablesUptoSaid : Prop := tablesUptoRow.holds Tryz.pinned (OpenSpec.upto tablesSpec)

/-- 'overlaylaw.States', WHERE WHAT IT READS IS OF BULK AT MOST 1048576: true; the input reads as it did. -/
def statesUptoRow : OpenClaim := { program := "ytindifjhocgkbaagreatdoor", sum := "c9b41c880bf8d0dfd17a113be7a22b99ce187304bb277c92b0cf467fc50a4774", func := "overlay/overlaylaw.States", spec := "states", inPlace := ["internal/bytealg.abigen_runtime_cmpstring", "internal/reflectlite.ValueOf", "(internal/reflectlite.Value).Type", "(internal/reflectlite.Value).IsNil", "internal/reflectlite.TypeOf", "(internal/reflectlite.Value).Elem", "(internal/reflectlite.Value).Set", "slices.overlaps[overlay/entry.Entry]"], unfollowed := true, recurses := true, named := ["overlay/entry.keyBytes", "overlay/entry.valueBytes", "errors.errorType"], plainKeys := false, apart := false, laid := [("errors.errorType", laid_errors_errorType), ("overlay/entry.keyBytes", laid_overlay_entry_keyBytes), ("overlay/entry.valueBytes", laid_overlay_entry_valueBytes)], narrowed := true }
def StatesUptoSaid : Prop := statesUptoRow.holds Tryz.pinned (OpenSpec.upto statesSpec)

/-- 'overlaykeep.Ordered', WHERE WHAT IT READS IS OF BULK AT MOST 1048576: true; the input reads as it did. -/
def orderedUptoRow : OpenClaim := { program := "ytindifjhocgkbaagreatdoor", sum := "c9b41c880bf8d0dfd17a113be7a22b99ce187304bb277c92b0cf467fc50a4774", func := "overlay/overlaykeep.Ordered", spec := "ordered", inPlace := ["internal/bytealg.abigen_runtime_cmpstring", "slices.overlaps[overlay/entry.Entry]", "internal/reflectlite.ValueOf", "(internal/reflectlite.Value).Type", "(internal/reflectlite.Value).IsNil", "internal/reflectlite.TypeOf", "(internal/reflectlite.Value).Elem", "(internal/reflectlite.Value).Set"], unfollowed := true, recurses := true, named := ["overlay/entry.keyBytes", "overlay/entry.valueBytes", "errors.errorType"], plainKeys := false, apart := false, laid := [("errors.errorType", laid_errors_errorType), ("overlay/entry.keyBytes", laid_overlay_entry_keyBytes), ("overlay/entry.valueBytes", laid_overlay_entry_valueBytes)], narrowed := true }
def OrderedUptoSaid : Prop := orderedUptoRow.holds Tryz.pinned (OpenSpec.upto orderedSpec)

/-- 'overlaylaw.Reconciles', WHERE WHAT IT READS IS OF BULK AT MOST 1048576: true; the input reads as it did. -/
def reconcilesUptoRow : OpenClaim := { program := "ytindifjhocgkbaagreatdoor", sum := "c9b41c880bf8d0dfd17a113be7a22b99ce187304bb277c92b0cf467fc50a4774", func := "overlay/overlaylaw.Reconciles", spec := "reconciles", inPlace := ["internal/bytealg.abigen_runtime_cmpstring", "slices.overlaps[overlay/entry.Entry]", "internal/reflectlite.ValueOf", "(internal/reflectlite.Value).Type", "(internal/reflectlite.Value).IsNil", "internal/reflectlite.TypeOf", "(internal/reflectlite.Value).Elem", "(internal/reflectlite.Value).Set"], unfollowed := true, recurses := true, named := ["overlay/entry.keyBytes", "overlay/entry.valueBytes", "errors.errorType"], plainKeys := false, apart := false, laid := [("errors.errorType", laid_errors_errorType), ("overlay/entry.keyBytes", laid_overlay_entry_keyBytes), ("overlay/entry.valueBytes", laid_overlay_entry_valueBytes)], narrowed := true }
def ReconcilesUptoSaid : Prop := reconcilesUptoRow.holds Tryz.pinned (OpenSpec.upto reconcilesSpec)

end Rows
end Go.Proofs.YtindifjhocgkbaaGreatDoor
