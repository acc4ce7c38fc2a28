import Derived.Test.YtindifjhocgkbaaDoorErr
namespace Go.Proofs.YtindifjhocgkbaaDoor
open Go.RowKit Go.Extern.Stop Go.Stop Go.Extern

theorem ext_val {P : Program} {f : FuncId} {fn : Func} {e : Array Value → Sem Value} (hf : P.funcs[f]? = some fn) (hname : (fn.name == "runtime.NumGoroutine") = false)
    (hb : fn.body.isNone = true) (hn : Extern.findNext fn = none) (he : Extern.find fn = some e) {args : Array Value} {v : Value} {w w' : World} (hv : (e args).run P w = .ok v w') :
    (callFunc f args).run P w = .ok (.value v) w' := by
  rw [run_callFunc_extern hf hname hb hn he, hv]; rfl

theorem typeOf_errno (v : Value) (w : World) : (callFunc 60 #[.iface 103 v]).run Tryd.prog w = .ok (.value (.iface 150 (.agg #[.pointer (some ⟨4, 103, none⟩)]))) w :=
  ext_val (e := ReflectliteType.typeOf) Tryd.func60 (by kernel_rfl) (by kernel_rfl) (by kernel_rfl) (by kernel_rfl) (by kernel_rfl)
theorem typeOf_fault (v : Value) (w : World) : (callFunc 60 #[.iface 100 v]).run Tryd.prog w = .ok (.value (.iface 150 (.agg #[.pointer (some ⟨4, 100, none⟩)]))) w :=
  ext_val (e := ReflectliteType.typeOf) Tryd.func60 (by kernel_rfl) (by kernel_rfl) (by kernel_rfl) (by kernel_rfl) (by kernel_rfl)
theorem comparable_errno (w : World) : (callFunc 140 #[.agg #[.pointer (some ⟨4, 103, none⟩)]]).run Tryd.prog w = .ok (.value (.bool true)) w :=
  ext_val (e := ReflectliteType.method fun t => do Rtype.noPackHeld "Comparable" t; pure (.bool (← typeInfo t).comparable)) Tryd.func140 (by kernel_rfl) (by kernel_rfl) (by kernel_rfl) (by kernel_rfl) (by kernel_rfl)
theorem method_comparable (h : Value) (w : World) : (Go.method 329 150 (.agg #[h]) "Comparable").run Tryd.prog w = .ok (140, .agg #[h]) w := by kernel_rfl

set_option maxRecDepth 100000 in
set_option maxHeartbeats 1000000 in
theorem errorsIs (bf : Nat) (k b : Int) (w : World) (c0 : w.cell? ⟨bf, 0, none⟩ = some (.int .i64 k)) (c2 : w.cell? ⟨bf, 2, none⟩ = some .nilIface) :
    Calls Tryd.prog 43 #[.iface 100 (.pointer (some ⟨bf, 0, none⟩)), .iface 103 (.int .i64 b)] w fun e w' => e = .returned (.bool (k == b)) ∧ Below w.heap.size w w' := by
  have h1 := typeOf_errno
  have h2 := comparable_errno
  have h3 := method_comparable
  go_enter Tryd.func43, Tryd.ntmps43
  go_wp2_with fail
  refine (is_fault _ _ _ _ c0 c2).mono ?_
  rintro e w1 ⟨rfl, q1⟩
  go_wp2
  go_ret
  exact ⟨rfl, q1⟩

/-! ### What reflectlite gives at the two targets -/
theorem method_kind (h : Value) (w : World) : (Go.method 329 150 (.agg #[h]) "Kind").run Tryd.prog w = .ok (128, h) w := by kernel_rfl
theorem method_elem (h : Value) (w : World) : (Go.method 329 150 (.agg #[h]) "Elem").run Tryd.prog w = .ok (141, .agg #[h]) w := by kernel_rfl
theorem method_implements (h : Value) (w : World) : (Go.method 329 150 (.agg #[h]) "Implements").run Tryd.prog w = .ok (142, .agg #[h]) w := by kernel_rfl
theorem method_assignable (h : Value) (w : World) : (Go.method 329 150 (.agg #[h]) "AssignableTo").run Tryd.prog w = .ok (139, .agg #[h]) w := by kernel_rfl

theorem valueOf_ppFault (t : Addr) (w : World) : (callFunc 56 #[.iface 102 (.pointer (some t))]).run Tryd.prog w
    = .ok (.value (.agg #[.pointer (some ⟨4, 102, none⟩), .pointer (some ⟨w.heap.size, 0, none⟩), .int .u64 150])) (w.alloc (.cells #[.pointer (some t)] 102)) :=
  ext_val (e := fun args => ReflectliteValue.unpack (args.getD 0 (.tuple #[]))) Tryd.func56 (by kernel_rfl) (by kernel_rfl) (by kernel_rfl) (by kernel_rfl) (by kernel_rfl)
theorem type_ppFault (a : Addr) (w : World) : (callFunc 57 #[.agg #[.pointer (some ⟨4, 102, none⟩), .pointer (some a), .int .u64 150]]).run Tryd.prog w
    = .ok (.value (.iface 150 (.agg #[.pointer (some ⟨4, 102, none⟩)]))) w :=
  ext_val (e := ReflectliteValue.methodAny (ReflectliteValue.valueError "reflectlite.Value.Type" 0) (fun t _ _ _ => ReflectliteType.toType t)) Tryd.func57 (by kernel_rfl) (by kernel_rfl) (by kernel_rfl) (by kernel_rfl) (by kernel_rfl)
theorem kind_ppFault (w : World) : (callFunc 128 #[.pointer (some ⟨4, 102, none⟩)]).run Tryd.prog w = .ok (.value (.int .u8 22)) w :=
  ext_val (e := ReflectliteType.abiMethod fun t => do pure (.int .u8 (← Rtype.kind t))) Tryd.func128 (by kernel_rfl) (by kernel_rfl) (by kernel_rfl) (by kernel_rfl) (by kernel_rfl)
theorem kind_pFault (w : World) : (callFunc 128 #[.pointer (some ⟨4, 100, none⟩)]).run Tryd.prog w = .ok (.value (.int .u8 22)) w :=
  ext_val (e := ReflectliteType.abiMethod fun t => do pure (.int .u8 (← Rtype.kind t))) Tryd.func128 (by kernel_rfl) (by kernel_rfl) (by kernel_rfl) (by kernel_rfl) (by kernel_rfl)
theorem elem_ppFault (w : World) : (callFunc 141 #[.agg #[.pointer (some ⟨4, 102, none⟩)]]).run Tryd.prog w = .ok (.value (.iface 150 (.agg #[.pointer (some ⟨4, 100, none⟩)]))) w :=
  ext_val (e := ReflectliteType.method ReflectliteType.elem) Tryd.func141 (by kernel_rfl) (by kernel_rfl) (by kernel_rfl) (by kernel_rfl) (by kernel_rfl)
theorem implements_pFault (w : World) : (callFunc 142 #[.agg #[.pointer (some ⟨4, 100, none⟩)], .iface 150 (.agg #[.pointer (some ⟨4, 72, none⟩)])]).run Tryd.prog w = .ok (.value (.bool true)) w :=
  ext_val (e := ReflectliteType.relation "Implements" ReflectliteType.implements_) Tryd.func142 (by kernel_rfl) (by kernel_rfl) (by kernel_rfl) (by kernel_rfl) (by kernel_rfl)
theorem parts_ppFault (a : Addr) (w : World) : (ReflectliteValue.parts (.agg #[.pointer (some ⟨4, 102, none⟩), .pointer (some a), .int .u64 150])).run Tryd.prog w = .ok (some (102, a, 150)) w := by kernel_rfl
theorem isNil_ppFault (a p : Addr) (W : World) (ha : W.cell? a = some (.pointer (some p))) :
    (callFunc 58 #[.agg #[.pointer (some ⟨4, 102, none⟩), .pointer (some a), .int .u64 150]]).run Tryd.prog W = .ok (.value (.bool false)) W := by
  refine ext_val (e := ReflectliteValue.method (ReflectliteValue.valueError "reflectlite.Value.IsNil" 0) ReflectliteValue.isNil) Tryd.func58 (by kernel_rfl) (by kernel_rfl) (by kernel_rfl) (by kernel_rfl) ?_
  have hmet : ∀ (z : Sem Value) (f : TypeId → Addr → Nat → Nat → Sem Value) (v : Value), ReflectliteValue.method z f #[v] = ReflectliteValue.parts v >>= _ := fun _ _ _ => rfl
  rw [hmet]
  clear hmet
  simp only [Sem.run_bind, parts_ppFault, Result.andThen]
  simp [ReflectliteValue.isNil, loadVar, isAgg, underlying, Tryd.underlying102, ha, Result.andThen]

theorem valueOf_ppIOError (t : Addr) (w : World) : (callFunc 56 #[.iface 108 (.pointer (some t))]).run Tryd.prog w
    = .ok (.value (.agg #[.pointer (some ⟨4, 108, none⟩), .pointer (some ⟨w.heap.size, 0, none⟩), .int .u64 150])) (w.alloc (.cells #[.pointer (some t)] 108)) :=
  ext_val (e := fun args => ReflectliteValue.unpack (args.getD 0 (.tuple #[]))) Tryd.func56 (by kernel_rfl) (by kernel_rfl) (by kernel_rfl) (by kernel_rfl) (by kernel_rfl)
theorem type_ppIOError (a : Addr) (w : World) : (callFunc 57 #[.agg #[.pointer (some ⟨4, 108, none⟩), .pointer (some a), .int .u64 150]]).run Tryd.prog w
    = .ok (.value (.iface 150 (.agg #[.pointer (some ⟨4, 108, none⟩)]))) w :=
  ext_val (e := ReflectliteValue.methodAny (ReflectliteValue.valueError "reflectlite.Value.Type" 0) (fun t _ _ _ => ReflectliteType.toType t)) Tryd.func57 (by kernel_rfl) (by kernel_rfl) (by kernel_rfl) (by kernel_rfl) (by kernel_rfl)
theorem kind_ppIOError (w : World) : (callFunc 128 #[.pointer (some ⟨4, 108, none⟩)]).run Tryd.prog w = .ok (.value (.int .u8 22)) w :=
  ext_val (e := ReflectliteType.abiMethod fun t => do pure (.int .u8 (← Rtype.kind t))) Tryd.func128 (by kernel_rfl) (by kernel_rfl) (by kernel_rfl) (by kernel_rfl) (by kernel_rfl)
theorem kind_pIOError (w : World) : (callFunc 128 #[.pointer (some ⟨4, 107, none⟩)]).run Tryd.prog w = .ok (.value (.int .u8 22)) w :=
  ext_val (e := ReflectliteType.abiMethod fun t => do pure (.int .u8 (← Rtype.kind t))) Tryd.func128 (by kernel_rfl) (by kernel_rfl) (by kernel_rfl) (by kernel_rfl) (by kernel_rfl)
theorem elem_ppIOError (w : World) : (callFunc 141 #[.agg #[.pointer (some ⟨4, 108, none⟩)]]).run Tryd.prog w = .ok (.value (.iface 150 (.agg #[.pointer (some ⟨4, 107, none⟩)]))) w :=
  ext_val (e := ReflectliteType.method ReflectliteType.elem) Tryd.func141 (by kernel_rfl) (by kernel_rfl) (by kernel_rfl) (by kernel_rfl) (by kernel_rfl)
theorem implements_pIOError (w : World) : (callFunc 142 #[.agg #[.pointer (some ⟨4, 107, none⟩)], .iface 150 (.agg #[.pointer (some ⟨4, 72, none⟩)])]).run Tryd.prog w = .ok (.value (.bool true)) w :=
  ext_val (e := ReflectliteType.relation "Implements" ReflectliteType.implements_) Tryd.func142 (by kernel_rfl) (by kernel_rfl) (by kernel_rfl) (by kernel_rfl) (by kernel_rfl)
theorem parts_ppIOError (a : Addr) (w : World) : (ReflectliteValue.parts (.agg #[.pointer (some ⟨4, 108, none⟩), .pointer (some a), .int .u64 150])).run Tryd.prog w = .ok (some (108, a, 150)) w := by kernel_rfl
theorem isNil_ppIOError (a p : Addr) (W : World) (ha : W.cell? a = some (.pointer (some p))) :
    (callFunc 58 #[.agg #[.pointer (some ⟨4, 108, none⟩), .pointer (some a), .int .u64 150]]).run Tryd.prog W = .ok (.value (.bool false)) W := by
  refine ext_val (e := ReflectliteValue.method (ReflectliteValue.valueError "reflectlite.Value.IsNil" 0) ReflectliteValue.isNil) Tryd.func58 (by kernel_rfl) (by kernel_rfl) (by kernel_rfl) (by kernel_rfl) ?_
  have hmet : ∀ (z : Sem Value) (f : TypeId → Addr → Nat → Nat → Sem Value) (v : Value), ReflectliteValue.method z f #[v] = ReflectliteValue.parts v >>= _ := fun _ _ _ => rfl
  rw [hmet]
  clear hmet
  simp only [Sem.run_bind, parts_ppIOError, Result.andThen]
  simp [ReflectliteValue.isNil, loadVar, isAgg, underlying, Tryd.underlying108, ha, Result.andThen]

theorem assignable_ff (w : World) : (callFunc 139 #[.agg #[.pointer (some ⟨4, 100, none⟩)], .iface 150 (.agg #[.pointer (some ⟨4, 100, none⟩)])]).run Tryd.prog w = .ok (.value (.bool true)) w :=
  ext_val (e := ReflectliteType.relation "AssignableTo" ReflectliteType.assignableTo) Tryd.func139 (by kernel_rfl) (by kernel_rfl) (by kernel_rfl) (by kernel_rfl) (by kernel_rfl)
theorem assignable_fi (w : World) : (callFunc 139 #[.agg #[.pointer (some ⟨4, 100, none⟩)], .iface 150 (.agg #[.pointer (some ⟨4, 107, none⟩)])]).run Tryd.prog w = .ok (.value (.bool false)) w :=
  ext_val (e := ReflectliteType.relation "AssignableTo" ReflectliteType.assignableTo) Tryd.func139 (by kernel_rfl) (by kernel_rfl) (by kernel_rfl) (by kernel_rfl) (by kernel_rfl)
theorem assignable_ei (w : World) : (callFunc 139 #[.agg #[.pointer (some ⟨4, 103, none⟩)], .iface 150 (.agg #[.pointer (some ⟨4, 107, none⟩)])]).run Tryd.prog w = .ok (.value (.bool false)) w :=
  ext_val (e := ReflectliteType.relation "AssignableTo" ReflectliteType.assignableTo) Tryd.func139 (by kernel_rfl) (by kernel_rfl) (by kernel_rfl) (by kernel_rfl) (by kernel_rfl)
end Go.Proofs.YtindifjhocgkbaaDoor
