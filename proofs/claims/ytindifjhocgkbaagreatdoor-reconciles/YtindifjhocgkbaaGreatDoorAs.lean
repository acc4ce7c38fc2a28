import Derived.Test.YtindifjhocgkbaaGreatDoorErr
namespace Go.Proofs.YtindifjhocgkbaaGreatDoor
open Go.RowKit Go.Extern.Stop Go.Stop Go.Extern

theorem ext_val {P : Program} {f : FuncId} {fn : Func} {e : Array Value → Sem Value} (hf : P.funcs[f]? = some fn) (hname : (fn.name == "runtime.NumGoroutine") = false)
    (hb : fn.body.isNone = true) (hn : Extern.findNext fn = none) (he : Extern.find fn = some e) {args : Array Value} {v : Value} {w w' : World} (hv : (e args).run P w = .ok v w') :
    (callFunc f args).run P w = .ok (.value v) w' := by
  rw [run_callFunc_extern hf hname hb hn he, hv]; rfl

theorem typeOf_errno (v : Value) (w : World) : (callFunc 91 #[.iface 136 v]).run Tryz.prog w = .ok (.value (.iface 196 (.agg #[.pointer (some ⟨4, 136, none⟩)]))) w :=
  ext_val (e := ReflectliteType.typeOf) Tryz.func91 (by kernel_rfl) (by kernel_rfl) (by kernel_rfl) (by kernel_rfl) (by kernel_rfl)
theorem typeOf_fault (v : Value) (w : World) : (callFunc 91 #[.iface 133 v]).run Tryz.prog w = .ok (.value (.iface 196 (.agg #[.pointer (some ⟨4, 133, none⟩)]))) w :=
  ext_val (e := ReflectliteType.typeOf) Tryz.func91 (by kernel_rfl) (by kernel_rfl) (by kernel_rfl) (by kernel_rfl) (by kernel_rfl)
theorem comparable_errno (w : World) : (callFunc 210 #[.agg #[.pointer (some ⟨4, 136, none⟩)]]).run Tryz.prog w = .ok (.value (.bool true)) w :=
  ext_val (e := ReflectliteType.method fun t => do Rtype.noPackHeld "Comparable" t; pure (.bool (← typeInfo t).comparable)) Tryz.func210 (by kernel_rfl) (by kernel_rfl) (by kernel_rfl) (by kernel_rfl) (by kernel_rfl)
theorem method_comparable (h : Value) (w : World) : (Go.method 404 196 (.agg #[h]) "Comparable").run Tryz.prog w = .ok (210, .agg #[h]) w := by kernel_rfl

set_option maxRecDepth 100000 in
set_option maxHeartbeats 1000000 in
theorem errorsIs (bf : Nat) (k b : Int) (w : World) (c0 : w.cell? ⟨bf, 0, none⟩ = some (.int .i64 k)) (c2 : w.cell? ⟨bf, 2, none⟩ = some .nilIface) :
    Calls Tryz.prog 64 #[.iface 133 (.pointer (some ⟨bf, 0, none⟩)), .iface 136 (.int .i64 b)] w fun e w' => e = .returned (.bool (k == b)) ∧ Below w.heap.size w w' := by
  have h1 := typeOf_errno
  have h2 := comparable_errno
  have h3 := method_comparable
  go_enter Tryz.func64, Tryz.ntmps64
  go_wp2_with fail
  refine (is_fault _ _ _ _ c0 c2).mono ?_
  rintro e w1 ⟨rfl, q1⟩
  go_wp2
  go_ret
  exact ⟨rfl, q1⟩

/-! ### What reflectlite gives at the two targets -/
theorem method_kind (h : Value) (w : World) : (Go.method 404 196 (.agg #[h]) "Kind").run Tryz.prog w = .ok (194, h) w := by kernel_rfl
theorem method_elem (h : Value) (w : World) : (Go.method 404 196 (.agg #[h]) "Elem").run Tryz.prog w = .ok (211, .agg #[h]) w := by kernel_rfl
theorem method_implements (h : Value) (w : World) : (Go.method 404 196 (.agg #[h]) "Implements").run Tryz.prog w = .ok (212, .agg #[h]) w := by kernel_rfl
theorem method_assignable (h : Value) (w : World) : (Go.method 404 196 (.agg #[h]) "AssignableTo").run Tryz.prog w = .ok (209, .agg #[h]) w := by kernel_rfl

theorem valueOf_ppFault (t : Addr) (w : World) : (callFunc 87 #[.iface 135 (.pointer (some t))]).run Tryz.prog w
    = .ok (.value (.agg #[.pointer (some ⟨4, 135, none⟩), .pointer (some ⟨w.heap.size, 0, none⟩), .int .u64 150])) (w.alloc (.cells #[.pointer (some t)] 135)) :=
  ext_val (e := fun args => ReflectliteValue.unpack (args.getD 0 (.tuple #[]))) Tryz.func87 (by kernel_rfl) (by kernel_rfl) (by kernel_rfl) (by kernel_rfl) (by kernel_rfl)
theorem type_ppFault (a : Addr) (w : World) : (callFunc 88 #[.agg #[.pointer (some ⟨4, 135, none⟩), .pointer (some a), .int .u64 150]]).run Tryz.prog w
    = .ok (.value (.iface 196 (.agg #[.pointer (some ⟨4, 135, none⟩)]))) w :=
  ext_val (e := ReflectliteValue.methodAny (ReflectliteValue.valueError "reflectlite.Value.Type" 0) (fun t _ _ _ => ReflectliteType.toType t)) Tryz.func88 (by kernel_rfl) (by kernel_rfl) (by kernel_rfl) (by kernel_rfl) (by kernel_rfl)
theorem kind_ppFault (w : World) : (callFunc 194 #[.pointer (some ⟨4, 135, none⟩)]).run Tryz.prog w = .ok (.value (.int .u8 22)) w :=
  ext_val (e := ReflectliteType.abiMethod fun t => do pure (.int .u8 (← Rtype.kind t))) Tryz.func194 (by kernel_rfl) (by kernel_rfl) (by kernel_rfl) (by kernel_rfl) (by kernel_rfl)
theorem kind_pFault (w : World) : (callFunc 194 #[.pointer (some ⟨4, 133, none⟩)]).run Tryz.prog w = .ok (.value (.int .u8 22)) w :=
  ext_val (e := ReflectliteType.abiMethod fun t => do pure (.int .u8 (← Rtype.kind t))) Tryz.func194 (by kernel_rfl) (by kernel_rfl) (by kernel_rfl) (by kernel_rfl) (by kernel_rfl)
theorem elem_ppFault (w : World) : (callFunc 211 #[.agg #[.pointer (some ⟨4, 135, none⟩)]]).run Tryz.prog w = .ok (.value (.iface 196 (.agg #[.pointer (some ⟨4, 133, none⟩)]))) w :=
  ext_val (e := ReflectliteType.method ReflectliteType.elem) Tryz.func211 (by kernel_rfl) (by kernel_rfl) (by kernel_rfl) (by kernel_rfl) (by kernel_rfl)
theorem implements_pFault (w : World) : (callFunc 212 #[.agg #[.pointer (some ⟨4, 133, none⟩)], .iface 196 (.agg #[.pointer (some ⟨4, 80, none⟩)])]).run Tryz.prog w = .ok (.value (.bool true)) w :=
  ext_val (e := ReflectliteType.relation "Implements" ReflectliteType.implements_) Tryz.func212 (by kernel_rfl) (by kernel_rfl) (by kernel_rfl) (by kernel_rfl) (by kernel_rfl)
theorem parts_ppFault (a : Addr) (w : World) : (ReflectliteValue.parts (.agg #[.pointer (some ⟨4, 135, none⟩), .pointer (some a), .int .u64 150])).run Tryz.prog w = .ok (some (135, a, 150)) w := by kernel_rfl
theorem isNil_ppFault (a p : Addr) (W : World) (ha : W.cell? a = some (.pointer (some p))) :
    (callFunc 89 #[.agg #[.pointer (some ⟨4, 135, none⟩), .pointer (some a), .int .u64 150]]).run Tryz.prog W = .ok (.value (.bool false)) W := by
  refine ext_val (e := ReflectliteValue.method (ReflectliteValue.valueError "reflectlite.Value.IsNil" 0) ReflectliteValue.isNil) Tryz.func89 (by kernel_rfl) (by kernel_rfl) (by kernel_rfl) (by kernel_rfl) ?_
  have hmet : ∀ (z : Sem Value) (f : TypeId → Addr → Nat → Nat → Sem Value) (v : Value), ReflectliteValue.method z f #[v] = ReflectliteValue.parts v >>= _ := fun _ _ _ => rfl
  rw [hmet]
  clear hmet
  simp only [Sem.run_bind, parts_ppFault, Result.andThen]
  simp [ReflectliteValue.isNil, loadVar, isAgg, underlying, Tryz.underlying135, ha, Result.andThen]

theorem valueOf_ppIOError (t : Addr) (w : World) : (callFunc 87 #[.iface 141 (.pointer (some t))]).run Tryz.prog w
    = .ok (.value (.agg #[.pointer (some ⟨4, 141, none⟩), .pointer (some ⟨w.heap.size, 0, none⟩), .int .u64 150])) (w.alloc (.cells #[.pointer (some t)] 141)) :=
  ext_val (e := fun args => ReflectliteValue.unpack (args.getD 0 (.tuple #[]))) Tryz.func87 (by kernel_rfl) (by kernel_rfl) (by kernel_rfl) (by kernel_rfl) (by kernel_rfl)
theorem type_ppIOError (a : Addr) (w : World) : (callFunc 88 #[.agg #[.pointer (some ⟨4, 141, none⟩), .pointer (some a), .int .u64 150]]).run Tryz.prog w
    = .ok (.value (.iface 196 (.agg #[.pointer (some ⟨4, 141, none⟩)]))) w :=
  ext_val (e := ReflectliteValue.methodAny (ReflectliteValue.valueError "reflectlite.Value.Type" 0) (fun t _ _ _ => ReflectliteType.toType t)) Tryz.func88 (by kernel_rfl) (by kernel_rfl) (by kernel_rfl) (by kernel_rfl) (by kernel_rfl)
theorem kind_ppIOError (w : World) : (callFunc 194 #[.pointer (some ⟨4, 141, none⟩)]).run Tryz.prog w = .ok (.value (.int .u8 22)) w :=
  ext_val (e := ReflectliteType.abiMethod fun t => do pure (.int .u8 (← Rtype.kind t))) Tryz.func194 (by kernel_rfl) (by kernel_rfl) (by kernel_rfl) (by kernel_rfl) (by kernel_rfl)
theorem kind_pIOError (w : World) : (callFunc 194 #[.pointer (some ⟨4, 140, none⟩)]).run Tryz.prog w = .ok (.value (.int .u8 22)) w :=
  ext_val (e := ReflectliteType.abiMethod fun t => do pure (.int .u8 (← Rtype.kind t))) Tryz.func194 (by kernel_rfl) (by kernel_rfl) (by kernel_rfl) (by kernel_rfl) (by kernel_rfl)
theorem elem_ppIOError (w : World) : (callFunc 211 #[.agg #[.pointer (some ⟨4, 141, none⟩)]]).run Tryz.prog w = .ok (.value (.iface 196 (.agg #[.pointer (some ⟨4, 140, none⟩)]))) w :=
  ext_val (e := ReflectliteType.method ReflectliteType.elem) Tryz.func211 (by kernel_rfl) (by kernel_rfl) (by kernel_rfl) (by kernel_rfl) (by kernel_rfl)
theorem implements_pIOError (w : World) : (callFunc 212 #[.agg #[.pointer (some ⟨4, 140, none⟩)], .iface 196 (.agg #[.pointer (some ⟨4, 80, none⟩)])]).run Tryz.prog w = .ok (.value (.bool true)) w :=
  ext_val (e := ReflectliteType.relation "Implements" ReflectliteType.implements_) Tryz.func212 (by kernel_rfl) (by kernel_rfl) (by kernel_rfl) (by kernel_rfl) (by kernel_rfl)
theorem parts_ppIOError (a : Addr) (w : World) : (ReflectliteValue.parts (.agg #[.pointer (some ⟨4, 141, none⟩), .pointer (some a), .int .u64 150])).run Tryz.prog w = .ok (some (141, a, 150)) w := by kernel_rfl
theorem isNil_ppIOError (a p : Addr) (W : World) (ha : W.cell? a = some (.pointer (some p))) :
    (callFunc 89 #[.agg #[.pointer (some ⟨4, 141, none⟩), .pointer (some a), .int .u64 150]]).run Tryz.prog W = .ok (.value (.bool false)) W := by
  refine ext_val (e := ReflectliteValue.method (ReflectliteValue.valueError "reflectlite.Value.IsNil" 0) ReflectliteValue.isNil) Tryz.func89 (by kernel_rfl) (by kernel_rfl) (by kernel_rfl) (by kernel_rfl) ?_
  have hmet : ∀ (z : Sem Value) (f : TypeId → Addr → Nat → Nat → Sem Value) (v : Value), ReflectliteValue.method z f #[v] = ReflectliteValue.parts v >>= _ := fun _ _ _ => rfl
  rw [hmet]
  clear hmet
  simp only [Sem.run_bind, parts_ppIOError, Result.andThen]
  simp [ReflectliteValue.isNil, loadVar, isAgg, underlying, Tryz.underlying141, ha, Result.andThen]

theorem assignable_ff (w : World) : (callFunc 209 #[.agg #[.pointer (some ⟨4, 133, none⟩)], .iface 196 (.agg #[.pointer (some ⟨4, 133, none⟩)])]).run Tryz.prog w = .ok (.value (.bool true)) w :=
  ext_val (e := ReflectliteType.relation "AssignableTo" ReflectliteType.assignableTo) Tryz.func209 (by kernel_rfl) (by kernel_rfl) (by kernel_rfl) (by kernel_rfl) (by kernel_rfl)
theorem assignable_fi (w : World) : (callFunc 209 #[.agg #[.pointer (some ⟨4, 133, none⟩)], .iface 196 (.agg #[.pointer (some ⟨4, 140, none⟩)])]).run Tryz.prog w = .ok (.value (.bool false)) w :=
  ext_val (e := ReflectliteType.relation "AssignableTo" ReflectliteType.assignableTo) Tryz.func209 (by kernel_rfl) (by kernel_rfl) (by kernel_rfl) (by kernel_rfl) (by kernel_rfl)
theorem assignable_ei (w : World) : (callFunc 209 #[.agg #[.pointer (some ⟨4, 136, none⟩)], .iface 196 (.agg #[.pointer (some ⟨4, 140, none⟩)])]).run Tryz.prog w = .ok (.value (.bool false)) w :=
  ext_val (e := ReflectliteType.relation "AssignableTo" ReflectliteType.assignableTo) Tryz.func209 (by kernel_rfl) (by kernel_rfl) (by kernel_rfl) (by kernel_rfl) (by kernel_rfl)
end Go.Proofs.YtindifjhocgkbaaGreatDoor
