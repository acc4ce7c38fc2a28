import Derived.Test.YtindifjhocgkbaaGreatDoorChk
import Derived.LaidEql
import Derived.Stop.Asserts
import Derived.RowKitTokens
namespace Go.Proofs.YtindifjhocgkbaaGreatDoor
open Go.RowKit Go.Extern.Stop Go.Stop Go.Extern

theorem equalIn_int {P : Program} (w : World) (d : Nat) {ti tn : TypeId} {ms : Array (String × TypeId)} {i : TypeInfo} {k : IntKind} (a b : Int)
    (hi : P.underlying ti = some (.interface ms)) (hn : P.underlying tn = some (.int k)) (hinfo : P.info? tn = some i) (hcomp : i.comparable = true) :
    (Op.equalIn (d + 2) ti (.iface tn (.int k a)) (.iface tn (.int k b))).run P w = .ok (a == b) w := by
  simp [Op.equalIn, run_underlying hi, run_underlying hn, typeInfo, hinfo, hcomp]
theorem eql_int {P : Program} (w : World) {ti tn : TypeId} {ms : Array (String × TypeId)} {i : TypeInfo} {k : IntKind} (a b : Int)
    (hi : P.underlying ti = some (.interface ms)) (hn : P.underlying tn = some (.int k)) (hinfo : P.info? tn = some i) (hcomp : i.comparable = true) :
    (binOp .eql ti (.iface tn (.int k a)) (.iface tn (.int k b))).run P w = .ok (.bool (a == b)) w := by
  simp only [binOp]
  simp [Op.equal, Op.maxDepth, equalIn_int w 9998 a b hi hn hinfo hcomp]

theorem errno_info : ∃ i, Tryz.prog.info? 136 = some i ∧ i.comparable = true := by
  have h : (Tryz.prog.info? 136).map (·.comparable) = some true := by kernel_rfl
  obtain ⟨i, hi, hc⟩ := Option.map_eq_some_iff.1 h
  exact ⟨i, hi, hc⟩
theorem eql_errno (a b : Int) (w : World) : (binOp .eql 80 (.iface 136 (.int .i64 a)) (.iface 136 (.int .i64 b))).run Tryz.prog w = .ok (.bool (a == b)) w := by
  obtain ⟨i, hi, hc⟩ := errno_info
  exact eql_int w a b Tryz.underlying80 Tryz.underlying136 hi hc
theorem eql_fault (a : Value) (b : Value) (w : World) : (binOp .eql 80 (.iface 133 a) (.iface 136 b)).run Tryz.prog w = .ok (.bool false) w :=
  run_eql_iface_types _ _ _ _ Tryz.underlying80 (by decide) w
theorem noIs_errno (v : Value) (x : TypeId) (w : World) : (Instr.typeAssert (.iface 136 v) x 207 true).run Tryz.prog w = .ok (.tuple #[.nilIface, .bool false]) w :=
  run_typeAssert_lacksB Tryz.underlying207 (by kernel_rfl) (by kernel_rfl) v x w
theorem noUn_errno (v : Value) (x : TypeId) (w : World) : (Instr.typeAssert (.iface 136 v) x 203 true).run Tryz.prog w = .ok (.tuple #[.nilIface, .bool false]) w :=
  run_typeAssert_lacksB Tryz.underlying203 (by kernel_rfl) (by kernel_rfl) v x w
theorem noUns_errno (v : Value) (x : TypeId) (w : World) : (Instr.typeAssert (.iface 136 v) x 204 true).run Tryz.prog w = .ok (.tuple #[.nilIface, .bool false]) w :=
  run_typeAssert_lacksB Tryz.underlying204 (by kernel_rfl) (by kernel_rfl) v x w
theorem noIs_fault (v : Value) (x : TypeId) (w : World) : (Instr.typeAssert (.iface 133 v) x 207 true).run Tryz.prog w = .ok (.tuple #[.nilIface, .bool false]) w :=
  run_typeAssert_lacksB Tryz.underlying207 (by kernel_rfl) (by kernel_rfl) v x w
theorem noUn_fault (v : Value) (x : TypeId) (w : World) : (Instr.typeAssert (.iface 133 v) x 203 true).run Tryz.prog w = .ok (.tuple #[.nilIface, .bool false]) w :=
  run_typeAssert_lacksB Tryz.underlying203 (by kernel_rfl) (by kernel_rfl) v x w
theorem uns_fault (v : Value) (x : TypeId) (w : World) : (Instr.typeAssert (.iface 133 v) x 204 true).run Tryz.prog w = .ok (.tuple #[.iface 133 v, .bool true]) w :=
  run_typeAssert_hasB Tryz.underlying204 (by kernel_rfl) v x w

set_option maxHeartbeats 1000000 in
theorem is_errno (a b : Int) (w : World) :
    Calls Tryz.prog 92 #[.iface 136 (.int .i64 a), .iface 136 (.int .i64 b), .bool true] w fun e w' => e = .returned (.bool (a == b)) ∧ w' = w := by
  have h1 := eql_errno
  have h2 := noIs_errno
  have h3 := noUn_errno
  have h4 := noUns_errno
  cases hab : (a == b)
  all_goals
    go_enter Tryz.func92, Tryz.ntmps92
    go_wp2
    refine wp_loop_rounds 1 ?_
    rw [rounds_succ]
    go_wp2
    go_ret
    exact ⟨rfl, rfl⟩

set_option maxHeartbeats 1000000 in
theorem unwrap_fault (b : Nat) (k : Int) (w : World) (c0 : w.cell? ⟨b, 0, none⟩ = some (.int .i64 k)) (c2 : w.cell? ⟨b, 2, none⟩ = some .nilIface) :
    Calls Tryz.prog 202 #[.pointer (some ⟨b, 0, none⟩)] w fun e w' => e = .returned (.slice (some ⟨w.heap.size, 0, none⟩) 1 1) ∧ w' = w.alloc (.cells #[.iface 136 (.int .i64 k)] 80) := by
  go_enter Tryz.func202, Tryz.ntmps202
  go_wp2
  go_ret
  exact ⟨rfl, rfl⟩

theorem method_unwrap (v : Value) (w : World) : (Go.method 404 133 v "Unwrap").run Tryz.prog w = .ok (202, v) w := by kernel_rfl

set_option maxRecDepth 100000 in
set_option maxHeartbeats 1000000 in
theorem is_fault (bf : Nat) (k b : Int) (w : World) (c0 : w.cell? ⟨bf, 0, none⟩ = some (.int .i64 k)) (c2 : w.cell? ⟨bf, 2, none⟩ = some .nilIface) :
    Calls Tryz.prog 92 #[.iface 133 (.pointer (some ⟨bf, 0, none⟩)), .iface 136 (.int .i64 b), .bool true] w fun e w' => e = .returned (.bool (k == b)) ∧ Below w.heap.size w w' := by
  have h1 := eql_fault
  have h2 := noIs_fault
  have h3 := noUn_fault
  have h4 := uns_fault
  have h5 := fun p => method_unwrap (.pointer p)
  have hz : bf < w.heap.size := cell_lt c0
  cases hab : (k == b)
  · go_enter Tryz.func92, Tryz.ntmps92
    go_wp2
    refine wp_loop_rounds 1 ?_
    rw [rounds_succ]
    go_wp2_with fail
    refine (unwrap_fault _ _ _ c0 c2).mono ?_
    rintro e w1 ⟨rfl, rfl⟩
    go_wp2_with fail
    refine wp_loop_rounds 2 ?_
    rw [rounds_succ]
    go_wp2_with fail
    refine (is_errno _ _ _).mono ?_
    rintro e w1 ⟨rfl, rfl⟩
    go_wp2_with fail
    rw [rounds_succ]
    go_wp2_with fail
    go_ret
    exact ⟨rfl, below_alloc _ _⟩
  · go_enter Tryz.func92, Tryz.ntmps92
    go_wp2
    refine wp_loop_rounds 1 ?_
    rw [rounds_succ]
    go_wp2_with fail
    refine (unwrap_fault _ _ _ c0 c2).mono ?_
    rintro e w1 ⟨rfl, rfl⟩
    go_wp2_with fail
    refine wp_loop_rounds 1 ?_
    rw [rounds_succ]
    go_wp2_with fail
    refine (is_errno _ _ _).mono ?_
    rintro e w1 ⟨rfl, rfl⟩
    go_wp2_with fail
    go_ret
    exact ⟨rfl, below_alloc _ _⟩
end Go.Proofs.YtindifjhocgkbaaGreatDoor
