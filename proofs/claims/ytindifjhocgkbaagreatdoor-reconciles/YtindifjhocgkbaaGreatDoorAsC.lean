import Derived.Test.YtindifjhocgkbaaGreatDoorAsB
namespace Go.Proofs.YtindifjhocgkbaaGreatDoor
open Go.RowKit Go.Extern.Stop Go.Stop Go.Extern

theorem noAs_errno (v : Value) (x : TypeId) (w : World) : (Instr.typeAssert (.iface 136 v) x 200 true).run Tryz.prog w = .ok (.tuple #[.nilIface, .bool false]) w :=
  run_typeAssert_lacksB Tryz.underlying200 (by kernel_rfl) (by kernel_rfl) v x w
theorem noAs_fault (v : Value) (x : TypeId) (w : World) : (Instr.typeAssert (.iface 133 v) x 200 true).run Tryz.prog w = .ok (.tuple #[.nilIface, .bool false]) w :=
  run_typeAssert_lacksB Tryz.underlying200 (by kernel_rfl) (by kernel_rfl) v x w

set_option maxRecDepth 100000 in
set_option maxHeartbeats 1000000 in
theorem as39_errno (k : Int) (t : Value) (a : Addr) (w : World) :
    Calls Tryz.prog 90 #[.iface 136 (.int .i64 k), t, .agg #[.pointer (some ⟨4, 141, none⟩), .pointer (some a), .int .u64 150], .iface 196 (.agg #[.pointer (some ⟨4, 140, none⟩)])] w fun e w' => e = .returned (.bool false) ∧ Below w.heap.size w w' := by
  have h1 := typeOf_errno
  have h2 := method_assignable
  have h3 := assignable_ei
  have h4 := noAs_errno
  have h5 := noUn_errno
  have h6 := noUns_errno
  go_enter Tryz.func90, Tryz.ntmps90
  go_wp2
  refine wp_loop_rounds 1 ?_
  rw [rounds_succ]
  go_wp2
  go_ret
  exact ⟨rfl, below_alloc _ _⟩

set_option maxRecDepth 100000 in
set_option maxHeartbeats 1000000 in
theorem as39_fault (bf : Nat) (k : Int) (t : Value) (a : Addr) (w : World) (c0 : w.cell? ⟨bf, 0, none⟩ = some (.int .i64 k)) (c2 : w.cell? ⟨bf, 2, none⟩ = some .nilIface) :
    Calls Tryz.prog 90 #[.iface 133 (.pointer (some ⟨bf, 0, none⟩)), t, .agg #[.pointer (some ⟨4, 141, none⟩), .pointer (some a), .int .u64 150], .iface 196 (.agg #[.pointer (some ⟨4, 140, none⟩)])] w fun e w' => e = .returned (.bool false) ∧ Below w.heap.size w w' := by
  have h1 := typeOf_fault
  have h2 := method_assignable
  have h3 := assignable_fi
  have h4 := noAs_fault
  have h5 := noUn_fault
  have h6 := uns_fault
  have h7 := fun p => method_unwrap (.pointer p)
  have hz : bf < w.heap.size := cell_lt c0
  have d0 : ∀ o, (w.alloc o).cell? ⟨bf, 0, none⟩ = some (.int .i64 k) := fun o => (World.cell?_alloc_lt _ _ _ hz).trans c0
  have d2 : ∀ o, (w.alloc o).cell? ⟨bf, 2, none⟩ = some .nilIface := fun o => (World.cell?_alloc_lt _ _ _ hz).trans c2
  go_enter Tryz.func90, Tryz.ntmps90
  go_wp2
  refine wp_loop_rounds 1 ?_
  rw [rounds_succ]
  go_wp2_with fail
  refine (unwrap_fault _ _ _ (d0 _) (d2 _)).mono ?_
  rintro e w1 ⟨rfl, rfl⟩
  go_wp2_with fail
  refine wp_loop_rounds 2 ?_
  rw [rounds_succ]
  go_wp2_with fail
  refine (as39_errno _ _ _ _).mono ?_
  rintro e w1 ⟨rfl, q1⟩
  go_wp2_with fail
  rw [rounds_succ]
  go_wp2_with fail
  go_ret
  exact ⟨rfl, below_trans (below_trans (below_alloc _ _) (below_alloc _ _)) q1⟩

set_option maxRecDepth 100000 in
set_option maxHeartbeats 4000000 in
theorem as_io (bf : Nat) (k : Int) (t : Addr) (w : World) (hg : w.cell? ⟨0, 0, none⟩ = some (.iface 196 (.agg #[.pointer (some ⟨4, 80, none⟩)]))) (c0 : w.cell? ⟨bf, 0, none⟩ = some (.int .i64 k)) (c2 : w.cell? ⟨bf, 2, none⟩ = some .nilIface) :
    Calls Tryz.prog 63 #[.iface 133 (.pointer (some ⟨bf, 0, none⟩)), .iface 141 (.pointer (some t))] w fun ev w' => ev = .returned (.bool false) ∧ Below w.heap.size w w' := by
  have f1 := valueOf_ppIOError
  have f2 := type_ppIOError
  have f3 := kind_ppIOError
  have f4 := kind_pIOError
  have f5 := elem_ppIOError
  have f6 := implements_pIOError
  have m1 := method_kind
  have m2 := method_elem
  have m3 := method_implements
  have m4 := method_assignable
  have n8 := isNil_ppIOError ⟨w.heap.size, 0, none⟩ t ((w.alloc (.cells #[.pointer (some t)] 141)).alloc (.cells #[.pointer (some ⟨4, 141, none⟩), .pointer (some ⟨w.heap.size, 0, none⟩), .int .u64 150] 167)) (by simp)
  have hlt : 0 < w.heap.size := cell_lt hg
  have hg2 : ((w.alloc (.cells #[.pointer (some t)] 141)).alloc (.cells #[.pointer (some ⟨4, 141, none⟩), .pointer (some ⟨w.heap.size, 0, none⟩), .int .u64 150] 167)).cell? ⟨0, 0, none⟩ = some (.iface 196 (.agg #[.pointer (some ⟨4, 80, none⟩)])) := by
    rw [World.cell?_alloc_lt _ _ ⟨0, 0, none⟩ (by simp), World.cell?_alloc_lt _ _ ⟨0, 0, none⟩ hlt]; exact hg
  have hz : bf < w.heap.size := cell_lt c0
  have q0 := below_trans (below_alloc w (.cells #[.pointer (some t)] 141)) (below_alloc _ (.cells #[.pointer (some ⟨4, 141, none⟩), .pointer (some ⟨w.heap.size, 0, none⟩), .int .u64 150] 167))
  have d0 := (q0.cell (p := ⟨bf, 0, none⟩) hz).trans c0
  have d2 := (q0.cell (p := ⟨bf, 2, none⟩) hz).trans c2
  go_enter Tryz.func63, Tryz.ntmps63
  go_wp2_with fail
  refine (as39_fault _ _ _ _ _ d0 d2).mono ?_
  rintro e w1 ⟨rfl, q1⟩
  go_wp2
  go_ret
  exact ⟨rfl, below_trans q0 q1⟩
end Go.Proofs.YtindifjhocgkbaaGreatDoor
