import Derived.Test.YtindifjhocgkbaaDoorPDecB
namespace Go.Proofs.YtindifjhocgkbaaDoor
open Go.RowKit

theorem below3 (w : World) (a b c : Obj) : Below w.heap.size w (((w.alloc a).alloc b).alloc c) := below_trans (below_trans (below_alloc _ _) (below_alloc _ _)) (below_alloc _ _)
theorem below4 (w : World) (a b c d : Obj) : Below w.heap.size w ((((w.alloc a).alloc b).alloc c).alloc d) := below_trans (below3 w a b c) (below_alloc _ _)
theorem wrongN_key {t : Int} {k : ByteArray} {l : List OpD} (ht : 0 ≤ t ∧ t < 3) (h : keyB t k = false) : wrongN ⟨2, t, k, ⟨#[]⟩⟩ l = 7 := wrongN_7 (by simp [kindB]; omega) h
theorem wrongN_twice {t : Int} {k : ByteArray} {l : List OpD} (ht : 0 ≤ t ∧ t < 3) (h : keyB t k = true) (ha : l.any (sameKey t k) = true) : wrongN ⟨2, t, k, ⟨#[]⟩⟩ l = 8 := wrongN_8 (by simp [kindB]; omega) h ha
theorem wrongN_fine {t : Int} {k : ByteArray} {l : List OpD} (ht : 0 ≤ t ∧ t < 3) (h : keyB t k = true) (ha : l.any (sameKey t k) = false) : wrongN ⟨2, t, k, ⟨#[]⟩⟩ l = 0 := wrongN_0 (by simp [kindB]; omega) h ha (by rw [fits2 rfl]; simp [ByteArray.toList_eq])

/-- What a call behind four new blocks leaves. -/
structure Ch3 (w w5 : World) (x0 x1 x2 x3 f0 f1 o0 o1 o2 o3 : Value) : Prop where
  a0 : w5.cell? ⟨w.heap.size, 0, none⟩ = some x0
  a1 : w5.cell? ⟨w.heap.size, 1, none⟩ = some x1
  a2 : w5.cell? ⟨w.heap.size, 2, none⟩ = some x2
  a3 : w5.cell? ⟨w.heap.size, 3, none⟩ = some x3
  b0 : w5.cell? ⟨w.heap.size + 1, 0, none⟩ = some f0
  b1 : w5.cell? ⟨w.heap.size + 1, 1, none⟩ = some f1
  c0 : w5.cell? ⟨w.heap.size + 1 + 1, 0, none⟩ = some o0
  c1 : w5.cell? ⟨w.heap.size + 1 + 1, 1, none⟩ = some o1
  c2 : w5.cell? ⟨w.heap.size + 1 + 1, 2, none⟩ = some o2
  c3 : w5.cell? ⟨w.heap.size + 1 + 1, 3, none⟩ = some o3
  fa : ∀ o, o < 4 → w5.frozen? ⟨w.heap.size, o, none⟩ = false
  fb : ∀ o, o < 2 → w5.frozen? ⟨w.heap.size + 1, o, none⟩ = false
  fc : ∀ o, o < 4 → w5.frozen? ⟨w.heap.size + 1 + 1, o, none⟩ = false
  qw : Below w.heap.size w w5
theorem new_cell (W : World) (c : Array Value) (t : TypeId) (B : Nat) (hB : B = W.heap.size) {i : Nat} {v : Value} (h : c[i]? = some v) : (W.alloc (.cells c t)).cell? ⟨B, i, none⟩ = some v := by subst hB; simpa using h
theorem new_frz (W : World) (c : Array Value) (t : TypeId) (B : Nat) (hB : B = W.heap.size) {i : Nat} : (W.alloc (.cells c t)).frozen? ⟨B, i, none⟩ = false := by subst hB; simp
theorem ch3 {w w5 : World} {x0 x1 x2 x3 f0 f1 o0 o1 o2 o3 : Value} {d0 d1 d2 d3 : Value} {t1 t2 t3 t4 : TypeId} (q : Below ((((w.alloc (.cells #[x0, x1, x2, x3] t1)).alloc (.cells #[f0, f1] t2)).alloc (.cells #[o0, o1, o2, o3] t3)).alloc (.cells #[d0, d1, d2, d3] t4)).heap.size ((((w.alloc (.cells #[x0, x1, x2, x3] t1)).alloc (.cells #[f0, f1] t2)).alloc (.cells #[o0, o1, o2, o3] t3)).alloc (.cells #[d0, d1, d2, d3] t4)) w5) :
    Ch3 w w5 x0 x1 x2 x3 f0 f1 o0 o1 o2 o3 := by
  obtain ⟨hc, hf⟩ := bcells q
  exact ⟨(hc _ _ (by simp <;> omega)).trans (((World.cell?_alloc_lt _ _ _ (by simp <;> omega)).trans (((World.cell?_alloc_lt _ _ _ (by simp <;> omega)).trans (((World.cell?_alloc_lt _ _ _ (by simp <;> omega)).trans (new_cell _ _ _ _ (by simp <;> omega) rfl))))))), (hc _ _ (by simp <;> omega)).trans (((World.cell?_alloc_lt _ _ _ (by simp <;> omega)).trans (((World.cell?_alloc_lt _ _ _ (by simp <;> omega)).trans (((World.cell?_alloc_lt _ _ _ (by simp <;> omega)).trans (new_cell _ _ _ _ (by simp <;> omega) rfl))))))), (hc _ _ (by simp <;> omega)).trans (((World.cell?_alloc_lt _ _ _ (by simp <;> omega)).trans (((World.cell?_alloc_lt _ _ _ (by simp <;> omega)).trans (((World.cell?_alloc_lt _ _ _ (by simp <;> omega)).trans (new_cell _ _ _ _ (by simp <;> omega) rfl))))))), (hc _ _ (by simp <;> omega)).trans (((World.cell?_alloc_lt _ _ _ (by simp <;> omega)).trans (((World.cell?_alloc_lt _ _ _ (by simp <;> omega)).trans (((World.cell?_alloc_lt _ _ _ (by simp <;> omega)).trans (new_cell _ _ _ _ (by simp <;> omega) rfl))))))), (hc _ _ (by simp <;> omega)).trans (((World.cell?_alloc_lt _ _ _ (by simp <;> omega)).trans (((World.cell?_alloc_lt _ _ _ (by simp <;> omega)).trans (new_cell _ _ _ _ (by simp <;> omega) rfl))))), (hc _ _ (by simp <;> omega)).trans (((World.cell?_alloc_lt _ _ _ (by simp <;> omega)).trans (((World.cell?_alloc_lt _ _ _ (by simp <;> omega)).trans (new_cell _ _ _ _ (by simp <;> omega) rfl))))), (hc _ _ (by simp <;> omega)).trans (((World.cell?_alloc_lt _ _ _ (by simp <;> omega)).trans (new_cell _ _ _ _ (by simp <;> omega) rfl))), (hc _ _ (by simp <;> omega)).trans (((World.cell?_alloc_lt _ _ _ (by simp <;> omega)).trans (new_cell _ _ _ _ (by simp <;> omega) rfl))), (hc _ _ (by simp <;> omega)).trans (((World.cell?_alloc_lt _ _ _ (by simp <;> omega)).trans (new_cell _ _ _ _ (by simp <;> omega) rfl))), (hc _ _ (by simp <;> omega)).trans (((World.cell?_alloc_lt _ _ _ (by simp <;> omega)).trans (new_cell _ _ _ _ (by simp <;> omega) rfl))), fun o _ => (hf _ _ (by simp <;> omega)).trans (((World.frozen?_alloc_old _ _ _ (by simp <;> omega)).trans (((World.frozen?_alloc_old _ _ _ (by simp <;> omega)).trans (((World.frozen?_alloc_old _ _ _ (by simp <;> omega)).trans (new_frz _ _ _ _ (by simp <;> omega)))))))), fun o _ => (hf _ _ (by simp <;> omega)).trans (((World.frozen?_alloc_old _ _ _ (by simp <;> omega)).trans (((World.frozen?_alloc_old _ _ _ (by simp <;> omega)).trans (new_frz _ _ _ _ (by simp <;> omega)))))), fun o _ => (hf _ _ (by simp <;> omega)).trans (((World.frozen?_alloc_old _ _ _ (by simp <;> omega)).trans (new_frz _ _ _ _ (by simp <;> omega)))), below_trans (below4 w _ _ _ _) q⟩

set_option maxRecDepth 10000 in
set_option maxHeartbeats 2000000 in
theorem rch_short {w : World} {s : ByteArray} {e : Nat} {ao : Option Addr} {cap' : Nat} {l : List OpD} (_hz : (s.size : Int) ≤ 9223372036854775000) (_he : e ≤ s.size) (_ho : OpsIn w ao l) (_hl : l.length ≤ 8) (hs : s.size < e + 2) :
    Calls Tryd.prog 38 #[.string s, .int .i64 (e : Int), .slice ao l.length cap'] w fun ev w' => ∃ o : OpD, ev = .returned (.tuple #[.agg #[.int .i64 o.kind, .int .i64 o.table, .string o.key, .string o.val], .int .i64 0, .agg #[.int .i64 1, .int .i64 (e : Int)]]) ∧ Below w.heap.size w w' := by
  go_enter Tryd.func38, Tryd.ntmps38
  go_wp2
  exact bodyPost_ret (v := .tuple #[.agg #[.int .i64 0, .int .i64 0, .string ⟨#[]⟩, .string ⟨#[]⟩], .int .i64 0, .agg #[.int .i64 1, .int .i64 (e : Int)]]) (by simp [results, Tryd.results38, go_sem]) rfl ⟨⟨0, 0, ⟨#[]⟩, ⟨#[]⟩⟩, rfl, below3 _ _ _ _⟩
set_option maxRecDepth 10000 in
set_option maxHeartbeats 2000000 in
theorem rch_kind0 {w : World} {s : ByteArray} {e : Nat} {ao : Option Addr} {cap' : Nat} {l : List OpD} (_hz : (s.size : Int) ≤ 9223372036854775000) (_he : e ≤ s.size) (_ho : OpsIn w ao l) (_hl : l.length ≤ 8) (hs : e + 2 ≤ s.size) (hk : bt s e < 1) :
    Calls Tryd.prog 38 #[.string s, .int .i64 (e : Int), .slice ao l.length cap'] w fun ev w' => ∃ o : OpD, ev = .returned (.tuple #[.agg #[.int .i64 o.kind, .int .i64 o.table, .string o.key, .string o.val], .int .i64 0, .agg #[.int .i64 6, .int .i64 (e : Int)]]) ∧ Below w.heap.size w w' := by
  have i0 : e < s.size := by omega
  have i1 : e + 1 < s.size := by omega
  have j0 : (e : Int) < (s.size : Int) := by omega
  have j1 : (e : Int) + 1 < (s.size : Int) := by omega
  have t0 : ((s[e]'i0).toNat : Int) = bt s e := bt_eq i0
  have t1 : ((s[e + 1]'i1).toNat : Int) = bt s (e + 1) := bt_eq i1
  have u0 := bt_lo s e
  have u1 := bt_lo s (e + 1)
  go_enter Tryd.func38, Tryd.ntmps38
  go_wp2
  exact bodyPost_ret (v := .tuple #[.agg #[.int .i64 (bt s e), .int .i64 (bt s (e + 1)), .string ⟨#[]⟩, .string ⟨#[]⟩], .int .i64 0, .agg #[.int .i64 6, .int .i64 (e : Int)]]) (by simp [results, Tryd.results38, go_sem]) rfl ⟨⟨bt s e, (bt s (e + 1)), ⟨#[]⟩, ⟨#[]⟩⟩, rfl, below3 _ _ _ _⟩
set_option maxRecDepth 10000 in
set_option maxHeartbeats 2000000 in
theorem rch_kind3 {w : World} {s : ByteArray} {e : Nat} {ao : Option Addr} {cap' : Nat} {l : List OpD} (_hz : (s.size : Int) ≤ 9223372036854775000) (_he : e ≤ s.size) (_ho : OpsIn w ao l) (_hl : l.length ≤ 8) (hs : e + 2 ≤ s.size) (hk0 : 1 ≤ bt s e) (hk : 2 < bt s e) :
    Calls Tryd.prog 38 #[.string s, .int .i64 (e : Int), .slice ao l.length cap'] w fun ev w' => ∃ o : OpD, ev = .returned (.tuple #[.agg #[.int .i64 o.kind, .int .i64 o.table, .string o.key, .string o.val], .int .i64 0, .agg #[.int .i64 6, .int .i64 (e : Int)]]) ∧ Below w.heap.size w w' := by
  have i0 : e < s.size := by omega
  have i1 : e + 1 < s.size := by omega
  have j0 : (e : Int) < (s.size : Int) := by omega
  have j1 : (e : Int) + 1 < (s.size : Int) := by omega
  have t0 : ((s[e]'i0).toNat : Int) = bt s e := bt_eq i0
  have t1 : ((s[e + 1]'i1).toNat : Int) = bt s (e + 1) := bt_eq i1
  have u0 := bt_lo s e
  have u1 := bt_lo s (e + 1)
  go_enter Tryd.func38, Tryd.ntmps38
  go_wp2
  exact bodyPost_ret (v := .tuple #[.agg #[.int .i64 (bt s e), .int .i64 (bt s (e + 1)), .string ⟨#[]⟩, .string ⟨#[]⟩], .int .i64 0, .agg #[.int .i64 6, .int .i64 (e : Int)]]) (by simp [results, Tryd.results38, go_sem]) rfl ⟨⟨bt s e, (bt s (e + 1)), ⟨#[]⟩, ⟨#[]⟩⟩, rfl, below3 _ _ _ _⟩
set_option maxRecDepth 10000 in
set_option maxHeartbeats 2000000 in
theorem rch_kindt {w : World} {s : ByteArray} {e : Nat} {ao : Option Addr} {cap' : Nat} {l : List OpD} (_hz : (s.size : Int) ≤ 9223372036854775000) (_he : e ≤ s.size) (_ho : OpsIn w ao l) (_hl : l.length ≤ 8) (hs : e + 2 ≤ s.size) (hk0 : 1 ≤ bt s e) (hk2 : bt s e ≤ 2) (hk : 2 < bt s (e + 1)) :
    Calls Tryd.prog 38 #[.string s, .int .i64 (e : Int), .slice ao l.length cap'] w fun ev w' => ∃ o : OpD, ev = .returned (.tuple #[.agg #[.int .i64 o.kind, .int .i64 o.table, .string o.key, .string o.val], .int .i64 0, .agg #[.int .i64 6, .int .i64 (e : Int)]]) ∧ Below w.heap.size w w' := by
  have i0 : e < s.size := by omega
  have i1 : e + 1 < s.size := by omega
  have j0 : (e : Int) < (s.size : Int) := by omega
  have j1 : (e : Int) + 1 < (s.size : Int) := by omega
  have t0 : ((s[e]'i0).toNat : Int) = bt s e := bt_eq i0
  have t1 : ((s[e + 1]'i1).toNat : Int) = bt s (e + 1) := bt_eq i1
  have u0 := bt_lo s e
  have u1 := bt_lo s (e + 1)
  go_enter Tryd.func38, Tryd.ntmps38
  go_wp2
  exact bodyPost_ret (v := .tuple #[.agg #[.int .i64 (bt s e), .int .i64 (bt s (e + 1)), .string ⟨#[]⟩, .string ⟨#[]⟩], .int .i64 0, .agg #[.int .i64 6, .int .i64 (e : Int)]]) (by simp [results, Tryd.results38, go_sem]) rfl ⟨⟨bt s e, (bt s (e + 1)), ⟨#[]⟩, ⟨#[]⟩⟩, rfl, below3 _ _ _ _⟩
set_option maxRecDepth 10000 in
set_option maxHeartbeats 2000000 in
theorem rch_kshort {w : World} {s : ByteArray} {e : Nat} {ao : Option Addr} {cap' : Nat} {l : List OpD} (_hz : (s.size : Int) ≤ 9223372036854775000) (_he : e ≤ s.size) (_ho : OpsIn w ao l) (_hl : l.length ≤ 8) {k m : Nat} (hs : e + 2 ≤ s.size) (_hk1 : 1 ≤ bt s e) (_hk2 : bt s e ≤ 2) (ht3 : bt s (e + 1) ≤ 2) (hk' : kbN (bt s (e + 1)) = (k : Int)) (_hm' : vbN (bt s (e + 1)) = (m : Int)) (hs2 : s.size < e + 2 + k) :
    Calls Tryd.prog 38 #[.string s, .int .i64 (e : Int), .slice ao l.length cap'] w fun ev w' => ∃ o : OpD, ev = .returned (.tuple #[.agg #[.int .i64 o.kind, .int .i64 o.table, .string o.key, .string o.val], .int .i64 0, .agg #[.int .i64 1, .int .i64 ((e + 2 : Nat) : Int)]]) ∧ Below w.heap.size w w' := by
  have i0 : e < s.size := by omega
  have i1 : e + 1 < s.size := by omega
  have j0 : (e : Int) < (s.size : Int) := by omega
  have j1 : (e : Int) + 1 < (s.size : Int) := by omega
  have t0 : ((s[e]'i0).toNat : Int) = bt s e := bt_eq i0
  have t1 : ((s[e + 1]'i1).toNat : Int) = bt s (e + 1) := bt_eq i1
  have u0 := bt_lo s e
  have u1 := bt_lo s (e + 1)
  have ht0 : 0 ≤ bt s (e + 1) := u1.1
  have hkb := kbN_bd (bt s (e + 1))
  have hvb := vbN_bd (bt s (e + 1))
  go_enter Tryd.func38, Tryd.ntmps38
  go_wp2_with fail
  refine (sizes _ _).mono ?_
  rintro ev w1 ⟨rfl, rfl⟩
  go_wp2
  exact bodyPost_ret (v := .tuple #[.agg #[.int .i64 (bt s e), .int .i64 (bt s (e + 1)), .string ⟨#[]⟩, .string ⟨#[]⟩], .int .i64 0, .agg #[.int .i64 1, .int .i64 ((e + 2 : Nat) : Int)]]) (by simp [results, Tryd.results38, go_sem]) rfl ⟨⟨bt s e, (bt s (e + 1)), ⟨#[]⟩, ⟨#[]⟩⟩, rfl, below3 _ _ _ _⟩
set_option maxRecDepth 10000 in
set_option maxHeartbeats 2000000 in
theorem rch_kbad {w : World} {s : ByteArray} {e : Nat} {ao : Option Addr} {cap' : Nat} {l : List OpD} (_hz : (s.size : Int) ≤ 9223372036854775000) (_he : e ≤ s.size) (_ho : OpsIn w ao l) (_hl : l.length ≤ 8) {k m : Nat} (hs : e + 2 ≤ s.size) (_hk1 : 1 ≤ bt s e) (_hk2 : bt s e ≤ 2) (ht3 : bt s (e + 1) ≤ 2) (hk' : kbN (bt s (e + 1)) = (k : Int)) (_hm' : vbN (bt s (e + 1)) = (m : Int)) (hs2 : e + 2 + k ≤ s.size) (hv : keyB (bt s (e + 1)) (s.extract (e + 2) (e + 2 + k)) = false) :
    Calls Tryd.prog 38 #[.string s, .int .i64 (e : Int), .slice ao l.length cap'] w fun ev w' => ∃ o : OpD, ev = .returned (.tuple #[.agg #[.int .i64 o.kind, .int .i64 o.table, .string o.key, .string o.val], .int .i64 0, .agg #[.int .i64 7, .int .i64 ((e + 2 : Nat) : Int)]]) ∧ Below w.heap.size w w' := by
  have i0 : e < s.size := by omega
  have i1 : e + 1 < s.size := by omega
  have j0 : (e : Int) < (s.size : Int) := by omega
  have j1 : (e : Int) + 1 < (s.size : Int) := by omega
  have t0 : ((s[e]'i0).toNat : Int) = bt s e := bt_eq i0
  have t1 : ((s[e + 1]'i1).toNat : Int) = bt s (e + 1) := bt_eq i1
  have u0 := bt_lo s e
  have u1 := bt_lo s (e + 1)
  have ht0 : 0 ≤ bt s (e + 1) := u1.1
  have hkb := kbN_bd (bt s (e + 1))
  have hvb := vbN_bd (bt s (e + 1))
  go_enter Tryd.func38, Tryd.ntmps38
  go_wp2_with fail
  refine (sizes _ _).mono ?_
  rintro ev w1 ⟨rfl, rfl⟩
  go_wp2_with fail
  refine (rOp ⟨2, bt s (e + 1), s.extract (e + 2) (e + 2 + k), ⟨#[]⟩⟩ ao cap' l _ _hl (_ho.keep (below4 _ _ _ _ _))).mono ?_
  rintro ev w5 ⟨rfl, q5⟩
  rw [wrongN_key ⟨ht0, by omega⟩ hv]
  obtain ⟨x0, x1, x2, x3, x4, x5, y0, y1, y2, y3, fa, fb, fc, qw⟩ := ch3 q5
  have fa0 := fa 0 (by omega)
  have fa1 := fa 1 (by omega)
  have fa2 := fa 2 (by omega)
  have fa3 := fa 3 (by omega)
  have fb0 := fb 0 (by omega)
  have fb1 := fb 1 (by omega)
  have fc0 := fc 0 (by omega)
  have fc1 := fc 1 (by omega)
  have fc2 := fc 2 (by omega)
  have fc3 := fc 3 (by omega)
  clear q5 fa fb fc
  go_wp2
  exact bodyPost_ret (v := .tuple #[.agg #[.int .i64 (bt s e), .int .i64 (bt s (e + 1)), .string (s.extract (e + 2) (e + 2 + k)), .string ⟨#[]⟩], .int .i64 0, .agg #[.int .i64 7, .int .i64 ((e + 2 : Nat) : Int)]]) (by simp [results, Tryd.results38, go_sem, x0, x1, x2, x3, x4, x5]) rfl ⟨⟨(bt s e), (bt s (e + 1)), (s.extract (e + 2) (e + 2 + k)), ⟨#[]⟩⟩, rfl, (by repeat' (first | refine Below.setCell ?_ (by simp <;> omega) _ | exact qw))⟩
set_option maxRecDepth 10000 in
set_option maxHeartbeats 2000000 in
theorem rch_twice {w : World} {s : ByteArray} {e : Nat} {ao : Option Addr} {cap' : Nat} {l : List OpD} (_hz : (s.size : Int) ≤ 9223372036854775000) (_he : e ≤ s.size) (_ho : OpsIn w ao l) (_hl : l.length ≤ 8) {k m : Nat} (hs : e + 2 ≤ s.size) (_hk1 : 1 ≤ bt s e) (_hk2 : bt s e ≤ 2) (ht3 : bt s (e + 1) ≤ 2) (hk' : kbN (bt s (e + 1)) = (k : Int)) (_hm' : vbN (bt s (e + 1)) = (m : Int)) (hs2 : e + 2 + k ≤ s.size) (hv : keyB (bt s (e + 1)) (s.extract (e + 2) (e + 2 + k)) = true) (hy : l.any (sameKey (bt s (e + 1)) (s.extract (e + 2) (e + 2 + k))) = true) :
    Calls Tryd.prog 38 #[.string s, .int .i64 (e : Int), .slice ao l.length cap'] w fun ev w' => ∃ o : OpD, ev = .returned (.tuple #[.agg #[.int .i64 o.kind, .int .i64 o.table, .string o.key, .string o.val], .int .i64 0, .agg #[.int .i64 8, .int .i64 ((e + 2 : Nat) : Int)]]) ∧ Below w.heap.size w w' := by
  have i0 : e < s.size := by omega
  have i1 : e + 1 < s.size := by omega
  have j0 : (e : Int) < (s.size : Int) := by omega
  have j1 : (e : Int) + 1 < (s.size : Int) := by omega
  have t0 : ((s[e]'i0).toNat : Int) = bt s e := bt_eq i0
  have t1 : ((s[e + 1]'i1).toNat : Int) = bt s (e + 1) := bt_eq i1
  have u0 := bt_lo s e
  have u1 := bt_lo s (e + 1)
  have ht0 : 0 ≤ bt s (e + 1) := u1.1
  have hkb := kbN_bd (bt s (e + 1))
  have hvb := vbN_bd (bt s (e + 1))
  go_enter Tryd.func38, Tryd.ntmps38
  go_wp2_with fail
  refine (sizes _ _).mono ?_
  rintro ev w1 ⟨rfl, rfl⟩
  go_wp2_with fail
  refine (rOp ⟨2, bt s (e + 1), s.extract (e + 2) (e + 2 + k), ⟨#[]⟩⟩ ao cap' l _ _hl (_ho.keep (below4 _ _ _ _ _))).mono ?_
  rintro ev w5 ⟨rfl, q5⟩
  rw [wrongN_twice ⟨ht0, by omega⟩ hv hy]
  obtain ⟨x0, x1, x2, x3, x4, x5, y0, y1, y2, y3, fa, fb, fc, qw⟩ := ch3 q5
  have fa0 := fa 0 (by omega)
  have fa1 := fa 1 (by omega)
  have fa2 := fa 2 (by omega)
  have fa3 := fa 3 (by omega)
  have fb0 := fb 0 (by omega)
  have fb1 := fb 1 (by omega)
  have fc0 := fc 0 (by omega)
  have fc1 := fc 1 (by omega)
  have fc2 := fc 2 (by omega)
  have fc3 := fc 3 (by omega)
  clear q5 fa fb fc
  go_wp2
  exact bodyPost_ret (v := .tuple #[.agg #[.int .i64 (bt s e), .int .i64 (bt s (e + 1)), .string (s.extract (e + 2) (e + 2 + k)), .string ⟨#[]⟩], .int .i64 0, .agg #[.int .i64 8, .int .i64 ((e + 2 : Nat) : Int)]]) (by simp [results, Tryd.results38, go_sem, x0, x1, x2, x3, x4, x5]) rfl ⟨⟨(bt s e), (bt s (e + 1)), (s.extract (e + 2) (e + 2 + k)), ⟨#[]⟩⟩, rfl, (by repeat' (first | refine Below.setCell ?_ (by simp <;> omega) _ | exact qw))⟩
set_option maxRecDepth 10000 in
set_option maxHeartbeats 2000000 in
theorem rch_drop {w : World} {s : ByteArray} {e : Nat} {ao : Option Addr} {cap' : Nat} {l : List OpD} (_hz : (s.size : Int) ≤ 9223372036854775000) (_he : e ≤ s.size) (_ho : OpsIn w ao l) (_hl : l.length ≤ 8) {k m : Nat} (hs : e + 2 ≤ s.size) (_hk1 : 1 ≤ bt s e) (_hk2 : bt s e ≤ 2) (ht3 : bt s (e + 1) ≤ 2) (hk' : kbN (bt s (e + 1)) = (k : Int)) (_hm' : vbN (bt s (e + 1)) = (m : Int)) (hs2 : e + 2 + k ≤ s.size) (hv : keyB (bt s (e + 1)) (s.extract (e + 2) (e + 2 + k)) = true) (hy : l.any (sameKey (bt s (e + 1)) (s.extract (e + 2) (e + 2 + k))) = false) (h2 : bt s e = 2) :
    Calls Tryd.prog 38 #[.string s, .int .i64 (e : Int), .slice ao l.length cap'] w fun ev w' => ev = .returned (.tuple #[.agg #[.int .i64 2, .int .i64 (bt s (e + 1)), .string (s.extract (e + 2) (e + 2 + k)), .string ⟨#[]⟩], .int .i64 ((e + 2 + k : Nat) : Int), .agg #[.int .i64 0, .int .i64 0]]) ∧ Below w.heap.size w w' := by
  have i0 : e < s.size := by omega
  have i1 : e + 1 < s.size := by omega
  have j0 : (e : Int) < (s.size : Int) := by omega
  have j1 : (e : Int) + 1 < (s.size : Int) := by omega
  have t0 : ((s[e]'i0).toNat : Int) = bt s e := bt_eq i0
  have t1 : ((s[e + 1]'i1).toNat : Int) = bt s (e + 1) := bt_eq i1
  have u0 := bt_lo s e
  have u1 := bt_lo s (e + 1)
  have ht0 : 0 ≤ bt s (e + 1) := u1.1
  have hkb := kbN_bd (bt s (e + 1))
  have hvb := vbN_bd (bt s (e + 1))
  go_enter Tryd.func38, Tryd.ntmps38
  go_wp2_with fail
  refine (sizes _ _).mono ?_
  rintro ev w1 ⟨rfl, rfl⟩
  go_wp2_with fail
  refine (rOp ⟨2, bt s (e + 1), s.extract (e + 2) (e + 2 + k), ⟨#[]⟩⟩ ao cap' l _ _hl (_ho.keep (below4 _ _ _ _ _))).mono ?_
  rintro ev w5 ⟨rfl, q5⟩
  rw [wrongN_fine ⟨ht0, by omega⟩ hv hy]
  obtain ⟨x0, x1, x2, x3, x4, x5, y0, y1, y2, y3, fa, fb, fc, qw⟩ := ch3 q5
  have fa0 := fa 0 (by omega)
  have fa1 := fa 1 (by omega)
  have fa2 := fa 2 (by omega)
  have fa3 := fa 3 (by omega)
  have fb0 := fb 0 (by omega)
  have fb1 := fb 1 (by omega)
  have fc0 := fc 0 (by omega)
  have fc1 := fc 1 (by omega)
  have fc2 := fc 2 (by omega)
  have fc3 := fc 3 (by omega)
  clear q5 fa fb fc
  go_wp2
  exact bodyPost_ret (v := .tuple #[.agg #[.int .i64 2, .int .i64 (bt s (e + 1)), .string (s.extract (e + 2) (e + 2 + k)), .string ⟨#[]⟩], .int .i64 ((e + 2 + k : Nat) : Int), .agg #[.int .i64 0, .int .i64 0]]) (by simp [results, Tryd.results38, go_sem, x0, x1, x2, x3, x4, x5]) rfl ⟨rfl, (by repeat' (first | refine Below.setCell ?_ (by simp <;> omega) _ | exact qw))⟩
set_option maxRecDepth 10000 in
set_option maxHeartbeats 2000000 in
theorem rch_vshort {w : World} {s : ByteArray} {e : Nat} {ao : Option Addr} {cap' : Nat} {l : List OpD} (_hz : (s.size : Int) ≤ 9223372036854775000) (_he : e ≤ s.size) (_ho : OpsIn w ao l) (_hl : l.length ≤ 8) {k m : Nat} (hs : e + 2 ≤ s.size) (_hk1 : 1 ≤ bt s e) (_hk2 : bt s e ≤ 2) (ht3 : bt s (e + 1) ≤ 2) (hk' : kbN (bt s (e + 1)) = (k : Int)) (_hm' : vbN (bt s (e + 1)) = (m : Int)) (hs2 : e + 2 + k ≤ s.size) (hv : keyB (bt s (e + 1)) (s.extract (e + 2) (e + 2 + k)) = true) (hy : l.any (sameKey (bt s (e + 1)) (s.extract (e + 2) (e + 2 + k))) = false) (h1 : bt s e = 1) (hs3 : s.size < e + 2 + k + m) :
    Calls Tryd.prog 38 #[.string s, .int .i64 (e : Int), .slice ao l.length cap'] w fun ev w' => ∃ o : OpD, ev = .returned (.tuple #[.agg #[.int .i64 o.kind, .int .i64 o.table, .string o.key, .string o.val], .int .i64 0, .agg #[.int .i64 1, .int .i64 ((e + 2 + k : Nat) : Int)]]) ∧ Below w.heap.size w w' := by
  have i0 : e < s.size := by omega
  have i1 : e + 1 < s.size := by omega
  have j0 : (e : Int) < (s.size : Int) := by omega
  have j1 : (e : Int) + 1 < (s.size : Int) := by omega
  have t0 : ((s[e]'i0).toNat : Int) = bt s e := bt_eq i0
  have t1 : ((s[e + 1]'i1).toNat : Int) = bt s (e + 1) := bt_eq i1
  have u0 := bt_lo s e
  have u1 := bt_lo s (e + 1)
  have ht0 : 0 ≤ bt s (e + 1) := u1.1
  have hkb := kbN_bd (bt s (e + 1))
  have hvb := vbN_bd (bt s (e + 1))
  go_enter Tryd.func38, Tryd.ntmps38
  go_wp2_with fail
  refine (sizes _ _).mono ?_
  rintro ev w1 ⟨rfl, rfl⟩
  go_wp2_with fail
  refine (rOp ⟨2, bt s (e + 1), s.extract (e + 2) (e + 2 + k), ⟨#[]⟩⟩ ao cap' l _ _hl (_ho.keep (below4 _ _ _ _ _))).mono ?_
  rintro ev w5 ⟨rfl, q5⟩
  rw [wrongN_fine ⟨ht0, by omega⟩ hv hy]
  obtain ⟨x0, x1, x2, x3, x4, x5, y0, y1, y2, y3, fa, fb, fc, qw⟩ := ch3 q5
  have fa0 := fa 0 (by omega)
  have fa1 := fa 1 (by omega)
  have fa2 := fa 2 (by omega)
  have fa3 := fa 3 (by omega)
  have fb0 := fb 0 (by omega)
  have fb1 := fb 1 (by omega)
  have fc0 := fc 0 (by omega)
  have fc1 := fc 1 (by omega)
  have fc2 := fc 2 (by omega)
  have fc3 := fc 3 (by omega)
  clear q5 fa fb fc
  go_wp2
  exact bodyPost_ret (v := .tuple #[.agg #[.int .i64 1, .int .i64 (bt s (e + 1)), .string (s.extract (e + 2) (e + 2 + k)), .string ⟨#[]⟩], .int .i64 0, .agg #[.int .i64 1, .int .i64 ((e + 2 + k : Nat) : Int)]]) (by simp [results, Tryd.results38, go_sem, x0, x1, x2, x3, x4, x5]) rfl ⟨⟨1, (bt s (e + 1)), (s.extract (e + 2) (e + 2 + k)), ⟨#[]⟩⟩, rfl, (by repeat' (first | refine Below.setCell ?_ (by simp <;> omega) _ | exact qw))⟩
set_option maxRecDepth 10000 in
set_option maxHeartbeats 2000000 in
theorem rch_vbad {w : World} {s : ByteArray} {e : Nat} {ao : Option Addr} {cap' : Nat} {l : List OpD} (_hz : (s.size : Int) ≤ 9223372036854775000) (_he : e ≤ s.size) (_ho : OpsIn w ao l) (_hl : l.length ≤ 8) {k m : Nat} (hs : e + 2 ≤ s.size) (_hk1 : 1 ≤ bt s e) (_hk2 : bt s e ≤ 2) (ht3 : bt s (e + 1) ≤ 2) (hk' : kbN (bt s (e + 1)) = (k : Int)) (_hm' : vbN (bt s (e + 1)) = (m : Int)) (hs2 : e + 2 + k ≤ s.size) (hv : keyB (bt s (e + 1)) (s.extract (e + 2) (e + 2 + k)) = true) (hy : l.any (sameKey (bt s (e + 1)) (s.extract (e + 2) (e + 2 + k))) = false) (h1 : bt s e = 1) (hs3 : e + 2 + k + m ≤ s.size) (hv3 : valB (bt s (e + 1)) (s.extract (e + 2 + k) (e + 2 + k + m)) = false) :
    Calls Tryd.prog 38 #[.string s, .int .i64 (e : Int), .slice ao l.length cap'] w fun ev w' => ∃ o : OpD, ev = .returned (.tuple #[.agg #[.int .i64 o.kind, .int .i64 o.table, .string o.key, .string o.val], .int .i64 0, .agg #[.int .i64 9, .int .i64 ((e + 2 + k : Nat) : Int)]]) ∧ Below w.heap.size w w' := by
  have i0 : e < s.size := by omega
  have i1 : e + 1 < s.size := by omega
  have j0 : (e : Int) < (s.size : Int) := by omega
  have j1 : (e : Int) + 1 < (s.size : Int) := by omega
  have t0 : ((s[e]'i0).toNat : Int) = bt s e := bt_eq i0
  have t1 : ((s[e + 1]'i1).toNat : Int) = bt s (e + 1) := bt_eq i1
  have u0 := bt_lo s e
  have u1 := bt_lo s (e + 1)
  have ht0 : 0 ≤ bt s (e + 1) := u1.1
  have hkb := kbN_bd (bt s (e + 1))
  have hvb := vbN_bd (bt s (e + 1))
  go_enter Tryd.func38, Tryd.ntmps38
  go_wp2_with fail
  refine (sizes _ _).mono ?_
  rintro ev w1 ⟨rfl, rfl⟩
  go_wp2_with fail
  refine (rOp ⟨2, bt s (e + 1), s.extract (e + 2) (e + 2 + k), ⟨#[]⟩⟩ ao cap' l _ _hl (_ho.keep (below4 _ _ _ _ _))).mono ?_
  rintro ev w5 ⟨rfl, q5⟩
  rw [wrongN_fine ⟨ht0, by omega⟩ hv hy]
  obtain ⟨x0, x1, x2, x3, x4, x5, y0, y1, y2, y3, fa, fb, fc, qw⟩ := ch3 q5
  have fa0 := fa 0 (by omega)
  have fa1 := fa 1 (by omega)
  have fa2 := fa 2 (by omega)
  have fa3 := fa 3 (by omega)
  have fb0 := fb 0 (by omega)
  have fb1 := fb 1 (by omega)
  have fc0 := fc 0 (by omega)
  have fc1 := fc 1 (by omega)
  have fc2 := fc 2 (by omega)
  have fc3 := fc 3 (by omega)
  clear q5 fa fb fc
  go_wp2_with fail
  refine (rIsValue (bt s (e + 1)) (s.extract (e + 2 + k) (e + 2 + k + m)) _ ht0 (by omega)).mono ?_
  rintro ev w6 ⟨rfl, rfl⟩
  rw [hv3]
  go_wp2
  exact bodyPost_ret (v := .tuple #[.agg #[.int .i64 1, .int .i64 (bt s (e + 1)), .string (s.extract (e + 2) (e + 2 + k)), .string (s.extract (e + 2 + k) (e + 2 + k + m))], .int .i64 0, .agg #[.int .i64 9, .int .i64 ((e + 2 + k : Nat) : Int)]]) (by simp [results, Tryd.results38, go_sem, x0, x1, x2, x3, x4, x5]) rfl ⟨⟨1, (bt s (e + 1)), (s.extract (e + 2) (e + 2 + k)), (s.extract (e + 2 + k) (e + 2 + k + m))⟩, rfl, (by repeat' (first | refine Below.setCell ?_ (by simp <;> omega) _ | exact qw))⟩
set_option maxRecDepth 10000 in
set_option maxHeartbeats 2000000 in
theorem rch_put {w : World} {s : ByteArray} {e : Nat} {ao : Option Addr} {cap' : Nat} {l : List OpD} (_hz : (s.size : Int) ≤ 9223372036854775000) (_he : e ≤ s.size) (_ho : OpsIn w ao l) (_hl : l.length ≤ 8) {k m : Nat} (hs : e + 2 ≤ s.size) (_hk1 : 1 ≤ bt s e) (_hk2 : bt s e ≤ 2) (ht3 : bt s (e + 1) ≤ 2) (hk' : kbN (bt s (e + 1)) = (k : Int)) (_hm' : vbN (bt s (e + 1)) = (m : Int)) (hs2 : e + 2 + k ≤ s.size) (hv : keyB (bt s (e + 1)) (s.extract (e + 2) (e + 2 + k)) = true) (hy : l.any (sameKey (bt s (e + 1)) (s.extract (e + 2) (e + 2 + k))) = false) (h1 : bt s e = 1) (hs3 : e + 2 + k + m ≤ s.size) (hv3 : valB (bt s (e + 1)) (s.extract (e + 2 + k) (e + 2 + k + m)) = true) :
    Calls Tryd.prog 38 #[.string s, .int .i64 (e : Int), .slice ao l.length cap'] w fun ev w' => ev = .returned (.tuple #[.agg #[.int .i64 1, .int .i64 (bt s (e + 1)), .string (s.extract (e + 2) (e + 2 + k)), .string (s.extract (e + 2 + k) (e + 2 + k + m))], .int .i64 ((e + 2 + k + m : Nat) : Int), .agg #[.int .i64 0, .int .i64 0]]) ∧ Below w.heap.size w w' := by
  have i0 : e < s.size := by omega
  have i1 : e + 1 < s.size := by omega
  have j0 : (e : Int) < (s.size : Int) := by omega
  have j1 : (e : Int) + 1 < (s.size : Int) := by omega
  have t0 : ((s[e]'i0).toNat : Int) = bt s e := bt_eq i0
  have t1 : ((s[e + 1]'i1).toNat : Int) = bt s (e + 1) := bt_eq i1
  have u0 := bt_lo s e
  have u1 := bt_lo s (e + 1)
  have ht0 : 0 ≤ bt s (e + 1) := u1.1
  have hkb := kbN_bd (bt s (e + 1))
  have hvb := vbN_bd (bt s (e + 1))
  go_enter Tryd.func38, Tryd.ntmps38
  go_wp2_with fail
  refine (sizes _ _).mono ?_
  rintro ev w1 ⟨rfl, rfl⟩
  go_wp2_with fail
  refine (rOp ⟨2, bt s (e + 1), s.extract (e + 2) (e + 2 + k), ⟨#[]⟩⟩ ao cap' l _ _hl (_ho.keep (below4 _ _ _ _ _))).mono ?_
  rintro ev w5 ⟨rfl, q5⟩
  rw [wrongN_fine ⟨ht0, by omega⟩ hv hy]
  obtain ⟨x0, x1, x2, x3, x4, x5, y0, y1, y2, y3, fa, fb, fc, qw⟩ := ch3 q5
  have fa0 := fa 0 (by omega)
  have fa1 := fa 1 (by omega)
  have fa2 := fa 2 (by omega)
  have fa3 := fa 3 (by omega)
  have fb0 := fb 0 (by omega)
  have fb1 := fb 1 (by omega)
  have fc0 := fc 0 (by omega)
  have fc1 := fc 1 (by omega)
  have fc2 := fc 2 (by omega)
  have fc3 := fc 3 (by omega)
  clear q5 fa fb fc
  go_wp2_with fail
  refine (rIsValue (bt s (e + 1)) (s.extract (e + 2 + k) (e + 2 + k + m)) _ ht0 (by omega)).mono ?_
  rintro ev w6 ⟨rfl, rfl⟩
  rw [hv3]
  go_wp2
  exact bodyPost_ret (v := .tuple #[.agg #[.int .i64 1, .int .i64 (bt s (e + 1)), .string (s.extract (e + 2) (e + 2 + k)), .string (s.extract (e + 2 + k) (e + 2 + k + m))], .int .i64 ((e + 2 + k + m : Nat) : Int), .agg #[.int .i64 0, .int .i64 0]]) (by simp [results, Tryd.results38, go_sem, x0, x1, x2, x3, x4, x5]) rfl ⟨rfl, (by repeat' (first | refine Below.setCell ?_ (by simp <;> omega) _ | exact qw))⟩
end Go.Proofs.YtindifjhocgkbaaDoor
