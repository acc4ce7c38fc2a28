import Derived.Test.YtindifjhocgkbaaDoorRChB
namespace Go.Proofs.YtindifjhocgkbaaDoor
open Go.RowKit

set_option maxRecDepth 10000 in
set_option maxHeartbeats 2000000 in
theorem rdec_short {w : World} {s : ByteArray} (hs : s.size < 8) :
    Calls Tryd.prog 23 #[.string s] w fun ev w' => ev = .returned (.tuple #[.agg #[.int .u64 0, .slice none 0 0], .agg #[.int .i64 1, .int .i64 0]]) ∧ Below w.heap.size w w' := by
  go_enter Tryd.func23, Tryd.ntmps23
  go_wp2
  exact bodyPost_ret (v := .tuple #[.agg #[.int .u64 0, .slice none 0 0], .agg #[.int .i64 1, .int .i64 0]]) (by simp [results, Tryd.results23, go_sem]) rfl ⟨rfl, below3 _ _ _ _⟩

/-- The four blocks that Decode makes, and a delta in the last. -/
structure RV (w wr : World) (v : Int) (ao : Option Addr) (n cp : Nat) : Prop where
  p0 : wr.cell? ⟨w.heap.size, 0, none⟩ = some (.int .u64 0)
  p1 : wr.cell? ⟨w.heap.size, 1, none⟩ = some (.slice none 0 0)
  q0 : wr.cell? ⟨w.heap.size + 1, 0, none⟩ = some (.int .i64 0)
  q1 : wr.cell? ⟨w.heap.size + 1, 1, none⟩ = some (.int .i64 0)
  n0 : wr.cell? ⟨w.heap.size + 1 + 1, 0, none⟩ = some (.int .u64 0)
  n1 : wr.cell? ⟨w.heap.size + 1 + 1, 1, none⟩ = some (.slice none 0 0)
  d0 : wr.cell? ⟨w.heap.size + 1 + 1 + 1, 0, none⟩ = some (.int .u64 v)
  d1 : wr.cell? ⟨w.heap.size + 1 + 1 + 1, 1, none⟩ = some (.slice ao n cp)
  pf0 : wr.frozen? ⟨w.heap.size, 0, none⟩ = false
  pf1 : wr.frozen? ⟨w.heap.size, 1, none⟩ = false
  qf0 : wr.frozen? ⟨w.heap.size + 1, 0, none⟩ = false
  qf1 : wr.frozen? ⟨w.heap.size + 1, 1, none⟩ = false
  df0 : wr.frozen? ⟨w.heap.size + 1 + 1 + 1, 0, none⟩ = false
  df1 : wr.frozen? ⟨w.heap.size + 1 + 1 + 1, 1, none⟩ = false
  qw : Below w.heap.size w wr
theorem RV.keep {w wr w' : World} {v : Int} {ao : Option Addr} {n cp : Nat} (h : RV w wr v ao n cp) (q : Below wr.heap.size wr w') : RV w w' v ao n cp :=
  ⟨(q.cell (cell_lt h.p0)).trans h.p0, (q.cell (cell_lt h.p1)).trans h.p1, (q.cell (cell_lt h.q0)).trans h.q0, (q.cell (cell_lt h.q1)).trans h.q1, (q.cell (cell_lt h.n0)).trans h.n0, (q.cell (cell_lt h.n1)).trans h.n1, (q.cell (cell_lt h.d0)).trans h.d0, (q.cell (cell_lt h.d1)).trans h.d1,
   (q.frozen (p := ⟨w.heap.size, 0, none⟩) (cell_lt h.p0)).trans h.pf0, (q.frozen (p := ⟨w.heap.size, 1, none⟩) (cell_lt h.p1)).trans h.pf1, (q.frozen (p := ⟨w.heap.size + 1, 0, none⟩) (cell_lt h.q0)).trans h.qf0, (q.frozen (p := ⟨w.heap.size + 1, 1, none⟩) (cell_lt h.q1)).trans h.qf1, (q.frozen (p := ⟨w.heap.size + 1 + 1 + 1, 0, none⟩) (cell_lt h.d0)).trans h.df0, (q.frozen (p := ⟨w.heap.size + 1 + 1 + 1, 1, none⟩) (cell_lt h.d1)).trans h.df1, below_trans h.qw q⟩
theorem RV.setv {w wr : World} {v v' : Int} {ao : Option Addr} {n cp : Nat} (h : RV w wr v ao n cp) : RV w (wr.setCell ⟨w.heap.size + 1 + 1 + 1, 0, none⟩ (.int .u64 v')) v' ao n cp := by
  have hc : ∀ (a : Addr) (x : Value), wr.cell? a = some x → a ≠ ⟨w.heap.size + 1 + 1 + 1, 0, none⟩ → (wr.setCell ⟨w.heap.size + 1 + 1 + 1, 0, none⟩ (.int .u64 v')).cell? a = some x := fun a x h1 h3 => by
    rw [World.cell?_setCell_other _ _ _ _ (fun h => h3 h.symm)]; exact h1
  exact ⟨hc _ _ h.p0 (by simp <;> omega), hc _ _ h.p1 (by simp), hc _ _ h.q0 (by simp <;> omega), hc _ _ h.q1 (by simp), hc _ _ h.n0 (by simp), hc _ _ h.n1 (by simp), World.cell?_setCell_same _ _ _ h.d0, hc _ _ h.d1 (by simp), (World.frozen?_setCell ..).trans h.pf0, (World.frozen?_setCell ..).trans h.pf1, (World.frozen?_setCell ..).trans h.qf0, (World.frozen?_setCell ..).trans h.qf1, (World.frozen?_setCell ..).trans h.df0, (World.frozen?_setCell ..).trans h.df1, h.qw.setCell (by simp <;> omega) _⟩
theorem rv_start (w : World) : RV w ((((w.alloc (.cells #[.int .u64 0, .slice none 0 0] 25)).alloc (.cells #[.int .i64 0, .int .i64 0] 30)).alloc (.cells #[.int .u64 0, .slice none 0 0] 25)).alloc (.cells #[.int .u64 0, .slice none 0 0] 25)) 0 none 0 0 :=
  ⟨((World.cell?_alloc_lt _ _ _ (by simp <;> omega)).trans (((World.cell?_alloc_lt _ _ _ (by simp <;> omega)).trans (((World.cell?_alloc_lt _ _ _ (by simp <;> omega)).trans (new_cell _ _ _ _ (by simp <;> omega) rfl)))))), ((World.cell?_alloc_lt _ _ _ (by simp <;> omega)).trans (((World.cell?_alloc_lt _ _ _ (by simp <;> omega)).trans (((World.cell?_alloc_lt _ _ _ (by simp <;> omega)).trans (new_cell _ _ _ _ (by simp <;> omega) rfl)))))), ((World.cell?_alloc_lt _ _ _ (by simp <;> omega)).trans (((World.cell?_alloc_lt _ _ _ (by simp <;> omega)).trans (new_cell _ _ _ _ (by simp <;> omega) rfl)))), ((World.cell?_alloc_lt _ _ _ (by simp <;> omega)).trans (((World.cell?_alloc_lt _ _ _ (by simp <;> omega)).trans (new_cell _ _ _ _ (by simp <;> omega) rfl)))), ((World.cell?_alloc_lt _ _ _ (by simp <;> omega)).trans (new_cell _ _ _ _ (by simp <;> omega) rfl)), ((World.cell?_alloc_lt _ _ _ (by simp <;> omega)).trans (new_cell _ _ _ _ (by simp <;> omega) rfl)), new_cell _ _ _ _ (by simp <;> omega) rfl, new_cell _ _ _ _ (by simp <;> omega) rfl, ((World.frozen?_alloc_old _ _ _ (by simp <;> omega)).trans (((World.frozen?_alloc_old _ _ _ (by simp <;> omega)).trans (((World.frozen?_alloc_old _ _ _ (by simp <;> omega)).trans (new_frz _ _ _ _ (by simp <;> omega))))))), ((World.frozen?_alloc_old _ _ _ (by simp <;> omega)).trans (((World.frozen?_alloc_old _ _ _ (by simp <;> omega)).trans (((World.frozen?_alloc_old _ _ _ (by simp <;> omega)).trans (new_frz _ _ _ _ (by simp <;> omega))))))), ((World.frozen?_alloc_old _ _ _ (by simp <;> omega)).trans (((World.frozen?_alloc_old _ _ _ (by simp <;> omega)).trans (new_frz _ _ _ _ (by simp <;> omega))))), ((World.frozen?_alloc_old _ _ _ (by simp <;> omega)).trans (((World.frozen?_alloc_old _ _ _ (by simp <;> omega)).trans (new_frz _ _ _ _ (by simp <;> omega))))), new_frz _ _ _ _ (by simp <;> omega), new_frz _ _ _ _ (by simp <;> omega), below4 w _ _ _ _⟩

theorem w256 (x y : Int) (h0 : 0 ≤ x) (h1 : x < 72057594037927936) (h2 : 0 ≤ y) (h3 : y ≤ 255) : IntKind.u64.wrap (256 * x) = 256 * x ∧ IntKind.u64.wrap (256 * x + y) = 256 * x + y := by
  constructor <;> (simp [IntKind.wrap, IntKind.bits, IntKind.signed]; omega)

set_option maxRecDepth 10000 in
set_option maxHeartbeats 4000000 in
theorem rdec_ver {w : World} {s : ByteArray} (_hs : 8 ≤ s.size) (hv : verB (numAt s 0 8) = false) :
    Calls Tryd.prog 23 #[.string s] w fun ev w' => ev = .returned (.tuple #[.agg #[.int .u64 0, .slice none 0 0], .agg #[.int .i64 4, .int .i64 0]]) ∧ Below w.heap.size w w' := by
  go_enter Tryd.func23, Tryd.ntmps23
  go_wp2_with fail
  have hr0 := rv_start w
  go_loopw [6] (fun i wr => ∃ j : Nat, j ≤ 8 ∧ i = .int .i64 j ∧ RV w wr (numAt s 0 j) none 0 0) (fun i _ => 8 - (intOf i).toNat)
  case atStart => exact ⟨0, Nat.zero_le _, rfl, hr0⟩
  case round =>
    obtain ⟨j, hj, rfl, hr⟩ := hrel
    by_cases hlt : j < 8
    · have hbt := bt_lo s j
      have hnb := numAt_bd7 s 0 j hlt
      obtain ⟨hw1, hw2⟩ := w256 (numAt s 0 j) (bt s j) hnb.1 hnb.2 hbt.1 hbt.2
      have i0 : j < s.size := by omega
      have j0 : (j : Int) < (s.size : Int) := by omega
      have t0 : ((s[j]'i0).toNat : Int) = bt s j := bt_eq i0
      have d0 := hr.d0
      have df0 := hr.df0
      go_wp2_with fail
      go_region
      go_wp2
      go_roundw
      case rel =>
        refine ⟨j + 1, by omega, by go_num, ?_⟩
        have e : numAt s 0 (j + 1) = 256 * numAt s 0 j + bt s j := by rw [numAt, Nat.zero_add]; omega
        rw [e]
        exact (hr.setv).keep (below_drawn _ 1)
      case measure => simp [intOf]; omega
    · obtain rfl : j = 8 := by omega
      have hcop := hr
      obtain ⟨p0, p1, q0, q1, n0, n1, d0, d1, pf0, pf1, qf0, qf1, df0, df1, qw⟩ := hcop
      have hb8 := numAt_bd8 s 0
      have HB8 : Hid (0 ≤ numAt s 0 8 ∧ numAt s 0 8 ≤ 18446744073709551615) := hb8
      clear hb8
      go_wp2_with fail
      refine (rIsVersion _ _ HB8.out.1 HB8.out.2).mono ?_
      rintro ev w1 ⟨rfl, rfl⟩
      rw [hv]
      go_wp2
      exact bodyPost_ret (v := .tuple #[.agg #[.int .u64 0, .slice none 0 0], .agg #[.int .i64 4, .int .i64 0]]) (by simp [results, Tryd.results23, go_sem, p0, p1, q0, q1]) rfl ⟨rfl, (by repeat' (first | refine Below.setCell ?_ (by simp <;> omega) _ | exact qw))⟩
set_option maxRecDepth 10000 in
set_option maxHeartbeats 4000000 in
theorem rdec_8 {w : World} {s : ByteArray} (_hs : 8 ≤ s.size) (hv : verB (numAt s 0 8) = true) (h9 : s.size < 9) :
    Calls Tryd.prog 23 #[.string s] w fun ev w' => ev = .returned (.tuple #[.agg #[.int .u64 0, .slice none 0 0], .agg #[.int .i64 1, .int .i64 8]]) ∧ Below w.heap.size w w' := by
  go_enter Tryd.func23, Tryd.ntmps23
  go_wp2_with fail
  have hr0 := rv_start w
  go_loopw [6] (fun i wr => ∃ j : Nat, j ≤ 8 ∧ i = .int .i64 j ∧ RV w wr (numAt s 0 j) none 0 0) (fun i _ => 8 - (intOf i).toNat)
  case atStart => exact ⟨0, Nat.zero_le _, rfl, hr0⟩
  case round =>
    obtain ⟨j, hj, rfl, hr⟩ := hrel
    by_cases hlt : j < 8
    · have hbt := bt_lo s j
      have hnb := numAt_bd7 s 0 j hlt
      obtain ⟨hw1, hw2⟩ := w256 (numAt s 0 j) (bt s j) hnb.1 hnb.2 hbt.1 hbt.2
      have i0 : j < s.size := by omega
      have j0 : (j : Int) < (s.size : Int) := by omega
      have t0 : ((s[j]'i0).toNat : Int) = bt s j := bt_eq i0
      have d0 := hr.d0
      have df0 := hr.df0
      go_wp2_with fail
      go_region
      go_wp2
      go_roundw
      case rel =>
        refine ⟨j + 1, by omega, by go_num, ?_⟩
        have e : numAt s 0 (j + 1) = 256 * numAt s 0 j + bt s j := by rw [numAt, Nat.zero_add]; omega
        rw [e]
        exact (hr.setv).keep (below_drawn _ 1)
      case measure => simp [intOf]; omega
    · obtain rfl : j = 8 := by omega
      have hcop := hr
      obtain ⟨p0, p1, q0, q1, n0, n1, d0, d1, pf0, pf1, qf0, qf1, df0, df1, qw⟩ := hcop
      have hb8 := numAt_bd8 s 0
      have HB8 : Hid (0 ≤ numAt s 0 8 ∧ numAt s 0 8 ≤ 18446744073709551615) := hb8
      clear hb8
      go_wp2_with fail
      refine (rIsVersion _ _ HB8.out.1 HB8.out.2).mono ?_
      rintro ev w1 ⟨rfl, rfl⟩
      rw [hv]
      go_wp2
      exact bodyPost_ret (v := .tuple #[.agg #[.int .u64 0, .slice none 0 0], .agg #[.int .i64 1, .int .i64 8]]) (by simp [results, Tryd.results23, go_sem, p0, p1, q0, q1]) rfl ⟨rfl, (by repeat' (first | refine Below.setCell ?_ (by simp <;> omega) _ | exact qw))⟩
set_option maxRecDepth 10000 in
set_option maxHeartbeats 4000000 in
theorem rdec_cnt0 {w : World} {s : ByteArray} (_hs : 8 ≤ s.size) (hv : verB (numAt s 0 8) = true) (h9 : 9 ≤ s.size) (hc : bt s 8 < 1) :
    Calls Tryd.prog 23 #[.string s] w fun ev w' => ev = .returned (.tuple #[.agg #[.int .u64 0, .slice none 0 0], .agg #[.int .i64 5, .int .i64 8]]) ∧ Below w.heap.size w w' := by
  go_enter Tryd.func23, Tryd.ntmps23
  go_wp2_with fail
  have hr0 := rv_start w
  go_loopw [6] (fun i wr => ∃ j : Nat, j ≤ 8 ∧ i = .int .i64 j ∧ RV w wr (numAt s 0 j) none 0 0) (fun i _ => 8 - (intOf i).toNat)
  case atStart => exact ⟨0, Nat.zero_le _, rfl, hr0⟩
  case round =>
    obtain ⟨j, hj, rfl, hr⟩ := hrel
    by_cases hlt : j < 8
    · have hbt := bt_lo s j
      have hnb := numAt_bd7 s 0 j hlt
      obtain ⟨hw1, hw2⟩ := w256 (numAt s 0 j) (bt s j) hnb.1 hnb.2 hbt.1 hbt.2
      have i0 : j < s.size := by omega
      have j0 : (j : Int) < (s.size : Int) := by omega
      have t0 : ((s[j]'i0).toNat : Int) = bt s j := bt_eq i0
      have d0 := hr.d0
      have df0 := hr.df0
      go_wp2_with fail
      go_region
      go_wp2
      go_roundw
      case rel =>
        refine ⟨j + 1, by omega, by go_num, ?_⟩
        have e : numAt s 0 (j + 1) = 256 * numAt s 0 j + bt s j := by rw [numAt, Nat.zero_add]; omega
        rw [e]
        exact (hr.setv).keep (below_drawn _ 1)
      case measure => simp [intOf]; omega
    · obtain rfl : j = 8 := by omega
      have hcop := hr
      obtain ⟨p0, p1, q0, q1, n0, n1, d0, d1, pf0, pf1, qf0, qf1, df0, df1, qw⟩ := hcop
      have hb8 := numAt_bd8 s 0
      have HB8 : Hid (0 ≤ numAt s 0 8 ∧ numAt s 0 8 ≤ 18446744073709551615) := hb8
      clear hb8
      go_wp2_with fail
      refine (rIsVersion _ _ HB8.out.1 HB8.out.2).mono ?_
      rintro ev w1 ⟨rfl, rfl⟩
      rw [hv]
      have i8 : 8 < s.size := by omega
      have j8 : (8 : Int) < (s.size : Int) := by omega
      have t8 : ((s[8]'i8).toNat : Int) = bt s 8 := bt_eq i8
      have u8 := bt_lo s 8
      go_wp2
      exact bodyPost_ret (v := .tuple #[.agg #[.int .u64 0, .slice none 0 0], .agg #[.int .i64 5, .int .i64 8]]) (by simp [results, Tryd.results23, go_sem, p0, p1, q0, q1]) rfl ⟨rfl, (by repeat' (first | refine Below.setCell ?_ (by simp <;> omega) _ | exact qw))⟩
set_option maxRecDepth 10000 in
set_option maxHeartbeats 4000000 in
theorem rdec_cnt9 {w : World} {s : ByteArray} (_hs : 8 ≤ s.size) (hv : verB (numAt s 0 8) = true) (h9 : 9 ≤ s.size) (hc0 : 1 ≤ bt s 8) (hc : 8 < bt s 8) :
    Calls Tryd.prog 23 #[.string s] w fun ev w' => ev = .returned (.tuple #[.agg #[.int .u64 0, .slice none 0 0], .agg #[.int .i64 5, .int .i64 8]]) ∧ Below w.heap.size w w' := by
  go_enter Tryd.func23, Tryd.ntmps23
  go_wp2_with fail
  have hr0 := rv_start w
  go_loopw [6] (fun i wr => ∃ j : Nat, j ≤ 8 ∧ i = .int .i64 j ∧ RV w wr (numAt s 0 j) none 0 0) (fun i _ => 8 - (intOf i).toNat)
  case atStart => exact ⟨0, Nat.zero_le _, rfl, hr0⟩
  case round =>
    obtain ⟨j, hj, rfl, hr⟩ := hrel
    by_cases hlt : j < 8
    · have hbt := bt_lo s j
      have hnb := numAt_bd7 s 0 j hlt
      obtain ⟨hw1, hw2⟩ := w256 (numAt s 0 j) (bt s j) hnb.1 hnb.2 hbt.1 hbt.2
      have i0 : j < s.size := by omega
      have j0 : (j : Int) < (s.size : Int) := by omega
      have t0 : ((s[j]'i0).toNat : Int) = bt s j := bt_eq i0
      have d0 := hr.d0
      have df0 := hr.df0
      go_wp2_with fail
      go_region
      go_wp2
      go_roundw
      case rel =>
        refine ⟨j + 1, by omega, by go_num, ?_⟩
        have e : numAt s 0 (j + 1) = 256 * numAt s 0 j + bt s j := by rw [numAt, Nat.zero_add]; omega
        rw [e]
        exact (hr.setv).keep (below_drawn _ 1)
      case measure => simp [intOf]; omega
    · obtain rfl : j = 8 := by omega
      have hcop := hr
      obtain ⟨p0, p1, q0, q1, n0, n1, d0, d1, pf0, pf1, qf0, qf1, df0, df1, qw⟩ := hcop
      have hb8 := numAt_bd8 s 0
      have HB8 : Hid (0 ≤ numAt s 0 8 ∧ numAt s 0 8 ≤ 18446744073709551615) := hb8
      clear hb8
      go_wp2_with fail
      refine (rIsVersion _ _ HB8.out.1 HB8.out.2).mono ?_
      rintro ev w1 ⟨rfl, rfl⟩
      rw [hv]
      have i8 : 8 < s.size := by omega
      have j8 : (8 : Int) < (s.size : Int) := by omega
      have t8 : ((s[8]'i8).toNat : Int) = bt s 8 := bt_eq i8
      have u8 := bt_lo s 8
      go_wp2
      exact bodyPost_ret (v := .tuple #[.agg #[.int .u64 0, .slice none 0 0], .agg #[.int .i64 5, .int .i64 8]]) (by simp [results, Tryd.results23, go_sem, p0, p1, q0, q1]) rfl ⟨rfl, (by repeat' (first | refine Below.setCell ?_ (by simp <;> omega) _ | exact qw))⟩
end Go.Proofs.YtindifjhocgkbaaDoor
