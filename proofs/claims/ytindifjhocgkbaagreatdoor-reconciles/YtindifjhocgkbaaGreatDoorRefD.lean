import Derived.Test.YtindifjhocgkbaaGreatDoorFnd
import Derived.Test.YtindifjhocgkbaaGreatDoorStaToApt
import Derived.Test.YtindifjhocgkbaaGreatDoorDecA
import Derived.Test.YtindifjhocgkbaaGreatDoorItD
namespace Go.Proofs.YtindifjhocgkbaaGreatDoor
open Go.RowKit

theorem cb_bytes : ∀ (a b : List UInt8), Op.bytesLess a b = decide (Lib.compareBytes a b < 0)
  | [], [] => by simp [Lib.compareBytes, Op.bytesLess]
  | _ :: _, [] => by simp [Lib.compareBytes, Op.bytesLess]
  | [], _ :: _ => by simp [Lib.compareBytes, Op.bytesLess]
  | x :: a, y :: b => by
    have ih := cb_bytes a b
    unfold Lib.compareBytes
    by_cases xy : x < y
    · simp [Op.bytesLess, xy]
    · by_cases yx : y < x
      · have hne : ¬ x = y := fun e => by subst e; exact xy yx
        simp [Op.bytesLess, xy, yx, hne]
      · have := u8_tri xy yx
        subst this
        simp [Op.bytesLess, xy, ih]
theorem cmpB_bytes (a b : ByteArray) : Op.bytesLess a.toList b.toList = decide (cmpB a b < 0) := by
  rw [ByteArray.toList_eq, ByteArray.toList_eq]; exact cb_bytes _ _
/-- An entry stands ahead of another one. -/
def lessB (a b : En) : Bool := decide (cmpK a.t a.k b.t b.k < 0)
set_option maxRecDepth 10000 in
set_option maxHeartbeats 1000000 in
theorem rLess (a b : En) (w : World) :
    Calls Tryz.prog 67 #[.agg #[.int .i64 a.t, .string a.k, .string a.v], .agg #[.int .i64 b.t, .string b.k, .string b.v]] w fun e w' => e = .returned (.bool (lessB a b)) ∧ Below w.heap.size w w' := by
  have hq := below_trans (below_alloc w (.cells #[.int .i64 a.t, .string a.k, .string a.v] 87)) (below_alloc _ (.cells #[.int .i64 b.t, .string b.k, .string b.v] 87))
  rcases (show a.t < b.t ∨ b.t < a.t ∨ a.t = b.t by omega) with h | h | h
  · have e : lessB a b = true := by unfold lessB cmpK cmpT; simp [h]
    rw [e]
    go_enter Tryz.func67, Tryz.ntmps67
    go_wp2_with fail
    go_ret
    exact ⟨rfl, hq⟩
  · have h1 : ¬ a.t < b.t := by omega
    have h2 : ¬ a.t = b.t := by omega
    have e : lessB a b = false := by unfold lessB cmpK cmpT; simp [h, h1]
    rw [e]
    go_enter Tryz.func67, Tryz.ntmps67
    go_wp2_with fail
    go_ret
    exact ⟨rfl, hq⟩
  · have h1 : ¬ a.t < b.t := by omega
    have e : lessB a b = Op.bytesLess a.k.toList b.k.toList := by rw [cmpB_bytes]; unfold lessB cmpK cmpT; simp [h]
    rw [e]
    clear e h1
    obtain ⟨t, k, v⟩ := a
    obtain ⟨t', k', v'⟩ := b
    simp only at h
    subst h
    simp only at hq ⊢
    go_enter Tryz.func67, Tryz.ntmps67
    go_wp2_with fail
    go_ret
    exact ⟨rfl, hq⟩
end Go.Proofs.YtindifjhocgkbaaGreatDoor
namespace Go.Proofs.YtindifjhocgkbaaGreatDoor
open Go.RowKit

theorem new_cell' (W : World) (c : Array Value) (t : TypeId) (B : Nat) (hB : B = W.heap.size) {i : Nat} {v : Value} (h : c[i]? = some v) : (W.alloc (.cells c t)).cell? ⟨B, i, none⟩ = some v := by subst hB; simpa using h
theorem new_frz' (W : World) (c : Array Value) (t : TypeId) (B : Nat) (hB : B = W.heap.size) {i : Nat} : (W.alloc (.cells c t)).frozen? ⟨B, i, none⟩ = false := by subst hB; simp
/-- The three blocks that entry makes. -/
structure En3 (w wr : World) (t : Int) (k v : ByteArray) : Prop where
  a0 : wr.cell? ⟨w.heap.size, 0, none⟩ = some (.int .i64 0)
  a1 : wr.cell? ⟨w.heap.size, 1, none⟩ = some (.string ⟨#[]⟩)
  a2 : wr.cell? ⟨w.heap.size, 2, none⟩ = some (.string ⟨#[]⟩)
  b0 : wr.cell? ⟨w.heap.size + 1, 0, none⟩ = some (.int .i64 0)
  b1 : wr.cell? ⟨w.heap.size + 1, 1, none⟩ = some (.int .i64 0)
  c0 : wr.cell? ⟨w.heap.size + 1 + 1, 0, none⟩ = some (.int .i64 t)
  c1 : wr.cell? ⟨w.heap.size + 1 + 1, 1, none⟩ = some (.string k)
  c2 : wr.cell? ⟨w.heap.size + 1 + 1, 2, none⟩ = some (.string v)
  fa : ∀ o, wr.frozen? ⟨w.heap.size, o, none⟩ = false
  fb : ∀ o, wr.frozen? ⟨w.heap.size + 1, o, none⟩ = false
  fc : ∀ o, wr.frozen? ⟨w.heap.size + 1 + 1, o, none⟩ = false
  qw : Below w.heap.size w wr
theorem En3.keep {w wr w' : World} {t : Int} {k v : ByteArray} (h : En3 w wr t k v) (q : Below wr.heap.size wr w') : En3 w w' t k v :=
  ⟨(q.cell (cell_lt h.a0)).trans h.a0, (q.cell (cell_lt h.a1)).trans h.a1, (q.cell (cell_lt h.a2)).trans h.a2, (q.cell (cell_lt h.b0)).trans h.b0, (q.cell (cell_lt h.b1)).trans h.b1, (q.cell (cell_lt h.c0)).trans h.c0, (q.cell (cell_lt h.c1)).trans h.c1, (q.cell (cell_lt h.c2)).trans h.c2,
   fun o => (q.frozen (p := ⟨w.heap.size, o, none⟩) (show w.heap.size < _ from cell_lt h.a0)).trans (h.fa o), fun o => (q.frozen (p := ⟨w.heap.size + 1, o, none⟩) (show w.heap.size + 1 < _ from cell_lt h.b0)).trans (h.fb o), fun o => (q.frozen (p := ⟨w.heap.size + 1 + 1, o, none⟩) (show w.heap.size + 1 + 1 < _ from cell_lt h.c0)).trans (h.fc o), below_trans h.qw q⟩
theorem en3_new (w : World) (t : Int) (k v : ByteArray) : En3 w (((w.alloc (.cells #[.int .i64 0, .string ⟨#[]⟩, .string ⟨#[]⟩] 87)).alloc (.cells #[.int .i64 0, .int .i64 0] 39)).alloc (.cells #[.int .i64 t, .string k, .string v] 87)) t k v := by
  have h1 : ∀ {i : Nat} {x : Value}, (#[Value.int .i64 0, .string ⟨#[]⟩, .string ⟨#[]⟩])[i]? = some x → (((w.alloc (.cells #[.int .i64 0, .string ⟨#[]⟩, .string ⟨#[]⟩] 87)).alloc (.cells #[.int .i64 0, .int .i64 0] 39)).alloc (.cells #[.int .i64 t, .string k, .string v] 87)).cell? ⟨w.heap.size, i, none⟩ = some x := fun h =>
    (World.cell?_alloc_lt _ _ _ (by simp <;> omega)).trans ((World.cell?_alloc_lt _ _ _ (by simp)).trans (new_cell' _ _ _ _ rfl h))
  have h2 : ∀ {i : Nat} {x : Value}, (#[Value.int .i64 0, .int .i64 0])[i]? = some x → (((w.alloc (.cells #[.int .i64 0, .string ⟨#[]⟩, .string ⟨#[]⟩] 87)).alloc (.cells #[.int .i64 0, .int .i64 0] 39)).alloc (.cells #[.int .i64 t, .string k, .string v] 87)).cell? ⟨w.heap.size + 1, i, none⟩ = some x := fun h =>
    (World.cell?_alloc_lt _ _ _ (by simp)).trans (new_cell' _ _ _ _ (by simp) h)
  exact ⟨h1 rfl, h1 rfl, h1 rfl, h2 rfl, h2 rfl, new_cell' _ _ _ _ (by simp) rfl, new_cell' _ _ _ _ (by simp) rfl, new_cell' _ _ _ _ (by simp) rfl,
    fun o => (World.frozen?_alloc_old _ _ _ (by simp <;> omega)).trans ((World.frozen?_alloc_old _ _ _ (by simp)).trans (new_frz' _ _ _ _ rfl)), fun o => (World.frozen?_alloc_old _ _ _ (by simp)).trans (new_frz' _ _ _ _ (by simp)), fun o => new_frz' _ _ _ _ (by simp), below_trans (below_trans (below_alloc _ _) (below_alloc _ _)) (below_alloc _ _)⟩

set_option maxRecDepth 10000 in
set_option maxHeartbeats 2000000 in
theorem ren_short {w : World} {s : ByteArray} {e : Nat} {v : Value} {l : List En} (_hz : (s.size : Int) ≤ 9223372036854775000) (_he : e ≤ s.size) (hI : EnsIn w v l) (_hl : l.length ≤ 1000000) (hs : s.size < e + 1) :
    Calls Tryz.prog 76 #[.string s, .int .i64 (e : Int), v] w fun ev w' => ∃ x : En, ev = .returned (.tuple #[.agg #[.int .i64 x.t, .string x.k, .string x.v], .int .i64 0, .agg #[.int .i64 1, .int .i64 (e : Int)]]) ∧ Below w.heap.size w w' := by
  obtain ⟨ao, cp, rfl⟩ := hI.slice
  have i0 : (s.size : Int) ≤ (e : Int) := by omega
  go_enter Tryz.func76, Tryz.ntmps76
  go_wp2
  exact bodyPost_ret (v := .tuple #[.agg #[.int .i64 0, .string ⟨#[]⟩, .string ⟨#[]⟩], .int .i64 0, .agg #[.int .i64 1, .int .i64 (e : Int)]]) (by simp [results, Tryz.results76, go_sem]) rfl ⟨⟨0, ⟨#[]⟩, ⟨#[]⟩⟩, rfl, below_trans (below_trans (below_alloc _ _) (below_alloc _ _)) (below_alloc _ _)⟩
set_option maxRecDepth 10000 in
set_option maxHeartbeats 2000000 in
theorem ren_kind {w : World} {s : ByteArray} {e : Nat} {v : Value} {l : List En} (_hz : (s.size : Int) ≤ 9223372036854775000) (_he : e ≤ s.size) (hI : EnsIn w v l) (_hl : l.length ≤ 1000000) (hs : e + 1 ≤ s.size) (hk : 2 < bt s e) :
    Calls Tryz.prog 76 #[.string s, .int .i64 (e : Int), v] w fun ev w' => ∃ x : En, ev = .returned (.tuple #[.agg #[.int .i64 x.t, .string x.k, .string x.v], .int .i64 0, .agg #[.int .i64 6, .int .i64 (e : Int)]]) ∧ Below w.heap.size w w' := by
  obtain ⟨ao, cp, rfl⟩ := hI.slice
  have i0 : e < s.size := by omega
  have j0 : (e : Int) < (s.size : Int) := by omega
  have t0 : ((s[e]'i0).toNat : Int) = bt s e := bt_eq i0
  have u0 := bt_lo s e
  go_enter Tryz.func76, Tryz.ntmps76
  go_wp2
  exact bodyPost_ret (v := .tuple #[.agg #[.int .i64 (bt s e), .string ⟨#[]⟩, .string ⟨#[]⟩], .int .i64 0, .agg #[.int .i64 6, .int .i64 (e : Int)]]) (by simp [results, Tryz.results76, go_sem]) rfl ⟨⟨bt s e, ⟨#[]⟩, ⟨#[]⟩⟩, rfl, below_trans (below_trans (below_alloc _ _) (below_alloc _ _)) (below_alloc _ _)⟩
set_option maxRecDepth 10000 in
set_option maxHeartbeats 2000000 in
theorem ren_kshort {w : World} {s : ByteArray} {e : Nat} {v : Value} {l : List En} (_hz : (s.size : Int) ≤ 9223372036854775000) (_he : e ≤ s.size) (hI : EnsIn w v l) (_hl : l.length ≤ 1000000) {k m : Nat} (hs : e + 1 ≤ s.size) (ht3 : bt s e ≤ 2) (hk' : kbN (bt s e) = (k : Int)) (_hm' : vbN (bt s e) = (m : Int)) (hs2 : s.size < e + 1 + k) :
    Calls Tryz.prog 76 #[.string s, .int .i64 (e : Int), v] w fun ev w' => ∃ x : En, ev = .returned (.tuple #[.agg #[.int .i64 x.t, .string x.k, .string x.v], .int .i64 0, .agg #[.int .i64 1, .int .i64 ((e + 1 : Nat) : Int)]]) ∧ Below w.heap.size w w' := by
  obtain ⟨ao, cp, rfl⟩ := hI.slice
  have i0 : e < s.size := by omega
  have j0 : (e : Int) < (s.size : Int) := by omega
  have t0 : ((s[e]'i0).toNat : Int) = bt s e := bt_eq i0
  have u0 := bt_lo s e
  have hkb := kbN_bd (bt s e)
  have hvb := vbN_bd (bt s e)
  go_enter Tryz.func76, Tryz.ntmps76
  go_wp2_with fail
  refine (sizes _ _).mono ?_
  rintro ev w1 ⟨rfl, rfl⟩
  go_wp2
  exact bodyPost_ret (v := .tuple #[.agg #[.int .i64 (bt s e), .string ⟨#[]⟩, .string ⟨#[]⟩], .int .i64 0, .agg #[.int .i64 1, .int .i64 ((e + 1 : Nat) : Int)]]) (by simp [results, Tryz.results76, go_sem]) rfl ⟨⟨bt s e, ⟨#[]⟩, ⟨#[]⟩⟩, rfl, below_trans (below_trans (below_alloc _ _) (below_alloc _ _)) (below_alloc _ _)⟩
set_option maxRecDepth 10000 in
set_option maxHeartbeats 2000000 in
theorem ren_kbad {w : World} {s : ByteArray} {e : Nat} {v : Value} {l : List En} (_hz : (s.size : Int) ≤ 9223372036854775000) (_he : e ≤ s.size) (hI : EnsIn w v l) (_hl : l.length ≤ 1000000) {k m : Nat} (hs : e + 1 ≤ s.size) (ht3 : bt s e ≤ 2) (hk' : kbN (bt s e) = (k : Int)) (_hm' : vbN (bt s e) = (m : Int)) (hs2 : e + 1 + k ≤ s.size) (hv : keyB (bt s e) (s.extract (e + 1) (e + 1 + k)) = false) :
    Calls Tryz.prog 76 #[.string s, .int .i64 (e : Int), v] w fun ev w' => ∃ x : En, ev = .returned (.tuple #[.agg #[.int .i64 x.t, .string x.k, .string x.v], .int .i64 0, .agg #[.int .i64 7, .int .i64 ((e + 1 : Nat) : Int)]]) ∧ Below w.heap.size w w' := by
  obtain ⟨ao, cp, rfl⟩ := hI.slice
  have i0 : e < s.size := by omega
  have j0 : (e : Int) < (s.size : Int) := by omega
  have t0 : ((s[e]'i0).toNat : Int) = bt s e := bt_eq i0
  have u0 := bt_lo s e
  have hkb := kbN_bd (bt s e)
  have hvb := vbN_bd (bt s e)
  go_enter Tryz.func76, Tryz.ntmps76
  go_wp2_with fail
  refine (sizes _ _).mono ?_
  rintro ev w1 ⟨rfl, rfl⟩
  go_wp2_with fail
  refine (rIsKey _ _ _ u0.1 (by omega)).mono ?_
  rintro ev w2 ⟨rfl, nd, rfl⟩
  have E2 := (en3_new w (bt s e) (s.extract (e + 1) (e + 1 + k)) ⟨#[]⟩).keep (below_drawn _ nd)
  have I2 := hI.keep E2.qw
  rw [hv]
  generalize (World.drewN _ nd) = W2 at *
  have E2c := E2
  obtain ⟨a0, a1, a2, b0, b1, c0, c1, c2, fa, fb, fc, qw⟩ := E2c
  have fa0 := fa 0
  have fa1 := fa 1
  have fa2 := fa 2
  have fb0 := fb 0
  have fb1 := fb 1
  have fc2 := fc 2
  clear fa fb fc
  clear I2
  go_wp2
  exact bodyPost_ret (v := .tuple #[.agg #[.int .i64 (bt s e), .string (s.extract (e + 1) (e + 1 + k)), .string ⟨#[]⟩], .int .i64 0, .agg #[.int .i64 7, .int .i64 ((e + 1 : Nat) : Int)]]) (by simp [results, Tryz.results76, go_sem, a0, a1, a2, b0, b1]) rfl ⟨⟨bt s e, (s.extract (e + 1) (e + 1 + k)), ⟨#[]⟩⟩, rfl, (by repeat' (first | refine Below.setCell ?_ (by simp <;> omega) _ | exact qw))⟩
set_option maxRecDepth 10000 in
set_option maxHeartbeats 2000000 in
theorem ren_ord {w : World} {s : ByteArray} {e : Nat} {v : Value} {l : List En} (_hz : (s.size : Int) ≤ 9223372036854775000) (_he : e ≤ s.size) (hI : EnsIn w v l) (_hl : l.length ≤ 1000000) {k m : Nat} (hs : e + 1 ≤ s.size) (ht3 : bt s e ≤ 2) (hk' : kbN (bt s e) = (k : Int)) (_hm' : vbN (bt s e) = (m : Int)) (hs2 : e + 1 + k ≤ s.size) (hv : keyB (bt s e) (s.extract (e + 1) (e + 1 + k)) = true) (hbe : behind (bt s e) (s.extract (e + 1) (e + 1 + k)) l = false) :
    Calls Tryz.prog 76 #[.string s, .int .i64 (e : Int), v] w fun ev w' => ∃ x : En, ev = .returned (.tuple #[.agg #[.int .i64 x.t, .string x.k, .string x.v], .int .i64 0, .agg #[.int .i64 14, .int .i64 ((e + 1 : Nat) : Int)]]) ∧ Below w.heap.size w w' := by
  obtain ⟨ao, cp, rfl⟩ := hI.slice
  have i0 : e < s.size := by omega
  have j0 : (e : Int) < (s.size : Int) := by omega
  have t0 : ((s[e]'i0).toNat : Int) = bt s e := bt_eq i0
  have u0 := bt_lo s e
  have hkb := kbN_bd (bt s e)
  have hvb := vbN_bd (bt s e)
  go_enter Tryz.func76, Tryz.ntmps76
  go_wp2_with fail
  refine (sizes _ _).mono ?_
  rintro ev w1 ⟨rfl, rfl⟩
  go_wp2_with fail
  refine (rIsKey _ _ _ u0.1 (by omega)).mono ?_
  rintro ev w2 ⟨rfl, nd, rfl⟩
  have E2 := (en3_new w (bt s e) (s.extract (e + 1) (e + 1 + k)) ⟨#[]⟩).keep (below_drawn _ nd)
  have I2 := hI.keep E2.qw
  rw [hv]
  generalize (World.drewN _ nd) = W2 at *
  have E2c := E2
  obtain ⟨a0, a1, a2, b0, b1, c0, c1, c2, fa, fb, fc, qw⟩ := E2c
  have fa0 := fa 0
  have fa1 := fa 1
  have fa2 := fa 2
  have fb0 := fb 0
  have fb1 := fb 1
  have fc2 := fc 2
  clear fa fb fc
  have hpos : 0 < l.length := by
    rcases Nat.eq_zero_or_pos l.length with h | h
    · obtain rfl : l = [] := List.eq_nil_of_length_eq_zero h
      simp [behind] at hbe
    · exact h
  rw [behind_last hpos] at hbe
  rcases I2 with ⟨_, h0⟩ | ⟨b, off, cap, hv', hb, hc⟩
  · rw [h0] at hpos; simp at hpos
  simp only [Value.slice.injEq] at hv'
  obtain ⟨rfl, _, rfl⟩ := hv'
  have d0 := hc.c0 (l.length - 1) (by omega)
  have d1 := hc.c1 (l.length - 1) (by omega)
  have d2 := hc.c2 (l.length - 1) (by omega)
  have hw : IntKind.i64.wrap ((l.length : Int) - 1) = ((l.length - 1 : Nat) : Int) := by simp [IntKind.wrap, IntKind.bits, IntKind.signed]; omega
  have il : ((l.length - 1 : Nat) : Int) < (l.length : Int) := by omega
  have ip : (0 : Int) < (l.length : Int) := by omega
  generalize l[l.length - 1]'(by omega) = y at *
  generalize l.length - 1 = q at *
  go_wp2_with fail
  refine region_tail 11 (by kernel_rfl) (by kernel_rfl) ?_
  simp only [List.take_succ_cons, List.take_zero, List.drop_succ_cons, List.drop_zero]
  iterate 11 still_step
  refine wpStill_nil ?_
  go_wp2_with fail
  refine (rLess y ⟨bt s e, s.extract (e + 1) (e + 1 + k), ⟨#[]⟩⟩ _).mono ?_
  rintro ev w3 ⟨rfl, q3⟩
  have hle : lessB y ⟨bt s e, s.extract (e + 1) (e + 1 + k), ⟨#[]⟩⟩ = false := hbe
  rw [hle]
  have E3 := (E2.keep (below_drew _)).keep q3
  clear a0 a1 a2 b0 b1 c0 c1 c2 fa0 fa1 fa2 fb0 fb1 fc2 qw E2 d0 d1 d2 hc hb
  obtain ⟨a0, a1, a2, b0, b1, c0, c1, c2, fa, fb, fc, qw⟩ := E3
  have fa0 := fa 0
  have fa1 := fa 1
  have fa2 := fa 2
  have fb0 := fb 0
  have fb1 := fb 1
  have fc2 := fc 2
  clear fa fb fc
  go_wp2
  exact bodyPost_ret (v := .tuple #[.agg #[.int .i64 (bt s e), .string (s.extract (e + 1) (e + 1 + k)), .string ⟨#[]⟩], .int .i64 0, .agg #[.int .i64 14, .int .i64 ((e + 1 : Nat) : Int)]]) (by simp [results, Tryz.results76, go_sem, a0, a1, a2, b0, b1]) rfl ⟨⟨bt s e, (s.extract (e + 1) (e + 1 + k)), ⟨#[]⟩⟩, rfl, (by repeat' (first | refine Below.setCell ?_ (by simp <;> omega) _ | exact qw))⟩
set_option maxRecDepth 10000 in
set_option maxHeartbeats 2000000 in
theorem ren_vshort {w : World} {s : ByteArray} {e : Nat} {v : Value} {l : List En} (_hz : (s.size : Int) ≤ 9223372036854775000) (_he : e ≤ s.size) (hI : EnsIn w v l) (_hl : l.length ≤ 1000000) {k m : Nat} (hs : e + 1 ≤ s.size) (ht3 : bt s e ≤ 2) (hk' : kbN (bt s e) = (k : Int)) (_hm' : vbN (bt s e) = (m : Int)) (hs2 : e + 1 + k ≤ s.size) (hv : keyB (bt s e) (s.extract (e + 1) (e + 1 + k)) = true) (hbe : behind (bt s e) (s.extract (e + 1) (e + 1 + k)) l = true) (hs3 : s.size < e + 1 + k + m) :
    Calls Tryz.prog 76 #[.string s, .int .i64 (e : Int), v] w fun ev w' => ∃ x : En, ev = .returned (.tuple #[.agg #[.int .i64 x.t, .string x.k, .string x.v], .int .i64 0, .agg #[.int .i64 1, .int .i64 ((e + 1 + k : Nat) : Int)]]) ∧ Below w.heap.size w w' := by
  obtain ⟨ao, cp, rfl⟩ := hI.slice
  have i0 : e < s.size := by omega
  have j0 : (e : Int) < (s.size : Int) := by omega
  have t0 : ((s[e]'i0).toNat : Int) = bt s e := bt_eq i0
  have u0 := bt_lo s e
  have hkb := kbN_bd (bt s e)
  have hvb := vbN_bd (bt s e)
  go_enter Tryz.func76, Tryz.ntmps76
  go_wp2_with fail
  refine (sizes _ _).mono ?_
  rintro ev w1 ⟨rfl, rfl⟩
  go_wp2_with fail
  refine (rIsKey _ _ _ u0.1 (by omega)).mono ?_
  rintro ev w2 ⟨rfl, nd, rfl⟩
  have E2 := (en3_new w (bt s e) (s.extract (e + 1) (e + 1 + k)) ⟨#[]⟩).keep (below_drawn _ nd)
  have I2 := hI.keep E2.qw
  rw [hv]
  generalize (World.drewN _ nd) = W2 at *
  have E2c := E2
  obtain ⟨a0, a1, a2, b0, b1, c0, c1, c2, fa, fb, fc, qw⟩ := E2c
  have fa0 := fa 0
  have fa1 := fa 1
  have fa2 := fa 2
  have fb0 := fb 0
  have fb1 := fb 1
  have fc2 := fc 2
  clear fa fb fc
  rcases Nat.eq_zero_or_pos l.length with hz0 | hpos
  · have hz1 : (l.length : Int) = 0 := by omega
    go_wp2_with fail
    go_quiet (fail)
    have E3 := E2.keep (below_drawn _ nq)
    clear a0 a1 a2 b0 b1 c0 c1 c2 fa0 fa1 fa2 fb0 fb1 fc2 qw E2 I2
    generalize (World.drewN _ nq) = w3 at *
    obtain ⟨a0, a1, a2, b0, b1, c0, c1, c2, fa, fb, fc, qw⟩ := E3
    have fa0 := fa 0
    have fa1 := fa 1
    have fa2 := fa 2
    have fb0 := fb 0
    have fb1 := fb 1
    have fc2 := fc 2
    clear fa fb fc
    go_wp2
    exact bodyPost_ret (v := .tuple #[.agg #[.int .i64 (bt s e), .string (s.extract (e + 1) (e + 1 + k)), .string ⟨#[]⟩], .int .i64 0, .agg #[.int .i64 1, .int .i64 ((e + 1 + k : Nat) : Int)]]) (by simp [results, Tryz.results76, go_sem, a0, a1, a2, b0, b1]) rfl ⟨⟨bt s e, (s.extract (e + 1) (e + 1 + k)), ⟨#[]⟩⟩, rfl, (by repeat' (first | refine Below.setCell ?_ (by simp <;> omega) _ | exact qw))⟩
  · rw [behind_last hpos] at hbe
    rcases I2 with ⟨_, h0⟩ | ⟨b, off, cap, hv', hb, hc⟩
    · rw [h0] at hpos; simp at hpos
    simp only [Value.slice.injEq] at hv'
    obtain ⟨rfl, _, rfl⟩ := hv'
    have d0 := hc.c0 (l.length - 1) (by omega)
    have d1 := hc.c1 (l.length - 1) (by omega)
    have d2 := hc.c2 (l.length - 1) (by omega)
    have hw : IntKind.i64.wrap ((l.length : Int) - 1) = ((l.length - 1 : Nat) : Int) := by simp [IntKind.wrap, IntKind.bits, IntKind.signed]; omega
    have il : ((l.length - 1 : Nat) : Int) < (l.length : Int) := by omega
    have ip : (0 : Int) < (l.length : Int) := by omega
    generalize l[l.length - 1]'(by omega) = y at *
    generalize l.length - 1 = q at *
    go_wp2_with fail
    refine region_tail 11 (by kernel_rfl) (by kernel_rfl) ?_
    simp only [List.take_succ_cons, List.take_zero, List.drop_succ_cons, List.drop_zero]
    iterate 11 still_step
    refine wpStill_nil ?_
    go_wp2_with fail
    refine (rLess y ⟨bt s e, s.extract (e + 1) (e + 1 + k), ⟨#[]⟩⟩ _).mono ?_
    rintro ev w3 ⟨rfl, q3⟩
    have hle : lessB y ⟨bt s e, s.extract (e + 1) (e + 1 + k), ⟨#[]⟩⟩ = true := hbe
    rw [hle]
    have E3 := (E2.keep (below_drew _)).keep q3
    clear a0 a1 a2 b0 b1 c0 c1 c2 fa0 fa1 fa2 fb0 fb1 fc2 qw E2 d0 d1 d2 hc hb
    obtain ⟨a0, a1, a2, b0, b1, c0, c1, c2, fa, fb, fc, qw⟩ := E3
    have fa0 := fa 0
    have fa1 := fa 1
    have fa2 := fa 2
    have fb0 := fb 0
    have fb1 := fb 1
    have fc2 := fc 2
    clear fa fb fc
    go_wp2
    exact bodyPost_ret (v := .tuple #[.agg #[.int .i64 (bt s e), .string (s.extract (e + 1) (e + 1 + k)), .string ⟨#[]⟩], .int .i64 0, .agg #[.int .i64 1, .int .i64 ((e + 1 + k : Nat) : Int)]]) (by simp [results, Tryz.results76, go_sem, a0, a1, a2, b0, b1]) rfl ⟨⟨bt s e, (s.extract (e + 1) (e + 1 + k)), ⟨#[]⟩⟩, rfl, (by repeat' (first | refine Below.setCell ?_ (by simp <;> omega) _ | exact qw))⟩
set_option maxRecDepth 10000 in
set_option maxHeartbeats 2000000 in
theorem ren_vbad {w : World} {s : ByteArray} {e : Nat} {v : Value} {l : List En} (_hz : (s.size : Int) ≤ 9223372036854775000) (_he : e ≤ s.size) (hI : EnsIn w v l) (_hl : l.length ≤ 1000000) {k m : Nat} (hs : e + 1 ≤ s.size) (ht3 : bt s e ≤ 2) (hk' : kbN (bt s e) = (k : Int)) (_hm' : vbN (bt s e) = (m : Int)) (hs2 : e + 1 + k ≤ s.size) (hv : keyB (bt s e) (s.extract (e + 1) (e + 1 + k)) = true) (hbe : behind (bt s e) (s.extract (e + 1) (e + 1 + k)) l = true) (hs3 : e + 1 + k + m ≤ s.size) (hv3 : valB (bt s e) (s.extract (e + 1 + k) (e + 1 + k + m)) = false) :
    Calls Tryz.prog 76 #[.string s, .int .i64 (e : Int), v] w fun ev w' => ∃ x : En, ev = .returned (.tuple #[.agg #[.int .i64 x.t, .string x.k, .string x.v], .int .i64 0, .agg #[.int .i64 9, .int .i64 ((e + 1 + k : Nat) : Int)]]) ∧ Below w.heap.size w w' := by
  obtain ⟨ao, cp, rfl⟩ := hI.slice
  have i0 : e < s.size := by omega
  have j0 : (e : Int) < (s.size : Int) := by omega
  have t0 : ((s[e]'i0).toNat : Int) = bt s e := bt_eq i0
  have u0 := bt_lo s e
  have hkb := kbN_bd (bt s e)
  have hvb := vbN_bd (bt s e)
  go_enter Tryz.func76, Tryz.ntmps76
  go_wp2_with fail
  refine (sizes _ _).mono ?_
  rintro ev w1 ⟨rfl, rfl⟩
  go_wp2_with fail
  refine (rIsKey _ _ _ u0.1 (by omega)).mono ?_
  rintro ev w2 ⟨rfl, nd, rfl⟩
  have E2 := (en3_new w (bt s e) (s.extract (e + 1) (e + 1 + k)) ⟨#[]⟩).keep (below_drawn _ nd)
  have I2 := hI.keep E2.qw
  rw [hv]
  generalize (World.drewN _ nd) = W2 at *
  have E2c := E2
  obtain ⟨a0, a1, a2, b0, b1, c0, c1, c2, fa, fb, fc, qw⟩ := E2c
  have fa0 := fa 0
  have fa1 := fa 1
  have fa2 := fa 2
  have fb0 := fb 0
  have fb1 := fb 1
  have fc2 := fc 2
  clear fa fb fc
  rcases Nat.eq_zero_or_pos l.length with hz0 | hpos
  · have hz1 : (l.length : Int) = 0 := by omega
    go_wp2_with fail
    go_quiet (fail)
    have E3 := E2.keep (below_drawn _ nq)
    clear a0 a1 a2 b0 b1 c0 c1 c2 fa0 fa1 fa2 fb0 fb1 fc2 qw E2 I2
    generalize (World.drewN _ nq) = w3 at *
    obtain ⟨a0, a1, a2, b0, b1, c0, c1, c2, fa, fb, fc, qw⟩ := E3
    have fa0 := fa 0
    have fa1 := fa 1
    have fa2 := fa 2
    have fb0 := fb 0
    have fb1 := fb 1
    have fc2 := fc 2
    clear fa fb fc
    go_wp2_with fail
    refine (rIsValue (bt s e) (s.extract (e + 1 + k) (e + 1 + k + m)) _ u0.1 (by omega)).mono ?_
    rintro ev w6 ⟨rfl, rfl⟩
    rw [hv3]
    go_wp2
    exact bodyPost_ret (v := .tuple #[.agg #[.int .i64 (bt s e), .string (s.extract (e + 1) (e + 1 + k)), .string (s.extract (e + 1 + k) (e + 1 + k + m))], .int .i64 0, .agg #[.int .i64 9, .int .i64 ((e + 1 + k : Nat) : Int)]]) (by simp [results, Tryz.results76, go_sem, a0, a1, a2, b0, b1]) rfl ⟨⟨bt s e, (s.extract (e + 1) (e + 1 + k)), (s.extract (e + 1 + k) (e + 1 + k + m))⟩, rfl, (by repeat' (first | refine Below.setCell ?_ (by simp <;> omega) _ | exact qw))⟩
  · rw [behind_last hpos] at hbe
    rcases I2 with ⟨_, h0⟩ | ⟨b, off, cap, hv', hb, hc⟩
    · rw [h0] at hpos; simp at hpos
    simp only [Value.slice.injEq] at hv'
    obtain ⟨rfl, _, rfl⟩ := hv'
    have d0 := hc.c0 (l.length - 1) (by omega)
    have d1 := hc.c1 (l.length - 1) (by omega)
    have d2 := hc.c2 (l.length - 1) (by omega)
    have hw : IntKind.i64.wrap ((l.length : Int) - 1) = ((l.length - 1 : Nat) : Int) := by simp [IntKind.wrap, IntKind.bits, IntKind.signed]; omega
    have il : ((l.length - 1 : Nat) : Int) < (l.length : Int) := by omega
    have ip : (0 : Int) < (l.length : Int) := by omega
    generalize l[l.length - 1]'(by omega) = y at *
    generalize l.length - 1 = q at *
    go_wp2_with fail
    refine region_tail 11 (by kernel_rfl) (by kernel_rfl) ?_
    simp only [List.take_succ_cons, List.take_zero, List.drop_succ_cons, List.drop_zero]
    iterate 11 still_step
    refine wpStill_nil ?_
    go_wp2_with fail
    refine (rLess y ⟨bt s e, s.extract (e + 1) (e + 1 + k), ⟨#[]⟩⟩ _).mono ?_
    rintro ev w3 ⟨rfl, q3⟩
    have hle : lessB y ⟨bt s e, s.extract (e + 1) (e + 1 + k), ⟨#[]⟩⟩ = true := hbe
    rw [hle]
    have E3 := (E2.keep (below_drew _)).keep q3
    clear a0 a1 a2 b0 b1 c0 c1 c2 fa0 fa1 fa2 fb0 fb1 fc2 qw E2 d0 d1 d2 hc hb
    obtain ⟨a0, a1, a2, b0, b1, c0, c1, c2, fa, fb, fc, qw⟩ := E3
    have fa0 := fa 0
    have fa1 := fa 1
    have fa2 := fa 2
    have fb0 := fb 0
    have fb1 := fb 1
    have fc2 := fc 2
    clear fa fb fc
    go_wp2_with fail
    refine (rIsValue (bt s e) (s.extract (e + 1 + k) (e + 1 + k + m)) _ u0.1 (by omega)).mono ?_
    rintro ev w6 ⟨rfl, rfl⟩
    rw [hv3]
    go_wp2
    exact bodyPost_ret (v := .tuple #[.agg #[.int .i64 (bt s e), .string (s.extract (e + 1) (e + 1 + k)), .string (s.extract (e + 1 + k) (e + 1 + k + m))], .int .i64 0, .agg #[.int .i64 9, .int .i64 ((e + 1 + k : Nat) : Int)]]) (by simp [results, Tryz.results76, go_sem, a0, a1, a2, b0, b1]) rfl ⟨⟨bt s e, (s.extract (e + 1) (e + 1 + k)), (s.extract (e + 1 + k) (e + 1 + k + m))⟩, rfl, (by repeat' (first | refine Below.setCell ?_ (by simp <;> omega) _ | exact qw))⟩
set_option maxRecDepth 10000 in
set_option maxHeartbeats 2000000 in
theorem ren_ok {w : World} {s : ByteArray} {e : Nat} {v : Value} {l : List En} (_hz : (s.size : Int) ≤ 9223372036854775000) (_he : e ≤ s.size) (hI : EnsIn w v l) (_hl : l.length ≤ 1000000) {k m : Nat} (hs : e + 1 ≤ s.size) (ht3 : bt s e ≤ 2) (hk' : kbN (bt s e) = (k : Int)) (_hm' : vbN (bt s e) = (m : Int)) (hs2 : e + 1 + k ≤ s.size) (hv : keyB (bt s e) (s.extract (e + 1) (e + 1 + k)) = true) (hbe : behind (bt s e) (s.extract (e + 1) (e + 1 + k)) l = true) (hs3 : e + 1 + k + m ≤ s.size) (hv3 : valB (bt s e) (s.extract (e + 1 + k) (e + 1 + k + m)) = true) :
    Calls Tryz.prog 76 #[.string s, .int .i64 (e : Int), v] w fun ev w' => ev = .returned (.tuple #[.agg #[.int .i64 (bt s e), .string (s.extract (e + 1) (e + 1 + k)), .string (s.extract (e + 1 + k) (e + 1 + k + m))], .int .i64 ((e + 1 + k + m : Nat) : Int), .agg #[.int .i64 0, .int .i64 0]]) ∧ Below w.heap.size w w' := by
  obtain ⟨ao, cp, rfl⟩ := hI.slice
  have i0 : e < s.size := by omega
  have j0 : (e : Int) < (s.size : Int) := by omega
  have t0 : ((s[e]'i0).toNat : Int) = bt s e := bt_eq i0
  have u0 := bt_lo s e
  have hkb := kbN_bd (bt s e)
  have hvb := vbN_bd (bt s e)
  go_enter Tryz.func76, Tryz.ntmps76
  go_wp2_with fail
  refine (sizes _ _).mono ?_
  rintro ev w1 ⟨rfl, rfl⟩
  go_wp2_with fail
  refine (rIsKey _ _ _ u0.1 (by omega)).mono ?_
  rintro ev w2 ⟨rfl, nd, rfl⟩
  have E2 := (en3_new w (bt s e) (s.extract (e + 1) (e + 1 + k)) ⟨#[]⟩).keep (below_drawn _ nd)
  have I2 := hI.keep E2.qw
  rw [hv]
  generalize (World.drewN _ nd) = W2 at *
  have E2c := E2
  obtain ⟨a0, a1, a2, b0, b1, c0, c1, c2, fa, fb, fc, qw⟩ := E2c
  have fa0 := fa 0
  have fa1 := fa 1
  have fa2 := fa 2
  have fb0 := fb 0
  have fb1 := fb 1
  have fc2 := fc 2
  clear fa fb fc
  rcases Nat.eq_zero_or_pos l.length with hz0 | hpos
  · have hz1 : (l.length : Int) = 0 := by omega
    go_wp2_with fail
    go_quiet (fail)
    have E3 := E2.keep (below_drawn _ nq)
    clear a0 a1 a2 b0 b1 c0 c1 c2 fa0 fa1 fa2 fb0 fb1 fc2 qw E2 I2
    generalize (World.drewN _ nq) = w3 at *
    obtain ⟨a0, a1, a2, b0, b1, c0, c1, c2, fa, fb, fc, qw⟩ := E3
    have fa0 := fa 0
    have fa1 := fa 1
    have fa2 := fa 2
    have fb0 := fb 0
    have fb1 := fb 1
    have fc2 := fc 2
    clear fa fb fc
    go_wp2_with fail
    refine (rIsValue (bt s e) (s.extract (e + 1 + k) (e + 1 + k + m)) _ u0.1 (by omega)).mono ?_
    rintro ev w6 ⟨rfl, rfl⟩
    rw [hv3]
    go_wp2
    exact bodyPost_ret (v := .tuple #[.agg #[.int .i64 (bt s e), .string (s.extract (e + 1) (e + 1 + k)), .string (s.extract (e + 1 + k) (e + 1 + k + m))], .int .i64 ((e + 1 + k + m : Nat) : Int), .agg #[.int .i64 0, .int .i64 0]]) (by simp [results, Tryz.results76, go_sem, a0, a1, a2, b0, b1]) rfl ⟨rfl, (by repeat' (first | refine Below.setCell ?_ (by simp <;> omega) _ | exact qw))⟩
  · rw [behind_last hpos] at hbe
    rcases I2 with ⟨_, h0⟩ | ⟨b, off, cap, hv', hb, hc⟩
    · rw [h0] at hpos; simp at hpos
    simp only [Value.slice.injEq] at hv'
    obtain ⟨rfl, _, rfl⟩ := hv'
    have d0 := hc.c0 (l.length - 1) (by omega)
    have d1 := hc.c1 (l.length - 1) (by omega)
    have d2 := hc.c2 (l.length - 1) (by omega)
    have hw : IntKind.i64.wrap ((l.length : Int) - 1) = ((l.length - 1 : Nat) : Int) := by simp [IntKind.wrap, IntKind.bits, IntKind.signed]; omega
    have il : ((l.length - 1 : Nat) : Int) < (l.length : Int) := by omega
    have ip : (0 : Int) < (l.length : Int) := by omega
    generalize l[l.length - 1]'(by omega) = y at *
    generalize l.length - 1 = q at *
    go_wp2_with fail
    refine region_tail 11 (by kernel_rfl) (by kernel_rfl) ?_
    simp only [List.take_succ_cons, List.take_zero, List.drop_succ_cons, List.drop_zero]
    iterate 11 still_step
    refine wpStill_nil ?_
    go_wp2_with fail
    refine (rLess y ⟨bt s e, s.extract (e + 1) (e + 1 + k), ⟨#[]⟩⟩ _).mono ?_
    rintro ev w3 ⟨rfl, q3⟩
    have hle : lessB y ⟨bt s e, s.extract (e + 1) (e + 1 + k), ⟨#[]⟩⟩ = true := hbe
    rw [hle]
    have E3 := (E2.keep (below_drew _)).keep q3
    clear a0 a1 a2 b0 b1 c0 c1 c2 fa0 fa1 fa2 fb0 fb1 fc2 qw E2 d0 d1 d2 hc hb
    obtain ⟨a0, a1, a2, b0, b1, c0, c1, c2, fa, fb, fc, qw⟩ := E3
    have fa0 := fa 0
    have fa1 := fa 1
    have fa2 := fa 2
    have fb0 := fb 0
    have fb1 := fb 1
    have fc2 := fc 2
    clear fa fb fc
    go_wp2_with fail
    refine (rIsValue (bt s e) (s.extract (e + 1 + k) (e + 1 + k + m)) _ u0.1 (by omega)).mono ?_
    rintro ev w6 ⟨rfl, rfl⟩
    rw [hv3]
    go_wp2
    exact bodyPost_ret (v := .tuple #[.agg #[.int .i64 (bt s e), .string (s.extract (e + 1) (e + 1 + k)), .string (s.extract (e + 1 + k) (e + 1 + k + m))], .int .i64 ((e + 1 + k + m : Nat) : Int), .agg #[.int .i64 0, .int .i64 0]]) (by simp [results, Tryz.results76, go_sem, a0, a1, a2, b0, b1]) rfl ⟨rfl, (by repeat' (first | refine Below.setCell ?_ (by simp <;> omega) _ | exact qw))⟩
end Go.Proofs.YtindifjhocgkbaaGreatDoor
namespace Go.Proofs.YtindifjhocgkbaaGreatDoor
open Go.RowKit

theorem rEntry {w : World} {s : ByteArray} {e : Nat} {v : Value} {l : List En} (hz : (s.size : Int) ≤ 9223372036854775000) (he : e ≤ s.size) (hI : EnsIn w v l) (hl : l.length ≤ 1000000) :
    Calls Tryz.prog 76 #[.string s, .int .i64 (e : Int), v] w fun ev w' =>
      ((∃ k a, ent s e l = .error (k, a) ∧ 1 ≤ k ∧ ∃ x : En, ev = .returned (.tuple #[.agg #[.int .i64 x.t, .string x.k, .string x.v], .int .i64 0, .agg #[.int .i64 k, .int .i64 a]])) ∨
      (∃ (x : En) (e' : Nat), ent s e l = .ok (x, e') ∧ e' ≤ s.size ∧ ev = .returned (.tuple #[.agg #[.int .i64 x.t, .string x.k, .string x.v], .int .i64 (e' : Int), .agg #[.int .i64 0, .int .i64 0]]))) ∧ Below w.heap.size w w' := by
  have u0 := bt_lo s e
  by_cases c1 : s.size < e + 1
  · refine (ren_short hz he hI hl c1).mono ?_
    rintro ev w' ⟨o, h1, h2⟩
    exact ⟨.inl ⟨_, _, by rw [ent, if_pos c1], by decide, o, h1⟩, h2⟩
  cases c2 : tabB (bt s e)
  · have n2 : 2 < bt s e := by simp [tabB] at c2; omega
    refine (ren_kind hz he hI hl (by omega) n2).mono ?_
    rintro ev w' ⟨o, h1, h2⟩
    exact ⟨.inl ⟨_, _, by rw [ent, if_neg c1, if_pos c2], by decide, o, h1⟩, h2⟩
  have n2 : ¬ tabB (bt s e) = false := by rw [c2]; simp
  have ht3 : bt s e ≤ 2 := by simp [tabB] at c2; omega
  have hkb := kbN_bd (bt s e)
  have hvb := vbN_bd (bt s e)
  obtain ⟨k, hk⟩ : ∃ k : Nat, kbN (bt s e) = (k : Int) := ⟨(kbN (bt s e)).toNat, by omega⟩
  obtain ⟨m, hm⟩ : ∃ m : Nat, vbN (bt s e) = (m : Int) := ⟨(vbN (bt s e)).toNat, by omega⟩
  have kk : (kbN (bt s e)).toNat = k := by omega
  have mm : (vbN (bt s e)).toNat = m := by omega
  by_cases c3 : s.size < e + 1 + k
  · refine (ren_kshort hz he hI hl (by omega) ht3 hk hm c3).mono ?_
    rintro ev w' ⟨o, h1, h2⟩
    exact ⟨.inl ⟨_, _, by rw [ent, kk, mm, if_neg c1, if_neg n2, if_pos c3], by decide, o, h1⟩, h2⟩
  cases c4 : keyB (bt s e) (s.extract (e + 1) (e + 1 + k))
  · refine (ren_kbad hz he hI hl (by omega) ht3 hk hm (by omega) c4).mono ?_
    rintro ev w' ⟨o, h1, h2⟩
    exact ⟨.inl ⟨_, _, by rw [ent, kk, mm, if_neg c1, if_neg n2, if_neg c3, if_pos c4], by decide, o, h1⟩, h2⟩
  have n4 : ¬ keyB (bt s e) (s.extract (e + 1) (e + 1 + k)) = false := by rw [c4]; simp
  cases c5 : behind (bt s e) (s.extract (e + 1) (e + 1 + k)) l
  · refine (ren_ord hz he hI hl (by omega) ht3 hk hm (by omega) c4 c5).mono ?_
    rintro ev w' ⟨o, h1, h2⟩
    exact ⟨.inl ⟨_, _, by rw [ent, kk, mm, if_neg c1, if_neg n2, if_neg c3, if_neg n4, if_pos c5], by decide, o, h1⟩, h2⟩
  have n5 : ¬ behind (bt s e) (s.extract (e + 1) (e + 1 + k)) l = false := by rw [c5]; simp
  by_cases c7 : s.size < e + 1 + k + m
  · refine (ren_vshort hz he hI hl (by omega) ht3 hk hm (by omega) c4 c5 c7).mono ?_
    rintro ev w' ⟨o, h1, h2⟩
    exact ⟨.inl ⟨_, _, by rw [ent, kk, mm, if_neg c1, if_neg n2, if_neg c3, if_neg n4, if_neg n5, if_pos c7], by decide, o, h1⟩, h2⟩
  cases c8 : valB (bt s e) (s.extract (e + 1 + k) (e + 1 + k + m))
  · refine (ren_vbad hz he hI hl (by omega) ht3 hk hm (by omega) c4 c5 (by omega) c8).mono ?_
    rintro ev w' ⟨o, h1, h2⟩
    exact ⟨.inl ⟨_, _, by rw [ent, kk, mm, if_neg c1, if_neg n2, if_neg c3, if_neg n4, if_neg n5, if_neg c7, if_pos c8], by decide, o, h1⟩, h2⟩
  have n8 : ¬ valB (bt s e) (s.extract (e + 1 + k) (e + 1 + k + m)) = false := by rw [c8]; simp
  refine (ren_ok hz he hI hl (by omega) ht3 hk hm (by omega) c4 c5 (by omega) c8).mono ?_
  rintro ev w' ⟨h1, h2⟩
  exact ⟨.inr ⟨⟨bt s e, (s.extract (e + 1) (e + 1 + k)), (s.extract (e + 1 + k) (e + 1 + k + m))⟩, _, by rw [ent, kk, mm, if_neg c1, if_neg n2, if_neg c3, if_neg n4, if_neg n5, if_neg c7, if_neg n8], by omega, h1⟩, h2⟩
end Go.Proofs.YtindifjhocgkbaaGreatDoor
namespace Go.Proofs.YtindifjhocgkbaaGreatDoor
open Go.RowKit

theorem w256' (x y : Int) (h0 : 0 ≤ x) (h1 : x < 72057594037927936) (h2 : 0 ≤ y) (h3 : y ≤ 255) : IntKind.u64.wrap (256 * x) = 256 * x ∧ IntKind.u64.wrap (256 * x + y) = 256 * x + y := by
  constructor <;> (simp [IntKind.wrap, IntKind.bits, IntKind.signed]; omega)
theorem Tryz.infoRe : (Tryz.prog.info? 87).map (fun i => (i.zero, i.size, i.bytes)) = some (some (.agg #[.int .i64 0, .string ⟨#[]⟩, .string ⟨#[]⟩]), 3, 40) := by kernel_rfl
theorem ren_new (W : World) (B : Nat) (hB : B = W.heap.size) (x : En) : ∀ j u, (e3 x)[j]? = some u → (W.alloc (.cells #[.int .i64 x.t, .string x.k, .string x.v] 87)).cell? ((⟨B, 0, none⟩ : Addr).add j) = some u := by
  subst hB
  intro j u hj
  rw [Addr.add_lit, Nat.zero_add, World.cell?_alloc_at _ _ _ j rfl]
  simpa [e3] using hj
/-- What the document's DecodeAll answers. -/
def RStaIs (w0 w : World) (s : ByteArray) (ev : Ending) : Prop :=
  (∃ k a, sta s = .error (k, a) ∧ 1 ≤ k ∧ ev = .returned (.tuple #[.int .u64 0, .slice none 0 0, .agg #[.int .i64 k, .int .i64 a]])) ∨
  (∃ v l x, sta s = .ok (v, l) ∧ ev = .returned (.tuple #[.int .u64 v, x, .agg #[.int .i64 0, .int .i64 0]]) ∧ w.ownsRow w0.heap.size 87 3 x l.length (cellsE l))
/-- The fault's block. -/
structure RF (w wr : World) : Prop where
  c0 : wr.cell? ⟨w.heap.size, 0, none⟩ = some (.int .i64 0)
  c1 : wr.cell? ⟨w.heap.size, 1, none⟩ = some (.int .i64 0)
  f0 : wr.frozen? ⟨w.heap.size, 0, none⟩ = false
  f1 : wr.frozen? ⟨w.heap.size, 1, none⟩ = false
  ty : ∃ c f, wr.heap[w.heap.size]? = some (.cells c 39 f)
  qw : Below w.heap.size w wr
theorem RF.keep {w wr w' : World} (h : RF w wr) (q : Below wr.heap.size wr w') : RF w w' := by
  obtain ⟨c, f, ht⟩ := h.ty
  exact ⟨(q.cell (cell_lt h.c0)).trans h.c0, (q.cell (cell_lt h.c1)).trans h.c1, (q.frozen (p := ⟨w.heap.size, 0, none⟩) (cell_lt h.c0)).trans h.f0, (q.frozen (p := ⟨w.heap.size, 1, none⟩) (cell_lt h.c1)).trans h.f1, ⟨c, f, (q.block _ (cell_lt h.c0)).trans ht⟩, below_trans h.qw q⟩
theorem RF.grow {w wr w' : World} (h : RF w wr) {n : Nat} {v : Value} {xs : List Value} (ho : wr.ownsRow w.heap.size 87 3 v n xs) (g : wr.grownBy w' v.ownBlock) : RF w w' := by
  obtain ⟨c, f, ht⟩ := h.ty
  have hne := own_ne ho ht (by decide)
  have hb := g.block w.heap.size (cell_lt h.c0) hne
  exact ⟨g.cell h.c0 hne, g.cell h.c1 hne, (World.frozen?_of_block hb).trans h.f0, (World.frozen?_of_block hb).trans h.f1, ⟨c, f, hb.trans ht⟩, grown_below h.qw ho g h.qw.size (Nat.le_refl _)⟩
theorem rf_new (w : World) : RF w (w.alloc (.cells #[.int .i64 0, .int .i64 0] 39)) := ⟨by simp, by simp, by simp, by simp, ⟨_, _, heap_alloc_new _ _⟩, below_alloc _ _⟩

set_option maxRecDepth 10000 in
set_option maxHeartbeats 4000000 in
theorem rDecodeAll (s : ByteArray) (w : World) (hz : (s.size : Int) ≤ 9223372036854775000) :
    Calls Tryz.prog 49 #[.string s] w fun ev w' => RStaIs w w' s ev ∧ Below w.heap.size w w' := by
  obtain ⟨i0, hi, hz0, hz1, hz2⟩ := info_parts Tryz.infoRe
  by_cases h8 : s.size < 8
  · have HD : Hid (sta s = .error (1, 0)) := by show _ = _; rw [sta, stl, if_pos h8]
    go_enter Tryz.func49, Tryz.ntmps49
    go_wp2
    exact bodyPost_ret (v := .tuple #[.int .u64 0, .slice none 0 0, .agg #[.int .i64 1, .int .i64 0]]) (by simp [results, Tryz.results49, go_sem]) rfl ⟨.inl ⟨1, 0, HD.out, by decide, rfl⟩, below_alloc _ _⟩
  go_enter Tryz.func49, Tryz.ntmps49
  have hr0 := rf_new w
  go_wp2_with fail
  generalize w.alloc (.cells #[.int .i64 0, .int .i64 0] 39) = W0 at *
  go_loopw [5, 6] (fun x i wr => ∃ j : Nat, j ≤ 8 ∧ i = .int .i64 j ∧ x = .int .u64 (numAt s 0 j) ∧ RF w wr) (fun _ i _ => 8 - (intOf i).toNat)
  case atStart => exact ⟨0, Nat.zero_le _, rfl, rfl, hr0⟩
  case round =>
    clear hr0
    obtain ⟨j, hj, rfl, rfl, hr⟩ := hrel
    by_cases hlt : j < 8
    · have hbt := bt_lo s j
      have hnb := numAt_bd7 s 0 j hlt
      obtain ⟨hw1, hw2⟩ := w256' (numAt s 0 j) (bt s j) hnb.1 hnb.2 hbt.1 hbt.2
      have i0 : j < s.size := by omega
      have j0 : (j : Int) < (s.size : Int) := by omega
      have t0 : ((s[j]'i0).toNat : Int) = bt s j := bt_eq i0
      have e : numAt s 0 (j + 1) = 256 * numAt s 0 j + bt s j := by rw [numAt, Nat.zero_add]; omega
      have HE : Hid (numAt s 0 (j + 1) = 256 * numAt s 0 j + bt s j) := e
      clear e
      go_wp2_with fail
      go_roundw
      case rel => exact ⟨j + 1, by omega, by go_num, by rw [HE.out], hr⟩
      case measure => simp [intOf]; omega
    · obtain rfl : j = 8 := by omega
      have hcop := hr
      obtain ⟨c0, c1, f0, f1, ty, qw⟩ := hcop
      have hb8 := numAt_bd8 s 0
      have HB8 : Hid (0 ≤ numAt s 0 8 ∧ numAt s 0 8 ≤ 18446744073709551615) := hb8
      clear hb8
      cases hv : verB (numAt s 0 8)
      · have HD : Hid (sta s = .error (4, 0)) := by show _ = _; rw [sta, stl, if_neg h8, if_pos hv]
        go_wp2_with fail
        refine (rIsVersion _ _ HB8.out.1 HB8.out.2).mono ?_
        rintro ev w1 ⟨rfl, rfl⟩
        rw [hv]
        go_wp2
        exact bodyPost_ret (v := .tuple #[.int .u64 0, .slice none 0 0, .agg #[.int .i64 4, .int .i64 0]]) (by simp [results, Tryz.results49, go_sem, c0, c1]) rfl ⟨.inl ⟨4, 0, HD.out, by decide, rfl⟩, (qw.setCell (by simp) _).setCell (by simp) _⟩
      have nv : ¬ verB (numAt s 0 8) = false := by rw [hv]; simp
      by_cases h10 : s.size < 10
      · have HD : Hid (sta s = .error (1, 8)) := by show _ = _; rw [sta, stl, if_neg h8, if_neg nv, if_pos h10]
        clear nv
        go_wp2_with fail
        refine (rIsVersion _ _ HB8.out.1 HB8.out.2).mono ?_
        rintro ev w1 ⟨rfl, rfl⟩
        rw [hv]
        go_wp2
        exact bodyPost_ret (v := .tuple #[.int .u64 0, .slice none 0 0, .agg #[.int .i64 1, .int .i64 8]]) (by simp [results, Tryz.results49, go_sem, c0, c1]) rfl ⟨.inl ⟨1, 8, HD.out, by decide, rfl⟩, (qw.setCell (by simp) _).setCell (by simp) _⟩
      have b8 := bt_lo s 8
      have b9 := bt_lo s 9
      obtain ⟨N, hN⟩ : ∃ N : Nat, (N : Int) = numAt s 8 2 := ⟨(numAt s 8 2).toNat, by rw [numAt2]; omega⟩
      have hN2 : (N : Int) = 256 * bt s 8 + bt s 9 := by rw [hN, numAt2]; omega
      have hN3 : N ≤ 65535 := by omega
      have HST : Hid (∀ r, ents s N 10 [] = r → stl s = match r with | .error f => .error f | .ok (l, e) => .ok (numAt s 0 8, l, e)) := fun r hr => by
        rw [stl, if_neg h8, if_neg nv, if_neg h10, ← hN, Int.toNat_natCast, hr]
        cases r <;> rfl
      clear nv hN
      have i8 : 8 < s.size := by omega
      have j8 : (8 : Int) < (s.size : Int) := by omega
      have t8 : ((s[8]'i8).toNat : Int) = bt s 8 := bt_eq i8
      have i9 : 9 < s.size := by omega
      have j9 : (9 : Int) < (s.size : Int) := by omega
      have t9 : ((s[9]'i9).toNat : Int) = bt s 9 := bt_eq i9
      go_wp2_with fail
      refine (rIsVersion _ _ HB8.out.1 HB8.out.2).mono ?_
      rintro ev w1 ⟨rfl, rfl⟩
      rw [hv]
      go_wp2_with fail
      have hm1 : IntKind.i64.wrap (256 * bt s 8) = 256 * bt s 8 := by simp [IntKind.wrap, IntKind.bits, IntKind.signed]; omega
      have hm2 : IntKind.i64.wrap (256 * bt s 8 + bt s 9) = (N : Int) := by rw [hN2]; simp [IntKind.wrap, IntKind.bits, IntKind.signed]; omega
      go_quiet (fail)
      have hr1 := hr.keep (below_drawn _ nq)
      clear c0 c1 f0 f1 ty qw hr
      go_wp2_with fail
      generalize (World.drewN _ nq) = W1 at *
      clear hm1 hm2 t8 t9 hv h8 hj hlt
      rw [← hN2]
      clear hN2 b8 b9
      go_loopw [8, 9, 10] (fun y p i wr => ∃ (j : Nat) (l : List En) (e : Nat), j ≤ N ∧ i = .int .i64 ((N - j : Nat) : Int) ∧ p = .int .i64 (e : Int) ∧ l.length = j ∧ e ≤ s.size ∧ ents s N 10 [] = ents s (N - j) e l ∧ wr.ownsRow w.heap.size 87 3 y l.length (cellsE l) ∧ RF w wr)
        (fun _ _ i _ => (intOf i).toNat)
      case atStart => exact ⟨0, [], 10, Nat.zero_le _, by simp, rfl, rfl, by omega, rfl, World.ownsRow_nil _ _ _ _, hr1⟩
      case round =>
        obtain ⟨j, l, e, hj, rfl, rfl, hlj, hes, hch, hown, hr⟩ := hrel
        have HCH : Hid (ents s N 10 [] = ents s (N - j) e l) := hch
        have HLJ : Hid (l.length = j) := hlj
        have hl8 : l.length ≤ 65535 := by omega
        clear hch hlj hr1
        obtain ⟨ao, cp, rfl⟩ := own_slice hown
        by_cases hlt : j < N
        · obtain ⟨M, hM⟩ : ∃ M, N - j = M + 1 := ⟨N - j - 1, by omega⟩
          rw [hM]
          have ip : (0 : Int) < ((M + 1 : Nat) : Int) := by omega
          go_wp2_with fail
          refine (rEntry hz hes (EnsIn.of_owns hown) (by omega)).mono ?_
          rintro ev w4 ⟨(⟨k, a, hce, hk1, x, rfl⟩ | ⟨x, e', hce, he', rfl⟩), q4⟩
          · have HE : Hid (sta s = .error (k, a)) := by
              show _ = _
              rw [sta, HST.out (.error (k, a)) (by rw [HCH.out, hM, ents, hce])]
            have hr4 := hr.keep q4
            clear hce hr hown
            go_wp2_with fail
            have q5 := below_trans (below_alloc w4 (.cells #[.int .i64 x.t, .string x.k, .string x.v] 87)) (below_alloc _ (.cells #[.int .i64 k, .int .i64 a] 39))
            have hr5 := hr4.keep q5
            have u0 : ((w4.alloc (.cells #[.int .i64 x.t, .string x.k, .string x.v] 87)).alloc (.cells #[.int .i64 k, .int .i64 a] 39)).cell? ⟨w4.heap.size + 1, 0, none⟩ = some (.int .i64 k) := new_cell' _ _ _ _ (by simp) rfl
            have u1 : ((w4.alloc (.cells #[.int .i64 x.t, .string x.k, .string x.v] 87)).alloc (.cells #[.int .i64 k, .int .i64 a] 39)).cell? ⟨w4.heap.size + 1, 1, none⟩ = some (.int .i64 a) := new_cell' _ _ _ _ (by simp) rfl
            generalize (w4.alloc (.cells #[.int .i64 x.t, .string x.k, .string x.v] 87)).alloc (.cells #[.int .i64 k, .int .i64 a] 39) = W5 at *
            obtain ⟨c0, c1, f0, f1, ty, qw⟩ := hr5
            go_region
            go_wp2
            exact bodyPost_ret (v := .tuple #[.int .u64 0, .slice none 0 0, .agg #[.int .i64 k, .int .i64 a]]) (by simp [results, Tryz.results49, go_sem, c0, c1]) rfl ⟨.inl ⟨k, a, HE.out, hk1, rfl⟩, ((qw.setCell (by simp) _).setCell (by simp) _).drew⟩
          · have HE : Hid (ents s N 10 [] = ents s (N - (j + 1)) e' (l ++ [x])) := by
              show _ = _
              rw [HCH.out, hM, ents, hce, show N - (j + 1) = M by omega]
            have ho4 := owns_below hown q4
            have hr4 := hr.keep q4
            clear hce hown hr
            have q5 := below_trans (below_trans (below_alloc w4 (.cells #[.int .i64 x.t, .string x.k, .string x.v] 87)) (below_alloc _ (.cells #[.int .i64 0, .int .i64 0] 39))) (below_alloc _ (.cells #[.int .i64 x.t, .string x.k, .string x.v] 87))
            have ho5 := owns_below ho4 q5
            have hr5 := hr4.keep q5
            have hsz := hr5.qw.size
            have hn5 := ren_new ((w4.alloc (.cells #[.int .i64 x.t, .string x.k, .string x.v] 87)).alloc (.cells #[.int .i64 0, .int .i64 0] 39)) (w4.heap.size + 1 + 1) (by simp) x
            go_wp2_with (at_builtin; go_must (refine wpList_append_own _ rfl _ _ 36 rfl w.heap.size 87 i0 zP 3 40 Tryz.underlying36 hi hz0 hz1 hz2 rfl (by decide) (.slice ao l.length cp) l.length (cellsE l) rfl ho5 ⟨w4.heap.size + 1 + 1, 0, none⟩ 1 1 (e3 x) rfl rfl hn5 (e3_one x) (by unfold maxLen; omega) (by omega) hsz ?_); intro v6 w6 hown6 hgrow6 _)
            go_roundw
            case rel =>
              refine ⟨j + 1, l ++ [x], e', by omega, ?_, rfl, by have := HLJ.out; simp; omega, he', HE.out, by rw [cells_snoc, List.length_append]; exact hown6, hr5.grow ho5 hgrow6⟩
              rw [show N - (j + 1) = M by omega]
            case measure => simp [intOf]
        · obtain rfl : j = N := by omega
          have HE : Hid (stl s = .ok (numAt s 0 8, l, e)) := by
            show _ = _
            rw [HST.out (.ok (l, e)) (by rw [HCH.out, Nat.sub_self, ents])]
          obtain ⟨c0, c1, f0, f1, ty, qw⟩ := hr
          rw [Nat.sub_self]
          by_cases hm : e < s.size
          · have HD : Hid (sta s = .error (2, (e : Int))) := by show _ = _; rw [sta, HE.out]; simp [hm]
            have im : (e : Int) < (s.size : Int) := by omega
            go_wp2
            exact bodyPost_ret (v := .tuple #[.int .u64 0, .slice none 0 0, .agg #[.int .i64 2, .int .i64 (e : Int)]]) (by simp [results, Tryz.results49, go_sem, c0, c1]) rfl ⟨.inl ⟨2, _, HD.out, by decide, rfl⟩, (qw.setCell (by simp) _).setCell (by simp) _⟩
          · have HD : Hid (sta s = .ok (numAt s 0 8, l)) := by show _ = _; rw [sta, HE.out]; simp [hm]
            have im : ¬ (e : Int) < (s.size : Int) := by omega
            obtain ⟨c, f, hty⟩ := ty
            have hne : (Value.slice ao l.length cp).ownBlock ≠ some w.heap.size := fun e1 => own_ne hown hty (by decide) e1.symm
            go_wp2
            refine bodyPost_ret (v := .tuple #[.int .u64 (numAt s 0 8), .slice ao l.length cp, .agg #[.int .i64 0, .int .i64 0]]) (by simp [results, Tryz.results49, go_sem, c0, c1]) rfl ⟨.inr ⟨_, l, _, HD.out, rfl, ?_⟩, (qw.setCell (by simp) _).setCell (by simp) _⟩
            exact hown.kept (show World.grownBy _ _ (some w.heap.size) from grown_set' (grown_set' (grown_refl _ _) rfl) rfl) (.inr hne)
end Go.Proofs.YtindifjhocgkbaaGreatDoor
