import Derived.Test.YtindifjhocgkbaaGreatDoorProg
import Derived.WalkKit
import Derived.WalkSpells
import Derived.WalkLawsBesides
import Derived.BigQuiet
namespace Go.Proofs.YtindifjhocgkbaaGreatDoor
open Go.RowKit

theorem ret_bool {a b : Bool} (h : a = b) : Ending.returned (.bool a) = .returned (.bool b) := by rw [h]
theorem ret_int {k : IntKind} {a b : Int} (h : a = b) : Ending.returned (.int k a) = .returned (.int k b) := by rw [h]

def verB (v : Int) : Bool := decide (1 ≤ v ∧ v ≤ 18446744073709551614)
set_option maxHeartbeats 400000 in
theorem wIsVersion (v : Int) (w : World) (h0 : 0 ≤ v) :
    Calls Tryz.prog 93 #[.int .u64 v] w fun e w' => e = .returned (.bool (verB v)) ∧ w' = w := by
  go_enter Tryz.func93, Tryz.ntmps93
  go_wp2
  all_goals go_ret
  all_goals (refine ⟨ret_bool ?_, rfl⟩; rw [Bool.eq_iff_iff]; simp [verB]; try omega)

theorem wrap_u64 (x : Int) (h0 : 0 ≤ x) (h1 : x ≤ 18446744073709551615) : (IntKind.u64.wrap (x + 1) != 0) = decide (x ≤ 18446744073709551614) := by
  rw [Bool.eq_iff_iff]; simp [IntKind.wrap, IntKind.bits, IntKind.signed]; omega
set_option maxHeartbeats 400000 in
theorem rIsVersion (v : Int) (w : World) (h0 : 0 ≤ v) (h1 : v ≤ 18446744073709551615) :
    Calls Tryz.prog 37 #[.int .u64 v] w fun e w' => e = .returned (.bool (verB v)) ∧ w' = w := by
  go_enter Tryz.func37, Tryz.ntmps37
  go_wp2
  all_goals go_ret
  · refine ⟨ret_bool ?_, rfl⟩; subst_vars; rfl
  · refine ⟨ret_bool ?_, rfl⟩; rw [wrap_u64 _ h0 h1]; rw [Bool.eq_iff_iff]; simp [verB]; try omega

def tabB (t : Int) : Bool := decide (0 ≤ t ∧ t < 3)
theorem tabB_t {t : Int} (h0 : 0 ≤ t) (h3 : t < 3) : tabB t = true := by simp [tabB]; omega
set_option maxHeartbeats 400000 in
theorem isTable (t : Int) (w : World) :
    Calls Tryz.prog 132 #[.int .i64 t] w fun e w' => e = .returned (.bool (tabB t)) ∧ w' = w := by
  go_enter Tryz.func132, Tryz.ntmps132
  go_wp2
  all_goals go_ret
  all_goals (refine ⟨ret_bool ?_, rfl⟩; rw [Bool.eq_iff_iff]; simp [tabB]; try omega)

def cntB (t : Int) : Bool := decide (1 ≤ t ∧ t ≤ 8)
set_option maxHeartbeats 400000 in
theorem isCount (t : Int) (w : World) :
    Calls Tryz.prog 95 #[.int .i64 t] w fun e w' => e = .returned (.bool (cntB t)) ∧ w' = w := by
  go_enter Tryz.func95, Tryz.ntmps95
  go_wp2
  all_goals go_ret
  all_goals (refine ⟨ret_bool ?_, rfl⟩; rw [Bool.eq_iff_iff]; simp [cntB]; try omega)

def protB (p : Int) : Bool := decide (p = 0 ∨ p = 6 ∨ p = 17)
set_option maxHeartbeats 400000 in
theorem isProtocol (p : Int) (w : World) :
    Calls Tryz.prog 148 #[.int .u8 p] w fun e w' => e = .returned (.bool (protB p)) ∧ w' = w := by
  go_enter Tryz.func148, Tryz.ntmps148
  go_wp2
  all_goals go_ret
  all_goals (refine ⟨ret_bool ?_, rfl⟩; rw [Bool.eq_iff_iff]; simp [protB]; try omega)

def kindB (k t : Int) : Bool := decide ((k = 1 ∨ k = 2) ∧ 0 ≤ t ∧ t < 3)
set_option maxHeartbeats 400000 in
theorem isKind (k t : Int) (w : World) :
    Calls Tryz.prog 114 #[.int .i64 k, .int .i64 t] w fun e w' => e = .returned (.bool (kindB k t)) ∧ w' = w := by
  go_enter Tryz.func114, Tryz.ntmps114
  go_wp2_with (go_at_call 132; refine (isTable _ _).mono ?_; rintro e w' ⟨rfl, rfl⟩)
  all_goals go_ret
  all_goals (refine ⟨ret_bool ?_, rfl⟩; rw [Bool.eq_iff_iff]; simp [kindB, tabB]; try omega)

def kbN (t : Int) : Int := if t = 0 then 6 else if t = 1 then 5 else 2
def vbN (t : Int) : Int := if t = 0 then 4 else if t = 1 then 4 else 2
theorem ret_two {k : IntKind} {a b c d : Int} (h : a = b) (h' : c = d) : Ending.returned (.tuple #[.int k a, .int k c]) = .returned (.tuple #[.int k b, .int k d]) := by rw [h, h']
set_option maxHeartbeats 400000 in
theorem sizes (t : Int) (w : World) :
    Calls Tryz.prog 99 #[.int .i64 t] w fun e w' => e = .returned (.tuple #[.int .i64 (kbN t), .int .i64 (vbN t)]) ∧ w' = w := by
  go_enter Tryz.func99, Tryz.ntmps99
  go_wp2
  all_goals go_ret2
  all_goals (refine ⟨ret_two ?_ ?_, rfl⟩ <;> simp_all [kbN, vbN])

/-- What the two tables of sizes hold. -/
structure Glob (w : World) : Prop where
  k0 : w.cell? ⟨1, 0, none⟩ = some (.int .i64 6)
  k1 : w.cell? ⟨1, 1, none⟩ = some (.int .i64 5)
  k2 : w.cell? ⟨1, 2, none⟩ = some (.int .i64 2)
  v0 : w.cell? ⟨2, 0, none⟩ = some (.int .i64 4)
  v1 : w.cell? ⟨2, 1, none⟩ = some (.int .i64 4)
  v2 : w.cell? ⟨2, 2, none⟩ = some (.int .i64 2)
theorem cell_lt {w : World} {a : Addr} {v : Value} (h : w.cell? a = some v) : a.block < w.heap.size := by
  rcases Nat.lt_or_ge a.block w.heap.size with h' | h'
  · exact h'
  · simp [World.cell?, Array.getElem?_eq_none h'] at h
theorem Glob.lt {w : World} (g : Glob w) : 2 < w.heap.size := cell_lt g.v0
theorem Glob.keep {w w' : World} (g : Glob w) (q : Below w.heap.size w w') : Glob w' := by
  have h1 : 1 < w.heap.size := cell_lt g.k0
  have h2 : 2 < w.heap.size := cell_lt g.v0
  exact ⟨(q.cell (p := ⟨1, 0, none⟩) h1).trans g.k0, (q.cell (p := ⟨1, 1, none⟩) h1).trans g.k1, (q.cell (p := ⟨1, 2, none⟩) h1).trans g.k2,
    (q.cell (p := ⟨2, 0, none⟩) h2).trans g.v0, (q.cell (p := ⟨2, 1, none⟩) h2).trans g.v1, (q.cell (p := ⟨2, 2, none⟩) h2).trans g.v2⟩

theorem cases3 {t : Int} (h0 : 0 ≤ t) (h3 : t < 3) : t = 0 ∨ t = 1 ∨ t = 2 := by omega
set_option maxHeartbeats 400000 in
theorem keyBytes (t : Int) (w : World) (h0 : 0 ≤ t) (h3 : t < 3) (g : Glob w) :
    Calls Tryz.prog 154 #[.int .i64 t] w fun e w' => e = .returned (.int .i64 (kbN t)) ∧ w' = w := by
  have c0 := g.k0
  have c1 := g.k1
  have c2 := g.k2
  rcases cases3 h0 h3 with rfl | rfl | rfl
  all_goals
    go_enter Tryz.func154, Tryz.ntmps154
    go_wp2
    go_ret
    exact ⟨rfl, rfl⟩
set_option maxHeartbeats 400000 in
theorem valueBytes (t : Int) (w : World) (h0 : 0 ≤ t) (h3 : t < 3) (g : Glob w) :
    Calls Tryz.prog 155 #[.int .i64 t] w fun e w' => e = .returned (.int .i64 (vbN t)) ∧ w' = w := by
  have c0 := g.v0
  have c1 := g.v1
  have c2 := g.v2
  rcases cases3 h0 h3 with rfl | rfl | rfl
  all_goals
    go_enter Tryz.func155, Tryz.ntmps155
    go_wp2
    go_ret
    exact ⟨rfl, rfl⟩

def bt (s : ByteArray) (i : Nat) : Int := ((s.data.toList.getD i 0).toNat : Int)
theorem bt_eq {s : ByteArray} {i : Nat} (h : i < s.size) : ((s[i]'h).toNat : Int) = bt s i := by
  have h' : i < s.data.toList.length := by simpa using h
  unfold bt; rw [List.getD_eq_getElem?_getD, List.getElem?_eq_getElem h']; rfl
theorem bt_lo (s : ByteArray) (i : Nat) : 0 ≤ bt s i ∧ bt s i ≤ 255 := by
  unfold bt; have := (s.data.toList.getD i 0).toNat_lt; omega

def valB (t : Int) (v : ByteArray) : Bool :=
  if t = 2 then decide (v.size = 2) && protB (bt v 0) && decide (bt v 1 ≤ 1) else decide (v.size = 4) && v.toList != [0, 0, 0, 0]
theorem valB_no2 {v : ByteArray} (h : v.size ≠ 2) : valB 2 v = false := by simp [valB, h]
theorem valB_no4 {t : Int} {v : ByteArray} (ht : t ≠ 2) (h : v.size ≠ 4) : valB t v = false := by simp [valB, h, ht]
theorem valB_4 {t : Int} {v : ByteArray} (ht : t ≠ 2) (h : v.size = 4) : valB t v = !(v.toList == [0, 0, 0, 0]) := by
  simp only [valB, if_neg ht, h, bne]; simp
theorem valB_2 {v : ByteArray} (h : v.size = 2) : valB 2 v = (protB (bt v 0) && decide (bt v 1 ≤ 1)) := by simp [valB, h]

set_option maxHeartbeats 400000 in
theorem isValue (t : Int) (v : ByteArray) (w : World) (h0 : 0 ≤ t) (h3 : t < 3) (g : Glob w) :
    Calls Tryz.prog 134 #[.int .i64 t, .string v] w fun e w' => e = .returned (.bool (valB t v)) ∧ w' = w := by
  have c0 := g.v0
  have c1 := g.v1
  have c2 := g.v2
  rcases cases3 h0 h3 with rfl | rfl | rfl
  · by_cases hs : v.size = 4
    · have hb : ((v.size : Int) != 4) = false := by simp; omega
      rw [valB_4 (by decide) hs]; clear hs
      go_enter Tryz.func134, Tryz.ntmps134
      go_wp2
      go_ret
      exact ⟨rfl, rfl⟩
    · have hb : ((v.size : Int) != 4) = true := by simp; omega
      rw [valB_no4 (by decide) hs]; clear hs
      go_enter Tryz.func134, Tryz.ntmps134
      go_wp2
      go_ret
      exact ⟨rfl, rfl⟩
  · by_cases hs : v.size = 4
    · have hb : ((v.size : Int) != 4) = false := by simp; omega
      rw [valB_4 (by decide) hs]; clear hs
      go_enter Tryz.func134, Tryz.ntmps134
      go_wp2
      go_ret
      exact ⟨rfl, rfl⟩
    · have hb : ((v.size : Int) != 4) = true := by simp; omega
      rw [valB_no4 (by decide) hs]; clear hs
      go_enter Tryz.func134, Tryz.ntmps134
      go_wp2
      go_ret
      exact ⟨rfl, rfl⟩
  · by_cases hs : v.size = 2
    · have j0 : 0 < v.size := by omega
      have j1 : 1 < v.size := by omega
      have i0 : (0 : Int) < v.size := by omega
      have i1 : (1 : Int) < v.size := by omega
      have hb : ((v.size : Int) != 2) = false := by simp; omega
      rw [valB_2 hs, ← bt_eq j0, ← bt_eq j1]
      clear hs
      by_cases hp : protB ((v[0]'j0).toNat : Int) = true
      all_goals
        try simp only [Bool.not_eq_true] at hp
        rw [hp]
        go_enter Tryz.func134, Tryz.ntmps134
        go_wp2_with (first | (go_at_call 148; refine (isProtocol _ _).mono ?_; rintro e w' ⟨rfl, rfl⟩) | go_in)
        go_ret
        exact ⟨rfl, rfl⟩
    · have hb : ((v.size : Int) != 2) = true := by simp; omega
      rw [valB_no2 hs]; clear hs
      go_enter Tryz.func134, Tryz.ntmps134
      go_wp2
      go_ret
      exact ⟨rfl, rfl⟩
theorem prot3 (p : Int) : protB p = (p == 0 || p == 6 || p == 17) := by rw [Bool.eq_iff_iff]; simp [protB]; omega
theorem vbN_01 {t : Int} (h : t = 0 ∨ t = 1) : vbN t = 4 := by rcases h with rfl | rfl <;> rfl
set_option maxHeartbeats 400000 in
theorem rIsValue (t : Int) (v : ByteArray) (w : World) (h0 : 0 ≤ t) (h3 : t < 3) :
    Calls Tryz.prog 69 #[.int .i64 t, .string v] w fun e w' => e = .returned (.bool (valB t v)) ∧ w' = w := by
  have v2 : vbN 2 = 2 := rfl
  rcases (show (t = 0 ∨ t = 1) ∨ t = 2 by omega) with ht | rfl
  · have v0 : vbN t = 4 := vbN_01 ht
    have ht2 : t < 2 := by omega
    by_cases hs : v.size = 4
    · have hb : ((v.size : Int) != 4) = false := by simp; omega
      rw [valB_4 (by omega) hs]; clear hs ht
      go_enter Tryz.func69, Tryz.ntmps69
      go_wp2_with (go_at_call 99; refine (sizes _ _).mono ?_; rintro e w' ⟨rfl, rfl⟩)
      go_ret
      exact ⟨rfl, rfl⟩
    · have hb : ((v.size : Int) != 4) = true := by simp; omega
      rw [valB_no4 (by omega) hs]; clear hs ht
      go_enter Tryz.func69, Tryz.ntmps69
      go_wp2_with (go_at_call 99; refine (sizes _ _).mono ?_; rintro e w' ⟨rfl, rfl⟩)
      go_ret
      exact ⟨rfl, rfl⟩
  · by_cases hs : v.size = 2
    · have j0 : 0 < v.size := by omega
      have j1 : 1 < v.size := by omega
      have i0 : (0 : Int) < v.size := by omega
      have i1 : (1 : Int) < v.size := by omega
      have hb : ((v.size : Int) != 2) = false := by simp; omega
      rw [valB_2 hs, ← bt_eq j0, ← bt_eq j1, prot3]
      clear hs
      generalize hx : ((v[0]'j0).toNat : Int) = x
      have HX := (show Hid (((v[0]'j0).toNat : Int) = x) from hx)
      rcases (show x = 0 ∨ x = 6 ∨ x = 17 ∨ (x ≠ 0 ∧ x ≠ 6 ∧ x ≠ 17) by omega) with h | h | h | ⟨h, h', h''⟩
      all_goals
        subst hx
        go_enter Tryz.func69, Tryz.ntmps69
        go_wp2_with (go_at_call 99; refine (sizes _ _).mono ?_; rintro e w' ⟨rfl, rfl⟩)
        go_ret
        exact ⟨by simp [*], rfl⟩
    · have hb : ((v.size : Int) != 2) = true := by simp; omega
      rw [valB_no2 hs]; clear hs
      go_enter Tryz.func69, Tryz.ntmps69
      go_wp2_with (go_at_call 99; refine (sizes _ _).mono ?_; rintro e w' ⟨rfl, rfl⟩)
      go_ret
      exact ⟨rfl, rfl⟩
end Go.Proofs.YtindifjhocgkbaaGreatDoor
