import Derived.Test.YtindifjhocgkbaaGreatDoorTbT
namespace Go.Proofs.YtindifjhocgkbaaGreatDoor
open Go.RowKit

def isE (x y : En) : Bool := decide (y.t = x.t) && decide (y.k = x.k) && decide (y.v = x.v)
def isK (x y : En) : Bool := decide (y.t = x.t) && decide (y.k = x.k)
theorem any_take_succ (f : En → Bool) (l : List En) (j : Nat) (h : j < l.length) : (l.take (j + 1)).any f = ((l.take j).any f || f l[j]) := by
  rw [List.take_succ_eq_append_getElem h, List.any_append]; simp
theorem any_of_at (f : En → Bool) (l : List En) (j : Nat) (h : j < l.length) (hf : f l[j] = true) : l.any f = true := List.any_eq_true.2 ⟨l[j], List.getElem_mem h, hf⟩
set_option maxRecDepth 10000 in
set_option maxHeartbeats 2000000 in
theorem rHeld (v : Value) (x : En) (l : List En) (w : World) (hI : EnsIn w v l) (hn : l.length ≤ 1000000) :
    Calls Tryz.prog 57 #[v, .agg #[.int .i64 x.t, .string x.k, .string x.v]] w fun e w' => e = .returned (.bool (l.any (isK x))) ∧ Below w.heap.size w w' := by
  obtain ⟨ao, cp, rfl⟩ := hI.slice
  have qa := below_alloc w (.cells #[.int .i64 x.t, .string x.k, .string x.v] 87)
  have c0 : (w.alloc (.cells #[.int .i64 x.t, .string x.k, .string x.v] 87)).cell? ⟨w.heap.size, 0, none⟩ = some (.int .i64 x.t) := by simp
  have c1 : (w.alloc (.cells #[.int .i64 x.t, .string x.k, .string x.v] 87)).cell? ⟨w.heap.size, 1, none⟩ = some (.string x.k) := by simp
  go_enter Tryz.func57, Tryz.ntmps57
  go_wp2_with fail
  generalize w.alloc (.cells #[.int .i64 x.t, .string x.k, .string x.v] 87) = W0 at *
  go_loopw [5] (fun i wr => ∃ j : Nat, j ≤ l.length ∧ i = .int .i64 j ∧ Hid ((l.take j).any (isK x) = false) ∧ Below W0.heap.size W0 wr) (fun i _ => l.length - (intOf i).toNat)
  case atStart => exact ⟨0, Nat.zero_le _, rfl, (show Hid _ from rfl), Below.refl _ _⟩
  case round =>
    obtain ⟨j, hj, rfl, HN, hq⟩ := hrel
    have x0 := (hq.cell (p := ⟨w.heap.size, 0, none⟩) (cell_lt c0)).trans c0
    have x1 := (hq.cell (p := ⟨w.heap.size, 1, none⟩) (cell_lt c1)).trans c1
    have qw := below_trans qa hq
    by_cases hlt : j < l.length
    · obtain ⟨b, off, cap, hv, d0, d1, d2⟩ := hI.at qw hlt
      simp only [Value.slice.injEq] at hv
      obtain ⟨rfl, _, rfl⟩ := hv
      have il : ((j : Nat) : Int) < (l.length : Int) := by omega
      have HT : Hid ((l.take (j + 1)).any (isK x) = ((l.take j).any (isK x) || isK x l[j])) := any_take_succ _ _ _ hlt
      have HA : Hid (isK x l[j] = true → l.any (isK x) = true) := any_of_at _ _ _ hlt
      generalize l[j] = X at *
      by_cases ht : X.t = x.t
      · by_cases hk : X.k = x.k
        · have e1 : l.any (isK x) = true := HA.out (by simp [isK, ht, hk])
          have HE : Hid (l.any (isK x) = true) := e1
          rw [ht] at d0
          rw [hk] at d1
          clear ht hk HT HA HN e1
          go_wp2_with fail
          go_quiet (fail)
          go_wp2_with fail
          go_ret
          exact ⟨by rw [HE.out]; rfl, below_trans qw (below_drawn _ _)⟩
        · have HT2 : Hid ((l.take (j + 1)).any (isK x) = false) := by show _ = _; rw [HT.out, HN.out]; simp [isK, hk]
          have hkb : (X.k.toList == x.k.toList) = false := ba_neq hk
          rw [ht] at d0
          clear ht hk HT HA HN
          go_wp2_with fail
          go_quiet (fail)
          go_wp2_with fail
          go_roundw
          case rel => exact ⟨j + 1, by omega, by go_num, HT2, below_trans hq (below_drawn _ _)⟩
          case measure => simp [intOf]; omega
      · have HT2 : Hid ((l.take (j + 1)).any (isK x) = false) := by show _ = _; rw [HT.out, HN.out]; simp [isK, ht]
        have htb : (X.t == x.t) = false := by simpa using ht
        clear HT HA HN
        go_wp2_with fail
        go_quiet (fail)
        go_wp2_with fail
        go_roundw
        case rel => exact ⟨j + 1, by omega, by go_num, HT2, below_trans hq (below_drawn _ _)⟩
        case measure => simp [intOf]; omega
    · obtain rfl : j = l.length := by omega
      go_wp2
      go_ret
      have e1 := HN.out
      rw [List.take_length] at e1
      exact ⟨by rw [e1]; rfl, qw⟩
set_option maxRecDepth 10000 in
set_option maxHeartbeats 2000000 in
theorem rHas (v : Value) (x : En) (l : List En) (w : World) (hI : EnsIn w v l) (hn : l.length ≤ 1000000) :
    Calls Tryz.prog 58 #[v, .agg #[.int .i64 x.t, .string x.k, .string x.v]] w fun e w' => e = .returned (.bool (l.any (isE x))) ∧ Below w.heap.size w w' := by
  obtain ⟨ao, cp, rfl⟩ := hI.slice
  have qa := below_alloc w (.cells #[.int .i64 x.t, .string x.k, .string x.v] 87)
  have c0 : (w.alloc (.cells #[.int .i64 x.t, .string x.k, .string x.v] 87)).cell? ⟨w.heap.size, 0, none⟩ = some (.int .i64 x.t) := by simp
  have c1 : (w.alloc (.cells #[.int .i64 x.t, .string x.k, .string x.v] 87)).cell? ⟨w.heap.size, 1, none⟩ = some (.string x.k) := by simp
  have c2 : (w.alloc (.cells #[.int .i64 x.t, .string x.k, .string x.v] 87)).cell? ⟨w.heap.size, 2, none⟩ = some (.string x.v) := by simp
  go_enter Tryz.func58, Tryz.ntmps58
  go_wp2_with fail
  generalize w.alloc (.cells #[.int .i64 x.t, .string x.k, .string x.v] 87) = W0 at *
  go_loopw [5] (fun i wr => ∃ j : Nat, j ≤ l.length ∧ i = .int .i64 j ∧ Hid ((l.take j).any (isE x) = false) ∧ Below W0.heap.size W0 wr) (fun i _ => l.length - (intOf i).toNat)
  case atStart => exact ⟨0, Nat.zero_le _, rfl, (show Hid _ from rfl), Below.refl _ _⟩
  case round =>
    obtain ⟨j, hj, rfl, HN, hq⟩ := hrel
    have x0 := (hq.cell (p := ⟨w.heap.size, 0, none⟩) (cell_lt c0)).trans c0
    have x1 := (hq.cell (p := ⟨w.heap.size, 1, none⟩) (cell_lt c1)).trans c1
    have x2 := (hq.cell (p := ⟨w.heap.size, 2, none⟩) (cell_lt c2)).trans c2
    have qw := below_trans qa hq
    by_cases hlt : j < l.length
    · obtain ⟨b, off, cap, hv, d0, d1, d2⟩ := hI.at qw hlt
      simp only [Value.slice.injEq] at hv
      obtain ⟨rfl, _, rfl⟩ := hv
      have il : ((j : Nat) : Int) < (l.length : Int) := by omega
      have HT : Hid ((l.take (j + 1)).any (isE x) = ((l.take j).any (isE x) || isE x l[j])) := any_take_succ _ _ _ hlt
      have HA : Hid (isE x l[j] = true → l.any (isE x) = true) := any_of_at _ _ _ hlt
      generalize l[j] = X at *
      by_cases ht : X.t = x.t
      · by_cases hk : X.k = x.k
        · by_cases hvv : X.v = x.v
          · have HE : Hid (l.any (isE x) = true) := HA.out (by simp [isE, ht, hk, hvv])
            rw [ht] at d0
            rw [hk] at d1
            rw [hvv] at d2
            clear ht hk hvv HT HA HN
            go_wp2_with fail
            go_quiet (fail)
            go_wp2_with fail
            go_ret
            exact ⟨by rw [HE.out]; rfl, below_trans qw (below_drawn _ _)⟩
          · have HT2 : Hid ((l.take (j + 1)).any (isE x) = false) := by show _ = _; rw [HT.out, HN.out]; simp [isE, hvv]
            have hvb : (X.v.toList == x.v.toList) = false := ba_neq hvv
            rw [ht] at d0
            rw [hk] at d1
            clear ht hk hvv HT HA HN
            go_wp2_with fail
            go_quiet (fail)
            go_wp2_with fail
            go_roundw
            case rel => exact ⟨j + 1, by omega, by go_num, HT2, below_trans hq (below_drawn _ _)⟩
            case measure => simp [intOf]; omega
        · have HT2 : Hid ((l.take (j + 1)).any (isE x) = false) := by show _ = _; rw [HT.out, HN.out]; simp [isE, hk]
          have hkb : (X.k.toList == x.k.toList) = false := ba_neq hk
          rw [ht] at d0
          clear ht hk HT HA HN
          go_wp2_with fail
          go_quiet (fail)
          go_wp2_with fail
          go_roundw
          case rel => exact ⟨j + 1, by omega, by go_num, HT2, below_trans hq (below_drawn _ _)⟩
          case measure => simp [intOf]; omega
      · have HT2 : Hid ((l.take (j + 1)).any (isE x) = false) := by show _ = _; rw [HT.out, HN.out]; simp [isE, ht]
        have htb : (X.t == x.t) = false := by simpa using ht
        clear HT HA HN
        go_wp2_with fail
        go_quiet (fail)
        go_wp2_with fail
        go_roundw
        case rel => exact ⟨j + 1, by omega, by go_num, HT2, below_trans hq (below_drawn _ _)⟩
        case measure => simp [intOf]; omega
    · obtain rfl : j = l.length := by omega
      go_wp2
      go_ret
      have e1 := HN.out
      rw [List.take_length] at e1
      exact ⟨by rw [e1]; rfl, qw⟩

/-- The first table of which there are more entries than there is room. -/
def overL (l : List En) (r : Nat → Int) : Int := if r 0 < (cntT 0 l : Int) then 0 else if r 1 < (cntT 1 l : Int) then 1 else if r 2 < (cntT 2 l : Int) then 2 else -1
theorem overL_at {l : List En} {r : Nat → Int} {j : Nat} (hj : j < 3) (h : ∀ t, t < j → (cntT t l : Int) ≤ r t) (h1 : r j < (cntT j l : Int)) : overL l r = j := by
  unfold overL
  rcases (show j = 0 ∨ j = 1 ∨ j = 2 by omega) with rfl | rfl | rfl
  · rw [if_pos (by simpa using h1)]; rfl
  · rw [if_neg (by simpa using h 0 (by omega)), if_pos (by simpa using h1)]; rfl
  · rw [if_neg (by simpa using h 0 (by omega)), if_neg (by simpa using h 1 (by omega)), if_pos (by simpa using h1)]; rfl
theorem overL_none {l : List En} {r : Nat → Int} (h : ∀ t : Nat, t < 3 → (cntT t l : Int) ≤ r t) : overL l r = -1 := by
  unfold overL
  rw [if_neg (by simpa using h 0 (by omega)), if_neg (by simpa using h 1 (by omega)), if_neg (by simpa using h 2 (by omega))]
set_option maxRecDepth 10000 in
set_option maxHeartbeats 2000000 in
theorem rOver (v : Value) (l : List En) (b cap : Nat) (r : Nat → Int) (w : World) (hI : EnsIn w v l) (hn : l.length ≤ 1000000) (hr : ∀ t, t < 3 → w.cell? ⟨b, t, none⟩ = some (.int .i64 (r t))) :
    Calls Tryz.prog 28 #[v, .slice (some ⟨b, 0, none⟩) 3 cap] w fun e w' => e = .returned (.int .i64 (overL l r)) ∧ Below w.heap.size w w' := by
  obtain ⟨ao, cp, rfl⟩ := hI.slice
  have hb : b < w.heap.size := cell_lt (hr 0 (by omega))
  go_enter Tryz.func28, Tryz.ntmps28
  go_wp2_with fail
  go_loopw [5] (fun i wr => ∃ j : Nat, j ≤ 3 ∧ i = .int .i64 j ∧ Hid (∀ t, t < j → (cntT t l : Int) ≤ r t) ∧ Below w.heap.size w wr) (fun i _ => 3 - (intOf i).toNat)
  case atStart => exact ⟨0, Nat.zero_le _, rfl, (show Hid _ from fun t h => absurd h (by omega)), Below.refl _ _⟩
  case round =>
    obtain ⟨j, hj, rfl, HN, hq⟩ := hrel
    by_cases hlt : j < 3
    · have il : ((j : Nat) : Int) < 3 := by omega
      have hc := (hq.cell (p := ⟨b, j, none⟩) hb).trans (hr j hlt)
      have hIr := hI.keep hq
      have hle := cntT_le j l
      by_cases hg : r j < (cntT j l : Int)
      · have HO : Hid (overL l r = j) := overL_at hlt HN.out hg
        clear HN
        go_wp2_with fail
        go_region_with (go_at_call 42; refine (rCount _ (j : Int) l _ (hIr.keep (below_drew _)) (by omega)).mono ?_; rintro e w2 ⟨rfl, q2⟩; have kc := (q2.cell (p := ⟨b, j, none⟩) (cell_lt hc)).trans hc)
        all_goals
          go_wp2_with fail
          go_ret
          exact ⟨by rw [HO.out]; rfl, below_trans hq (below_trans (below_drew _) q2)⟩
      · have HN2 : Hid (∀ t, t < j + 1 → (cntT t l : Int) ≤ r t) := fun t ht => by
          rcases (show t < j ∨ t = j by omega) with h | rfl
          · exact HN.out t h
          · omega
        clear HN
        go_wp2_with fail
        go_region_with (go_at_call 42; refine (rCount _ (j : Int) l _ (hIr.keep (below_drew _)) (by omega)).mono ?_; rintro e w2 ⟨rfl, q2⟩; have kc := (q2.cell (p := ⟨b, j, none⟩) (cell_lt hc)).trans hc)
        all_goals
          go_wp2_with fail
          go_roundw
          case rel => exact ⟨j + 1, by omega, by go_num, HN2, below_trans hq (below_trans (below_drew _) q2)⟩
          case measure => simp [intOf]; omega
    · obtain rfl : j = 3 := by omega
      go_wp2
      go_ret
      exact ⟨by rw [overL_none HN.out]; rfl, hq⟩
/-- A room, as a host takes it. -/
def clampR (z : Int) : Int := if z < 0 then 0 else if 40 < z then 40 else z
/-- Three rooms in a block of their own. -/
structure RmI (w W : World) (B : Nat) (f : Nat → Int) : Prop where
  c : ∀ t, t < 3 → W.cell? ⟨B, t, none⟩ = some (.int .i64 (f t))
  z : ∀ i, W.frozen? ⟨B, i, none⟩ = false
  q : Below w.heap.size w W
  b : w.heap.size ≤ B
theorem RmI.set {w W : World} {B j : Nat} {f : Nat → Int} (h : RmI w W B f) (hj : j < 3) (v : Int) : RmI w (W.setCell ⟨B, j, none⟩ (.int .i64 v)) B (fun t => if t = j then v else f t) := by
  refine ⟨fun t ht => ?_, fun i => by rw [World.frozen?_setCell]; exact h.z i, ?_, h.b⟩
  · by_cases e : t = j
    · subst e
      simp only [if_true]
      exact World.cell?_setCell_same _ _ _ (h.c t ht)
    · simp only [if_neg e]
      exact (World.cell?_setCell_other _ _ _ _ (fun e' => e (Addr.mk.inj e').2.1.symm)).trans (h.c t ht)
  · exact h.q.setCell (p := ⟨B, j, none⟩) h.b _
end Go.Proofs.YtindifjhocgkbaaGreatDoor
