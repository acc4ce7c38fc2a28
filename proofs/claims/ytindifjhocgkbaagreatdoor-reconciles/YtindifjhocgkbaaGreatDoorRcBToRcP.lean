import Derived.Test.YtindifjhocgkbaaGreatDoorRcA
import Derived.Test.YtindifjhocgkbaaGreatDoorTbT
namespace Go.Proofs.YtindifjhocgkbaaGreatDoor
open Go.RowKit
theorem RmI.cong {w W : World} {B : Nat} {f g : Nat → Int} (h : RmI w W B f) (e : ∀ t, t < 3 → f t = g t) : RmI w W B g := ⟨fun t ht => by rw [← e t ht]; exact h.c t ht, h.z, h.q, h.b⟩
theorem clampR_lo {z : Int} (h : z < 0) : clampR z = 0 := by simp [clampR, h]
theorem clampR_hi {z : Int} (h : 40 < z) : clampR z = 40 := by unfold clampR; rw [if_neg (by omega), if_pos h]
theorem clampR_mid {z : Int} (h : 0 ≤ z) (h' : z ≤ 40) : clampR z = z := by unfold clampR; rw [if_neg (by omega), if_neg (by omega)]
theorem room_step {x : Nat → Int} {j : Nat} {v : Int} (hv : clampR (x j) = v) (t : Nat) : (if t = j then v else if t < j then clampR (x t) else 40) = (if t < j + 1 then clampR (x t) else 40) := by
  by_cases e : t = j
  · subst e; rw [if_pos rfl, if_pos (by omega), hv]
  · rw [if_neg e]
    by_cases h : t < j
    · rw [if_pos h, if_pos (by omega)]
    · rw [if_neg h, if_neg (by omega)]
set_option maxRecDepth 10000 in
set_option maxHeartbeats 2000000 in
theorem lRooms (ra : Option Addr) (n rc : Nat) (x : Nat → Int) (w : World) (hr : 0 < n → ∃ b off, ra = some ⟨b, off, none⟩ ∧ b < w.heap.size ∧ ∀ i, i < n → w.cell? ⟨b, off + i, none⟩ = some (.int .i64 (x i))) (hn : (n : Int) ≤ 9223372036854775807) :
    Calls Tryz.prog 25 #[.slice ra n rc] w fun e w' => ∃ B, e = .returned (.slice (some ⟨B, 0, none⟩) 3 3) ∧ RmI w w' B (fun t => if t < n then clampR (x t) else 40) := by
  have h0 : RmI w (w.alloc (.cells #[.int .i64 40, .int .i64 40, .int .i64 40] 3)) w.heap.size (fun t => if t < 0 then clampR (x t) else 40) :=
    ⟨fun t ht => by rcases (show t = 0 ∨ t = 1 ∨ t = 2 by omega) with rfl | rfl | rfl <;> simp, fun i => World.frozen?_alloc_at _ _ _ i rfl, below_alloc _ _, Nat.le_refl _⟩
  go_enter Tryz.func25, Tryz.ntmps25
  go_wp2_with fail
  generalize w.alloc (.cells #[.int .i64 40, .int .i64 40, .int .i64 40] 3) = W0 at *
  obtain ⟨B, hB⟩ : ∃ B, w.heap.size = B := ⟨_, rfl⟩
  rw [hB] at h0 ⊢
  go_loopw [4] (fun i wr => ∃ j : Nat, j ≤ n ∧ j ≤ 3 ∧ i = .int .i64 j ∧ RmI w wr B (fun t => if t < j then clampR (x t) else 40)) (fun i _ => 3 - (intOf i).toNat)
  case atStart => exact ⟨0, Nat.zero_le _, Nat.zero_le _, rfl, h0⟩
  case round =>
    clear h0
    obtain ⟨j, hj, hj3, rfl, h⟩ := hrel
    by_cases hlt : j < n ∧ j < 3
    · obtain ⟨hl, hl3⟩ := hlt
      have il : ((j : Nat) : Int) < (n : Int) := by omega
      have il3 : ((j : Nat) : Int) < 3 := by omega
      obtain ⟨b, off, rfl, hb, hc⟩ := hr (by omega)
      have hx := (h.q.cell (p := ⟨b, off + j, none⟩) hb).trans (hc j hl)
      have hy := h.c j hl3
      simp only [if_neg (Nat.lt_irrefl j)] at hy
      have hz := h.z j
      have s1 := h.set hl3 (x j)
      go_wp2_with fail
      · rename_i hlo
        refine ⟨⟨j + 1, by omega, by omega, by go_num, (s1.set hl3 0).cong (fun t _ => ?_)⟩, by simp [intOf]; omega⟩
        have e := room_step (clampR_lo hlo) t
        by_cases h1 : t = j <;> simp_all
      · rename_i hlo hhi
        refine ⟨⟨j + 1, by omega, by omega, by go_num, (s1.set hl3 40).cong (fun t _ => ?_)⟩, by simp [intOf]; omega⟩
        have e := room_step (clampR_hi hhi) t
        by_cases h1 : t = j <;> simp_all
      · rename_i hlo hhi
        exact ⟨⟨j + 1, by omega, by omega, by go_num, s1.cong (fun t _ => room_step (clampR_mid hlo hhi) t)⟩, by simp [intOf]; omega⟩
    · have hjn : j = n ∨ j = 3 := by omega
      have hf : ∀ t, t < 3 → (if t < j then clampR (x t) else 40) = (if t < n then clampR (x t) else 40) := fun t ht => by
        rcases hjn with rfl | rfl
        · rfl
        · rw [if_pos ht, if_pos (by omega)]
      have h' := h.cong hf
      by_cases hlt2 : j < n
      · have il : ((j : Nat) : Int) < (n : Int) := by omega
        obtain rfl : j = 3 := by omega
        go_wp2
        go_ret
        exact ⟨B, rfl, h'⟩
      · have il : ¬ ((j : Nat) : Int) < (n : Int) := by omega
        go_wp2
        go_ret
        exact ⟨B, rfl, h'⟩
end Go.Proofs.YtindifjhocgkbaaGreatDoor
namespace Go.Proofs.YtindifjhocgkbaaGreatDoor
open Go.RowKit
theorem cntT_cons (t : Int) (x : En) (l : List En) : cntT t (x :: l) = (if x.t = t then 1 else 0) + cntT t l := by
  unfold cntT
  by_cases h : x.t = t <;> simp [h]; omega
theorem put_cnt (t : Int) (e : En) : ∀ l, cntT t (put e l) = cntT t l + (if fnd e.t e.k l then 0 else if e.t = t then 1 else 0)
  | [] => by simp [put, fnd, cntT_cons, low]; simp [cntT]
  | x :: l => by
    unfold put
    by_cases h : x.cmp e.t e.k < 0
    · rw [if_pos h, fnd_cons_lt h, cntT_cons, cntT_cons, put_cnt t e l]; omega
    · rw [if_neg h, fnd_cons_ge h]
      by_cases h0 : x.cmp e.t e.k = 0
      · have hx := (cmpK_zero _ _ _ _).1 h0
        simp [h0, cntT_cons, hx.1]
      · simp [h0, cntT_cons]; omega
theorem del_len (t : Int) (k : ByteArray) : ∀ l, (del t k l).length + (if fnd t k l then 1 else 0) = l.length
  | [] => by simp [del, fnd, low]
  | x :: l => by
    unfold del
    by_cases h : x.cmp t k < 0
    · have := del_len t k l
      rw [if_pos h, fnd_cons_lt h]; simp; omega
    · rw [if_neg h, fnd_cons_ge h]
      by_cases h0 : x.cmp t k = 0
      · simp [h0]
      · simp [h0]
theorem cnt_all : ∀ (l : List En), (∀ e ∈ l, 0 ≤ e.t ∧ e.t ≤ 2) → l.length = cntT 0 l + cntT 1 l + cntT 2 l
  | [], _ => rfl
  | x :: l, h => by
    have h1 := h x (by simp)
    have h2 := cnt_all l (fun e he => h e (by simp [he]))
    rw [cntT_cons, cntT_cons, cntT_cons, List.length_cons, h2]
    rcases (show x.t = 0 ∨ x.t = 1 ∨ x.t = 2 by omega) with e | e | e <;> simp [e] <;> omega
/-- What a datapath holds behind one more that is put. -/
def thereS (r : Nat → Int) (out : List En) (e : En) : List En :=
  if (0 ≤ e.t ∧ e.t ≤ 2) ∧ (fnd e.t e.k out = true ∨ (cntT e.t out : Int) < r e.t.toNat) then put e out else out
/-- A datapath's entries: in order, of the three tables, of no table more than there is room. -/
structure HdI (r : Nat → Int) (l : List En) : Prop where
  s : Srt l
  t : ∀ e ∈ l, 0 ≤ e.t ∧ e.t ≤ 2
  c : ∀ t : Nat, t < 3 → (cntT t l : Int) ≤ r t
theorem HdI.nil {r : Nat → Int} (h : ∀ t, t < 3 → 0 ≤ r t) : HdI r [] := ⟨List.Pairwise.nil, by simp, fun t ht => by have := h t ht; simpa [cntT] using this⟩
theorem HdI.step {r : Nat → Int} {l : List En} (h : HdI r l) (e : En) : HdI r (thereS r l e) := by
  unfold thereS
  by_cases hc : (0 ≤ e.t ∧ e.t ≤ 2) ∧ (fnd e.t e.k l = true ∨ (cntT e.t l : Int) < r e.t.toNat)
  · rw [if_pos hc]
    refine ⟨put_srt h.s, fun y hy => ?_, fun t ht => ?_⟩
    · rcases put_mem hy with rfl | hy
      · exact hc.1
      · exact h.t y hy
    · rw [put_cnt]
      have h0 := h.c t ht
      rcases hc.2 with hf | hf
      · rw [hf]; simpa using h0
      · by_cases hff : fnd e.t e.k l = true
        · rw [hff]; simpa using h0
        · by_cases et : e.t = (t : Int)
          · rw [et] at hf
            have e2 : ((t : Int)).toNat = t := by omega
            rw [e2] at hf
            rw [if_neg hff, if_pos et]
            have := h0
            omega
          · rw [if_neg hff, if_neg et]
            simpa using h0
  · rw [if_neg hc]; exact h
theorem HdI.len {r : Nat → Int} {l : List En} (h : HdI r l) (h4 : ∀ t, t < 3 → r t ≤ 40) : l.length ≤ 120 := by
  have h0 := h.c 0 (by omega)
  have h1 := h.c 1 (by omega)
  have h2 := h.c 2 (by omega)
  have g0 := h4 0 (by omega)
  have g1 := h4 1 (by omega)
  have g2 := h4 2 (by omega)
  have e := cnt_all l h.t
  simp at h0 h1 h2
  omega
end Go.Proofs.YtindifjhocgkbaaGreatDoor
