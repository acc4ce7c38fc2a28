import Derived.Test.YtindifjhocgkbaaGreatDoorRt
import Derived.Test.YtindifjhocgkbaaGreatDoorTab
namespace Go.Proofs.YtindifjhocgkbaaGreatDoor
open Go.RowKit

set_option maxRecDepth 10000 in
set_option maxHeartbeats 2000000 in
theorem eRouteOf (a : ByteArray) (n : Nat) (w : World) (ha : a.size = 4) (hn : n ≤ 32) :
    Calls Tryz.prog 123 #[.string a, .int .i64 n] w fun e w' => e = .returned (.agg #[.int .i64 1, .string (rk a n)]) ∧ Below w.heap.size w w' := by
  have hb0 : (0 : Int) ≤ 32 - (n : Int) := by omega
  have hX : num a 4 / 2 ^ (32 - n) * 2 ^ (32 - n) % 4294967296 = ((rkN a n : Nat) : Int) := by
    have e : ((rkN a n : Nat) : Int) = num a 4 / 2 ^ (32 - n) * 2 ^ (32 - n) := by
      unfold rkN; rw [Int.natCast_mul, Int.natCast_ediv, numN_eq, Int.natCast_pow]; rfl
    rw [← e]; have := rkN_lt a n; omega
  obtain ⟨N, hN⟩ : ∃ N, N = rkN a n := ⟨_, rfl⟩
  have hN32 : N < 4294967296 := by rw [hN]; exact rkN_lt a n
  have hk : baOf [((N : Nat) : Int) / 16777216, (N : Int) / 65536 % 256, (N : Int) / 256 % 256, (N : Int) % 256, (n : Int)] = rk a n := by
    unfold rk; rw [← hN]
    have e1 : ((N : Nat) : Int) / 16777216 = ((N / 16777216 % 256 : Nat) : Int) := by omega
    rw [e1]; rfl
  have hstr := str_lit (w.alloc (.cells #[.int .i64 0, .string ⟨#[]⟩] 83)) [((N : Nat) : Int) / 16777216, (N : Int) / 65536 % 256, (N : Int) / 256 % 256, (N : Int) % 256, (n : Int)] (w.heap.size + 1) 5 5 (by simp) (by intro x hx; simp at hx; rcases hx with rfl | rfl | rfl | rfl | rfl <;> omega)
  rw [hk] at hstr
  simp only [List.map_cons, List.map_nil, List.length_cons, List.length_nil, Nat.reduceAdd] at hstr
  rw [← hN] at hX
  clear hN hk
  go_enter Tryz.func123, Tryz.ntmps123
  go_wp2_with (go_at_call 141; refine (bitsOf a _ ha).mono ?_; rintro e w' ⟨rfl, rfl⟩)
  exact bodyPost_ret (v := .agg #[.int .i64 1, .string (rk a n)]) (by simp [results, Tryz.results123, go_sem]) rfl ⟨rfl, below_trans (below_alloc _ _) (below_alloc _ _)⟩

theorem rtTo_step {a : ByteArray} {l : List En} {n : Nat} (h : got 1 (rk a (n + 1)) l = none) : rtTo a l (n + 1) = rtTo a l n := by rw [rtTo, h]
set_option maxRecDepth 10000 in
set_option maxHeartbeats 2000000 in
theorem lRoute (v : Value) (l : List En) (a : ByteArray) (w : World) (h : EnsIn w v l) (hs : Srt l) (hn : l.length ≤ 1000000) (ha : a.size = 4) :
    Calls Tryz.prog 103 #[v, .string a] w fun e w' => e = .returned (.tuple #[.string ((rtTo a l 32).getD ⟨#[]⟩), .bool (rtTo a l 32).isSome]) ∧ Below w.heap.size w w' := by
  have HS : Hid (Srt l) := hs
  clear hs
  have HA : Hid (a.size = 4) := ha
  have hb : ((a.size : Int) != 4) = false := by simp; omega
  clear ha
  go_enter Tryz.func103, Tryz.ntmps103
  go_wp2_with fail
  go_loopw [6] (fun i wr => ∃ j : Nat, j ≤ 33 ∧ i = .int .i64 (32 - (j : Int)) ∧ (∀ n, j + n = 32 → rtTo a l 32 = rtTo a l n) ∧ (j = 33 → rtTo a l 32 = none) ∧ Below w.heap.size w wr)
    (fun i _ => (intOf i + 1).toNat)
  case atStart => exact ⟨0, by omega, by go_num, fun n hn => by rw [show n = 32 by omega], by omega, Below.refl _ _⟩
  case round =>
    obtain ⟨j, hj, rfl, hr, hz, hq⟩ := hrel
    by_cases hlt : j ≤ 32
    · obtain ⟨n, hn2⟩ : ∃ n, j + n = 32 := ⟨32 - j, by omega⟩
      have hr' := hr n hn2
      have hcast : (32 : Int) - (j : Int) = ((n : Nat) : Int) := by omega
      have HR : Hid (rtTo a l 32 = rtTo a l n) := hr'
      clear hr hz hr'
      rw [hcast]
      cases hg : got 1 (rk a n) l with
      | some x =>
        have hfin : rtTo a l 32 = some x := by
          rw [HR.out]
          cases n with
          | zero => exact hg
          | succ n => rw [rtTo, hg]
        have HFIN : Hid (rtTo a l 32 = some x) := hfin
        clear hfin
        go_wp2_with fail
        refine (eRouteOf a n _ HA.out (by omega)).mono ?_
        rintro e w1 ⟨rfl, q1⟩
        go_wp2_with fail
        refine (lValue v l 1 (rk a n) _ ((h.keep hq).keep q1) HS.out hn).mono ?_
        rw [hg]
        rintro e w2 ⟨rfl, q2⟩
        go_wp2
        go_ret2
        refine ⟨?_, below_trans hq (below_trans q1 q2)⟩
        rw [HFIN.out]; rfl
      | none =>
        go_wp2_with fail
        refine (eRouteOf a n _ HA.out (by omega)).mono ?_
        rintro e w1 ⟨rfl, q1⟩
        go_wp2_with fail
        refine (lValue v l 1 (rk a n) _ ((h.keep hq).keep q1) HS.out hn).mono ?_
        rw [hg]
        rintro e w2 ⟨rfl, q2⟩
        go_wp2_with fail
        go_roundw
        case rel =>
          refine ⟨j + 1, by omega, by go_num, fun m hm => ?_, fun h33 => ?_, below_trans hq (below_trans q1 q2)⟩
          · obtain rfl : n = m + 1 := by omega
            rw [HR.out, rtTo_step hg]
          · obtain rfl : n = 0 := by omega
            rw [HR.out]; exact hg
        case measure => simp [intOf] <;> omega
    · obtain rfl : j = 33 := by omega
      have HZ : Hid (rtTo a l 32 = none) := hz rfl
      clear hr hz
      go_wp2
      go_ret2
      refine ⟨?_, hq⟩
      rw [HZ.out]; rfl

set_option maxHeartbeats 1000000 in
theorem tRoute (T : Nat) (l : List En) (a : ByteArray) (w : World) (h : TabIs w T l) (hs : Srt l) (hn : l.length ≤ 1000000) (ha : a.size = 4) :
    Calls Tryz.prog 73 #[.pointer (some ⟨T, 0, none⟩), .string a] w fun e w' => e = .returned (.tuple #[.string ((rtTo a l 32).getD ⟨#[]⟩), .bool (rtTo a l 32).isSome]) ∧ Below w.heap.size w w' := by
  obtain ⟨v, hb, ho⟩ := h.blk
  have tc : w.cell? ⟨T, 0, none⟩ = some v := by simp [World.cell?, hb]
  go_enter Tryz.func73, Tryz.ntmps73
  go_wp2_with fail
  refine (lRoute v l a _ (EnsIn.of_owns ho) hs hn ha).mono ?_
  rintro e w1 ⟨rfl, q1⟩
  go_wp2
  go_ret2
  exact ⟨rfl, q1⟩
set_option maxHeartbeats 1000000 in
theorem fRoute (F T : Nat) (l : List En) (a : ByteArray) (w : World) (hF : w.cell? ⟨F, 0, none⟩ = some (.pointer (some ⟨T, 0, none⟩))) (h : TabIs w T l) (hs : Srt l) (hn : l.length ≤ 1000000) (ha : a.size = 4) :
    Calls Tryz.prog 45 #[.pointer (some ⟨F, 0, none⟩), .string a] w fun e w' => e = .returned (.tuple #[.string ((rtTo a l 32).getD ⟨#[]⟩), .bool (rtTo a l 32).isSome]) ∧ Below w.heap.size w w' := by
  go_enter Tryz.func45, Tryz.ntmps45
  go_wp2_with fail
  refine (tRoute T l a _ h hs hn ha).mono ?_
  rintro e w1 ⟨rfl, q1⟩
  go_wp2
  go_ret2
  exact ⟨rfl, q1⟩
end Go.Proofs.YtindifjhocgkbaaGreatDoor
