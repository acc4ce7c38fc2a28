import Derived.Test.YtindifjhocgkbaaGreatDoorOps
namespace Go.Proofs.YtindifjhocgkbaaGreatDoor
open Go.RowKit

set_option maxHeartbeats 1000000 in
theorem rOp_no (o : OpD) (v : Value) (w : World) (hk : kindB o.kind o.table = false) :
    Calls Tryz.prog 38 #[.agg #[.int .i64 o.kind, .int .i64 o.table, .string o.key, .string o.val], v] w fun e w' => e = .returned (.int .i64 6) ∧ Below w.heap.size w w' := by
  have h := kindB_out hk
  rcases (show o.kind < 1 ∨ (1 ≤ o.kind ∧ 2 < o.kind) ∨ ((1 ≤ o.kind ∧ o.kind ≤ 2) ∧ o.table < 0) ∨ ((1 ≤ o.kind ∧ o.kind ≤ 2) ∧ 0 ≤ o.table ∧ 2 < o.table) by omega) with h1 | ⟨h1, h2⟩ | ⟨⟨h1, h2⟩, h3⟩ | ⟨⟨h1, h2⟩, h3, h4⟩
  all_goals
    clear h hk
    go_enter Tryz.func38, Tryz.ntmps38
    go_wp2
    go_ret
    exact ⟨rfl, below_alloc _ _⟩

set_option maxHeartbeats 1000000 in
theorem rOp (o : OpD) (ao : Option Addr) (cap : Nat) (l : List OpD) (w : World) (hl : l.length ≤ 8) (ho : OpsIn w ao l) :
    Calls Tryz.prog 38 #[.agg #[.int .i64 o.kind, .int .i64 o.table, .string o.key, .string o.val], .slice ao l.length cap] w fun e w' => e = .returned (.int .i64 (wrongN o l)) ∧ Below w.heap.size w w' := by
  cases hk : kindB o.kind o.table
  · rw [wrongN_6 hk]; exact rOp_no o _ w hk
  obtain ⟨hk12, h0, h3⟩ := kindB_in hk
  have hk1 : 1 ≤ o.kind := by omega
  have hk2 : o.kind ≤ 2 := by omega
  have ht2 : o.table ≤ 2 := by omega
  have HK : Hid (o.kind = 1 ∨ o.kind = 2) := hk12
  clear hk12
  have HKB : Hid (kindB o.kind o.table = true) := hk
  clear hk
  have oA : ∀ x, OpsIn (w.alloc x) ao l := fun x => ho.keep (below_alloc w x)
  cases hy : keyB o.table o.key
  · rw [wrongN_7 HKB.out hy]
    go_enter Tryz.func38, Tryz.ntmps38
    go_wp2_with fail
    refine (rIsKey _ _ _ h0 h3).mono ?_
    rintro e w1 ⟨rfl, n, rfl⟩
    go_wp2
    go_ret
    exact ⟨rfl, below_drewN (below_alloc _ _) _⟩
  go_enter Tryz.func38, Tryz.ntmps38
  go_wp2_with fail
  refine (rIsKey _ _ _ h0 h3).mono ?_
  rintro e w1 ⟨rfl, n0, rfl⟩
  go_wp2
  go_loopw [6] (fun i wr => ∃ j n : Nat, j ≤ l.length ∧ i = .int .i64 j ∧ (l.take j).any (sameKey o.table o.key) = false ∧ wr = (w.alloc (.cells #[.int .i64 o.kind, .int .i64 o.table, .string o.key, .string o.val] 85)).drewN n)
    (fun i _ => l.length - (intOf i).toNat)
  case atStart => exact ⟨0, n0, Nat.zero_le _, rfl, rfl, rfl⟩
  case round =>
    obtain ⟨j, n, hj, rfl, hno, rfl⟩ := hrel
    have HNO : Hid ((l.take j).any (sameKey o.table o.key) = false) := hno
    clear hno
    by_cases hlt : j < l.length
    · obtain ⟨b, off, rfl, hb, ho'⟩ := ho (by omega)
      have hbA : ∀ x, b < (w.alloc x).heap.size := fun x => by simp; omega
      have hq : ∀ x, Below w.heap.size w ((w.alloc x).drewN n) := fun x => below_drewN (below_alloc _ _) _
      have d0 := fun x => ((hq x).cell (p := ⟨b, off + j * 4, none⟩) hb).trans (ho'.c0 j hlt)
      have d1 := fun x => ((hq x).cell (p := ⟨b, off + j * 4 + 1, none⟩) hb).trans (ho'.c1 j hlt)
      have d2 := fun x => ((hq x).cell (p := ⟨b, off + j * 4 + 2, none⟩) hb).trans (ho'.c2 j hlt)
      have d3 := fun x => ((hq x).cell (p := ⟨b, off + j * 4 + 3, none⟩) hb).trans (ho'.c3 j hlt)
      have e0 := fun x => (World.cell?_alloc_lt w x ⟨b, off + j * 4, none⟩ hb).trans (ho'.c0 j hlt)
      have e1 := fun x => (World.cell?_alloc_lt w x ⟨b, off + j * 4 + 1, none⟩ hb).trans (ho'.c1 j hlt)
      have e2 := fun x => (World.cell?_alloc_lt w x ⟨b, off + j * 4 + 2, none⟩ hb).trans (ho'.c2 j hlt)
      have e3 := fun x => (World.cell?_alloc_lt w x ⟨b, off + j * 4 + 3, none⟩ hb).trans (ho'.c3 j hlt)
      have ij : ((j : Nat) : Int) < (l.length : Int) := by omega
      by_cases t1 : l[j].table = o.table
      · by_cases t2 : l[j].key.toList = o.key.toList
        · have HA : Hid (l.any (sameKey o.table o.key) = true) := any_of hlt t1 t2
          have b1 : (l[j].table == o.table) = true := by simpa using t1
          have b2 : (l[j].key.toList == o.key.toList) = true := by simpa using t2
          go_wp2_with fail
          go_quiet (fail)
          go_wp2
          go_ret
          exact ⟨ret_int (wrongN_8 HKB.out hy HA.out).symm, below_drewN (below_drewN (below_alloc _ _) _) _⟩
        · have hs := any_step o.table o.key l j hlt
          rw [HNO.out, show sameKey o.table o.key l[j] = false by simp [sameKey, t2]] at hs
          have HS : Hid _ := hs
          have b1 : (l[j].table == o.table) = true := by simpa using t1
          have b2 : (l[j].key.toList == o.key.toList) = false := by simpa using t2
          clear hs
          go_wp2_with fail
          go_quiet (fail)
          go_wp2
          go_roundw
          case rel => exact ⟨j + 1, _, by omega, by go_num, HS.out, rfl⟩
          case measure => simp [intOf]; omega
      · have hs := any_step o.table o.key l j hlt
        rw [HNO.out, show sameKey o.table o.key l[j] = false by simp [sameKey, t1]] at hs
        have HS : Hid _ := hs
        have b1 : (l[j].table == o.table) = false := by simpa using t1
        clear hs
        go_wp2_with fail
        go_quiet (fail)
        go_wp2
        go_roundw
        case rel => exact ⟨j + 1, _, by omega, by go_num, HS.out, rfl⟩
        case measure => simp [intOf]; omega
    · obtain rfl : j = l.length := by omega
      have HA : Hid (l.any (sameKey o.table o.key) = false) := by have h := HNO.out; rw [List.take_length] at h; exact h
      cases hf : fitsB o
      all_goals
        have hf' := hf
        by_cases hk2' : o.kind = 2
        · rw [fits2 hk2'] at hf'
          have hb : (o.kind == 2) = true := by simpa using hk2'
          clear hk2'
          go_wp2_with fail
          refine (rIsValue _ _ _ h0 h3).mono ?_
          rintro e w1 ⟨rfl, rfl⟩
          go_wp2
          go_ret
          first | exact ⟨ret_int (wrongN_9 HKB.out hy HA.out hf).symm, below_drewN (below_alloc _ _) _⟩ | exact ⟨ret_int (wrongN_0 HKB.out hy HA.out hf).symm, below_drewN (below_alloc _ _) _⟩
        · rw [fits1 hk2'] at hf'
          have hb : (o.kind == 2) = false := by simpa using hk2'
          clear hk2'
          go_wp2_with fail
          refine (rIsValue _ _ _ h0 h3).mono ?_
          rintro e w1 ⟨rfl, rfl⟩
          go_wp2
          go_ret
          first | exact ⟨ret_int (wrongN_9 HKB.out hy HA.out hf).symm, below_drewN (below_alloc _ _) _⟩ | exact ⟨ret_int (wrongN_0 HKB.out hy HA.out hf).symm, below_drewN (below_alloc _ _) _⟩
end Go.Proofs.YtindifjhocgkbaaGreatDoor
