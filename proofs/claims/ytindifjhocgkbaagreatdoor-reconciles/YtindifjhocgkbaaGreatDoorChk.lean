import Derived.Test.YtindifjhocgkbaaGreatDoorOpsB
import Derived.BigRegion
import Derived.Deep.RegionWith
namespace Go.Proofs.YtindifjhocgkbaaGreatDoor
open Go.RowKit

/-- What an error value tells: nothing (0, 0), or a fault of a kind at a place. -/
def ErrIs (w : World) (e : Value) (k a : Int) : Prop :=
  (k = 0 ∧ a = 0 ∧ e = .nilIface) ∨ (1 ≤ k ∧ k ≤ 14 ∧ ∃ b, e = .iface 133 (.pointer (some ⟨b, 0, none⟩)) ∧ w.cell? ⟨b, 0, none⟩ = some (.int .i64 k) ∧ w.cell? ⟨b, 1, none⟩ = some (.int .i64 a) ∧ w.cell? ⟨b, 2, none⟩ = some .nilIface)
theorem ErrIs.keep {w w' : World} {e : Value} {k a : Int} (h : ErrIs w e k a) (q : Below w.heap.size w w') : ErrIs w' e k a := by
  rcases h with h | ⟨h1, h2, b, h3, c0, c1, c2⟩
  · exact .inl h
  · have hb : b < w.heap.size := cell_lt c0
    exact .inr ⟨h1, h2, b, h3, (q.cell (p := ⟨b, 0, none⟩) hb).trans c0, (q.cell (p := ⟨b, 1, none⟩) hb).trans c1, (q.cell (p := ⟨b, 2, none⟩) hb).trans c2⟩

set_option maxHeartbeats 400000 in
theorem fault (k a : Int) (w : World) :
    Calls Tryz.prog 94 #[.int .i64 k, .int .i64 a] w fun e w' => e = .returned (.iface 133 (.pointer (some ⟨w.heap.size, 0, none⟩))) ∧ w' = w.alloc (.cells #[.int .i64 k, .int .i64 a, .nilIface] 138) := by
  go_enter Tryz.func94, Tryz.ntmps94
  go_wp2
  go_ret
  exact ⟨rfl, rfl⟩
theorem errIs_new (w : World) (k a : Int) (h1 : 1 ≤ k) (h2 : k ≤ 14) : ErrIs (w.alloc (.cells #[.int .i64 k, .int .i64 a, .nilIface] 138)) (.iface 133 (.pointer (some ⟨w.heap.size, 0, none⟩))) k a :=
  .inr ⟨h1, h2, w.heap.size, rfl, by simp, by simp, by simp⟩

theorem errIs_at (w : World) (k a : Int) (B : Nat) (hB : B = w.heap.size) (h1 : 1 ≤ k) (h2 : k ≤ 14) : ErrIs (w.alloc (.cells #[.int .i64 k, .int .i64 a, .nilIface] 138)) (.iface 133 (.pointer (some ⟨B, 0, none⟩))) k a := by
  subst hB; exact errIs_new w k a h1 h2
theorem wWrong_n (o : OpD) (ao : Option Addr) (cap n : Nat) (l : List OpD) (w : World) (hn : l.length = n) (hl : n ≤ 8) (ho : OpsIn w ao l) (g : Glob w) :
    Calls Tryz.prog 96 #[.agg #[.int .i64 o.kind, .int .i64 o.table, .string o.key, .string o.val], .slice ao n cap] w fun e w' => e = .returned (.int .i64 (wrongN o l)) ∧ Below w.heap.size w w' := by
  subst hn; exact wWrong o ao cap l w hl ho g
theorem rOp_n (o : OpD) (ao : Option Addr) (cap n : Nat) (l : List OpD) (w : World) (hn : l.length = n) (hl : n ≤ 8) (ho : OpsIn w ao l) :
    Calls Tryz.prog 38 #[.agg #[.int .i64 o.kind, .int .i64 o.table, .string o.key, .string o.val], .slice ao n cap] w fun e w' => e = .returned (.int .i64 (wrongN o l)) ∧ Below w.heap.size w w' := by
  subst hn; exact rOp o ao cap l w hl ho

def wrongAt (l : List OpD) (i : Nat) : Int := match l[i]? with | some o => wrongN o (l.take i) | none => 0
theorem wrongAt_eq {l : List OpD} {i : Nat} (h : i < l.length) : wrongAt l i = wrongN l[i] (l.take i) := by simp [wrongAt, h]
def firstW (l : List OpD) : Nat → Nat → Int × Int
  | 0, _ => (0, 0)
  | n + 1, i => if wrongAt l i = 0 then firstW l n (i + 1) else (wrongAt l i, i)
def wrongD (v : Int) (l : List OpD) : Int × Int := if verB v = false then (4, 0) else if cntB l.length = false then (5, 0) else firstW l l.length 0
theorem wrongD_4 {v : Int} {l : List OpD} (h : verB v = false) : wrongD v l = (4, 0) := by simp [wrongD, h]
theorem wrongD_5 {v : Int} {l : List OpD} (h : verB v = true) (h' : cntB l.length = false) : wrongD v l = (5, 0) := by simp [wrongD, h, h']
theorem wrongD_0 {v : Int} {l : List OpD} (h : verB v = true) (h' : cntB l.length = true) : wrongD v l = firstW l l.length 0 := by simp [wrongD, h, h']
theorem firstW_go {l : List OpD} {j : Nat} (h : j < l.length) (e : firstW l l.length 0 = firstW l (l.length - j) j) (h0 : wrongAt l j = 0) : firstW l l.length 0 = firstW l (l.length - (j + 1)) (j + 1) := by
  rw [e, show l.length - j = (l.length - (j + 1)) + 1 by omega, firstW, if_pos h0]
theorem firstW_hit {l : List OpD} {j : Nat} (h : j < l.length) (e : firstW l l.length 0 = firstW l (l.length - j) j) (h0 : wrongAt l j ≠ 0) : firstW l l.length 0 = (wrongAt l j, (j : Int)) := by
  rw [e, show l.length - j = (l.length - (j + 1)) + 1 by omega, firstW, if_neg h0]
theorem wrongN_bd (o : OpD) (l : List OpD) : wrongN o l = 0 ∨ (6 ≤ wrongN o l ∧ wrongN o l ≤ 9) := by
  unfold wrongN; repeat' split
  all_goals omega

set_option maxHeartbeats 1000000 in
theorem wCheck (v : Int) (ao : Option Addr) (cap : Nat) (l : List OpD) (w : World) (h0 : 0 ≤ v) (hcap : l.length ≤ cap) (ho : OpsIn w ao l) (g : Glob w) :
    Calls Tryz.prog 65 #[.agg #[.int .u64 v, .slice ao l.length cap]] w fun e w' => ∃ x, e = .returned x ∧ ErrIs w' x (wrongD v l).1 (wrongD v l).2 ∧ Below w.heap.size w w' := by
  cases hv : verB v
  · rw [wrongD_4 hv]
    go_enter Tryz.func65, Tryz.ntmps65
    go_wp2_with fail
    refine (wIsVersion _ _ h0).mono ?_
    rintro e w1 ⟨rfl, rfl⟩
    go_wp2_with fail
    refine (fault _ _ _).mono ?_
    rintro e w1 ⟨rfl, rfl⟩
    go_wp2
    go_ret
    exact ⟨.iface 133 (.pointer (some ⟨w.heap.size + 1, 0, none⟩)), rfl, errIs_at _ 4 0 _ (by simp) (by decide) (by decide), below_trans (below_alloc _ _) (below_alloc _ _)⟩
  cases hc : cntB l.length
  · rw [wrongD_5 hv hc]
    go_enter Tryz.func65, Tryz.ntmps65
    go_wp2_with fail
    refine (wIsVersion _ _ h0).mono ?_
    rintro e w1 ⟨rfl, rfl⟩
    go_wp2_with fail
    refine (isCount _ _).mono ?_
    rintro e w1 ⟨rfl, rfl⟩
    go_wp2_with fail
    refine (fault _ _ _).mono ?_
    rintro e w1 ⟨rfl, rfl⟩
    go_wp2
    go_ret
    exact ⟨.iface 133 (.pointer (some ⟨w.heap.size + 1, 0, none⟩)), rfl, errIs_at _ 5 0 _ (by simp) (by decide) (by decide), below_trans (below_alloc _ _) (below_alloc _ _)⟩
  rw [wrongD_0 hv hc]
  have hl8 : l.length ≤ 8 := by simp [cntB] at hc; omega
  have HC : Hid (cntB l.length = true) := hc
  go_enter Tryz.func65, Tryz.ntmps65
  go_wp2_with fail
  refine (wIsVersion _ _ h0).mono ?_
  rintro e w1 ⟨rfl, rfl⟩
  go_wp2_with fail
  refine (isCount _ _).mono ?_
  rintro e w1 ⟨rfl, rfl⟩
  go_wp2_with fail
  clear hc hv
  go_loopw [3, 4, 5, 20] (fun _ _ _ i wr => ∃ j : Nat, j ≤ l.length ∧ i = .int .i64 j ∧ firstW l l.length 0 = firstW l (l.length - j) j ∧ Below w.heap.size w wr ∧ w.heap.size < wr.heap.size ∧ wr.cell? ⟨w.heap.size, 0, none⟩ = some (.int .u64 v) ∧ wr.cell? ⟨w.heap.size, 1, none⟩ = some (.slice ao l.length cap))
    (fun _ _ _ i _ => l.length - (intOf i).toNat)
  case atStart => exact ⟨0, Nat.zero_le _, rfl, rfl, below_alloc _ _, by simp, by simp, by simp⟩
  case round =>
    obtain ⟨j, hj, rfl, hfw, hq, hsz, k0, k1⟩ := hrel
    have HFW : Hid (firstW l l.length 0 = firstW l (l.length - j) j) := hfw
    clear hfw
    by_cases hlt : j < l.length
    · obtain ⟨b, off, rfl, hb, ho'⟩ := ho (by omega)
      have d0 := (hq.cell (p := ⟨b, off + j * 4, none⟩) hb).trans (ho'.c0 j hlt)
      have d1 := (hq.cell (p := ⟨b, off + j * 4 + 1, none⟩) hb).trans (ho'.c1 j hlt)
      have d2 := (hq.cell (p := ⟨b, off + j * 4 + 2, none⟩) hb).trans (ho'.c2 j hlt)
      have d3 := (hq.cell (p := ⟨b, off + j * 4 + 3, none⟩) hb).trans (ho'.c3 j hlt)
      have x0 : ∀ x, (wr.alloc x).cell? ⟨w.heap.size, 0, none⟩ = some (.int .u64 v) := fun x => (World.cell?_alloc_lt _ _ _ hsz).trans k0
      have x1 : ∀ x, (wr.alloc x).cell? ⟨w.heap.size, 1, none⟩ = some (.slice (some ⟨b, off, none⟩) l.length cap) := fun x => (World.cell?_alloc_lt _ _ _ hsz).trans k1
      have ij : ((j : Nat) : Int) < (l.length : Int) := by omega
      have ic : ((j : Nat) : Int) ≤ (cap : Int) := by omega
      have hl' : (l.take j).length = j := by simp; omega
      have gA : ∀ x, Glob (wr.alloc x) := fun x => (g.keep hq).keep (below_alloc wr x)
      have oA : ∀ x, OpsIn (wr.alloc x) (some ⟨b, off, none⟩) (l.take j) := fun x => ((ho.keep hq).keep (below_alloc wr x)).take j
      have HA : Hid (wrongAt l j = wrongN l[j] (l.take j)) := wrongAt_eq hlt
      clear d0 d1 d2 d3
      have d0 := (hq.cell (p := ⟨b, off + j * 4, none⟩) hb).trans (ho'.c0 j hlt)
      have d1 := (hq.cell (p := ⟨b, off + j * 4 + 1, none⟩) hb).trans (ho'.c1 j hlt)
      have d2 := (hq.cell (p := ⟨b, off + j * 4 + 2, none⟩) hb).trans (ho'.c2 j hlt)
      have d3 := (hq.cell (p := ⟨b, off + j * 4 + 3, none⟩) hb).trans (ho'.c3 j hlt)
      by_cases hz : wrongN l[j] (l.take j) = 0
      · have hb0 : (wrongN l[j] (l.take j) != 0) = false := by simpa using hz
        have HZ : Hid (wrongAt l j = 0) := HA.out.trans hz
        clear hz
        go_wp2_with fail
        go_region_with (go_at_call 96; refine (wWrong_n l[j] _ _ _ (l.take j) _ hl' (by omega) ((oA _).keep (below_drew _)) ((gA _).keep (below_drew _))).mono ?_; rintro e w2 ⟨rfl, q2⟩)
        all_goals
          go_wp2_with fail
          go_roundw
          case rel =>
            have q3 := below_trans (below_trans (below_alloc wr _) (below_drew _)) q2
            have hs3 : wr.heap.size ≤ w2.heap.size := q3.size
            exact ⟨j + 1, by omega, by go_num, firstW_go hlt HFW.out HZ.out, hq.trans (q3.mono (by omega)), by omega, (q3.cell (p := ⟨w.heap.size, 0, none⟩) hsz).trans k0, (q3.cell (p := ⟨w.heap.size, 1, none⟩) hsz).trans k1⟩
          case measure => simp [intOf]; omega
      · have hb0 : (wrongN l[j] (l.take j) != 0) = true := by simpa using hz
        have HZ : Hid (¬ wrongAt l j = 0) := by rw [Hid, HA.out]; exact hz
        have HBD : Hid (6 ≤ wrongN l[j] (l.take j) ∧ wrongN l[j] (l.take j) ≤ 9) := (wrongN_bd _ _).resolve_left hz
        clear hz
        go_wp2_with fail
        go_region_with (go_at_call 96; refine (wWrong_n l[j] _ _ _ (l.take j) _ hl' (by omega) ((oA _).keep (below_drew _)) ((gA _).keep (below_drew _))).mono ?_; rintro e w2 ⟨rfl, q2⟩)
        all_goals
          go_wp2_with fail
          refine (fault _ _ _).mono ?_
          rintro e w3 ⟨rfl, rfl⟩
          go_wp2
          go_ret
          have q3 := below_trans (below_trans (below_alloc wr _) (below_drew _)) q2
          rw [firstW_hit hlt HFW.out HZ.out, HA.out]
          have hbd := HBD.out
          exact ⟨_, rfl, errIs_at _ _ _ _ rfl (by omega) (by omega), below_trans (hq.trans (q3.mono (by omega))) (below_alloc _ _)⟩
    · obtain rfl : j = l.length := by omega
      go_wp2
      go_ret
      rw [HFW.out]
      exact ⟨_, rfl, .inl ⟨by simp [firstW], by simp [firstW], rfl⟩, hq⟩
end Go.Proofs.YtindifjhocgkbaaGreatDoor
