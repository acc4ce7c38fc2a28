import Derived.Test.YtokckapacdpgaaaGreatDoorOEA
import Derived.Test.YtokckapacdpgaaaGreatDoorOpC
namespace Go.Proofs.YtokckapacdpgaaaGreatDoor
open Go.RowKit

/-- The change that lays an entry. -/
def putOp (e : En) : OpD := ⟨1, e.t, e.k, e.v⟩
/-- Tables of these entries: each laid by a delta of its own. -/
def layL (es : List En) : List En := es.foldl (fun t e => aftD t 1 [putOp e]) []
theorem layL_snoc (es : List En) (e : En) : layL (es ++ [e]) = aftD (layL es) 1 [putOp e] := by simp [layL]

theorem layL_take (es : List En) (j : Nat) (h : j < es.length) : layL (es.take (j + 1)) = aftD (layL (es.take j)) 1 [putOp es[j]] := by
  rw [List.take_succ_eq_append_getElem h, layL_snoc]
theorem aftD_length (l : List En) (v : Int) (ops : List OpD) : (aftD l v ops).length ≤ l.length + ops.length := by
  unfold aftD
  split
  · exact aft_length ops l
  · omega
theorem layF_srt : ∀ (es : List En) (l : List En), Srt l → Srt (es.foldl (fun t e => aftD t 1 [putOp e]) l)
  | [], _, h => h
  | e :: es, l, h => layF_srt es (aftD l 1 [putOp e]) (aftD_srt h)
theorem layL_srt (es : List En) : Srt (layL es) := layF_srt es [] List.Pairwise.nil
theorem layF_length : ∀ (es : List En) (l : List En), (es.foldl (fun t e => aftD t 1 [putOp e]) l).length ≤ l.length + es.length
  | [], _ => by simp
  | e :: es, l => by
    have h1 := layF_length es (aftD l 1 [putOp e])
    have h2 := aftD_length l 1 [putOp e]
    simp only [List.foldl_cons, List.length_cons, List.length_nil] at *
    omega
theorem layL_length (es : List En) : (layL es).length ≤ es.length := by have h := layF_length es []; unfold layL; simp only [List.length_nil, Nat.zero_add] at h; exact h

theorem tApply (T : Nat) (l : List En) (v : Int) (ao : Option Addr) (cap : Nat) (ops : List OpD) (w : World) (h : TabIs w T l) (h0 : 0 ≤ v) (hcap : ops.length ≤ cap) (ho : OpsIn w ao ops) (g : Glob w) (hs : Srt l) (hn : l.length ≤ 900000) :
    Calls Tryz.prog 35 #[.pointer (some ⟨T, 0, none⟩), .agg #[.int .u64 v, .slice ao ops.length cap]] w fun e w' => ∃ x, e = .returned x ∧ TabIs w' T (aftD l v ops) ∧ w.grownBy w' (some T) := by
  by_cases hk : (wrongD v ops).1 = 0
  · refine (tApply_ok T l v ao cap ops w h h0 hcap ho g hs hn hk).mono ?_
    rintro e w' ⟨rfl, t, gr⟩
    exact ⟨_, rfl, by unfold aftD; rw [if_pos hk]; exact t, gr⟩
  · refine (tApply_no T v ao cap ops w h0 hcap ho g hk).mono ?_
    rintro e w' ⟨x, rfl, _, q⟩
    exact ⟨_, rfl, by unfold aftD; rw [if_neg hk]; exact h.keep q, grown_below' _ q⟩

theorem ops_one (W : World) (B : Nat) (hB : B = W.heap.size) (x : En) : OpsIn (W.alloc (.cells #[.int .i64 1, .int .i64 x.t, .string x.k, .string x.v] 85)) (some ⟨B, 0, none⟩) [putOp x] := by
  subst hB
  intro _
  refine ⟨_, _, rfl, by simp, ⟨?_, ?_, ?_, ?_⟩⟩ <;> intro i hi <;> (obtain rfl : i = 0 := by simpa using hi) <;> simp [putOp]
set_option maxRecDepth 10000 in
set_option maxHeartbeats 2000000 in
theorem pLaid (v : Value) (es : List En) (w : World) (hI : EnsIn w v es) (hl : es.length ≤ 100000) (g : Glob w) :
    Calls Tryz.prog 50 #[v] w fun e w' => ∃ T, e = .returned (.pointer (some ⟨T, 0, none⟩)) ∧ w.heap.size ≤ T ∧ TabIs w' T (layL es) ∧ Below w.heap.size w w' := by
  obtain ⟨ao, cp, rfl⟩ : ∃ a cap, v = .slice a es.length cap := by rcases hI with ⟨rfl, rfl⟩ | ⟨b, off, cap, rfl, _⟩ <;> exact ⟨_, _, rfl⟩
  have h2 := g.lt
  go_enter Tryz.func50, Tryz.ntmps50
  go_wp2_with fail
  refine (newTables _).mono ?_
  rintro e w1 ⟨rfl, rfl⟩
  have t1 : TabIs (w.alloc (.cells #[.slice none 0 0] 116)) w.heap.size [] := ⟨_, heap_alloc_new _ _, World.ownsRow_nil _ _ _ _⟩
  have q1 := below_alloc w (.cells #[.slice none 0 0] 116)
  go_wp2_with fail
  go_loopw [9] (fun i wr => ∃ j : Nat, j ≤ es.length ∧ i = .int .i64 j ∧ TabIs wr w.heap.size (layL (es.take j)) ∧ Below w.heap.size w wr)
    (fun i _ => es.length - (intOf i).toNat)
  case atStart => exact ⟨0, Nat.zero_le _, rfl, by simpa [layL] using t1, q1⟩
  case round =>
    obtain ⟨j, hj, rfl, ht, hq⟩ := hrel
    by_cases hlt : j < es.length
    · rcases hI with ⟨_, he⟩ | ⟨b, off, cap, hv, hb, hc⟩
      · rw [he] at hlt; simp at hlt
      simp only [Value.slice.injEq] at hv
      obtain ⟨rfl, _, rfl⟩ := hv
      have hens := hc.keep hb hq
      have d0 := hens.c0 j hlt
      have d1 := hens.c1 j hlt
      have d2 := hens.c2 j hlt
      have il : ((j : Nat) : Int) < (es.length : Int) := by omega
      have hsr := layL_srt (es.take j)
      have hll : (layL (es.take j)).length ≤ 100000 := by have := layL_length (es.take j); simp at this; omega
      have HT : Hid (layL (es.take (j + 1)) = aftD (layL (es.take j)) 1 [putOp es[j]]) := layL_take es j hlt
      have HS : Hid (Srt (layL (es.take j))) := hsr
      clear hsr
      generalize layL (es.take j) = L at *
      generalize es[j] = x at *
      go_wp2_with fail
      have qa := below_trans (below_alloc wr (.cells #[.int .i64 x.t, .string x.k, .string x.v] 62)) (below_alloc _ (.cells #[.int .i64 1, .int .i64 x.t, .string x.k, .string x.v] 85))
      have q0 : Below w.heap.size w _ := hq.trans (qa.mono hq.size)
      refine (tApply w.heap.size L 1 _ 1 [putOp x] _ (ht.keep qa) (by decide) (by simp) (ops_one _ _ (by simp) x) (g.keep q0) HS.out (by omega)).mono ?_
      rintro e w2 ⟨y, rfl, t2, g2⟩
      have q2 : Below w.heap.size w w2 := q0.grown g2 q0.size (fun k hk => by cases hk; exact Nat.le_refl _)
      go_wp2_with fail
      go_roundw
      case rel => exact ⟨j + 1, by omega, by go_num, by rw [HT.out]; exact t2, q2⟩
      case measure => simp [intOf]; omega
    · obtain rfl : j = es.length := by omega
      go_wp2
      go_ret
      rw [List.take_length] at ht
      exact ⟨_, rfl, Nat.le_refl _, ht, hq⟩
end Go.Proofs.YtokckapacdpgaaaGreatDoor
