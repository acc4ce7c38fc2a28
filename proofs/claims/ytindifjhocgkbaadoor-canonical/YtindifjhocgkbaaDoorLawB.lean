import Derived.Test.YtindifjhocgkbaaDoorLaw
namespace Go.Proofs.YtindifjhocgkbaaDoor
open Go.RowKit

set_option maxHeartbeats 1000000 in
theorem lEncoded (v : Int) (ao : Option Addr) (cap : Nat) (l : List OpD) (w : World) (h0 : 0 ≤ v) (h1 : v ≤ 18446744073709551615) (hn : ao = none → cap = 0) (hby : l.length * 48 ≤ 140737488355328) (hcap : l.length ≤ cap) (hmax : cap ≤ maxLen) (ho : OpsIn w ao l) (g : Glob w) (he : EtIs w) :
    Calls Tryd.prog 7 #[.agg #[.int .u64 v, .slice ao l.length cap]] w fun e w' => e = .returned (.bool true) ∧ Below w.heap.size w w' := by
  have qa := below_alloc w (.cells #[.int .u64 v, .slice ao l.length cap] 25)
  go_enter Tryd.func7, Tryd.ntmps7
  go_wp2_with fail
  refine (pEncode v ao cap l _ h0 hn hby (ho.keep qa) (g.keep qa) (he.keep qa)).mono ?_
  rintro e w1 ⟨rfl, q1⟩
  have c0 : w1.cell? ⟨w.heap.size, 0, none⟩ = some (.int .u64 v) := (q1.cell (p := ⟨w.heap.size, 0, none⟩) (by simp)).trans (by simp)
  have c1 : w1.cell? ⟨w.heap.size, 1, none⟩ = some (.slice ao l.length cap) := (q1.cell (p := ⟨w.heap.size, 1, none⟩) (by simp)).trans (by simp)
  have hs1 : w.heap.size < w1.heap.size := cell_lt c0
  have qb := below_alloc w1 (.cells #[.int .i64 (wrongD v l).1, .int .i64 (wrongD v l).2, .int .i64 0] 39)
  go_wp2_with fail
  refine (rEncode v ao cap l _ h0 h1 hcap hmax (((ho.keep qa).keep q1).keep qb)).mono ?_
  rintro e w2 ⟨rfl, q2⟩
  have f0 : w2.cell? ⟨w1.heap.size, 0, none⟩ = some (.int .i64 (wrongD v l).1) := (q2.cell (p := ⟨w1.heap.size, 0, none⟩) (by simp)).trans (by simp)
  have f1 : w2.cell? ⟨w1.heap.size, 1, none⟩ = some (.int .i64 (wrongD v l).2) := (q2.cell (p := ⟨w1.heap.size, 1, none⟩) (by simp)).trans (by simp)
  have f2 : w2.cell? ⟨w1.heap.size, 2, none⟩ = some (.int .i64 0) := (q2.cell (p := ⟨w1.heap.size, 2, none⟩) (by simp)).trans (by simp)
  have hs2 : w1.heap.size < w2.heap.size := cell_lt f0
  go_wp2_with fail
  refine (lSame _ _ _).mono ?_
  rintro e w3 ⟨rfl, q3⟩
  go_wp2
  go_ret
  exact ⟨rfl, below_trans (below_trans (below_trans (below_trans (below_trans qa q1) qb) q2) (below_alloc _ _)) q3⟩

def DRes (s : ByteArray) (k a v : Int) (l : List OpD) : Prop := (dec s = .error (k, a) ∧ v = 0 ∧ l = []) ∨ (dec s = .ok (v, l) ∧ k = 0 ∧ a = 0)
theorem DRes.same {s : ByteArray} {k a v k' a' v' : Int} {l l' : List OpD} (h : DRes s k a v l) (h' : DRes s k' a' v' l') : k = k' ∧ a = a' ∧ v = v' ∧ l = l' := by
  rcases h with ⟨h1, h2, h3⟩ | ⟨h1, h2, h3⟩ <;> rcases h' with ⟨g1, g2, g3⟩ | ⟨g1, g2, g3⟩ <;> rw [h1] at g1
  · obtain ⟨rfl, rfl⟩ : k = k' ∧ a = a' := by simpa using g1
    exact ⟨rfl, rfl, h2.trans g2.symm, h3.trans g3.symm⟩
  · exact absurd g1 (by simp)
  · exact absurd g1 (by simp)
  · obtain ⟨rfl, rfl⟩ : v = v' ∧ l = l' := by simpa using g1
    exact ⟨h2.trans g2.symm, h3.trans g3.symm, rfl, rfl⟩
theorem pdec_shape {w0 w1 : World} {s : ByteArray} {ev : Ending} (hp : PDecIs w0 w1 s ev) :
    ∃ (k a v : Int) (l : List OpD) (ao : Option Addr) (c : Nat), ev = .returned (.tuple #[.agg #[.int .u64 v, .slice ao l.length c], .agg #[.int .i64 k, .int .i64 a, .int .i64 0]]) ∧ l.length ≤ maxLen ∧ OpsIn w1 ao l ∧ DRes s k a v l := by
  rcases hp with ⟨k, a, h1, h2, h3⟩ | ⟨v, l, ao, c, h1, h2, h3⟩
  · exact ⟨k, a, 0, [], none, 0, h3, Nat.zero_le _, fun h => absurd h (by simp), .inl ⟨h1, rfl, rfl⟩⟩
  · obtain ⟨_, _, e1, e2, e3, e4, _⟩ := ops_of_own h3
    simp only [Value.slice.injEq] at e1
    obtain ⟨rfl, _, rfl⟩ := e1
    exact ⟨0, 0, v, l, ao, c, h2, Nat.le_trans e2 e3, e4, .inr ⟨h1, rfl, rfl⟩⟩
theorem rdec_shape {w0 w1 : World} {s : ByteArray} {ev : Ending} (hp : RDecIs w0 w1 s ev) :
    ∃ (k a v : Int) (l : List OpD) (ao : Option Addr) (c : Nat), ev = .returned (.tuple #[.agg #[.int .u64 v, .slice ao l.length c], .agg #[.int .i64 k, .int .i64 a]]) ∧ OpsIn w1 ao l ∧ DRes s k a v l := by
  rcases hp with ⟨k, a, h1, h2, h3⟩ | ⟨v, l, ao, c, h1, h2, h3⟩
  · exact ⟨k, a, 0, [], none, 0, h3, fun h => absurd h (by simp), .inl ⟨h1, rfl, rfl⟩⟩
  · obtain ⟨_, _, e1, e2, e3, e4, _⟩ := ops_of_own h3
    simp only [Value.slice.injEq] at e1
    obtain ⟨rfl, _, rfl⟩ := e1
    exact ⟨0, 0, v, l, ao, c, h2, e4, .inr ⟨h1, rfl, rfl⟩⟩

set_option maxHeartbeats 1000000 in
theorem lDecoded (s : ByteArray) (w : World) (hz : (s.size : Int) ≤ 9223372036854775000) (g : Glob w) (he : EtIs w) :
    Calls Tryd.prog 9 #[.string s] w fun e w' => e = .returned (.bool true) ∧ Below w.heap.size w w' := by
  go_enter Tryd.func9, Tryd.ntmps9
  go_wp2_with fail
  refine (pDecode s _ g he (by unfold maxLen; omega)).mono ?_
  rintro e w1 ⟨hp, q1⟩
  obtain ⟨k, a, v, l, ao, c, rfl, hl, oa, res⟩ := pdec_shape hp
  clear hp
  have qb := below_trans (below_alloc w1 (.cells #[.int .u64 v, .slice ao l.length c] 25)) (below_alloc _ (.cells #[.int .i64 k, .int .i64 a, .int .i64 0] 39))
  go_wp2_with fail
  refine (rDecode s _ hz).mono ?_
  rintro e w2 ⟨hr, q2⟩
  obtain ⟨k', a', v', l', bo, d, rfl, ob, res'⟩ := rdec_shape hr
  obtain ⟨rfl, rfl, rfl, rfl⟩ := res.same res'
  have oa2 := (oa.keep qb).keep q2
  clear hr res res'
  have d0 : w2.cell? ⟨w1.heap.size, 0, none⟩ = some (.int .u64 v) := (q2.cell (p := ⟨w1.heap.size, 0, none⟩) (by simp <;> omega)).trans (by simp)
  have d1 : w2.cell? ⟨w1.heap.size, 1, none⟩ = some (.slice ao l.length c) := (q2.cell (p := ⟨w1.heap.size, 1, none⟩) (by simp <;> omega)).trans (by simp)
  have f0 : w2.cell? ⟨w1.heap.size + 1, 0, none⟩ = some (.int .i64 k) := (q2.cell (p := ⟨w1.heap.size + 1, 0, none⟩) (by simp)).trans (by simp)
  have f1 : w2.cell? ⟨w1.heap.size + 1, 1, none⟩ = some (.int .i64 a) := (q2.cell (p := ⟨w1.heap.size + 1, 1, none⟩) (by simp)).trans (by simp)
  have f2 : w2.cell? ⟨w1.heap.size + 1, 2, none⟩ = some (.int .i64 0) := (q2.cell (p := ⟨w1.heap.size + 1, 2, none⟩) (by simp)).trans (by simp)
  have hs2 : w1.heap.size + 1 < w2.heap.size := cell_lt f0
  have hs2' : w1.heap.size < w2.heap.size := cell_lt d0
  go_wp2_with fail
  refine (lSame _ _ _).mono ?_
  rintro e w3 ⟨rfl, q3⟩
  have qc := below_trans (below_alloc w2 (.cells #[.int .u64 v, .slice bo l.length d] 25)) (below_alloc _ (.cells #[.int .i64 k, .int .i64 a] 30))
  have q23 := below_trans qc q3
  have x0 := (q23.cell (p := ⟨w1.heap.size, 0, none⟩) (cell_lt d0)).trans d0
  have x1 := (q23.cell (p := ⟨w1.heap.size, 1, none⟩) (cell_lt d1)).trans d1
  have y0 : w3.cell? ⟨w2.heap.size, 0, none⟩ = some (.int .u64 v) := (q3.cell (p := ⟨w2.heap.size, 0, none⟩) (by simp <;> omega)).trans (by simp)
  have y1 : w3.cell? ⟨w2.heap.size, 1, none⟩ = some (.slice bo l.length d) := (q3.cell (p := ⟨w2.heap.size, 1, none⟩) (by simp <;> omega)).trans (by simp)
  clear d0 d1 f0 f1 f2
  go_wp2_with fail
  refine (lSameOps l ao bo c d _ hl (oa2.keep q23) (ob.keep q23)).mono ?_
  rintro e w4 ⟨rfl, q4⟩
  have u0 := (q4.cell (p := ⟨w1.heap.size, 0, none⟩) (cell_lt x0)).trans x0
  have u1 := (q4.cell (p := ⟨w2.heap.size, 0, none⟩) (cell_lt y0)).trans y0
  clear x0 x1 y0 y1
  go_wp2
  go_ret
  exact ⟨rfl, below_trans (below_trans (below_trans (below_trans q1 qb) q2) q23) q4⟩

/-! ### The first example -/
def firstOp : OpD := ⟨1, 0, ⟨#[2, 0, 0, 0, 0, 1]⟩, ⟨#[10, 0, 0, 1]⟩⟩
set_option maxHeartbeats 1000000 in
theorem lFirst (w : World) :
    Calls Tryd.prog 8 #[] w fun e w' => ∃ b, e = .returned (.agg #[.int .u64 1, .slice (some ⟨b, 0, none⟩) 1 1]) ∧ OpsIn w' (some ⟨b, 0, none⟩) [firstOp] ∧ Below w.heap.size w w' := by
  go_enter Tryd.func8, Tryd.ntmps8
  go_wp2
  refine bodyPost_ret (v := .agg #[.int .u64 1, .slice (some ⟨w.heap.size + 1, 0, none⟩) 1 1]) (by simp [results, Tryd.results8, go_sem]) rfl ⟨w.heap.size + 1, rfl, fun _ => ⟨w.heap.size + 1, 0, rfl, by simp, ?_⟩, below_trans (below_alloc _ _) (below_alloc _ _)⟩
  have h0 : ∀ i, i < [firstOp].length → i = 0 := fun i h => by simpa using h
  refine ⟨fun i h => ?_, fun i h => ?_, fun i h => ?_, fun i h => ?_⟩
  all_goals
    obtain rfl := h0 i h
    simp [firstOp]
set_option maxHeartbeats 1000000 in
theorem lPick (c : Int) (n : Nat) (w : World) (hc : -9223372036854775808 ≤ c ∧ c ≤ 9223372036854775807) (hn : 0 < n) (hn' : n ≤ 1000) :
    Calls Tryd.prog 11 #[.int .i64 c, .int .i64 n] w fun e w' => ∃ k : Nat, k < n ∧ e = .returned (.int .i64 k) ∧ w' = w := by
  by_cases h : c < 0
  · go_enter Tryd.func11, Tryd.ntmps11
    go_wp2
    go_ret
    have e1 : -((c + 1).tmod (n : Int)) = (-(c + 1)) % (n : Int) := by rw [← Int.neg_tmod, Int.tmod_eq_emod_of_nonneg (by omega)]
    have e2 := Int.emod_nonneg (-(c + 1)) (show (n : Int) ≠ 0 by omega)
    have e3 := Int.emod_lt_of_pos (-(c + 1)) (show (0 : Int) < (n : Int) by omega)
    exact ⟨((-(c + 1)) % (n : Int)).toNat, by omega, by rw [e1, Int.toNat_of_nonneg e2]; rfl, rfl⟩
  · go_enter Tryd.func11, Tryd.ntmps11
    go_wp2
    go_ret
    have e2 := Int.emod_nonneg c (show (n : Int) ≠ 0 by omega)
    have e3 := Int.emod_lt_of_pos c (show (0 : Int) < (n : Int) by omega)
    exact ⟨(c % (n : Int)).toNat, by omega, by rw [Int.toNat_of_nonneg e2]; rfl, rfl⟩
end Go.Proofs.YtindifjhocgkbaaDoor
