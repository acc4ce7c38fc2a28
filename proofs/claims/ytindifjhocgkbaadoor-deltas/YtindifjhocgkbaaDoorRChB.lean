import Derived.Test.YtindifjhocgkbaaDoorRCh
namespace Go.Proofs.YtindifjhocgkbaaDoor
open Go.RowKit

theorem rChange {w : World} {s : ByteArray} {e : Nat} {ao : Option Addr} {cap' : Nat} {l : List OpD} (hz : (s.size : Int) ≤ 9223372036854775000) (he : e ≤ s.size) (ho : OpsIn w ao l) (hl : l.length ≤ 8) :
    Calls Tryd.prog 38 #[.string s, .int .i64 (e : Int), .slice ao l.length cap'] w fun ev w' =>
      ((∃ k a, chg s e l = .error (k, a) ∧ 1 ≤ k ∧ ∃ o : OpD, ev = .returned (.tuple #[.agg #[.int .i64 o.kind, .int .i64 o.table, .string o.key, .string o.val], .int .i64 0, .agg #[.int .i64 k, .int .i64 a]])) ∨
      (∃ (o : OpD) (e' : Nat), chg s e l = .ok (o, e') ∧ e' ≤ s.size ∧ ev = .returned (.tuple #[.agg #[.int .i64 o.kind, .int .i64 o.table, .string o.key, .string o.val], .int .i64 (e' : Int), .agg #[.int .i64 0, .int .i64 0]]))) ∧ Below w.heap.size w w' := by
  by_cases c1 : s.size < e + 2
  · refine (rch_short hz he ho hl c1).mono ?_
    rintro ev w' ⟨o, h1, h2⟩
    exact ⟨.inl ⟨_, _, by rw [chg, if_pos c1], by decide, o, h1⟩, h2⟩
  cases c2 : kindB (bt s e) (bt s (e + 1))
  · have h0 := bt_lo s (e + 1)
    have n2 := kindB_out c2
    have main : Calls Tryd.prog 38 #[.string s, .int .i64 (e : Int), .slice ao l.length cap'] w fun ev w' => ∃ o : OpD, ev = .returned (.tuple #[.agg #[.int .i64 o.kind, .int .i64 o.table, .string o.key, .string o.val], .int .i64 0, .agg #[.int .i64 6, .int .i64 (e : Int)]]) ∧ Below w.heap.size w w' := by
      by_cases d1 : bt s e < 1
      · exact rch_kind0 hz he ho hl (by omega) d1
      by_cases d2 : 2 < bt s e
      · exact rch_kind3 hz he ho hl (by omega) (by omega) d2
      exact rch_kindt hz he ho hl (by omega) (by omega) (by omega) (by omega)
    refine main.mono ?_
    rintro ev w' ⟨o, h1, h2⟩
    exact ⟨.inl ⟨_, _, by rw [chg, if_neg c1, if_pos c2], by decide, o, h1⟩, h2⟩
  have n2 : ¬ kindB (bt s e) (bt s (e + 1)) = false := by rw [c2]; simp
  obtain ⟨hk12, ht0, ht3⟩ := kindB_in c2
  have hkb := kbN_bd (bt s (e + 1))
  have hvb := vbN_bd (bt s (e + 1))
  obtain ⟨k, hk⟩ : ∃ k : Nat, kbN (bt s (e + 1)) = (k : Int) := ⟨(kbN (bt s (e + 1))).toNat, by omega⟩
  obtain ⟨m, hm⟩ : ∃ m : Nat, vbN (bt s (e + 1)) = (m : Int) := ⟨(vbN (bt s (e + 1))).toNat, by omega⟩
  have kk : (kbN (bt s (e + 1))).toNat = k := by omega
  have mm : (vbN (bt s (e + 1))).toNat = m := by omega
  by_cases c3 : s.size < e + 2 + k
  · refine (rch_kshort hz he ho hl (by omega) (by omega) (by omega) (by omega) hk hm c3).mono ?_
    rintro ev w' ⟨o, h1, h2⟩
    exact ⟨.inl ⟨_, _, by rw [chg, kk, mm, if_neg c1, if_neg n2, if_pos c3], by decide, o, h1⟩, h2⟩
  cases c4 : keyB (bt s (e + 1)) (s.extract (e + 2) (e + 2 + k))
  · refine (rch_kbad hz he ho hl (by omega) (by omega) (by omega) (by omega) hk hm (by omega) c4).mono ?_
    rintro ev w' ⟨o, h1, h2⟩
    exact ⟨.inl ⟨_, _, by rw [chg, kk, mm, if_neg c1, if_neg n2, if_neg c3, if_pos c4], by decide, o, h1⟩, h2⟩
  have n4 : ¬ keyB (bt s (e + 1)) (s.extract (e + 2) (e + 2 + k)) = false := by rw [c4]; simp
  cases c5 : l.any (sameKey (bt s (e + 1)) (s.extract (e + 2) (e + 2 + k)))
  rotate_left
  · refine (rch_twice hz he ho hl (by omega) (by omega) (by omega) (by omega) hk hm (by omega) c4 c5).mono ?_
    rintro ev w' ⟨o, h1, h2⟩
    exact ⟨.inl ⟨_, _, by rw [chg, kk, mm, if_neg c1, if_neg n2, if_neg c3, if_neg n4, if_pos c5], by decide, o, h1⟩, h2⟩
  have n5 : ¬ l.any (sameKey (bt s (e + 1)) (s.extract (e + 2) (e + 2 + k))) = true := by rw [c5]; simp
  rcases hk12 with k1 | k2
  rotate_left
  · refine (rch_drop hz he ho hl (by omega) (by omega) (by omega) (by omega) hk hm (by omega) c4 c5 k2).mono ?_
    rintro ev w' ⟨h1, h2⟩
    exact ⟨.inr ⟨⟨2, bt s (e + 1), s.extract (e + 2) (e + 2 + k), ⟨#[]⟩⟩, _, by rw [chg, kk, mm, if_neg c1, if_neg n2, if_neg c3, if_neg n4, if_neg n5, if_pos k2], by omega, h1⟩, h2⟩
  have n6 : ¬ bt s e = 2 := by omega
  by_cases c7 : s.size < e + 2 + k + m
  · refine (rch_vshort hz he ho hl (by omega) (by omega) (by omega) (by omega) hk hm (by omega) c4 c5 k1 c7).mono ?_
    rintro ev w' ⟨o, h1, h2⟩
    exact ⟨.inl ⟨_, _, by rw [chg, kk, mm, if_neg c1, if_neg n2, if_neg c3, if_neg n4, if_neg n5, if_neg n6, if_pos c7], by decide, o, h1⟩, h2⟩
  cases c8 : valB (bt s (e + 1)) (s.extract (e + 2 + k) (e + 2 + k + m))
  · refine (rch_vbad hz he ho hl (by omega) (by omega) (by omega) (by omega) hk hm (by omega) c4 c5 k1 (by omega) c8).mono ?_
    rintro ev w' ⟨o, h1, h2⟩
    exact ⟨.inl ⟨_, _, by rw [chg, kk, mm, if_neg c1, if_neg n2, if_neg c3, if_neg n4, if_neg n5, if_neg n6, if_neg c7, if_pos c8], by decide, o, h1⟩, h2⟩
  have n8 : ¬ valB (bt s (e + 1)) (s.extract (e + 2 + k) (e + 2 + k + m)) = false := by rw [c8]; simp
  refine (rch_put hz he ho hl (by omega) (by omega) (by omega) (by omega) hk hm (by omega) c4 c5 k1 (by omega) c8).mono ?_
  rintro ev w' ⟨h1, h2⟩
  exact ⟨.inr ⟨⟨1, bt s (e + 1), s.extract (e + 2) (e + 2 + k), s.extract (e + 2 + k) (e + 2 + k + m)⟩, _, by rw [chg, kk, mm, if_neg c1, if_neg n2, if_neg c3, if_neg n4, if_neg n5, if_neg n6, if_neg c7, if_neg n8, k1], by omega, h1⟩, h2⟩
end Go.Proofs.YtindifjhocgkbaaDoor
