import Derived.Test.YtindifjhocgkbaaDoorChg
import Derived.Test.YtindifjhocgkbaaDoorDon
import Derived.Test.YtindifjhocgkbaaDoorPEncB
namespace Go.Proofs.YtindifjhocgkbaaDoor
open Go.RowKit

theorem rdChange {w : World} {s : ByteArray} {R B cap b e : Nat} {ao : Option Addr} {cap' : Nat} {l : List OpD} (h : Rdr w s R B cap b e) (g : Glob w) (hR : 2 < R) (ho : OpsIn w ao l) (hno : ∀ a, ao = some a → a.block ≠ R) (hl : l.length ≤ 8) :
    Calls Tryd.prog 78 #[.pointer (some ⟨R, 0, none⟩), .slice ao l.length cap'] w fun ev w' =>
      (∃ k a, chg s e l = .error (k, a) ∧ ∃ (fb : Nat) (o : OpD), w.heap.size ≤ fb ∧ ev = .returned (.tuple #[.agg #[.int .i64 o.kind, .int .i64 o.table, .string o.key, .string o.val], .iface 100 (.pointer (some ⟨fb, 0, none⟩))]) ∧ ErrIs w' (.iface 100 (.pointer (some ⟨fb, 0, none⟩))) k a ∧ w.grownBy w' (some R)) ∨
      (∃ (o : OpD) (e' : Nat), chg s e l = .ok (o, e') ∧ ev = .returned (.tuple #[.agg #[.int .i64 o.kind, .int .i64 o.table, .string o.key, .string o.val], .nilIface]) ∧ (∃ b', Rdr w' s R B cap b' e') ∧ w.grownBy w' (some R)) := by
  by_cases c1 : s.size < e + 2
  · refine (chg_short h g hR ho hno hl c1).mono ?_
    rintro ev w' ⟨fb, h1, h2, h3, h4⟩
    exact .inl ⟨_, _, by rw [chg, if_pos c1], fb, ⟨0, 0, ⟨#[]⟩, ⟨#[]⟩⟩, h1, h2, h3, h4⟩
  cases c2 : kindB (bt s e) (bt s (e + 1))
  · refine (chg_kind h g hR ho hno hl (by omega) c2).mono ?_
    rintro ev w' ⟨fb, h1, h2, h3, h4⟩
    exact .inl ⟨_, _, by rw [chg, if_neg c1, if_pos c2], fb, ⟨0, 0, ⟨#[]⟩, ⟨#[]⟩⟩, h1, h2, h3, h4⟩
  have n2 : ¬ kindB (bt s e) (bt s (e + 1)) = false := by rw [c2]; simp
  by_cases c3 : s.size < e + 2 + (kbN (bt s (e + 1))).toNat
  · refine (chg_kshort h g hR ho hno hl (by omega) c2 c3).mono ?_
    rintro ev w' ⟨fb, h1, h2, h3, h4⟩
    exact .inl ⟨_, _, by rw [chg, if_neg c1, if_neg n2, if_pos c3], fb, ⟨0, 0, ⟨#[]⟩, ⟨#[]⟩⟩, h1, h2, h3, h4⟩
  cases c4 : keyB (bt s (e + 1)) (s.extract (e + 2) (e + 2 + (kbN (bt s (e + 1))).toNat))
  · refine (chg_kbad h g hR ho hno hl (by omega) c2 (by omega) c4).mono ?_
    rintro ev w' ⟨fb, h1, h2, h3, h4⟩
    exact .inl ⟨_, _, by rw [chg, if_neg c1, if_neg n2, if_neg c3, if_pos c4], fb, ⟨0, 0, ⟨#[]⟩, ⟨#[]⟩⟩, h1, h2, h3, h4⟩
  have n4 : ¬ keyB (bt s (e + 1)) (s.extract (e + 2) (e + 2 + (kbN (bt s (e + 1))).toNat)) = false := by rw [c4]; simp
  cases c5 : l.any (sameKey (bt s (e + 1)) (s.extract (e + 2) (e + 2 + (kbN (bt s (e + 1))).toNat)))
  rotate_left
  · refine (chg_twice h g hR ho hno hl (by omega) c2 (by omega) c4 c5).mono ?_
    rintro ev w' ⟨fb, h1, h2, h3, h4⟩
    exact .inl ⟨_, _, by rw [chg, if_neg c1, if_neg n2, if_neg c3, if_neg n4, if_pos c5], fb, ⟨0, 0, ⟨#[]⟩, ⟨#[]⟩⟩, h1, h2, h3, h4⟩
  have n5 : ¬ l.any (sameKey (bt s (e + 1)) (s.extract (e + 2) (e + 2 + (kbN (bt s (e + 1))).toNat))) = true := by rw [c5]; simp
  rcases (kindB_in c2).1 with k1 | k2
  rotate_left
  · refine (chg_drop h g hR ho hno hl (by omega) c2 (by omega) c4 c5 k2).mono ?_
    rintro ev w' ⟨h1, h2, h3⟩
    exact .inr ⟨⟨2, bt s (e + 1), s.extract (e + 2) (e + 2 + (kbN (bt s (e + 1))).toNat), ⟨#[]⟩⟩, _, by rw [chg, if_neg c1, if_neg n2, if_neg c3, if_neg n4, if_neg n5, if_pos k2], h1, h2, h3⟩
  have n6 : ¬ bt s e = 2 := by omega
  by_cases c7 : s.size < e + 2 + (kbN (bt s (e + 1))).toNat + (vbN (bt s (e + 1))).toNat
  · refine (chg_vshort h g hR ho hno hl (by omega) c2 (by omega) c4 c5 k1 c7).mono ?_
    rintro ev w' ⟨fb, h1, h2, h3, h4⟩
    exact .inl ⟨_, _, by rw [chg, if_neg c1, if_neg n2, if_neg c3, if_neg n4, if_neg n5, if_neg n6, if_pos c7], fb, ⟨1, bt s (e + 1), s.extract (e + 2) (e + 2 + (kbN (bt s (e + 1))).toNat), ⟨#[]⟩⟩, h1, h2, h3, h4⟩
  cases c8 : valB (bt s (e + 1)) (s.extract (e + 2 + (kbN (bt s (e + 1))).toNat) (e + 2 + (kbN (bt s (e + 1))).toNat + (vbN (bt s (e + 1))).toNat))
  · refine (chg_vbad h g hR ho hno hl (by omega) c2 (by omega) c4 c5 k1 (by omega) c8).mono ?_
    rintro ev w' ⟨fb, h1, h2, h3, h4⟩
    exact .inl ⟨_, _, by rw [chg, if_neg c1, if_neg n2, if_neg c3, if_neg n4, if_neg n5, if_neg n6, if_neg c7, if_pos c8], fb, ⟨1, bt s (e + 1), s.extract (e + 2) (e + 2 + (kbN (bt s (e + 1))).toNat), ⟨#[]⟩⟩, h1, h2, h3, h4⟩
  have n8 : ¬ valB (bt s (e + 1)) (s.extract (e + 2 + (kbN (bt s (e + 1))).toNat) (e + 2 + (kbN (bt s (e + 1))).toNat + (vbN (bt s (e + 1))).toNat)) = false := by rw [c8]; simp
  refine (chg_put h g hR ho hno hl (by omega) c2 (by omega) c4 c5 k1 (by omega) c8).mono ?_
  rintro ev w' ⟨h1, h2, h3⟩
  exact .inr ⟨⟨1, bt s (e + 1), s.extract (e + 2) (e + 2 + (kbN (bt s (e + 1))).toNat), s.extract (e + 2 + (kbN (bt s (e + 1))).toNat) (e + 2 + (kbN (bt s (e + 1))).toNat + (vbN (bt s (e + 1))).toNat)⟩, _, by rw [chg, if_neg c1, if_neg n2, if_neg c3, if_neg n4, if_neg n5, if_neg n6, if_neg c7, if_neg n8, k1], h1, h2, h3⟩

def chgs (s : ByteArray) : Nat → Nat → List OpD → Except (Int × Int) (List OpD × Nat)
  | 0, e, l => .ok (l, e)
  | n + 1, e, l => match chg s e l with
    | .error f => .error f
    | .ok (o, e') => chgs s n e' (l ++ [o])

end Go.Proofs.YtindifjhocgkbaaDoor
