import Derived.Test.YtindifjhocgkbaaGreatDoorApt
import Derived.Test.YtindifjhocgkbaaGreatDoorItD
namespace Go.Proofs.YtindifjhocgkbaaGreatDoor
open Go.RowKit

set_option maxRecDepth 10000 in
set_option maxHeartbeats 2000000 in
theorem kSame (xa xb : Value) (es : List En) (hlen : es.length ≤ 1000000) (w : World) (ha : EnsIn w xa es) (hb : EnsIn w xb es) :
    Calls Tryz.prog 24 #[xa, xb] w fun e w' => e = .returned (.bool true) ∧ Below w.heap.size w w' := by
  rcases ha with ⟨rfl, rfl⟩ | ⟨ba, oa, ca, rfl, hba, haa⟩
  · rcases hb with ⟨rfl, _⟩ | ⟨bb, ob, cb, rfl, hbb, hab⟩
    all_goals
      go_enter Tryz.func24, Tryz.ntmps24
      go_wp2_with fail
      go_loopw [5] (fun i wr => i = .int .i64 0 ∧ wr = w) (fun _ _ => 0)
      case atStart => exact ⟨rfl, rfl⟩
      case round =>
        obtain ⟨rfl, rfl⟩ := hrel
        go_wp2
        go_ret
        exact ⟨rfl, Below.refl _ _⟩
  · rcases hb with ⟨rfl, rfl⟩ | ⟨bb, ob, cb, rfl, hbb, hab⟩
    · go_enter Tryz.func24, Tryz.ntmps24
      go_wp2_with fail
      go_loopw [5] (fun i wr => i = .int .i64 0 ∧ wr = w) (fun _ _ => 0)
      case atStart => exact ⟨rfl, rfl⟩
      case round =>
        obtain ⟨rfl, rfl⟩ := hrel
        go_wp2
        go_ret
        exact ⟨rfl, Below.refl _ _⟩
    · go_enter Tryz.func24, Tryz.ntmps24
      go_wp2_with fail
      go_loopw [5] (fun i wr => ∃ k : Nat, k ≤ es.length ∧ i = .int .i64 k ∧ Below w.heap.size w wr) (fun i _ => es.length - (intOf i).toNat)
      case atStart => exact ⟨0, Nat.zero_le _, rfl, Below.refl _ _⟩
      case round =>
        obtain ⟨k, hk, rfl, hq⟩ := hrel
        by_cases hlt : k < es.length
        · have a0 := (haa.keep hba hq).c0 k hlt
          have a1 := (haa.keep hba hq).c1 k hlt
          have a2 := (haa.keep hba hq).c2 k hlt
          have b0 := (hab.keep hbb hq).c0 k hlt
          have b1 := (hab.keep hbb hq).c1 k hlt
          have b2 := (hab.keep hbb hq).c2 k hlt
          have il : ((k : Nat) : Int) < (es.length : Int) := by omega
          generalize es[k].t = t at *
          generalize es[k].k = ky at *
          generalize es[k].v = vy at *
          go_wp2_with fail
          go_quiet (fail)
          go_wp2_with fail
          go_roundw
          case rel => exact ⟨k + 1, by omega, by go_num, below_trans hq (below_drawn _ _)⟩
          case measure => simp [intOf]; omega
        · obtain rfl : k = es.length := by omega
          go_wp2
          go_ret
          exact ⟨rfl, hq⟩
end Go.Proofs.YtindifjhocgkbaaGreatDoor
