import Derived.Test.YtindifjhocgkbaaGreatDoorEnt
import Derived.Test.YtindifjhocgkbaaGreatDoorWrg
namespace Go.Proofs.YtindifjhocgkbaaGreatDoor
open Go.RowKit

theorem ErrIs.cases0 {w : World} {x : Value} {k a : Int} (h : ErrIs w x k a) : (k = 0 ∧ x = .nilIface) ∨ (k ≠ 0 ∧ ∃ b, x = .iface 133 (.pointer (some ⟨b, 0, none⟩))) := by
  rcases h with ⟨rfl, _, rfl⟩ | ⟨h1, h2, b, rfl, _⟩
  · exact .inl ⟨rfl, rfl⟩
  · exact .inr ⟨by omega, b, rfl⟩
end Go.Proofs.YtindifjhocgkbaaGreatDoor
