import Derived.Test.YtokckapacdpgaaaGreatDoorRowQ
import Derived.Test.YtokckapacdpgaaaGreatDoorCards
import Derived.Test.YtokckapacdpgaaaGreatDoorTie
import Derived.SevenTiedAt
namespace Go.Proofs.YtokckapacdpgaaaGreatDoor
open Go

theorem ordered_params (j : Nat) (t : TypeId) (ht : #[3, 24, 9][j]? = some t) : Tryz.prog.wantsStandIn t = false := by
  have h : t = 3 ∨ t = 24 ∨ t = 9 := by
    rcases j with _ | _ | _ | j
    · exact .inl (by simpa using ht.symm)
    · exact .inr (.inl (by simpa using ht.symm))
    · exact .inr (.inr (by simpa using ht.symm))
    · simp at ht
  rcases h with rfl | rfl | rfl
  · exact (show Tryz.prog.wantsStandIn 3 = false by kernel_rfl)
  · exact (show Tryz.prog.wantsStandIn 24 = false by kernel_rfl)
  · exact (show Tryz.prog.wantsStandIn 9 = false by kernel_rfl)
theorem ordered_card_holds : Rows.OrderedCardSaid :=
  Claim7.holds_tied_plain_at .later [] [.handle, .data, .data] true (true, "7032ff78ad936286d9c9317cf9215b770f5aea82d39f906516377a1f61fb3bfe") true
    ordered_holds (fun _ h => by cases h) (by kernel_rfl) (fun _ h => by cases h) ordered_row_tie rfl ⟨rfl, rfl⟩ (by kernel_rfl) rfl
    (fun f fn hf hfn => by
      obtain rfl : f = 5 := Option.some.inj ((show Tryz.prog.funcNamed "overlay/overlaykeep.Ordered" = some 5 by kernel_rfl).symm.trans hf) |>.symm
      obtain rfl : fn = Tryz.f5 := (Option.some.inj (Tryz.func5.symm.trans hfn)).symm
      exact ⟨by kernel_rfl, fun j t ht => by
        rw [Tryz.params5] at ht
        exact ordered_params j t ht⟩)
    (by kernel_rfl)
#print axioms ordered_card_holds
end Go.Proofs.YtokckapacdpgaaaGreatDoor
