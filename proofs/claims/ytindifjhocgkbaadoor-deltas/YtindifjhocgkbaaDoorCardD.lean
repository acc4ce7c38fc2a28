import Derived.Test.YtindifjhocgkbaaDoorRowD
import Derived.Test.YtindifjhocgkbaaDoorCards
import Derived.Test.YtindifjhocgkbaaDoorTie
import Derived.SevenTiedAt
namespace Go.Proofs.YtindifjhocgkbaaDoor
open Go

theorem deltas_params (j : Nat) (t : TypeId) (ht : #[25, 9, 3, 3][j]? = some t) : Tryd.prog.wantsStandIn t = false := by
  have h : t = 25 ∨ t = 9 ∨ t = 3 := by
    rcases j with _ | _ | _ | _ | j
    · exact .inl (by simpa using ht.symm)
    · exact .inr (.inl (by simpa using ht.symm))
    · exact .inr (.inr (by simpa using ht.symm))
    · exact .inr (.inr (by simpa using ht.symm))
    · simp at ht
  rcases h with rfl | rfl | rfl
  · exact (show Tryd.prog.wantsStandIn 25 = false by kernel_rfl)
  · exact (show Tryd.prog.wantsStandIn 9 = false by kernel_rfl)
  · exact (show Tryd.prog.wantsStandIn 3 = false by kernel_rfl)
theorem deltas_card_holds : Rows.DeltasCardSaid :=
  Claim7.holds_tied_plain_at .later [] [.handle, .data, .data] true (true, "44042674db2ab399d4a8d780b039f0e8d1339858249b414fc5790fec372d7dcb") true
    deltas_holds (fun _ h => by cases h) (by kernel_rfl) (fun _ h => by cases h) deltas_row_tie rfl ⟨rfl, rfl⟩ (by kernel_rfl) rfl
    (fun f fn hf hfn => by
      obtain rfl : f = 3 := Option.some.inj ((show Tryd.prog.funcNamed "overlay/overlaylaw.Deltas" = some 3 by kernel_rfl).symm.trans hf) |>.symm
      obtain rfl : fn = Tryd.f3 := (Option.some.inj (Tryd.func3.symm.trans hfn)).symm
      exact ⟨by kernel_rfl, fun j t ht => by
        rw [Tryd.params3] at ht
        exact deltas_params j t ht⟩)
    (by kernel_rfl)
#print axioms deltas_card_holds
end Go.Proofs.YtindifjhocgkbaaDoor
