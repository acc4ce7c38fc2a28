import Derived.Test.YtindifjhocgkbaaDoorRowC
import Derived.Test.YtindifjhocgkbaaDoorCards
import Derived.Test.YtindifjhocgkbaaDoorTie
import Derived.SevenTiedAt
namespace Go.Proofs.YtindifjhocgkbaaDoor
open Go

theorem canonical_params (j : Nat) (t : TypeId) (ht : #[3, 36, 9][j]? = some t) : Tryd.prog.wantsStandIn t = false := by
  have h : t = 3 ∨ t = 36 ∨ t = 9 := by
    rcases j with _ | _ | _ | j
    · exact .inl (by simpa using ht.symm)
    · exact .inr (.inl (by simpa using ht.symm))
    · exact .inr (.inr (by simpa using ht.symm))
    · simp at ht
  rcases h with rfl | rfl | rfl
  · exact (show Tryd.prog.wantsStandIn 3 = false by kernel_rfl)
  · exact (show Tryd.prog.wantsStandIn 36 = false by kernel_rfl)
  · exact (show Tryd.prog.wantsStandIn 9 = false by kernel_rfl)
theorem canonical_card_holds : Rows.CanonicalCardSaid :=
  Claim7.holds_tied_plain_at .later [] [.handle, .data, .data] true (true, "44042674db2ab399d4a8d780b039f0e8d1339858249b414fc5790fec372d7dcb") true
    canonical_holds (fun _ h => by cases h) (by kernel_rfl) (fun _ h => by cases h) canonical_row_tie rfl ⟨rfl, rfl⟩ (by kernel_rfl) rfl
    (fun f fn hf hfn => by
      obtain rfl : f = 4 := Option.some.inj ((show Tryd.prog.funcNamed "overlay/overlaykeep.Canonical" = some 4 by kernel_rfl).symm.trans hf) |>.symm
      obtain rfl : fn = Tryd.f4 := (Option.some.inj (Tryd.func4.symm.trans hfn)).symm
      exact ⟨by kernel_rfl, fun j t ht => by
        rw [Tryd.params4] at ht
        exact canonical_params j t ht⟩)
    (by kernel_rfl)
#print axioms canonical_card_holds
end Go.Proofs.YtindifjhocgkbaaDoor
