import Derived.Test.YtindifjhocgkbaaDoorRowP
import Derived.Test.YtindifjhocgkbaaDoorCards
import Derived.Test.YtindifjhocgkbaaDoorTie
import Derived.SevenTiedAt
namespace Go.Proofs.YtindifjhocgkbaaDoor
open Go

theorem apart_params (j : Nat) (t : TypeId) (ht : #[36, 36, 36][j]? = some t) : Tryd.prog.wantsStandIn t = false := by
  have h : t = 36 := by
    rcases j with _ | _ | _ | j
    · simpa using ht.symm
    · simpa using ht.symm
    · simpa using ht.symm
    · simp at ht
  subst h
  exact (show Tryd.prog.wantsStandIn 36 = false by kernel_rfl)
theorem apart_card_holds : Rows.ApartCardSaid :=
  Claim7.holds_tied_plain_at .later [] [.handle, .data, .data] true (true, "44042674db2ab399d4a8d780b039f0e8d1339858249b414fc5790fec372d7dcb") true
    apart_holds (fun _ h => by cases h) (by kernel_rfl) (fun _ h => by cases h) apart_row_tie rfl ⟨rfl, rfl⟩ (by kernel_rfl) rfl
    (fun f fn hf hfn => by
      obtain rfl : f = 5 := Option.some.inj ((show Tryd.prog.funcNamed "overlay/overlaykeep.Apart" = some 5 by kernel_rfl).symm.trans hf) |>.symm
      obtain rfl : fn = Tryd.f5 := (Option.some.inj (Tryd.func5.symm.trans hfn)).symm
      exact ⟨by kernel_rfl, fun j t ht => by
        rw [Tryd.params5] at ht
        exact apart_params j t ht⟩)
    (by kernel_rfl)
#print axioms apart_card_holds
end Go.Proofs.YtindifjhocgkbaaDoor
