import Derived.Test.YtindifjhocgkbaaDoorRowL
import Derived.Test.YtindifjhocgkbaaDoorCards
import Derived.Test.YtindifjhocgkbaaDoorTie
import Derived.SevenTiedAt
namespace Go.Proofs.YtindifjhocgkbaaDoor
open Go

theorem longest_params (j : Nat) (t : TypeId) (ht : #[36, 3][j]? = some t) : Tryd.prog.wantsStandIn t = false := by
  have h : t = 36 ∨ t = 3 := by
    rcases j with _ | _ | j
    · exact .inl (by simpa using ht.symm)
    · exact .inr (by simpa using ht.symm)
    · simp at ht
  rcases h with rfl | rfl
  · exact (show Tryd.prog.wantsStandIn 36 = false by kernel_rfl)
  · exact (show Tryd.prog.wantsStandIn 3 = false by kernel_rfl)
theorem longest_card_holds : Rows.LongestCardSaid :=
  Claim7.holds_tied_plain_at .later [] [.handle, .data, .data] true (true, "44042674db2ab399d4a8d780b039f0e8d1339858249b414fc5790fec372d7dcb") true
    longest_holds (fun _ h => by cases h) (by kernel_rfl) (fun _ h => by cases h) longest_row_tie rfl ⟨rfl, rfl⟩ (by kernel_rfl) rfl
    (fun f fn hf hfn => by
      obtain rfl : f = 6 := Option.some.inj ((show Tryd.prog.funcNamed "overlay/overlaykeep.Longest" = some 6 by kernel_rfl).symm.trans hf) |>.symm
      obtain rfl : fn = Tryd.f6 := (Option.some.inj (Tryd.func6.symm.trans hfn)).symm
      exact ⟨by kernel_rfl, fun j t ht => by
        rw [Tryd.params6] at ht
        exact longest_params j t ht⟩)
    (by kernel_rfl)
#print axioms longest_card_holds
end Go.Proofs.YtindifjhocgkbaaDoor
