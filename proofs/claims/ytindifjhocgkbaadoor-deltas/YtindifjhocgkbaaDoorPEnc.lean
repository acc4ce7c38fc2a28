import Derived.Test.YtindifjhocgkbaaDoorEncC
import Derived.Test.YtindifjhocgkbaaDoorOpC
import Derived.Test.YtindifjhocgkbaaDoorParts
import Derived.Laws.AppendOwnNone
namespace Go.Proofs.YtindifjhocgkbaaDoor
open Go.RowKit

/-- What Encode answers: nothing and the fault, or the bytes. -/
def EncIs (w0 w : World) (v : Int) (l : List OpD) (b x : Value) : Prop :=
  ((wrongD v l).1 ≠ 0 ∧ b = .slice none 0 0 ∧ ErrIs w x (wrongD v l).1 (wrongD v l).2) ∨ ((wrongD v l).1 = 0 ∧ x = .nilIface ∧ w.ownsRow w0.heap.size 5 1 b (encV v l).length (encV v l))

theorem wEncode (v : Int) (ao : Option Addr) (cap : Nat) (l : List OpD) (w : World) (h0 : 0 ≤ v) (hcap : l.length ≤ cap) (ho : OpsIn w ao l) (g : Glob w) :
    Calls Tryd.prog 41 #[.agg #[.int .u64 v, .slice ao l.length cap]] w fun e w' => ∃ b x, e = .returned (.tuple #[b, x]) ∧ EncIs w w' v l b x ∧ Below w.heap.size w w' := by
  by_cases hk : (wrongD v l).1 = 0
  · refine (wEncode_ok v ao cap l w h0 hcap ho g hk).mono ?_
    rintro e w' ⟨b, rfl, h, q⟩
    exact ⟨b, _, rfl, .inr ⟨hk, rfl, own_mono h (by omega)⟩, q⟩
  · refine (wEncode_no v ao cap l w h0 hcap ho g hk).mono ?_
    rintro e w' ⟨x, rfl, h, q⟩
    exact ⟨_, x, rfl, .inl ⟨hk, rfl, h⟩, q⟩

set_option maxHeartbeats 1000000 in
theorem oEncode (v : Int) (ao : Option Addr) (cap : Nat) (l : List OpD) (w : World) (h0 : 0 ≤ v) (hcap : l.length ≤ cap) (ho : OpsIn w ao l) (g : Glob w) :
    Calls Tryd.prog 28 #[.agg #[.int .u64 v, .slice ao l.length cap]] w fun e w' => ∃ b x, e = .returned (.tuple #[b, x]) ∧ EncIs w w' v l b x ∧ Below w.heap.size w w' := by
  have gA : ∀ x, Glob (w.alloc x) := fun x => g.keep (below_alloc w x)
  have oA : ∀ x, OpsIn (w.alloc x) ao l := fun x => ho.keep (below_alloc w x)
  go_enter Tryd.func28, Tryd.ntmps28
  go_wp2_with fail
  refine (wEncode v ao cap l _ h0 hcap (oA _) (gA _)).mono ?_
  rintro e w1 ⟨b, x, rfl, hx, q1⟩
  go_wp2
  go_ret2
  refine ⟨b, x, rfl, ?_, below_trans (below_alloc _ _) q1⟩
  rcases hx with h | ⟨h1, h2, h3⟩
  · exact .inl h
  · exact .inr ⟨h1, h2, own_mono h3 (by simp)⟩
end Go.Proofs.YtindifjhocgkbaaDoor
