import Derived.Test.YtindifjhocgkbaaGreatDoorItB
namespace Go.Proofs.YtindifjhocgkbaaGreatDoor
open Go.RowKit Go.Shelf

theorem lSize (v : Value) (es : List En) (hlen : es.length ≤ 1000000) (w : World) (hI : EnsIn w v es) :
    Calls Tryz.prog 100 #[v] w fun e W' => e = .returned (.int .i64 (szW es)) ∧ Below w.heap.size w W' := by
  obtain ⟨a, len, cap, rfl⟩ : ∃ a len cap, v = .slice a len cap := by rcases hI with ⟨rfl, _⟩ | ⟨b, off, cap, rfl, _⟩ <;> exact ⟨_, _, _, rfl⟩
  exact (callsIn_wide (n := 3)).1 (lSize_in Fence.wide 3 trivial trivial trivial rfl (by omega) a len cap es hlen w hI)
theorem lAll (a : Option Addr) (len cap : Nat) (w : World) :
    Calls Tryz.prog 81 #[.slice a len cap] w fun e w' => e = .returned (.func (.func 107) #[] #[.pointer (some ⟨w.heap.size, 0, none⟩)]) ∧ w' = w.alloc (.cells #[.slice a len cap] 112) :=
  (callsIn_wide (n := 3)).1 (all_in Fence.wide 3 trivial rfl a len cap w)
set_option maxHeartbeats 1000000 in
theorem tSize (T : Nat) (l : List En) (w : World) (h : TabIs w T l) (hn : l.length ≤ 1000000) :
    Calls Tryz.prog 70 #[.pointer (some ⟨T, 0, none⟩)] w fun e w' => e = .returned (.int .i64 (szW l)) ∧ Below w.heap.size w w' := by
  obtain ⟨v, hb, ho⟩ := h.blk
  have tc : w.cell? ⟨T, 0, none⟩ = some v := by simp [World.cell?, hb]
  go_enter Tryz.func70, Tryz.ntmps70
  go_wp2_with fail
  refine (lSize v l hn _ (EnsIn.of_owns ho)).mono ?_
  rintro e w1 ⟨rfl, q1⟩
  go_wp2
  go_ret
  exact ⟨rfl, q1⟩
set_option maxHeartbeats 1000000 in
theorem fSize (F T : Nat) (l : List En) (w : World) (hF : w.cell? ⟨F, 0, none⟩ = some (.pointer (some ⟨T, 0, none⟩))) (h : TabIs w T l) (hn : l.length ≤ 1000000) :
    Calls Tryz.prog 39 #[.pointer (some ⟨F, 0, none⟩)] w fun e w' => e = .returned (.int .i64 (szW l)) ∧ Below w.heap.size w w' := by
  go_enter Tryz.func39, Tryz.ntmps39
  go_wp2_with fail
  refine (tSize T l _ h hn).mono ?_
  rintro e w1 ⟨rfl, q1⟩
  go_wp2
  go_ret
  exact ⟨rfl, q1⟩
set_option maxHeartbeats 1000000 in
theorem tEntries (T : Nat) (l : List En) (w : World) (h : TabIs w T l) :
    Calls Tryz.prog 55 #[.pointer (some ⟨T, 0, none⟩)] w fun e w' => ∃ v, e = .returned (.func (.func 107) #[] #[.pointer (some ⟨w.heap.size, 0, none⟩)]) ∧ w' = w.alloc (.cells #[v] 112) ∧ EnsIn w' v l ∧ w'.cell? ⟨w.heap.size, 0, none⟩ = some v := by
  obtain ⟨v, hb, ho⟩ := h.blk
  have tc : w.cell? ⟨T, 0, none⟩ = some v := by simp [World.cell?, hb]
  obtain ⟨a, len, cap, rfl⟩ := owns_slice ho
  go_enter Tryz.func55, Tryz.ntmps55
  go_wp2_with fail
  refine (lAll a len cap _).mono ?_
  rintro e w1 ⟨rfl, rfl⟩
  go_wp2
  go_ret
  exact ⟨_, rfl, rfl, EnsIn.of_owns (ho.alloc _), by simp⟩
end Go.Proofs.YtindifjhocgkbaaGreatDoor
