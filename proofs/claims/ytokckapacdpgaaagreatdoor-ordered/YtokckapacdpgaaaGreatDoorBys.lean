import Derived.Test.YtokckapacdpgaaaGreatDoorKit
namespace Go.Proofs.YtokckapacdpgaaaGreatDoor
open Go.RowKit

/-- '[]byte(s)'. -/
theorem bytes_of' (s : ByteArray) (W : World) (hs : s.size ≤ maxLen) : ∃ cp W1, (convert 9 53 (.string s)).run Tryz.prog W = .ok (.slice (some ⟨W.heap.size, 0, none⟩) s.size cp) W1 ∧ s.size ≤ cp ∧ cp ≤ 9223372036854775807 ∧ BytesAt W1 W.heap.size s ∧ (∀ i, i < s.size → W1.frozen? ⟨W.heap.size, i, none⟩ = false) ∧ Below W.heap.size W W1 ∧ W1.heap.size = W.heap.size + 1 := by
  have hz : s.data.size = s.size := rfl
  have hge := grownCap_ge W s.size 0 5
  have hcell : (W.drew.alloc (.cells (bytesRow s (grownCap W s.size 0 5)) 5 ((bytesRow s (grownCap W s.size 0 5)).size, (bytesRow s (grownCap W s.size 0 5)).size + 1))).heap[W.heap.size]? = some (.cells (bytesRow s (grownCap W s.size 0 5)) 5 ((bytesRow s (grownCap W s.size 0 5)).size, (bytesRow s (grownCap W s.size 0 5)).size + 1)) := heap_alloc_new W.drew _
  have hsz : (bytesRow s (grownCap W s.size 0 5)).size = grownCap W s.size 0 5 := by simp [bytesRow]; omega
  refine ⟨_, _, run_bytes_of_string W _ _ _ s Tryz.underlying9 Tryz.underlying53 Tryz.underlying5, hge, ?_, fun i hi => ?_, fun i hi => ?_, ?_, by simp⟩
  · have h := grownCap_le_maxLen W s.size 0 5 hs; unfold maxLen at h; omega
  · simp only [World.cell?, hcell]
    have hi' : i < s.data.size := by omega
    have hx : (bytesRow s (grownCap W s.size 0 5))[i]? = some (.int .u8 (bt s i)) := by
      rw [← bt_eq hi]
      unfold bytesRow
      rw [Array.getElem?_append_left (by simpa using hi'), Array.getElem?_map, Array.getElem?_eq_getElem hi']
      rfl
    simpa using hx
  · simp only [World.frozen?, hcell]
    simp; omega
  · exact (below_drew W).trans ((below_alloc W.drew _))

end Go.Proofs.YtokckapacdpgaaaGreatDoor
