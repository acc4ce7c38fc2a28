import Derived.Test.YtindifjhocgkbaaGreatDoorRdB
namespace Go.Proofs.YtindifjhocgkbaaGreatDoor
open Go.RowKit

theorem byte_bk (x : Int) (h0 : 0 ≤ x) (h1 : x < 256) : (((UInt8.ofNat x.toNat).toNat : Nat) : Int) = x := by
  simp [UInt8.toNat_ofNat']; omega
theorem str_whole (s : ByteArray) (B c : Nat) (W : World) (hb : BytesAt W B s) : (convert 53 9 (.slice (some ⟨B, 0, none⟩) s.size c)).run Tryz.prog W = .ok (.string s) W := by
  have h := str_piece s B 0 s.size c W hb (by omega)
  rw [Nat.zero_add] at h
  have e : s.extract 0 s.size = s := by
    apply ByteArray.ext
    have hz : s.data.size = s.size := rfl
    rw [ByteArray.data_extract, ← hz]; simp
  rw [e] at h
  exact h
set_option maxHeartbeats 1000000 in
theorem kPick (c n : Int) (w : World) (hc : -9223372036854775808 ≤ c ∧ c ≤ 9223372036854775807) (hn : 0 < n) (hn' : n ≤ 4611686018427387904) :
    Calls Tryz.prog 22 #[.int .i64 c, .int .i64 n] w fun e w' => ∃ k : Int, 0 ≤ k ∧ k < n ∧ e = .returned (.int .i64 k) ∧ w' = w := by
  by_cases h : c < 0
  · go_enter Tryz.func22, Tryz.ntmps22
    go_wp2
    go_ret
    have e1 : -((c + 1).tmod n) = (-(c + 1)) % n := by rw [← Int.neg_tmod, Int.tmod_eq_emod_of_nonneg (by omega)]
    have e2 := Int.emod_nonneg (-(c + 1)) (show n ≠ 0 by omega)
    have e3 := Int.emod_lt_of_pos (-(c + 1)) (show (0 : Int) < n by omega)
    exact ⟨(-(c + 1)) % n, e2, e3, by rw [e1]; rfl, rfl⟩
  · go_enter Tryz.func22, Tryz.ntmps22
    go_wp2
    go_ret
    have e2 := Int.emod_nonneg c (show n ≠ 0 by omega)
    have e3 := Int.emod_lt_of_pos c (show (0 : Int) < n by omega)
    exact ⟨c % n, e2, e3, rfl, rfl⟩

/-- A string out of numbers. -/
def baOf (xs : List Int) : ByteArray := ⟨(xs.map fun x => UInt8.ofNat x.toNat).toArray⟩
theorem baOf_size (xs : List Int) : (baOf xs).size = xs.length := by simp [baOf, ByteArray.size]
theorem bt_baOf (xs : List Int) (i : Nat) (h : i < xs.length) (h0 : 0 ≤ xs[i] ∧ xs[i] < 256) : bt (baOf xs) i = xs[i] := by
  unfold bt baOf
  rw [List.getD_eq_getElem?_getD]
  simp only [List.getElem?_map, List.getElem?_eq_getElem h, Option.map_some, Option.getD_some]
  exact byte_bk _ h0.1 h0.2
theorem str_lit (W : World) (xs : List Int) (B : Nat) (t : TypeId) (c : Nat) (hB : B = W.heap.size) (hx : ∀ x ∈ xs, 0 ≤ x ∧ x < 256) :
    (convert 53 9 (.slice (some ⟨B, 0, none⟩) xs.length c)).run Tryz.prog (W.alloc (.cells (xs.map fun x => Value.int .u8 x).toArray t)) = .ok (.string (baOf xs)) (W.alloc (.cells (xs.map fun x => Value.int .u8 x).toArray t)) := by
  have h := str_whole (baOf xs) B c (W.alloc (.cells (xs.map fun x => Value.int .u8 x).toArray t)) (fun i hi => by
    rw [baOf_size] at hi
    rw [bt_baOf xs i hi (hx _ (List.getElem_mem hi))]
    subst hB
    rw [World.cell?_alloc_new]
    simp [hi])
  rw [baOf_size] at h
  exact h
/-- A slice of integers that came in. -/
def IntsIn (w : World) (ao : Option Addr) (n : Nat) : Prop := 0 < n → ∃ b off, ao = some ⟨b, off, none⟩ ∧ b < w.heap.size ∧ ∀ i, i < n → ∃ x : Int, w.cell? ⟨b, off + i, none⟩ = some (.int .i64 x) ∧ -9223372036854775808 ≤ x ∧ x ≤ 9223372036854775807
theorem IntsIn.keep {w w' : World} {ao : Option Addr} {n : Nat} (h : IntsIn w ao n) (q : Below w.heap.size w w') : IntsIn w' ao n := fun hp => by
  obtain ⟨b, off, e, hb, hc⟩ := h hp
  exact ⟨b, off, e, Nat.lt_of_lt_of_le hb q.size, fun i hi => by obtain ⟨x, h1, h2⟩ := hc i hi; exact ⟨x, (q.cell (p := ⟨b, off + i, none⟩) hb).trans h1, h2⟩⟩
end Go.Proofs.YtindifjhocgkbaaGreatDoor
