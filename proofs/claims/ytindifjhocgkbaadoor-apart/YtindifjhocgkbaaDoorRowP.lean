import Derived.Test.YtindifjhocgkbaaDoorRowA
import Derived.Test.YtindifjhocgkbaaDoorAptC
namespace Go.Proofs.YtindifjhocgkbaaDoor
open Go.ChangeShapes Go.WideShapes Go.RowKit Go.Joins Go.Deep
open Go.ChangeMaps (open_string shut_string)

set_option maxRecDepth 100000 in
theorem apart_lifted (os : Os) (started : os.Started) (H : Type) (enc : TypeId × Value → H) :
    ReturnsInHanded {} Tryd.checked os 5 .any (fun w args => (Rows.apartSpec.pre enc Tryd.prog Tryd.f5 [] false w args ∧ laidMetH Tryd.prog laidL w) ∧ sizedMet enc Tryd.prog Tryd.f5 (OpenSpec.ofChange Rows.apartSpec) false w args)
      (Rows.apartSpec.post enc Tryd.prog Tryd.f5 false true false false) := by
  refine returnsInHanded_of_change_and (C := Tryd.checked) (X := fun w _ => laidMetH Tryd.prog laidL w) (fun _ _ _ hh h => h.of_heap hh) Tryd.ownR started (by kernel_rfl) Tryd.func5
    (ChangeSpec.witness_at (enc := enc) (C := Tryd.checked) (os := os) (X := fun w _ => laidMetH Tryd.prog laidL w) false (laidW (World.holding Tryd.prog os ⟨#[], #[], []⟩)) #[.slice none 0 0, .slice none 0 0, .slice none 0 0] 8 rfl (by kernel_rfl) (by kernel_rfl) (by kernel_rfl) (by kernel_rfl) (by kernel_rfl) (laidWorld_met os _)) ?_
  intro W base args ds gs before hval0 hW _ hsz0 hL _
  have hval : ∀ (j : Nat) t v, Tryd.f5.params[j]? = some t → args[j]? = some v → Value.okWide Tryd.prog W .any base t v := hval0
  have hsz : (DataW.weightsEach Tryd.prog (Tryd.f5.params.toList ++ Rows.apartSpec.plain.varTypes Tryd.prog) (ds ++ gs)).all (· ≤ reachBytes) = true := hsz0
  have hW' := hW
  obtain ⟨p, q, hA0, hV0, rfl, hfz, hnd⟩ := hW
  have hA : DataW.TrodAll enc Tryd.prog W 0 (fun _ => true) true Tryd.f5.params.toList args.toList ds p := hA0
  have hV : DataW.TrodVars enc Tryd.prog W (fun _ => true) [] gs q := hV0
  rw [Tryd.params5] at hA hval hsz
  obtain ⟨v0, v1, v2, d0, d1, d2, p0, p1, p2, rfl, rfl, rfl, h0, h1, h2⟩ := trodAll_three hA
  obtain ⟨rfl, rfl⟩ : gs = [] ∧ q = [] := by
    cases gs with
    | nil => exact ⟨rfl, hV⟩
    | cons g r => exact absurd hV (by intro h; cases h)
  have k0 := h0
  have k1 := h1
  have k2 := h2
  have lt0 : ∀ x ∈ p0, x.block < W.heap.size := fun x hx => by simpa using hW'.lt x (by simp [hx])
  have lt1 : ∀ x ∈ p1, x.block < W.heap.size := fun x hx => by simpa using hW'.lt x (by simp [hx])
  have lt2 : ∀ x ∈ p2, x.block < W.heap.size := fun x hx => by simpa using hW'.lt x (by simp [hx])
  obtain ⟨a0, len0, cap0, rfl⟩ := okWide_slice Tryd.underlying36 (hval 0 36 v0 rfl rfl)
  obtain ⟨fuel0, f0⟩ := h0
  obtain ⟨ra0, n0, rc0, e0, r0, s0⟩ := open_raw (x := (d0, p0)) (by simpa [Value.cells] using f0)
  obtain ⟨a1, len1, cap1, rfl⟩ := okWide_slice Tryd.underlying36 (hval 1 36 v1 rfl rfl)
  obtain ⟨fuel1, f1⟩ := h1
  obtain ⟨ra1, n1, rc1, e1, r1, s1⟩ := open_raw (x := (d1, p1)) (by simpa [Value.cells] using f1)
  obtain ⟨a2, len2, cap2, rfl⟩ := okWide_slice Tryd.underlying36 (hval 2 36 v2 rfl rfl)
  obtain ⟨fuel2, f2⟩ := h2
  obtain ⟨ra2, n2, rc2, e2, r2, s2⟩ := open_raw (x := (d2, p2)) (by simpa [Value.cells] using f2)
  have b0 : n0 ≤ 9223372036854775800 := by
    rcases s0 with h | ⟨elems, spare, e1, e2⟩
    · omega
    · have := sized_slice hsz (j := 0) (t := 36) (e := 3) (elems := elems) (spare := spare) rfl (by rw [show d0 = DataW.slice elems spare from e1]; rfl) Tryd.underlying36
      rw [Tryd.bytesIntR] at this
      simp only [reachBytes] at this
      omega
  have b1 : n1 ≤ 9223372036854775800 := by
    rcases s1 with h | ⟨elems, spare, e1, e2⟩
    · omega
    · have := sized_slice hsz (j := 1) (t := 36) (e := 3) (elems := elems) (spare := spare) rfl (by rw [show d1 = DataW.slice elems spare from e1]; rfl) Tryd.underlying36
      rw [Tryd.bytesIntR] at this
      simp only [reachBytes] at this
      omega
  have b2 : n2 ≤ 9223372036854775800 := by
    rcases s2 with h | ⟨elems, spare, e1, e2⟩
    · omega
    · have := sized_slice hsz (j := 2) (t := 36) (e := 3) (elems := elems) (spare := spare) rfl (by rw [show d2 = DataW.slice elems spare from e1]; rfl) Tryd.underlying36
      rw [Tryd.bytesIntR] at this
      simp only [reachBytes] at this
      omega
  have es : Rows.apartSpec.fn H ([d0, d1, d2] ++ []) = { results := [.lit (.bool true)], args := [d0, d1, d2] } := by simp [Rows.apartSpec]
  rw [e0] at k0 hW' ⊢
  rw [e1] at k1 hW' ⊢
  rw [e2] at k2 hW' ⊢
  refine (kApart ra0 n0 rc0 ra1 n1 rc1 ra2 n2 rc2 W b0 b1 b2 r0 r1 r2 (glob_of_laid hL) (et_of_laid hL)).mono fun e W' ⟨he, hb⟩ => ?_
  subst he
  refine ⟨_, rfl, _, _, _, [], (p0 ++ (p1 ++ p2)), [], hW', ?_, ?_, ?_, hb.frame _, fun h => by cases h⟩
  · rw [es]; exact trodAll_mk1 (shut_bool Tryd.underlying4 true)
  · rw [es]
    exact trodAll_mk3 (Below.trod Tryd.laidOutR (by kernel_rfl) (of_decide_eq_true (by kernel_rfl)) k0 hb lt0) (Below.trod Tryd.laidOutR (by kernel_rfl) (of_decide_eq_true (by kernel_rfl)) k1 hb lt1) (Below.trod Tryd.laidOutR (by kernel_rfl) (of_decide_eq_true (by kernel_rfl)) k2 hb lt2)
  · rw [es]; rfl
theorem apart_holds : Rows.ApartSaid :=
  OpenClaim.holds_of_wide 5 Tryd.f5 rfl rfl rfl rfl rfl rfl rfl ⟨rfl, rfl, rfl, rfl, rfl⟩ rfl rfl rfl rfl rfl (by kernel_rfl) Tryd.func5 (by kernel_rfl)
    (of_decide_eq_true (by kernel_rfl)) (by unfold Func.isWrapper; rw [if_neg (of_decide_eq_false (by kernel_rfl))]; exact ⟨rfl, rfl⟩)
    (fun os started H enc _ => apart_lifted os started H enc)
#print axioms apart_holds
end Go.Proofs.YtindifjhocgkbaaDoor
