import Derived.Test.YtindifjhocgkbaaGreatDoorRowO
import Derived.Test.YtindifjhocgkbaaGreatDoorTbT
import Derived.Test.YtindifjhocgkbaaGreatDoorCards
import Derived.Test.YtindifjhocgkbaaGreatDoorTie
import Derived.SevenTiedAt
namespace Go.Proofs.YtindifjhocgkbaaGreatDoor
open Go.ChangeShapes Go.WideShapes Go.RowKit Go.Joins Go.Deep
open Go.ChangeMaps (open_string shut_string)

theorem Tryz.cellsOpsT : Tryz.prog.cellsOf 32 = 1 := by kernel_rfl
theorem Tryz.cellsU64T : Tryz.prog.cellsOf 31 = 1 := by kernel_rfl
section
variable {H : Type} {enc : TypeId × Value → H}
def dC (d : DlD) : List Value := [.int .u64 d.v, .slice d.ao d.ops.length d.cap]
set_option maxRecDepth 100000 in
/-- One delta, as its two cells. -/
theorem open_dl {W : World} {fuel : Nat} {cs : List Value} {x : DataW H × List MemPlace} (h : DataW.trod enc Tryz.prog W 0 (fun _ => true) true fuel 34 cs = some x) :
    ∃ d : DlD, cs = dC d ∧ d.ok W := by
  obtain ⟨y0, y1, n, hx, hl, h0, h1⟩ := trod_struct2 Tryz.underlying34 h
  rw [Tryz.cellsDeltaR] at hl
  match cs, hl with
  | [c0, c1], _ =>
    obtain ⟨a, e0, _, wa⟩ := DataW.trod_int Tryz.underlying31 h0
    simp [Tryz.cellsU64T] at e0
    simp only [Tryz.cellsOpsT] at h1
    obtain ⟨ao, l, cap, e1, _, hc, hm, hi, _⟩ := open_ops (c := c1) h1
    have ba : 0 ≤ a ∧ a ≤ 18446744073709551615 := by simpa [Lit.wf, IntKind.min, IntKind.max, IntKind.signed, IntKind.bits] using wa
    exact ⟨⟨a, ao, cap, l⟩, by simp [dC, e0, e1], ba.1, ba.2, hc, hm, hi⟩
theorem open_dels {W : World} {fuel : Nat} {c : Value} {x : DataW H × List MemPlace} (h : DataW.trod enc Tryz.prog W 0 (fun _ => true) true fuel 22 [c] = some x) :
    ∃ (ao : Option Addr) (l : List DlD) (cap : Nat), c = .slice ao l.length cap ∧ l.length ≤ cap ∧ cap ≤ maxLen ∧ DelsIn W ao l := by
  rcases open_slice Tryz.underlying22 h with ⟨hc, hx⟩ | ⟨a, len, cap, m, n, D, Pl, hc, _, hl, hm, hmm, hx, hall⟩
  · simp only [List.cons.injEq, and_true] at hc
    exact ⟨none, [], 0, hc, Nat.le_refl _, Nat.zero_le _, fun h => absurd h (by simp)⟩
  · simp only [List.cons.injEq, and_true] at hc
    simp only [if_true] at hmm
    subst hmm
    rw [Tryz.cellsDeltaR] at hall
    obtain ⟨V, hV⟩ := @choose_lt DlD ⟨⟨0, none, 0, []⟩⟩ _ ( fun i o => W.cells? 0 (a.add (i * 2)) 2 = some (dC o) ∧ o.ok W) (fun i hi => by
      obtain ⟨cs', h1, h2⟩ := hall i hi
      obtain ⟨o, rfl, ho⟩ := open_dl h2
      exact ⟨o, h1, ho⟩)
    have hlen : ((List.range len).map V).length = len := by simp
    refine ⟨some a, (List.range len).map V, m, by rw [hlen]; exact hc, by rw [hlen]; exact hl, hm, fun hp => ?_⟩
    rw [hlen] at hp
    have hcell : ∀ i, i < len → ∀ j, j < 2 → W.cell? ((a.add (i * 2)).add j) = (dC (V i))[j]? := fun i hi j hj => (World.cells?_some (hV i (by omega)).1).2.2 j hj
    obtain ⟨b, off, spot⟩ := a
    have hspot : spot = none := by
      have h0 := hcell 0 hp 0 (by decide)
      have e0 : ((⟨b, off, spot⟩ : Addr).add (0 * 2)).add 0 = ⟨b, off, spot⟩ := by simp [Addr.add]
      rw [e0] at h0
      exact World.cell?_spot (h0.trans (show (dC (V 0))[0]? = some (.int .u64 (V 0).v) from rfl))
    subst hspot
    have hc2 : ∀ i, i < len → ∀ j, j < 2 → W.cell? ⟨b, off + i * 2 + j, none⟩ = (dC (V i))[j]? := fun i hi j hj => by have h := hcell i hi j hj; rwa [add_none, add_none] at h
    refine ⟨b, off, rfl, cell_lt (hc2 0 hp 0 (by decide)), fun i hi => ?_⟩
    rw [hlen] at hi
    have ev : ((List.range len).map V)[i]'(by rw [hlen]; exact hi) = V i := by simp
    rw [ev]
    exact ⟨by simpa [dC] using hc2 i hi 0 (by decide), by simpa [dC] using hc2 i hi 1 (by decide), (hV i (by omega)).2⟩
theorem open_texts {W : World} {fuel : Nat} {c : Value} {x : DataW H × List MemPlace} (h : DataW.trod enc Tryz.prog W 0 (fun _ => true) true fuel 23 [c] = some x) :
    ∃ (ra : Option Addr) (n rc : Nat), c = .slice ra n rc ∧ StrsIn W ra n ∧ n ≤ rc ∧ rc ≤ maxLen := by
  rcases open_slice1 Tryz.underlying23 Tryz.cellsStrR h with ⟨hc, hx⟩ | ⟨a, len, cap, m, k, V, D, Pl, hc, _, hl, hm, hmm, hx, hall⟩
  · simp only [List.cons.injEq, and_true] at hc
    exact ⟨none, 0, 0, hc, fun h => absurd h (by omega), Nat.le_refl _, Nat.zero_le _⟩
  · simp only [List.cons.injEq, and_true] at hc
    simp only [if_true] at hmm
    subst hmm
    refine ⟨some a, len, m, hc, fun hp => ?_, by omega, hm⟩
    obtain ⟨b, off, spot⟩ := a
    have hspot : spot = none := by
      have h0 := (hall 0 (by omega)).1
      have e0 : (⟨b, off, spot⟩ : Addr).add 0 = ⟨b, off, spot⟩ := by simp [Addr.add]
      rw [e0] at h0
      exact World.cell?_spot h0
    subst hspot
    have hcell : ∀ i, i < m → W.cell? ⟨b, off + i, none⟩ = some (V i) := fun i hi => by have h := (hall i hi).1; rwa [add_none] at h
    refine ⟨b, off, rfl, cell_lt (hcell 0 (by omega)), fun i hi => ?_⟩
    obtain ⟨z, e1, _, _⟩ := DataW.trod_string Tryz.underlying9 (hall i (by omega)).2
    simp only [List.cons.injEq, and_true] at e1
    exact ⟨z, by rw [hcell i (by omega), e1]⟩
theorem open_nums {W : World} {fuel : Nat} {c : Value} {x : DataW H × List MemPlace} (h : DataW.trod enc Tryz.prog W 0 (fun _ => true) true fuel 24 [c] = some x) :
    ∃ (ra : Option Addr) (n rc : Nat), c = .slice ra n rc ∧ IntsIn W ra n ∧ n ≤ rc ∧ rc ≤ maxLen := by
  rcases open_slice1 Tryz.underlying24 Tryz.cellsIntR h with ⟨hc, hx⟩ | ⟨a, len, cap, m, k, V, D, Pl, hc, _, hl, hm, hmm, hx, hall⟩
  · simp only [List.cons.injEq, and_true] at hc
    exact ⟨none, 0, 0, hc, fun h => absurd h (by omega), Nat.le_refl _, Nat.zero_le _⟩
  · simp only [List.cons.injEq, and_true] at hc
    simp only [if_true] at hmm
    subst hmm
    refine ⟨some a, len, m, hc, fun hp => ?_, by omega, hm⟩
    obtain ⟨b, off, spot⟩ := a
    have hspot : spot = none := by
      have h0 := (hall 0 (by omega)).1
      have e0 : (⟨b, off, spot⟩ : Addr).add 0 = ⟨b, off, spot⟩ := by simp [Addr.add]
      rw [e0] at h0
      exact World.cell?_spot h0
    subst hspot
    have hcell : ∀ i, i < m → W.cell? ⟨b, off + i, none⟩ = some (V i) := fun i hi => by have h := (hall i hi).1; rwa [add_none] at h
    refine ⟨b, off, rfl, cell_lt (hcell 0 (by omega)), fun i hi => ?_⟩
    obtain ⟨z, e1, _, wz⟩ := DataW.trod_int Tryz.underlying3 (hall i (by omega)).2
    simp only [List.cons.injEq, and_true] at e1
    have bz : -9223372036854775808 ≤ z ∧ z ≤ 9223372036854775807 := by simpa [Lit.wf, IntKind.min, IntKind.max, IntKind.signed, IntKind.bits] using wz
    exact ⟨z, by rw [hcell i (by omega), e1], bz.1, bz.2⟩
end
set_option maxRecDepth 100000 in
theorem tables_lifted (os : Os) (started : os.Started) (H : Type) (enc : TypeId × Value → H) :
    ReturnsInHanded {} Tryz.checked os 3 .any (fun w args => (Rows.tablesSpec.pre enc Tryz.prog Tryz.f3 [] false w args ∧ laidMetH Tryz.prog laidL w) ∧ sizedMet enc Tryz.prog Tryz.f3 (OpenSpec.ofChange Rows.tablesSpec) false w args)
      (Rows.tablesSpec.post enc Tryz.prog Tryz.f3 false true false false) := by
  refine returnsInHanded_of_change_and (C := Tryz.checked) (X := fun w _ => laidMetH Tryz.prog laidL w) (fun _ _ _ hh h => h.of_heap hh) Tryz.ownR started (by kernel_rfl) Tryz.func3
    (ChangeSpec.witness_at (enc := enc) (C := Tryz.checked) (os := os) (X := fun w _ => laidMetH Tryz.prog laidL w) false (laidW (World.holding Tryz.prog os ⟨#[], #[], []⟩)) #[.slice none 0 0, .slice none 0 0, .slice none 0 0] 8 rfl (by kernel_rfl) (by kernel_rfl) (by kernel_rfl) (by kernel_rfl) (by kernel_rfl) (laidWorld_met os _)) ?_
  intro W base args ds gs before hval0 hW _ hsz0 hL _
  have hval : ∀ (j : Nat) t v, Tryz.f3.params[j]? = some t → args[j]? = some v → Value.okWide Tryz.prog W .any base t v := hval0
  have hW' := hW
  obtain ⟨p, q, hA0, hV0, rfl, hfz, hnd⟩ := hW
  have hA : DataW.TrodAll enc Tryz.prog W 0 (fun _ => true) true Tryz.f3.params.toList args.toList ds p := hA0
  have hV : DataW.TrodVars enc Tryz.prog W (fun _ => true) [] gs q := hV0
  rw [Tryz.params3] at hA hval
  obtain ⟨v0, v1, v2, d0, d1, d2, p0, p1, p2, rfl, rfl, rfl, h0, h1, h2⟩ := trodAll_three hA
  obtain ⟨rfl, rfl⟩ : gs = [] ∧ q = [] := by
    cases gs with
    | nil => exact ⟨rfl, hV⟩
    | cons g r => exact absurd hV (by intro h; cases h)
  have k0 := h0
  have k1 := h1
  have k2 := h2
  have lt0 : ∀ x ∈ p0, x.block < W.heap.size := fun x hx => by simpa using hW'.lt x (by simp [hx])
  have lt1 : ∀ x ∈ p1, x.block < W.heap.size := fun x hx => by simpa using hW'.lt x (by simp [hx])
  have lt2 : ∀ x ∈ p2, x.block < W.heap.size := fun x hx => by simpa using hW'.lt x (by simp [hx])
  obtain ⟨a0, len0, cap0, rfl⟩ := okWide_slice Tryz.underlying22 (hval 0 22 v0 rfl rfl)
  obtain ⟨fuel0, f0⟩ := h0
  obtain ⟨ra0, l0, rc0, e0, n0, m0, r0⟩ := open_dels (x := (d0, p0)) (by simpa [Value.cells] using f0)
  obtain ⟨a1, len1, cap1, rfl⟩ := okWide_slice Tryz.underlying23 (hval 1 23 v1 rfl rfl)
  obtain ⟨fuel1, f1⟩ := h1
  obtain ⟨ra1, l1, rc1, e1, r1, n1, m1⟩ := open_texts (x := (d1, p1)) (by simpa [Value.cells] using f1)
  obtain ⟨a2, len2, cap2, rfl⟩ := okWide_slice Tryz.underlying24 (hval 2 24 v2 rfl rfl)
  obtain ⟨fuel2, f2⟩ := h2
  obtain ⟨ra2, l2, rc2, e2, r2, n2, m2⟩ := open_nums (x := (d2, p2)) (by simpa [Value.cells] using f2)
  have b0 : (l0.length : Int) ≤ 9223372036854775807 := by unfold maxLen at m0; omega
  have b1 : (l1 : Int) ≤ 9223372036854775807 := by unfold maxLen at m1; omega
  have b2 : (l2 : Int) ≤ 9223372036854775807 := by unfold maxLen at m2; omega
  have es : Rows.tablesSpec.fn H ([d0, d1, d2] ++ []) = { results := [.lit (.bool true)], args := [d0, d1, d2] } := by simp [Rows.tablesSpec]
  rw [e0] at k0 hW' ⊢
  rw [e1] at k1 hW' ⊢
  rw [e2] at k2 hW' ⊢
  refine (lTables ra0 l0 rc0 ra1 l1 rc1 ra2 l2 rc2 W r0 r1 r2 b0 b1 b2 (glob_of_laid hL) (et_of_laid hL)).mono fun e W' ⟨he, hb⟩ => ?_
  subst he
  refine ⟨_, rfl, _, _, _, [], (p0 ++ (p1 ++ p2)), [], hW', ?_, ?_, ?_, hb.frame _, fun h => by cases h⟩
  · rw [es]; exact trodAll_mk1 (shut_bool Tryz.underlying4 true)
  · rw [es]
    exact trodAll_mk3 (Below.trod Tryz.laidOutR (by kernel_rfl) (of_decide_eq_true (by kernel_rfl)) k0 hb lt0) (Below.trod Tryz.laidOutR (by kernel_rfl) (of_decide_eq_true (by kernel_rfl)) k1 hb lt1) (Below.trod Tryz.laidOutR (by kernel_rfl) (of_decide_eq_true (by kernel_rfl)) k2 hb lt2)
  · rw [es]; rfl
theorem tables_holds : Rows.TablesSaid :=
  OpenClaim.holds_of_wide 3 Tryz.f3 rfl rfl rfl rfl rfl rfl rfl ⟨rfl, rfl, rfl, rfl, rfl⟩ rfl rfl rfl rfl rfl (by kernel_rfl) Tryz.func3 (by kernel_rfl)
    (of_decide_eq_true (by kernel_rfl)) (by unfold Func.isWrapper; rw [if_neg (of_decide_eq_false (by kernel_rfl))]; exact ⟨rfl, rfl⟩)
    (fun os started H enc _ => tables_lifted os started H enc)
theorem tables_params (j : Nat) (t : TypeId) (ht : #[22, 23, 24][j]? = some t) : Tryz.prog.wantsStandIn t = false := by
  have h : t = 22 ∨ t = 23 ∨ t = 24 := by
    rcases j with _ | _ | _ | j
    · exact .inl (by simpa using ht.symm)
    · exact .inr (.inl (by simpa using ht.symm))
    · exact .inr (.inr (by simpa using ht.symm))
    · simp at ht
  rcases h with rfl | rfl | rfl
  · exact (show Tryz.prog.wantsStandIn 22 = false by kernel_rfl)
  · exact (show Tryz.prog.wantsStandIn 23 = false by kernel_rfl)
  · exact (show Tryz.prog.wantsStandIn 24 = false by kernel_rfl)
end Go.Proofs.YtindifjhocgkbaaGreatDoor
namespace Go.Proofs.YtindifjhocgkbaaGreatDoor
open Go
theorem tables_card_holds : Rows.TablesCardSaid :=
  Claim7.holds_tied_plain_at .later [] [.handle, .data, .data] true (true, "7032ff78ad936286d9c9317cf9215b770f5aea82d39f906516377a1f61fb3bfe") true
    tables_holds (fun _ h => by cases h) (by kernel_rfl) (fun _ h => by cases h) tables_row_tie rfl ⟨rfl, rfl⟩ (by kernel_rfl) rfl
    (fun f fn hf hfn => by
      obtain rfl : f = 3 := Option.some.inj ((show Tryz.prog.funcNamed "overlay/overlaylaw.Tables" = some 3 by kernel_rfl).symm.trans hf) |>.symm
      obtain rfl : fn = Tryz.f3 := (Option.some.inj (Tryz.func3.symm.trans hfn)).symm
      exact ⟨by kernel_rfl, fun j t ht => by
        rw [Tryz.params3] at ht
        exact tables_params j t ht⟩)
    (by kernel_rfl)
#print axioms tables_card_holds
end Go.Proofs.YtindifjhocgkbaaGreatDoor
