import Derived.Test.YtindifjhocgkbaaGreatDoorRowAToLst
import Derived.Test.YtindifjhocgkbaaGreatDoorRcR
import Derived.Test.YtindifjhocgkbaaGreatDoorCards
import Derived.Test.YtindifjhocgkbaaGreatDoorTie
import Derived.SevenTiedAt
namespace Go.Proofs.YtindifjhocgkbaaGreatDoor
open Go.ChangeShapes Go.WideShapes Go.RowKit Go.Joins Go.Deep
open Go.ChangeMaps (open_string shut_string)

theorem Tryz.cellsPlR : Tryz.prog.cellsOf 62 = 3 := by kernel_rfl
theorem Tryz.bytesPlR : Tryz.prog.bytesOf 62 = 40 := by kernel_rfl
section
variable {H : Type} {enc : TypeId × Value → H}
theorem open_raw2 {W : World} {fuel : Nat} {c : Value} {x : DataW H × List MemPlace} (h : DataW.trod enc Tryz.prog W 0 (fun _ => true) true fuel 24 [c] = some x) :
    ∃ (ra : Option Addr) (n rc : Nat), c = .slice ra n rc ∧ IntsIn W ra n ∧ n ≤ rc ∧ rc ≤ maxLen := by
  rcases open_slice1 Tryz.underlying24 Tryz.cellsIntR h with ⟨hc, hx⟩ | ⟨a, len, cap, m, k, V, D, Pl, hc, _, hl, hm, hmm, hx, hall⟩
  · simp only [List.cons.injEq, and_true] at hc
    exact ⟨none, 0, 0, hc, fun h => absurd h (by omega), Nat.le_refl _, Nat.zero_le _⟩
  · simp only [List.cons.injEq, and_true] at hc
    simp only [if_true] at hmm
    subst hmm
    refine ⟨some a, len, m, hc, fun hp => ?_, by omega, hm⟩
    obtain ⟨b, off, spot⟩ := a
    have hspot : spot = none := by
      have h0 := (hall 0 (by omega)).1
      have e0 : (⟨b, off, spot⟩ : Addr).add 0 = ⟨b, off, spot⟩ := by simp [Addr.add]
      rw [e0] at h0
      exact World.cell?_spot h0
    subst hspot
    have hcell : ∀ i, i < m → W.cell? ⟨b, off + i, none⟩ = some (V i) := fun i hi => by have h := (hall i hi).1; rwa [add_none] at h
    refine ⟨b, off, rfl, cell_lt (hcell 0 (by omega)), fun i hi => ?_⟩
    obtain ⟨z, e1, _, wz⟩ := DataW.trod_int Tryz.underlying3 (hall i (by omega)).2
    simp only [List.cons.injEq, and_true] at e1
    have bz : -9223372036854775808 ≤ z ∧ z ≤ 9223372036854775807 := by simpa [Lit.wf, IntKind.min, IntKind.max, IntKind.signed, IntKind.bits] using wz
    exact ⟨z, by rw [hcell i (by omega), e1], bz.1, bz.2⟩
theorem weights_all {P : Program} {e : TypeId} {d : DataW H} {n : Nat} : ∀ {l : List (DataW H)}, d ∈ l → n ∈ d.weights P e → n ∈ DataW.weightsAll P e l
  | x :: l, hd, hn => by
    simp only [DataW.weightsAll, List.mem_append]
    rcases List.mem_cons.1 hd with rfl | hd
    · exact .inl hn
    · exact .inr (weights_all hd hn)
set_option maxRecDepth 100000 in
/-- One entry: its cells, its number, how long its texts are. -/
theorem open_en {W : World} {fuel : Nat} {cs : List Value} {x : DataW H × List MemPlace} (h : DataW.trod enc Tryz.prog W 0 (fun _ => true) true fuel 62 cs = some x) :
    ∃ e : En, cs = e3 e ∧ KOk e ∧ ((∀ n ∈ x.1.weights Tryz.prog 62, n ≤ reachBytes) → e.k.size ≤ reachBytes ∧ e.v.size ≤ reachBytes) := by
  obtain ⟨y0, y1, y2, n, hx, hl, h0, h1, h2⟩ := trod_struct3 Tryz.underlying62 h
  rw [Tryz.cellsPlR] at hl
  match cs, hl with
  | [c0, c1, c2], _ =>
    obtain ⟨a, e0, f0, wa⟩ := DataW.trod_int Tryz.underlying3 h0
    obtain ⟨s, e1, f1, ws⟩ := DataW.trod_string Tryz.underlying9 h1
    obtain ⟨t, e2, f2, wt⟩ := DataW.trod_string Tryz.underlying9 h2
    simp [Tryz.cellsIntR, Tryz.cellsStrR] at e0 e1 e2
    refine ⟨⟨a, s, t⟩, by simp [e3, e0, e1, e2], ⟨wa, ws⟩, fun hw => ?_⟩
    have hs : s.data.toList.length = s.size := Array.length_toList
    have ht : t.data.toList.length = t.size := Array.length_toList
    subst hx f0 f1 f2
    exact ⟨hs ▸ hw _ (by simp [DataW.weights, DataW.weightsEach, Tryz.underlying62]), ht ▸ hw _ (by simp [DataW.weights, DataW.weightsEach, Tryz.underlying62])⟩
theorem open_ens {W : World} {fuel : Nat} {c : Value} {x : DataW H × List MemPlace} (h : DataW.trod enc Tryz.prog W 0 (fun _ => true) true fuel 44 [c] = some x) :
    ∃ (ao : Option Addr) (l : List En) (cap : Nat), c = .slice ao l.length cap ∧ l.length ≤ cap ∧ cap ≤ maxLen ∧ EnsLo W c l ∧ ((∀ n ∈ x.1.weights Tryz.prog 44, n ≤ reachBytes) → l.length * 40 ≤ reachBytes ∧ ∀ e ∈ l, Siz e) := by
  rcases open_slice Tryz.underlying44 h with ⟨hc, hx⟩ | ⟨a, len, cap, m, n, D, Pl, hc, _, hl, hm, hmm, hx, hall⟩
  · simp only [List.cons.injEq, and_true] at hc
    exact ⟨none, [], 0, hc, Nat.le_refl _, Nat.zero_le _, .inl ⟨none, 0, hc, rfl⟩, fun _ => ⟨by simp, by simp⟩⟩
  · simp only [List.cons.injEq, and_true] at hc
    simp only [if_true] at hmm
    subst hmm
    rw [Tryz.cellsPlR] at hall
    obtain ⟨V, hV⟩ := @choose_lt En ⟨⟨0, ⟨#[]⟩, ⟨#[]⟩⟩⟩ _ ( fun i o => W.cells? 0 (a.add (i * 3)) 3 = some (e3 o) ∧ KOk o ∧ ((∀ n ∈ (D i).weights Tryz.prog 62, n ≤ reachBytes) → o.k.size ≤ reachBytes ∧ o.v.size ≤ reachBytes)) (fun i hi => by
      obtain ⟨cs', h1, h2⟩ := hall i hi
      obtain ⟨o, rfl, ho, hz⟩ := open_en h2
      exact ⟨o, h1, ho, hz⟩)
    have hlen : ((List.range len).map V).length = len := by simp
    refine ⟨some a, (List.range len).map V, m, by rw [hlen]; exact hc, by rw [hlen]; exact hl, hm, ?_, fun hw => ?_⟩
    · rcases Nat.eq_zero_or_pos len with hz | hp
      · subst hz
        exact .inl ⟨some a, m, hc, by simp⟩
      have hcell : ∀ i, i < len → ∀ j, j < 3 → W.cell? ((a.add (i * 3)).add j) = (e3 (V i))[j]? := fun i hi j hj => (World.cells?_some (hV i (by omega)).1).2.2 j hj
      obtain ⟨b, off, spot⟩ := a
      have hspot : spot = none := by
        have h0 := hcell 0 hp 0 (by decide)
        have e0 : ((⟨b, off, spot⟩ : Addr).add (0 * 3)).add 0 = ⟨b, off, spot⟩ := by simp [Addr.add]
        rw [e0] at h0
        exact World.cell?_spot (h0.trans (show (e3 (V 0))[0]? = some (.int .i64 (V 0).t) from rfl))
      subst hspot
      have hc2 : ∀ i, i < len → ∀ j, j < 3 → W.cell? ⟨b, off + i * 3 + j, none⟩ = (e3 (V i))[j]? := fun i hi j hj => by have h := hcell i hi j hj; rwa [add_none, add_none] at h
      refine .inr (.inr ⟨b, off, m, by rw [hlen]; exact hc, cell_lt (hc2 0 hp 0 (by decide)), ?_⟩)
      refine ⟨fun i hi => ?_, fun i hi => ?_, fun i hi => ?_⟩
      all_goals rw [hlen] at hi
      · simpa [e3] using hc2 i hi 0 (by decide)
      · simpa [e3] using hc2 i hi 1 (by decide)
      · simpa [e3] using hc2 i hi 2 (by decide)
    · rw [hx] at hw
      have hw1 : ∀ n, n = ((List.range len).map D).length * 40 + ((List.range (m - len)).map fun j => D (len + j)).length * 40 ∨ n ∈ DataW.weightsAll Tryz.prog 62 ((List.range len).map D) → n ≤ reachBytes := fun n h => hw n (by
        simp only [DataW.weights, Tryz.underlying44, Tryz.bytesPlR, List.mem_cons, List.mem_append]
        rcases h with h | h
        · exact .inl (by rw [h, Nat.add_mul])
        · exact .inr (.inl h))
      refine ⟨?_, fun e he => ?_⟩
      · have := hw1 _ (.inl rfl)
        rw [hlen]
        simp only [List.length_map, List.length_range] at this
        omega
      · obtain ⟨i, hi, rfl⟩ := List.mem_map.1 he
        have hi' : i < len := List.mem_range.1 hi
        obtain ⟨_, h1, h2⟩ := hV i (by omega)
        have h3 := h2 (fun n hn => hw1 n (.inr (weights_all (List.mem_map.2 ⟨i, hi, rfl⟩) hn)))
        simp only [reachBytes] at h3
        exact ⟨h1, by omega, by omega⟩
end

set_option maxRecDepth 100000 in
theorem reconciles_lifted (os : Os) (started : os.Started) (H : Type) (enc : TypeId × Value → H) :
    ReturnsInHanded {} Tryz.checked os 6 .any (fun w args => (Rows.reconcilesSpec.pre enc Tryz.prog Tryz.f6 [] false w args ∧ laidMetH Tryz.prog laidL w) ∧ sizedMet enc Tryz.prog Tryz.f6 (OpenSpec.ofChange Rows.reconcilesSpec) false w args)
      (Rows.reconcilesSpec.post enc Tryz.prog Tryz.f6 false true false false) := by
  refine returnsInHanded_of_change_and (C := Tryz.checked) (X := fun w _ => laidMetH Tryz.prog laidL w) (fun _ _ _ hh h => h.of_heap hh) Tryz.ownR started (by kernel_rfl) Tryz.func6
    (ChangeSpec.witness_at (enc := enc) (C := Tryz.checked) (os := os) (X := fun w _ => laidMetH Tryz.prog laidL w) false (laidW (World.holding Tryz.prog os ⟨#[], #[], []⟩)) #[.slice none 0 0, .slice none 0 0, .slice none 0 0, .int .i64 0] 8 rfl (by kernel_rfl) (by kernel_rfl) (by kernel_rfl) (by kernel_rfl) (by kernel_rfl) (laidWorld_met os _)) ?_
  intro W base args ds gs before hval0 hW _ hsz0 hL _
  have hval : ∀ (j : Nat) t v, Tryz.f6.params[j]? = some t → args[j]? = some v → Value.okWide Tryz.prog W .any base t v := hval0
  have hsz : (DataW.weightsEach Tryz.prog (Tryz.f6.params.toList ++ Rows.reconcilesSpec.plain.varTypes Tryz.prog) (ds ++ gs)).all (· ≤ reachBytes) = true := hsz0
  have hW' := hW
  obtain ⟨p, q, hA0, hV0, rfl, hfz, hnd⟩ := hW
  have hA : DataW.TrodAll enc Tryz.prog W 0 (fun _ => true) true Tryz.f6.params.toList args.toList ds p := hA0
  have hV : DataW.TrodVars enc Tryz.prog W (fun _ => true) [] gs q := hV0
  rw [Tryz.params6] at hA hval hsz
  obtain ⟨v0, v1, v2, v3, d0, d1, d2, d3, p0, p1, p2, p3, rfl, rfl, rfl, h0, h1, h2, h3⟩ := trodAll_four hA
  obtain ⟨rfl, rfl⟩ : gs = [] ∧ q = [] := by
    cases gs with
    | nil => exact ⟨rfl, hV⟩
    | cons g r => exact absurd hV (by intro h; cases h)
  have h0k := h0
  have h1k := h1
  have h2k := h2
  have hlt0 : ∀ x ∈ p0, x.block < W.heap.size := fun x hx => by simpa using hW'.lt x (by simp [hx])
  have hlt1 : ∀ x ∈ p1, x.block < W.heap.size := fun x hx => by simpa using hW'.lt x (by simp [hx])
  have hlt2 : ∀ x ∈ p2, x.block < W.heap.size := fun x hx => by simpa using hW'.lt x (by simp [hx])
  obtain ⟨a0, len0, cap0, rfl⟩ := okWide_slice Tryz.underlying24 (hval 0 24 v0 rfl rfl)
  obtain ⟨a1, len1, cap1, rfl⟩ := okWide_slice Tryz.underlying44 (hval 1 44 v1 rfl rfl)
  obtain ⟨a2, len2, cap2, rfl⟩ := okWide_slice Tryz.underlying44 (hval 2 44 v2 rfl rfl)
  obtain ⟨fuel0, hf0⟩ := h0
  obtain ⟨ra, n, rc, e0, hr, hnr, hcr⟩ := open_raw2 (x := (d0, p0)) (by simpa [Value.cells] using hf0)
  obtain ⟨fuel1, hf1⟩ := h1
  obtain ⟨ao1, l1, c1, e1, hcap1, hmax1, hens1, hz1⟩ := open_ens (x := (d1, p1)) (by simpa [Value.cells] using hf1)
  obtain ⟨fuel2, hf2⟩ := h2
  obtain ⟨ao2, l2, c2, e2, hcap2, hmax2, hens2, hz2⟩ := open_ens (x := (d2, p2)) (by simpa [Value.cells] using hf2)
  obtain ⟨s, rfl, rfl, rfl, ws⟩ := open_int Tryz.underlying3 (hval 3 3 v3 rfl rfl) h3
  have bs : -9223372036854775808 ≤ s ∧ s ≤ 9223372036854775807 := by simpa [Lit.wf, IntKind.min, IntKind.max, IntKind.signed, IntKind.bits] using ws
  obtain ⟨hz11, hz12⟩ := hz1 (fun n hn => of_decide_eq_true (List.all_eq_true.1 hsz n (DataW.weights_mem_each (j := 1) (t := 44) (d := d1) rfl rfl n hn)))
  have hon : l1.length ≤ 3518437208780 := by simp only [reachBytes] at hz11; omega
  obtain ⟨rfl, rfl, rfl⟩ : a0 = ra ∧ len0 = n ∧ cap0 = rc := by simpa using e0
  obtain ⟨rfl, rfl, rfl⟩ : a1 = ao1 ∧ len1 = l1.length ∧ cap1 = c1 := by simpa using e1
  have hcc : ∀ x n c', (Value.slice a2 len2 cap2) = .slice x n c' → n ≤ c' ∧ (c' : Int) ≤ 9223372036854775807 := by
    intro x n c' h
    rw [e2] at h
    simp only [Value.slice.injEq] at h
    obtain ⟨_, rfl, rfl⟩ := h
    unfold maxLen at hmax2
    exact ⟨hcap2, by omega⟩
  obtain ⟨xf, hxf⟩ : ∃ xf : Nat → Int, 0 < len0 → ∃ b off, a0 = some ⟨b, off, none⟩ ∧ b < W.heap.size ∧ ∀ i, i < len0 → W.cell? ⟨b, off + i, none⟩ = some (.int .i64 (xf i)) := by
    rcases Nat.eq_zero_or_pos len0 with hz | hp
    · exact ⟨fun _ => 0, fun h => by omega⟩
    · obtain ⟨b, off, e, hb, hc⟩ := hr hp
      obtain ⟨f, hf⟩ := choose_lt (n := len0) (p := fun i z => W.cell? ⟨b, off + i, none⟩ = some (.int .i64 z)) (fun i hi => by obtain ⟨z, hz, _⟩ := hc i hi; exact ⟨z, hz⟩)
      exact ⟨f, fun _ => ⟨b, off, e, hb, hf⟩⟩
  have ee : Rows.reconcilesSpec.fn H ([d0, d1, d2, .lit (.int .i64 s)] ++ []) = { results := [.lit (.bool true)], args := [d0, d1, d2, .lit (.int .i64 s)] } := by simp [Rows.reconcilesSpec]
  refine (lReconciles a0 len0 cap0 xf l1 a1 cap1 _ l2 s W hxf (by unfold maxLen at hcr; omega) hens1 hon hz12 hens2 hcc (glob_of_laid hL) (et_of_laid hL) bs).mono fun e W' ⟨he, hb⟩ => ?_
  subst he
  refine ⟨_, rfl, _, _, _, [], (p0 ++ (p1 ++ (p2 ++ []))), [], hW', ?_, ?_, ?_, hb.frame _, fun h => by cases h⟩
  · rw [ee]; exact trodAll_mk1 (shut_bool Tryz.underlying4 true)
  · rw [ee]; exact trodAll_mk4 (Below.trod Tryz.laidOutR (by kernel_rfl) (of_decide_eq_true (by kernel_rfl)) h0k hb hlt0) (Below.trod Tryz.laidOutR (by kernel_rfl) (of_decide_eq_true (by kernel_rfl)) h1k hb hlt1) (Below.trod Tryz.laidOutR (by kernel_rfl) (of_decide_eq_true (by kernel_rfl)) h2k hb hlt2) (shut_int Tryz.underlying3 ws)
  · rw [ee]; rfl
theorem reconciles_holds : Rows.ReconcilesSaid :=
  OpenClaim.holds_of_wide 6 Tryz.f6 rfl rfl rfl rfl rfl rfl rfl ⟨rfl, rfl, rfl, rfl, rfl⟩ rfl rfl rfl rfl rfl (by kernel_rfl) Tryz.func6 (by kernel_rfl)
    (of_decide_eq_true (by kernel_rfl)) (by unfold Func.isWrapper; rw [if_neg (of_decide_eq_false (by kernel_rfl))]; exact ⟨rfl, rfl⟩)
    (fun os started H enc _ => reconciles_lifted os started H enc)
theorem reconciles_params (j : Nat) (t : TypeId) (ht : #[24, 44, 44, 3][j]? = some t) : Tryz.prog.wantsStandIn t = false := by
  have h : t = 24 ∨ t = 44 ∨ t = 3 := by
    rcases j with _ | _ | _ | _ | j
    · exact .inl (by simpa using ht.symm)
    · exact .inr (.inl (by simpa using ht.symm))
    · exact .inr (.inl (by simpa using ht.symm))
    · exact .inr (.inr (by simpa using ht.symm))
    · simp at ht
  rcases h with rfl | rfl | rfl
  · exact (show Tryz.prog.wantsStandIn 24 = false by kernel_rfl)
  · exact (show Tryz.prog.wantsStandIn 44 = false by kernel_rfl)
  · exact (show Tryz.prog.wantsStandIn 3 = false by kernel_rfl)
end Go.Proofs.YtindifjhocgkbaaGreatDoor
namespace Go.Proofs.YtindifjhocgkbaaGreatDoor
open Go
theorem reconciles_card_holds : Rows.ReconcilesCardSaid :=
  Claim7.holds_tied_plain_at .later [] [.handle, .data, .data] true (true, "7032ff78ad936286d9c9317cf9215b770f5aea82d39f906516377a1f61fb3bfe") true
    reconciles_holds (fun _ h => by cases h) (by kernel_rfl) (fun _ h => by cases h) reconciles_row_tie rfl ⟨rfl, rfl⟩ (by kernel_rfl) rfl
    (fun f fn hf hfn => by
      obtain rfl : f = 6 := Option.some.inj ((show Tryz.prog.funcNamed "overlay/overlaylaw.Reconciles" = some 6 by kernel_rfl).symm.trans hf) |>.symm
      obtain rfl : fn = Tryz.f6 := (Option.some.inj (Tryz.func6.symm.trans hfn)).symm
      exact ⟨by kernel_rfl, fun j t ht => by
        rw [Tryz.params6] at ht
        exact reconciles_params j t ht⟩)
    (by kernel_rfl)
#print axioms reconciles_card_holds
end Go.Proofs.YtindifjhocgkbaaGreatDoor
