import Derived.Test.YtindifjhocgkbaaGreatDoorLstB
import Derived.Test.YtindifjhocgkbaaGreatDoorEncB
namespace Go.Proofs.YtindifjhocgkbaaGreatDoor

theorem srt_ext : ∀ {a b : List En}, Srt a → Srt b → (∀ y, y ∈ a ↔ y ∈ b) → a = b
  | [], [], _, _, _ => rfl
  | [], y :: b, _, _, h => absurd ((h y).2 (by simp)) (by simp)
  | x :: a, [], _, _, h => absurd ((h x).1 (by simp)) (by simp)
  | x :: a, y :: b, ha, hb, h => by
    have ha' := List.pairwise_cons.1 ha
    have hb' := List.pairwise_cons.1 hb
    have self : ∀ (e : En), ¬ cmpK e.t e.k e.t e.k < 0 := fun e => by have := (cmpK_zero e.t e.k e.t e.k).2 ⟨rfl, rfl⟩; omega
    have e : x = y := by
      rcases List.mem_cons.1 ((h x).1 (by simp)) with e | h1
      · exact e
      · rcases List.mem_cons.1 ((h y).2 (by simp)) with e | h2
        · exact e.symm
        · exact absurd (cmpK_trans (ha'.1 y h2) (hb'.1 x h1)) (self x)
    subst e
    congr 1
    refine srt_ext ha'.2 hb'.2 fun z => ⟨fun hz => ?_, fun hz => ?_⟩
    · rcases List.mem_cons.1 ((h z).1 (by simp [hz])) with e | h1
      · subst e; exact absurd (ha'.1 z hz) (self z)
      · exact h1
    · rcases List.mem_cons.1 ((h z).2 (by simp [hz])) with e | h1
      · subst e; exact absurd (hb'.1 z hz) (self z)
      · exact h1
theorem del_iff {t : Int} {k : ByteArray} {y : En} {l : List En} (hs : Srt l) : y ∈ del t k l ↔ y ∈ l ∧ ¬ (y.t = t ∧ y.k = k) := by
  rw [show del t k l = l.filter (fun x => !sameE ⟨t, k, ⟨#[]⟩⟩ x) from (del_filter (e := ⟨t, k, ⟨#[]⟩⟩) hs).symm]
  simp [List.mem_filter, sameE]
  intro _
  exact ⟨fun h a b => h.elim (fun h => h a) (fun h => h b), fun h => by by_cases a : y.t = t; exact .inr (h a); exact .inl a⟩
theorem put_iff {e y : En} : ∀ {l : List En}, Srt l → (y ∈ put e l ↔ y = e ∨ (y ∈ l ∧ ¬ (y.t = e.t ∧ y.k = e.k)))
  | [], _ => by simp [put]
  | x :: l, hs => by
    have hs' := List.pairwise_cons.1 hs
    unfold put
    split
    · rename_i h
      have hx : ¬ (x.t = e.t ∧ x.k = e.k) := fun hc => by have := (cmpK_zero _ _ _ _).2 hc; unfold En.cmp at h; omega
      rw [List.mem_cons, put_iff hs'.2, List.mem_cons]
      constructor
      · rintro (rfl | rfl | ⟨h1, h2⟩)
        · exact .inr ⟨.inl rfl, hx⟩
        · exact .inl rfl
        · exact .inr ⟨.inr h1, h2⟩
      · rintro (rfl | ⟨rfl | h1, h2⟩)
        · exact .inr (.inl rfl)
        · exact .inl rfl
        · exact .inr (.inr ⟨h1, h2⟩)
    split
    · rename_i h0
      obtain ⟨e1, e2⟩ := (cmpK_zero _ _ _ _).1 h0
      rw [List.mem_cons, List.mem_cons]
      constructor
      · rintro (rfl | h1)
        · exact .inl rfl
        · refine .inr ⟨.inr h1, fun hc => ?_⟩
          have := hs'.1 y h1
          rw [e1, e2, hc.1, hc.2] at this
          have z := (cmpK_zero e.t e.k e.t e.k).2 ⟨rfl, rfl⟩; omega
      · rintro (rfl | ⟨rfl | h1, h2⟩)
        · exact .inl rfl
        · exact absurd ⟨e1, e2⟩ h2
        · exact .inr h1
    · rename_i h1 h2
      have h3 := cmp_pos h1 h2
      have hg : ∀ z ∈ x :: l, ¬ (z.t = e.t ∧ z.k = e.k) := fun z hz hc => by
        have : cmpK e.t e.k z.t z.k < 0 := by
          rcases List.mem_cons.1 hz with rfl | hz
          · exact h3
          · exact cmpK_trans h3 (hs'.1 z hz)
        rw [hc.1, hc.2] at this
        have z0 := (cmpK_zero e.t e.k e.t e.k).2 ⟨rfl, rfl⟩; omega
      rw [List.mem_cons]
      constructor
      · rintro (rfl | h4)
        · exact .inl rfl
        · exact .inr ⟨h4, hg y h4⟩
      · rintro (rfl | ⟨h4, _⟩)
        · exact .inl rfl
        · exact .inr h4
/-- Two changes of different keys may come in either order. -/
theorem chd_comm {l : List En} {o p : OpD} (hs : Srt l) (hne : ¬ (o.table = p.table ∧ o.key = p.key)) : chd (chd l o) p = chd (chd l p) o := by
  refine srt_ext (chd_srt (chd_srt hs)) (chd_srt (chd_srt hs)) fun y => ?_
  have hne' : ¬ (p.table = o.table ∧ p.key = o.key) := fun h => hne ⟨h.1.symm, h.2.symm⟩
  have so : Srt (chd l o) := chd_srt hs
  have sp : Srt (chd l p) := chd_srt hs
  unfold chd at *
  by_cases ho : o.kind = 2 <;> by_cases hp : p.kind = 2
  · simp only [ho, hp, if_true] at *
    rw [del_iff so, del_iff hs, del_iff sp, del_iff hs]
    constructor <;> (rintro ⟨⟨a, b⟩, c⟩; exact ⟨⟨a, c⟩, b⟩)
  · simp only [ho, hp, if_true, if_false] at *
    rw [put_iff so, del_iff hs, del_iff sp, put_iff hs]
    constructor
    · rintro (rfl | ⟨⟨a, b⟩, c⟩)
      · exact ⟨.inl rfl, hne'⟩
      · exact ⟨.inr ⟨a, c⟩, b⟩
    · rintro ⟨rfl | ⟨a, c⟩, b⟩
      · exact .inl rfl
      · exact .inr ⟨⟨a, b⟩, c⟩
  · simp only [ho, hp, if_true, if_false] at *
    rw [del_iff so, put_iff hs, put_iff sp, del_iff hs]
    constructor
    · rintro ⟨rfl | ⟨a, c⟩, b⟩
      · exact .inl rfl
      · exact .inr ⟨⟨a, b⟩, c⟩
    · rintro (rfl | ⟨⟨a, b⟩, c⟩)
      · exact ⟨.inl rfl, hne⟩
      · exact ⟨.inr ⟨a, c⟩, b⟩
  · simp only [ho, hp, if_false] at *
    rw [put_iff so, put_iff hs, put_iff sp, put_iff hs]
    constructor
    · rintro (rfl | ⟨rfl | ⟨a, c⟩, b⟩)
      · exact .inr ⟨.inl rfl, hne'⟩
      · exact .inl rfl
      · exact .inr ⟨.inr ⟨a, b⟩, c⟩
    · rintro (rfl | ⟨rfl | ⟨a, c⟩, b⟩)
      · exact .inr ⟨.inl rfl, hne⟩
      · exact .inl rfl
      · exact .inr ⟨.inr ⟨a, b⟩, c⟩
theorem aft_chd {o : OpD} : ∀ {f : List OpD} {l : List En}, Srt l → (∀ p ∈ f, ¬ (o.table = p.table ∧ o.key = p.key)) → aft (chd l o) f = chd (aft l f) o
  | [], l, _, _ => rfl
  | p :: f, l, hs, h => by
    show aft (chd (chd l o) p) f = chd (aft (chd l p) f) o
    rw [chd_comm hs (h p (by simp)), aft_chd (chd_srt hs) fun q hq => h q (by simp [hq])]
theorem aft_comm : ∀ {d f : List OpD} {l : List En}, Srt l → (∀ o ∈ d, ∀ p ∈ f, ¬ (o.table = p.table ∧ o.key = p.key)) → aft (aft l d) f = aft (aft l f) d
  | [], f, l, _, _ => rfl
  | o :: d, f, l, hs, h => by
    show aft (aft (chd l o) d) f = aft (chd (aft l f) o) d
    rw [aft_comm (chd_srt hs) fun q hq => h q (by simp [hq]), aft_chd hs (h o (by simp))]

/-- Changes each of which may be, no key twice. -/
def PairOk (l : List OpD) : Prop := (∀ o ∈ l, kindB o.kind o.table = true ∧ keyB o.table o.key = true ∧ fitsB o = true) ∧ l.Pairwise (fun a b => sameKey b.table b.key a = false)
theorem pairOk_of {l : List OpD} (h : ∀ j (hj : j < l.length), wrongN l[j] (l.take j) = 0) : PairOk l := by
  refine ⟨fun o ho => ?_, List.pairwise_iff_getElem.2 fun i j hi hj hij => ?_⟩
  · obtain ⟨j, hj, rfl⟩ := List.getElem_of_mem ho
    have := wrongN_ok (h j hj)
    exact ⟨this.1, this.2.1, this.2.2.2⟩
  · have := (wrongN_ok (h j hj)).2.2.1
    rw [List.any_eq_false] at this
    have hm : l[i] ∈ l.take j := by
      rw [List.mem_iff_getElem]
      exact ⟨i, by simp; omega, by simp⟩
    simpa using this _ hm
theorem of_pairOk {l : List OpD} (h : PairOk l) : ∀ j (hj : j < l.length), wrongN l[j] (l.take j) = 0 := fun j hj => by
  obtain ⟨h1, h2, h3⟩ := h.1 l[j] (List.getElem_mem hj)
  refine wrongN_0 h1 h2 ?_ h3
  rw [List.any_eq_false]
  intro x hx
  obtain ⟨i, hi, rfl⟩ := List.getElem_of_mem hx
  have hij : i < j := by simp at hi; omega
  have := List.pairwise_iff_getElem.1 h.2 i j (by omega) hj hij
  simp [this]
theorem pairOk_sub {l m : List OpD} (h : PairOk l) (hs : m.Sublist l) : PairOk m := ⟨fun o ho => h.1 o (hs.subset ho), h.2.sublist hs⟩
theorem wrongD_good {v : Int} {l : List OpD} (hv : verB v = true) (h1 : 1 ≤ l.length) (h8 : l.length ≤ 8) (h : ∀ j (hj : j < l.length), wrongN l[j] (l.take j) = 0) : wrongD v l = (0, 0) := by
  refine wrongD_zero ?_
  rw [wrongD_0 hv (by simp [cntB]; omega)]
  have key : ∀ (n i : Nat), i + n ≤ l.length → firstW l n i = (0, 0) := by
    intro n
    induction n with
    | zero => intro i _; rfl
    | succ n ih => intro i hi; rw [firstW, if_pos (by rw [wrongAt_eq (by omega)]; exact h i (by omega))]; exact ih (i + 1) (by omega)
  rw [key _ _ (by omega)]
/-- The changes of e whose key is none of d's. -/
def fewOf (d e : List OpD) : List OpD := e.filter (fun p => !d.any (sameKey p.table p.key))
theorem few_step (d e : List OpD) (j : Nat) (h : j < e.length) : fewOf d (e.take (j + 1)) = if d.any (sameKey e[j].table e[j].key) then fewOf d (e.take j) else fewOf d (e.take j) ++ [e[j]] := by
  unfold fewOf
  rw [List.take_succ_eq_append_getElem h, List.filter_append]
  by_cases hc : d.any (sameKey e[j].table e[j].key) = true
  · rw [if_pos hc]; simp [hc]
  · rw [if_neg hc]
    have hc' : d.any (sameKey e[j].table e[j].key) = false := by simpa using hc
    simp [hc']
theorem few_apart {d e : List OpD} : ∀ o ∈ d, ∀ p ∈ fewOf d e, ¬ (o.table = p.table ∧ o.key = p.key) := fun o ho p hp hc => by
  have h := (List.mem_filter.1 hp).2
  have h' : d.any (sameKey p.table p.key) = false := by simpa using h
  rw [List.any_eq_false] at h'
  exact h' o ho (by simp [sameKey, hc.1, hc.2])
end Go.Proofs.YtindifjhocgkbaaGreatDoor
