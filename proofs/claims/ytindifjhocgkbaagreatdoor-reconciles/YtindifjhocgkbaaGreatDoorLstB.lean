import Derived.Test.YtindifjhocgkbaaGreatDoorRowAToLst
namespace Go.Proofs.YtindifjhocgkbaaGreatDoor

def sameE (e x : En) : Bool := decide (x.t = e.t ∧ x.k = e.k)
def lessE (e x : En) : Bool := decide (cmpK e.t e.k x.t x.k < 0)
/-- The document's own answer's step, over a list. -/
def wst (e : En) (s : List En × Bool) (x : En) : List En × Bool :=
  if sameE e x then s else if !s.2 && lessE e x then (s.1 ++ [e, x], true) else (s.1 ++ [x], s.2)
def withR (l : List En) (e : En) (gone : Bool) : List En :=
  let s := l.foldl (wst e) ([], gone)
  if s.2 then s.1 else s.1 ++ [e]
theorem wst_true (e : En) : ∀ (l out : List En), l.foldl (wst e) (out, true) = (out ++ l.filter (fun x => !sameE e x), true)
  | [], out => by simp
  | x :: l, out => by
    rw [List.foldl_cons, wst]
    by_cases h : sameE e x = true
    · simp [h, wst_true e l]
    · simp [h, wst_true e l]
theorem sameE_iff {e x : En} : sameE e x = true ↔ x.cmp e.t e.k = 0 := by
  unfold sameE En.cmp; rw [cmpK_zero]; simp
theorem filter_gt {e : En} : ∀ {l : List En}, (∀ x ∈ l, cmpK e.t e.k x.t x.k < 0) → l.filter (fun x => !sameE e x) = l := by
  intro l h
  rw [List.filter_eq_self]
  intro x hx
  have h1 := h x hx
  cases hs : sameE e x with
  | false => rfl
  | true =>
    have := sameE_iff.1 hs
    rw [cmpK_neg x.t x.k] at h1
    unfold En.cmp at this; omega
theorem del_filter {e : En} : ∀ {l : List En}, Srt l → l.filter (fun x => !sameE e x) = del e.t e.k l
  | [], _ => rfl
  | x :: l, hs => by
    have hs' := List.pairwise_cons.1 hs
    unfold del
    by_cases h1 : x.cmp e.t e.k < 0
    · have : sameE e x = false := by
        cases h : sameE e x with
        | false => rfl
        | true => have := sameE_iff.1 h; omega
      rw [if_pos h1, List.filter_cons, this, del_filter hs'.2]; simp
    · rw [if_neg h1]
      by_cases h2 : x.cmp e.t e.k = 0
      · rw [if_pos h2, List.filter_cons, sameE_iff.2 h2]
        obtain ⟨a, b⟩ := (cmpK_zero _ _ _ _).1 h2
        simp
        intro y hy
        have h3 := hs'.1 y hy
        rw [a, b] at h3
        have := filter_gt (e := e) (l := [y]) (by simpa using h3)
        simp at this; exact this
      · rw [if_neg h2]
        refine filter_gt fun y hy => ?_
        rcases List.mem_cons.1 hy with rfl | hy
        · exact cmp_pos h1 h2
        · exact cmpK_trans (cmp_pos h1 h2) (hs'.1 y hy)
theorem withR_del {e : En} {l : List En} (hs : Srt l) : withR l e true = del e.t e.k l := by
  unfold withR; rw [wst_true]; simp [del_filter hs]
theorem put_gt {e : En} : ∀ {l : List En}, (∀ x ∈ l, cmpK e.t e.k x.t x.k < 0) → put e l = e :: l
  | [], _ => rfl
  | x :: l, h => by
    have h1 := h x (by simp)
    rw [cmpK_neg x.t x.k] at h1
    unfold put
    rw [if_neg (by unfold En.cmp; omega), if_neg (by unfold En.cmp; omega)]
theorem wst_false {e : En} : ∀ {l : List En} (out : List En), Srt l → (let s := l.foldl (wst e) (out, false); if s.2 then s.1 else s.1 ++ [e]) = out ++ put e l
  | [], out, _ => by simp [put]
  | x :: l, out, hs => by
    have hs' := List.pairwise_cons.1 hs
    rw [List.foldl_cons]
    by_cases h1 : x.cmp e.t e.k < 0
    · have a : sameE e x = false := by
        cases h : sameE e x with
        | false => rfl
        | true => have := sameE_iff.1 h; omega
      have b : lessE e x = false := by
        unfold lessE; rw [cmpK_neg x.t x.k]; unfold En.cmp at h1; simp; omega
      have ih := wst_false (e := e) (l := l) (out ++ [x]) hs'.2
      rw [show wst e (out, false) x = (out ++ [x], false) by simp [wst, a, b], ih]
      rw [show put e (x :: l) = x :: put e l by rw [put, if_pos h1]]; simp
    · by_cases h2 : x.cmp e.t e.k = 0
      · obtain ⟨c, d⟩ := (cmpK_zero _ _ _ _).1 h2
        have hg : ∀ y ∈ l, cmpK e.t e.k y.t y.k < 0 := fun y hy => by have := hs'.1 y hy; rw [c, d] at this; exact this
        have ih := wst_false (e := e) (l := l) out hs'.2
        rw [show wst e (out, false) x = (out, false) by simp [wst, sameE_iff.2 h2], ih, put_gt hg]
        unfold put; rw [if_neg h1, if_pos h2]
      · have h3 := cmp_pos h1 h2
        have a : sameE e x = false := by
          cases h : sameE e x with
          | false => rfl
          | true => exact absurd (sameE_iff.1 h) h2
        have b : lessE e x = true := by unfold lessE; simpa using h3
        rw [show wst e (out, false) x = (out ++ [e, x], true) by simp [wst, a, b], wst_true]
        have hg : ∀ y ∈ l, cmpK e.t e.k y.t y.k < 0 := fun y hy => cmpK_trans h3 (hs'.1 y hy)
        rw [filter_gt hg]
        unfold put; rw [if_neg h1, if_neg h2]; simp
theorem withR_put {e : En} {l : List En} (hs : Srt l) : withR l e false = put e l := by
  have := wst_false (e := e) [] hs
  simpa [withR] using this
theorem withR_chd {l : List En} {o : OpD} (hs : Srt l) : withR l ⟨o.table, o.key, o.val⟩ (decide (o.kind = 2)) = chd l o := by
  unfold chd
  by_cases h : o.kind = 2
  · simp only [h, decide_true, if_true]; exact withR_del hs
  · simp only [h, decide_false, if_false]; exact withR_put hs
end Go.Proofs.YtindifjhocgkbaaGreatDoor
