import Derived.Test.YtokckapacdpgaaaGreatDoorLai
import Derived.Test.YtokckapacdpgaaaGreatDoorApt
namespace Go.Proofs.YtokckapacdpgaaaGreatDoor
open Go.RowKit

theorem put_ok {e : En} {l : List En} (he : okE e) (h : Ok l) : Ok (put e l) := fun y hy => by
  rcases put_mem hy with rfl | hy
  · exact he
  · exact h y hy
theorem chd_ok {l : List En} {o : OpD} (h : Ok l) (h1 : kindB o.kind o.table = true) (h2 : keyB o.table o.key = true) (h3 : fitsB o = true) : Ok (chd l o) := by
  unfold chd
  split
  · exact fun y hy => h y (del_mem hy)
  · rename_i hk
    have hi := kindB_in h1
    have hv : valB o.table o.val = true := by unfold fitsB at h3; rw [if_neg hk] at h3; exact h3
    exact put_ok (okE_mk (by simp [tabB]; omega) h2 hv) h
theorem aft_ok : ∀ (ops : List OpD) (l : List En), Ok l → (∀ o ∈ ops, kindB o.kind o.table = true ∧ keyB o.table o.key = true ∧ fitsB o = true) → Ok (aft l ops)
  | [], _, h, _ => h
  | o :: ops, l, h, hh => by
    have h1 := hh o (by simp)
    exact aft_ok ops (chd l o) (chd_ok h h1.1 h1.2.1 h1.2.2) (fun x hx => hh x (by simp [hx]))
theorem aftD_ok {l : List En} {v : Int} {ops : List OpD} (h : Ok l) : Ok (aftD l v ops) := by
  unfold aftD
  split
  · rename_i hk
    refine aft_ok ops l h (fun o ho => ?_)
    obtain ⟨j, hj, rfl⟩ := List.getElem_of_mem ho
    have hw := wrongN_ok ((wrongD_ok hk).2.2 j hj)
    exact ⟨hw.1, hw.2.1, hw.2.2.2⟩
  · exact h
theorem layF_ok : ∀ (es : List En) (l : List En), Ok l → Ok (es.foldl (fun t e => aftD t 1 [putOp e]) l)
  | [], _, h => h
  | e :: es, l, h => layF_ok es (aftD l 1 [putOp e]) (aftD_ok h)
theorem layL_ok (es : List En) : Ok (layL es) := layF_ok es [] (fun _ h => absurd h (by simp))
theorem put_end {e : En} : ∀ {l : List En}, (∀ x ∈ l, cmpK x.t x.k e.t e.k < 0) → put e l = l ++ [e]
  | [], _ => rfl
  | x :: l, h => by
    have h1 : x.cmp e.t e.k < 0 := h x (by simp)
    have ih := put_end (l := l) (fun y hy => h y (by simp [hy]))
    unfold put
    rw [if_pos h1, ih, List.cons_append]
theorem wrongD_put {e : En} (h : okE e) : wrongD 1 [putOp e] = (0, 0) := by
  refine wrongD_good (by decide) (by simp) (by simp) (of_pairOk ⟨fun o ho => ?_, by simp⟩)
  obtain rfl : o = putOp e := by simpa using ho
  exact ⟨h.1, h.2.1, by unfold fitsB putOp; simpa using h.2.2⟩
theorem layL_same {es : List En} (ho : Ok es) (hs : Srt es) : layL es = es := by
  suffices h : ∀ n, n ≤ es.length → layL (es.take n) = es.take n by have := h es.length (Nat.le_refl _); rwa [List.take_length] at this
  intro n
  induction n with
  | zero => intro _; simp [layL]
  | succ n ih =>
    intro hn
    rw [layL_take es n (by omega), ih (by omega)]
    unfold aftD
    rw [if_pos (by rw [wrongD_put (ho _ (List.getElem_mem _))])]
    rw [List.take_succ_eq_append_getElem (by omega)]
    refine put_end (e := es[n]) (fun x hx => ?_)
    rw [← List.take_append_drop n es] at hs
    exact (List.pairwise_append.1 hs).2.2 x hx es[n] (List.mem_drop_iff_getElem.2 ⟨0, by omega, by simp⟩)

theorem enB_cells {x : En} (h : okE x) : cellsB (enB x) = enV x.t x.k x.v := by
  have h1 := okE_in h
  simp only [enB, enV, cellsB, List.map_append, List.map_cons, Lib.strCells, List.cons_append, List.nil_append]
  rw [byte_back _ (by omega) (by omega)]
theorem ensB_cells : ∀ {l : List En}, Ok l → cellsB (ensB l) = ensV l
  | [], _ => rfl
  | x :: l, h => by
    have ih := ensB_cells (l := l) (fun y hy => h y (by simp [hy]))
    rw [ensB_cons, cellsB_append, enB_cells (h x (by simp)), ih]
    simp [ensV]
theorem staB_cells {v : Int} {l : List En} (h : Ok l) : cellsB (staB v l) = staV v l := by
  unfold staB staV
  rw [cellsB_append, cellsB_append, beB_cells, beB_cells, ensB_cells h, List.append_assoc]
theorem staB_pos (v : Int) (l : List En) : 10 ≤ (staB v l).length := by simp [staB, beB]
/-- The string that EncodeAll's bytes are ("" where there is a fault). -/
def staS (v : Int) (l : List En) : ByteArray := if verB v = true then ⟨(staB v l).toArray⟩ else ⟨#[]⟩
end Go.Proofs.YtokckapacdpgaaaGreatDoor
