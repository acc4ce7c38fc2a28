import Derived.Test.YtindifjhocgkbaaGreatDoorRefD
import Derived.Test.YtindifjhocgkbaaGreatDoorLstB
namespace Go.Proofs.YtindifjhocgkbaaGreatDoor
open Go.RowKit

/-- What the loop of With knows. -/
structure WI (w wr : World) (e : En) (out : List En) (y : Value) : Prop where
  own : wr.ownsRow (w.heap.size + 1) 87 3 y out.length (cellsE out)
  c0 : wr.cell? ⟨w.heap.size, 0, none⟩ = some (.int .i64 e.t)
  c1 : wr.cell? ⟨w.heap.size, 1, none⟩ = some (.string e.k)
  c2 : wr.cell? ⟨w.heap.size, 2, none⟩ = some (.string e.v)
  q : Below w.heap.size w wr
theorem WI.keep {w wr w' : World} {e : En} {out : List En} {y : Value} (h : WI w wr e out y) (q : Below wr.heap.size wr w') : WI w w' e out y :=
  ⟨owns_below h.own q, (q.cell (cell_lt h.c0)).trans h.c0, (q.cell (cell_lt h.c1)).trans h.c1, (q.cell (cell_lt h.c2)).trans h.c2, below_trans h.q q⟩
theorem WI.push {w wr w' : World} {e : En} {out out' : List En} {y y' : Value} (h : WI w wr e out y) (ho : w'.ownsRow (w.heap.size + 1) 87 3 y' out'.length (cellsE out')) (g : wr.grownBy w' y.ownBlock) : WI w w' e out' y' := by
  have ne : some w.heap.size ≠ y.ownBlock := fun e1 => by have := (h.own.lt _ e1.symm).1; omega
  exact ⟨ho, g.cell h.c0 ne, g.cell h.c1 ne, g.cell h.c2 ne, grown_below h.q h.own g h.q.size (by omega)⟩
theorem wst_take {e : En} {l : List En} {j : Nat} (h : j < l.length) {gone : Bool} {out : List En} {inn : Bool} (hs : (l.take j).foldl (wst e) ([], gone) = (out, inn)) : (l.take (j + 1)).foldl (wst e) ([], gone) = wst e (out, inn) l[j] := by
  rw [List.take_succ_eq_append_getElem h, List.foldl_append, hs]; rfl
theorem wst_length {e : En} : ∀ (l : List En) (s : List En × Bool), (l.foldl (wst e) s).1.length ≤ s.1.length + 2 * l.length
  | [], s => by simp
  | x :: l, s => by
    have ih := wst_length (e := e) l (wst e s x)
    have h1 : (wst e s x).1.length ≤ s.1.length + 2 := by unfold wst; split <;> (try split) <;> simp
    simp only [List.foldl_cons, List.length_cons]
    omega

theorem ba_neq {a b : ByteArray} (h : ¬ a = b) : (a.toList == b.toList) = false := by
  rw [ByteArray.toList_eq, ByteArray.toList_eq, beq_eq_false_iff_ne]
  exact fun e => h (ba_ext' e)
set_option maxRecDepth 10000 in
set_option maxHeartbeats 4000000 in
theorem rWith (x : Value) (l : List En) (e : En) (gone : Bool) (w : World) (hI : EnsIn w x l) (hl : l.length ≤ 1000000) :
    Calls Tryz.prog 36 #[x, .agg #[.int .i64 e.t, .string e.k, .string e.v], .bool gone] w fun ev w' => ∃ y, ev = .returned y ∧ w'.ownsRow w.heap.size 87 3 y (withR l e gone).length (cellsE (withR l e gone)) ∧ Below w.heap.size w w' := by
  obtain ⟨i0, hi, hz0, hz1, hz2⟩ := info_parts Tryz.infoRe
  obtain ⟨ao, cp, rfl⟩ := hI.slice
  have hW0 : WI w (w.alloc (.cells #[.int .i64 e.t, .string e.k, .string e.v] 87)) e [] (.slice none 0 0) := ⟨World.ownsRow_nil _ _ _ _, by simp, by simp, by simp, below_alloc _ _⟩
  go_enter Tryz.func36, Tryz.ntmps36
  go_wp2_with fail
  generalize w.alloc (.cells #[.int .i64 e.t, .string e.k, .string e.v] 87) = W0 at *
  go_loopw [7, 8, 9] (fun y b i wr => ∃ (j : Nat) (out : List En) (inn : Bool), j ≤ l.length ∧ i = .int .i64 j ∧ b = .bool inn ∧ (l.take j).foldl (wst e) ([], gone) = (out, inn) ∧ WI w wr e out y)
    (fun _ _ i _ => l.length - (intOf i).toNat)
  case atStart => exact ⟨0, [], gone, Nat.zero_le _, rfl, rfl, rfl, hW0⟩
  case round =>
    clear hW0
    obtain ⟨j, out, inn, hj, rfl, rfl, hfo, hWI⟩ := hrel
    have hol : out.length ≤ 2000000 := by have h := wst_length (e := e) (l.take j) ([], gone); rw [hfo] at h; simp at h; omega
    obtain ⟨yo, yc, rfl⟩ := own_slice hWI.own
    by_cases hlt : j < l.length
    · have HF : Hid ((l.take (j + 1)).foldl (wst e) ([], gone) = wst e (out, inn) l[j]) := wst_take hlt hfo
      clear hfo
      rcases hI with ⟨_, he⟩ | ⟨b, off, cap, hv', hb, hc⟩
      · rw [he] at hlt; simp at hlt
      simp only [Value.slice.injEq] at hv'
      obtain ⟨rfl, _, rfl⟩ := hv'
      have HC : Hid (∀ W', Below w.heap.size w W' → W'.cell? ⟨b, off + j * 3, none⟩ = some (.int .i64 l[j].t) ∧ W'.cell? ⟨b, off + j * 3 + 1, none⟩ = some (.string l[j].k) ∧ W'.cell? ⟨b, off + j * 3 + 2, none⟩ = some (.string l[j].v)) := fun W' q => ⟨(hc.keep hb q).c0 j hlt, (hc.keep hb q).c1 j hlt, (hc.keep hb q).c2 j hlt⟩
      obtain ⟨d0, d1, d2⟩ := HC.out _ hWI.q
      have il : ((j : Nat) : Int) < (l.length : Int) := by omega
      have e0 := hWI.c0
      have e1 := hWI.c1
      have e2 := hWI.c2
      have hbw : b < wr.heap.size := Nat.lt_of_lt_of_le hb hWI.q.size
      generalize l[j] = X at *
      cases hsE : sameE e X
      rotate_left
      · have hs2 : X.t = e.t ∧ X.k = e.k := by simpa [sameE] using hsE
        obtain ⟨hs2, hs3⟩ := hs2
        have HW : Hid (wst e (out, inn) X = (out, inn)) := by show _ = _; simp [wst, hsE]
        rw [hs2] at d0
        rw [hs3] at d1
        clear hs2 hs3
        go_wp2_with fail
        go_quiet (fail)
        go_wp2_with fail
        go_roundw
        case rel => exact ⟨j + 1, out, inn, by omega, by go_num, rfl, by rw [HF.out, HW.out], hWI.keep (below_drawn _ _)⟩
        case measure => simp [intOf]; omega
      · have hne : ¬ (X.t = e.t ∧ X.k = e.k) := by simpa [sameE] using hsE
        have HSE : Hid (sameE e X = false) := hsE
        clear hsE
        rcases (show ¬ X.t = e.t ∨ (X.t = e.t ∧ (X.k.toList == e.k.toList) = false) by by_cases h : X.t = e.t; exact .inr ⟨h, ba_neq (fun h' => hne ⟨h, h'⟩)⟩; exact .inl h) with hn1 | ⟨hn1, hn2⟩
        all_goals
          clear hne
          go_wp2_with fail
          go_quiet (fail)
          try clear hn2
          have hW1 := hWI.keep (below_drawn _ nq)
          clear d0 d1 d2 e0 e1 e2 hWI
          go_wp2_with fail
          clear hn1
          generalize (World.drewN _ nq) = W1 at *
          obtain ⟨d0, d1, d2⟩ := HC.out _ hW1.q
          have e0 := hW1.c0
          have e1 := hW1.c1
          have e2 := hW1.c2
          cases inn
          rotate_left
          · have HW : Hid (wst e (out, true) X = (out ++ [X], true)) := by show _ = _; simp [wst, HSE.out]
            go_quiet (fail)
            have hW2 := hW1.keep (below_drawn _ nq)
            clear d0 d1 d2 e0 e1 e2 hW1
            generalize (World.drewN _ nq) = W2 at *
            obtain ⟨d0, d1, d2⟩ := HC.out _ hW2.q
            have hWa := hW2.keep (below_alloc W2 (.cells #[.int .i64 X.t, .string X.k, .string X.v] 87))
            go_wp2_with (at_builtin; go_must (refine wpList_append_own _ rfl _ _ 36 rfl (w.heap.size + 1) 87 i0 zP 3 40 Tryz.underlying36 hi hz0 hz1 hz2 rfl (by decide) _ _ _ rfl hWa.own ⟨W2.heap.size, 0, none⟩ 1 1 (e3 X) rfl rfl (ren_new W2 _ rfl X) (e3_one X) (by unfold maxLen; omega) (by omega) (by have h1 := cell_lt hWa.c0; simp at h1 ⊢; omega) ?_); intro v6 w6 hown6 hgrow6 _)
            go_roundw
            case rel => exact ⟨j + 1, out ++ [X], true, by omega, by go_num, rfl, by rw [HF.out, HW.out], hWa.push (by rw [cells_snoc, List.length_append]; exact hown6) hgrow6⟩
            case measure => simp [intOf]; omega
          · refine region_tail 8 (by kernel_rfl) (by kernel_rfl) ?_
            simp only [List.take_succ_cons, List.take_zero, List.drop_succ_cons, List.drop_zero]
            iterate 8 still_step
            refine wpStill_nil ?_
            go_wp2_with fail
            refine (rLess e X _).mono ?_
            rintro ev w2 ⟨rfl, q2⟩
            have hW2 := (hW1.keep (below_drew _)).keep q2
            clear d0 d1 d2 e0 e1 e2 hW1 q2
            cases hle : lessB e X
            · have HW : Hid (wst e (out, false) X = (out ++ [X], false)) := by show _ = _; simp [wst, HSE.out, show lessE e X = false from hle]
              obtain ⟨d0, d1, d2⟩ := HC.out _ hW2.q
              have hWa := hW2.keep (below_alloc w2 (.cells #[.int .i64 X.t, .string X.k, .string X.v] 87))
              go_wp2_with (at_builtin; go_must (refine wpList_append_own _ rfl _ _ 36 rfl (w.heap.size + 1) 87 i0 zP 3 40 Tryz.underlying36 hi hz0 hz1 hz2 rfl (by decide) _ _ _ rfl hWa.own ⟨w2.heap.size, 0, none⟩ 1 1 (e3 X) rfl rfl (ren_new w2 _ rfl X) (e3_one X) (by unfold maxLen; omega) (by omega) (by have h1 := cell_lt hWa.c0; simp at h1 ⊢; omega) ?_); intro v6 w6 hown6 hgrow6 _)
              go_roundw
              case rel => exact ⟨j + 1, out ++ [X], false, by omega, by go_num, rfl, by rw [HF.out, HW.out], hWa.push (by rw [cells_snoc, List.length_append]; exact hown6) hgrow6⟩
              case measure => simp [intOf]; omega
            · have HW : Hid (wst e (out, false) X = (out ++ [e, X], true)) := by show _ = _; simp [wst, HSE.out, show lessE e X = true from hle]
              have e0 := hW2.c0
              have e1 := hW2.c1
              have e2 := hW2.c2
              have hWa := hW2.keep (below_alloc w2 (.cells #[.int .i64 e.t, .string e.k, .string e.v] 87))
              have hol2 : (out ++ [e]).length ≤ 2000001 := by simp; omega
              go_wp2_with (first | (at_builtin; (refine wpList_append_own _ rfl _ _ 36 rfl (w.heap.size + 1) 87 i0 zP 3 40 Tryz.underlying36 hi hz0 hz1 hz2 rfl (by decide) _ _ _ rfl hWa.own ⟨w2.heap.size, 0, none⟩ 1 1 (e3 e) rfl rfl (ren_new w2 _ rfl e) (e3_one e) (by unfold maxLen; omega) (by omega) (by have h1 := cell_lt hWa.c0; simp at h1 ⊢; omega) ?_); intro v6 w6 hown6 hgrow6 _; have hWb := hWa.push (out' := out ++ [e]) (by rw [cells_snoc, List.length_append]; exact hown6) hgrow6; obtain ⟨d0, d1, d2⟩ := HC.out _ hWb.q; have hWc := hWb.keep (below_alloc w6 (.cells #[.int .i64 X.t, .string X.k, .string X.v] 87)); clear e0 e1 e2 hWa hown6 hgrow6) | (at_builtin; (refine wpList_append_own _ rfl _ _ 36 rfl (w.heap.size + 1) 87 i0 zP 3 40 Tryz.underlying36 hi hz0 hz1 hz2 rfl (by decide) _ _ _ rfl hWc.own ⟨w6.heap.size, 0, none⟩ 1 1 (e3 X) rfl rfl (ren_new w6 _ rfl X) (e3_one X) (by unfold maxLen; omega) (by omega) (by have h1 := cell_lt hWc.c0; simp at h1 ⊢; omega) ?_); intro v7 w7 hown7 hgrow7 _))
              go_roundw
              case rel => exact ⟨j + 1, out ++ [e, X], true, by omega, by go_num, rfl, by rw [HF.out, HW.out], hWc.push (by rw [show out ++ [e, X] = (out ++ [e]) ++ [X] by simp, cells_snoc, List.length_append]; exact hown7) hgrow7⟩
              case measure => simp [intOf]; omega
    · obtain rfl : j = l.length := by omega
      rw [List.take_length] at hfo
      cases inn
      · have HW : Hid (withR l e gone = out ++ [e]) := by show _ = _; unfold withR; rw [hfo]; rfl
        have e0 := hWI.c0
        have e1 := hWI.c1
        have e2 := hWI.c2
        have hWa := hWI.keep (below_alloc wr (.cells #[.int .i64 e.t, .string e.k, .string e.v] 87))
        go_wp2_with (at_builtin; go_must (refine wpList_append_own _ rfl _ _ 36 rfl (w.heap.size + 1) 87 i0 zP 3 40 Tryz.underlying36 hi hz0 hz1 hz2 rfl (by decide) _ _ _ rfl hWa.own ⟨wr.heap.size, 0, none⟩ 1 1 (e3 e) rfl rfl (ren_new wr _ rfl e) (e3_one e) (by unfold maxLen; omega) (by omega) (by have h1 := cell_lt hWa.c0; simp at h1 ⊢; omega) ?_); intro v6 w6 hown6 hgrow6 _)
        go_ret
        have hWb := hWa.push (out' := out ++ [e]) (by rw [cells_snoc, List.length_append]; exact hown6) hgrow6
        exact ⟨_, rfl, by rw [HW.out]; exact own_mono hWb.own (by omega), hWb.q⟩
      · have HW : Hid (withR l e gone = out) := by show _ = _; unfold withR; rw [hfo]; rfl
        go_wp2
        go_ret
        exact ⟨_, rfl, by rw [HW.out]; exact own_mono hWI.own (by omega), hWI.q⟩
end Go.Proofs.YtindifjhocgkbaaGreatDoor
