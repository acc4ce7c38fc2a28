import Derived.Test.YtindifjhocgkbaaGreatDoorMemToSli
import Derived.Lib.Overlaps
import Derived.Lib.AppendZerosOnto
namespace Go.Proofs.YtindifjhocgkbaaGreatDoor
open Go.RowKit

def e3 (e : En) : List Value := [.int .i64 e.t, .string e.k, .string e.v]
theorem wp_copy_run3 {P : Program} (w : World) {o : Oper} {a : Act} {K : Act → World → Prop} {Q : Exit → Act → World → Prop} (d s : Operand) (t t' : TypeId)
    (ho : o.op = .call { callee := .builtin .copy, args := #[d, s], argTypes := #[t, t'] }) (v u : Value) (hd : a.eval d = v) (hs : a.eval s = u) {v' : Value} {w' : World}
    (hr : (Builtin.copy_ #[t, t'] o.type #[v, u]).run P w = .ok v' w') (h : K (a.put o.dst v') w') : o.wp P a w K Q := by
  unfold Oper.wp execOp
  simp only [ho, resolve, invoke, builtin, Sem.run_bind, Sem.run_pure, Result.andThen_ok, List.map_toArray, List.map_cons, List.map_nil, hd, hs, hr]
  exact h
theorem wpList_copy_run3 {P : Program} (w : World) {ops : Array Oper} {rest : List Oper} {o : Oper} {a : Act} {Q : Exit → Act → World → Prop} (hgd : o.guard = none) (d s : Operand) (t t' : TypeId)
    (ho : o.op = .call { callee := .builtin .copy, args := #[d, s], argTypes := #[t, t'] }) (v u : Value) (hd : a.eval d = v) (hs : a.eval s = u) {v' : Value} {w' : World}
    (hr : (Builtin.copy_ #[t, t'] o.type #[v, u]).run P w = .ok v' w') (h : wpList P ops Q rest (a.put o.dst v') w') : wpList P ops Q (o :: rest) a w :=
  wpList_plain hgd fun _ hK => wp_copy_run3 w d s t t' ho v u hd hs hr (hK _ _ h)

set_option maxRecDepth 100000 in
set_option maxHeartbeats 2000000 in
theorem lInsert_shift (base g cap : Nat) (cur : Array Value) (l : List En) (n i vb : Nat) (e : En) (w : World) (h : RowE w base g cap cur l) (hl : l.length = n) (hi : i < n) (hn : n ≤ 1000000) (hroom : n + 1 ≤ cap) (hvb : vb ≠ g)
    (hv : w.heap[vb]? = some (.cells #[.int .i64 e.t, .string e.k, .string e.v] 183 (0, 0))) :
    Calls Tryz.prog 120 #[.slice (some ⟨g, 0, none⟩) n cap, .int .i64 i, .slice (some ⟨vb, 0, none⟩) 1 1] w fun r w' => r = .returned (.slice (some ⟨g, 0, none⟩) ((n + 1 : Nat)) cap) ∧ (∃ cur', RowE w' base g cap cur' (l.take i ++ e :: l.drop i)) ∧ w.grownBy w' (some g) := by
  obtain ⟨i0, hi0, hz0, hz1, hz2⟩ := info_parts Tryz.infoEn
  have hov : ∀ (W : World) (a : Addr) (lb cb : Nat), a.block = g → W.shape? vb = some (183, 3) → W.shape? g = some (183, cap * 3) → (∀ i, W.frozen? ⟨vb, i, none⟩ = false) → (callFunc 138 #[.slice (some ⟨vb, 0, none⟩) 1 1, .slice (some a) lb cb]).run Tryz.prog W = .ok (.value (.bool false)) W := fun W a lb cb ha h1 h2 h3 => by
    rw [run_callFunc_extern Tryz.func138 (by kernel_rfl) (by kernel_rfl) (by kernel_rfl) (e := Extern.SlicesOverlaps.overlaps #[111, 111] #[4]) (by kernel_rfl),
      Lib.run_overlaps_apart W 111 4 183 Tryz.underlying111 3 Tryz.sizeOf183 ⟨vb, 0, none⟩ a 1 1 lb cb (by rw [ha]; exact hvb) 183 183 3 (cap * 3) h1 (by rw [ha]; exact h2) (by omega) (h3 0) (h3 3)]
    rfl
  have hov1 := hov w ⟨g, (i + 1) * 3, none⟩ (n - i) (cap - (i + 1)) rfl (by unfold World.shape?; rw [hv]; rfl) (by unfold World.shape?; rw [h.hg]; simp [h.hcs]) (fun i => by simp [World.frozen?, hv])
  clear hov
  have hii : (i : Int) ≤ (n : Int) := by omega
  have hne : ¬ (i : Int) = (n : Int) := by omega
  have hcI : ((n : Nat) : Int) + 1 ≤ (cap : Int) := by omega
  have hcap1 : ¬ cap = i := by omega
  have hcap2 : ¬ cap = i + 1 := by omega
  have hin : i ≤ n := by omega
  have hw1 : IntKind.i64.wrap ((i : Int) + 1) = (i : Int) + 1 := by rw [IntKind.wrap_i64]; omega
  have h0i : (0 : Int) ≤ (i : Int) + 1 := by omega
  have hi1n : (i : Int) + 1 ≤ (n : Int) + 1 := by omega
  have hin1 : (i : Int) ≤ (n : Int) + 1 := by omega
  have htn : ((i : Int) + 1).toNat = i + 1 := by omega
  have hsz : (Tryz.prog.info? 183).map (·.size) = some 3 := by rw [hi0]; simp [hz1]
  have hcs := h.hcs
  have htk := h.htk
  rw [hl] at htk
  have hld : (cellsE (l.drop i)).length = (n - i) * 3 := by rw [cellsE_length, List.length_drop, hl]
  obtain ⟨C1, hC1⟩ : ∃ C1 : Array Value, C1 = (cur.toList.take ((i + 1) * 3) ++ cellsE (l.drop i) ++ cur.toList.drop ((i + 1) * 3 + (n - i) * 3)).toArray := ⟨_, rfl⟩
  have hC1s : C1.size = cap * 3 := by
    rw [hC1, List.size_toArray]; simp only [List.length_append, List.length_take, List.length_drop, Array.length_toList, hld, hcs]; omega
  have hmin : Nat.min (n + 1 - i) (n - i) = n - i := Nat.min_eq_right (by omega)
  have hmin2 : Nat.min 1 (n + 1 - i) = 1 := Nat.min_eq_left (by omega)
  have hcp1 : ∀ ty dc sc, (Builtin.copy_ #[112, 112] ty #[.slice (some ⟨g, (i + 1) * 3, none⟩) (n - i) dc, .slice (some ⟨g, i * 3, none⟩) (n + 1 - i) sc]).run Tryz.prog w.drew = .ok (goInt (n - i : Nat)) (w.drew.setRow g C1) := fun ty dc sc => by
    have hh := run_copy_rowK (P := Tryz.prog) w.drew 112 112 ty 183 3 g ((i + 1) * 3) (n - i) dc ⟨g, i * 3, none⟩ (n + 1 - i) sc cur 183 (cellsE (l.drop i)) Tryz.underlying112 hsz h.hg (by rw [hmin, hld]) (fun j u hu => by
      rw [Addr.add_lit]
      refine h.cell ?_
      rw [← cellsE_drop, List.getElem?_drop] at hu
      exact hu) (by rw [hld, hcs]; omega) (cellsE_one _)
    rw [hmin, hld, ← hC1] at hh
    exact hh
  obtain ⟨C2, hC2⟩ : ∃ C2 : Array Value, C2 = (C1.toList.take (i * 3) ++ e3 e ++ C1.toList.drop (i * 3 + 3)).toArray := ⟨_, rfl⟩
  have hcp2 : ∀ (W : World), W.heap[g]? = some (.cells C1 183 (0, 0)) → W.heap[vb]? = some (.cells #[.int .i64 e.t, .string e.k, .string e.v] 183 (0, 0)) → ∀ ty dc, (Builtin.copy_ #[112, 111] ty #[.slice (some ⟨g, i * 3, none⟩) (n + 1 - i) dc, .slice (some ⟨vb, 0, none⟩) 1 1]).run Tryz.prog W = .ok (goInt (1 : Nat)) (W.setRow g C2) := fun W hW hWv ty dc => by
    have hh := run_copy_rowK (P := Tryz.prog) W 112 111 ty 183 3 g (i * 3) (n + 1 - i) dc ⟨vb, 0, none⟩ 1 1 C1 183 (e3 e) Tryz.underlying112 hsz hW (by rw [hmin2]; rfl) (fun j u hu => by
      rw [Addr.add_lit, cell_of_row W vb _ _ _ _ hWv]
      simpa [e3] using hu) (by rw [hC1s]; show i * 3 + 3 ≤ _; omega) (by intro v hv; simp [e3] at hv; rcases hv with rfl | rfl | rfl <;> rfl)
    rw [hmin2] at hh
    rw [hC2]; exact hh
  have hh1 : ∀ W : World, W.heap[g]? = some (.cells cur 183 (0, 0)) → (W.setRow g C1).heap[g]? = some (.cells C1 183 (0, 0)) := fun W hW => setRow_heap _ _ cur _ _ _ hW
  have hh2 : (w.drew.setRow g C1).heap[vb]? = some (.cells #[.int .i64 e.t, .string e.k, .string e.v] 183 (0, 0)) := by
    rw [setRow_other _ _ _ _ hvb]; exact hv
  have hfin : RowE ((w.drew.setRow g C1).setRow g C2) base g cap C2 (l.take i ++ e :: l.drop i) := by
    refine ⟨setRow_heap _ _ C1 _ _ _ (hh1 w.drew h.hg), h.hb, by simp; omega, h.hcm, ?_, ?_⟩
    · rw [hC2, List.size_toArray]; simp only [List.length_append, List.length_take, List.length_drop, Array.length_toList, e3, List.length_cons, List.length_nil, hC1s]; omega
    · have a1 : C1.toList.take (i * 3) = cellsE (l.take i) := by
        rw [hC1, List.toList_toArray, List.append_assoc, List.take_append_of_le_length (by rw [List.length_take, Array.length_toList, hcs]; omega), List.take_take, show min (i * 3) ((i + 1) * 3) = i * 3 by omega, ← cellsE_take, ← htk, List.take_take, show min (i * 3) (n * 3) = i * 3 by omega]
      have a2 : C1.toList.drop (i * 3 + 3) = cellsE (l.drop i) ++ cur.toList.drop ((i + 1) * 3 + (n - i) * 3) := by
        rw [hC1, List.toList_toArray, List.append_assoc, List.drop_left' (by rw [List.length_take, Array.length_toList, hcs]; omega)]
      rw [hC2, List.toList_toArray, a1, a2, show (l.take i ++ e :: l.drop i).length = n + 1 by simp; omega, ← List.append_assoc, List.take_left' (by rw [List.length_append, List.length_append, hld, cellsE_length, List.length_take]; simp [e3]; omega), cellsE_append]
      simp [cellsE, e3]
  have hgr : w.grownBy ((w.drew.setRow g C1).setRow g C2) (some g) := grown_trn (have q := grown_setRow w.drew g C1; ⟨q.os, q.tape, q.output, q.size, q.block⟩) (grown_setRow _ g C2)
  have hcp2' := hcp2 (w.drew.setRow g C1) (hh1 w.drew h.hg) hh2
  clear hcp2 hC1 hC2 hC1s hld htk hmin hmin2 hh1 hh2 hsz
  have H : Hid (RowE w base g cap cur l) := h
  clear h
  go_enter Tryz.func120, Tryz.ntmps120
  go_wp2_with fail
  refine region_tail 8 (by kernel_rfl) (by kernel_rfl) ?_
  simp only [List.take_succ_cons, List.take_zero, List.drop_succ_cons, List.drop_zero]
  still_step
  still_step
  still_step
  still_step
  still_step
  still_step
  still_step
  still_step
  refine wpStill_nil ?_
  go_wp2_with (at_builtin; refine wpList_copy_run3 _ rfl _ _ _ _ rfl _ _ rfl rfl (hcp1 _ _ _) ?_)
  go_ret
  exact ⟨rfl, ⟨C2, hfin⟩, hgr⟩
end Go.Proofs.YtindifjhocgkbaaGreatDoor
