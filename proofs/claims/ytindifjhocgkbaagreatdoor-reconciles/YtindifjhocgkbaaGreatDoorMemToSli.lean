import Derived.Laws.AppendOwn
import Derived.WalkKit
import Derived.Lib.AppendZerosOnto
import Derived.Test.YtindifjhocgkbaaGreatDoorFnd
import Derived.Lib.JoinLaws
namespace Go.Proofs.YtindifjhocgkbaaGreatDoor
open Go.RowKit
variable {P : Program}

/-- 'copy' where an element has several cells. -/
theorem run_copy_rowK (w : World) (dT sT ty elem : TypeId) (size g o dLen dCap : Nat) (a : Addr) (sLen sCap : Nat) (cur : Array Value) (t : TypeId) (cs : List Value)
    (hu : P.underlying dT = some (.slice elem)) (hs : (P.info? elem).map (·.size) = some size)
    (hg : w.heap[g]? = some (.cells cur t (0, 0))) (hn : cs.length = Nat.min sLen dLen * size)
    (hsrc : ∀ j v, cs[j]? = some v → w.cell? (a.add j) = some v) (hfit : o + cs.length ≤ cur.size) (h1 : ∀ v ∈ cs, v.oneCell' = true) :
    (Builtin.copy_ #[dT, sT] ty #[.slice (some ⟨g, o, none⟩) dLen dCap, .slice (some a) sLen sCap]).run P w =
      .ok (goInt (Nat.min sLen dLen)) (w.setRow g (cur.toList.take o ++ cs ++ cur.toList.drop (o + cs.length)).toArray) := by
  have hl := run_loadCells_list (P := P) w a cs hsrc
  have hst := run_storeCells_at P g o t cs 0 cur w hg (by simpa using hfit) h1
  cases hq : P.info? elem with
  | none => simp [hq] at hs
  | some i =>
    have hi : i.size = size := by simpa [hq] using hs
    simp only [Nat.add_zero] at hst
    simp [Builtin.copy_, run_underlying hu, Builtin.lenOf, Builtin.firstCells, sizeOf, typeInfo, hq, hi, ← hn, hl, hst]

/-- 'clear' of a slice. -/
theorem run_clear_row (w : World) (t ty elem : TypeId) (z : Value) (g o n cap : Nat) (cur : Array Value) (e : TypeId)
    (hu : P.underlying t = some (.slice elem)) (hz : (zeroValue elem).run P w = .ok z w)
    (hg : w.heap[g]? = some (.cells cur e (0, 0))) (hfit : o + (n + 1) * z.cells.size ≤ cur.size) (h1 : ∀ v ∈ (Builtin.zeroCells z.cells (n + 1)).toList, v.oneCell' = true) :
    (Builtin.clear_ #[t] ty #[.slice (some ⟨g, o, none⟩) (n + 1) cap]).run P w =
      .ok (.tuple #[]) (w.setRow g (cur.toList.take o ++ (Builtin.zeroCells z.cells (n + 1)).toList ++ cur.toList.drop (o + (n + 1) * z.cells.size)).toArray) := by
  have hlen : (Builtin.zeroCells z.cells (n + 1)).toList.length = (n + 1) * z.cells.size := by simp [Builtin.zeroCells]
  have hst := run_storeCells_at P g o e (Builtin.zeroCells z.cells (n + 1)).toList 0 cur w hg (by rw [hlen]; simpa using hfit) h1
  rw [hlen] at hst
  simp only [Nat.add_zero] at hst
  simp [Builtin.clear_, run_underlying hu, hz, hst]

theorem grown_setRow (w : World) (g : Nat) (cur' : Array Value) : w.grownBy (w.setRow g cur') (some g) := by
  refine ⟨rfl, rfl, rfl, by simp [World.setRow], fun k hk hne => ?_⟩
  have : k ≠ g := fun e => hne (by rw [e])
  simp [World.setRow, Array.getElem?_modify, Ne.symm this]
theorem grown_trn {a b c : World} {r : Option Nat} (h1 : a.grownBy b r) (h2 : b.grownBy c r) : a.grownBy c r :=
  ⟨h2.os.trans h1.os, h2.tape.trans h1.tape, h2.output.trans h1.output, Nat.le_trans h1.size h2.size, fun k hk hne => (h2.block k (Nat.lt_of_lt_of_le hk h1.size) hne).trans (h1.block k hk hne)⟩
theorem grown_drw {a b : World} {r : Option Nat} (h1 : a.grownBy b r) : a.grownBy b.drew r := ⟨h1.os, h1.tape, h1.output, h1.size, h1.block⟩
theorem owns_setRow {w : World} {base g e size n cap : Nat} {cur cur' : Array Value} {xs : List Value} (hg : w.heap[g]? = some (.cells cur e (0, 0))) (hb : base ≤ g) (hn : n ≤ cap) (hc : cap ≤ maxLen) (hs : cur'.size = cap * size) (hx : cur'.toList.take (n * size) = xs) :
    (w.setRow g cur').ownsRow base e size (.slice (some ⟨g, 0, none⟩) n cap) n xs := by
  refine ⟨?_, .inr ⟨g, cap, cur', rfl, hb, setRow_heap w g cur _ e _ hg, hn, hc, hs, hx⟩⟩
  rw [← hx, List.length_take, Array.length_toList, hs]
  exact Nat.min_eq_left (Nat.mul_le_mul_right _ hn)
end Go.Proofs.YtindifjhocgkbaaGreatDoor
namespace Go.Proofs.YtindifjhocgkbaaGreatDoor
open Go.RowKit

theorem Tryz.infoEn : (Tryz.prog.info? 183).map (fun i => (i.zero, i.size, i.bytes)) = some (some (.agg #[.int .i64 0, .string ⟨#[]⟩, .string ⟨#[]⟩]), 3, 40) := by kernel_rfl
theorem wp_clear_run {P : Program} (w : World) {o : Oper} {a : Act} {K : Act → World → Prop} {Q : Exit → Act → World → Prop} (d : Operand) (t : TypeId)
    (ho : o.op = .call { callee := .builtin .clear, args := #[d], argTypes := #[t] }) (v : Value) (hd : a.eval d = v) {v' : Value} {w' : World}
    (hr : (Builtin.clear_ #[t] o.type #[v]).run P w = .ok v' w') (h : K (a.put o.dst v') w') : o.wp P a w K Q := by
  unfold Oper.wp execOp
  simp only [ho, resolve, invoke, builtin, Sem.run_bind, Sem.run_pure, Result.andThen_ok, List.map_toArray, List.map_cons, List.map_nil, hd, hr]
  exact h
theorem wpList_clear_run {P : Program} (w : World) {ops : Array Oper} {rest : List Oper} {o : Oper} {a : Act} {Q : Exit → Act → World → Prop} (hgd : o.guard = none) (d : Operand) (t : TypeId)
    (ho : o.op = .call { callee := .builtin .clear, args := #[d], argTypes := #[t] }) (v : Value) (hd : a.eval d = v) {v' : Value} {w' : World}
    (hr : (Builtin.clear_ #[t] o.type #[v]).run P w = .ok v' w') (h : wpList P ops Q rest (a.put o.dst v') w') : wpList P ops Q (o :: rest) a w :=
  wpList_plain hgd fun _ hK => wp_clear_run w d t ho v hd hr (hK _ _ h)

theorem eqlNil (w : World) : (binOp .eql 112 (.slice none 0 0) (.slice none 0 0)).run Tryz.prog w = .ok (.bool true) w := by kernel_rfl
theorem eqlSome (a : Addr) (n c : Nat) (w : World) : (binOp .eql 112 (.slice (some a) n c) (.slice none 0 0)).run Tryz.prog w = .ok (.bool false) w := by kernel_rfl
set_option maxRecDepth 100000 in
set_option maxHeartbeats 2000000 in
theorem lClone (base : Nat) (v : Value) (l : List En) (w : World) (h : w.ownsRow base 183 3 v l.length (cellsE l)) (hn : l.length ≤ 1000000) :
    Calls Tryz.prog 97 #[v] w fun e w' => ∃ v', e = .returned v' ∧ w'.ownsRow w.heap.size 183 3 v' l.length (cellsE l) ∧ Below w.heap.size w w' := by
  obtain ⟨i0, hi, hz0, hz1, hz2⟩ := info_parts Tryz.infoEn
  have hn1 := eqlNil
  have hn2 := eqlSome
  rcases h.2 with ⟨rfl, hl⟩ | ⟨g, cap, cur, rfl, hb, hg, hnc, hcm, hcs, htk⟩
  · go_enter Tryz.func97, Tryz.ntmps97
    go_wp2
    go_ret
    obtain rfl := List.length_eq_zero_iff.1 hl
    exact ⟨_, rfl, World.ownsRow_nil _ _ _ _, Below.refl _ _⟩
  · have hlt : g < w.heap.size := (Array.getElem?_eq_some_iff.1 hg).1
    have hcells := (h.alloc (.cells #[] 183)).cells (g := g) rfl
    have hmade : (w.alloc (.cells #[] 183)).ownsRow w.heap.size 183 3 (.slice (some ⟨w.heap.size, 0, none⟩) 0 0) 0 [] := World.ownsRow_made w #[] 0 (Nat.le_refl _) (by unfold maxLen; omega) (by simp)
    go_enter Tryz.func97, Tryz.ntmps97
    go_wp2_with (at_builtin; refine wpList_append_own _ rfl _ _ 112 rfl w.heap.size 183 i0 (.agg #[.int .i64 0, .string ⟨#[]⟩, .string ⟨#[]⟩]) 3 40 Tryz.underlying112 hi hz0 hz1 hz2 rfl (by decide) _ _ _ rfl hmade ⟨g, 0, none⟩ l.length cap (cellsE l) rfl (cellsE_length l) hcells (cellsE_one l) (by unfold maxLen; omega) (by omega) (by simp) ?_; intro v' w1 hown1 hgrow1 _)
    go_ret
    simp only [Nat.zero_add, List.nil_append] at hown1
    exact ⟨_, rfl, hown1, (below_alloc w _).grown hgrow1 (by simp) (fun k hk => (hmade.lt k hk).1)⟩

theorem cellsE_take (l : List En) (i : Nat) : (cellsE l).take (i * 3) = cellsE (l.take i) := by
  by_cases h : i ≤ l.length
  · have e : cellsE l = cellsE (l.take i) ++ cellsE (l.drop i) := by rw [← cellsE_append, List.take_append_drop]
    rw [e, List.take_left' (by rw [cellsE_length, List.length_take]; omega)]
  · rw [List.take_of_length_le (by omega : l.length ≤ i), List.take_of_length_le (by rw [cellsE_length]; omega)]
theorem cellsE_drop (l : List En) (i : Nat) : (cellsE l).drop (i * 3) = cellsE (l.drop i) := by
  by_cases h : i ≤ l.length
  · have e : cellsE l = cellsE (l.take i) ++ cellsE (l.drop i) := by rw [← cellsE_append, List.take_append_drop]
    rw [e, List.drop_left' (by rw [cellsE_length, List.length_take]; omega)]
  · rw [List.drop_of_length_le (by omega : l.length ≤ i), List.drop_of_length_le (by rw [cellsE_length]; omega)]; rfl
/-- What a row of entries is, with its memory named. -/
structure RowE (w : World) (base g cap : Nat) (cur : Array Value) (l : List En) : Prop where
  hg : w.heap[g]? = some (.cells cur 183 (0, 0))
  hb : base ≤ g
  hnc : l.length ≤ cap
  hcm : cap ≤ maxLen
  hcs : cur.size = cap * 3
  htk : cur.toList.take (l.length * 3) = cellsE l
theorem RowE.cell {w : World} {base g cap : Nat} {cur : Array Value} {l : List En} (h : RowE w base g cap cur l) {j : Nat} {u : Value} (hu : (cellsE l)[j]? = some u) : w.cell? ⟨g, j, none⟩ = some u := by
  rw [cell_of_row w g j cur _ _ h.hg]
  rw [← h.htk, List.getElem?_take] at hu
  split at hu
  · simpa using hu
  · cases hu
theorem RowE.owns {w : World} {base g cap : Nat} {cur : Array Value} {l : List En} (h : RowE w base g cap cur l) : w.ownsRow base 183 3 (.slice (some ⟨g, 0, none⟩) l.length cap) l.length (cellsE l) :=
  ⟨cellsE_length l, .inr ⟨g, cap, cur, rfl, h.hb, h.hg, h.hnc, h.hcm, h.hcs, h.htk⟩⟩

set_option maxRecDepth 100000 in
set_option maxHeartbeats 2000000 in
theorem lDelete (base g cap : Nat) (cur : Array Value) (l : List En) (n i : Nat) (w : World) (h : RowE w base g cap cur l) (hl : l.length = n + 1) (hi : i ≤ n) (hn : n ≤ 1000000) :
    Calls Tryz.prog 119 #[.slice (some ⟨g, 0, none⟩) ((n + 1 : Nat)) cap, .int .i64 i, .int .i64 ((i : Int) + 1)] w fun e w' => e = .returned (.slice (some ⟨g, 0, none⟩) n cap) ∧ (∃ cur', RowE w' base g cap cur' (l.take i ++ l.drop (i + 1))) ∧ w.grownBy w' (some g) := by
  obtain ⟨i0, hi0, hz0, hz1, hz2⟩ := info_parts Tryz.infoEn
  have hnc := h.hnc
  have hcs := h.hcs
  rw [hl] at hnc
  have htk := h.htk
  rw [hl] at htk
  have hld : (cellsE (l.drop (i + 1))).length = (n - i) * 3 := by rw [cellsE_length, List.length_drop, hl]; omega
  obtain ⟨C1, hC1⟩ : ∃ C1 : Array Value, C1 = (cur.toList.take (i * 3) ++ cellsE (l.drop (i + 1)) ++ cur.toList.drop (i * 3 + (n - i) * 3)).toArray := ⟨_, rfl⟩
  have hC1s : C1.size = cap * 3 := by
    rw [hC1, List.size_toArray]; simp only [List.length_append, List.length_take, List.length_drop, Array.length_toList, hld, hcs]; omega
  have hr1 : ∀ ty (b : Addr), ((cap = i + 1 ∧ b = ⟨g, 0, none⟩) ∨ b = ⟨g, (i + 1) * 3, none⟩) → (Builtin.append_ #[112, 112] ty #[.slice (some ⟨g, 0, none⟩) i cap, .slice (some b) (n - i) (cap - (i + 1))]).run Tryz.prog w.drew = .ok (.slice (some ⟨g, 0, none⟩) n cap) (w.drew.setRow g C1) := fun ty b hbb => by
    have hh := run_append_room (P := Tryz.prog) w.drew 112 ty 183 i0 Tryz.underlying112 hi0 g i cap cur h.hg b (n - i) (cap - (i + 1)) (cellsE (l.drop (i + 1))) (by rw [hz1, hld]) (fun j u hu => by
      rcases hbb with ⟨hc, rfl⟩ | rfl
      · have : n - i = 0 := by omega
        rw [this] at hld
        have := List.length_eq_zero_iff.1 (by simpa using hld)
        rw [this] at hu; simp at hu
      · rw [Addr.add_lit]
        refine h.cell ?_
        rw [← cellsE_drop, List.getElem?_drop] at hu
        exact hu) (cellsE_one _) (by omega) (by rw [hz1, hld, hcs]; omega)
    rw [hz1, hld, ← hC1, show i + (n - i) = n by omega] at hh
    exact hh
  have hh1 : (w.drew.setRow g C1).heap[g]? = some (.cells C1 183 (0, 0)) := setRow_heap _ _ cur _ _ _ h.hg
  have hzl : (Builtin.zeroCells (Value.agg #[.int .i64 0, .string ⟨#[]⟩, .string ⟨#[]⟩]).cells (0 + 1)).toList = [Value.int .i64 0, Value.string ⟨#[]⟩, Value.string ⟨#[]⟩] := by kernel_rfl
  obtain ⟨C2, hC2⟩ : ∃ C2 : Array Value, C2 = (C1.toList.take (n * 3) ++ [Value.int .i64 0, Value.string ⟨#[]⟩, Value.string ⟨#[]⟩] ++ C1.toList.drop (n * 3 + 3)).toArray := ⟨_, rfl⟩
  have hr2 : ∀ ty, (Builtin.clear_ #[112] ty #[.slice (some ⟨g, n * 3, none⟩) 1 (cap - n)]).run Tryz.prog (w.drew.setRow g C1) = .ok (.tuple #[]) ((w.drew.setRow g C1).setRow g C2) := fun ty => by
    have hh := run_clear_row (P := Tryz.prog) (w.drew.setRow g C1) 112 ty 183 (.agg #[.int .i64 0, .string ⟨#[]⟩, .string ⟨#[]⟩]) g (n * 3) 0 (cap - n) C1 183 Tryz.underlying112 (Tryz.zeroValue183 _) hh1 (by rw [hC1s]; show n * 3 + 1 * 3 ≤ _; omega) (by rw [hzl]; intro v hv; simp at hv; rcases hv with rfl | rfl <;> rfl)
    rw [hzl] at hh
    rw [hC2]; exact hh
  have hfin : RowE ((w.drew.setRow g C1).setRow g C2) base g cap C2 (l.take i ++ l.drop (i + 1)) := by
    refine ⟨setRow_heap _ _ C1 _ _ _ hh1, h.hb, by simp; omega, h.hcm, ?_, ?_⟩
    · rw [hC2, List.size_toArray]; simp only [List.length_append, List.length_take, List.length_drop, Array.length_toList, List.length_cons, List.length_nil, hC1s]; omega
    · rw [hC2, List.toList_toArray, show (l.take i ++ l.drop (i + 1)).length = n by simp; omega, List.append_assoc, List.take_left' (by rw [List.length_take, Array.length_toList, hC1s]; omega), hC1, List.toList_toArray, cellsE_append, ← cellsE_take, ← htk, List.take_take, show min (i * 3) ((n + 1) * 3) = i * 3 by omega]
      exact List.take_left' (by rw [List.length_append, List.length_take, Array.length_toList, hld, hcs]; omega)
  have hgr : w.grownBy ((w.drew.setRow g C1).setRow g C2) (some g) := grown_trn (have q := grown_setRow w.drew g C1; ⟨q.os, q.tape, q.output, q.size, q.block⟩) (grown_setRow _ g C2)
  have hii : (i : Int) ≤ (n : Int) := by omega
  have hii1 : (i : Int) ≤ (i : Int) + 1 := by omega
  have hcI : ((n : Nat) : Int) + 1 ≤ (cap : Int) := by omega
  have hcap1 : ¬ cap = i := by omega
  have hcap2 : ¬ cap = n := by omega
  have hic : i ≤ cap := by omega
  have hin : i ≤ n + 1 := by omega
  have hnc' : n ≤ cap := by omega
  have hi1c : (i : Int) + 1 ≤ (cap : Int) := by omega
  have hi1l : (i : Int) + 1 ≤ (n : Int) + 1 := by omega
  have htn : ((i : Int) + 1).toNat = i + 1 := by omega
  have h0i : (0 : Int) ≤ (i : Int) + 1 := by omega
  clear hC1 hC2 hC1s hzl hld htk hl
  have H : Hid (RowE w base g cap cur l) := h
  clear h
  by_cases hc2 : cap = i + 1
  · obtain rfl : n = i := by omega
    have hr1' : ∀ ty, (Builtin.append_ #[112, 112] ty #[.slice (some ⟨g, 0, none⟩) n (n + 1), .slice (some ⟨g, 0, none⟩) 0 0]).run Tryz.prog w.drew = .ok (.slice (some ⟨g, 0, none⟩) n (n + 1)) (w.drew.setRow g C1) := fun ty => by
      have hh := hr1 ty ⟨g, 0, none⟩ (.inl ⟨hc2, rfl⟩)
      rw [hc2] at hh
      simpa using hh
    clear hr1
    subst hc2
    have hr2' : ∀ ty, (Builtin.clear_ #[112] ty #[.slice (some ⟨g, n * 3, none⟩) 1 1]).run Tryz.prog (w.drew.setRow g C1) = .ok (.tuple #[]) ((w.drew.setRow g C1).setRow g C2) := fun ty => by simpa using hr2 ty
    clear hr2
    go_enter Tryz.func119, Tryz.ntmps119
    go_wp2_with fail
    refine region_tail 6 (by kernel_rfl) (by kernel_rfl) ?_
    simp only [List.take_succ_cons, List.take_zero, List.drop_succ_cons, List.drop_zero]
    still_step
    still_step
    still_step
    still_step
    still_step
    still_step
    refine wpStill_nil ?_
    go_wp2_with (first | (at_builtin; refine Lib.wpList_append_run _ rfl _ _ _ _ rfl _ _ rfl rfl _ _ (hr1' _) ?_) | (at_builtin; refine wpList_clear_run _ rfl _ _ rfl _ rfl (hr2' _) ?_))
    go_ret
    exact ⟨rfl, ⟨C2, hfin⟩, hgr⟩
  · have hr1' := fun ty => hr1 ty ⟨g, (i + 1) * 3, none⟩ (.inr rfl)
    clear hr1
    go_enter Tryz.func119, Tryz.ntmps119
    go_wp2_with fail
    refine region_tail 6 (by kernel_rfl) (by kernel_rfl) ?_
    simp only [List.take_succ_cons, List.take_zero, List.drop_succ_cons, List.drop_zero]
    still_step
    still_step
    still_step
    still_step
    still_step
    still_step
    refine wpStill_nil ?_
    go_wp2_with (first | (at_builtin; refine Lib.wpList_append_run _ rfl _ _ _ _ rfl _ _ rfl rfl _ _ (hr1' _) ?_) | (at_builtin; refine wpList_clear_run _ rfl _ _ rfl _ rfl (hr2 _) ?_))
    go_ret
    exact ⟨rfl, ⟨C2, hfin⟩, hgr⟩
end Go.Proofs.YtindifjhocgkbaaGreatDoor
