import Derived.Test.YtindifjhocgkbaaGreatDoorChdToTab
import Derived.RangeFuncNested
import Derived.RangeFuncBound
import Derived.RangeFuncCalls
import Derived.RangeFuncLeaves
import Derived.RangeFuncBox
import Derived.Shelf.Abstract
import Derived.Shelf.RegionOpen
import Derived.OwnWalkIn
import Derived.TacticsInMore
import Derived.LoopNIn
import Derived.LoopIn
import Derived.Sort.EveryDepth
import Derived.Test.YtindifjhocgkbaaGreatDoorRmBToNum
import Derived.Sort.MapsRangeIn
import Derived.Shelf.SlSortCmp.NoneTotal
import Derived.Test.YtindifjhocgkbaaGreatDoorCmp
namespace Go.Proofs.YtindifjhocgkbaaGreatDoor
open Go.RowKit Go.Shelf

attribute [local go_sem] Oper.semAt_some

abbrev encE (x : En) : Array Value := #[.agg #[.int .i64 x.t, .string x.k], .string x.v]
theorem take_snoc (es : List En) (k : Nat) (h : k < es.length) : es.take (k + 1) = es.take k ++ [es[k]] := List.take_succ_eq_append_getElem h

set_option maxRecDepth 100000 in
set_option maxHeartbeats 2000000 in
/-- The list's own iterator, in a range over it. -/
theorem all1_in (F : Fence) (n : Nat) (hf : F.fn 107) (hro : F.round = none) (hn : 1 ≤ n) (l Bs n₀ b off cap : Nat) (es : List En) (hlen : es.length ≤ 1000000) (hb : b < n₀) (J Jx : List En → World → Prop)
    (hJa : ∀ pre W o, J pre W → J pre (W.alloc o)) (hY : ∀ pre x W, J pre W → pre.length < es.length → YieldAt F (n - 1) Tryz.prog l (encE x) W fun e W' =>
      (e = .returned (.bool true) ∧ J (pre ++ [x]) W' ∧ Below n₀ W W') ∨ (e = .returned (.bool false) ∧ Jx (pre ++ [x]) W'))
    (W : World) (hn0 : n₀ ≤ W.heap.size) (hBs : W.cell? ⟨Bs, 0, none⟩ = some (.slice (some ⟨b, off, none⟩) es.length cap)) (hc : EnsAt W b off es) (h0 : J [] W) :
    CallsIn F n Tryz.prog 107 #[.func (.yield l) #[] #[], .pointer (some ⟨Bs, 0, none⟩)] W fun e W' => (∃ v, e = .returned v) ∧
      ((∃ ys, ys = es ∧ J ys W') ∨ (∃ pre, (∃ k, k ≤ es.length ∧ pre = es.take k) ∧ Jx pre W')) := by
  refine callsIn_of_wp Tryz.func107 rfl hf ?_ hro
  simp only [Tryz.ntmps107, List.size_toArray, List.length_cons, List.length_nil, Nat.reduceAdd, Nat.reduceSub, Array.replicate_succ, Array.replicate_zero, List.push_toArray, List.append_toArray, List.nil_append, List.cons_append]
  gi_wp2
  gi_loopw [7] (fun i wr => ∃ k : Nat, k ≤ es.length ∧ i = .int .i64 k ∧ J (es.take k) wr ∧ Below n₀ W wr)
    (fun i _ => es.length - (intOf i).toNat)
  case atStart => exact ⟨0, Nat.zero_le _, rfl, h0, Below.refl _ _⟩
  case round =>
    obtain ⟨k, hk, rfl, hJs, hnx⟩ := hrel
    by_cases hlt : k < es.length
    · have d0 := (hc.keep hb hnx).c0 k hlt
      have d1 := (hc.keep hb hnx).c1 k hlt
      have d2 := (hc.keep hb hnx).c2 k hlt
      have il : ((k : Nat) : Int) < (es.length : Int) := by omega
      have hsw : n₀ ≤ wr.heap.size := Nat.le_trans hn0 hnx.size
      obtain ⟨fn, tmps, assign, body, hy, hR⟩ := hY (es.take k) es[k] (wr.alloc (.cells #[.int .i64 es[k].t, .string es[k].k, .string es[k].v] 183)) (hJa _ _ _ hJs) (by simp; omega)
      gi_wp2
      refine hR.mono ?_
      rintro e W3 (⟨rfl, hJ3, hk3⟩ | ⟨rfl, hJx3⟩)
      · gi_wp2
        go_roundw
        case rel => exact ⟨k + 1, by omega, by go_num, by rw [take_snoc es k hlt]; exact hJ3, hnx.trans (((Below.refl _ wr).alloc hsw _).trans hk3)⟩
        case measure => simp [intOf]; omega
      · gi_wp2
        refine bodyPost_ret (results_none rfl _ _ _) rfl ?_
        exact ⟨⟨_, rfl⟩, .inr ⟨_, ⟨k + 1, by omega, (take_snoc es k hlt).symm⟩, hJx3⟩⟩
    · obtain rfl : k = es.length := by omega
      gi_wp2
      go_end0
      exact ⟨⟨_, rfl⟩, .inl ⟨_, List.take_length, hJs⟩⟩

set_option maxRecDepth 100000 in
set_option maxHeartbeats 1000000 in
theorem all1_nil_in (F : Fence) (n : Nat) (hf : F.fn 107) (hro : F.round = none) (l Bs : Nat) (J : List En → World → Prop) (W : World) (hBs : W.cell? ⟨Bs, 0, none⟩ = some (.slice none 0 0)) (h0 : J [] W) :
    CallsIn F n Tryz.prog 107 #[.func (.yield l) #[] #[], .pointer (some ⟨Bs, 0, none⟩)] W fun e W' => (∃ v, e = .returned v) ∧ J [] W' := by
  refine callsIn_of_wp Tryz.func107 rfl hf ?_ hro
  simp only [Tryz.ntmps107, List.size_toArray, List.length_cons, List.length_nil, Nat.reduceAdd, Nat.reduceSub, Array.replicate_succ, Array.replicate_zero, List.push_toArray, List.append_toArray, List.nil_append, List.cons_append]
  gi_wp2
  gi_loopw [7] (fun i wr => i = .int .i64 0 ∧ J [] wr) (fun _ _ => 0)
  case atStart => exact ⟨rfl, h0⟩
  case round =>
    obtain ⟨rfl, hJs⟩ := hrel
    gi_wp2
    go_end0
    exact ⟨⟨_, rfl⟩, hJs⟩

set_option maxHeartbeats 1000000 in
/-- All hands back a function value over a box of the list. -/
theorem all_in (F : Fence) (n : Nat) (hf : F.fn 81) (hro : F.round = none) (a : Option Addr) (len cap : Nat) (w : World) :
    CallsIn F n Tryz.prog 81 #[.slice a len cap] w fun e w' => e = .returned (.func (.func 107) #[] #[.pointer (some ⟨w.heap.size, 0, none⟩)]) ∧ w' = w.alloc (.cells #[.slice a len cap] 112) := by
  refine callsIn_of_wp Tryz.func81 rfl hf ?_ hro
  simp only [Tryz.ntmps81, List.size_toArray, List.length_cons, List.length_nil, Nat.reduceAdd, Nat.reduceSub, Array.replicate_succ, Array.replicate_zero, List.push_toArray, List.append_toArray, List.nil_append, List.cons_append]
  gi_wp2
  go_ret
  exact ⟨rfl, rfl⟩

/-- The entries of a slice that lies below n₀. -/
def EnsBelow (n₀ : Nat) (W : World) (v : Value) (es : List En) : Prop := (v = .slice none 0 0 ∧ es = []) ∨ ∃ b off cap, v = .slice (some ⟨b, off, none⟩) es.length cap ∧ b < n₀ ∧ EnsAt W b off es
theorem EnsBelow.keep {n₀ : Nat} {A B : World} (h : Below n₀ A B) {v : Value} {es : List En} : EnsBelow n₀ A v es → EnsBelow n₀ B v es
  | .inl e => .inl e
  | .inr ⟨b, off, cap, e, hb, hc⟩ => .inr ⟨b, off, cap, e, hb, hc.keep hb h⟩
theorem EnsBelow.of {w : World} {v : Value} {es : List En} (h : EnsIn w v es) : EnsBelow w.heap.size w v es := h

theorem all_stops (F : Fence) (n : Nat) (hf : F.fn 107) (hro : F.round = none) (hn : 1 ≤ n) (Bs n₀ : Nat) (v : Value) (es : List En) (hlen : es.length ≤ 1000000) (w : World) (hBs : Bs < w.heap.size) (hn₀ : n₀ ≤ w.heap.size)
    (hc : w.cell? ⟨Bs, 0, none⟩ = some v) (hI : EnsBelow n₀ w v es) :
    SeqStopsK F n Tryz.prog 107 #[.pointer (some ⟨Bs, 0, none⟩)] encE (Below n₀) (fun ys => ys = es) (fun pre => ∃ k, k ≤ es.length ∧ pre = es.take k) es.length w := fun l J Jx W hW hJ _ hY h0 => by
  have hc' := (hW.cell (p := ⟨Bs, 0, none⟩) hBs).trans hc
  have hJa : ∀ pre W o, J pre W → J pre (W.alloc o) := fun pre W o h => hJ pre W _ none h (World.grownBy_alloc W o none) (fun r e => by cases e)
  rcases hI.keep (hW.mono hn₀) with ⟨rfl, rfl⟩ | ⟨b, off, cap, rfl, hb, hcs⟩
  · exact (all1_nil_in F n hf hro l Bs J W hc' h0).mono fun e W' ⟨he, hj⟩ => ⟨he, .inl ⟨_, rfl, hj⟩⟩
  · exact all1_in F n hf hro hn l Bs n₀ b off cap es hlen hb J Jx hJa hY W (Nat.le_trans hn₀ hW.size) hc' hcs h0
end Go.Proofs.YtindifjhocgkbaaGreatDoor
namespace Go.Proofs.YtindifjhocgkbaaGreatDoor
open Go.RowKit Go.ChangeMaps Go.MapKept Go.WideShapes Go.WideMaps Go.Shelf
attribute [local go_sem] Oper.semAt_some
section
variable {F : Fence} {n : Nat} (w : World) {ops : Array Oper} {rest : List Oper} {o : Oper} {a : Act} {Q : Exit → Act → World → Prop}
theorem wpi_range (hg : o.guard = none) (m : Operand) (hop : o.op = Op.range 128 m) (b : Nat) (l : List En) (hm : a.eval m = .map (some b)) (h : MapIs w b l)
    (hK : ∀ w', RngIs w' b w.heap.size l l → w.grownBy w' none → w'.heap.size = w.heap.size + 1 → wpListIn F n Tryz.prog ops Q rest (a.put o.dst (.pointer (some ⟨w.heap.size, 0, none⟩))) w') :
    wpListIn F n Tryz.prog ops Q (o :: rest) a w := by
  refine wpListIn_plain hg fun K' hK' => ?_
  obtain ⟨w', hrun, r1, r2, r3, _⟩ := h.range
  unfold Oper.wpIn
  refine ⟨by simp [Oper.about, hop], ?_⟩
  rw [Oper.semAt_plain F _ _ (by rw [hop]; intro c hc'; cases hc')]
  simp [execOp, hop, hm, hrun, Result.andThen]
  exact hK' _ _ (hK w' r1 r2 r3)
theorem wpi_next (hg : o.guard = none) (it : Operand) (hop : o.op = Op.next it false) (b r : Nat) (l rst : List En) (hit : a.eval it = .pointer (some ⟨r, 0, none⟩)) (h : RngIs w b r l rst)
    (hDone : rst = [] → wpListIn F n Tryz.prog ops Q rest (a.put o.dst (.tuple #[.bool false])) w)
    (hMore : ∀ (y : En) (rst' : List En) (w' : World), rst.Perm (y :: rst') → RngIs w' b r l rst' → w.grownBy w' (some r) → w'.heap.size = w.heap.size →
      (Instr.entry (.pointer (some ⟨r, 0, none⟩))).run Tryz.prog w' = .ok (.tuple #[keyV y.t y.k, hldV y.v]) w' → wpListIn F n Tryz.prog ops Q rest (a.put o.dst (.tuple #[.bool true, keyV y.t y.k, hldV y.v])) w') :
    wpListIn F n Tryz.prog ops Q (o :: rest) a w := by
  refine wpListIn_plain hg fun K' hK' => ?_
  unfold Oper.wpIn
  refine ⟨by simp [Oper.about, hop], ?_⟩
  rw [Oper.semAt_plain F _ _ (by rw [hop]; intro c hc'; cases hc')]
  rcases h.next o.type with ⟨h0, hrun⟩ | ⟨y, rst', w', hp, hrun, hr, hgr, hsz, hen⟩
  · simp [execOp, hop, hit, hrun, Result.andThen]
    exact hK' _ _ (hDone h0)
  · simp [execOp, hop, hit, hrun, Result.andThen]
    exact hK' _ _ (hMore y rst' w' hp hr hgr hsz hen)
end
theorem RngIs.of_walks {w w' : World} {b r : Nat} {l rest : List En} (h : RngIs w b r l rest) (hk : KeepsWalks w w') : RngIs w' b r l rest := by
  have hb := h
  obtain ⟨es, clock, since, seen, c0, e1, _, _, e2, _⟩ := hb
  exact h.kept ((hk.same _ _ e1 rfl).trans e1.symm) ((hk.same _ _ e2 rfl).trans e2.symm)
theorem RngIs.iter_walk {w : World} {b r : Nat} {l rest : List En} (h : RngIs w b r l rest) : ∃ o : Obj, w.heap[r]? = some o ∧ o.isWalk = true := by
  obtain ⟨es, clock, since, seen, c0, e1, _, _, e2, _⟩ := h
  exact ⟨_, e2, rfl⟩
set_option maxRecDepth 100000 in
set_option maxHeartbeats 1000000 in
/-- The datapath's own iterator, for every loop body: all that it holds, in some order. -/
theorem dump1_in (F : Fence) (n : Nat) (hf : F.fn 200) (hro : F.round = none) (hn : 1 ≤ n) (l Bp H M : Nat) (es : List En) (J Jx : List En → World → Prop)
    (hY : ∀ pre x W, J pre W → pre.length < es.length → YieldAt F (n - 1) Tryz.prog l (encE x) W fun e W' =>
      (e = .returned (.bool true) ∧ J (pre ++ [x]) W' ∧ KeepsWalks W W') ∨ (e = .returned (.bool false) ∧ Jx (pre ++ [x]) W'))
    (W : World) (hJ : AbidesFrom W.heap.size J) (hp : W.cell? ⟨Bp, 0, none⟩ = some (.pointer (some ⟨H, 0, none⟩))) (hH : W.cell? ⟨H, 10, none⟩ = some (.map (some M))) (hm : MapIs W M es) (h0 : J [] W) :
    CallsIn F n Tryz.prog 200 #[.func (.yield l) #[] #[], .pointer (some ⟨Bp, 0, none⟩)] W fun e W' => (∃ v, e = .returned v) ∧
      ((∃ ys, ys.Perm es ∧ J ys W') ∨ (∃ pre, True ∧ Jx pre W')) := by
  refine callsIn_of_wp Tryz.func200 rfl hf ?_ hro
  simp only [Tryz.ntmps200, List.size_toArray, List.length_cons, List.length_nil, Nat.reduceAdd, Nat.reduceSub, Array.replicate_succ, Array.replicate_zero, List.push_toArray, List.append_toArray, List.nil_append, List.cons_append]
  gi_wp2_with (first
    | (gi_at_range; refine wpi_range _ rfl _ rfl M es rfl hm ?_; intro w0 hr0 hg0 hs0)
    | gi_in)
  go_frame
  gi_loopw [3, 4] (fun _ _ wr => ∃ dn rst, (dn ++ rst).Perm es ∧ RngIs wr M W.heap.size es rst ∧ J dn wr) (fun _ _ wr => wr.rangeLeft M W.heap.size)
  case atStart => exact ⟨[], es, List.Perm.refl _, hr0, hJ [] W w0 none h0 hg0 (fun r e => by cases e)⟩
  case round =>
    obtain ⟨dn, rst, hpm, hr, hJs⟩ := hrel
    have hlen := hpm.length_eq
    simp only [List.length_append] at hlen
    gi_wp2_with (first
      | (gi_at_next; refine wpi_next _ rfl _ rfl M W.heap.size es rst rfl hr ?_ ?_)
      | gi_in)
    · rintro rfl
      gi_wp2
      go_end0
      rw [List.append_nil] at hpm
      exact ⟨⟨_, rfl⟩, .inl ⟨dn, hpm, hJs⟩⟩
    · intro y rst' w1 hp1 hr1 hg1 hs1 hen
      have hJ1 : J dn w1 := hJ dn wr w1 (some W.heap.size) hJs hg1 (fun r e => by cases e; exact ⟨Nat.le_refl _, hr.iter_walk⟩)
      have hJ2 : J dn ((w1.alloc (.cells #[.int .i64 y.t, .string y.k] 83)).alloc (.cells #[.string y.v] 159)) :=
        hJ dn _ _ none (hJ dn _ _ none hJ1 (World.grownBy_alloc w1 _ none) (fun r e => by cases e)) (World.grownBy_alloc _ _ none) (fun r e => by cases e)
      have hl1 := hp1.length_eq
      simp only [List.length_cons] at hl1
      obtain ⟨fn, tmps, assign, body, hy, hR⟩ := hY dn y _ hJ2 (by omega)
      clear hs1
      gi_wp2
      refine hR.mono ?_
      rintro e W3 (⟨rfl, hJ3, hk3⟩ | ⟨rfl, hJx3⟩)
      · gi_wp2
        have hr3 := (hr1.of_walks ((KeepsWalks.alloc w1 _).trans (KeepsWalks.alloc _ _))).of_walks hk3
        go_roundw
        case rel => exact ⟨dn ++ [y], rst', by rw [List.append_assoc]; exact (List.Perm.append_left dn hp1.symm).trans hpm, hr3, hJ3⟩
        case measure => rw [hr3.left_eq, hr.left_eq]; omega
      · gi_wp2
        refine bodyPost_ret (results_none rfl _ _ _) rfl ?_
        exact ⟨⟨_, rfl⟩, .inr ⟨dn ++ [y], trivial, hJx3⟩⟩
theorem dump_stops (F : Fence) (n : Nat) (hf : F.fn 200) (hro : F.round = none) (hn : 1 ≤ n) (Bp H M : Nat) (es : List En) (w : World)
    (hp : w.cell? ⟨Bp, 0, none⟩ = some (.pointer (some ⟨H, 0, none⟩))) (hH : w.cell? ⟨H, 10, none⟩ = some (.map (some M))) (hm : MapIs w M es) :
    SeqStopsK F n Tryz.prog 200 #[.pointer (some ⟨Bp, 0, none⟩)] encE KeepsWalks (fun ys => ys.Perm es) (fun _ => True) es.length w := fun l J Jx W hW hJ _ hY h0 =>
  dump1_in F n hf hro hn l Bp H M es J Jx hY W hJ ((hW.cell (p := ⟨Bp, 0, none⟩) (cell_lt hp)).trans hp) ((hW.cell (p := ⟨H, 10, none⟩) (cell_lt hH)).trans hH) (hm.kept (hW.block M hm.lt)) h0
set_option maxHeartbeats 1000000 in
/-- Dump hands back a function value over a box of the datapath. -/
theorem hDump (H : Nat) (w : World) :
    Calls Tryz.prog 199 #[dpV H] w fun e w' => e = .returned (.func (.func 200) #[] #[.pointer (some ⟨w.heap.size, 0, none⟩)]) ∧ w' = w.alloc (.cells #[.pointer (some ⟨H, 0, none⟩)] 123) := by
  go_enter Tryz.func199, Tryz.ntmps199
  go_wp2
  go_ret
  exact ⟨rfl, rfl⟩
end Go.Proofs.YtindifjhocgkbaaGreatDoor
namespace Go.Proofs.YtindifjhocgkbaaGreatDoor
open Go.Shelf
/-- The library's sort at entries, laid. -/
def pdqEn_ren : Go.Shelf.Ren := ⟨fun | 14 => 161 | 20 => 164 | 21 => 165 | 22 => 166 | 23 => 167 | 24 => 168 | 25 => 169 | 26 => 170 | 27 => 171 | 46 => 174 | 47 => 175 | 48 => 176 | 49 => 177 | 50 => 178 | 15 => 162 | 57 => 179 | 28 => 172 | 29 => 173 | n => n, fun | 24 => 183 | 22 => 111 | 3 => 3 | 25 => 253 | 4 => 4 | 0 => 0 | 46 => 260 | 45 => 259 | 50 => 97 | 66 => 267 | 39 => 238 | 55 => 31 | 70 => 271 | 76 => 273 | 77 => 185 | 53 => 236 | 5 => 5 | 9 => 9 | n => n, fun | n => n⟩
theorem pdqEn : Go.Proofs.SlLaysF0.n14 Tryz.prog pdqEn_ren := {
  mixed := by kernel_rfl
  f14 := ⟨Tryz.f161.name, by decide, Tryz.func161.trans (congrArg some (by kernel_rfl))⟩
  f15 := Tryz.func162.trans (congrArg some (by kernel_rfl))
  f20 := ⟨Tryz.f164.name, by decide, Tryz.func164.trans (congrArg some (by kernel_rfl))⟩
  f21 := ⟨Tryz.f165.name, by decide, Tryz.func165.trans (congrArg some (by kernel_rfl))⟩
  f22 := ⟨Tryz.f166.name, by decide, Tryz.func166.trans (congrArg some (by kernel_rfl))⟩
  f23 := ⟨Tryz.f167.name, by decide, Tryz.func167.trans (congrArg some (by kernel_rfl))⟩
  f24 := ⟨Tryz.f168.name, by decide, Tryz.func168.trans (congrArg some (by kernel_rfl))⟩
  f25 := ⟨Tryz.f169.name, by decide, Tryz.func169.trans (congrArg some (by kernel_rfl))⟩
  f26 := ⟨Tryz.f170.name, by decide, Tryz.func170.trans (congrArg some (by kernel_rfl))⟩
  f27 := ⟨Tryz.f171.name, by decide, Tryz.func171.trans (congrArg some (by kernel_rfl))⟩
  f28 := Tryz.func172.trans (congrArg some (by kernel_rfl))
  f29 := Tryz.func173.trans (congrArg some (by kernel_rfl))
  f46 := ⟨Tryz.f174.name, by decide, Tryz.func174.trans (congrArg some (by kernel_rfl))⟩
  f47 := Tryz.func175.trans (congrArg some (by kernel_rfl))
  f48 := Tryz.func176.trans (congrArg some (by kernel_rfl))
  f49 := ⟨Tryz.f177.name, by decide, Tryz.func177.trans (congrArg some (by kernel_rfl))⟩
  f50 := ⟨Tryz.f178.name, by decide, Tryz.func178.trans (congrArg some (by kernel_rfl))⟩
  f57 := ⟨Tryz.f179.name, by decide, Tryz.func179.trans (congrArg some (by kernel_rfl))⟩
  t0 := Tryz.underlying0
  a0 := Tryz.isAgg0
  z0 := Tryz.sizeOf0
  v0 := Tryz.zeroValue0
  t3 := Tryz.underlying3
  a3 := Tryz.isAgg3
  z3 := Tryz.sizeOf3
  v3 := Tryz.zeroValue3
  t4 := Tryz.underlying4
  a4 := Tryz.isAgg4
  z4 := Tryz.sizeOf4
  v4 := Tryz.zeroValue4
  t5 := Tryz.underlying5
  a5 := Tryz.isAgg5
  z5 := Tryz.sizeOf5
  v5 := Tryz.zeroValue5
  t9 := Tryz.underlying9
  a9 := Tryz.isAgg9
  z9 := Tryz.sizeOf9
  v9 := Tryz.zeroValue9
  t22 := Tryz.underlying111
  a22 := Tryz.isAgg111
  z22 := Tryz.sizeOf111
  v22 := Tryz.zeroValue111
  t25 := Tryz.underlying253
  a25 := Tryz.isAgg253
  z25 := Tryz.sizeOf253
  v25 := Tryz.zeroValue253
  t39 := Tryz.underlying238
  a39 := Tryz.isAgg238
  z39 := Tryz.sizeOf238
  v39 := Tryz.zeroValue238
  t45 := Tryz.underlying259
  a45 := Tryz.isAgg259
  z45 := Tryz.sizeOf259
  v45 := Tryz.zeroValue259
  t46 := Tryz.underlying260
  a46 := Tryz.isAgg260
  z46 := Tryz.sizeOf260
  v46 := Tryz.zeroValue260
  t50 := Tryz.underlying97
  a50 := Tryz.isAgg97
  z50 := Tryz.sizeOf97
  v50 := Tryz.zeroValue97
  t53 := Tryz.underlying236
  a53 := Tryz.isAgg236
  z53 := Tryz.sizeOf236
  v53 := Tryz.zeroValue236
  t55 := Tryz.underlying31
  a55 := Tryz.isAgg31
  z55 := Tryz.sizeOf31
  v55 := Tryz.zeroValue31
  t66 := Tryz.underlying267
  a66 := Tryz.isAgg267
  z66 := Tryz.sizeOf267
  v66 := Tryz.zeroValue267
  t70 := Tryz.underlying271
  a70 := Tryz.isAgg271
  z70 := Tryz.sizeOf271
  v70 := Tryz.zeroValue271
  t76 := Tryz.underlying273
  a76 := Tryz.isAgg273
  z76 := Tryz.sizeOf273
  v76 := Tryz.zeroValue273
  t77 := Tryz.underlying185
  a77 := Tryz.isAgg185
  z77 := Tryz.sizeOf185
  v77 := Tryz.zeroValue185 }
end Go.Proofs.YtindifjhocgkbaaGreatDoor
