import Derived.Test.YtindifjhocgkbaaGreatDoorInsBToInsC
import Derived.Test.YtindifjhocgkbaaGreatDoorCln
import Derived.Test.YtindifjhocgkbaaGreatDoorLstB
import Derived.Test.YtindifjhocgkbaaGreatDoorParts
import Derived.Test.YtindifjhocgkbaaGreatDoorErrCToKit
namespace Go.Proofs.YtindifjhocgkbaaGreatDoor
open Go.RowKit

theorem owns_below {w w' : World} {base e size n : Nat} {v : Value} {xs : List Value} (h : w.ownsRow base e size v n xs) (q : Below w.heap.size w w') : w'.ownsRow base e size v n xs :=
  h.kept (row := none) ⟨q.os, q.tape, q.output, q.size, fun k hk _ => q.block k hk⟩ (by cases hv : v.ownBlock <;> simp)
theorem grown_below' {w w' : World} (r : Option Nat) (q : Below w.heap.size w w') : w.grownBy w' r := ⟨q.os, q.tape, q.output, q.size, fun k hk _ => q.block k hk⟩
/-- What follows, seen from further back. -/
theorem grown_back {w w1 w2 : World} {r : Option Nat} (q : Below w.heap.size w w1) (g : w1.grownBy w2 r) : w.grownBy w2 r :=
  ⟨g.os.trans q.os, g.tape.trans q.tape, g.output.trans q.output, Nat.le_trans q.size g.size, fun k hk hne => (g.block k (Nat.lt_of_lt_of_le hk q.size) hne).trans (q.block k hk)⟩
theorem fnd_low {t : Int} {k : ByteArray} {l : List En} (h : fnd t k l = true) : low t k l < l.length := by
  unfold fnd at h
  split at h
  · rename_i e he; exact (List.getElem?_eq_some_iff.1 he).1
  · simp at h

set_option maxRecDepth 100000 in
set_option maxHeartbeats 2000000 in
theorem lChanged_no (base : Nat) (v : Value) (l : List En) (o : OpD) (w : World) (h : w.ownsRow base 183 3 v l.length (cellsE l)) (hs : Srt l) (hn : l.length ≤ 1000000) (hbase : base ≤ w.heap.size) (hk : o.key.size ≤ 1000) (hv : o.val.size ≤ 1000) (hf : fnd o.table o.key l = false) :
    Calls Tryz.prog 98 #[v, .agg #[.int .i64 o.kind, .int .i64 o.table, .string o.key, .string o.val]] w fun r w' => ∃ v', r = .returned v' ∧ w'.ownsRow base 183 3 v' (chd l o).length (cellsE (chd l o)) ∧ w.grownBy w' v.ownBlock := by
  have hA : ∀ x, EnsIn (w.alloc x) v l := fun x => EnsIn.of_owns (h.alloc x)
  have HS : Hid (Srt l) := hs
  clear hs
  have HF : Hid (fnd o.table o.key l = false) := hf
  clear hf
  by_cases hd : o.kind = 2
  · have hc : chd l o = l := by unfold chd; rw [if_pos hd, del_cut, HF.out]; rfl
    rw [hc]
    clear hc
    have hb : (o.kind == 2) = true := by simp [hd]
    clear hd
    go_enter Tryz.func98, Tryz.ntmps98
    go_wp2_with fail
    refine (lFind v l o.table o.key _ (hA _) HS.out hn).mono ?_
    rw [HF.out]
    rintro e w1 ⟨rfl, q1⟩
    have q0 := below_trans (below_alloc w _) q1
    have c0 : w1.cell? ⟨w.heap.size, 0, none⟩ = some (.int .i64 o.kind) := (q1.cell (p := ⟨w.heap.size, 0, none⟩) (by simp)).trans (by simp)
    go_wp2
    go_ret
    exact ⟨_, rfl, owns_below h q0, grown_below' _ q0⟩
  · have hc : chd l o = l.take (low o.table o.key l) ++ ⟨o.table, o.key, o.val⟩ :: l.drop (low o.table o.key l) := by
      unfold chd; rw [if_neg hd, put_cut, del_cut]
      show (if fnd o.table o.key l then _ else l).take _ ++ _ :: (if fnd o.table o.key l then _ else l).drop _ = _
      rw [HF.out]; rfl
    have hlen : (chd l o).length = l.length + 1 := by rw [hc]; have := low_le o.table o.key l; simp; omega
    rw [hlen, hc]
    have hlow := low_le o.table o.key l
    clear hc hlen
    go_enter Tryz.func98, Tryz.ntmps98
    go_wp2_with fail
    refine (lFind v l o.table o.key _ (hA _) HS.out hn).mono ?_
    rw [HF.out]
    rintro e w1 ⟨rfl, q1⟩
    have q0 := below_trans (below_alloc w _) q1
    have c0 : w1.cell? ⟨w.heap.size, 0, none⟩ = some (.int .i64 o.kind) := (q1.cell (p := ⟨w.heap.size, 0, none⟩) (by simp)).trans (by simp)
    have c1 : w1.cell? ⟨w.heap.size, 1, none⟩ = some (.int .i64 o.table) := (q1.cell (p := ⟨w.heap.size, 1, none⟩) (by simp)).trans (by simp)
    have c2 : w1.cell? ⟨w.heap.size, 2, none⟩ = some (.string o.key) := (q1.cell (p := ⟨w.heap.size, 2, none⟩) (by simp)).trans (by simp)
    have c3 : w1.cell? ⟨w.heap.size, 3, none⟩ = some (.string o.val) := (q1.cell (p := ⟨w.heap.size, 3, none⟩) (by simp)).trans (by simp)
    have hb : (o.kind == 2) = false := by simp [hd]
    clear hd
    go_wp2_with fail
    refine (eLaid o _ hk hv).mono ?_
    rintro e w2 ⟨rfl, q2⟩
    have q02 := below_trans q0 q2
    have hne : v.ownBlock ≠ some w2.heap.size := fun e' => by have := (h.lt _ e').2; have := q02.size; omega
    go_wp2_with fail
    refine (lInsert base v l (low o.table o.key l) w2.heap.size ⟨o.table, o.key, o.val⟩ _ ((owns_below h q02).alloc _) hlow hn (by have := q02.size; simp; omega) hne (heap_alloc_new _ _)).mono ?_
    rintro e w3 ⟨v', rfl, ho, hg⟩
    go_wp2
    go_ret
    exact ⟨v', rfl, ho, grown_back (below_trans q02 (below_alloc _ _)) hg⟩

set_option maxRecDepth 100000 in
set_option maxHeartbeats 2000000 in
theorem lChanged_yes (base : Nat) (v : Value) (l : List En) (o : OpD) (w : World) (h : w.ownsRow base 183 3 v l.length (cellsE l)) (hs : Srt l) (hn : l.length ≤ 1000000) (hbase : base ≤ w.heap.size) (hk : o.key.size ≤ 1000) (hv : o.val.size ≤ 1000) (hf : fnd o.table o.key l = true) :
    Calls Tryz.prog 98 #[v, .agg #[.int .i64 o.kind, .int .i64 o.table, .string o.key, .string o.val]] w fun r w' => ∃ v', r = .returned v' ∧ w'.ownsRow base 183 3 v' (chd l o).length (cellsE (chd l o)) ∧ w.grownBy w' v.ownBlock := by
  have hA : ∀ x, EnsIn (w.alloc x) v l := fun x => EnsIn.of_owns (h.alloc x)
  have hlow : low o.table o.key l < l.length := fnd_low hf
  have HS : Hid (Srt l) := hs
  clear hs
  have hdc : del o.table o.key l = l.take (low o.table o.key l) ++ l.drop (low o.table o.key l + 1) := by rw [del_cut, hf]; rfl
  have hdl : (del o.table o.key l).length = l.length - 1 := by rw [hdc]; simp; omega
  have HF : Hid (fnd o.table o.key l = true) := hf
  clear hf
  have hw1 : IntKind.i64.wrap (((low o.table o.key l : Nat) : Int) + 1) = ((low o.table o.key l : Nat) : Int) + 1 := by rw [IntKind.wrap_i64]; omega
  rcases owns_row h with ⟨rfl, rfl⟩ | ⟨g, cap, cur, rfl, hr⟩
  · simp at hlow
  obtain ⟨n, hln⟩ : ∃ n, l.length = n + 1 := ⟨l.length - 1, by omega⟩
  have hgl : g < w.heap.size := (Array.getElem?_eq_some_iff.1 hr.hg).1
  rw [hln] at h hA ⊢
  rw [hln, Nat.add_sub_cancel] at hdl
  have HDC : Hid (del o.table o.key l = l.take (low o.table o.key l) ++ l.drop (low o.table o.key l + 1)) := hdc
  clear hdc
  have HR : Hid (RowE w base g cap cur l) := hr
  clear hr h
  by_cases hd : o.kind = 2
  · have hc : chd l o = del o.table o.key l := by unfold chd; rw [if_pos hd]
    rw [hc, hdl]
    clear hc
    have hb : (o.kind == 2) = true := by simp [hd]
    clear hd
    go_enter Tryz.func98, Tryz.ntmps98
    go_wp2_with fail
    refine (lFind _ l o.table o.key _ (hA _) HS.out hn).mono ?_
    rw [HF.out]
    rintro e w1 ⟨rfl, q1⟩
    have q0 := below_trans (below_alloc w _) q1
    have c0 : w1.cell? ⟨w.heap.size, 0, none⟩ = some (.int .i64 o.kind) := (q1.cell (p := ⟨w.heap.size, 0, none⟩) (by simp)).trans (by simp)
    go_wp2_with fail
    refine (lDelete base g cap cur l n (low o.table o.key l) _ ⟨(q0.block g hgl).trans HR.out.hg, HR.out.hb, HR.out.hnc, HR.out.hcm, HR.out.hcs, HR.out.htk⟩ hln (by omega) (by omega)).mono ?_
    rintro e w2 ⟨rfl, ⟨cur', hr2⟩, hg2⟩
    have d0 := hg2.cell c0 (by simp; omega)
    have ho := hr2.owns
    rw [← HDC.out, hdl] at ho
    go_wp2
    go_ret
    exact ⟨_, rfl, ho, grown_back q0 hg2⟩
  · have hc : chd l o = (del o.table o.key l).take (low o.table o.key l) ++ ⟨o.table, o.key, o.val⟩ :: (del o.table o.key l).drop (low o.table o.key l) := by
      unfold chd; rw [if_neg hd, put_cut]
    have hlen : (chd l o).length = n + 1 := by rw [hc]; simp; omega
    rw [hlen, hc]
    clear hc hlen
    have hb : (o.kind == 2) = false := by simp [hd]
    clear hd
    go_enter Tryz.func98, Tryz.ntmps98
    go_wp2_with fail
    refine (lFind _ l o.table o.key _ (hA _) HS.out hn).mono ?_
    rw [HF.out]
    rintro e w1 ⟨rfl, q1⟩
    have q0 := below_trans (below_alloc w _) q1
    have c0 : w1.cell? ⟨w.heap.size, 0, none⟩ = some (.int .i64 o.kind) := (q1.cell (p := ⟨w.heap.size, 0, none⟩) (by simp)).trans (by simp)
    have c1 : w1.cell? ⟨w.heap.size, 1, none⟩ = some (.int .i64 o.table) := (q1.cell (p := ⟨w.heap.size, 1, none⟩) (by simp)).trans (by simp)
    have c2 : w1.cell? ⟨w.heap.size, 2, none⟩ = some (.string o.key) := (q1.cell (p := ⟨w.heap.size, 2, none⟩) (by simp)).trans (by simp)
    have c3 : w1.cell? ⟨w.heap.size, 3, none⟩ = some (.string o.val) := (q1.cell (p := ⟨w.heap.size, 3, none⟩) (by simp)).trans (by simp)
    go_wp2_with fail
    refine (lDelete base g cap cur l n (low o.table o.key l) _ ⟨(q0.block g hgl).trans HR.out.hg, HR.out.hb, HR.out.hnc, HR.out.hcm, HR.out.hcs, HR.out.htk⟩ hln (by omega) (by omega)).mono ?_
    rintro e w2 ⟨rfl, ⟨cur', hr2⟩, hg2⟩
    have d0 := hg2.cell c0 (by simp; omega)
    have d1 := hg2.cell c1 (by simp; omega)
    have d2 := hg2.cell c2 (by simp; omega)
    have d3 := hg2.cell c3 (by simp; omega)
    have ho := hr2.owns
    rw [← HDC.out, hdl] at ho
    go_wp2_with fail
    refine (eLaid o _ hk hv).mono ?_
    rintro e w3 ⟨rfl, q3⟩
    have hs3 : g < w3.heap.size := by have := q0.size; have := hg2.size; have := q3.size; omega
    have hb3 : base ≤ w3.heap.size := by have := q0.size; have := hg2.size; have := q3.size; omega
    have hne : (Value.slice (some ⟨g, 0, none⟩) n cap).ownBlock ≠ some w3.heap.size := fun e' => by simp [Value.ownBlock] at e'; omega
    have ho3 : (w3.alloc (.cells #[.int .i64 o.table, .string o.key, .string o.val] 183)).ownsRow base 183 3 (.slice (some ⟨g, 0, none⟩) n cap) (del o.table o.key l).length (cellsE (del o.table o.key l)) := by
      rw [hdl]; exact (owns_below ho q3).alloc _
    go_wp2_with fail
    refine (lInsert base _ (del o.table o.key l) (low o.table o.key l) w3.heap.size ⟨o.table, o.key, o.val⟩ _ ho3 (by omega) (by omega) (by simp; omega) hne (heap_alloc_new _ _)).mono ?_
    rintro e w4 ⟨v', rfl, ho4, hg4⟩
    rw [hdl] at ho4
    go_wp2
    go_ret
    exact ⟨v', rfl, ho4, grown_trn (grown_back q0 hg2) (grown_back (below_trans q3 (below_alloc _ _)) hg4)⟩
theorem lChanged (base : Nat) (v : Value) (l : List En) (o : OpD) (w : World) (h : w.ownsRow base 183 3 v l.length (cellsE l)) (hs : Srt l) (hn : l.length ≤ 1000000) (hbase : base ≤ w.heap.size) (hk : o.key.size ≤ 1000) (hv : o.val.size ≤ 1000) :
    Calls Tryz.prog 98 #[v, .agg #[.int .i64 o.kind, .int .i64 o.table, .string o.key, .string o.val]] w fun r w' => ∃ v', r = .returned v' ∧ w'.ownsRow base 183 3 v' (chd l o).length (cellsE (chd l o)) ∧ w.grownBy w' v.ownBlock := by
  cases hf : fnd o.table o.key l
  · exact lChanged_no base v l o w h hs hn hbase hk hv hf
  · exact lChanged_yes base v l o w h hs hn hbase hk hv hf

set_option maxRecDepth 100000 in
set_option maxHeartbeats 2000000 in
/-- A new list, with changes made. -/
theorem lAfter (base : Nat) (v : Value) (l : List En) (ao : Option Addr) (cap : Nat) (ops : List OpD) (w : World) (h : w.ownsRow base 183 3 v l.length (cellsE l)) (hs : Srt l) (hn : l.length ≤ 900000) (ho : OpsIn w ao ops) (h8 : ops.length ≤ 8) (hsz : ∀ o ∈ ops, o.key.size ≤ 1000 ∧ o.val.size ≤ 1000) :
    Calls Tryz.prog 66 #[v, .slice ao ops.length cap] w fun r w' => ∃ v', r = .returned v' ∧ w'.ownsRow w.heap.size 183 3 v' (aft l ops).length (cellsE (aft l ops)) ∧ Below w.heap.size w w' := by
  have HS : Hid (Srt l) := hs
  clear hs
  have HZ : Hid (∀ o ∈ ops, o.key.size ≤ 1000 ∧ o.val.size ≤ 1000) := hsz
  clear hsz
  go_enter Tryz.func66, Tryz.ntmps66
  go_wp2_with fail
  refine (lClone base v l _ h (by omega)).mono ?_
  rintro e w1 ⟨v1, rfl, ho1, q1⟩
  go_wp2_with fail
  go_loopw [0, 11] (fun x i wr => ∃ j : Nat, j ≤ ops.length ∧ i = .int .i64 j ∧ wr.ownsRow w.heap.size 183 3 x (aft l (ops.take j)).length (cellsE (aft l (ops.take j))) ∧ Below w.heap.size w wr)
    (fun _ i _ => ops.length - (intOf i).toNat)
  case atStart => exact ⟨0, Nat.zero_le _, rfl, by simpa [aft] using ho1, q1⟩
  case round =>
    obtain ⟨j, hj, rfl, hown, hq⟩ := hrel
    by_cases hlt : j < ops.length
    · obtain ⟨b, off, rfl, hb, ho'⟩ := ho (by omega)
      have d0 := (hq.cell (p := ⟨b, off + j * 4, none⟩) hb).trans (ho'.c0 j hlt)
      have d1 := (hq.cell (p := ⟨b, off + j * 4 + 1, none⟩) hb).trans (ho'.c1 j hlt)
      have d2 := (hq.cell (p := ⟨b, off + j * 4 + 2, none⟩) hb).trans (ho'.c2 j hlt)
      have d3 := (hq.cell (p := ⟨b, off + j * 4 + 3, none⟩) hb).trans (ho'.c3 j hlt)
      have ij : ((j : Nat) : Int) < (ops.length : Int) := by omega
      have hmem : ops[j] ∈ ops := List.getElem_mem hlt
      have hal := aft_length (ops.take j) l
      have hjl : (ops.take j).length ≤ 8 := by simp; omega
      have HST : Hid (aft l (ops.take (j + 1)) = chd (aft l (ops.take j)) ops[j]) := aft_take l ops j hlt
      go_wp2_with fail
      refine (lChanged w.heap.size _ (aft l (ops.take j)) ops[j] _ (hown.alloc _) (aft_srt HS.out) (by omega) (by have := hq.size; simp; omega) (HZ.out _ hmem).1 (HZ.out _ hmem).2).mono ?_
      rintro e w2 ⟨v2, rfl, ho2, hg2⟩
      have q2 : Below w.heap.size w w2 := (hq.alloc hq.size _).grown hg2 (by have := hq.size; simp; omega) (fun k hk => (hown.lt k hk).1)
      go_wp2_with fail
      go_roundw
      case rel => exact ⟨j + 1, by omega, by go_num, by rw [HST.out]; exact ho2, q2⟩
      case measure => simp [intOf]; omega
    · obtain rfl : j = ops.length := by omega
      rw [List.take_length] at hown
      go_wp2
      go_ret
      exact ⟨_, rfl, hown, hq⟩
end Go.Proofs.YtindifjhocgkbaaGreatDoor
namespace Go.Proofs.YtindifjhocgkbaaGreatDoor
open Go.RowKit

set_option maxHeartbeats 1000000 in
theorem newTables (w : World) : Calls Tryz.prog 33 #[] w fun e w' => e = .returned (.pointer (some ⟨w.heap.size, 0, none⟩)) ∧ w' = w.alloc (.cells #[.slice none 0 0] 116) := by
  go_enter Tryz.func33, Tryz.ntmps33
  go_wp2
  go_ret
  exact ⟨rfl, rfl⟩
set_option maxHeartbeats 1000000 in
theorem pFold (w : World) : Calls Tryz.prog 7 #[] w fun e w' => e = .returned (.tuple #[.pointer (some ⟨w.heap.size + 1, 0, none⟩), .bool true]) ∧ w' = (w.alloc (.cells #[.slice none 0 0] 116)).alloc (.cells #[.pointer (some ⟨w.heap.size, 0, none⟩)] 77) := by
  go_enter Tryz.func7, Tryz.ntmps7
  go_wp2_with (go_at_call 33; refine (newTables _).mono ?_; rintro e w1 ⟨rfl, rfl⟩)
  go_ret2
  exact ⟨rfl, rfl⟩
/-- Tables in memory: the list that they hold. -/
structure TabIs (w : World) (T : Nat) (l : List En) : Prop where
  blk : ∃ v, w.heap[T]? = some (.cells #[v] 116 (0, 0)) ∧ w.ownsRow 0 183 3 v l.length (cellsE l)
theorem TabIs.keep {w w' : World} {T : Nat} {l : List En} (h : TabIs w T l) (q : Below w.heap.size w w') : TabIs w' T l := by
  obtain ⟨v, h1, h2⟩ := h.blk
  exact ⟨v, (q.block T (Array.getElem?_eq_some_iff.1 h1).1).trans h1, owns_below h2 q⟩
theorem TabIs.lt {w : World} {T : Nat} {l : List En} (h : TabIs w T l) : T < w.heap.size := by obtain ⟨v, h1, _⟩ := h.blk; exact (Array.getElem?_eq_some_iff.1 h1).1

theorem TabIs.set {w w' : World} {T : Nat} {v v' : Value} {l' : List En} (h1 : w.heap[T]? = some (.cells #[v] 116 (0, 0))) (q : Below w.heap.size w w') (ho : w'.ownsRow w.heap.size 183 3 v' l'.length (cellsE l')) : TabIs (w'.setCell ⟨T, 0, none⟩ v') T l' ∧ w.grownBy (w'.setCell ⟨T, 0, none⟩ v') (some T) := by
  have hlt : T < w.heap.size := (Array.getElem?_eq_some_iff.1 h1).1
  have h2 : w'.heap[T]? = some (.cells #[v] 116 (0, 0)) := (q.block T hlt).trans h1
  have e : w'.setCell ⟨T, 0, none⟩ v' = w'.setRow T #[v'] := by rw [setCell_eq_setRow w' T 0 #[v] 116 (0, 0) v' h2]; rfl
  rw [e]
  refine ⟨⟨v', setRow_heap _ _ _ _ _ _ h2, ?_⟩, ?_⟩
  · refine (owns_mono ho (Nat.zero_le _)).kept (grown_setRow w' T #[v']) ?_
    cases hv : v'.ownBlock with
    | none => exact .inl rfl
    | some k => refine .inr fun e' => ?_; have := (ho.lt k hv).1; simp at e'; omega
  · exact grown_back q (grown_setRow w' T #[v'])

theorem owns_slice {w : World} {base e size n : Nat} {v : Value} {xs : List Value} (h : w.ownsRow base e size v n xs) : ∃ a m c, v = .slice a m c := by
  rcases h.2 with ⟨rfl, _⟩ | ⟨g, cap, cur, rfl, _⟩ <;> exact ⟨_, _, _, rfl⟩
set_option maxRecDepth 10000 in
set_option maxHeartbeats 2000000 in
theorem tApply_no (T : Nat) (v : Int) (ao : Option Addr) (cap : Nat) (ops : List OpD) (w : World) (h0 : 0 ≤ v) (hcap : ops.length ≤ cap) (ho : OpsIn w ao ops) (g : Glob w) (hk : (wrongD v ops).1 ≠ 0) :
    Calls Tryz.prog 35 #[.pointer (some ⟨T, 0, none⟩), .agg #[.int .u64 v, .slice ao ops.length cap]] w fun e w' => ∃ x, e = .returned x ∧ ErrIs w' x (wrongD v ops).1 (wrongD v ops).2 ∧ Below w.heap.size w w' := by
  have gA : ∀ x, Glob (w.alloc x) := fun x => g.keep (below_alloc w x)
  have oA : ∀ x, OpsIn (w.alloc x) ao ops := fun x => ho.keep (below_alloc w x)
  go_enter Tryz.func35, Tryz.ntmps35
  go_wp2_with fail
  refine (wCheck v ao cap ops _ h0 hcap (oA _) (gA _)).mono ?_
  rintro e w1 ⟨x, rfl, hx, q1⟩
  rcases hx.cases0 with ⟨e0, _⟩ | ⟨_, b, rfl⟩
  · exact absurd e0 hk
  have HK : Hid ((wrongD v ops).1 ≠ 0) := hk
  clear hk
  go_wp2
  go_ret
  exact ⟨_, rfl, hx, below_trans (below_alloc _ _) q1⟩

set_option maxRecDepth 10000 in
set_option maxHeartbeats 2000000 in
theorem tApply_ok (T : Nat) (l : List En) (v : Int) (ao : Option Addr) (cap : Nat) (ops : List OpD) (w : World) (h : TabIs w T l) (h0 : 0 ≤ v) (hcap : ops.length ≤ cap) (ho : OpsIn w ao ops) (g : Glob w) (hs : Srt l) (hn : l.length ≤ 900000) (hk : (wrongD v ops).1 = 0) :
    Calls Tryz.prog 35 #[.pointer (some ⟨T, 0, none⟩), .agg #[.int .u64 v, .slice ao ops.length cap]] w fun e w' => e = .returned .nilIface ∧ TabIs w' T (aft l ops) ∧ w.grownBy w' (some T) := by
  have gA : ∀ x, Glob (w.alloc x) := fun x => g.keep (below_alloc w x)
  have oA : ∀ x, OpsIn (w.alloc x) ao ops := fun x => ho.keep (below_alloc w x)
  have h8 : ops.length ≤ 8 := by have := (wrongD_ok hk).2.1; simp [cntB] at this; omega
  have hsz : ∀ o ∈ ops, o.key.size ≤ 1000 ∧ o.val.size ≤ 1000 := fun o hm => by
    obtain ⟨j, hj, rfl⟩ := List.getElem_of_mem hm
    have hw := wrongN_ok ((wrongD_ok hk).2.2 j hj)
    have := keyB_size hw.2.1
    have := fits_size hw.2.2.2
    omega
  have HZ : Hid (∀ o ∈ ops, o.key.size ≤ 1000 ∧ o.val.size ≤ 1000) := hsz
  clear hsz
  have HK : Hid ((wrongD v ops).1 = 0) := hk
  clear hk
  have HS : Hid (Srt l) := hs
  clear hs
  obtain ⟨x, hb, hown⟩ := h.blk
  have hT : T < w.heap.size := h.lt
  go_enter Tryz.func35, Tryz.ntmps35
  go_wp2_with fail
  refine (wCheck v ao cap ops _ h0 hcap (oA _) (gA _)).mono ?_
  rintro e w1 ⟨y, rfl, hx, q1⟩
  rcases hx.cases0 with ⟨-, rfl⟩ | ⟨e0, -⟩
  rotate_left
  · exact absurd HK.out e0
  clear hx
  have x1 : w1.cell? ⟨w.heap.size, 1, none⟩ = some (.slice ao ops.length cap) := (q1.cell (p := ⟨w.heap.size, 1, none⟩) (by simp)).trans (by simp)
  have q0 := below_trans (below_alloc _ _) q1
  have hb1 := (q0.block T hT).trans hb
  have tc : w1.cell? ⟨T, 0, none⟩ = some x := by simp [World.cell?, hb1]
  have tf : w1.frozen? ⟨T, 0, none⟩ = false := by simp [World.frozen?, hb1]
  have hown1 := owns_below hown q0
  have ho1 := ho.keep q0
  clear q1
  have hTw : T < w1.heap.size := Nat.lt_of_lt_of_le hT q0.size
  have hne : ¬ T = w.heap.size := by omega
  have hne' : ¬ w.heap.size = T := by omega
  have hw1 : w.heap.size < w1.heap.size := cell_lt x1
  go_wp2_with fail
  go_region_with (go_at_call 66; refine (lAfter 0 x l ao cap ops _ (owns_below hown1 (below_drew _)) HS.out hn (ho1.keep (below_drew _)) h8 HZ.out).mono ?_; rintro e w2 ⟨v2, rfl, ho2, q2⟩; obtain ⟨va, vn, vc, rfl⟩ := owns_slice ho2; have e1 := (q2.cell (p := ⟨w.heap.size, 1, none⟩) hw1).trans x1; have e2 := (q2.cell (p := ⟨T, 0, none⟩) hTw).trans tc; have e3 := (q2.frozen (p := ⟨T, 0, none⟩) hTw).trans tf)
  all_goals
    go_wp2
    go_ret
    obtain ⟨t1, g1⟩ := TabIs.set (w := w1.drew) hb1 q2 ho2
    exact ⟨rfl, t1, grown_back (below_trans q0 (below_drew _)) g1⟩

/-- What Apply leaves. -/
def aftD (l : List En) (v : Int) (ops : List OpD) : List En := if (wrongD v ops).1 = 0 then aft l ops else l
theorem aftD_srt {l : List En} {v : Int} {ops : List OpD} (h : Srt l) : Srt (aftD l v ops) := by unfold aftD; split; exact aft_srt h; exact h
theorem errIs_nil (w : World) : ErrIs w .nilIface 0 0 := .inl ⟨rfl, rfl, rfl⟩
theorem TabIs.grown {w w' : World} {T R : Nat} {l : List En} (h : TabIs w T l) (hR : R ≠ T) (hr : ∀ v, w.heap[T]? = some (.cells #[v] 116 (0, 0)) → v.ownBlock ≠ some R) (g : w.grownBy w' (some R)) : TabIs w' T l := by
  obtain ⟨v, h1, h2⟩ := h.blk
  exact ⟨v, (g.block T (Array.getElem?_eq_some_iff.1 h1).1 (fun e => hR (by simpa using e.symm))).trans h1, h2.kept g (.inr (hr v h1))⟩

theorem TabIs.far {w w' : World} {T R : Nat} {l : List En} (h : TabIs w T l) {c : Array Value} {t : TypeId} {f : Nat × Nat} (hb : w.heap[R]? = some (.cells c t f)) (ht : t ≠ 183) (hR : R ≠ T) (g : w.grownBy w' (some R)) : TabIs w' T l := by
  obtain ⟨v, h1, h2⟩ := h.blk
  exact ⟨v, (g.block T (Array.getElem?_eq_some_iff.1 h1).1 (fun e => hR (by simpa using e.symm))).trans h1, h2.kept g (.inr (fun e => own_ne h2 hb ht e.symm))⟩
/-- Three cells of a block beyond are written. -/
theorem set3 {w2 : World} {R : Nat} {x0 x1 x2 : Value} : w2.grownBy (((w2.setCell ⟨R, 0, none⟩ x0).setCell ⟨R, 1, none⟩ x1).setCell ⟨R, 2, none⟩ x2) (some R) :=
  grown_set' (grown_set' (grown_set' (grown_refl w2 _) rfl) rfl) rfl
theorem grown_newT {w w2 w3 : World} {T R : Nat} (g : w.grownBy w2 (some T)) (g2 : w2.grownBy w3 (some R)) (hR : w.heap.size ≤ R) : w.grownBy w3 (some T) :=
  ⟨g2.os.trans g.os, g2.tape.trans g.tape, g2.output.trans g.output, Nat.le_trans g.size g2.size, fun k hk hne => (g2.block k (Nat.lt_of_lt_of_le hk g.size) (by simp; omega)).trans (g.block k hk hne)⟩
set_option maxRecDepth 10000 in
set_option maxHeartbeats 2000000 in
theorem fApply (F T : Nat) (l : List En) (v : Int) (ao : Option Addr) (cap : Nat) (ops : List OpD) (w : World) (hF : w.cell? ⟨F, 0, none⟩ = some (.pointer (some ⟨T, 0, none⟩))) (h : TabIs w T l) (h0 : 0 ≤ v) (hcap : ops.length ≤ cap) (ho : OpsIn w ao ops) (g : Glob w) (he : EtIs w) (hT : 2 < T) (hs : Srt l) (hn : l.length ≤ 900000) :
    Calls Tryz.prog 8 #[.pointer (some ⟨F, 0, none⟩), .agg #[.int .u64 v, .slice ao ops.length cap]] w fun e w' => e = .returned (.agg #[.int .i64 (wrongD v ops).1, .int .i64 (wrongD v ops).2, .int .i64 0]) ∧ TabIs w' T (aftD l v ops) ∧ w.grownBy w' (some T) := by
  have HS : Hid (Srt l) := hs
  clear hs
  by_cases hk : (wrongD v ops).1 = 0
  · have e2 := wrongD_zero hk
    have ea : aftD l v ops = aft l ops := by unfold aftD; rw [if_pos hk]
    rw [ea, e2]
    clear ea
    have HK : Hid ((wrongD v ops).1 = 0) := hk
    clear hk e2
    go_enter Tryz.func8, Tryz.ntmps8
    go_wp2_with fail
    obtain ⟨W, hW⟩ : ∃ W, W = (w.alloc (.cells #[.int .u64 v, .slice ao ops.length cap] 34)).alloc (.cells #[.int .i64 0, .int .i64 0, .int .i64 0] 29) := ⟨_, rfl⟩
    have qW : Below w.heap.size w W := by rw [hW]; exact below_trans (below_alloc _ _) (below_alloc _ _)
    have d0 : W.cell? ⟨w.heap.size, 0, none⟩ = some (.int .u64 v) := by rw [hW]; simp
    have d1 : W.cell? ⟨w.heap.size, 1, none⟩ = some (.slice ao ops.length cap) := by rw [hW]; simp
    have r0 : W.cell? ⟨w.heap.size + 1, 0, none⟩ = some (.int .i64 0) := by rw [hW]; exact World.cell?_alloc_at _ _ _ 0 (by simp)
    have r1 : W.cell? ⟨w.heap.size + 1, 1, none⟩ = some (.int .i64 0) := by rw [hW]; exact World.cell?_alloc_at _ _ _ 1 (by simp)
    have r2 : W.cell? ⟨w.heap.size + 1, 2, none⟩ = some (.int .i64 0) := by rw [hW]; exact World.cell?_alloc_at _ _ _ 2 (by simp)
    have r3 : ∀ i, W.frozen? ⟨w.heap.size + 1, i, none⟩ = false := fun i => by rw [hW]; exact World.frozen?_alloc_at _ _ _ i (by simp)
    have rb : W.heap[w.heap.size + 1]? = some (.cells #[.int .i64 0, .int .i64 0, .int .i64 0] 29 (0, 0)) := by rw [hW]; have hh := heap_alloc_new (w.alloc (.cells #[.int .u64 v, .slice ao ops.length cap] 34)) (.cells #[.int .i64 0, .int .i64 0, .int .i64 0] 29); simpa using hh
    have hFW := (qW.cell (p := ⟨F, 0, none⟩) (cell_lt hF)).trans hF
    have hsW : w.heap.size + 1 < W.heap.size := cell_lt r0
    rw [← hW]
    clear hW
    have qD : Below w.heap.size w W.drew := below_trans qW (below_drew _)
    refine region_tail 5 (by kernel_rfl) (by kernel_rfl) ?_
    simp only [List.take_succ_cons, List.take_zero, List.drop_succ_cons, List.drop_zero]
    still_step
    still_step
    still_step
    still_step
    still_step
    refine wpStill_nil ?_
    go_wp2_with fail
    refine (tApply_ok T l v ao cap ops _ (h.keep qD) h0 hcap (ho.keep qD) (g.keep qD) HS.out hn HK.out).mono ?_
    rintro e w1 ⟨rfl, t1, g1⟩
    have he1 : EtIs w1 := g1.cell (he.keep qD) (by simp; omega)
    have hTl := h.lt
    have sb := (g1.block _ hsW (by simp; omega)).trans rb
    have s0 := g1.cell r0 (by simp; omega)
    have s1 := g1.cell r1 (by simp; omega)
    have s2 := g1.cell r2 (by simp; omega)
    have s3 : ∀ i, w1.frozen? ⟨w.heap.size + 1, i, none⟩ = false := fun i => (World.frozen?_of_block (g1.block _ hsW (by simp; omega))).trans (r3 i)
    have hs1 : w.heap.size + 1 < w1.heap.size := cell_lt s0
    go_wp2_with fail
    refine (partsOf _ 0 0 _ he1 (errIs_nil _)).mono ?_
    rintro e w2 ⟨rfl, q2⟩
    have y0 := (q2.cell (p := ⟨w.heap.size + 1, 0, none⟩) hs1).trans s0
    have y1 := (q2.cell (p := ⟨w.heap.size + 1, 1, none⟩) hs1).trans s1
    have y2 := (q2.cell (p := ⟨w.heap.size + 1, 2, none⟩) hs1).trans s2
    have y3 : ∀ i, w2.frozen? ⟨w.heap.size + 1, i, none⟩ = false := fun i => (q2.frozen (p := ⟨w.heap.size + 1, i, none⟩) hs1).trans (s3 i)
    go_wp2_with fail
    have yb := (q2.block _ hs1).trans sb
    exact bodyPost_ret (v := .agg #[.int .i64 0, .int .i64 0, .int .i64 0]) (by simp [results, Tryz.results8, go_sem, y0, y1, y2]) rfl ⟨rfl, (t1.keep q2).far yb (by decide) (by omega) set3, grown_newT (grown_trn (grown_back qD g1) (grown_below' _ q2)) set3 (by omega)⟩
  · have ea : aftD l v ops = l := by unfold aftD; rw [if_neg hk]
    rw [ea]
    clear ea
    have HK : Hid ((wrongD v ops).1 ≠ 0) := hk
    clear hk
    go_enter Tryz.func8, Tryz.ntmps8
    go_wp2_with fail
    obtain ⟨W, hW⟩ : ∃ W, W = (w.alloc (.cells #[.int .u64 v, .slice ao ops.length cap] 34)).alloc (.cells #[.int .i64 0, .int .i64 0, .int .i64 0] 29) := ⟨_, rfl⟩
    have qW : Below w.heap.size w W := by rw [hW]; exact below_trans (below_alloc _ _) (below_alloc _ _)
    have d0 : W.cell? ⟨w.heap.size, 0, none⟩ = some (.int .u64 v) := by rw [hW]; simp
    have d1 : W.cell? ⟨w.heap.size, 1, none⟩ = some (.slice ao ops.length cap) := by rw [hW]; simp
    have r0 : W.cell? ⟨w.heap.size + 1, 0, none⟩ = some (.int .i64 0) := by rw [hW]; exact World.cell?_alloc_at _ _ _ 0 (by simp)
    have r1 : W.cell? ⟨w.heap.size + 1, 1, none⟩ = some (.int .i64 0) := by rw [hW]; exact World.cell?_alloc_at _ _ _ 1 (by simp)
    have r2 : W.cell? ⟨w.heap.size + 1, 2, none⟩ = some (.int .i64 0) := by rw [hW]; exact World.cell?_alloc_at _ _ _ 2 (by simp)
    have r3 : ∀ i, W.frozen? ⟨w.heap.size + 1, i, none⟩ = false := fun i => by rw [hW]; exact World.frozen?_alloc_at _ _ _ i (by simp)
    have rb : W.heap[w.heap.size + 1]? = some (.cells #[.int .i64 0, .int .i64 0, .int .i64 0] 29 (0, 0)) := by rw [hW]; have hh := heap_alloc_new (w.alloc (.cells #[.int .u64 v, .slice ao ops.length cap] 34)) (.cells #[.int .i64 0, .int .i64 0, .int .i64 0] 29); simpa using hh
    have hFW := (qW.cell (p := ⟨F, 0, none⟩) (cell_lt hF)).trans hF
    have hsW : w.heap.size + 1 < W.heap.size := cell_lt r0
    rw [← hW]
    clear hW
    have qD : Below w.heap.size w W.drew := below_trans qW (below_drew _)
    refine region_tail 5 (by kernel_rfl) (by kernel_rfl) ?_
    simp only [List.take_succ_cons, List.take_zero, List.drop_succ_cons, List.drop_zero]
    still_step
    still_step
    still_step
    still_step
    still_step
    refine wpStill_nil ?_
    go_wp2_with fail
    refine (tApply_no T v ao cap ops _ h0 hcap (ho.keep qD) (g.keep qD) HK.out).mono ?_
    rintro e w1 ⟨x, rfl, hx, q1⟩
    have sb := (q1.block _ hsW).trans rb
    have s0 := (q1.cell (p := ⟨w.heap.size + 1, 0, none⟩) hsW).trans r0
    have s1 := (q1.cell (p := ⟨w.heap.size + 1, 1, none⟩) hsW).trans r1
    have s2 := (q1.cell (p := ⟨w.heap.size + 1, 2, none⟩) hsW).trans r2
    have s3 : ∀ i, w1.frozen? ⟨w.heap.size + 1, i, none⟩ = false := fun i => (q1.frozen (p := ⟨w.heap.size + 1, i, none⟩) hsW).trans (r3 i)
    have hs1 : w.heap.size + 1 < w1.heap.size := cell_lt s0
    go_wp2_with fail
    refine (partsOf _ _ _ _ ((he.keep qD).keep q1) hx).mono ?_
    rintro e w2 ⟨rfl, q2⟩
    have y0 := (q2.cell (p := ⟨w.heap.size + 1, 0, none⟩) hs1).trans s0
    have y1 := (q2.cell (p := ⟨w.heap.size + 1, 1, none⟩) hs1).trans s1
    have y2 := (q2.cell (p := ⟨w.heap.size + 1, 2, none⟩) hs1).trans s2
    have y3 : ∀ i, w2.frozen? ⟨w.heap.size + 1, i, none⟩ = false := fun i => (q2.frozen (p := ⟨w.heap.size + 1, i, none⟩) hs1).trans (s3 i)
    go_wp2_with fail
    have hTl := h.lt
    have yb := (q2.block _ hs1).trans sb
    exact bodyPost_ret (v := .agg #[.int .i64 (wrongD v ops).1, .int .i64 (wrongD v ops).2, .int .i64 0]) (by simp [results, Tryz.results8, go_sem, y0, y1, y2]) rfl ⟨rfl, (h.keep (below_trans qD (below_trans q1 q2))).far yb (by decide) (by omega) set3, grown_newT (grown_below' (some T) (below_trans qD (below_trans q1 q2))) set3 (by omega)⟩
end Go.Proofs.YtindifjhocgkbaaGreatDoor
