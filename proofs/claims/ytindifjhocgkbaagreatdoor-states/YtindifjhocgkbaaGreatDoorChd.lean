import Derived.Test.YtindifjhocgkbaaGreatDoorInsC
import Derived.Test.YtindifjhocgkbaaGreatDoorCln
import Derived.Test.YtindifjhocgkbaaGreatDoorLstB
namespace Go.Proofs.YtindifjhocgkbaaGreatDoor
open Go.RowKit

theorem owns_below {w w' : World} {base e size n : Nat} {v : Value} {xs : List Value} (h : w.ownsRow base e size v n xs) (q : Below w.heap.size w w') : w'.ownsRow base e size v n xs :=
  h.kept (row := none) ⟨q.os, q.tape, q.output, q.size, fun k hk _ => q.block k hk⟩ (by cases hv : v.ownBlock <;> simp)
theorem grown_below' {w w' : World} (r : Option Nat) (q : Below w.heap.size w w') : w.grownBy w' r := ⟨q.os, q.tape, q.output, q.size, fun k hk _ => q.block k hk⟩
/-- What follows, seen from further back. -/
theorem grown_back {w w1 w2 : World} {r : Option Nat} (q : Below w.heap.size w w1) (g : w1.grownBy w2 r) : w.grownBy w2 r :=
  ⟨g.os.trans q.os, g.tape.trans q.tape, g.output.trans q.output, Nat.le_trans q.size g.size, fun k hk hne => (g.block k (Nat.lt_of_lt_of_le hk q.size) hne).trans (q.block k hk)⟩
theorem fnd_low {t : Int} {k : ByteArray} {l : List En} (h : fnd t k l = true) : low t k l < l.length := by
  unfold fnd at h
  split at h
  · rename_i e he; exact (List.getElem?_eq_some_iff.1 he).1
  · simp at h

set_option maxRecDepth 100000 in
set_option maxHeartbeats 2000000 in
theorem lChanged_no (base : Nat) (v : Value) (l : List En) (o : OpD) (w : World) (h : w.ownsRow base 183 3 v l.length (cellsE l)) (hs : Srt l) (hn : l.length ≤ 1000000) (hbase : base ≤ w.heap.size) (hk : o.key.size ≤ 1000) (hv : o.val.size ≤ 1000) (hf : fnd o.table o.key l = false) :
    Calls Tryz.prog 98 #[v, .agg #[.int .i64 o.kind, .int .i64 o.table, .string o.key, .string o.val]] w fun r w' => ∃ v', r = .returned v' ∧ w'.ownsRow base 183 3 v' (chd l o).length (cellsE (chd l o)) ∧ w.grownBy w' v.ownBlock := by
  have hA : ∀ x, EnsIn (w.alloc x) v l := fun x => EnsIn.of_owns (h.alloc x)
  have HS : Hid (Srt l) := hs
  clear hs
  have HF : Hid (fnd o.table o.key l = false) := hf
  clear hf
  by_cases hd : o.kind = 2
  · have hc : chd l o = l := by unfold chd; rw [if_pos hd, del_cut, HF.out]; rfl
    rw [hc]
    clear hc
    have hb : (o.kind == 2) = true := by simp [hd]
    clear hd
    go_enter Tryz.func98, Tryz.ntmps98
    go_wp2_with fail
    refine (lFind v l o.table o.key _ (hA _) HS.out hn).mono ?_
    rw [HF.out]
    rintro e w1 ⟨rfl, q1⟩
    have q0 := below_trans (below_alloc w _) q1
    have c0 : w1.cell? ⟨w.heap.size, 0, none⟩ = some (.int .i64 o.kind) := (q1.cell (p := ⟨w.heap.size, 0, none⟩) (by simp)).trans (by simp)
    go_wp2
    go_ret
    exact ⟨_, rfl, owns_below h q0, grown_below' _ q0⟩
  · have hc : chd l o = l.take (low o.table o.key l) ++ ⟨o.table, o.key, o.val⟩ :: l.drop (low o.table o.key l) := by
      unfold chd; rw [if_neg hd, put_cut, del_cut]
      show (if fnd o.table o.key l then _ else l).take _ ++ _ :: (if fnd o.table o.key l then _ else l).drop _ = _
      rw [HF.out]; rfl
    have hlen : (chd l o).length = l.length + 1 := by rw [hc]; have := low_le o.table o.key l; simp; omega
    rw [hlen, hc]
    have hlow := low_le o.table o.key l
    clear hc hlen
    go_enter Tryz.func98, Tryz.ntmps98
    go_wp2_with fail
    refine (lFind v l o.table o.key _ (hA _) HS.out hn).mono ?_
    rw [HF.out]
    rintro e w1 ⟨rfl, q1⟩
    have q0 := below_trans (below_alloc w _) q1
    have c0 : w1.cell? ⟨w.heap.size, 0, none⟩ = some (.int .i64 o.kind) := (q1.cell (p := ⟨w.heap.size, 0, none⟩) (by simp)).trans (by simp)
    have c1 : w1.cell? ⟨w.heap.size, 1, none⟩ = some (.int .i64 o.table) := (q1.cell (p := ⟨w.heap.size, 1, none⟩) (by simp)).trans (by simp)
    have c2 : w1.cell? ⟨w.heap.size, 2, none⟩ = some (.string o.key) := (q1.cell (p := ⟨w.heap.size, 2, none⟩) (by simp)).trans (by simp)
    have c3 : w1.cell? ⟨w.heap.size, 3, none⟩ = some (.string o.val) := (q1.cell (p := ⟨w.heap.size, 3, none⟩) (by simp)).trans (by simp)
    have hb : (o.kind == 2) = false := by simp [hd]
    clear hd
    go_wp2_with fail
    refine (eLaid o _ hk hv).mono ?_
    rintro e w2 ⟨rfl, q2⟩
    have q02 := below_trans q0 q2
    have hne : v.ownBlock ≠ some w2.heap.size := fun e' => by have := (h.lt _ e').2; have := q02.size; omega
    go_wp2_with fail
    refine (lInsert base v l (low o.table o.key l) w2.heap.size ⟨o.table, o.key, o.val⟩ _ ((owns_below h q02).alloc _) hlow hn (by have := q02.size; simp; omega) hne (heap_alloc_new _ _)).mono ?_
    rintro e w3 ⟨v', rfl, ho, hg⟩
    go_wp2
    go_ret
    exact ⟨v', rfl, ho, grown_back (below_trans q02 (below_alloc _ _)) hg⟩

set_option maxRecDepth 100000 in
set_option maxHeartbeats 2000000 in
theorem lChanged_yes (base : Nat) (v : Value) (l : List En) (o : OpD) (w : World) (h : w.ownsRow base 183 3 v l.length (cellsE l)) (hs : Srt l) (hn : l.length ≤ 1000000) (hbase : base ≤ w.heap.size) (hk : o.key.size ≤ 1000) (hv : o.val.size ≤ 1000) (hf : fnd o.table o.key l = true) :
    Calls Tryz.prog 98 #[v, .agg #[.int .i64 o.kind, .int .i64 o.table, .string o.key, .string o.val]] w fun r w' => ∃ v', r = .returned v' ∧ w'.ownsRow base 183 3 v' (chd l o).length (cellsE (chd l o)) ∧ w.grownBy w' v.ownBlock := by
  have hA : ∀ x, EnsIn (w.alloc x) v l := fun x => EnsIn.of_owns (h.alloc x)
  have hlow : low o.table o.key l < l.length := fnd_low hf
  have HS : Hid (Srt l) := hs
  clear hs
  have hdc : del o.table o.key l = l.take (low o.table o.key l) ++ l.drop (low o.table o.key l + 1) := by rw [del_cut, hf]; rfl
  have hdl : (del o.table o.key l).length = l.length - 1 := by rw [hdc]; simp; omega
  have HF : Hid (fnd o.table o.key l = true) := hf
  clear hf
  have hw1 : IntKind.i64.wrap (((low o.table o.key l : Nat) : Int) + 1) = ((low o.table o.key l : Nat) : Int) + 1 := by rw [IntKind.wrap_i64]; omega
  rcases owns_row h with ⟨rfl, rfl⟩ | ⟨g, cap, cur, rfl, hr⟩
  · simp at hlow
  obtain ⟨n, hln⟩ : ∃ n, l.length = n + 1 := ⟨l.length - 1, by omega⟩
  have hgl : g < w.heap.size := (Array.getElem?_eq_some_iff.1 hr.hg).1
  rw [hln] at h hA ⊢
  rw [hln, Nat.add_sub_cancel] at hdl
  have HDC : Hid (del o.table o.key l = l.take (low o.table o.key l) ++ l.drop (low o.table o.key l + 1)) := hdc
  clear hdc
  have HR : Hid (RowE w base g cap cur l) := hr
  clear hr h
  by_cases hd : o.kind = 2
  · have hc : chd l o = del o.table o.key l := by unfold chd; rw [if_pos hd]
    rw [hc, hdl]
    clear hc
    have hb : (o.kind == 2) = true := by simp [hd]
    clear hd
    go_enter Tryz.func98, Tryz.ntmps98
    go_wp2_with fail
    refine (lFind _ l o.table o.key _ (hA _) HS.out hn).mono ?_
    rw [HF.out]
    rintro e w1 ⟨rfl, q1⟩
    have q0 := below_trans (below_alloc w _) q1
    have c0 : w1.cell? ⟨w.heap.size, 0, none⟩ = some (.int .i64 o.kind) := (q1.cell (p := ⟨w.heap.size, 0, none⟩) (by simp)).trans (by simp)
    go_wp2_with fail
    refine (lDelete base g cap cur l n (low o.table o.key l) _ ⟨(q0.block g hgl).trans HR.out.hg, HR.out.hb, HR.out.hnc, HR.out.hcm, HR.out.hcs, HR.out.htk⟩ hln (by omega) (by omega)).mono ?_
    rintro e w2 ⟨rfl, ⟨cur', hr2⟩, hg2⟩
    have d0 := hg2.cell c0 (by simp; omega)
    have ho := hr2.owns
    rw [← HDC.out, hdl] at ho
    go_wp2
    go_ret
    exact ⟨_, rfl, ho, grown_back q0 hg2⟩
  · have hc : chd l o = (del o.table o.key l).take (low o.table o.key l) ++ ⟨o.table, o.key, o.val⟩ :: (del o.table o.key l).drop (low o.table o.key l) := by
      unfold chd; rw [if_neg hd, put_cut]
    have hlen : (chd l o).length = n + 1 := by rw [hc]; simp; omega
    rw [hlen, hc]
    clear hc hlen
    have hb : (o.kind == 2) = false := by simp [hd]
    clear hd
    go_enter Tryz.func98, Tryz.ntmps98
    go_wp2_with fail
    refine (lFind _ l o.table o.key _ (hA _) HS.out hn).mono ?_
    rw [HF.out]
    rintro e w1 ⟨rfl, q1⟩
    have q0 := below_trans (below_alloc w _) q1
    have c0 : w1.cell? ⟨w.heap.size, 0, none⟩ = some (.int .i64 o.kind) := (q1.cell (p := ⟨w.heap.size, 0, none⟩) (by simp)).trans (by simp)
    have c1 : w1.cell? ⟨w.heap.size, 1, none⟩ = some (.int .i64 o.table) := (q1.cell (p := ⟨w.heap.size, 1, none⟩) (by simp)).trans (by simp)
    have c2 : w1.cell? ⟨w.heap.size, 2, none⟩ = some (.string o.key) := (q1.cell (p := ⟨w.heap.size, 2, none⟩) (by simp)).trans (by simp)
    have c3 : w1.cell? ⟨w.heap.size, 3, none⟩ = some (.string o.val) := (q1.cell (p := ⟨w.heap.size, 3, none⟩) (by simp)).trans (by simp)
    go_wp2_with fail
    refine (lDelete base g cap cur l n (low o.table o.key l) _ ⟨(q0.block g hgl).trans HR.out.hg, HR.out.hb, HR.out.hnc, HR.out.hcm, HR.out.hcs, HR.out.htk⟩ hln (by omega) (by omega)).mono ?_
    rintro e w2 ⟨rfl, ⟨cur', hr2⟩, hg2⟩
    have d0 := hg2.cell c0 (by simp; omega)
    have d1 := hg2.cell c1 (by simp; omega)
    have d2 := hg2.cell c2 (by simp; omega)
    have d3 := hg2.cell c3 (by simp; omega)
    have ho := hr2.owns
    rw [← HDC.out, hdl] at ho
    go_wp2_with fail
    refine (eLaid o _ hk hv).mono ?_
    rintro e w3 ⟨rfl, q3⟩
    have hs3 : g < w3.heap.size := by have := q0.size; have := hg2.size; have := q3.size; omega
    have hb3 : base ≤ w3.heap.size := by have := q0.size; have := hg2.size; have := q3.size; omega
    have hne : (Value.slice (some ⟨g, 0, none⟩) n cap).ownBlock ≠ some w3.heap.size := fun e' => by simp [Value.ownBlock] at e'; omega
    have ho3 : (w3.alloc (.cells #[.int .i64 o.table, .string o.key, .string o.val] 183)).ownsRow base 183 3 (.slice (some ⟨g, 0, none⟩) n cap) (del o.table o.key l).length (cellsE (del o.table o.key l)) := by
      rw [hdl]; exact (owns_below ho q3).alloc _
    go_wp2_with fail
    refine (lInsert base _ (del o.table o.key l) (low o.table o.key l) w3.heap.size ⟨o.table, o.key, o.val⟩ _ ho3 (by omega) (by omega) (by simp; omega) hne (heap_alloc_new _ _)).mono ?_
    rintro e w4 ⟨v', rfl, ho4, hg4⟩
    rw [hdl] at ho4
    go_wp2
    go_ret
    exact ⟨v', rfl, ho4, grown_trn (grown_back q0 hg2) (grown_back (below_trans q3 (below_alloc _ _)) hg4)⟩
theorem lChanged (base : Nat) (v : Value) (l : List En) (o : OpD) (w : World) (h : w.ownsRow base 183 3 v l.length (cellsE l)) (hs : Srt l) (hn : l.length ≤ 1000000) (hbase : base ≤ w.heap.size) (hk : o.key.size ≤ 1000) (hv : o.val.size ≤ 1000) :
    Calls Tryz.prog 98 #[v, .agg #[.int .i64 o.kind, .int .i64 o.table, .string o.key, .string o.val]] w fun r w' => ∃ v', r = .returned v' ∧ w'.ownsRow base 183 3 v' (chd l o).length (cellsE (chd l o)) ∧ w.grownBy w' v.ownBlock := by
  cases hf : fnd o.table o.key l
  · exact lChanged_no base v l o w h hs hn hbase hk hv hf
  · exact lChanged_yes base v l o w h hs hn hbase hk hv hf

set_option maxRecDepth 100000 in
set_option maxHeartbeats 2000000 in
/-- A new list, with changes made. -/
theorem lAfter (base : Nat) (v : Value) (l : List En) (ao : Option Addr) (cap : Nat) (ops : List OpD) (w : World) (h : w.ownsRow base 183 3 v l.length (cellsE l)) (hs : Srt l) (hn : l.length ≤ 900000) (ho : OpsIn w ao ops) (h8 : ops.length ≤ 8) (hsz : ∀ o ∈ ops, o.key.size ≤ 1000 ∧ o.val.size ≤ 1000) :
    Calls Tryz.prog 66 #[v, .slice ao ops.length cap] w fun r w' => ∃ v', r = .returned v' ∧ w'.ownsRow w.heap.size 183 3 v' (aft l ops).length (cellsE (aft l ops)) ∧ Below w.heap.size w w' := by
  have HS : Hid (Srt l) := hs
  clear hs
  have HZ : Hid (∀ o ∈ ops, o.key.size ≤ 1000 ∧ o.val.size ≤ 1000) := hsz
  clear hsz
  go_enter Tryz.func66, Tryz.ntmps66
  go_wp2_with fail
  refine (lClone base v l _ h (by omega)).mono ?_
  rintro e w1 ⟨v1, rfl, ho1, q1⟩
  go_wp2_with fail
  go_loopw [0, 11] (fun x i wr => ∃ j : Nat, j ≤ ops.length ∧ i = .int .i64 j ∧ wr.ownsRow w.heap.size 183 3 x (aft l (ops.take j)).length (cellsE (aft l (ops.take j))) ∧ Below w.heap.size w wr)
    (fun _ i _ => ops.length - (intOf i).toNat)
  case atStart => exact ⟨0, Nat.zero_le _, rfl, by simpa [aft] using ho1, q1⟩
  case round =>
    obtain ⟨j, hj, rfl, hown, hq⟩ := hrel
    by_cases hlt : j < ops.length
    · obtain ⟨b, off, rfl, hb, ho'⟩ := ho (by omega)
      have d0 := (hq.cell (p := ⟨b, off + j * 4, none⟩) hb).trans (ho'.c0 j hlt)
      have d1 := (hq.cell (p := ⟨b, off + j * 4 + 1, none⟩) hb).trans (ho'.c1 j hlt)
      have d2 := (hq.cell (p := ⟨b, off + j * 4 + 2, none⟩) hb).trans (ho'.c2 j hlt)
      have d3 := (hq.cell (p := ⟨b, off + j * 4 + 3, none⟩) hb).trans (ho'.c3 j hlt)
      have ij : ((j : Nat) : Int) < (ops.length : Int) := by omega
      have hmem : ops[j] ∈ ops := List.getElem_mem hlt
      have hal := aft_length (ops.take j) l
      have hjl : (ops.take j).length ≤ 8 := by simp; omega
      have HST : Hid (aft l (ops.take (j + 1)) = chd (aft l (ops.take j)) ops[j]) := aft_take l ops j hlt
      go_wp2_with fail
      refine (lChanged w.heap.size _ (aft l (ops.take j)) ops[j] _ (hown.alloc _) (aft_srt HS.out) (by omega) (by have := hq.size; simp; omega) (HZ.out _ hmem).1 (HZ.out _ hmem).2).mono ?_
      rintro e w2 ⟨v2, rfl, ho2, hg2⟩
      have q2 : Below w.heap.size w w2 := (hq.alloc hq.size _).grown hg2 (by have := hq.size; simp; omega) (fun k hk => (hown.lt k hk).1)
      go_wp2_with fail
      go_roundw
      case rel => exact ⟨j + 1, by omega, by go_num, by rw [HST.out]; exact ho2, q2⟩
      case measure => simp [intOf]; omega
    · obtain rfl : j = ops.length := by omega
      rw [List.take_length] at hown
      go_wp2
      go_ret
      exact ⟨_, rfl, hown, hq⟩
end Go.Proofs.YtindifjhocgkbaaGreatDoor
