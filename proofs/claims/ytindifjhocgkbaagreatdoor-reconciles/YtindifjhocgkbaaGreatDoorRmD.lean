import Derived.Test.YtindifjhocgkbaaGreatDoorRmBToNum
import Derived.Deep.RegionHeldLaw
namespace Go.Proofs.YtindifjhocgkbaaGreatDoor
attribute [local go_sem ↓] Go.wp_at_zero Go.wp_at_succ
open Go.RowKit Go.ChangeMaps Go.MapKept Go.WideShapes Go.WideMaps
open Go.Maps (Keyed)
/-- The room of a table, of whatever number. -/
def roomOf (r : Nat → Int) (t : Int) : Int := if 0 ≤ t ∧ t ≤ 2 then r t.toNat else 0
set_option maxHeartbeats 1000000 in
theorem hRoom (n0 H M : Nat) (r : Nat → Int) (l : List En) (log : List ByteArray) (left : Int) (dead : Bool) (W : World) (h : HostI n0 H M r l log left dead W) (t : Int) :
    Calls Tryz.prog 85 #[dpV H, .int .i64 t] W fun e W' => e = .returned (.int .i64 (roomOf r t)) ∧ Below W.heap.size W W' := by
  by_cases h0 : t < 0
  · have e : roomOf r t = 0 := by unfold roomOf; rw [if_neg (by omega)]
    rw [e]
    go_enter Tryz.func85, Tryz.ntmps85
    go_wp2_with fail
    go_ret
    exact ⟨rfl, below_alloc _ _⟩
  · by_cases h2 : 3 ≤ t
    · have e : roomOf r t = 0 := by unfold roomOf; rw [if_neg (by omega)]
      rw [e]
      go_enter Tryz.func85, Tryz.ntmps85
      go_wp2_with fail
      go_ret
      exact ⟨rfl, below_alloc _ _⟩
    · obtain ⟨m, rfl⟩ : ∃ m : Nat, t = (m : Int) := ⟨t.toNat, by omega⟩
      have e : roomOf r (m : Int) = r m := by unfold roomOf; rw [if_pos (by omega)]; simp
      rw [e]
      have hm : m < 3 := by omega
      have im : (m : Int) < 3 := by omega
      have c := fun o => (World.cell?_alloc_lt W o ⟨H, 7 + m, none⟩ h.ltH).trans (h.rooms m hm)
      go_enter Tryz.func85, Tryz.ntmps85
      go_wp2_with fail
      go_ret
      exact ⟨rfl, below_alloc _ _⟩
def cntM (t : Int) (es : List En) : Nat := (es.filter (fun e => decide (e.t = t))).length
theorem cntM_snoc (t : Int) (pre : List En) (x : En) : cntM t (pre ++ [x]) = cntM t pre + (if x.t = t then 1 else 0) := by
  unfold cntM
  by_cases h : x.t = t <;> simp [List.filter_append, h]
theorem cntM_le (t : Int) (es : List En) : cntM t es ≤ es.length := List.length_filter_le _ _
theorem cntM_perm (t : Int) {a b : List En} (h : a.Perm b) : cntM t a = cntM t b := (h.filter _).length_eq
set_option maxHeartbeats 1000000 in
theorem hCount (n0 H M : Nat) (r : Nat → Int) (l : List En) (log : List ByteArray) (left : Int) (dead : Bool) (W : World) (h : HostI n0 H M r l log left dead W) (t : Int) (hn : l.length ≤ 1000000) :
    Calls Tryz.prog 84 #[dpV H, .int .i64 t] W fun e W' => e = .returned (.int .i64 (cntM t l)) ∧ Below W.heap.size W W' := by
  have c10 := fun o => (World.cell?_alloc_lt W o ⟨H, 10, none⟩ h.ltH).trans h.cells.2.2.1
  have hm := fun o => h.mp.kept (w' := W.alloc o) ((MapKept.heap_alloc W o).2 M h.mp.lt)
  go_enter Tryz.func84, Tryz.ntmps84
  go_wp2_with (first | (at_range; refine wpl_range _ rfl _ rfl M l rfl (hm _) ?_; intro w0 hr0 q0 s0) | fail)
  go_frame
  have q1 := below_trans (below_alloc W (.cells #[.pointer (some ⟨H, 0, none⟩)] 123)) q0
  simp only [World.size_alloc] at hr0 s0 ⊢
  clear q0 s0 hm c10
  go_loopw [5] (fun nv wr => ∃ dn rst, nv = .int .i64 (cntM t dn) ∧ (dn ++ rst).Perm l ∧ RngIs wr M (W.heap.size + 1) l rst ∧ Below W.heap.size W wr) (fun _ wr => wr.rangeLeft M (W.heap.size + 1))
  case atStart => exact ⟨[], l, rfl, List.Perm.refl _, hr0, q1⟩
  case round =>
    obtain ⟨dn, rst, rfl, hp, hr, hq⟩ := hrel
    have hlen := hp.length_eq
    have hcl := cntM_le t dn
    simp only [List.length_append] at hlen
    go_wp2_with (first | (at_next; refine wpl_next _ rfl _ rfl M (W.heap.size + 1) l rst rfl hr ?_ ?_) | fail)
    · rintro rfl
      go_wp2_with fail
      go_ret
      rw [List.append_nil] at hp
      exact ⟨by rw [cntM_perm t hp]; rfl, hq⟩
    · intro y rst' w1 hp1 hr1 hg1 hs1 hen
      have hq1 := hq.grown hg1 hq.size (fun k e => by cases e; omega)
      have hp2 : (dn ++ [y] ++ rst').Perm l := by
        rw [List.append_assoc]
        exact (List.Perm.append_left dn hp1.symm).trans hp
      have hlt : rst'.length < rst.length := by have := hp1.length_eq; simp at this; omega
      have hm1 := hr.left_eq
      by_cases ht : y.t = t
      · have HS : Hid (cntM t (dn ++ [y]) = cntM t dn + 1) := by show _ = _; rw [cntM_snoc, if_pos ht]
        go_wp2_with fail
        have q2 := below_alloc w1 (.cells #[.int .i64 t, .string y.k] 83)
        have hr2 := hr1.kept (q2.block M hr1.map.lt) (q2.block (W.heap.size + 1) hr1.lt)
        go_roundw
        case rel => exact ⟨dn ++ [y], rst', by rw [HS.out]; go_num, hp2, hr2, hq1.trans (q2.mono hq1.size)⟩
        case measure => rw [hr2.left_eq, hm1]; exact hlt
      · have HS : Hid (cntM t (dn ++ [y]) = cntM t dn) := by show _ = _; rw [cntM_snoc, if_neg ht]; rfl
        go_wp2_with fail
        have q2 := below_alloc w1 (.cells #[.int .i64 y.t, .string y.k] 83)
        have hr2 := hr1.kept (q2.block M hr1.map.lt) (q2.block (W.heap.size + 1) hr1.lt)
        go_roundw
        case rel => exact ⟨dn ++ [y], rst', by rw [HS.out], hp2, hr2, hq1.trans (q2.mono hq1.size)⟩
        case measure => rw [hr2.left_eq, hm1]; exact hlt
/-- The texts of what is done. -/
def tabX (t : Int) : ByteArray := ⟨#[UInt8.ofNat (t % 256).toNat]⟩
def dropS : ByteArray := ⟨#[100, 114, 111, 112, 32]⟩
def putS : ByteArray := ⟨#[112, 117, 116, 32]⟩
def eqS : ByteArray := ⟨#[61]⟩
def dropT (e : En) : ByteArray := dropS ++ tabX e.t ++ e.k
def putT (e : En) : ByteArray := putS ++ tabX e.t ++ e.k ++ eqS ++ e.v
theorem HostI.log_cell {n0 H M : Nat} {r : Nat → Int} {l : List En} {log : List ByteArray} {left : Int} {dead : Bool} {W : World} (h : HostI n0 H M r l log left dead W) :
    ∃ vl, W.cell? ⟨H, 11, none⟩ = some vl ∧ W.ownsRow n0 9 1 vl log.length (log.map .string) := by
  obtain ⟨a, b, c, f, g, vl, e, ho⟩ := h.blk
  exact ⟨vl, by simp [World.cell?, e, hostC], ho⟩
theorem Tryz.infoStr : (Tryz.prog.info? 9).map (fun i => (i.zero, i.size, i.bytes)) = some (some (.string ⟨#[]⟩), 1, 16) := by kernel_rfl
theorem ownS_ne {W : World} {n0 n P : Nat} {vl : Value} {xs : List Value} {c : Array Value} {t : TypeId} {f : Nat × Nat} (h : W.ownsRow n0 9 1 vl n xs) (hb : W.heap[P]? = some (.cells c t f)) (ht : t ≠ 9) : vl.ownBlock ≠ some P := fun e => by
  rcases h with ⟨_, ⟨rfl, _⟩ | ⟨g', cap, cur, rfl, _, hc, _⟩⟩
  · simp [Value.ownBlock] at e
  · simp only [Value.ownBlock, Option.some.injEq] at e
    rw [e, hb] at hc; cases hc; exact ht rfl
theorem HostI.own_neH {n0 H M : Nat} {r : Nat → Int} {l : List En} {log : List ByteArray} {left : Int} {dead : Bool} {W : World} (h : HostI n0 H M r l log left dead W) {vl : Value} (hc : W.cell? ⟨H, 11, none⟩ = some vl) : vl.ownBlock ≠ some H := by
  obtain ⟨a, b, c, f, g, vl', e, ho⟩ := h.blk
  have : W.cell? ⟨H, 11, none⟩ = some vl' := by simp [World.cell?, e, hostC]
  rw [this] at hc; cases hc
  exact ownS_ne ho e (by decide)
theorem HostI.own_neM {n0 H M : Nat} {r : Nat → Int} {l : List En} {log : List ByteArray} {left : Int} {dead : Bool} {W : World} (h : HostI n0 H M r l log left dead W) {vl : Value} (hc : W.cell? ⟨H, 11, none⟩ = some vl) : vl.ownBlock ≠ some M := by
  obtain ⟨a, b, c, f, g, vl', e, ho⟩ := h.blk
  have : W.cell? ⟨H, 11, none⟩ = some vl' := by simp [World.cell?, e, hostC]
  rw [this] at hc; cases hc
  obtain ⟨es, cl, hm, _⟩ := h.mp
  intro e1
  rcases ho with ⟨_, ⟨rfl, _⟩ | ⟨g', cap, cur, rfl, _, hc, _⟩⟩
  · simp [Value.ownBlock] at e1
  · simp only [Value.ownBlock, Option.some.injEq] at e1
    rw [e1, hm] at hc; cases hc
/-- A text is laid behind what was done. -/
theorem HostI.app {n0 H M : Nat} {r : Nat → Int} {l : List En} {log : List ByteArray} {left : Int} {dead : Bool} {W W2 w1 : World} (h : HostI n0 H M r l log left dead W) {vl v' : Value} (hc : W.cell? ⟨H, 11, none⟩ = some vl) (q : Below W.heap.size W W2) (hg : W2.grownBy w1 vl.ownBlock) (s : ByteArray)
    (ho : w1.ownsRow n0 9 1 v' (log.length + 1) (log.map .string ++ [.string s])) : HostI n0 H M r l (log ++ [s]) left dead (w1.setCell ⟨H, 11, none⟩ v') ∧ HW n0 M W (w1.setCell ⟨H, 11, none⟩ v') := by
  have k2 := h.keep q
  have c2 := (q.cell (p := ⟨H, 11, none⟩) h.ltH).trans hc
  have aH := k2.own_neH c2
  have aM := k2.own_neM c2
  obtain ⟨a, b, c, f, g, vl', e, ho2⟩ := k2.blk
  have : W2.cell? ⟨H, 11, none⟩ = some vl' := by simp [World.cell?, e, hostC]
  rw [this] at c2; cases c2
  have e1 : w1.heap[H]? = some (.cells (hostC a b c f g vl r M left dead) 130 (0, 0)) := (hg.block H k2.ltH (Ne.symm aH)).trans e
  have h1 : HW n0 M W2 w1 := HW.of hg k2.n0 (fun j ej => by
    rcases ho2 with ⟨_, ⟨rfl, _⟩ | ⟨g', cap, cur, rfl, hb, hc', _⟩⟩
    · simp [Value.ownBlock] at ej
    · simp only [Value.ownBlock, Option.some.injEq] at ej
      subst ej
      exact ⟨hb, .inr (.inl ⟨_, _, hc'⟩)⟩)
  refine ⟨⟨⟨a, b, c, f, g, v', by rw [heap_setCell_same _ _ _ _ _ _ e1]; simp [hostC], ?_⟩, k2.mp.kept ((heap_setCell_other _ _ _ _ k2.ne).trans (hg.block M k2.mp.lt (Ne.symm aM))), h.hH, h.hM⟩, ((HW.below q h.n0).trans h1).trans (HW.of (grown_cell w1 H 11 v') (Nat.le_trans k2.n0 hg.size) (fun j ej => by cases ej; exact ⟨h.hH, .inl ⟨_, _, e1⟩⟩))⟩
  rw [List.length_append, List.map_append]
  exact ownsRow_setCell_other ho (ownS_ne ho e1 (by decide)) _
theorem HostI.mapSet {n0 H M : Nat} {r : Nat → Int} {l l' : List En} {log : List ByteArray} {left : Int} {dead : Bool} {W : World} (h : HostI n0 H M r l log left dead W) {es : Array MapEntry} {cl : Nat} (hm : MapIs (setBlock W M (.map es cl)) M l') :
    HostI n0 H M r l' log left dead (setBlock W M (.map es cl)) ∧ HW n0 M W (setBlock W M (.map es cl)) := by
  obtain ⟨es0, cl0, hb, _⟩ := h.mp
  obtain ⟨a, b, c, f, g, vl, e, ho⟩ := h.blk
  refine ⟨⟨⟨a, b, c, f, g, vl, (heap_setBlock_other hb _ (fun e1 => h.ne e1.symm)).trans e, ?_⟩, hm, h.hH, h.hM⟩, HW.of (grown_map W M _ hb) h.n0 (fun j ej => by cases ej; exact ⟨h.hM, .inr (.inr ⟨rfl, _, _, hb⟩)⟩)⟩
  rcases ho with ⟨hl, hn | ⟨g', cap, cur, hv, hb', hc, hrest⟩⟩
  · exact ⟨hl, .inl hn⟩
  · refine ⟨hl, .inr ⟨g', cap, cur, hv, hb', (heap_setBlock_other hb _ (fun e1 => ?_)).trans hc, hrest⟩⟩
    rw [e1, hb] at hc; cases hc
theorem new_two (W : World) (a b : Obj) : ((W.alloc a).alloc b).drew.heap[W.heap.size + 1]? = some b := by
  show ((W.alloc a).alloc b).heap[W.heap.size + 1]? = some b
  have := (MapKept.heap_alloc (W.alloc a) b).1
  simpa using this
set_option maxRecDepth 100000 in
set_option maxHeartbeats 3200000 in
theorem hDrop (n0 H M : Nat) (r : Nat → Int) (l : List En) (log : List ByteArray) (left : Int) (dead : Bool) (W : World) (h : HostI n0 H M r l log left dead W) (h0 : -1 ≤ left) (h1 : left ≤ 1000000) (t : Int) (k v : ByteArray) (hs : Srt l) (hk : ∀ e ∈ l, KOk e) (ho : KOk ⟨t, k, v⟩) (hz : k.size ≤ 140737488351232) (hlg : log.length ≤ 8000000000000) :
    Calls Tryz.prog 198 #[dpV H, keyV t k] W fun e W' => e = .returned (.tuple #[]) ∧ HostI n0 H M r (if dead || decide (left = 0) then l else del t k l) (if dead || decide (left = 0) then log else log ++ [dropT ⟨t, k, v⟩]) (leftN left) (dead || decide (left = 0)) W' ∧ HW n0 M W W' := by
  have b1 : ((W.alloc (.cells #[.pointer (some ⟨H, 0, none⟩)] 123)).alloc (.cells #[.int .i64 t, .string k] 83)).heap[W.heap.size]? = some (.cells #[.pointer (some ⟨H, 0, none⟩)] 123 (0, 0)) :=
    ((MapKept.heap_alloc _ _).2 _ (by simp)).trans (MapKept.heap_alloc W _).1
  have b2 : ((W.alloc (.cells #[.pointer (some ⟨H, 0, none⟩)] 123)).alloc (.cells #[.int .i64 t, .string k] 83)).heap[W.heap.size + 1]? = some (.cells #[.int .i64 t, .string k] 83 (0, 0)) := by
    have := (MapKept.heap_alloc (W.alloc (.cells #[.pointer (some ⟨H, 0, none⟩)] 123)) (.cells #[.int .i64 t, .string k] 83)).1
    simpa using this
  have qa := below_trans (below_alloc W (.cells #[.pointer (some ⟨H, 0, none⟩)] 123)) (below_alloc _ (.cells #[.int .i64 t, .string k] 83))
  have ka := h.keep qa
  have wa := HW.below (M := M) qa h.n0
  obtain ⟨d, hd⟩ : ∃ d, (dead || decide (left = 0)) = d := ⟨_, rfl⟩
  rw [hd]
  go_enter Tryz.func198, Tryz.ntmps198
  go_wp2_with fail
  generalize (W.alloc (.cells #[.pointer (some ⟨H, 0, none⟩)] 123)).alloc (.cells #[.int .i64 t, .string k] 83) = W1 at *
  generalize W.heap.size + 1 = K at *
  generalize W.heap.size = P at *
  refine (hStopped n0 H M r l log left dead W1 ka h0 h1).mono ?_
  rintro e W2 ⟨rfl, k2, w2⟩
  have b1' := w2.1.far _ _ _ _ b1 (by decide) (by decide)
  have b2' := w2.1.far _ _ _ _ b2 (by decide) (by decide)
  have hw := wa.trans w2
  clear b1 b2 ka wa w2 h qa
  rw [hd] at k2 ⊢
  clear hd
  cases d
  case true =>
    go_wp2_with fail
    refine bodyPost_ret (results_none rfl _ _ _) rfl ?_
    exact ⟨rfl, by simpa using k2, hw⟩
  case false =>
    obtain ⟨vl, c11, hol⟩ := k2.log_cell
    have f11 := k2.cells.2.2.2 11
    have p0 : W2.cell? ⟨P, 0, none⟩ = some (.pointer (some ⟨H, 0, none⟩)) := by simp [World.cell?, b1']
    have x0 : W2.cell? ⟨K, 0, none⟩ = some (.int .i64 t) := by simp [World.cell?, b2']
    have x1 : W2.cell? ⟨K, 1, none⟩ = some (.string k) := by simp [World.cell?, b2']
    obtain ⟨i0, hi0, hz0, hz1, hz2⟩ := info_parts Tryz.infoStr
    have aP := ownS_ne hol b1' (by decide)
    have aK := ownS_ne hol b2' (by decide)
    have aH := k2.own_neH c11
    have lP := cell_lt p0
    have lK := cell_lt x0
    have lH := k2.ltH
    have hn0 := k2.n0
    have fz : ∀ a b, ((W2.alloc a).alloc b).drew.frozen? ⟨H, 11, none⟩ = false := fun a b => (World.frozen?_of_block ((below_trans (below_alloc W2 a) (below_alloc _ b)).block H lH)).trans f11
    have cz : ∀ a b, ((W2.alloc a).alloc b).drew.cell? ⟨H, 11, none⟩ = some vl := fun a b => (World.cell?_of_block ((below_trans (below_alloc W2 a) (below_alloc _ b)).block H lH)).trans c11
    have hsz : ¬ (9223372036854775807 < 6 + k.size) := by omega
    have hst := str1' (t % 256) (Int.emod_nonneg _ (by decide)) (Int.emod_lt_of_pos _ (by decide))
    have hwx : IntKind.u8.wrap t = t % 256 := by simp [IntKind.wrap, IntKind.bits, IntKind.signed]
    go_wp2_with fail
    refine wp_region_noPanic ?_
    refine region_cut (S := fun w' => w'.cell? ⟨P, 0, none⟩ = some (.pointer (some ⟨H, 0, none⟩)) ∧ w'.cell? ⟨K, 0, none⟩ = some (.int .i64 t) ∧ w'.cell? ⟨K, 1, none⟩ = some (.string k) ∧ w'.cell? ⟨H, 11, none⟩ = some vl) 18 (by kernel_rfl) (by kernel_rfl) (by kernel_rfl) (by kernel_rfl) (by decide) ⟨p0, x0, x1, c11⟩ (fun hHeld => ?_)
    simp only [List.drop_succ_cons, List.drop_zero]
    repeat (first | (refine WT_take (i := 0) (v := ?_) rfl (by decide) (by decide +kernel) (by decide +kernel) (fun _ _ _ h => h) (Or.inl ⟨by rfl, ?_⟩) (by assumption) ?_; rotate_left 1; (focus (intro w hSw; (try dsimp only at hSw); go_simp; (try with_reducible rfl); done)); (try simp only [Act.put, List.getElem_toArray, List.getElem_cons_zero, List.setIfInBounds_toArray, List.set_cons_zero, List.set_cons_succ])) | (refine WT_take (i := 1) (v := ?_) rfl (by decide) (by decide +kernel) (by decide +kernel) (fun _ _ _ h => h) (Or.inl ⟨by rfl, ?_⟩) (by assumption) ?_; rotate_left 1; (focus (intro w hSw; (try dsimp only at hSw); go_simp; (try with_reducible rfl); done)); (try simp only [Act.put, List.getElem_toArray, List.getElem_cons_zero, List.getElem_cons_succ, List.setIfInBounds_toArray, List.set_cons_zero, List.set_cons_succ])) | (refine WT_take (i := 2) (v := ?_) rfl (by decide) (by decide +kernel) (by decide +kernel) (fun _ _ _ h => h) (Or.inl ⟨by rfl, ?_⟩) (by assumption) ?_; rotate_left 1; (focus (intro w hSw; (try dsimp only at hSw); go_simp; (try with_reducible rfl); done)); (try simp only [Act.put, List.getElem_toArray, List.getElem_cons_zero, List.getElem_cons_succ, List.setIfInBounds_toArray, List.set_cons_zero, List.set_cons_succ])) | (refine WT_take (i := 3) (v := ?_) rfl (by decide) (by decide +kernel) (by decide +kernel) (fun _ _ _ h => h) (Or.inl ⟨by rfl, ?_⟩) (by assumption) ?_; rotate_left 1; (focus (intro w hSw; (try dsimp only at hSw); go_simp; (try with_reducible rfl); done)); (try simp only [Act.put, List.getElem_toArray, List.getElem_cons_zero, List.getElem_cons_succ, List.setIfInBounds_toArray, List.set_cons_zero, List.set_cons_succ])) | (refine WT_take (i := 4) (v := ?_) rfl (by decide) (by decide +kernel) (by decide +kernel) (fun _ _ _ h => h) (Or.inl ⟨by rfl, ?_⟩) (by assumption) ?_; rotate_left 1; (focus (intro w hSw; (try dsimp only at hSw); go_simp; (try with_reducible rfl); done)); (try simp only [Act.put, List.getElem_toArray, List.getElem_cons_zero, List.getElem_cons_succ, List.setIfInBounds_toArray, List.set_cons_zero, List.set_cons_succ])) | (refine WT_take (i := 5) (v := ?_) rfl (by decide) (by decide +kernel) (by decide +kernel) (fun _ _ _ h => h) (Or.inl ⟨by rfl, ?_⟩) (by assumption) ?_; rotate_left 1; (focus (intro w hSw; (try dsimp only at hSw); go_simp; (try with_reducible rfl); done)); (try simp only [Act.put, List.getElem_toArray, List.getElem_cons_zero, List.getElem_cons_succ, List.setIfInBounds_toArray, List.set_cons_zero, List.set_cons_succ])) | (refine WT_take (i := 6) (v := ?_) rfl (by decide) (by decide +kernel) (by decide +kernel) (fun _ _ _ h => h) (Or.inl ⟨by rfl, ?_⟩) (by assumption) ?_; rotate_left 1; (focus (intro w hSw; (try dsimp only at hSw); go_simp; (try with_reducible rfl); done)); (try simp only [Act.put, List.getElem_toArray, List.getElem_cons_zero, List.getElem_cons_succ, List.setIfInBounds_toArray, List.set_cons_zero, List.set_cons_succ])) | (refine WT_take (i := 7) (v := ?_) rfl (by decide) (by decide +kernel) (by decide +kernel) (fun _ _ _ h => h) (Or.inl ⟨by rfl, ?_⟩) (by assumption) ?_; rotate_left 1; (focus (intro w hSw; (try dsimp only at hSw); go_simp; (try with_reducible rfl); done)); (try simp only [Act.put, List.getElem_toArray, List.getElem_cons_zero, List.getElem_cons_succ, List.setIfInBounds_toArray, List.set_cons_zero, List.set_cons_succ])) | (refine WT_take (i := 8) (v := ?_) rfl (by decide) (by decide +kernel) (by decide +kernel) (fun _ _ _ h => h) (Or.inl ⟨by rfl, ?_⟩) (by assumption) ?_; rotate_left 1; (focus (intro w hSw; (try dsimp only at hSw); go_simp; (try with_reducible rfl); done)); (try simp only [Act.put, List.getElem_toArray, List.getElem_cons_zero, List.getElem_cons_succ, List.setIfInBounds_toArray, List.set_cons_zero, List.set_cons_succ])) | (refine WT_take (i := 9) (v := ?_) rfl (by decide) (by decide +kernel) (by decide +kernel) (fun _ _ _ h => h) (Or.inl ⟨by rfl, ?_⟩) (by assumption) ?_; rotate_left 1; (focus (intro w hSw; (try dsimp only at hSw); go_simp; (try with_reducible rfl); done)); (try simp only [Act.put, List.getElem_toArray, List.getElem_cons_zero, List.getElem_cons_succ, List.setIfInBounds_toArray, List.set_cons_zero, List.set_cons_succ])) | (refine WT_take (i := 10) (v := ?_) rfl (by decide) (by decide +kernel) (by decide +kernel) (fun _ _ _ h => h) (Or.inl ⟨by rfl, ?_⟩) (by assumption) ?_; rotate_left 1; (focus (intro w hSw; (try dsimp only at hSw); go_simp; (try with_reducible rfl); done)); (try simp only [Act.put, List.getElem_toArray, List.getElem_cons_zero, List.getElem_cons_succ, List.setIfInBounds_toArray, List.set_cons_zero, List.set_cons_succ])) | (refine WT_take (i := 11) (v := ?_) rfl (by decide) (by decide +kernel) (by decide +kernel) (fun _ _ _ h => h) (Or.inl ⟨by rfl, ?_⟩) (by assumption) ?_; rotate_left 1; (focus (intro w hSw; (try dsimp only at hSw); go_simp; (try with_reducible rfl); done)); (try simp only [Act.put, List.getElem_toArray, List.getElem_cons_zero, List.getElem_cons_succ, List.setIfInBounds_toArray, List.set_cons_zero, List.set_cons_succ])) | (refine WT_take (i := 12) (v := ?_) rfl (by decide) (by decide +kernel) (by decide +kernel) (fun _ _ _ h => h) (Or.inl ⟨by rfl, ?_⟩) (by assumption) ?_; rotate_left 1; (focus (intro w hSw; (try dsimp only at hSw); go_simp; (try with_reducible rfl); done)); (try simp only [Act.put, List.getElem_toArray, List.getElem_cons_zero, List.getElem_cons_succ, List.setIfInBounds_toArray, List.set_cons_zero, List.set_cons_succ])) | (refine WT_take (i := 13) (v := ?_) rfl (by decide) (by decide +kernel) (by decide +kernel) (fun _ _ _ h => h) (Or.inl ⟨by rfl, ?_⟩) (by assumption) ?_; rotate_left 1; (focus (intro w hSw; (try dsimp only at hSw); go_simp; (try with_reducible rfl); done)); (try simp only [Act.put, List.getElem_toArray, List.getElem_cons_zero, List.getElem_cons_succ, List.setIfInBounds_toArray, List.set_cons_zero, List.set_cons_succ])) | (refine WT_take (i := 14) (v := ?_) rfl (by decide) (by decide +kernel) (by decide +kernel) (fun _ _ _ h => h) (Or.inl ⟨by rfl, ?_⟩) (by assumption) ?_; rotate_left 1; (focus (intro w hSw; (try dsimp only at hSw); go_simp; (try with_reducible rfl); done)); (try simp only [Act.put, List.getElem_toArray, List.getElem_cons_zero, List.getElem_cons_succ, List.setIfInBounds_toArray, List.set_cons_zero, List.set_cons_succ])) | (refine WT_take (i := 15) (v := ?_) rfl (by decide) (by decide +kernel) (by decide +kernel) (fun _ _ _ h => h) (Or.inl ⟨by rfl, ?_⟩) (by assumption) ?_; rotate_left 1; (focus (intro w hSw; (try dsimp only at hSw); go_simp; (try with_reducible rfl); done)); (try simp only [Act.put, List.getElem_toArray, List.getElem_cons_zero, List.getElem_cons_succ, List.setIfInBounds_toArray, List.set_cons_zero, List.set_cons_succ])) | (refine WT_take (i := 16) (v := ?_) rfl (by decide) (by decide +kernel) (by decide +kernel) (fun _ _ _ h => h) (Or.inl ⟨by rfl, ?_⟩) (by assumption) ?_; rotate_left 1; (focus (intro w hSw; (try dsimp only at hSw); go_simp; (try with_reducible rfl); done)); (try simp only [Act.put, List.getElem_toArray, List.getElem_cons_zero, List.getElem_cons_succ, List.setIfInBounds_toArray, List.set_cons_zero, List.set_cons_succ])) | (refine WT_take (i := 17) (v := ?_) rfl (by decide) (by decide +kernel) (by decide +kernel) (fun _ _ _ h => h) (Or.inl ⟨by rfl, ?_⟩) (by assumption) ?_; rotate_left 1; (focus (intro w hSw; (try dsimp only at hSw); go_simp; (try with_reducible rfl); done)); (try simp only [Act.put, List.getElem_toArray, List.getElem_cons_zero, List.getElem_cons_succ, List.setIfInBounds_toArray, List.set_cons_zero, List.set_cons_succ])))
    refine WT_one (i := 10) (by kernel_rfl) (by decide) rfl (fun KK hK => ?_)
    go_simp
    refine hK.out _ _ ?_ (fun hHeld => ?_)
    · go_keep
    clear hK KK
    refine WT_one (i := 11) (by kernel_rfl) (by decide) rfl (fun KK hK => ?_)
    go_simp
    refine hK.out _ _ ?_ (fun hHeld => ?_)
    · go_keep
    clear hK KK
    repeat (first | (refine WT_take (i := 0) (v := ?_) rfl (by decide) (by decide +kernel) (by decide +kernel) (fun _ _ _ h => h) (Or.inl ⟨by rfl, ?_⟩) (by assumption) ?_; rotate_left 1; (focus (intro w hSw; (try dsimp only at hSw); go_simp; (try with_reducible rfl); done)); (try simp only [Act.put, List.getElem_toArray, List.getElem_cons_zero, List.setIfInBounds_toArray, List.set_cons_zero, List.set_cons_succ])) | (refine WT_take (i := 1) (v := ?_) rfl (by decide) (by decide +kernel) (by decide +kernel) (fun _ _ _ h => h) (Or.inl ⟨by rfl, ?_⟩) (by assumption) ?_; rotate_left 1; (focus (intro w hSw; (try dsimp only at hSw); go_simp; (try with_reducible rfl); done)); (try simp only [Act.put, List.getElem_toArray, List.getElem_cons_zero, List.getElem_cons_succ, List.setIfInBounds_toArray, List.set_cons_zero, List.set_cons_succ])) | (refine WT_take (i := 2) (v := ?_) rfl (by decide) (by decide +kernel) (by decide +kernel) (fun _ _ _ h => h) (Or.inl ⟨by rfl, ?_⟩) (by assumption) ?_; rotate_left 1; (focus (intro w hSw; (try dsimp only at hSw); go_simp; (try with_reducible rfl); done)); (try simp only [Act.put, List.getElem_toArray, List.getElem_cons_zero, List.getElem_cons_succ, List.setIfInBounds_toArray, List.set_cons_zero, List.set_cons_succ])) | (refine WT_take (i := 3) (v := ?_) rfl (by decide) (by decide +kernel) (by decide +kernel) (fun _ _ _ h => h) (Or.inl ⟨by rfl, ?_⟩) (by assumption) ?_; rotate_left 1; (focus (intro w hSw; (try dsimp only at hSw); go_simp; (try with_reducible rfl); done)); (try simp only [Act.put, List.getElem_toArray, List.getElem_cons_zero, List.getElem_cons_succ, List.setIfInBounds_toArray, List.set_cons_zero, List.set_cons_succ])) | (refine WT_take (i := 4) (v := ?_) rfl (by decide) (by decide +kernel) (by decide +kernel) (fun _ _ _ h => h) (Or.inl ⟨by rfl, ?_⟩) (by assumption) ?_; rotate_left 1; (focus (intro w hSw; (try dsimp only at hSw); go_simp; (try with_reducible rfl); done)); (try simp only [Act.put, List.getElem_toArray, List.getElem_cons_zero, List.getElem_cons_succ, List.setIfInBounds_toArray, List.set_cons_zero, List.set_cons_succ])) | (refine WT_take (i := 5) (v := ?_) rfl (by decide) (by decide +kernel) (by decide +kernel) (fun _ _ _ h => h) (Or.inl ⟨by rfl, ?_⟩) (by assumption) ?_; rotate_left 1; (focus (intro w hSw; (try dsimp only at hSw); go_simp; (try with_reducible rfl); done)); (try simp only [Act.put, List.getElem_toArray, List.getElem_cons_zero, List.getElem_cons_succ, List.setIfInBounds_toArray, List.set_cons_zero, List.set_cons_succ])) | (refine WT_take (i := 6) (v := ?_) rfl (by decide) (by decide +kernel) (by decide +kernel) (fun _ _ _ h => h) (Or.inl ⟨by rfl, ?_⟩) (by assumption) ?_; rotate_left 1; (focus (intro w hSw; (try dsimp only at hSw); go_simp; (try with_reducible rfl); done)); (try simp only [Act.put, List.getElem_toArray, List.getElem_cons_zero, List.getElem_cons_succ, List.setIfInBounds_toArray, List.set_cons_zero, List.set_cons_succ])) | (refine WT_take (i := 7) (v := ?_) rfl (by decide) (by decide +kernel) (by decide +kernel) (fun _ _ _ h => h) (Or.inl ⟨by rfl, ?_⟩) (by assumption) ?_; rotate_left 1; (focus (intro w hSw; (try dsimp only at hSw); go_simp; (try with_reducible rfl); done)); (try simp only [Act.put, List.getElem_toArray, List.getElem_cons_zero, List.getElem_cons_succ, List.setIfInBounds_toArray, List.set_cons_zero, List.set_cons_succ])) | (refine WT_take (i := 8) (v := ?_) rfl (by decide) (by decide +kernel) (by decide +kernel) (fun _ _ _ h => h) (Or.inl ⟨by rfl, ?_⟩) (by assumption) ?_; rotate_left 1; (focus (intro w hSw; (try dsimp only at hSw); go_simp; (try with_reducible rfl); done)); (try simp only [Act.put, List.getElem_toArray, List.getElem_cons_zero, List.getElem_cons_succ, List.setIfInBounds_toArray, List.set_cons_zero, List.set_cons_succ])) | (refine WT_take (i := 9) (v := ?_) rfl (by decide) (by decide +kernel) (by decide +kernel) (fun _ _ _ h => h) (Or.inl ⟨by rfl, ?_⟩) (by assumption) ?_; rotate_left 1; (focus (intro w hSw; (try dsimp only at hSw); go_simp; (try with_reducible rfl); done)); (try simp only [Act.put, List.getElem_toArray, List.getElem_cons_zero, List.getElem_cons_succ, List.setIfInBounds_toArray, List.set_cons_zero, List.set_cons_succ])) | (refine WT_take (i := 10) (v := ?_) rfl (by decide) (by decide +kernel) (by decide +kernel) (fun _ _ _ h => h) (Or.inl ⟨by rfl, ?_⟩) (by assumption) ?_; rotate_left 1; (focus (intro w hSw; (try dsimp only at hSw); go_simp; (try with_reducible rfl); done)); (try simp only [Act.put, List.getElem_toArray, List.getElem_cons_zero, List.getElem_cons_succ, List.setIfInBounds_toArray, List.set_cons_zero, List.set_cons_succ])) | (refine WT_take (i := 11) (v := ?_) rfl (by decide) (by decide +kernel) (by decide +kernel) (fun _ _ _ h => h) (Or.inl ⟨by rfl, ?_⟩) (by assumption) ?_; rotate_left 1; (focus (intro w hSw; (try dsimp only at hSw); go_simp; (try with_reducible rfl); done)); (try simp only [Act.put, List.getElem_toArray, List.getElem_cons_zero, List.getElem_cons_succ, List.setIfInBounds_toArray, List.set_cons_zero, List.set_cons_succ])) | (refine WT_take (i := 12) (v := ?_) rfl (by decide) (by decide +kernel) (by decide +kernel) (fun _ _ _ h => h) (Or.inl ⟨by rfl, ?_⟩) (by assumption) ?_; rotate_left 1; (focus (intro w hSw; (try dsimp only at hSw); go_simp; (try with_reducible rfl); done)); (try simp only [Act.put, List.getElem_toArray, List.getElem_cons_zero, List.getElem_cons_succ, List.setIfInBounds_toArray, List.set_cons_zero, List.set_cons_succ])) | (refine WT_take (i := 13) (v := ?_) rfl (by decide) (by decide +kernel) (by decide +kernel) (fun _ _ _ h => h) (Or.inl ⟨by rfl, ?_⟩) (by assumption) ?_; rotate_left 1; (focus (intro w hSw; (try dsimp only at hSw); go_simp; (try with_reducible rfl); done)); (try simp only [Act.put, List.getElem_toArray, List.getElem_cons_zero, List.getElem_cons_succ, List.setIfInBounds_toArray, List.set_cons_zero, List.set_cons_succ])) | (refine WT_take (i := 14) (v := ?_) rfl (by decide) (by decide +kernel) (by decide +kernel) (fun _ _ _ h => h) (Or.inl ⟨by rfl, ?_⟩) (by assumption) ?_; rotate_left 1; (focus (intro w hSw; (try dsimp only at hSw); go_simp; (try with_reducible rfl); done)); (try simp only [Act.put, List.getElem_toArray, List.getElem_cons_zero, List.getElem_cons_succ, List.setIfInBounds_toArray, List.set_cons_zero, List.set_cons_succ])) | (refine WT_take (i := 15) (v := ?_) rfl (by decide) (by decide +kernel) (by decide +kernel) (fun _ _ _ h => h) (Or.inl ⟨by rfl, ?_⟩) (by assumption) ?_; rotate_left 1; (focus (intro w hSw; (try dsimp only at hSw); go_simp; (try with_reducible rfl); done)); (try simp only [Act.put, List.getElem_toArray, List.getElem_cons_zero, List.getElem_cons_succ, List.setIfInBounds_toArray, List.set_cons_zero, List.set_cons_succ])) | (refine WT_take (i := 16) (v := ?_) rfl (by decide) (by decide +kernel) (by decide +kernel) (fun _ _ _ h => h) (Or.inl ⟨by rfl, ?_⟩) (by assumption) ?_; rotate_left 1; (focus (intro w hSw; (try dsimp only at hSw); go_simp; (try with_reducible rfl); done)); (try simp only [Act.put, List.getElem_toArray, List.getElem_cons_zero, List.getElem_cons_succ, List.setIfInBounds_toArray, List.set_cons_zero, List.set_cons_succ])) | (refine WT_take (i := 17) (v := ?_) rfl (by decide) (by decide +kernel) (by decide +kernel) (fun _ _ _ h => h) (Or.inl ⟨by rfl, ?_⟩) (by assumption) ?_; rotate_left 1; (focus (intro w hSw; (try dsimp only at hSw); go_simp; (try with_reducible rfl); done)); (try simp only [Act.put, List.getElem_toArray, List.getElem_cons_zero, List.getElem_cons_succ, List.setIfInBounds_toArray, List.set_cons_zero, List.set_cons_succ])))
    refine WT_one (i := 16) (by kernel_rfl) (by decide) rfl (fun KK hK => ?_)
    go_simp
    refine hK.out _ _ ?_ (fun hHeld => ?_)
    · go_keep
    clear hK KK
    refine WT_one (i := 17) (by kernel_rfl) (by decide) rfl (fun KK hK => ?_)
    refine step_append_lies _ (by rfl) _ _ _ (by rfl) n0 9 i0 _ 1 16 Tryz.underlying23 hi0 hz0 hz1 hz2 rfl (by omega) vl log.length (log.map .string) (by rfl) (((hol.alloc _).alloc _).drew) ⟨W2.heap.size + 1, 0, none⟩ 1 1 [.string (dropT ⟨t, k, v⟩)] (by rfl) (by rfl) (World.news_of_block (cs := #[.string (dropT ⟨t, k, v⟩)]) (t := 9) (fr := (0, 0)) (new_two W2 _ _)) (by simp [Value.oneCell']) (by omega) (by unfold maxLen; omega) (by omega) (by simp; omega) (W2.heap.size + 2) (by simp) ?_
    intro gg cap w1 hown1 hgrow hat hlt
    refine hK.out _ _ ?_ (fun hHeld => ?_)
    · go_split_ands
      refine ⟨?_, ?_, ?_, ?_⟩
      · (rw [hgrow.cell_far _ (by simp; omega) (Ne.symm aP)]; simp [*])
      · (rw [hgrow.cell_far _ (by simp; omega) (Ne.symm aK)]; simp [*])
      · (rw [hgrow.cell_far _ (by simp; omega) (Ne.symm aK)]; simp [*])
      · (rw [hgrow.cell_far _ (by simp; omega) (Ne.symm aH)]; simp [*])
    clear hK KK
    refine WT_done (by kernel_rfl) ?_
    have hfz := (hgrow.frozen_far ⟨H, 11, none⟩ (by simp; omega) (Ne.symm aH)).trans (fz _ _)
    have hcz := hHeld.2.2.2
    go_wp2_with fail
    refine NoPanic.normal ?_
    obtain ⟨k3, w3⟩ := k2.app c11 ((below_trans (below_alloc W2 _) (below_alloc _ _)).drew) hgrow (dropT ⟨t, k, v⟩) hown1
    have b1'' := w3.1.far _ _ _ _ b1' (by decide) (by decide)
    have b2'' := w3.1.far _ _ _ _ b2' (by decide) (by decide)
    have hw3 := hw.trans w3
    clear hHeld hown1 hgrow hat hlt hfz hcz w3 hst hol b1' b2' p0 x0 x1 c11 f11 aP aK aH lP lK lH hn0 fz cz k2 hw
    generalize w1.setCell ⟨H, 11, none⟩ _ = W3 at *
    have p0 : W3.cell? ⟨P, 0, none⟩ = some (.pointer (some ⟨H, 0, none⟩)) := by simp [World.cell?, b1'']
    have x0 : W3.cell? ⟨K, 0, none⟩ = some (.int .i64 t) := by simp [World.cell?, b2'']
    have x1 : W3.cell? ⟨K, 1, none⟩ = some (.string k) := by simp [World.cell?, b2'']
    have c10 := k3.cells.2.2.1
    go_wp2_with fail
    refine region_tail 6 (by kernel_rfl) (by kernel_rfl) ?_
    simp only [List.take_succ_cons, List.take_zero, List.drop_succ_cons, List.drop_zero]
    still_step
    still_step
    still_step
    still_step
    still_step
    still_step
    refine wpStill_nil ?_
    go_wp2_with (first | (at_delete; refine wpl_delete _ rfl _ _ rfl M l rfl t k rfl (k3.mp.kept (w' := W3.drew) rfl) hs hk ho.1 ho.2 ?_; intro es' cl' hm') | fail)
    go_end0
    obtain ⟨k4, w4⟩ := (k3.keep (below_drew W3)).mapSet hm'
    exact ⟨rfl, k4, (hw3.trans (HW.below (below_drew W3) k3.n0)).trans w4⟩
end Go.Proofs.YtindifjhocgkbaaGreatDoor
