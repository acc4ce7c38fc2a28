import Derived.Test.YtindifjhocgkbaaGreatDoorKeepB
import Derived.Deep.CutRange
namespace Go.Proofs.YtindifjhocgkbaaGreatDoor
open Go.RowKit

/-- Changes that may be, of no key twice. -/
def GoodL (l : List OpD) : Prop := ∀ j (hj : j < l.length), wrongN l[j] (l.take j) = 0

theorem heap_setCell_type {w : World} {b : Nat} {c : Array Value} {t : TypeId} {f : Nat × Nat} (h : w.heap[b]? = some (.cells c t f)) (a : Addr) (x : Value) : ∃ c' f', (w.setCell a x).heap[b]? = some (.cells c' t f') := by
  simp only [World.setCell, Array.getElem?_modify]
  by_cases e : a.block = b
  · rw [if_pos e, h]
    simp only [Option.map_some]
    split <;> simp_all
  · rw [if_neg e]; exact ⟨c, f, h⟩

/-- What the loop of delta knows: D: the block of the delta that is made. -/
structure KD (w wr : World) (D : Nat) (v : Int) (l : List OpD) (ao : Option Addr) (cp : Nat) : Prop where
  own : wr.ownsRow w.heap.size 85 4 (.slice ao l.length cp) l.length (opsC l)
  d0 : wr.cell? ⟨D, 0, none⟩ = some (.int .u64 v)
  d1 : wr.cell? ⟨D, 1, none⟩ = some (.slice ao l.length cp)
  df : wr.frozen? ⟨D, 1, none⟩ = false
  ty : ∃ c f, wr.heap[D]? = some (.cells c 34 f)
  r0 : wr.cell? ⟨w.heap.size, 0, none⟩ = some (.int .u64 0)
  r1 : wr.cell? ⟨w.heap.size, 1, none⟩ = some (.slice none 0 0)
  rf0 : wr.frozen? ⟨w.heap.size, 0, none⟩ = false
  rf1 : wr.frozen? ⟨w.heap.size, 1, none⟩ = false
  rty : ∃ c f, wr.heap[w.heap.size]? = some (.cells c 34 f)
  hD : w.heap.size < D
  qw : Below w.heap.size w wr
theorem KD.keep {w wr w' : World} {D : Nat} {v : Int} {l : List OpD} {ao : Option Addr} {cp : Nat} (h : KD w wr D v l ao cp) (q : Below wr.heap.size wr w') : KD w w' D v l ao cp := by
  have hD : D < wr.heap.size := cell_lt h.d0
  have hR : w.heap.size < wr.heap.size := cell_lt h.r0
  obtain ⟨c, f, hty⟩ := h.ty
  obtain ⟨c', f', hrt⟩ := h.rty
  exact ⟨h.own.kept (grown_of_below (r := none) q) (by cases (Value.slice ao l.length cp).ownBlock <;> simp), (q.cell (cell_lt h.d0)).trans h.d0, (q.cell (cell_lt h.d1)).trans h.d1, (q.frozen (p := ⟨D, 1, none⟩) hD).trans h.df, ⟨c, f, (q.block D hD).trans hty⟩, (q.cell (cell_lt h.r0)).trans h.r0, (q.cell (cell_lt h.r1)).trans h.r1, (q.frozen (p := ⟨w.heap.size, 0, none⟩) hR).trans h.rf0, (q.frozen (p := ⟨w.heap.size, 1, none⟩) hR).trans h.rf1, ⟨c', f', (q.block _ hR).trans hrt⟩, h.hD, below_trans h.qw q⟩
theorem KD.ops {w wr : World} {D : Nat} {v : Int} {l : List OpD} {ao : Option Addr} {cp : Nat} (h : KD w wr D v l ao cp) : OpsIn wr ao l := by
  obtain ⟨ao', cp', e1, _, _, h4, _⟩ := ops_of_own h.own
  simp only [Value.slice.injEq] at e1
  obtain ⟨rfl, _, rfl⟩ := e1
  exact h4
theorem KD.push {w wr w' : World} {D : Nat} {v : Int} {l l' : List OpD} {ao ao' : Option Addr} {cp cp' : Nat} (h : KD w wr D v l ao cp) (ho : w'.ownsRow w.heap.size 85 4 (.slice ao' l'.length cp') l'.length (opsC l')) (g : wr.grownBy w' (Value.slice ao l.length cp).ownBlock) :
    KD w (w'.setCell ⟨D, 1, none⟩ (.slice ao' l'.length cp')) D v l' ao' cp' := by
  have hD := h.hD
  have hDw : D < wr.heap.size := cell_lt h.d0
  have hRw : w.heap.size < wr.heap.size := cell_lt h.r0
  obtain ⟨c, f, hty⟩ := h.ty
  obtain ⟨c', f', hrt⟩ := h.rty
  have nD : some D ≠ (Value.slice ao l.length cp).ownBlock := own_ne h.own hty (by decide)
  have nR : some w.heap.size ≠ (Value.slice ao l.length cp).ownBlock := own_ne h.own hrt (by decide)
  have hty' : w'.heap[D]? = some (.cells c 34 f) := (g.block D hDw nD).trans hty
  have hrt' : w'.heap[w.heap.size]? = some (.cells c' 34 f') := (g.block _ hRw nR).trans hrt
  have nD' : some D ≠ (Value.slice ao' l'.length cp').ownBlock := own_ne ho hty' (by decide)
  have hc : ∀ (a : Addr) (x : Value), w'.cell? a = some x → a ≠ ⟨D, 1, none⟩ → (w'.setCell ⟨D, 1, none⟩ (.slice ao' l'.length cp')).cell? a = some x := fun a x h2 h3 => by
    rw [World.cell?_setCell_other _ _ _ _ (fun h => h3 h.symm)]; exact h2
  refine ⟨?_, hc _ _ (g.cell h.d0 nD) (by simp), World.cell?_setCell_same _ _ _ (g.cell h.d1 nD), (World.frozen?_setCell ..).trans ((World.frozen?_of_block (g.block _ hDw nD)).trans h.df), heap_setCell_type hty' _ _, hc _ _ (g.cell h.r0 nR) (by simp), hc _ _ (g.cell h.r1 nR) (by simp <;> omega), (World.frozen?_setCell ..).trans ((World.frozen?_of_block (g.block _ hRw nR)).trans h.rf0), (World.frozen?_setCell ..).trans ((World.frozen?_of_block (g.block _ hRw nR)).trans h.rf1), heap_setCell_type hrt' _ _, hD, ?_⟩
  · exact ho.kept (show w'.grownBy (w'.setCell ⟨D, 1, none⟩ (.slice ao' l'.length cp')) (some D) from grown_set' (grown_refl _ _) rfl) (.inr (fun e => nD' e.symm))
  · exact (h.qw.grown g h.qw.size (fun k hk => (h.own.lt k hk).1)).setCell (by simp <;> omega) _

theorem heap_at (w : World) (o : Obj) (b : Nat) (h : b = w.heap.size) : (w.alloc o).heap[b]? = some o := by subst h; exact heap_alloc_new w o
theorem good_snoc {l : List OpD} {o : OpD} (h : GoodL l) (hok : okB o) (ha : l.any (sameKey o.table o.key) = false) : GoodL (l ++ [o]) := fun j hj => by
  by_cases e : j < l.length
  · have := h j e
    rw [List.getElem_append_left e, List.take_append_of_le_length (by omega)]
    exact this
  · obtain rfl : j = l.length := by simp at hj; omega
    rw [List.getElem_concat_length rfl, List.take_append_of_le_length (Nat.le_refl _), List.take_length]
    exact wrongN_0 hok.1 hok.2.1 ha hok.2.2
/-- A change that was made, at a block of its own. -/
def CutO (wr : World) (p : Value) (wc : World) : Prop := ∃ (b : Nat) (o' : OpD), p = .pointer (some ⟨b, 0, none⟩) ∧ okB o' ∧ wr.heap.size ≤ b ∧ wc.cell? ⟨b, 0, none⟩ = some (.int .i64 o'.kind) ∧ wc.cell? ⟨b, 1, none⟩ = some (.int .i64 o'.table) ∧ wc.cell? ⟨b, 2, none⟩ = some (.string o'.key) ∧ wc.cell? ⟨b, 3, none⟩ = some (.string o'.val) ∧ Below wr.heap.size wr wc
theorem cutA {wr W w2 : World} {o' : OpD} {t : TypeId} (hok : okB o') (q1 : Below wr.heap.size wr W) (q2 : Below W.heap.size W w2) :
    CutO wr (.pointer (some ⟨w2.heap.size, 0, none⟩)) (w2.alloc (.cells #[.int .i64 o'.kind, .int .i64 o'.table, .string o'.key, .string o'.val] t)) := by
  have qq := below_trans q1 q2
  exact ⟨w2.heap.size, o', rfl, hok, qq.size, by simp, by simp, by simp, by simp, below_trans qq (below_alloc _ _)⟩
theorem cutB {wr W w2 : World} {o' : OpD} {x0 x1 x2 x3 : Value} (hok : okB o') (q1 : Below wr.heap.size wr W) (hs : wr.heap.size < W.heap.size) (q2 : Below W.heap.size W w2)
    (e0 : W.cell? ⟨wr.heap.size, 0, none⟩ = some x0) (e1 : W.cell? ⟨wr.heap.size, 1, none⟩ = some x1) (e2 : W.cell? ⟨wr.heap.size, 2, none⟩ = some x2) (e3 : W.cell? ⟨wr.heap.size, 3, none⟩ = some x3) :
    CutO wr (.pointer (some ⟨wr.heap.size, 0, none⟩)) ((((w2.setCell ⟨wr.heap.size, 0, none⟩ (.int .i64 o'.kind)).setCell ⟨wr.heap.size, 1, none⟩ (.int .i64 o'.table)).setCell ⟨wr.heap.size, 2, none⟩ (.string o'.key)).setCell ⟨wr.heap.size, 3, none⟩ (.string o'.val)) := by
  have qq := below_trans q1 q2
  have f0 := (q2.cell (p := ⟨wr.heap.size, 0, none⟩) hs).trans e0
  have f1 := (q2.cell (p := ⟨wr.heap.size, 1, none⟩) hs).trans e1
  have f2 := (q2.cell (p := ⟨wr.heap.size, 2, none⟩) hs).trans e2
  have f3 := (q2.cell (p := ⟨wr.heap.size, 3, none⟩) hs).trans e3
  have hne : ∀ i j : Nat, i ≠ j → (⟨wr.heap.size, i, none⟩ : Addr) ≠ ⟨wr.heap.size, j, none⟩ := fun i j h e => h (Addr.mk.inj e).2.1
  refine ⟨wr.heap.size, o', rfl, hok, Nat.le_refl _, ?_, ?_, ?_, ?_, (((qq.setCell (by simp) _).setCell (by simp) _).setCell (by simp) _).setCell (by simp) _⟩
  · rw [World.cell?_setCell_other _ _ _ _ (hne 3 0 (by decide)), World.cell?_setCell_other _ _ _ _ (hne 2 0 (by decide)), World.cell?_setCell_other _ _ _ _ (hne 1 0 (by decide))]
    exact World.cell?_setCell_same _ _ _ f0
  · rw [World.cell?_setCell_other _ _ _ _ (hne 3 1 (by decide)), World.cell?_setCell_other _ _ _ _ (hne 2 1 (by decide))]
    exact World.cell?_setCell_same _ _ _ ((World.cell?_setCell_other _ _ _ _ (hne 0 1 (by decide))).trans f1)
  · rw [World.cell?_setCell_other _ _ _ _ (hne 3 2 (by decide))]
    exact World.cell?_setCell_same _ _ _ ((World.cell?_setCell_other _ _ _ _ (hne 1 2 (by decide))).trans ((World.cell?_setCell_other _ _ _ _ (hne 0 2 (by decide))).trans f2))
  · exact World.cell?_setCell_same _ _ _ ((World.cell?_setCell_other _ _ _ _ (hne 2 3 (by decide))).trans ((World.cell?_setCell_other _ _ _ _ (hne 1 3 (by decide))).trans ((World.cell?_setCell_other _ _ _ _ (hne 0 3 (by decide))).trans f3)))

set_option maxRecDepth 10000 in
set_option maxHeartbeats 4000000 in
theorem kDelta (v : Int) (ra : Option Addr) (n rc : Nat) (w : World) (hn : n ≤ 9223372036854775800) (hr : IntsIn w ra n) :
    Calls Tryz.prog 20 #[.int .u64 v, .slice ra n rc] w fun e w' => ∃ (l : List OpD) (ao : Option Addr) (cp : Nat), e = .returned (.agg #[.int .u64 v, .slice ao l.length cp]) ∧ GoodL l ∧ 1 ≤ l.length ∧ l.length ≤ 8 ∧ w'.ownsRow w.heap.size 85 4 (.slice ao l.length cp) l.length (opsC l) ∧ Below w.heap.size w w' := by
  obtain ⟨ii, hi, hz0, hz1, hz2⟩ := info_parts Tryz.info85
  go_enter Tryz.func20, Tryz.ntmps20
  go_wp2_with fail
  refine (kOp n 1 _ (by omega) (by decide)).mono ?_
  rintro e w1 ⟨o, rfl, hok, q1⟩
  go_wp2_with fail
  have hkd : KD w ((w1.alloc (.cells #[.int .i64 o.kind, .int .i64 o.table, .string o.key, .string o.val] 85)).alloc (.cells #[.int .u64 v, .slice (some ⟨w1.heap.size, 0, none⟩) 1 1] 34)) (w1.heap.size + 1) v [o] (some ⟨w1.heap.size, 0, none⟩) 1 := by
    have hs1 : w.heap.size < w1.heap.size := Nat.lt_of_lt_of_le (by simp) q1.size
    have qw1 := below_trans (below_alloc w (.cells #[.int .u64 0, .slice none 0 0] 34)) q1
    have q2 : Below w1.heap.size w1 ((w1.alloc (.cells #[.int .i64 o.kind, .int .i64 o.table, .string o.key, .string o.val] 85)).alloc (.cells #[.int .u64 v, .slice (some ⟨w1.heap.size, 0, none⟩) 1 1] 34)) := below_trans (below_alloc _ _) (below_alloc _ _)
    have q3 := below_trans q1 q2
    have hown := World.ownsRow_lit (base := w.heap.size) (e := 85) (size := 4) w1 #[.int .i64 o.kind, .int .i64 o.table, .string o.key, .string o.val] 1 (by omega) (by decide) rfl
    refine ⟨hown.kept (grown_of_below (r := none) (below_alloc _ _)) (.inr (by simp [Value.ownBlock])), by simp, by simp, by simp, ⟨_, _, heap_at _ _ _ (by simp)⟩, (q3.cell (p := ⟨w.heap.size, 0, none⟩) (by simp)).trans (by simp), (q3.cell (p := ⟨w.heap.size, 1, none⟩) (by simp)).trans (by simp), (q3.frozen (p := ⟨w.heap.size, 0, none⟩) (by simp)).trans (by simp), (q3.frozen (p := ⟨w.heap.size, 1, none⟩) (by simp)).trans (by simp), ⟨_, _, (q3.block w.heap.size (by simp)).trans (heap_at _ _ _ rfl)⟩, by omega, below_trans qw1 q2⟩
  have hg0 : GoodL [o] := fun j hj => by
    obtain rfl : j = 0 := by simpa using hj
    exact wrongN_0 hok.1 hok.2.1 rfl hok.2.2
  generalize w1.heap.size + 1 = D at hkd ⊢
  generalize ((w1.alloc (.cells #[.int .i64 o.kind, .int .i64 o.table, .string o.key, .string o.val] 85)).alloc (.cells #[.int .u64 v, .slice (some ⟨w1.heap.size, 0, none⟩) 1 1] 34)) = W0 at hkd ⊢
  go_loopw [6] (fun i wr => ∃ (j : Nat) (l : List OpD) (ao : Option Addr) (cp : Nat), i = .int .i64 j ∧ j ≤ n + 1 ∧ GoodL l ∧ 1 ≤ l.length ∧ l.length ≤ 8 ∧ KD w wr D v l ao cp)
    (fun i _ => n + 2 - (intOf i).toNat)
  case atStart => exact ⟨0, [o], _, _, rfl, by omega, hg0, by simp, by simp, hkd⟩
  case round =>
    clear hkd hg0
    obtain ⟨j, l, ao, cp, rfl, hj, hg, hl1, hl8, hd⟩ := hrel
    have hcop := hd
    obtain ⟨own, d0, d1, df, ⟨tc, tf, ty⟩, r0, r1, rf0, rf1, ⟨sc, sf, rty⟩, hD, qw⟩ := hcop
    have HOWN : Hid (((wr.setCell ⟨w.heap.size, 0, none⟩ (.int .u64 v)).setCell ⟨w.heap.size, 1, none⟩ (.slice ao l.length cp)).ownsRow w.heap.size 85 4 (.slice ao l.length cp) l.length (opsC l)) := by
      have nR : some w.heap.size ≠ (Value.slice ao l.length cp).ownBlock := own_ne own rty (by decide)
      exact own.kept (show wr.grownBy ((wr.setCell ⟨w.heap.size, 0, none⟩ (.int .u64 v)).setCell ⟨w.heap.size, 1, none⟩ (.slice ao l.length cp)) (some w.heap.size) from grown_set' (grown_set' (grown_refl _ _) rfl) rfl) (.inr (fun e => nR e.symm))
    clear ty rty own
    by_cases hlt : j + 1 < n
    · have hlt' : (j : Int) + 1 < (n : Int) := by omega
      by_cases hll : l.length < 8
      · have hll' : (l.length : Int) < 8 := by omega
        obtain ⟨rb, ro, rfl, hrb, hrc⟩ := hr (by omega)
        obtain ⟨x0, hx0, bx0⟩ := hrc j (by omega)
        obtain ⟨x1, hx1, bx1⟩ := hrc (j + 1) hlt
        have y0 := (hd.qw.cell (p := ⟨rb, ro + j, none⟩) hrb).trans hx0
        have hjn : (j : Int) < (n : Int) := by omega
        have hwj : IntKind.i64.wrap ((j : Int) + 1) = (j : Int) + 1 := by simp [IntKind.wrap, IntKind.bits, IntKind.signed]; omega
        have htn : ((j : Int) + 1).toNat = j + 1 := by omega
        have h0j : (0 : Int) ≤ (j : Int) + 1 := by omega
        have hrbw : rb < wr.heap.size := Nat.lt_of_lt_of_le hrb hd.qw.size
        have y1 := (hd.qw.cell (p := ⟨rb, ro + (j + 1), none⟩) hrb).trans hx1
        go_wp2_with fail
        go_cut [7] from 16 to 65 (fun p wc => CutO wr p wc)
        case first =>
          go_region_with (go_at_call 53; refine (kOp x0 x1 _ bx0 bx1).mono ?_; rintro e w2 ⟨o', rfl, hok', q2⟩; obtain ⟨cs, fs⟩ := bcells q2)
          all_goals (go_wp2_with fail; go_meet)
          all_goals first
            | with_reducible exact cutA hok' (below_drew _) q2
            | with_reducible exact cutB (x0 := .int .i64 0) (x1 := .int .i64 0) (x2 := .string ⟨#[]⟩) (x3 := .string ⟨#[]⟩) hok' (below_trans (below_alloc _ _) (below_drew _)) (by simp) q2 (by simp) (by simp) (by simp) (by simp)
        case rest =>
          obtain ⟨b, o', rfl, hok', hb, c0, c1, c2, c3, qc⟩ := hcut
          have hd' := hd.keep qc
          have hDw : D < wr.heap.size := cell_lt d0
          have HQC : Hid (Below wr.heap.size wr wc) := qc
          clear qc d0 d1 df r0 r1 rf0 rf1 y0 y1 hd HOWN
          go_wp2_with fail
          go_loopw [8, 9] (fun t k wi => ∃ (i : Nat) (tw : Bool), i ≤ l.length ∧ k = .int .i64 i ∧ t = .bool tw ∧ (l.take i).any (sameKey o'.table o'.key) = tw ∧ Below wc.heap.size wc wi)
            (fun _ k _ => l.length - (intOf k).toNat)
          case atStart => exact ⟨0, false, Nat.zero_le _, rfl, rfl, rfl, Below.refl _ _⟩
          case round =>
            obtain ⟨i, tw, hi', rfl, rfl, htw, qi⟩ := hrel
            have HTW : Hid ((l.take i).any (sameKey o'.table o'.key) = tw) := htw
            clear htw
            have hdi := hd'.keep qi
            have d1 := hdi.d1
            have e1 := (qi.cell (p := ⟨b, 1, none⟩) (cell_lt c1)).trans c1
            have e2 := (qi.cell (p := ⟨b, 2, none⟩) (cell_lt c2)).trans c2
            by_cases hil : i < l.length
            · obtain ⟨ob, off, rfl, hob, hops⟩ := hdi.ops (by omega)
              have a1 := hops.c1 i hil
              have a2 := hops.c2 i hil
              have iil : (i : Int) < (l.length : Int) := by omega
              have hs := any_step o'.table o'.key l i hil
              rw [HTW.out] at hs
              have HS : Hid _ := hs
              clear hs
              cases tw
              · by_cases t1 : l[i].table = o'.table
                · have b1 : (l[i].table == o'.table) = true := by simpa using t1
                  by_cases t2 : l[i].key.toList = o'.key.toList
                  · have b2 : (l[i].key.toList == o'.key.toList) = true := by simpa using t2
                    have hsk : sameKey o'.table o'.key l[i] = true := by simp [sameKey, t1, t2]
                    have HSK : Hid _ := hsk
                    clear hsk t1 t2
                    go_wp2_with fail
                    go_quiet (fail)
                    go_wp2
                    go_roundw
                    case rel => exact ⟨i + 1, true, by omega, by go_num, rfl, by rw [HS.out, HSK.out]; rfl, below_drewN qi _⟩
                    case measure => simp [intOf]; omega
                  · have b2 : (l[i].key.toList == o'.key.toList) = false := by simpa using t2
                    have hsk : sameKey o'.table o'.key l[i] = false := by simp [sameKey, t2]
                    have HSK : Hid _ := hsk
                    clear hsk t1 t2
                    go_wp2_with fail
                    go_quiet (fail)
                    go_wp2
                    go_roundw
                    case rel => exact ⟨i + 1, false, by omega, by go_num, rfl, by rw [HS.out, HSK.out]; rfl, below_drewN qi _⟩
                    case measure => simp [intOf]; omega
                · have b1 : (l[i].table == o'.table) = false := by simpa using t1
                  have hsk : sameKey o'.table o'.key l[i] = false := by simp [sameKey, t1]
                  have HSK : Hid _ := hsk
                  clear hsk t1
                  go_wp2_with fail
                  go_quiet (fail)
                  go_wp2
                  go_roundw
                  case rel => exact ⟨i + 1, false, by omega, by go_num, rfl, by rw [HS.out, HSK.out]; rfl, below_drewN qi _⟩
                  case measure => simp [intOf]; omega
              · go_wp2_with fail
                go_quiet (fail)
                go_wp2
                go_roundw
                case rel => exact ⟨i + 1, true, by omega, by go_num, rfl, by rw [HS.out]; rfl, below_drewN qi _⟩
                case measure => simp [intOf]; omega
            · obtain rfl : i = l.length := by omega
              have e0 := (qi.cell (p := ⟨b, 0, none⟩) (cell_lt c0)).trans c0
              have e3 := (qi.cell (p := ⟨b, 3, none⟩) (cell_lt c3)).trans c3
              cases tw
              · have hany : l.any (sameKey o'.table o'.key) = false := by have h := HTW.out; rw [List.take_length] at h; exact h
                have HGS : Hid (GoodL (l ++ [o'])) := good_snoc hg hok' hany
                clear hany
                have hd6 := hdi.keep (below_alloc wr (.cells #[.int .i64 o'.kind, .int .i64 o'.table, .string o'.key, .string o'.val] 85))
                have e6 := hd6.d1
                have f6 := hd6.df
                obtain ⟨tc6, tf6, ty6⟩ := hd6.ty
                have HN6 : Hid (some D ≠ (Value.slice ao l.length cp).ownBlock) := own_ne hd6.own ty6 (by decide)
                have hDi : D < wr.heap.size := cell_lt d1
                clear ty6
                go_wp2_with (at_builtin; go_must (refine wpList_append_own _ rfl _ _ 32 rfl w.heap.size 85 ii (.agg #[.int .i64 0, .int .i64 0, .string ⟨#[]⟩, .string ⟨#[]⟩]) 4 48 Tryz.underlying32 hi hz0 hz1 hz2 rfl (by decide) (.slice ao l.length cp) l.length (opsC l) rfl hd6.own ⟨wr.heap.size, 0, none⟩ 1 1 (opC o') rfl rfl (op_new _ _ (by simp) o') (opC_one o') (by unfold maxLen; omega) (by omega) (by have := hd6.qw.size; omega) ?_); intro v6 w6 hown6 hgrow6 _; obtain ⟨ao6, cp6, rfl⟩ := own_slice hown6; have c61 := hgrow6.cell e6 HN6.out; have f61 : w6.frozen? ⟨D, 1, none⟩ = false := (World.frozen?_of_block (hgrow6.block _ (cell_lt e6) HN6.out)).trans f6)
                go_roundw
                case rel =>
                  have hp := hd6.push (l' := l ++ [o']) (ao' := ao6) (cp' := cp6) (by rw [opsC_snoc, List.length_append]; exact hown6) hgrow6
                  rw [List.length_append] at hp
                  exact ⟨j + 2, l ++ [o'], ao6, cp6, by go_num, by omega, HGS.out, by simp, by simp; omega, hp⟩
                case measure => simp [intOf]; omega
              · go_wp2
                go_roundw
                case rel => exact ⟨j + 2, l, ao, cp, by go_num, by omega, hg, hl1, hl8, hdi⟩
                case measure => simp [intOf]; omega
      · go_wp2
        refine bodyPost_ret (v := .agg #[.int .u64 v, .slice ao l.length cp]) (by simp [results, Tryz.results20, go_sem, r0, r1]) rfl ⟨l, ao, cp, rfl, hg, hl1, hl8, ?_, (by repeat' (first | refine Below.setCell ?_ (by simp <;> omega) _ | exact qw))⟩
        exact HOWN.out
    · go_wp2
      refine bodyPost_ret (v := .agg #[.int .u64 v, .slice ao l.length cp]) (by simp [results, Tryz.results20, go_sem, r0, r1]) rfl ⟨l, ao, cp, rfl, hg, hl1, hl8, ?_, (by repeat' (first | refine Below.setCell ?_ (by simp <;> omega) _ | exact qw))⟩
      exact HOWN.out
end Go.Proofs.YtindifjhocgkbaaGreatDoor
