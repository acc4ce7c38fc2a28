import Derived.Test.YtindifjhocgkbaaGreatDoorCmp
import Derived.Deep.LoopGhost
import Derived.Deep.RegionHeld3
import Derived.Deep.QuietTactic
import Derived.BigQuiet
import Derived.Laws.AppendOwn
namespace Go.Proofs.YtindifjhocgkbaaGreatDoor
open Go.RowKit

/-- Entries as cells, three each. -/
def cellsE (l : List En) : List Value := l.flatMap fun e => [.int .i64 e.t, .string e.k, .string e.v]
theorem cellsE_length (l : List En) : (cellsE l).length = l.length * 3 := by
  induction l with
  | nil => rfl
  | cons x l ih => simp [cellsE] at ih ⊢; omega
theorem cellsE_append (a b : List En) : cellsE (a ++ b) = cellsE a ++ cellsE b := by simp [cellsE]
theorem cellsE_get : ∀ (l : List En) (j : Nat) (h : j < l.length), (cellsE l)[j * 3]? = some (.int .i64 l[j].t) ∧ (cellsE l)[j * 3 + 1]? = some (.string l[j].k) ∧ (cellsE l)[j * 3 + 2]? = some (.string l[j].v)
  | x :: l, 0, _ => by simp [cellsE]
  | x :: l, j + 1, h => by
    have ih := cellsE_get l j (by simpa using h)
    have e : cellsE (x :: l) = [.int .i64 x.t, .string x.k, .string x.v] ++ cellsE l := by simp [cellsE]
    rw [e]
    refine ⟨?_, ?_, ?_⟩
    · rw [List.getElem?_append_right (by simp; omega), show (j + 1) * 3 - [Value.int .i64 x.t, .string x.k, .string x.v].length = j * 3 by simp; omega]; exact ih.1
    · rw [List.getElem?_append_right (by simp; omega), show (j + 1) * 3 + 1 - [Value.int .i64 x.t, .string x.k, .string x.v].length = j * 3 + 1 by simp; omega]; exact ih.2.1
    · rw [List.getElem?_append_right (by simp; omega), show (j + 1) * 3 + 2 - [Value.int .i64 x.t, .string x.k, .string x.v].length = j * 3 + 2 by simp; omega]; exact ih.2.2
theorem cellsE_one (l : List En) : ∀ u ∈ cellsE l, u.oneCell' = true := by
  intro u hu
  simp only [cellsE, List.mem_flatMap] at hu
  obtain ⟨e, _, hu⟩ := hu
  simp at hu
  rcases hu with rfl | rfl | rfl <;> rfl

/-- Entries that lie in memory, from a place on. -/
structure EnsAt (w : World) (b off : Nat) (l : List En) : Prop where
  c0 : ∀ j (h : j < l.length), w.cell? ⟨b, off + j * 3, none⟩ = some (.int .i64 l[j].t)
  c1 : ∀ j (h : j < l.length), w.cell? ⟨b, off + j * 3 + 1, none⟩ = some (.string l[j].k)
  c2 : ∀ j (h : j < l.length), w.cell? ⟨b, off + j * 3 + 2, none⟩ = some (.string l[j].v)
theorem EnsAt.keep {w w' : World} {B b off : Nat} {l : List En} (h : EnsAt w b off l) (hb : b < B) (q : Below B w w') : EnsAt w' b off l :=
  ⟨fun j hj => (q.cell (p := ⟨b, off + j * 3, none⟩) hb).trans (h.c0 j hj), fun j hj => (q.cell (p := ⟨b, off + j * 3 + 1, none⟩) hb).trans (h.c1 j hj), fun j hj => (q.cell (p := ⟨b, off + j * 3 + 2, none⟩) hb).trans (h.c2 j hj)⟩
/-- A slice of entries. -/
def EnsIn (w : World) (v : Value) (l : List En) : Prop := (v = .slice none 0 0 ∧ l = []) ∨ ∃ b off cap, v = .slice (some ⟨b, off, none⟩) l.length cap ∧ b < w.heap.size ∧ EnsAt w b off l
theorem EnsIn.keep {w w' : World} {v : Value} {l : List En} (h : EnsIn w v l) (q : Below w.heap.size w w') : EnsIn w' v l := by
  rcases h with h | ⟨b, off, cap, e, hb, ha⟩
  · exact .inl h
  · exact .inr ⟨b, off, cap, e, Nat.lt_of_lt_of_le hb q.size, ha.keep hb q⟩
theorem EnsIn.of_owns {w : World} {base e : Nat} {v : Value} {l : List En} (h : w.ownsRow base e 3 v l.length (cellsE l)) : EnsIn w v l := by
  rcases h.2 with ⟨rfl, hn⟩ | ⟨g, cap, cur, rfl, hb, hg, _⟩
  · exact .inl ⟨rfl, List.length_eq_zero_iff.1 hn⟩
  · have hc := h.cells (g := g) rfl
    refine .inr ⟨g, 0, cap, rfl, (Array.getElem?_eq_some_iff.1 hg).1, ?_⟩
    refine ⟨fun j hj => ?_, fun j hj => ?_, fun j hj => ?_⟩
    · have := hc _ _ (cellsE_get l j hj).1; rw [Addr.add_lit] at this; exact this
    · have := hc _ _ (cellsE_get l j hj).2.1; rw [Addr.add_lit, ← Nat.add_assoc] at this; exact this
    · have := hc _ _ (cellsE_get l j hj).2.2; rw [Addr.add_lit, ← Nat.add_assoc] at this; exact this

theorem ret_ib {a b : Int} {c d : Bool} (h : a = b) (h' : c = d) : Ending.returned (.tuple #[.int .i64 a, .bool c]) = .returned (.tuple #[.int .i64 b, .bool d]) := by rw [h, h']
set_option maxRecDepth 100000 in
set_option maxHeartbeats 4000000 in
theorem binSearch (b off cap : Nat) (l : List En) (t : Int) (k : ByteArray) (w : World) (hb : b < w.heap.size) (ha : EnsAt w b off l) (hs : Srt l) (hn : l.length ≤ 1000000) :
    Calls Tryz.prog 135 #[.slice (some ⟨b, off, none⟩) l.length cap, .agg #[.int .i64 t, .string k], .func (.func 136) #[] #[]] w fun e w' =>
      e = .returned (.tuple #[.int .i64 (low t k l : Nat), .bool (fnd t k l)]) ∧ Below w.heap.size w w' := by
  have HS : Hid (Srt l) := hs
  clear hs
  go_enter Tryz.func135, Tryz.ntmps135
  go_wp2
  go_loopg [9, 10] l.length (fun kx s9 s10 wr => ∃ lo hi : Nat, s9 = .int .i64 lo ∧ s10 = .int .i64 hi ∧ lo ≤ hi ∧ hi ≤ l.length ∧ hi - lo ≤ kx ∧ lo ≤ low t k l ∧ low t k l ≤ hi ∧ Below w.heap.size w wr ∧ wr.cell? ⟨w.heap.size, 0, none⟩ = some (.int .i64 t) ∧ wr.cell? ⟨w.heap.size, 1, none⟩ = some (.string k))
  case atStart => exact ⟨0, l.length, rfl, rfl, Nat.zero_le _, Nat.le_refl _, by omega, Nat.zero_le _, low_le t k l, below_alloc _ _, by simp, by simp⟩
  case round =>
    obtain ⟨lo, hi, rfl, rfl, hlh, hin, hg, hl1, hl2, hq, k0, k1⟩ := hrel
    by_cases hlt : lo < hi
    · obtain ⟨m, hm⟩ : ∃ m, m = (lo + hi) / 2 := ⟨_, rfl⟩
      have hcast : ((lo : Int) + (hi : Int)) / 2 = ((m : Nat) : Int) := by omega
      have hml : m < l.length := by omega
      have him : ((m : Nat) : Int) < (l.length : Int) := by omega
      have hm2 : lo ≤ m ∧ m < hi := by omega
      clear hm
      have d0 := (ha.keep hb hq).c0 m hml
      have d1 := (ha.keep hb hq).c1 m hml
      have d2 := (ha.keep hb hq).c2 m hml
      have HI : Hid (l[m].cmp t k < 0 ↔ m < low t k l) := low_iff (t := t) (k := k) HS.out hml
      by_cases hyx : l[m].cmp t k < 0
      all_goals
        go_wp2_with fail
        refine region_tail 6 (by kernel_rfl) (by kernel_rfl) ?_
        simp only [List.take_succ_cons, List.take_zero, List.drop_succ_cons, List.drop_zero]
        still_step
        still_step
        still_step
        still_step
        still_step
        still_step
        refine wpStill_nil ?_
        go_wp2_with fail
        refine (findCmp l[m] t k _).mono ?_
        rintro e w1 ⟨rfl, q1⟩
        go_wp2_with fail
      · have q2 : Below wr.heap.size wr w1 := below_trans (below_drew _) q1
        have hw : w.heap.size < wr.heap.size := cell_lt k0
        go_roundg (hi - (m + 1))
        case measure => omega
        case rel => exact ⟨m + 1, hi, by go_num, rfl, by omega, hin, Nat.le_refl _, by have := HI.out.1 hyx; omega, hl2, below_trans hq q2, (q2.cell (p := ⟨w.heap.size, 0, none⟩) hw).trans k0, (q2.cell (p := ⟨w.heap.size, 1, none⟩) hw).trans k1⟩
      · have q2 : Below wr.heap.size wr w1 := below_trans (below_drew _) q1
        have hw : w.heap.size < wr.heap.size := cell_lt k0
        go_roundg (m - lo)
        case measure => omega
        case rel => exact ⟨lo, m, rfl, rfl, by omega, by omega, Nat.le_refl _, hl1, Nat.le_of_not_lt fun h => absurd (HI.out.2 h) (by omega), below_trans hq q2, (q2.cell (p := ⟨w.heap.size, 0, none⟩) hw).trans k0, (q2.cell (p := ⟨w.heap.size, 1, none⟩) hw).trans k1⟩
    · obtain rfl : hi = lo := by omega
      have hlo : low t k l = hi := by omega
      by_cases hn' : hi < l.length
      · have him : ((hi : Nat) : Int) < (l.length : Int) := by omega
        have d0 := (ha.keep hb hq).c0 hi hn'
        have d1 := (ha.keep hb hq).c1 hi hn'
        have d2 := (ha.keep hb hq).c2 hi hn'
        have HF : Hid (fnd t k l = decide (l[hi].cmp t k = 0)) := by show _ = _; unfold fnd; rw [hlo, List.getElem?_eq_getElem hn']
        clear hl1 hl2
        have HLO : Hid (low t k l = hi) := hlo
        clear hlo
        have hbr : b < wr.heap.size := Nat.lt_of_lt_of_le hb hq.size
        have hwr : w.heap.size < wr.heap.size := cell_lt k0
        go_wp2_with fail
        go_region_held3 (fun w' => w'.cell? ⟨b, off + hi * 3, none⟩ = some (.int .i64 l[hi].t) ∧ w'.cell? ⟨b, off + hi * 3 + 1, none⟩ = some (.string l[hi].k) ∧ w'.cell? ⟨b, off + hi * 3 + 2, none⟩ = some (.string l[hi].v) ∧ w'.cell? ⟨w.heap.size, 0, none⟩ = some (.int .i64 t) ∧ w'.cell? ⟨w.heap.size, 1, none⟩ = some (.string k))
          (first | go_keep | exact ⟨by assumption, by assumption, by assumption, by assumption, by assumption⟩)
          (first | (go_at_call 136; refine (findCmp l[hi] t k _).mono ?_; rintro e w1 ⟨rfl, q1⟩; have e0 := (q1.cell (p := ⟨b, off + hi * 3, none⟩) hbr).trans d0; have e1 := (q1.cell (p := ⟨b, off + hi * 3 + 1, none⟩) hbr).trans d1; have e2 := (q1.cell (p := ⟨b, off + hi * 3 + 2, none⟩) hbr).trans d2; have e3 := (q1.cell (p := ⟨w.heap.size, 0, none⟩) hwr).trans k0; have e4 := (q1.cell (p := ⟨w.heap.size, 1, none⟩) hwr).trans k1))
        go_wp2
        go_ret2
        exact ⟨ret_ib (by rw [HLO.out]) (by rw [HF.out]; rfl), below_trans hq (below_trans (below_drew _) q1)⟩
      · have HF : Hid (fnd t k l = false) := by show _ = _; unfold fnd; rw [hlo, List.getElem?_eq_none (by omega)]
        have HLO : Hid (low t k l = hi) := hlo
        clear hlo hl1 hl2
        have hin' : decide (((hi : Nat) : Int) < (l.length : Int)) = false := by simp; omega
        go_wp2_with fail
        go_quiet (fail)
        go_wp2
        go_ret2
        exact ⟨ret_ib (by rw [HLO.out]) (by rw [HF.out]), below_trans hq (below_drawn _ _)⟩

set_option maxRecDepth 100000 in
set_option maxHeartbeats 4000000 in
theorem binSearch_nil (t : Int) (k : ByteArray) (w : World) :
    Calls Tryz.prog 135 #[.slice none 0 0, .agg #[.int .i64 t, .string k], .func (.func 136) #[] #[]] w fun e w' =>
      e = .returned (.tuple #[.int .i64 0, .bool false]) ∧ Below w.heap.size w w' := by
  go_enter Tryz.func135, Tryz.ntmps135
  go_wp2
  go_loopg [9, 10] 0 (fun _ s9 s10 wr => s9 = .int .i64 0 ∧ s10 = .int .i64 0 ∧ Below w.heap.size w wr)
  case atStart => exact ⟨rfl, rfl, below_alloc _ _⟩
  case round =>
    obtain ⟨rfl, rfl, hq⟩ := hrel
    go_wp2_with fail
    go_quiet (fail)
    go_wp2
    go_ret2
    exact ⟨rfl, below_trans hq (below_drawn _ _)⟩

/-- The place of a key, and whether it is there. -/
theorem lFind (v : Value) (l : List En) (t : Int) (k : ByteArray) (w : World) (h : EnsIn w v l) (hs : Srt l) (hn : l.length ≤ 1000000) :
    Calls Tryz.prog 118 #[v, .agg #[.int .i64 t, .string k]] w fun e w' =>
      e = .returned (.tuple #[.int .i64 (low t k l : Nat), .bool (fnd t k l)]) ∧ Below w.heap.size w w' := by
  have hmf : ∀ (fn : Fn) (first cap : Array Value) (w : World), (Instr.makeFunc fn first cap).run Tryz.prog w = .ok (.func fn first cap) w := fun _ _ _ _ => rfl
  rcases h with ⟨rfl, rfl⟩ | ⟨b, off, cap, rfl, hb, ha⟩
  · go_enter Tryz.func118, Tryz.ntmps118
    go_wp2_with fail
    refine (binSearch_nil t k _).mono ?_
    rintro e w1 ⟨rfl, q1⟩
    go_wp2
    go_ret2
    exact ⟨rfl, below_trans (below_alloc _ _) q1⟩
  · have HS : Hid (Srt l) := hs
    clear hs
    go_enter Tryz.func118, Tryz.ntmps118
    go_wp2_with fail
    refine (binSearch b off cap l t k _ (by simp; omega) (ha.keep hb (below_alloc _ _)) HS.out hn).mono ?_
    rintro e w1 ⟨rfl, q1⟩
    go_wp2
    go_ret2
    exact ⟨rfl, below_trans (below_alloc _ _) q1⟩
set_option maxRecDepth 100000 in
set_option maxHeartbeats 1000000 in
/-- The value of a key. -/
theorem lValue (v : Value) (l : List En) (t : Int) (k : ByteArray) (w : World) (h : EnsIn w v l) (hs : Srt l) (hn : l.length ≤ 1000000) :
    Calls Tryz.prog 122 #[v, .agg #[.int .i64 t, .string k]] w fun e w' =>
      e = .returned (.tuple #[.string ((got t k l).getD ⟨#[]⟩), .bool (got t k l).isSome]) ∧ Below w.heap.size w w' := by
  have hA : ∀ x, EnsIn (w.alloc x) v l := fun x => h.keep (below_alloc _ _)
  cases hf : fnd t k l
  · have hg : got t k l = none := by simp [got, hf]
    rw [hg]
    go_enter Tryz.func122, Tryz.ntmps122
    go_wp2_with fail
    refine (lFind v l t k _ (hA _) hs hn).mono ?_
    rw [hf]
    rintro e w1 ⟨rfl, q1⟩
    go_wp2
    go_ret2
    exact ⟨rfl, below_trans (below_alloc _ _) q1⟩
  · obtain ⟨e, he, hc⟩ : ∃ e, l[low t k l]? = some e ∧ e.cmp t k = 0 := by
      unfold fnd at hf
      split at hf
      · rename_i e he; exact ⟨e, he, of_decide_eq_true hf⟩
      · simp at hf
    have hlt : low t k l < l.length := (List.getElem?_eq_some_iff.1 he).1
    have hg : got t k l = some (l[low t k l]).v := by simp [got, hf, List.getElem?_eq_getElem hlt]
    have hil : ((low t k l : Nat) : Int) < (l.length : Int) := by omega
    rw [hg]
    clear he hc hg
    go_enter Tryz.func122, Tryz.ntmps122
    go_wp2_with fail
    refine (lFind v l t k _ (hA _) hs hn).mono ?_
    rw [hf]
    rintro e w1 ⟨rfl, q1⟩
    rcases h with ⟨rfl, rfl⟩ | ⟨b, off, cap, rfl, hb, ha⟩
    · simp at hlt
    have d2 := (ha.keep hb (below_trans (below_alloc _ _) q1)).c2 _ hlt
    generalize low t k l = m at *
    go_wp2
    go_ret2
    exact ⟨rfl, below_trans (below_alloc _ _) q1⟩
end Go.Proofs.YtindifjhocgkbaaGreatDoor
