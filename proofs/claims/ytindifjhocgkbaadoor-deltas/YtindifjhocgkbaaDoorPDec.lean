import Derived.Test.YtindifjhocgkbaaDoorDltC
import Derived.Test.YtindifjhocgkbaaDoorParts
namespace Go.Proofs.YtindifjhocgkbaaDoor
open Go.RowKit

def dl (s : ByteArray) : Except (Int × Int) (Int × List OpD × Nat) :=
  if s.size < 8 then .error (1, 0) else
  if verB (numAt s 0 8) = false then .error (4, 0) else
  if s.size < 9 then .error (1, 8) else
  if cntB (bt s 8) = false then .error (5, 8) else
  match chgs s (bt s 8).toNat 9 [] with
  | .error f => .error f
  | .ok (l, e) => .ok (numAt s 0 8, l, e)
def dec (s : ByteArray) : Except (Int × Int) (Int × List OpD) :=
  match dl s with
  | .error f => .error f
  | .ok (v, l, e) => if e < s.size then .error (2, e) else .ok (v, l)

theorem rdDelta {w : World} {s : ByteArray} {R B cap b : Nat} (h : Rdr w s R B cap b 0) (g : Glob w) (h2 : 2 < R) :
    Calls Tryd.prog 62 #[.pointer (some ⟨R, 0, none⟩)] w fun ev w' =>
      (∃ k a, dl s = .error (k, a) ∧ ∃ (fb : Nat) (x : Value), w.heap.size ≤ fb ∧ isDelta x ∧ ev = .returned (.tuple #[x, .iface 100 (.pointer (some ⟨fb, 0, none⟩))]) ∧ ErrIs w' (.iface 100 (.pointer (some ⟨fb, 0, none⟩))) k a ∧ w.grownBy w' (some R)) ∨
      (∃ (v : Int) (l : List OpD) (e : Nat) (ao : Option Addr) (cp : Nat), dl s = .ok (v, l, e) ∧ ev = .returned (.tuple #[.agg #[.int .u64 v, .slice ao l.length cp], .nilIface]) ∧ w'.ownsRow (w.heap.size + 2) 47 4 (.slice ao l.length cp) l.length (opsC l) ∧ (∃ b', Rdr w' s R B cap b' e) ∧ w.grownBy w' (some R)) := by
  by_cases c1 : s.size < 8
  · refine (delta_ver h (.inl c1)).mono ?_
    rintro ev w' ⟨fb, h1, h2, h3, h4⟩
    rw [if_pos c1] at h3
    exact .inl ⟨1, 0, by rw [dl, if_pos c1], fb, _, h1, ⟨0, none, 0, 0, rfl⟩, h2, h3, h4⟩
  cases c2 : verB (numAt s 0 8)
  · refine (delta_ver h (.inr ⟨by omega, c2⟩)).mono ?_
    rintro ev w' ⟨fb, h1, h2, h3, h4⟩
    rw [if_neg c1] at h3
    exact .inl ⟨4, 0, by rw [dl, if_neg c1, if_pos c2], fb, _, h1, ⟨0, none, 0, 0, rfl⟩, h2, h3, h4⟩
  have n2 : ¬ verB (numAt s 0 8) = false := by rw [c2]; simp
  by_cases c3 : s.size < 9
  · refine (delta_cnt h (by omega) c2 (.inl c3)).mono ?_
    rintro ev w' ⟨fb, h1, h2, h3, h4⟩
    rw [if_pos c3] at h3
    exact .inl ⟨1, 8, by rw [dl, if_neg c1, if_neg n2, if_pos c3], fb, _, h1, ⟨0, none, 0, 0, rfl⟩, h2, h3, h4⟩
  cases c4 : cntB (bt s 8)
  · refine (delta_cnt h (by omega) c2 (.inr ⟨by omega, c4⟩)).mono ?_
    rintro ev w' ⟨fb, h1, h2, h3, h4⟩
    rw [if_neg c3] at h3
    exact .inl ⟨5, 8, by rw [dl, if_neg c1, if_neg n2, if_neg c3, if_pos c4], fb, _, h1, ⟨0, none, 0, 0, rfl⟩, h2, h3, h4⟩
  have n4 : ¬ cntB (bt s 8) = false := by rw [c4]; simp
  have bb := bt_lo s 8
  refine (delta_main (n := (bt s 8).toNat) h g h2 (by omega) c2 c4 (by omega)).mono ?_
  rintro ev w' (⟨k, a, hc, fb, x, h1, h3, h4, h5, h6⟩ | ⟨l, e, ao, cp, hc, h3, h4, h5, h6⟩)
  · exact .inl ⟨k, a, by rw [dl, if_neg c1, if_neg n2, if_neg c3, if_neg n4, hc], fb, x, h1, h3, h4, h5, h6⟩
  · exact .inr ⟨_, l, e, ao, cp, by rw [dl, if_neg c1, if_neg n2, if_neg c3, if_neg n4, hc], h3, h4, h5, h6⟩

/-- What Decode answers. -/
def DecIs (w0 w : World) (s : ByteArray) (ev : Ending) : Prop :=
  (∃ k a fb, dec s = .error (k, a) ∧ ev = .returned (.tuple #[.agg #[.int .u64 0, .slice none 0 0], .iface 100 (.pointer (some ⟨fb, 0, none⟩))]) ∧ ErrIs w (.iface 100 (.pointer (some ⟨fb, 0, none⟩))) k a) ∨
  (∃ v l ao cp, dec s = .ok (v, l) ∧ ev = .returned (.tuple #[.agg #[.int .u64 v, .slice ao l.length cp], .nilIface]) ∧ w.ownsRow w0.heap.size 47 4 (.slice ao l.length cp) l.length (opsC l))

theorem below_fresh {w W : World} {R : Nat} (g : w.grownBy W (some R)) (hR : w.heap.size ≤ R) : Below w.heap.size w W :=
  ⟨g.os, g.tape, g.output, g.size, fun k hk => g.block k hk (by simp; omega)⟩
theorem grown_fresh {w W : World} {x y : Obj} (g : ((w.alloc x).alloc y).grownBy W (some (w.heap.size + 1))) : Below w.heap.size w W :=
  below_fresh (grown_start (grown_start g)) (by omega)

set_option maxRecDepth 10000 in
set_option maxHeartbeats 2000000 in
theorem wDecode (s : ByteArray) (B cap : Nat) (w : World) (g : Glob w) (hB : B < w.heap.size) (hb : BytesAt w B s) (hc : s.size ≤ cap) (hm : cap ≤ 9223372036854775807) :
    Calls Tryd.prog 44 #[.slice (some ⟨B, 0, none⟩) s.size cap] w fun ev w' => DecIs w w' s ev ∧ Below w.heap.size w w' := by
  have h2 := g.lt
  have qa := below_trans (below_alloc w (.cells #[.int .u64 0, .slice none 0 0] 25)) (below_alloc _ (.cells #[.slice (some ⟨B, 0, none⟩) s.size cap, .int .i64 0, .int .i64 0] 136))
  have hr : Rdr ((w.alloc (.cells #[.int .u64 0, .slice none 0 0] 25)).alloc (.cells #[.slice (some ⟨B, 0, none⟩) s.size cap, .int .i64 0, .int .i64 0] 136)) s (w.heap.size + 1) B cap 0 0 :=
    ⟨⟨by simp, by simp, by simp, by simp, by simp⟩, hb.keep qa, by omega, by omega, hc, hm⟩
  have ga := g.keep qa
  go_enter Tryd.func44, Tryd.ntmps44
  go_wp2_with fail
  refine (rdDelta hr ga (by omega)).mono ?_
  rintro ev w1 (⟨k, a, hd, fb, x, hfb, ⟨xv, xo, xn, xc, rfl⟩, rfl, hx, g1⟩ | ⟨v, l, e, ao, cp, hd, rfl, hown, ⟨b', rb⟩, g1⟩)
  · have n0 : some w.heap.size ≠ some (w.heap.size + 1) := by simp
    have y0 : w1.cell? ⟨w.heap.size, 0, none⟩ = some (.int .u64 0) := g1.cell (by simp) n0
    have y1 : w1.cell? ⟨w.heap.size, 1, none⟩ = some (.slice none 0 0) := g1.cell (by simp) n0
    have z0 : w1.frozen? ⟨w.heap.size, 0, none⟩ = false := (World.frozen?_of_block (g1.block _ (by simp <;> omega) n0)).trans (by simp)
    have z1 : w1.frozen? ⟨w.heap.size, 1, none⟩ = false := (World.frozen?_of_block (g1.block _ (by simp <;> omega) n0)).trans (by simp)
    have y0' : ∀ q, (w1.alloc q).cell? ⟨w.heap.size, 0, none⟩ = some (.int .u64 0) := fun q => (World.cell?_alloc_lt _ _ _ (cell_lt y0)).trans y0
    have y1' : ∀ q, (w1.alloc q).cell? ⟨w.heap.size, 1, none⟩ = some (.slice none 0 0) := fun q => (World.cell?_alloc_lt _ _ _ (cell_lt y1)).trans y1
    have z0' : ∀ q, (w1.alloc q).frozen? ⟨w.heap.size, 0, none⟩ = false := fun q => (World.frozen?_alloc_old _ _ _ (Nat.ne_of_lt (cell_lt y0))).trans z0
    have z1' : ∀ q, (w1.alloc q).frozen? ⟨w.heap.size, 1, none⟩ = false := fun q => (World.frozen?_alloc_old _ _ _ (Nat.ne_of_lt (cell_lt y1))).trans z1
    have hfb' : w.heap.size + 1 < fb := by simp at hfb; omega
    have HD : Hid (dec s = .error (k, a)) := by show _ = _; rw [dec, hd]
    have hx' := hx.keep (below_alloc w1 (.cells #[.int .u64 xv, .slice xo xn xc] 25))
    have q1 := grown_fresh g1
    clear hd y0 y1 z0 z1
    go_wp2
    exact bodyPost_ret (v := .tuple #[.agg #[.int .u64 0, .slice none 0 0], .iface 100 (.pointer (some ⟨fb, 0, none⟩))]) (by simp [results, Tryd.results44, go_sem, y0', y1']) rfl ⟨.inl ⟨k, a, fb, HD.out, rfl, (hx'.set (by simp <;> omega)).set (by simp <;> omega)⟩, ((q1.alloc q1.size _).setCell (by simp) _).setCell (by simp) _⟩
  · have n0 : some w.heap.size ≠ some (w.heap.size + 1) := by simp
    have y0 : w1.cell? ⟨w.heap.size, 0, none⟩ = some (.int .u64 0) := g1.cell (by simp) n0
    have y1 : w1.cell? ⟨w.heap.size, 1, none⟩ = some (.slice none 0 0) := g1.cell (by simp) n0
    have z0 : w1.frozen? ⟨w.heap.size, 0, none⟩ = false := (World.frozen?_of_block (g1.block _ (by simp <;> omega) n0)).trans (by simp)
    have z1 : w1.frozen? ⟨w.heap.size, 1, none⟩ = false := (World.frozen?_of_block (g1.block _ (by simp <;> omega) n0)).trans (by simp)
    have qa1 := below_alloc w1 (.cells #[.int .u64 v, .slice ao l.length cp] 25)
    have rb' := rb.keep qa1
    have q1 := grown_fresh g1
    have hsz : w.heap.size < w1.heap.size := cell_lt y0
    by_cases he : e < s.size
    · have HD : Hid (dec s = .error (2, (e : Int))) := by show _ = _; rw [dec, hd]; simp [he]
      clear hd
      go_wp2_with fail
      refine (rdDone_more rb' he).mono ?_
      rintro ev w2 ⟨fb, hfb, rfl, hx, q2⟩
      have q12 := below_trans qa1 q2
      have u0 := (q12.cell (p := ⟨w.heap.size, 0, none⟩) (cell_lt y0)).trans y0
      have u1 := (q12.cell (p := ⟨w.heap.size, 1, none⟩) (cell_lt y1)).trans y1
      have t0 := (q12.frozen (p := ⟨w.heap.size, 0, none⟩) (cell_lt y0)).trans z0
      have t1 := (q12.frozen (p := ⟨w.heap.size, 1, none⟩) (cell_lt y1)).trans z1
      have hfb' : w.heap.size + 1 < fb := by simp at hfb; omega
      clear y0 y1 z0 z1
      go_wp2
      exact bodyPost_ret (v := .tuple #[.agg #[.int .u64 0, .slice none 0 0], .iface 100 (.pointer (some ⟨fb, 0, none⟩))]) (by simp [results, Tryd.results44, go_sem, u0, u1]) rfl ⟨.inl ⟨2, _, fb, HD.out, rfl, (hx.set (by simp <;> omega)).set (by simp <;> omega)⟩, ((q1.trans (q12.mono (by omega))).setCell (by simp) _).setCell (by simp) _⟩
    · have HD : Hid (dec s = .ok (v, l)) := by show _ = _; rw [dec, hd]; simp [he]
      clear hd
      go_wp2_with fail
      refine (rdDone_ok rb' he).mono ?_
      rintro ev w2 ⟨rfl, q2⟩
      have q12 := below_trans qa1 q2
      have u0 := (q12.cell (p := ⟨w.heap.size, 0, none⟩) (cell_lt y0)).trans y0
      have u1 := (q12.cell (p := ⟨w.heap.size, 1, none⟩) (cell_lt y1)).trans y1
      have t0 := (q12.frozen (p := ⟨w.heap.size, 0, none⟩) (cell_lt y0)).trans z0
      have t1 := (q12.frozen (p := ⟨w.heap.size, 1, none⟩) (cell_lt y1)).trans z1
      have d0 : w2.cell? ⟨w1.heap.size, 0, none⟩ = some (.int .u64 v) := (q2.cell (p := ⟨w1.heap.size, 0, none⟩) (by simp)).trans (by simp)
      have d1 : w2.cell? ⟨w1.heap.size, 1, none⟩ = some (.slice ao l.length cp) := (q2.cell (p := ⟨w1.heap.size, 1, none⟩) (by simp)).trans (by simp)
      have hown2 := hown.kept (grown_of_below (r := none) q12) (by cases (Value.slice ao l.length cp).ownBlock <;> simp)
      clear y0 y1 z0 z1
      go_wp2
      refine bodyPost_ret (v := .tuple #[.agg #[.int .u64 v, .slice ao l.length cp], .nilIface]) (by simp [results, Tryd.results44, go_sem, u0, u1]) rfl ⟨.inr ⟨v, l, ao, cp, HD.out, rfl, ?_⟩, ((q1.trans (q12.mono (by omega))).setCell (by simp) _).setCell (by simp) _⟩
      exact own_mono (ownsRow_setCell_below (ownsRow_setCell_below hown2 (by simp <;> omega) _) (by simp <;> omega) _) (by simp; omega)

set_option maxHeartbeats 1000000 in
theorem oDecode (s : ByteArray) (B cap : Nat) (w : World) (g : Glob w) (hB : B < w.heap.size) (hb : BytesAt w B s) (hc : s.size ≤ cap) (hm : cap ≤ 9223372036854775807) :
    Calls Tryd.prog 30 #[.slice (some ⟨B, 0, none⟩) s.size cap] w fun ev w' => DecIs w w' s ev ∧ Below w.heap.size w w' := by
  have qa := below_alloc w (.cells #[.int .u64 0, .slice none 0 0] 25)
  go_enter Tryd.func30, Tryd.ntmps30
  go_wp2_with fail
  refine (wDecode s B cap _ (g.keep qa) (by simp; omega) (hb.keep qa) hc hm).mono ?_
  rintro ev w1 ⟨hd, q1⟩
  have u0 : w1.cell? ⟨w.heap.size, 0, none⟩ = some (.int .u64 0) := (q1.cell (p := ⟨w.heap.size, 0, none⟩) (by simp)).trans (by simp)
  have u1 : w1.cell? ⟨w.heap.size, 1, none⟩ = some (.slice none 0 0) := (q1.cell (p := ⟨w.heap.size, 1, none⟩) (by simp)).trans (by simp)
  have t0 : w1.frozen? ⟨w.heap.size, 0, none⟩ = false := (q1.frozen (p := ⟨w.heap.size, 0, none⟩) (by simp)).trans (by simp)
  have t1 : w1.frozen? ⟨w.heap.size, 1, none⟩ = false := (q1.frozen (p := ⟨w.heap.size, 1, none⟩) (by simp)).trans (by simp)
  have q := below_trans qa q1
  rcases hd with ⟨k, a, fb, he, rfl, hx⟩ | ⟨v, l, ao, cp, he, rfl, hown⟩
  · have HE : Hid (dec s = .error (k, a)) := he
    clear he
    have hne : w.heap.size ≠ fb := fun e => by
      rcases hx with ⟨_, _, h⟩ | ⟨_, _, b, h, c0, _⟩
      · cases h
      · have hb : b = fb := by simpa using h.symm
        rw [hb, ← e, u0] at c0; simp at c0
    go_wp2
    exact bodyPost_ret (v := .tuple #[.agg #[.int .u64 0, .slice none 0 0], .iface 100 (.pointer (some ⟨fb, 0, none⟩))]) (by simp [results, Tryd.results30, go_sem, u0, u1]) rfl ⟨.inl ⟨k, a, fb, HE.out, rfl, (hx.set hne).set hne⟩, (q.setCell (by simp) _).setCell (by simp) _⟩
  · have HE : Hid (dec s = .ok (v, l)) := he
    clear he
    go_wp2
    exact bodyPost_ret (v := .tuple #[.agg #[.int .u64 v, .slice ao l.length cp], .nilIface]) (by simp [results, Tryd.results30, go_sem, u0, u1]) rfl ⟨.inr ⟨v, l, ao, cp, HE.out, rfl, own_mono (ownsRow_setCell_below (ownsRow_setCell_below hown (by simp) _) (by simp) _) (by simp)⟩, (q.setCell (by simp) _).setCell (by simp) _⟩
end Go.Proofs.YtindifjhocgkbaaDoor
