import Derived.Test.YtindifjhocgkbaaDoorDlt
namespace Go.Proofs.YtindifjhocgkbaaDoor
open Go.RowKit

/-- What the loop of delta knows. -/
structure DL (w wr : World) (s : ByteArray) (R B cap : Nat) (v : Int) (l : List OpD) (e : Nat) (ao : Option Addr) (cp : Nat) : Prop where
  own : wr.ownsRow (w.heap.size + 2) 47 4 (.slice ao l.length cp) l.length (opsC l)
  rd : ∃ b', Rdr wr s R B cap b' e
  d0 : wr.cell? ⟨w.heap.size + 1, 0, none⟩ = some (.int .u64 v)
  d1 : wr.cell? ⟨w.heap.size + 1, 1, none⟩ = some (.slice ao l.length cp)
  df : wr.frozen? ⟨w.heap.size + 1, 1, none⟩ = false
  r0 : wr.cell? ⟨w.heap.size, 0, none⟩ = some (.int .u64 0)
  r1 : wr.cell? ⟨w.heap.size, 1, none⟩ = some (.slice none 0 0)
  rf0 : wr.frozen? ⟨w.heap.size, 0, none⟩ = false
  rf1 : wr.frozen? ⟨w.heap.size, 1, none⟩ = false
  gl : Glob wr
  gr : w.grownBy wr (some R)
  hR : R < w.heap.size
  hB : B < w.heap.size
  h2 : 2 < R
theorem DL.keep {w wr w' : World} {s : ByteArray} {R B cap : Nat} {v : Int} {l : List OpD} {e : Nat} {ao : Option Addr} {cp : Nat} (h : DL w wr s R B cap v l e ao cp) (q : Below wr.heap.size wr w') : DL w w' s R B cap v l e ao cp := by
  obtain ⟨b', hb⟩ := h.rd
  refine ⟨?_, ⟨b', hb.keep q⟩, (q.cell (cell_lt h.d0)).trans h.d0, (q.cell (cell_lt h.d1)).trans h.d1, (q.frozen (p := ⟨w.heap.size + 1, 1, none⟩) (cell_lt h.d1)).trans h.df, (q.cell (cell_lt h.r0)).trans h.r0, (q.cell (cell_lt h.r1)).trans h.r1, (q.frozen (p := ⟨w.heap.size, 0, none⟩) (cell_lt h.r0)).trans h.rf0, (q.frozen (p := ⟨w.heap.size, 1, none⟩) (cell_lt h.r1)).trans h.rf1, h.gl.keep q, grown_trans h.gr (grown_of_below q), h.hR, h.hB, h.h2⟩
  exact h.own.kept (grown_of_below (r := none) q) (by cases (Value.slice ao l.length cp).ownBlock <;> simp)
/-- .. behind a call that writes into the reader alone. -/
theorem DL.grown {w wr w' : World} {s : ByteArray} {R B cap : Nat} {v : Int} {l : List OpD} {e e' : Nat} {ao : Option Addr} {cp : Nat} (h : DL w wr s R B cap v l e ao cp) (hr : ∃ b', Rdr w' s R B cap b' e') (g : wr.grownBy w' (some R)) : DL w w' s R B cap v l e' ao cp := by
  have hR := h.hR
  have n1 : some (w.heap.size + 1) ≠ some R := by simp; omega
  have n0 : some w.heap.size ≠ some R := by simp; omega
  refine ⟨h.own.kept g (.inr (fun e1 => by have := (h.own.lt R e1).1; omega)), hr, g.cell h.d0 n1, g.cell h.d1 n1, (World.frozen?_of_block (g.block _ (cell_lt h.d1) n1)).trans h.df, g.cell h.r0 n0, g.cell h.r1 n0, (World.frozen?_of_block (g.block _ (cell_lt h.r0) n0)).trans h.rf0, (World.frozen?_of_block (g.block _ (cell_lt h.r1) n0)).trans h.rf1, h.gl.grown h.h2 g, grown_trans h.gr g, h.hR, h.hB, h.h2⟩
/-- .. behind an append, and the store of what it gave. -/
theorem DL.push {w wr w' : World} {s : ByteArray} {R B cap : Nat} {v : Int} {l l' : List OpD} {e : Nat} {ao ao' : Option Addr} {cp cp' : Nat} (h : DL w wr s R B cap v l e ao cp) (ho : w'.ownsRow (w.heap.size + 2) 47 4 (.slice ao' l'.length cp') l'.length (opsC l')) (g : wr.grownBy w' (Value.slice ao l.length cp).ownBlock) :
    DL w (w'.setCell ⟨w.heap.size + 1, 1, none⟩ (.slice ao' l'.length cp')) s R B cap v l' e ao' cp' := by
  have hR := h.hR
  have hB := h.hB
  have hlt := h.own.lt
  have ne : ∀ k, k < w.heap.size + 2 → some k ≠ (Value.slice ao l.length cp).ownBlock := fun k hk e1 => by have := (hlt k e1.symm).1; omega
  have hc : ∀ (a : Addr) (x : Value), a.block < w.heap.size + 2 → wr.cell? a = some x → a ≠ ⟨w.heap.size + 1, 1, none⟩ → (w'.setCell ⟨w.heap.size + 1, 1, none⟩ (.slice ao' l'.length cp')).cell? a = some x := fun a x h1 h2 h3 => by
    rw [World.cell?_setCell_other _ _ _ _ (fun h => h3 h.symm)]; exact g.cell h2 (ne _ h1)
  have hf : ∀ (a : Addr), a.block < w.heap.size + 2 → a.block < wr.heap.size → (w'.setCell ⟨w.heap.size + 1, 1, none⟩ (.slice ao' l'.length cp')).frozen? a = wr.frozen? a := fun a h1 h2 => by
    rw [World.frozen?_setCell]; exact World.frozen?_of_block (g.block _ h2 (ne _ h1))
  obtain ⟨b', rb⟩ := h.rd
  refine ⟨ownsRow_setCell_below ho (by simp) _, ⟨b', ⟨⟨hc _ _ (by simp <;> omega) rb.rd.c0 (by simp <;> omega), hc _ _ (by simp <;> omega) rb.rd.c1 (by simp <;> omega), hc _ _ (by simp <;> omega) rb.rd.c2 (by simp <;> omega), (hf _ (by simp <;> omega) (cell_lt rb.rd.c1)).trans rb.rd.f1, (hf _ (by simp <;> omega) (cell_lt rb.rd.c2)).trans rb.rd.f2⟩, fun i hi => hc _ _ (by simp <;> omega) (rb.bs i hi) (by simp <;> omega), rb.ne, rb.le, rb.cp, rb.mx⟩⟩, hc _ _ (by simp) h.d0 (by simp), ?_, (hf _ (by simp) (cell_lt h.d1)).trans h.df, hc _ _ (by simp <;> omega) h.r0 (by simp), hc _ _ (by simp <;> omega) h.r1 (by simp), (hf _ (by simp <;> omega) (cell_lt h.r0)).trans h.rf0, (hf _ (by simp <;> omega) (cell_lt h.r1)).trans h.rf1, ?_, ?_, h.hR, h.hB, h.h2⟩
  · exact World.cell?_setCell_same _ _ _ (g.cell h.d1 (ne _ (by simp)))
  · have h2 := h.h2
    exact ⟨hc _ _ (by simp) h.gl.k0 (by simp <;> omega), hc _ _ (by simp) h.gl.k1 (by simp <;> omega), hc _ _ (by simp) h.gl.k2 (by simp <;> omega), hc _ _ (by simp <;> omega) h.gl.v0 (by simp <;> omega), hc _ _ (by simp <;> omega) h.gl.v1 (by simp <;> omega), hc _ _ (by simp <;> omega) h.gl.v2 (by simp <;> omega)⟩
  · refine grown_new' ⟨g.os.trans h.gr.os, g.tape.trans h.gr.tape, g.output.trans h.gr.output, Nat.le_trans h.gr.size g.size, fun k hk hne => ?_⟩ (by simp)
    rw [g.block k (Nat.lt_of_lt_of_le hk h.gr.size) (ne _ (by omega))]; exact h.gr.block k hk hne

/-- What an agg of a version and a slice is. -/
def isDelta (x : Value) : Prop := ∃ (v : Int) (ao : Option Addr) (n c : Nat), x = .agg #[.int .u64 v, .slice ao n c]

set_option maxRecDepth 10000 in
set_option maxHeartbeats 2000000 in
theorem delta_ver {w : World} {s : ByteArray} {R B cap b : Nat} (h : Rdr w s R B cap b 0) (hs : s.size < 8 ∨ (8 ≤ s.size ∧ verB (numAt s 0 8) = false)) :
    Calls Tryd.prog 62 #[.pointer (some ⟨R, 0, none⟩)] w fun ev w' => ∃ fb, w.heap.size ≤ fb ∧ ev = .returned (.tuple #[.agg #[.int .u64 0, .slice none 0 0], .iface 100 (.pointer (some ⟨fb, 0, none⟩))]) ∧ ErrIs w' (.iface 100 (.pointer (some ⟨fb, 0, none⟩))) (if s.size < 8 then 1 else 4) 0 ∧ w.grownBy w' (some R) := by
  have hRw : R < w.heap.size := cell_lt h.rd.c0
  have qa := below_trans (below_alloc w (.cells #[.int .u64 0, .slice none 0 0] 25)) (below_alloc _ (.cells #[.int .u64 0, .slice none 0 0] 25))
  have ha := h.keep qa
  have hcall : Calls Tryd.prog 76 #[.pointer (some ⟨R, 0, none⟩)] ((w.alloc (.cells #[.int .u64 0, .slice none 0 0] 25)).alloc (.cells #[.int .u64 0, .slice none 0 0] 25)) fun ev w' => ∃ fb, ((w.alloc (.cells #[.int .u64 0, .slice none 0 0] 25)).alloc (.cells #[.int .u64 0, .slice none 0 0] 25)).heap.size ≤ fb ∧ ev = .returned (.tuple #[.int .u64 0, .iface 100 (.pointer (some ⟨fb, 0, none⟩))]) ∧ ErrIs w' (.iface 100 (.pointer (some ⟨fb, 0, none⟩))) (if s.size < 8 then 1 else 4) 0 ∧ ((w.alloc (.cells #[.int .u64 0, .slice none 0 0] 25)).alloc (.cells #[.int .u64 0, .slice none 0 0] 25)).grownBy w' (some R) := by
    rcases hs with h1 | ⟨h1, h2⟩
    · rw [if_pos h1]; exact ver_short ha (by omega)
    · rw [if_neg (by omega)]; exact ver_bad ha (by omega) h2
  generalize (if s.size < 8 then (1 : Int) else 4) = kk at hcall ⊢
  go_enter Tryd.func62, Tryd.ntmps62
  go_wp2_with fail
  refine hcall.mono ?_
  clear hcall
  rintro ev w1 ⟨fb, hfb, rfl, hx, g1⟩
  have hfb' : w.heap.size + 1 < fb := by simp at hfb; omega
  have n0 : some w.heap.size ≠ some R := by simp; omega
  have n1 : some (w.heap.size + 1) ≠ some R := by simp; omega
  have r0 : w1.cell? ⟨w.heap.size, 0, none⟩ = some (.int .u64 0) := g1.cell (by simp) n0
  have r1 : w1.cell? ⟨w.heap.size, 1, none⟩ = some (.slice none 0 0) := g1.cell (by simp) n0
  have d0 : w1.cell? ⟨w.heap.size + 1, 0, none⟩ = some (.int .u64 0) := g1.cell (by simp) n1
  have d1 : w1.cell? ⟨w.heap.size + 1, 1, none⟩ = some (.slice none 0 0) := g1.cell (by simp) n1
  have f0 : w1.frozen? ⟨w.heap.size, 0, none⟩ = false := (World.frozen?_of_block (g1.block _ (by simp <;> omega) n0)).trans (by simp)
  have f1 : w1.frozen? ⟨w.heap.size, 1, none⟩ = false := (World.frozen?_of_block (g1.block _ (by simp <;> omega) n0)).trans (by simp)
  go_wp2
  exact bodyPost_ret (v := .tuple #[.agg #[.int .u64 0, .slice none 0 0], .iface 100 (.pointer (some ⟨fb, 0, none⟩))]) (by simp [results, Tryd.results62, go_sem, r0, r1]) rfl ⟨fb, by omega, rfl, (hx.set (by simp <;> omega)).set (by simp <;> omega), grown_new' (grown_new' (grown_start (grown_start g1)) (by simp)) (by simp)⟩
end Go.Proofs.YtindifjhocgkbaaDoor
