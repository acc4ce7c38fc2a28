import Derived.Test.YtindifjhocgkbaaGreatDoorStP
namespace Go.Proofs.YtindifjhocgkbaaGreatDoor
open Go.RowKit

/-- Entries that came in: of none of them nothing is asked. -/
def EnsLo (w : World) (x : Value) (es : List En) : Prop := (∃ ao cap, x = .slice ao 0 cap ∧ es = []) ∨ EnsIn w x es
theorem EnsLo.keep {w w' : World} {x : Value} {es : List En} (h : EnsLo w x es) (q : Below w.heap.size w w') : EnsLo w' x es := by
  rcases h with h | h
  · exact .inl h
  · exact .inr (h.keep q)
theorem EnsLo.slice {w : World} {x : Value} {es : List En} (h : EnsLo w x es) : ∃ ao cap, x = .slice ao es.length cap := by
  rcases h with ⟨ao, cap, rfl, rfl⟩ | h
  · exact ⟨ao, cap, rfl⟩
  · exact h.slice
set_option maxHeartbeats 1000000 in
theorem pLaid0 (ao : Option Addr) (cap : Nat) (w : World) :
    Calls Tryz.prog 50 #[.slice ao 0 cap] w fun e w' => ∃ T, e = .returned (.pointer (some ⟨T, 0, none⟩)) ∧ w.heap.size ≤ T ∧ TabIs w' T (layL []) ∧ Below w.heap.size w w' := by
  go_enter Tryz.func50, Tryz.ntmps50
  go_wp2_with fail
  refine (newTables _).mono ?_
  rintro e w1 ⟨rfl, rfl⟩
  have t1 : TabIs (w.alloc (.cells #[.slice none 0 0] 116)) w.heap.size [] := ⟨_, heap_alloc_new _ _, World.ownsRow_nil _ _ _ _⟩
  have q1 := below_alloc w (.cells #[.slice none 0 0] 116)
  go_wp2_with fail
  generalize w.alloc (.cells #[.slice none 0 0] 116) = W1 at *
  go_loopw [9] (fun i wr => i = .int .i64 0 ∧ wr = W1) (fun _ _ => 0)
  case atStart => exact ⟨rfl, rfl⟩
  case round =>
    obtain ⟨rfl, rfl⟩ := hrel
    go_wp2
    go_ret
    exact ⟨_, rfl, Nat.le_refl _, t1, q1⟩
set_option maxRecDepth 10000 in
set_option maxHeartbeats 2000000 in
theorem pEncodeAll0 (v : Int) (ao' : Option Addr) (cap' : Nat) (w : World) (h0 : 0 ≤ v) (g : Glob w) (he : EtIs w) :
    Calls Tryz.prog 15 #[.int .u64 v, .slice ao' 0 cap'] w fun e w' => e = .returned (.tuple #[.string (staS v (layL [])), .agg #[.int .i64 (verK v), .int .i64 0, .int .i64 0]]) ∧ Below w.heap.size w w' := by
  have qa := below_alloc w (.cells #[.int .i64 0, .int .i64 0, .int .i64 0] 29)
  have p0 : (w.alloc (.cells #[.int .i64 0, .int .i64 0, .int .i64 0] 29)).cell? ⟨w.heap.size, 0, none⟩ = some (.int .i64 0) := by simp
  have p1 : (w.alloc (.cells #[.int .i64 0, .int .i64 0, .int .i64 0] 29)).cell? ⟨w.heap.size, 1, none⟩ = some (.int .i64 0) := by simp
  have p2 : (w.alloc (.cells #[.int .i64 0, .int .i64 0, .int .i64 0] 29)).cell? ⟨w.heap.size, 2, none⟩ = some (.int .i64 0) := by simp
  have pf : ∀ i, (w.alloc (.cells #[.int .i64 0, .int .i64 0, .int .i64 0] 29)).frozen? ⟨w.heap.size, i, none⟩ = false := fun i => World.frozen?_alloc_at _ _ _ i rfl
  have gA := g.keep qa
  have eA := he.keep qa
  go_enter Tryz.func15, Tryz.ntmps15
  go_wp2_with fail
  generalize w.alloc (.cells #[.int .i64 0, .int .i64 0, .int .i64 0] 29) = W1 at *
  have hw1 : w.heap.size < W1.heap.size := cell_lt p0
  refine (pLaid0 ao' cap' _).mono ?_
  rintro e w2 ⟨T, rfl, hT, ht, q2⟩
  have hLl : (layL []).length ≤ 0 := layL_length []
  have hLo := layL_ok []
  obtain ⟨L, HL⟩ : ∃ L, Hid (layL [] = L) := ⟨_, rfl⟩
  rw [HL.out] at ht hLl hLo
  go_wp2_with fail
  refine (oEncodeAll v T L _ ht h0 (by omega) hLo).mono ?_
  rintro e w3 ⟨b, y, rfl, hEA, q3⟩
  have HO : Hid (Ok L) := hLo
  clear hLo
  have he3 := (eA.keep q2).keep q3
  have q13 := below_trans q2 q3
  have core : ErrIs w3 y (verK v) 0 ∧ ((verB v = false ∧ b = .slice none 0 0 ∧ ∃ p, y = .iface 133 p) ∨ (verB v = true ∧ y = .nilIface ∧ w3.ownsRow w2.heap.size 5 1 b (staB v L).length (cellsB (staB v L)))) := by
    rcases hEA with ⟨h1, h2, h3⟩ | ⟨h1, rfl, h3⟩
    · refine ⟨by unfold verK; rw [h1]; exact h3, .inl ⟨h1, h2, ?_⟩⟩
      rcases h3.cases0 with ⟨e, _⟩ | ⟨_, b, rfl⟩
      · omega
      · exact ⟨_, rfl⟩
    · refine ⟨by unfold verK; rw [h1]; exact errIs_nil _, .inr ⟨h1, rfl, ?_⟩⟩
      rw [staB_cells HO.out]
      rw [← staB_cells HO.out, cellsB_length, staB_cells HO.out] at h3
      exact h3
  obtain ⟨hx, hres⟩ := core
  clear hEA
  go_wp2_with fail
  refine (partsOf y _ _ _ he3 hx).mono ?_
  rintro e w4 ⟨rfl, q4⟩
  have q14 := below_trans q13 q4
  have HST : Hid (staS v L = if verB v = true then ⟨(staB v L).toArray⟩ else ⟨#[]⟩) := rfl
  have hpos := staB_pos v L
  have f0 : (w4.alloc (.cells #[.int .i64 (verK v), .int .i64 0, .int .i64 0] 29)).cell? ⟨w4.heap.size, 0, none⟩ = some (.int .i64 (verK v)) := by simp
  have f1 : (w4.alloc (.cells #[.int .i64 (verK v), .int .i64 0, .int .i64 0] 29)).cell? ⟨w4.heap.size, 1, none⟩ = some (.int .i64 0) := by simp
  have f2 : (w4.alloc (.cells #[.int .i64 (verK v), .int .i64 0, .int .i64 0] 29)).cell? ⟨w4.heap.size, 2, none⟩ = some (.int .i64 0) := by simp
  have q45 := below_alloc w4 (.cells #[.int .i64 (verK v), .int .i64 0, .int .i64 0] 29)
  have q15 := below_trans q14 q45
  have Y0 := (q15.cell (p := ⟨w.heap.size, 0, none⟩) hw1).trans p0
  have Y1 := (q15.cell (p := ⟨w.heap.size, 1, none⟩) hw1).trans p1
  have Y2 := (q15.cell (p := ⟨w.heap.size, 2, none⟩) hw1).trans p2
  have Z0 := (q15.frozen (p := ⟨w.heap.size, 0, none⟩) hw1).trans (pf 0)
  have Z1 := (q15.frozen (p := ⟨w.heap.size, 1, none⟩) hw1).trans (pf 1)
  have Z2 := (q15.frozen (p := ⟨w.heap.size, 2, none⟩) hw1).trans (pf 2)
  have QW := qa.trans (q15.mono (by omega))
  have hs4 := q14.size
  rcases hres with ⟨hv, rfl, p, rfl⟩ | ⟨hv, rfl, hown⟩
  · have HS : Hid (staS v L = ⟨#[]⟩) := by show _ = _; rw [HST.out, hv]; rfl
    clear hv p0 p1 p2 pf
    generalize hvk : verK v = vk at *
    have HVK : Hid (verK v = vk) := hvk
    clear hvk
    go_wp2_with fail
    generalize w4.alloc (.cells #[.int .i64 vk, .int .i64 0, .int .i64 0] 29) = W5 at *
    have hcv := string_of_nil W5
    have hcv' := string_of_nil W5.drew
    go_region
    go_wp2
    exact bodyPost_ret (v := .tuple #[.string (staS v L), .agg #[.int .i64 vk, .int .i64 0, .int .i64 0]]) (by rw [HS.out]; simp [results, Tryz.results15, go_sem, Y0, Y1, Y2]) rfl ⟨by rw [HL.out, HVK.out], (((QW.setCell (by simp) _).setCell (by simp) _).setCell (by simp) _).drew⟩
  · have HS : Hid (staS v L = ⟨(staB v L).toArray⟩) := by show _ = _; rw [HST.out, hv]; rfl
    have hown5 := owns_below (owns_below hown q4) q45
    clear hv p0 p1 p2 pf
    generalize hvk : verK v = vk at *
    have HVK : Hid (verK v = vk) := hvk
    clear hvk
    generalize staB v L = SB at *
    obtain ⟨bo, bc, rfl⟩ := own_slice hown5
    have hnz : ¬ ((SB.length : Int) = 0) := by omega
    have hnz' : ((SB.length : Int) == 0) = false := by simpa using hnz
    go_wp2_with fail
    generalize w4.alloc (.cells #[.int .i64 vk, .int .i64 0, .int .i64 0] 29) = W5 at *
    have hcv := (string_of_own hown5).1
    have hcv' := (string_of_own (w := W5.drew) hown5).1
    go_region
    go_wp2
    exact bodyPost_ret (v := .tuple #[.string (staS v L), .agg #[.int .i64 vk, .int .i64 0, .int .i64 0]]) (by rw [HS.out]; simp [results, Tryz.results15, go_sem, Y0, Y1, Y2]) rfl ⟨by rw [HL.out, HVK.out], (((QW.setCell (by simp) _).setCell (by simp) _).setCell (by simp) _).drew⟩
theorem pEncodeAllL (v : Int) (x : Value) (es : List En) (w : World) (hI : EnsLo w x es) (h0 : 0 ≤ v) (hl : es.length ≤ 100000) (g : Glob w) (he : EtIs w) :
    Calls Tryz.prog 15 #[.int .u64 v, x] w fun e w' => e = .returned (.tuple #[.string (staS v (layL es)), .agg #[.int .i64 (verK v), .int .i64 0, .int .i64 0]]) ∧ Below w.heap.size w w' := by
  rcases hI with ⟨ao, cap, rfl, rfl⟩ | h
  · exact pEncodeAll0 v ao cap w h0 g he
  · exact pEncodeAll v x es w h h0 hl g he
set_option maxHeartbeats 1000000 in
theorem lLimitedL (x : Value) (es : List En) (w : World) (hI : EnsLo w x es) (hc : ∀ a n c, x = .slice a n c → n ≤ c ∧ (c : Int) ≤ 9223372036854775807) :
    Calls Tryz.prog 16 #[x] w fun e w' => ∃ y, e = .returned y ∧ EnsLo w y (es.take 300) ∧ w' = w := by
  rcases hI with ⟨ao, cap, rfl, rfl⟩ | h
  · go_enter Tryz.func16, Tryz.ntmps16
    go_wp2
    go_ret
    exact ⟨.slice ao 0 cap, rfl, .inl ⟨ao, cap, rfl, by simp⟩, rfl⟩
  · refine (lLimited x es w h hc).mono ?_
    rintro e w' ⟨y, h1, h2, h3⟩
    exact ⟨y, h1, .inr h2, h3⟩
set_option maxHeartbeats 1000000 in
theorem lProperL (x : Value) (es : List En) (w : World) (hI : EnsLo w x es) :
    Calls Tryz.prog 18 #[x] w fun e w' => ∃ y, e = .returned y ∧ EnsIn w' y (layL (es.take 300)) ∧ Below w.heap.size w w' := by
  rcases hI with ⟨ao, cap, rfl, rfl⟩ | h
  · go_enter Tryz.func18, Tryz.ntmps18
    go_wp2_with fail
    go_loopw [3, 4] (fun y i wr => y = .slice none 0 0 ∧ i = .int .i64 0 ∧ wr = w) (fun _ _ _ => 0)
    case atStart => exact ⟨rfl, rfl, rfl⟩
    case round =>
      obtain ⟨rfl, rfl, rfl⟩ := hrel
      go_wp2
      go_ret
      exact ⟨.slice none 0 0, rfl, .inl ⟨rfl, by simp [layL]⟩, Below.refl _ _⟩
  · exact lProper x es w h
end Go.Proofs.YtindifjhocgkbaaGreatDoor
