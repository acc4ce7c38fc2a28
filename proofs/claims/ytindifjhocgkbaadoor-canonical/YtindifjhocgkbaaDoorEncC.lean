import Derived.Test.YtindifjhocgkbaaDoorErrC
namespace Go.Proofs.YtindifjhocgkbaaDoor
open Go.RowKit

set_option maxRecDepth 10000 in
set_option maxHeartbeats 1000000 in
theorem wEncode_no (v : Int) (ao : Option Addr) (cap : Nat) (l : List OpD) (w : World) (h0 : 0 ≤ v) (hcap : l.length ≤ cap) (ho : OpsIn w ao l) (g : Glob w) (hk : (wrongD v l).1 ≠ 0) :
    Calls Tryd.prog 41 #[.agg #[.int .u64 v, .slice ao l.length cap]] w fun e w' => ∃ x, e = .returned (.tuple #[.slice none 0 0, x]) ∧ ErrIs w' x (wrongD v l).1 (wrongD v l).2 ∧ Below w.heap.size w w' := by
  have gA : ∀ x, Glob (w.alloc x) := fun x => g.keep (below_alloc w x)
  have oA : ∀ x, OpsIn (w.alloc x) ao l := fun x => ho.keep (below_alloc w x)
  go_enter Tryd.func41, Tryd.ntmps41
  go_wp2_with fail
  refine (wCheck v ao cap l _ h0 hcap (oA _) (gA _)).mono ?_
  rintro e w1 ⟨x, rfl, hx, q1⟩
  rcases hx.cases0 with ⟨e0, _⟩ | ⟨_, b, rfl⟩
  · exact absurd e0 hk
  have HK : Hid ((wrongD v l).1 ≠ 0) := hk
  clear hk
  go_wp2
  go_ret2
  exact ⟨_, rfl, hx, below_trans (below_alloc _ _) q1⟩

set_option maxRecDepth 10000 in
set_option maxHeartbeats 2000000 in
theorem wEncode_ok (v : Int) (ao : Option Addr) (cap : Nat) (l : List OpD) (w : World) (h0 : 0 ≤ v) (hcap : l.length ≤ cap) (ho : OpsIn w ao l) (g : Glob w) (hk : (wrongD v l).1 = 0) :
    Calls Tryd.prog 41 #[.agg #[.int .u64 v, .slice ao l.length cap]] w fun e w' => ∃ b, e = .returned (.tuple #[b, .nilIface]) ∧ w'.ownsRow (w.heap.size + 1) 5 1 b (encV v l).length (encV v l) ∧ Below w.heap.size w w' := by
  have gA : ∀ x, Glob (w.alloc x) := fun x => g.keep (below_alloc w x)
  have oA : ∀ x, OpsIn (w.alloc x) ao l := fun x => ho.keep (below_alloc w x)
  obtain ⟨i0, hi, hz0, hz1, hz2⟩ := info_parts Tryd.info5
  have HL : Hid (∀ j, j ≤ l.length → (opsV (l.take j)).length ≤ j * 12) := fun j hj => opsV_length hk j hj
  have HW : Hid (∀ j (hj : j < l.length), wrongN l[j] (l.take j) = 0) := (wrongD_ok hk).2.2
  have hl8 : l.length ≤ 8 := by have := (wrongD_ok hk).2.1; simp [cntB] at this; omega
  have HK : Hid ((wrongD v l).1 = 0) := hk
  clear hk
  go_enter Tryd.func41, Tryd.ntmps41
  go_wp2_with fail
  refine (wCheck v ao cap l _ h0 hcap (oA _) (gA _)).mono ?_
  rintro e w1 ⟨x, rfl, hx, q1⟩
  rcases hx.cases0 with ⟨-, rfl⟩ | ⟨e0, -⟩
  rotate_left
  · exact absurd HK.out e0
  clear hx
  have x0 : w1.cell? ⟨w.heap.size, 0, none⟩ = some (.int .u64 v) := (q1.cell (p := ⟨w.heap.size, 0, none⟩) (by simp)).trans (by simp)
  have x1 : w1.cell? ⟨w.heap.size, 1, none⟩ = some (.slice ao l.length cap) := (q1.cell (p := ⟨w.heap.size, 1, none⟩) (by simp)).trans (by simp)
  have hs1 : w.heap.size + 1 ≤ w1.heap.size := by have := q1.size; simpa using this
  have q1' : Below (w.heap.size + 1) (w.alloc (.cells #[.int .u64 v, .slice ao l.length cap] 25)) w1 := q1.mono (by simp)
  have qo : Below w.heap.size w w1 := below_trans (below_alloc _ _) q1
  clear q1
  go_wp2_with fail
  refine (appendNumber (w.heap.size + 1) _ 0 8 [] v _ (by omega) (by omega) h0 (World.ownsRow_nil _ _ _ _) hs1).mono ?_
  rintro e w2 ⟨b2, rfl, hown2, q2⟩
  simp only [Nat.zero_add, List.nil_append] at hown2
  have y0 := (q2.cell (p := ⟨w.heap.size, 0, none⟩) (by simp)).trans x0
  have y1 := (q2.cell (p := ⟨w.heap.size, 1, none⟩) (by simp)).trans x1
  have hs2 : w.heap.size + 1 ≤ w2.heap.size := Nat.le_trans hs1 q2.size
  have qo2 : Below w.heap.size w w2 := qo.trans (q2.mono (by omega))
  clear q2 x0 x1 qo
  go_wp2_with (at_builtin; refine wpList_append_own _ rfl (.tmp 16) (.tmp 21) 34 rfl (w.heap.size + 1) 5 i0 (.int .u8 0) 1 1 Tryd.underlying34 hi hz0 hz1 hz2 rfl (by decide) b2 8 (beV v 8) rfl (hown2.alloc _) ⟨w2.heap.size, 0, none⟩ 1 1 [.int .u8 (l.length : Int)] rfl rfl (one_new _ _ _) (oneCells1 _ _) (by unfold maxLen; omega) (by omega) (by simp; omega) ?_; intro b3 w3 hown3 hgrow3 _; have z1 := hgrow3.cell ((World.cell?_alloc_lt _ _ _ (by simp; omega)).trans y1) (fun e => by have := (hown2.lt _ e.symm).1; simp at this; omega); have qo3 : Below w.heap.size w w3 := grown_below (qo2.alloc qo2.size _) (hown2.alloc _) hgrow3 (by simp; omega) (by omega))
  clear y0 y1 hown2 hgrow3 qo2 hs2 q1' hs1
  have hs3 : w.heap.size < w3.heap.size := cell_lt z1
  go_loopw [5, 7, 26] (fun b _ i wr => ∃ j : Nat, j ≤ l.length ∧ i = .int .i64 j ∧ wr.ownsRow (w.heap.size + 1) 5 1 b (9 + (opsV (l.take j)).length) (beV v 8 ++ [.int .u8 (l.length : Int)] ++ opsV (l.take j)) ∧ Below w.heap.size w wr ∧ w.heap.size < wr.heap.size)
    (fun _ _ i _ => l.length - (intOf i).toNat)
  case atStart => exact ⟨0, Nat.zero_le _, rfl, by simpa [opsV] using hown3, qo3, hs3⟩
  case round =>
    obtain ⟨j, hj, rfl, hown, hq, hsz⟩ := hrel
    by_cases hlt : j < l.length
    · obtain ⟨b, off, rfl, hb, ho'⟩ := ho (by omega)
      have d0 := (hq.cell (p := ⟨b, off + j * 4, none⟩) hb).trans (ho'.c0 j hlt)
      have d1 := (hq.cell (p := ⟨b, off + j * 4 + 1, none⟩) hb).trans (ho'.c1 j hlt)
      have d2 := (hq.cell (p := ⟨b, off + j * 4 + 2, none⟩) hb).trans (ho'.c2 j hlt)
      have d3 := (hq.cell (p := ⟨b, off + j * 4 + 3, none⟩) hb).trans (ho'.c3 j hlt)
      have ij : ((j : Nat) : Int) < (l.length : Int) := by omega
      have hw := wrongN_ok (HW.out j hlt)
      have hk1 : 1 ≤ l[j].kind := by have := kindB_in hw.1; omega
      have hk2 : l[j].kind ≤ 2 := by have := kindB_in hw.1; omega
      have ht1 : 0 ≤ l[j].table := (kindB_in hw.1).2.1
      have ht2 : l[j].table < 3 := (kindB_in hw.1).2.2
      have hks := keyB_size hw.2.1
      have hvs := fits_size hw.2.2.2
      have hll := HL.out j hj
      clear hw
      have HST : Hid (opsV (l.take (j + 1)) = opsV (l.take j) ++ opV l[j]) := opsV_step l j hlt
      obtain ⟨B, hB⟩ : ∃ B, B = wr.heap.size := ⟨_, rfl⟩
      have R0 : ∀ b n xs, wr.ownsRow (w.heap.size + 1) 5 1 b n xs → Rnd w (wr.alloc (.cells #[.int .i64 l[j].kind, .int .i64 l[j].table, .string l[j].key, .string l[j].val] 47)) wr.heap.size l[j] b n xs :=
        fun b n xs h => ⟨h.alloc _, heap_alloc_new _ _, hq.alloc (by omega) _⟩
      have R1 := (R0 _ _ _ hown).alloc (.cells #[.int .u8 l[j].kind] 5)
      clear R0 hB B
      have hlen1 : 9 + (opsV (l.take j)).length ≤ 105 := by omega
      go_wp2_with (first | (at_builtin; refine wpList_append_own _ rfl _ _ 34 rfl (w.heap.size + 1) 5 i0 (.int .u8 0) 1 1 Tryd.underlying34 hi hz0 hz1 hz2 rfl (by decide) u5 _ _ rfl R1.own ⟨wr.heap.size + 1, 0, none⟩ 1 1 [.int .u8 l[j].kind] rfl rfl (by have h2 := one_new (wr.alloc (.cells #[.int .i64 l[j].kind, .int .i64 l[j].table, .string l[j].key, .string l[j].val] 47)) (.int .u8 l[j].kind) 5; simpa using h2) (oneCells1 _ _) (by unfold maxLen; omega) (by omega) (by simp; omega) ?_; intro b4 w4 hown4 hgrow4 _; have R4 := R1.grow hgrow4 hown4; obtain ⟨-, t4, k4, v4⟩ := R4.c) | fail)
      refine (appendEntry (w.heap.size + 1) b4 _ _ l[j].table l[j].key l[j].val _ ht1 ht2 hks hvs (by omega) R4.own (by have h := cell_lt k4; simp at h; omega)).mono ?_
      rintro e w6 ⟨b6, rfl, hown6, q6⟩
      have qo6 : Below w.heap.size w w6 := R4.q.trans (q6.mono (by omega))
      have hs6 : w.heap.size < w6.heap.size := by have h := cell_lt k4; have h' := q6.size; simp at h; omega
      go_wp2_with fail
      go_roundw
      case rel =>
        refine ⟨j + 1, by omega, by go_num, ?_, qo6, hs6⟩
        have e : 9 + (opsV (l.take j) ++ opV l[j]).length = 9 + (opsV (l.take j)).length + 1 + (enV l[j].table l[j].key l[j].val).length := by rw [List.length_append, opV_length]; simp [enV, Lib.strCells_length]; omega
        rw [HST.out, e]
        simpa [opV, enV, List.append_assoc] using hown6
      case measure => simp [intOf]; omega
    · obtain rfl : j = l.length := by omega
      go_wp2
      go_ret2
      refine ⟨_, rfl, ?_, hq⟩
      rw [List.take_length] at hown
      have e : (encV v l).length = 9 + (opsV l).length := by simp [encV, beV_length]; omega
      rw [e]; exact hown
end Go.Proofs.YtindifjhocgkbaaDoor
