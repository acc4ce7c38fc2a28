import Derived.Test.YtindifjhocgkbaaDoorPEncB
import Derived.Test.YtindifjhocgkbaaDoorNum
import Derived.Test.YtindifjhocgkbaaDoorWrg
import Derived.Deep.CutRange
namespace Go.Proofs.YtindifjhocgkbaaDoor
open Go.RowKit

theorem opsB_step (l : List OpD) (j : Nat) (h : j < l.length) : opsB (l.take (j + 1)) = opsB (l.take j) ++ opB l[j] := by
  unfold opsB; rw [List.take_succ_eq_append_getElem h, List.flatMap_append]; simp
theorem enc_join (v : Int) (l : List OpD) (j : Nat) (h : j < l.length) (sj : ByteArray) (hs : sj = ⟨(beB v 8 ++ [UInt8.ofNat l.length] ++ opsB (l.take j)).toArray⟩) :
    sj ++ ⟨#[UInt8.ofNat l[j].kind.toNat, UInt8.ofNat l[j].table.toNat]⟩ ++ l[j].key ++ l[j].val = ⟨(beB v 8 ++ [UInt8.ofNat l.length] ++ opsB (l.take (j + 1))).toArray⟩ := by
  apply ByteArray.ext
  rw [hs, opsB_step l j h]
  simp [opB, ByteArray.data_append, List.append_assoc]
set_option maxRecDepth 10000 in
set_option maxHeartbeats 1000000 in
theorem rEncode_no (v : Int) (ao : Option Addr) (cap : Nat) (l : List OpD) (w : World) (h0 : 0 ≤ v) (h1 : v ≤ 18446744073709551615) (hcap : l.length ≤ cap) (hmax : cap ≤ maxLen) (ho : OpsIn w ao l) (hk : (wrongD v l).1 ≠ 0) :
    Calls Tryd.prog 10 #[.agg #[.int .u64 v, .slice ao l.length cap]] w fun e w' => e = .returned (.tuple #[.string ⟨#[]⟩, .agg #[.int .i64 (wrongD v l).1, .int .i64 (wrongD v l).2]]) ∧ Below w.heap.size w w' := by
  have qA : ∀ x y, Below w.heap.size w ((w.alloc x).alloc y) := fun x y => below_trans (below_alloc _ _) (below_alloc _ _)
  have hb : ((wrongD v l).1 != 0) = true := by simpa using hk
  clear hk
  go_enter Tryd.func10, Tryd.ntmps10
  go_wp2_with fail
  refine (rWrong v ao cap l _ h0 h1 hcap hmax (ho.keep (qA _ _))).mono ?_
  rintro e w1 ⟨rfl, q1⟩
  have r0 : w1.cell? ⟨w.heap.size + 1, 0, none⟩ = some (.int .i64 0) := (q1.cell (p := ⟨w.heap.size + 1, 0, none⟩) (by simp)).trans (by simp)
  have r1 : w1.cell? ⟨w.heap.size + 1, 1, none⟩ = some (.int .i64 0) := (q1.cell (p := ⟨w.heap.size + 1, 1, none⟩) (by simp)).trans (by simp)
  have s0 : w1.frozen? ⟨w.heap.size + 1, 0, none⟩ = false := (q1.frozen (p := ⟨w.heap.size + 1, 0, none⟩) (by simp)).trans (by simp)
  have s1 : w1.frozen? ⟨w.heap.size + 1, 1, none⟩ = false := (q1.frozen (p := ⟨w.heap.size + 1, 1, none⟩) (by simp)).trans (by simp)
  have r0' : ∀ x, (w1.alloc x).cell? ⟨w.heap.size + 1, 0, none⟩ = some (.int .i64 0) := fun x => (World.cell?_alloc_lt _ _ _ (cell_lt r0)).trans r0
  have r1' : ∀ x, (w1.alloc x).cell? ⟨w.heap.size + 1, 1, none⟩ = some (.int .i64 0) := fun x => (World.cell?_alloc_lt _ _ _ (cell_lt r1)).trans r1
  have s0' : ∀ x, (w1.alloc x).frozen? ⟨w.heap.size + 1, 0, none⟩ = false := fun x => (World.frozen?_alloc_old _ _ _ (Nat.ne_of_lt (cell_lt r0))).trans s0
  have s1' : ∀ x, (w1.alloc x).frozen? ⟨w.heap.size + 1, 1, none⟩ = false := fun x => (World.frozen?_alloc_old _ _ _ (Nat.ne_of_lt (cell_lt r1))).trans s1
  have q2 := below_trans (qA _ _) q1
  clear h1
  go_wp2_with fail
  go_region
  go_wp2
  exact bodyPost_ret (v := .tuple #[.string ⟨#[]⟩, .agg #[.int .i64 (wrongD v l).1, .int .i64 (wrongD v l).2]]) (by simp [results, Tryd.results10, go_sem, r0', r1']) rfl ⟨rfl, (((q2.alloc q2.size _).setCell (by simp) _).setCell (by simp) _).drew⟩

set_option maxRecDepth 10000 in
set_option maxHeartbeats 2000000 in
theorem rEncode_ok (v : Int) (ao : Option Addr) (cap : Nat) (l : List OpD) (w : World) (h0 : 0 ≤ v) (h1 : v ≤ 18446744073709551615) (hcap : l.length ≤ cap) (hmax : cap ≤ maxLen) (ho : OpsIn w ao l) (hk : (wrongD v l).1 = 0) :
    Calls Tryd.prog 10 #[.agg #[.int .u64 v, .slice ao l.length cap]] w fun e w' => e = .returned (.tuple #[.string ⟨(encB v l).toArray⟩, .agg #[.int .i64 0, .int .i64 0]]) ∧ Below w.heap.size w w' := by
  have qA : ∀ x y, Below w.heap.size w ((w.alloc x).alloc y) := fun x y => below_trans (below_alloc _ _) (below_alloc _ _)
  have hd := wrongD_zero hk
  have hw := rWrong v ao cap l
  rw [hd] at hw
  have HWR := (show Hid _ from hw)
  clear hw
  have HL : Hid (∀ j, j ≤ l.length → (opsV (l.take j)).length ≤ j * 12) := fun j hj => opsV_length hk j hj
  have HW : Hid (∀ j (hj : j < l.length), wrongN l[j] (l.take j) = 0) := (wrongD_ok hk).2.2
  have hl8 : l.length ≤ 8 := by have := (wrongD_ok hk).2.1; simp [cntB] at this; omega
  have H1 : Hid (v ≤ 18446744073709551615) := h1
  clear hk hd h1
  go_enter Tryd.func10, Tryd.ntmps10
  go_wp2_with fail
  refine (HWR.out _ h0 H1.out hcap hmax (ho.keep (qA _ _))).mono ?_
  rintro e w1 ⟨rfl, q1⟩
  have r0 : w1.cell? ⟨w.heap.size + 1, 0, none⟩ = some (.int .i64 0) := (q1.cell (p := ⟨w.heap.size + 1, 0, none⟩) (by simp)).trans (by simp)
  have r1 : w1.cell? ⟨w.heap.size + 1, 1, none⟩ = some (.int .i64 0) := (q1.cell (p := ⟨w.heap.size + 1, 1, none⟩) (by simp)).trans (by simp)
  have s0 : w1.frozen? ⟨w.heap.size + 1, 0, none⟩ = false := (q1.frozen (p := ⟨w.heap.size + 1, 0, none⟩) (by simp)).trans (by simp)
  have s1 : w1.frozen? ⟨w.heap.size + 1, 1, none⟩ = false := (q1.frozen (p := ⟨w.heap.size + 1, 1, none⟩) (by simp)).trans (by simp)
  have d0 : w1.cell? ⟨w.heap.size, 0, none⟩ = some (.int .u64 v) := (q1.cell (p := ⟨w.heap.size, 0, none⟩) (by simp; omega)).trans (by simp)
  have d1 : w1.cell? ⟨w.heap.size, 1, none⟩ = some (.slice ao l.length cap) := (q1.cell (p := ⟨w.heap.size, 1, none⟩) (by simp; omega)).trans (by simp)
  have d0' : ∀ x, (w1.alloc x).cell? ⟨w.heap.size, 0, none⟩ = some (.int .u64 v) := fun x => (World.cell?_alloc_lt _ _ _ (cell_lt d0)).trans d0
  have d1' : ∀ x, (w1.alloc x).cell? ⟨w.heap.size, 1, none⟩ = some (.slice ao l.length cap) := fun x => (World.cell?_alloc_lt _ _ _ (cell_lt d1)).trans d1
  have q2 := below_trans (qA _ _) q1
  have hst := str1' (l.length : Int) (by omega) (by omega)
  have hwr : IntKind.u8.wrap (l.length : Int) = (l.length : Int) := by simp [IntKind.wrap, IntKind.bits, IntKind.signed]; omega
  have d0'' : ∀ x y, ((w1.alloc x).alloc y).cell? ⟨w.heap.size, 0, none⟩ = some (.int .u64 v) := fun x y => (World.cell?_alloc_lt _ _ _ (cell_lt (d0' x))).trans (d0' x)
  have d1'' : ∀ x y, ((w1.alloc x).alloc y).cell? ⟨w.heap.size, 1, none⟩ = some (.slice ao l.length cap) := fun x y => (World.cell?_alloc_lt _ _ _ (cell_lt (d1' x))).trans (d1' x)
  go_wp2_with fail
  go_cut [5] from 14 to 23 (fun s wc => s = .string ((⟨(beB v 8).toArray⟩ : ByteArray) ++ ⟨#[UInt8.ofNat l.length]⟩) ∧ Below w1.heap.size w1 wc)
  case first =>
    go_region_with (go_at_call 26; refine (rNumber v _ h0 H1.out).mono ?_; rintro e w2 ⟨rfl, q3⟩; have qq : Below w1.heap.size w1 w2 := (by first | exact below_trans ((below_alloc w1 _).drew) q3 | exact below_trans ((below_trans (below_alloc w1 _) (below_alloc _ _)).drew) q3); have e1 := (qq.cell (p := ⟨w.heap.size, 1, none⟩) (cell_lt d1)).trans d1; have kc := (bcell q3).1)
    all_goals (go_wp2_with fail; go_meet)
    all_goals first | exact ⟨rfl, qq⟩ | exact ⟨rfl, qq.alloc qq.size _⟩
  case rest =>
    obtain ⟨rfl, hqc⟩ := hcut
    have hsz1 : ((⟨(beB v 8).toArray⟩ : ByteArray) ++ ⟨#[UInt8.ofNat l.length]⟩) = ⟨(beB v 8 ++ [UInt8.ofNat l.length] ++ opsB (l.take 0)).toArray⟩ := by apply ByteArray.ext; simp [opsB]
    rw [hsz1]
    clear hsz1 hst hwr d0' d1' d0'' d1''
    go_wp2_with fail
    go_loopw [5, 6, 7] (fun s i _ wr => ∃ (j : Nat) (sj : ByteArray), j ≤ l.length ∧ i = .int .i64 j ∧ s = .string sj ∧ sj = ⟨(beB v 8 ++ [UInt8.ofNat l.length] ++ opsB (l.take j)).toArray⟩ ∧ Below w1.heap.size w1 wr)
      (fun _ i _ _ => l.length - (intOf i).toNat)
    case atStart => exact ⟨0, _, Nat.zero_le _, rfl, rfl, rfl, hqc⟩
    case round =>
      obtain ⟨j, sj, hj, rfl, rfl, hsj, hq⟩ := hrel
      have HS : Hid (sj = ⟨(beB v 8 ++ [UInt8.ofNat l.length] ++ opsB (l.take j)).toArray⟩) := hsj
      have hss : sj.size ≤ 9 + j * 12 := by
        have h2 := HL.out j hj
        have h3 : (opsB (l.take j)).length = (opsV (l.take j)).length := by
          rw [← cellsB_length, opsB_cells _ (fun i hi => by
            have hi' : i < l.length := by simp at hi; omega
            rw [List.getElem_take]; exact (wrongN_ok (HW.out i hi')).1)]
        have h4 : sj.size = (beB v 8 ++ [UInt8.ofNat l.length] ++ opsB (l.take j)).length := by rw [hsj]; rfl
        rw [h4]; simp [beB_length]; omega
      clear hsj
      have x1 := (hq.cell (p := ⟨w.heap.size, 1, none⟩) (cell_lt d1)).trans d1
      by_cases hlt : j < l.length
      · obtain ⟨b, off, rfl, hb, ho'⟩ := ho (by omega)
        have qw := q2.trans (hq.mono q2.size)
        have y0 := (qw.cell (p := ⟨b, off + j * 4, none⟩) hb).trans (ho'.c0 j hlt)
        have y1 := (qw.cell (p := ⟨b, off + j * 4 + 1, none⟩) hb).trans (ho'.c1 j hlt)
        have y2 := (qw.cell (p := ⟨b, off + j * 4 + 2, none⟩) hb).trans (ho'.c2 j hlt)
        have y3 := (qw.cell (p := ⟨b, off + j * 4 + 3, none⟩) hb).trans (ho'.c3 j hlt)
        have ij : ((j : Nat) : Int) < (l.length : Int) := by omega
        have hw := wrongN_ok (HW.out j hlt)
        have hk1 : 1 ≤ l[j].kind := by have := kindB_in hw.1; omega
        have hk2 : l[j].kind ≤ 2 := by have := kindB_in hw.1; omega
        have ht1 : 0 ≤ l[j].table := (kindB_in hw.1).2.1
        have ht2 : l[j].table < 3 := (kindB_in hw.1).2.2
        have hks := keyB_size hw.2.1
        have hvs := fits_size hw.2.2.2
        clear hw
        have hst2 := str2' l[j].kind l[j].table (by omega) (by omega) (by omega) (by omega)
        have HJ := (show Hid _ from enc_join v l j hlt sj HS.out)
        go_wp2
        go_roundw
        case rel => exact ⟨j + 1, _, by omega, by go_num, rfl, HJ.out, (hq.alloc hq.size _).alloc (by have := hq.size; simp; omega) _⟩
        case measure => simp [intOf]; omega
      · obtain rfl : j = l.length := by omega
        have v0 := (hq.cell (p := ⟨w.heap.size + 1, 0, none⟩) (cell_lt r0)).trans r0
        have v1 := (hq.cell (p := ⟨w.heap.size + 1, 1, none⟩) (cell_lt r1)).trans r1
        have f0 := (hq.frozen (p := ⟨w.heap.size + 1, 0, none⟩) (cell_lt r0)).trans s0
        have f1 := (hq.frozen (p := ⟨w.heap.size + 1, 1, none⟩) (cell_lt r1)).trans s1
        have qw := q2.trans (hq.mono q2.size)
        have HE : Hid (sj = ⟨(encB v l).toArray⟩) := by have h := HS.out; rw [List.take_length] at h; exact h
        clear HS
        go_wp2
        exact bodyPost_ret (v := .tuple #[.string sj, .agg #[.int .i64 0, .int .i64 0]]) (by simp [results, Tryd.results10, go_sem, v0, v1]) rfl ⟨by rw [HE.out], (qw.setCell (by simp) _).setCell (by simp) _⟩

theorem rEncode (v : Int) (ao : Option Addr) (cap : Nat) (l : List OpD) (w : World) (h0 : 0 ≤ v) (h1 : v ≤ 18446744073709551615) (hcap : l.length ≤ cap) (hmax : cap ≤ maxLen) (ho : OpsIn w ao l) :
    Calls Tryd.prog 10 #[.agg #[.int .u64 v, .slice ao l.length cap]] w fun e w' => e = .returned (.tuple #[.string (encS v l), .agg #[.int .i64 (wrongD v l).1, .int .i64 (wrongD v l).2]]) ∧ Below w.heap.size w w' := by
  by_cases hk : (wrongD v l).1 = 0
  · have h := rEncode_ok v ao cap l w h0 h1 hcap hmax ho hk
    rw [encS, if_pos hk, wrongD_zero hk]; exact h
  · have h := rEncode_no v ao cap l w h0 h1 hcap hmax ho hk
    rw [encS, if_neg hk]; exact h
end Go.Proofs.YtindifjhocgkbaaDoor
