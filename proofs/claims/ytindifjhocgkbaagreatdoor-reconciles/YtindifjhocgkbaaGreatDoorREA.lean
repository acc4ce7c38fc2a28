import Derived.Test.YtindifjhocgkbaaGreatDoorRmBToNum
import Derived.Test.YtindifjhocgkbaaGreatDoorEncA
import Derived.Test.YtindifjhocgkbaaGreatDoorRefD
import Derived.Deep.CutRange
namespace Go.Proofs.YtindifjhocgkbaaGreatDoor
open Go.RowKit

theorem ensB_step (l : List En) (j : Nat) (h : j < l.length) : ensB (l.take (j + 1)) = ensB (l.take j) ++ enB l[j] := by
  unfold ensB; rw [List.take_succ_eq_append_getElem h, List.flatMap_append]; simp
theorem sta_join (v : Int) (n : Int) (l : List En) (j : Nat) (h : j < l.length) (sj : ByteArray) (hs : sj = ⟨(beB v 8 ++ (beB n 2 ++ ensB (l.take j))).toArray⟩) :
    sj ++ ⟨#[UInt8.ofNat l[j].t.toNat]⟩ ++ l[j].k ++ l[j].v = ⟨(beB v 8 ++ (beB n 2 ++ ensB (l.take (j + 1)))).toArray⟩ := by
  apply ByteArray.ext
  rw [hs, ensB_step l j h]
  simp [enB, ByteArray.data_append, List.append_assoc]
theorem ensB_length {l : List En} (h : Ok l) (j : Nat) (hj : j ≤ l.length) : (ensB (l.take j)).length ≤ j * 11 := by
  have ho : Ok (l.take j) := fun x hx => h x (List.mem_of_mem_take hx)
  have h1 := ensV_length ho
  rw [← ensB_cells ho, cellsB_length] at h1
  simp at h1
  omega
set_option maxRecDepth 10000 in
set_option maxHeartbeats 4000000 in
theorem rEncodeAll (v : Int) (x : Value) (l : List En) (w : World) (h0 : 0 ≤ v) (h1 : v ≤ 18446744073709551615) (hl : l.length ≤ 65535) (hI : EnsIn w x l) (hok : Ok l) :
    Calls Tryz.prog 17 #[.int .u64 v, x] w fun e w' => e = .returned (.tuple #[.string (staS v l), .agg #[.int .i64 (verK v), .int .i64 0]]) ∧ Below w.heap.size w w' := by
  obtain ⟨ao, cp, rfl⟩ := hI.slice
  have hr0 := rf_new w
  have H1 : Hid (v ≤ 18446744073709551615) := h1
  have HOK : Hid (Ok l) := hok
  clear h1 hok
  cases hv : verB v
  · have e1 : staS v l = ⟨#[]⟩ := by rw [staS, hv]; rfl
    have e2 : verK v = 4 := by rw [verK, hv]; rfl
    rw [e1, e2]
    go_enter Tryz.func17, Tryz.ntmps17
    go_wp2_with fail
    generalize w.alloc (.cells #[.int .i64 0, .int .i64 0] 39) = W0 at *
    obtain ⟨c0, c1, f0, f1, ty, qw⟩ := hr0
    refine (rIsVersion _ _ h0 H1.out).mono ?_
    rintro ev w1 ⟨rfl, rfl⟩
    rw [hv]
    go_wp2
    exact bodyPost_ret (v := .tuple #[.string ⟨#[]⟩, .agg #[.int .i64 4, .int .i64 0]]) (by simp [results, Tryz.results17, go_sem, c0, c1]) rfl ⟨rfl, (qw.setCell (by simp) _).setCell (by simp) _⟩
  · have e1 : staS v l = ⟨(staB v l).toArray⟩ := by rw [staS, hv]; rfl
    have e2 : verK v = 0 := by rw [verK, hv]; rfl
    rw [e1, e2]
    clear e1 e2
    go_enter Tryz.func17, Tryz.ntmps17
    go_wp2_with fail
    generalize w.alloc (.cells #[.int .i64 0, .int .i64 0] 39) = W0 at *
    refine (rIsVersion _ _ h0 H1.out).mono ?_
    rintro ev w1 ⟨rfl, rfl⟩
    rw [hv]
    go_wp2_with fail
    have hA1 : (l.length : Int).tdiv 256 = ((l.length / 256 : Nat) : Int) := by rw [Int.tdiv_eq_ediv_of_nonneg (by omega)]; omega
    have hB1 : IntKind.u8.wrap (l.length : Int) = ((l.length % 256 : Nat) : Int) := by simp [IntKind.wrap, IntKind.bits, IntKind.signed]
    have HBE : Hid (beB (l.length : Int) 2 = [UInt8.ofNat (l.length / 256), UInt8.ofNat (l.length % 256)]) := by
      show _ = _
      rw [beB2, show ((l.length : Int) / 256 % 256).toNat = l.length / 256 by omega, show ((l.length : Int) % 256).toNat = l.length % 256 by omega]
    have hA2 : l.length / 256 < 256 := by omega
    have hB2 : l.length % 256 < 256 := by omega
    generalize l.length / 256 = A at *
    generalize l.length % 256 = Bn at *
    have hA3 : IntKind.u8.wrap (A : Int) = (A : Int) := by simp [IntKind.wrap, IntKind.bits, IntKind.signed]; omega
    have hA4 : IntKind.i64.wrap (A : Int) = (A : Int) := by simp [IntKind.wrap, IntKind.bits, IntKind.signed]; omega
    have hst := str2' (A : Int) (Bn : Int) (by omega) (by omega) (by omega) (by omega)
    simp only [Int.toNat_natCast] at hst
    go_cut [7] from 14 to 25 (fun s wc => s = .string ((⟨(beB v 8).toArray⟩ : ByteArray) ++ ⟨#[UInt8.ofNat A, UInt8.ofNat Bn]⟩) ∧ Below w1.heap.size w1 wc)
    case first =>
      go_region_with (go_at_call 52; refine (rNumber v _ h0 H1.out).mono ?_; rintro e w2 ⟨rfl, q3⟩; have qq : Below w1.heap.size w1 w2 := (by first | exact below_trans (below_drew w1) q3 | exact below_trans ((below_alloc w1 _).drew) q3); have kc := (bcell q3).1)
      all_goals (go_wp2_with fail; go_meet)
      all_goals first | exact ⟨rfl, qq⟩ | exact ⟨rfl, qq.alloc qq.size _⟩
    case rest =>
      obtain ⟨rfl, hqc⟩ := hcut
      have hsz1 : ((⟨(beB v 8).toArray⟩ : ByteArray) ++ ⟨#[UInt8.ofNat A, UInt8.ofNat Bn]⟩) = ⟨(beB v 8 ++ (beB (l.length : Int) 2 ++ ensB (l.take 0))).toArray⟩ := by rw [HBE.out]; apply ByteArray.ext; simp [ensB]
      rw [hsz1]
      clear hsz1 hst hA1 hB1 hA2 hB2 hA3 hA4
      have q01 := hr0.qw
      go_wp2_with fail
      go_loopw [7, 8] (fun s i wr => ∃ (j : Nat) (sj : ByteArray), j ≤ l.length ∧ i = .int .i64 j ∧ s = .string sj ∧ sj = ⟨(beB v 8 ++ (beB (l.length : Int) 2 ++ ensB (l.take j))).toArray⟩ ∧ Below w1.heap.size w1 wr)
        (fun _ i _ => l.length - (intOf i).toNat)
      case atStart => exact ⟨0, _, Nat.zero_le _, rfl, rfl, rfl, hqc⟩
      case round =>
        obtain ⟨j, sj, hj, rfl, rfl, hsj, hq⟩ := hrel
        have HS : Hid (sj = ⟨(beB v 8 ++ (beB (l.length : Int) 2 ++ ensB (l.take j))).toArray⟩) := hsj
        have hss : sj.size ≤ 10 + j * 11 := by
          have h2 := ensB_length HOK.out j hj
          have h4 : sj.size = (beB v 8 ++ (beB (l.length : Int) 2 ++ ensB (l.take j))).length := by rw [hsj]; rfl
          rw [h4]; simp [beB_length]; omega
        clear hsj
        have qw := q01.trans (hq.mono q01.size)
        by_cases hlt : j < l.length
        · rcases hI with ⟨_, he⟩ | ⟨b, off, cap, hv', hb, hc⟩
          · rw [he] at hlt; simp at hlt
          simp only [Value.slice.injEq] at hv'
          obtain ⟨rfl, _, rfl⟩ := hv'
          have y0 := (qw.cell (p := ⟨b, off + j * 3, none⟩) hb).trans (hc.c0 j hlt)
          have y1 := (qw.cell (p := ⟨b, off + j * 3 + 1, none⟩) hb).trans (hc.c1 j hlt)
          have y2 := (qw.cell (p := ⟨b, off + j * 3 + 2, none⟩) hb).trans (hc.c2 j hlt)
          have ij : ((j : Nat) : Int) < (l.length : Int) := by omega
          have hw := HOK.out l[j] (List.getElem_mem hlt)
          obtain ⟨ht1, ht2⟩ := okE_in hw
          have hks := keyB_size hw.2.1
          have hvs := valB_size hw.2.2
          clear hw
          have hst2 := str1' l[j].t (by omega) (by omega)
          have HJ := (show Hid _ from sta_join v (l.length : Int) l j hlt sj HS.out)
          go_wp2_with fail
          have hbw : b < wr.heap.size := Nat.lt_of_lt_of_le hb qw.size
          have hwx : IntKind.u8.wrap l[j].t = l[j].t := by simp [IntKind.wrap, IntKind.bits, IntKind.signed]; omega
          generalize l[j] = X at *
          have z0 : ∀ o, (wr.alloc o).cell? ⟨b, off + j * 3, none⟩ = some (.int .i64 X.t) := fun o => (World.cell?_alloc_lt _ _ _ hbw).trans y0
          have z1 : ∀ o, (wr.alloc o).cell? ⟨b, off + j * 3 + 1, none⟩ = some (.string X.k) := fun o => (World.cell?_alloc_lt _ _ _ hbw).trans y1
          have z2 : ∀ o, (wr.alloc o).cell? ⟨b, off + j * 3 + 2, none⟩ = some (.string X.v) := fun o => (World.cell?_alloc_lt _ _ _ hbw).trans y2
          go_region
          go_wp2_with fail
          go_roundw
          case rel => exact ⟨j + 1, _, by omega, by go_num, rfl, HJ.out, (hq.alloc hq.size _).drew⟩
          case measure => simp [intOf]; omega
        · have hr2 := hr0.keep hq
          obtain ⟨c0, c1, f0, f1, ty, qw2⟩ := hr2
          obtain rfl : j = l.length := by omega
          have HE : Hid (sj = ⟨(staB v l).toArray⟩) := by have h := HS.out; rw [List.take_length] at h; exact h
          clear HS
          go_wp2
          exact bodyPost_ret (v := .tuple #[.string sj, .agg #[.int .i64 0, .int .i64 0]]) (by simp [results, Tryz.results17, go_sem, c0, c1]) rfl ⟨by rw [HE.out], (qw.setCell (by simp) _).setCell (by simp) _⟩
end Go.Proofs.YtindifjhocgkbaaGreatDoor
