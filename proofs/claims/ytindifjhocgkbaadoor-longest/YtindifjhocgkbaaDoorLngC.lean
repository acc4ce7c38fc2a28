import Derived.Test.YtindifjhocgkbaaDoorLngD
namespace Go.Proofs.YtindifjhocgkbaaDoor
open Go.RowKit Go.WideMaps Go.Maps

theorem kLaw : Keyed Tryd.prog 9 := string_keyed Tryd.underlying9
theorem kZero (w : World) : (zeroValue 3).run Tryd.prog w = .ok (.int .i64 0) w := by kernel_rfl
theorem shr8 (r : Nat) (hr : r < 8) (W : World) : (Op.shift .shr .u8 128 .i64 ((r : Nat) : Int)).run Tryd.prog W = .ok (.int .u8 ((128 / 2 ^ r : Nat) : Int)) W := by
  rw [shift_shr .u8 .i64 128 ((r : Nat) : Int) (by omega) (by show ((r : Nat) : Int) ≤ 8; omega)]
  have e : ((128 : Int) / 2 ^ ((r : Nat) : Int).toNat) = ((128 / 2 ^ r : Nat) : Int) := by
    rw [Int.natCast_ediv, Int.natCast_pow, Int.toNat_natCast]; rfl
  rw [e]; rfl
/-- What stands between two rounds: the tables, the address's bytes, the map of what was used. -/
structure LngI (w : World) (T F A M : Nat) (k : Int) (i : Nat) (l : List En) (D : DataW Unit) (wr : World) : Prop where
  tab : TabIs wr T l
  fol : wr.cell? ⟨F, 0, none⟩ = some (.pointer (some ⟨T, 0, none⟩))
  at0 : wr.cell? ⟨A, 0, none⟩ = some (.int .u8 10)
  at1 : wr.cell? ⟨A, 1, none⟩ = some (.int .u8 (k / 65536 % 8))
  at2 : wr.cell? ⟨A, 2, none⟩ = some (.int .u8 (k / 256 % 256))
  at3 : wr.cell? ⟨A, 3, none⟩ = some (.int .u8 (k % 256))
  map : wr.ownsMap Tryd.prog 9 (plainElem Tryd.prog 3) M i D
  q : Below w.heap.size w wr
theorem LngI.keep {w : World} {T F A M : Nat} {k : Int} {i : Nat} {l : List En} {D : DataW Unit} {wr wr' : World} (h : LngI w T F A M k i l D wr) (q : Below wr.heap.size wr wr') : LngI w T F A M k i l D wr' :=
  ⟨h.tab.keep q, (q.cell (p := ⟨F, 0, none⟩) (cell_lt h.fol)).trans h.fol, (q.cell (p := ⟨A, 0, none⟩) (cell_lt h.at0)).trans h.at0, (q.cell (p := ⟨A, 1, none⟩) (cell_lt h.at1)).trans h.at1, (q.cell (p := ⟨A, 2, none⟩) (cell_lt h.at2)).trans h.at2, (q.cell (p := ⟨A, 3, none⟩) (cell_lt h.at3)).trans h.at3,
    h.map.kept (row := none) (grown_below' none q) (by simp), below_trans h.q q⟩
theorem str5 {W : World} {P : Nat} {s : ByteArray} (h5 : s.size = 5) (hb : BytesAt W P s) : (convert 34 9 (.slice (some ⟨P, 0, none⟩) 5 5)).run Tryd.prog W = .ok (.string s) W := by
  have h := str_whole s P 5 W hb
  rw [h5] at h; exact h
theorem str4 (W : World) (j : Nat) (hj : j < 256) : (convert 34 9 (.slice (some ⟨W.heap.size, 0, none⟩) 4 4)).run Tryd.prog (W.alloc (.cells #[.int .u8 1, .int .u8 (j : Int), .int .u8 2, .int .u8 3] 5)) = .ok (.string (baOf [1, (j : Int), 2, 3])) (W.alloc (.cells #[.int .u8 1, .int .u8 (j : Int), .int .u8 2, .int .u8 3] 5)) :=
  str_lit W [1, (j : Int), 2, 3] W.heap.size 5 4 rfl (by intro x hx; simp at hx; rcases hx with rfl | rfl | rfl | rfl <;> omega)
theorem lit_inj {a b : Int} (h : (DataW.lit (.int .i64 a) : DataW Unit) = .lit (.int .i64 b)) : a = b := by injection h with h; injection h
theorem LngI.more {w : World} {T F A M : Nat} {k : Int} {i : Nat} {l : List En} {D : DataW Unit} {wr : World} (h : LngI w T F A M k i l D wr) : LngI w T F A M k (i + 1) l D wr := by
  obtain ⟨es, clock, h1, h2, h3, h4⟩ := h.map
  exact ⟨h.tab, h.fol, h.at0, h.at1, h.at2, h.at3, ⟨es, clock, h1, h2, by omega, h4⟩, h.q⟩
theorem TabIs.farM {w w' : World} {T M : Nat} {l : List En} (h : TabIs w T l) {es : Array MapEntry} {c : Nat} (hb : w.heap[M]? = some (.map es c)) (g : w.grownBy w' (some M)) : TabIs w' T l := by
  obtain ⟨v, h1, h2⟩ := h.blk
  refine ⟨v, (g.block T (Array.getElem?_eq_some_iff.1 h1).1 (fun e => by have e' : T = M := (by simpa using e); rw [e', hb] at h1; simp at h1)).trans h1, h2.kept g ?_⟩
  rcases h2.2 with ⟨rfl, _⟩ | ⟨gg, cap, cur, rfl, _, hg, _⟩
  · exact .inl rfl
  · refine .inr fun e => ?_
    have e' : gg = M := by simpa [Value.ownBlock] using e
    rw [e', hb] at hg; simp at hg
theorem LngI.put {w : World} {T F A M : Nat} {k : Int} {i i' : Nat} {l : List En} {D D' : DataW Unit} {wr w5 : World} (h : LngI w T F A M k i l D wr) (hown : w5.ownsMap Tryd.prog 9 (plainElem Tryd.prog 3) M i' D') (hg : wr.grownBy w5 (some M)) (hF : F ≠ M) (hA : A ≠ M) (hM : w.heap.size ≤ M) : LngI w T F A M k i' l D' w5 := by
  obtain ⟨es, c, hm, _⟩ := h.map
  exact ⟨h.tab.farM hm hg, hg.cell h.fol (by simpa using hF), hg.cell h.at0 (by simpa using hA), hg.cell h.at1 (by simpa using hA), hg.cell h.at2 (by simpa using hA), hg.cell h.at3 (by simpa using hA), hown, h.q.grown hg h.q.size (fun b hb => by cases hb; exact hM)⟩
theorem LngI.app {w : World} {T F A M : Nat} {k : Int} {i : Nat} {l l' : List En} {D : DataW Unit} {wr w7 : World} (h : LngI w T F A M k i l D wr) (t : TabIs w7 T l') (hg : wr.grownBy w7 (some T)) (hF : F ≠ T) (hA : A ≠ T) (hM : M ≠ T) (hT : w.heap.size ≤ T) : LngI w T F A M k i l' D w7 :=
  ⟨t, hg.cell h.fol (by simpa using hF), hg.cell h.at0 (by simpa using hA), hg.cell h.at1 (by simpa using hA), hg.cell h.at2 (by simpa using hA), hg.cell h.at3 (by simpa using hA), h.map.kept hg (by simpa using hM), h.q.grown hg h.q.size (fun b hb => by cases hb; exact hT)⟩
theorem ops_one (W : World) (B : Nat) (o : OpD) (hB : B = W.heap.size) : OpsIn (W.alloc (.cells #[.int .i64 o.kind, .int .i64 o.table, .string o.key, .string o.val] 47)) (some ⟨B, 0, none⟩) [o] := fun _ => by
  subst hB
  refine ⟨W.heap.size, 0, rfl, by simp, ?_⟩
  refine ⟨fun j hj => ?_, fun j hj => ?_, fun j hj => ?_, fun j hj => ?_⟩
  all_goals
    obtain rfl : j = 0 := by simpa using hj
    simp
theorem atBytes {w : World} {T F A M : Nat} (k : Int) {i : Nat} {l : List En} {D : DataW Unit} {wr : World} (h : LngI w T F A M k i l D wr) : ∀ j, j < 4 → wr.cell? ⟨A, j, none⟩ = some (.int .u8 (bt (baOf [10, k / 65536 % 8, k / 256 % 256, k % 256]) j)) := fun j hj => by
  match j, hj with
  | 0, _ => rw [bt_baOf _ 0 (by simp) (by simp)]; exact h.at0
  | 1, _ => rw [bt_baOf _ 1 (by simp) (by simp; omega)]; exact h.at1
  | 2, _ => rw [bt_baOf _ 2 (by simp) (by simp; omega)]; exact h.at2
  | 3, _ => rw [bt_baOf _ 3 (by simp) (by simp; omega)]; exact h.at3
theorem lng_start (w : World) (k : Int) : LngI w w.heap.size (w.heap.size + 1) (w.heap.size + 1 + 1) (w.heap.size + 1 + 1 + 1) k 0 [] (.map []) ((((w.alloc (.cells #[.slice none 0 0] 92)).alloc (.cells #[.pointer (some ⟨w.heap.size, 0, none⟩)] 81)).alloc (.cells #[.int .u8 10, .int .u8 (k / 65536 % 8), .int .u8 (k / 256 % 256), .int .u8 (k % 256)] 5)).alloc (.map #[] 0)) := by
  have q3 := below_alloc ((w.alloc (.cells #[.slice none 0 0] 92)).alloc (.cells #[.pointer (some ⟨w.heap.size, 0, none⟩)] 81)) (.cells #[.int .u8 10, .int .u8 (k / 65536 % 8), .int .u8 (k / 256 % 256), .int .u8 (k % 256)] 5)
  have q4 := below_alloc (((w.alloc (.cells #[.slice none 0 0] 92)).alloc (.cells #[.pointer (some ⟨w.heap.size, 0, none⟩)] 81)).alloc (.cells #[.int .u8 10, .int .u8 (k / 65536 % 8), .int .u8 (k / 256 % 256), .int .u8 (k % 256)] 5)) (.map #[] 0)
  have q2 := below_alloc (w.alloc (.cells #[.slice none 0 0] 92)) (.cells #[.pointer (some ⟨w.heap.size, 0, none⟩)] 81)
  have q34 := below_trans q3 q4
  have t1 : TabIs (w.alloc (.cells #[.slice none 0 0] 92)) w.heap.size [] := ⟨_, heap_alloc_new _ _, World.ownsRow_nil _ _ _ _⟩
  refine ⟨(t1.keep q2).keep q34, ?_, ?_, ?_, ?_, ?_, ?_, below_trans (below_trans (below_alloc _ _) q2) q34⟩
  · exact (q34.cell (p := ⟨w.heap.size + 1, 0, none⟩) (by simp)).trans (World.cell?_alloc_at _ _ _ 0 (by simp))
  · exact (q4.cell (p := ⟨w.heap.size + 1 + 1, 0, none⟩) (by simp)).trans (World.cell?_alloc_at _ _ _ 0 (by simp))
  · exact (q4.cell (p := ⟨w.heap.size + 1 + 1, 1, none⟩) (by simp)).trans (World.cell?_alloc_at _ _ _ 1 (by simp))
  · exact (q4.cell (p := ⟨w.heap.size + 1 + 1, 2, none⟩) (by simp)).trans (World.cell?_alloc_at _ _ _ 2 (by simp))
  · exact (q4.cell (p := ⟨w.heap.size + 1 + 1, 3, none⟩) (by simp)).trans (World.cell?_alloc_at _ _ _ 3 (by simp))
  · have hm := World.ownsMap_made (H := Unit) (((w.alloc (.cells #[.slice none 0 0] 92)).alloc (.cells #[.pointer (some ⟨w.heap.size, 0, none⟩)] 81)).alloc (.cells #[.int .u8 10, .int .u8 (k / 65536 % 8), .int .u8 (k / 256 % 256), .int .u8 (k % 256)] 5)) Tryd.prog 9 (plainElem Tryd.prog 3)
    simpa using hm

set_option maxRecDepth 10000 in
set_option maxHeartbeats 4000000 in
theorem kLongest (ra : Option Addr) (n rc : Nat) (ad : Int) (w : World) (had : -9223372036854775808 ≤ ad ∧ ad ≤ 9223372036854775807) (hn : n ≤ 9223372036854775800) (hr : IntsIn w ra n) (g : Glob w) (he : EtIs w) :
    Calls Tryd.prog 6 #[.slice ra n rc, .int .i64 ad] w fun e w' => e = .returned (.bool true) ∧ Below w.heap.size w w' := by
  have hmm := @run_makeMap Tryd.prog
  go_enter Tryd.func6, Tryd.ntmps6
  go_wp2_with fail
  refine (pFold _).mono ?_
  rintro e w1 ⟨rfl, rfl⟩
  go_wp2_with fail
  refine (kPick ad 16777216 _ had (by decide) (by decide)).mono ?_
  rintro e w1 ⟨k, hk0, hk1, rfl, rfl⟩
  go_wp2_with fail
  have H0 := lng_start w k
  clear hmm
  have hord : w.heap.size < w.heap.size + 1 ∧ w.heap.size + 1 < w.heap.size + 1 + 1 ∧ w.heap.size + 1 + 1 < w.heap.size + 1 + 1 + 1 := by omega
  generalize (((w.alloc (.cells #[.slice none 0 0] 92)).alloc (.cells #[.pointer (some ⟨w.heap.size, 0, none⟩)] 81)).alloc (.cells #[.int .u8 10, .int .u8 (k / 65536 % 8), .int .u8 (k / 256 % 256), .int .u8 (k % 256)] 5)).alloc (.map #[] 0) = W0 at H0 ⊢
  generalize w.heap.size + 1 + 1 + 1 = M at H0 hord ⊢
  generalize w.heap.size + 1 + 1 = A at H0 hord ⊢
  generalize w.heap.size + 1 = F at H0 hord ⊢
  obtain ⟨T, hT⟩ : ∃ T, T = w.heap.size := ⟨_, rfl⟩
  rw [← hT] at hord
  have H1 : LngI w T F A M k 0 [] (.map []) W0 := by rw [hT]; exact H0
  clear H0
  have h2T : 2 < T := by rw [hT]; exact g.lt
  go_loopw [9, 10, 12] (fun bs vl i wr => ∃ (j : Nat) (l : List En) (D : DataW Unit) (best : Int) (value : ByteArray), j ≤ 40 ∧ i = .int .i64 j ∧ bs = .int .i64 best ∧ vl = .string value ∧ LngI w T F A M k j l D wr ∧ Srt l ∧ Ok l ∧ l.length ≤ j ∧ UsedIs D l ∧ BestIs (baOf [10, k / 65536 % 8, k / 256 % 256, k % 256]) l best value)
    (fun _ _ i _ => 40 - (intOf i).toNat)
  case atStart => exact ⟨0, [], .map [], -1, ⟨#[]⟩, by omega, rfl, rfl, rfl, H1, List.Pairwise.nil, fun _ h => absurd h (by simp), by simp, used_nil, best_start _⟩
  case round =>
    obtain ⟨j, l, D, best, value, hj, rfl, rfl, rfl, hI, hs, hok, hll, hu, hbst⟩ := hrel
    by_cases hlt : j < n ∧ j < 40
    · obtain ⟨b, off, rfl, hb, hx⟩ := hr (by omega)
      obtain ⟨x, hx0, hx1, hx2⟩ := hx j hlt.1
      have d0 := (hI.q.cell (p := ⟨b, off + j, none⟩) hb).trans hx0
      have c1 : decide (((j : Nat) : Int) < (n : Int)) = true := by simp; omega
      have c2 : ((j : Nat) : Int) < 40 := by omega
      have c3 : ((j : Nat) : Int) < (n : Int) := by omega
      go_wp2_with fail
      refine (kPick x 1073741824 _ ⟨hx1, hx2⟩ (by decide) (by decide)).mono ?_
      rintro e W2 ⟨c, hc0, hc1, rfl, rfl⟩
      obtain ⟨m, hm⟩ : ∃ m : Nat, c % 33 = (m : Int) := ⟨(c % 33).toNat, by omega⟩
      have hm32 : m ≤ 32 := by omega
      go_wp2_with fail
      have p0 : ∀ i, i < 5 → (W2.alloc (.cells #[.int .u8 10, .int .u8 (c / 33 % 8), .int .u8 (c / 264 % 256), .int .u8 (c / 67584 % 256), .int .u8 (m : Int)] 5)).cell? ⟨W2.heap.size, i, none⟩ = some (.int .u8 (match i with | 0 => 10 | 1 => c / 33 % 8 | 2 => c / 264 % 256 | 3 => c / 67584 % 256 | _ => (m : Int))) := fun i hi => by
        rw [World.cell?_alloc_at _ _ _ i rfl]
        match i, hi with
        | 0, _ => rfl
        | 1, _ => rfl
        | 2, _ => rfl
        | 3, _ => rfl
        | 4, _ => rfl
      rw [hm]
      go_loopw [16] (fun kk w' => ∃ (t : Nat) (bs : Nat → Int), m ≤ t ∧ t ≤ 32 ∧ kk = .int .i64 t ∧ Below W2.heap.size W2 w' ∧ (∀ i, i < 5 → w'.cell? ⟨W2.heap.size, i, none⟩ = some (.int .u8 (bs i))) ∧ (∀ i, w'.frozen? ⟨W2.heap.size, i, none⟩ = false) ∧ (∀ i, 0 ≤ bs i ∧ bs i ≤ 255) ∧ bs 4 = m ∧ ∀ jj, m ≤ jj → jj < t → bit7 (bs (jj / 8)).toNat (jj % 8) = 0)
        (fun kk _ => 32 - (intOf kk).toNat)
      case atStart =>
        refine ⟨m, fun i => (match i with | 0 => 10 | 1 => c / 33 % 8 | 2 => c / 264 % 256 | 3 => c / 67584 % 256 | _ => (m : Int)), Nat.le_refl _, hm32, rfl, below_alloc _ _, p0, fun i => World.frozen?_alloc_at _ _ _ i rfl, fun i => ?_, rfl, fun jj h1 h2 => absurd h1 (by omega)⟩
        match i with
        | 0 => simp
        | 1 => simp; omega
        | 2 => simp; omega
        | 3 => simp; omega
        | i + 4 => simp; omega
      case round =>
        obtain ⟨t, bs, hmt, ht32, rfl, hq2, hcl, hfz, hbs, hb4, hbit⟩ := hrel
        by_cases htl : t < 32
        · obtain ⟨qq, hqq⟩ : ∃ qq, qq = t / 8 := ⟨_, rfl⟩
          obtain ⟨rr, hrr⟩ : ∃ rr, rr = t % 8 := ⟨_, rfl⟩
          have hd8 : (t : Int) / 8 = ((qq : Nat) : Int) := by omega
          have hr8 : (t : Int) % 8 = ((rr : Nat) : Int) := by omega
          have hq4 : qq < 4 := by omega
          have hr7 : rr < 8 := by omega
          have hq5 : ((qq : Nat) : Int) < 5 := by omega
          have hwq : IntKind.i64.wrap ((qq : Nat) : Int) = ((qq : Nat) : Int) := by rw [IntKind.wrap_i64]; omega
          have hwr : IntKind.i64.wrap ((rr : Nat) : Int) = ((rr : Nat) : Int) := by rw [IntKind.wrap_i64]; omega
          have htm : (t : Int).tmod 8 = ((rr : Nat) : Int) := by rw [Int.tmod_eq_emod_of_nonneg (by omega)]; exact hr8
          have hsh := shr8 rr hr7
          have cq := hcl qq (by omega)
          have fq := hfz qq
          have HQ : Hid (qq = t / 8 ∧ rr = t % 8) := ⟨hqq, hrr⟩
          clear hqq hrr
          go_wp2_with fail
          refine region_tail 13 (by kernel_rfl) (by kernel_rfl) ?_
          simp only [List.take_succ_cons, List.take_zero, List.drop_succ_cons, List.drop_zero]
          still_step
          still_step
          still_step
          still_step
          still_step
          still_step
          still_step
          still_step
          still_step
          still_step
          still_step
          still_step
          still_step
          refine wpStill_nil ?_
          go_wp2_with fail
          obtain ⟨bs', n1, n2, n3, n4, n5⟩ := mask_step HQ.out htl hcl hfz hbs hb4 hbit
          go_roundw
          case rel => exact ⟨t + 1, bs', by omega, by omega, by go_num, (hq2.setCell (p := ⟨W2.heap.size, qq, none⟩) (Nat.le_refl _) _).drew, n1, n2, n3, n4, n5⟩
          case measure => simp [intOf]; omega
        · obtain rfl : t = 32 := by omega
          have hcv := sOf_conv hbs hcl
          have hky := sOf_key hbs hm32 hb4 hbit
          have hs5 := sOf_size bs
          have hs4 : bt (sOf bs) 4 = m := (sOf_bt hbs 4 (by omega)).trans hb4
          have hbA := sOf_at hbs hcl
          have hIr := hI.keep hq2
          have hP : W2.heap.size < wr.heap.size := cell_lt (hcl 0 (by omega))
          clear hcl hfz hbs hb4 hbit
          generalize sOf bs = s at *
          have hkey : keyOf Tryd.prog 9 (.string s) = some (.string s.data.toList) := keyOf_string_mk Tryd.underlying9 (by rw [hs5]; unfold maxLen; omega)
          have hown := hIr.map
          rcases hu.2 s with ⟨h0, hno⟩ | h1
          rotate_left
          · go_wp2_with (at_lookup; refine wpList_lookup_own_int _ rfl _ _ 60 rfl 9 3 .i64 kLaw Tryd.underlying60 Tryd.underlying3 (kZero _) M j D rfl hown _ _ rfl hkey ?_; intro cc hat _; rw [h1] at hat; obtain rfl : cc = 1 := (lit_inj hat).symm)
            go_roundw
            case rel => exact ⟨j + 1, l, D, best, value, by omega, by go_num, rfl, rfl, hIr.more, hs, hok, by omega, hu, hbst⟩
            case measure => simp [intOf]; omega
          · have hlt40 : j < maxLen := by unfold maxLen; omega
            go_wp2_with (first | (at_lookup; refine wpList_lookup_own_int _ rfl _ _ 60 rfl 9 3 .i64 kLaw Tryd.underlying60 Tryd.underlying3 (kZero _) M j D rfl hown _ _ rfl hkey ?_; intro cc hat _; rw [h0] at hat; obtain rfl : cc = 0 := (lit_inj hat).symm; clear hat) | (at_mapUpdate; refine wpList_mapUpdate_own _ rfl _ _ _ 60 rfl 9 3 kLaw Tryd.underlying60 _ M j D rfl hown hlt40 _ _ _ rfl rfl hkey _ [] (plainElem_int Tryd.underlying3 (by decide)) ?_; intro w5 hown5 hgrow5; have hstr := str4 w5 j (by omega); have hPM : W2.heap.size ≠ M := (by have h := hI.map.lt; omega); have hb5 := hbA.grown hPM hgrow5; have hcv5 : ∀ x, (convert 34 9 (.slice (some ⟨W2.heap.size, 0, none⟩) 5 5)).run Tryd.prog (w5.alloc x) = .ok (.string s) (w5.alloc x) := fun x => str5 hs5 (hb5.keep (below_alloc _ _)); clear hcv))
            have hI5 := hIr.put hown5 hgrow5 (by omega) (by omega) (by omega)
            have q56 : Below w5.heap.size w5 ((w5.alloc (.cells #[.int .u8 1, .int .u8 (j : Int), .int .u8 2, .int .u8 3] 5)).alloc (.cells #[.int .i64 1, .int .i64 1, .string s, .string (baOf [1, (j : Int), 2, 3])] 47)) := below_trans (below_alloc _ _) (below_alloc _ _)
            have hI6 := hI5.keep q56
            have ho6 : OpsIn ((w5.alloc (.cells #[.int .u8 1, .int .u8 (j : Int), .int .u8 2, .int .u8 3] 5)).alloc (.cells #[.int .i64 1, .int .i64 1, .string s, .string (baOf [1, (j : Int), 2, 3])] 47)) (some ⟨w5.heap.size + 1, 0, none⟩) [⟨1, 1, s, baOf [1, (j : Int), 2, 3]⟩] := ops_one _ _ ⟨1, 1, s, baOf [1, (j : Int), 2, 3]⟩ (by simp)
            have hb6 := hb5.keep q56
            have hP5 : W2.heap.size < w5.heap.size := Nat.lt_of_lt_of_le hP hgrow5.size
            have hwD := wrongD_one hky (val_i (j : Int))
            refine (fApply F T l 1 _ 1 [⟨1, 1, s, baOf [1, (j : Int), 2, 3]⟩] _ hI6.fol hI6.tab (by decide) (Nat.le_refl _) ho6 (g.keep hI6.q) (he.keep hI6.q) h2T hs (by omega)).mono ?_
            rw [hwD]
            rintro e w7 ⟨rfl, t7, g7⟩
            have ea : aftD l 1 [⟨1, 1, s, baOf [1, (j : Int), 2, 3]⟩] = put ⟨1, s, baOf [1, (j : Int), 2, 3]⟩ l := by unfold aftD; rw [if_pos (by rw [hwD])]; rfl
            rw [ea] at t7
            have hTP : W2.heap.size ≠ T := by have := hI.tab.lt; omega
            have hI7 := hI6.app t7 g7 (by omega) (by omega) (by omega) (by omega)
            have hb7 := hb6.grown hTP g7
            clear hI5 q56 hI6 ho6 hb6 hP5 ea t7 g7 hb5 hstr hcv5 hgrow5 hown5 hbA hIr hown
            go_wp2_with fail
            obtain ⟨a, ha⟩ : ∃ a, a = baOf [10, k / 65536 % 8, k / 256 % 256, k % 256] := ⟨_, rfl⟩
            have hbt := atBytes k hI7
            rw [← ha] at hbt
            have hbst' : BestIs a l best value := by rw [ha]; exact hbst
            have HAA : Hid (a = baOf [10, k / 65536 % 8, k / 256 % 256, k % 256]) := ha
            clear ha hbst
            have hI8 := hI7.keep (below_alloc w7 (.cells #[.int .i64 0, .int .i64 0, .int .i64 0] 39))
            have hb8 := hb7.keep (below_alloc w7 (.cells #[.int .i64 0, .int .i64 0, .int .i64 0] 39))
            have ha8 : ∀ i, i < 4 → (w7.alloc (.cells #[.int .i64 0, .int .i64 0, .int .i64 0] 39)).cell? ⟨A, i, none⟩ = some (.int .u8 (bt a i)) := fun i hi => ((below_alloc w7 _).cell (p := ⟨A, i, none⟩) (show A < w7.heap.size from cell_lt hI7.at0)).trans (hbt i hi)
            have hAlt : A < (w7.alloc (.cells #[.int .i64 0, .int .i64 0, .int .i64 0] 39)).heap.size := cell_lt hI8.at0
            have hPlt : W2.heap.size < (w7.alloc (.cells #[.int .i64 0, .int .i64 0, .int .i64 0] 39)).heap.size := cell_lt (hb8 0 (by omega))
            clear hI7 hb7 hbt
            generalize w7.alloc (.cells #[.int .i64 0, .int .i64 0, .int .i64 0] 39) = W8 at *
            go_loopw [19, 20] (fun hv kk w' => ∃ t : Nat, t ≤ m ∧ kk = .int .i64 t ∧ hv = .bool (decide (numN s / 2 ^ (32 - t) = numN a / 2 ^ (32 - t))) ∧ Below W8.heap.size W8 w')
              (fun _ kk _ => 32 - (intOf kk).toNat)
            case atStart => exact ⟨0, Nat.zero_le _, rfl, by rw [pre_zero], Below.refl _ _⟩
            case round =>
              obtain ⟨t, htm, rfl, rfl, hq9⟩ := hrel
              by_cases htl : t < m
              · obtain ⟨qq, hqq⟩ : ∃ qq, qq = t / 8 := ⟨_, rfl⟩
                obtain ⟨rr, hrr⟩ : ∃ rr, rr = t % 8 := ⟨_, rfl⟩
                have hd8 : (t : Int) / 8 = ((qq : Nat) : Int) := by omega
                have hr8 : (t : Int) % 8 = ((rr : Nat) : Int) := by omega
                have hq4 : qq < 4 := by omega
                have hr7 : rr < 8 := by omega
                have hq5 : ((qq : Nat) : Int) < 5 := by omega
                have hq4' : ((qq : Nat) : Int) < 4 := by omega
                have hwq : IntKind.i64.wrap ((qq : Nat) : Int) = ((qq : Nat) : Int) := by rw [IntKind.wrap_i64]; omega
                have htmd : (t : Int).tmod 8 = ((rr : Nat) : Int) := by rw [Int.tmod_eq_emod_of_nonneg (by omega)]; exact hr8
                have hsh := shr8 rr hr7
                have cp := (hq9.cell (p := ⟨W2.heap.size, qq, none⟩) hPlt).trans (hb8 qq (by omega))
                have ca := (hq9.cell (p := ⟨A, qq, none⟩) hAlt).trans (ha8 qq hq4)
                have hlt32 : t < 32 := by omega
                have hkm : ((t : Nat) : Int) < (m : Int) := by omega
                have HP : Hid (decide (numN s / 2 ^ (32 - (t + 1)) = numN a / 2 ^ (32 - (t + 1))) = (decide (numN s / 2 ^ (32 - t) = numN a / 2 ^ (32 - t)) && (bits .and .u8 (bits .xor .u8 (bt s qq) (bt a qq)) ((128 / 2 ^ rr : Nat) : Int) == 0))) := by
                  have e1 := bit_num s t hlt32
                  have e2 := bit_num a t hlt32
                  have b1 := bt_lo s (t / 8)
                  have b2 := bt_lo a (t / 8)
                  have e3 := test_bit (bt s (t / 8)).toNat (bt a (t / 8)).toNat (t % 8) (by omega) (by omega) (by omega)
                  rw [Int.toNat_of_nonneg b1.1, Int.toNat_of_nonneg b2.1, e1, e2] at e3
                  show _ = _
                  rw [pre_dec _ _ _ hlt32, hqq, hrr, e3]
                clear hqq hrr
                generalize decide (numN s / 2 ^ (32 - t) = numN a / 2 ^ (32 - t)) = hd at *
                cases hd
                · go_wp2_with fail
                  go_quiet (fail)
                  go_wp2_with fail
                  go_roundw
                  case rel => exact ⟨t + 1, by omega, by go_num, by rw [HP.out]; rfl, below_trans hq9 (below_drawn _ _)⟩
                  case measure => simp [intOf]; omega
                · go_wp2_with fail
                  go_quiet (fail)
                  go_wp2_with fail
                  go_roundw
                  case rel => exact ⟨t + 1, by omega, by go_num, by rw [HP.out, ← cast128]; rfl, below_trans hq9 (below_drawn _ _)⟩
                  case measure => simp [intOf]; omega
              · obtain rfl : t = m := by omega
                have hB := best_put (v := baOf [1, (j : Int), 2, 3]) hbst' hs4 hm32 hno
                have hu' := used_put hu s (baOf [1, (j : Int), 2, 3])
                have hs' : Srt (put ⟨1, s, baOf [1, (j : Int), 2, 3]⟩ l) := put_srt hs
                have hok' : Ok (put ⟨1, s, baOf [1, (j : Int), 2, 3]⟩ l) := fun e hm => by
                  rcases put_mem hm with rfl | hm
                  · exact ⟨rfl, hky, val_i _⟩
                  · exact hok e hm
                have hl' := put_length ⟨1, s, baOf [1, (j : Int), 2, 3]⟩ l
                have hI9 := hI8.keep hq9
                rw [HAA.out] at hB
                rw [HAA.out]
                have hnm : ¬ ((t : Nat) : Int) < (t : Int) := by omega
                generalize decide (numN s / 2 ^ (32 - t) = numN (baOf [10, k / 65536 % 8, k / 256 % 256, k % 256]) / 2 ^ (32 - t)) = hd at *
                have HB : Hid (BestIs (baOf [10, k / 65536 % 8, k / 256 % 256, k % 256]) (put ⟨1, s, baOf [1, (j : Int), 2, 3]⟩ l) (if (hd && decide (best < (t : Int))) = true then (t : Int) else best) (if (hd && decide (best < (t : Int))) = true then baOf [1, (j : Int), 2, 3] else value)) := hB
                clear hB
                cases hd
                · go_wp2_with fail
                  go_roundw
                  case rel => exact ⟨j + 1, _, _, best, value, by omega, by go_num, rfl, rfl, hI9, hs', hok', by omega, hu', by have h := HB.out; simpa using h⟩
                  case measure => simp [intOf]; omega
                · by_cases hbm : best < (t : Int)
                  · go_wp2_with fail
                    go_roundw
                    case rel => exact ⟨j + 1, _, _, (t : Int), baOf [1, (j : Int), 2, 3], by omega, by go_num, rfl, rfl, hI9, hs', hok', by omega, hu', by have h := HB.out; simpa [hbm] using h⟩
                    case measure => simp [intOf]; omega
                  · go_wp2_with fail
                    go_roundw
                    case rel => exact ⟨j + 1, _, _, best, value, by omega, by go_num, rfl, rfl, hI9, hs', hok', by omega, hu', by have h := HB.out; simpa [hbm] using h⟩
                    case measure => simp [intOf]; omega
    · have hcva : (convert 34 9 (.slice (some ⟨A, 0, none⟩) 4 4)).run Tryd.prog wr = .ok (.string (baOf [10, k / 65536 % 8, k / 256 % 256, k % 256])) wr := str_whole (baOf [10, k / 65536 % 8, k / 256 % 256, k % 256]) A 4 wr (fun i hi => atBytes k hI i (by rw [baOf_size] at hi; exact hi))
      obtain ⟨be1, be2⟩ := best_end hbst hs hok
      have HE : Hid ((rtTo (baOf [10, k / 65536 % 8, k / 256 % 256, k % 256]) l 32).isSome = decide (0 ≤ best) ∧ (rtTo (baOf [10, k / 65536 % 8, k / 256 % 256, k % 256]) l 32).getD ⟨#[]⟩ = value) := ⟨be1, be2⟩
      clear be1 be2
      have hfol := hI.fol
      by_cases h1 : j < n
      · have c1 : decide (((j : Nat) : Int) < (n : Int)) = true := by simp; omega
        have c2 : ¬ ((j : Nat) : Int) < 40 := by omega
        have c3 : ((j : Nat) : Int) < (n : Int) := by omega
        go_wp2_with fail
        refine (fRoute F T l _ _ hI.fol hI.tab hs (by omega) (baOf_size _)).mono ?_
        rw [HE.out.1, HE.out.2]
        rintro e w9 ⟨rfl, q9⟩
        go_wp2_with fail
        go_ret
        exact ⟨rfl, below_trans hI.q q9⟩
      · have c1 : decide (((j : Nat) : Int) < (n : Int)) = false := by simp; omega
        go_wp2_with fail
        refine (fRoute F T l _ _ hI.fol hI.tab hs (by omega) (baOf_size _)).mono ?_
        rw [HE.out.1, HE.out.2]
        rintro e w9 ⟨rfl, q9⟩
        go_wp2_with fail
        go_ret
        exact ⟨rfl, below_trans hI.q q9⟩
end Go.Proofs.YtindifjhocgkbaaDoor
