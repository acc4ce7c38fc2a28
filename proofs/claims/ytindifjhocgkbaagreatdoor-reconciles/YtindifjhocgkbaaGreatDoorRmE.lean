import Derived.Test.YtindifjhocgkbaaGreatDoorRmD
namespace Go.Proofs.YtindifjhocgkbaaGreatDoor
attribute [local go_sem ↓] Go.wp_at_zero Go.wp_at_succ
open Go.RowKit Go.ChangeMaps Go.MapKept Go.WideShapes Go.WideMaps
open Go.Maps (Keyed)
/-- May an entry be put? -/
def fits (r : Nat → Int) (l : List En) (e : En) : Bool := fnd e.t e.k l || decide ((cntM e.t l : Int) < roomOf r e.t)
def noS : ByteArray := ⟨#[110, 111, 32, 114, 111, 111, 109]⟩
set_option maxRecDepth 100000 in
set_option maxHeartbeats 3200000 in
theorem hPut (n0 H M : Nat) (r : Nat → Int) (l : List En) (log : List ByteArray) (left : Int) (dead : Bool) (W : World) (h : HostI n0 H M r l log left dead W) (h0 : -1 ≤ left) (h1 : left ≤ 1000000) (t : Int) (k v : ByteArray) (hs : Srt l) (hk : ∀ e ∈ l, KOk e) (ho : KOk ⟨t, k, v⟩) (hz : k.size ≤ 140737488351232) (hz' : v.size ≤ 140737488351232) (hlg : log.length ≤ 8000000000000) (hn : l.length ≤ 1000000) :
    Calls Tryz.prog 60 #[dpV H, keyV t k, .string v] W fun e W' => e = .returned (.tuple #[]) ∧ HostI n0 H M r (if dead || decide (left = 0) then l else if fits r l ⟨t, k, v⟩ then put ⟨t, k, v⟩ l else l) (if dead || decide (left = 0) then log else if fits r l ⟨t, k, v⟩ then log ++ [putT ⟨t, k, v⟩] else log ++ [putT ⟨t, k, v⟩] ++ [noS]) (leftN left) (dead || decide (left = 0)) W' ∧ HW n0 M W W' := by
  have b1 : ((W.alloc (.cells #[.pointer (some ⟨H, 0, none⟩)] 123)).alloc (.cells #[.int .i64 t, .string k] 83)).heap[W.heap.size]? = some (.cells #[.pointer (some ⟨H, 0, none⟩)] 123 (0, 0)) :=
    ((MapKept.heap_alloc _ _).2 _ (by simp)).trans (MapKept.heap_alloc W _).1
  have b2 : ((W.alloc (.cells #[.pointer (some ⟨H, 0, none⟩)] 123)).alloc (.cells #[.int .i64 t, .string k] 83)).heap[W.heap.size + 1]? = some (.cells #[.int .i64 t, .string k] 83 (0, 0)) := by
    have := (MapKept.heap_alloc (W.alloc (.cells #[.pointer (some ⟨H, 0, none⟩)] 123)) (.cells #[.int .i64 t, .string k] 83)).1
    simpa using this
  have qa := below_trans (below_alloc W (.cells #[.pointer (some ⟨H, 0, none⟩)] 123)) (below_alloc _ (.cells #[.int .i64 t, .string k] 83))
  have ka := h.keep qa
  have wa := HW.below (M := M) qa h.n0
  obtain ⟨d, hd⟩ : ∃ d, (dead || decide (left = 0)) = d := ⟨_, rfl⟩
  obtain ⟨ff, hff⟩ : ∃ ff, fits r l ⟨t, k, v⟩ = ff := ⟨_, rfl⟩
  rw [hd, hff]
  go_enter Tryz.func60, Tryz.ntmps60
  go_wp2_with fail
  generalize (W.alloc (.cells #[.pointer (some ⟨H, 0, none⟩)] 123)).alloc (.cells #[.int .i64 t, .string k] 83) = W1 at *
  generalize W.heap.size + 1 = K at *
  generalize W.heap.size = P at *
  refine (hStopped n0 H M r l log left dead W1 ka h0 h1).mono ?_
  rintro e W2 ⟨rfl, k2, w2⟩
  have b1' := w2.1.far _ _ _ _ b1 (by decide) (by decide)
  have b2' := w2.1.far _ _ _ _ b2 (by decide) (by decide)
  have hw := wa.trans w2
  clear b1 b2 ka wa w2 h qa
  rw [hd] at k2 ⊢
  clear hd
  cases d
  case true =>
    go_wp2_with fail
    refine bodyPost_ret (results_none rfl _ _ _) rfl ?_
    exact ⟨rfl, by simpa using k2, hw⟩
  case false =>
    obtain ⟨vl, c11, hol⟩ := k2.log_cell
    have f11 := k2.cells.2.2.2 11
    have p0 : W2.cell? ⟨P, 0, none⟩ = some (.pointer (some ⟨H, 0, none⟩)) := by simp [World.cell?, b1']
    have x0 : W2.cell? ⟨K, 0, none⟩ = some (.int .i64 t) := by simp [World.cell?, b2']
    have x1 : W2.cell? ⟨K, 1, none⟩ = some (.string k) := by simp [World.cell?, b2']
    obtain ⟨i0, hi0, hz0, hz1, hz2⟩ := info_parts Tryz.infoStr
    have aP := ownS_ne hol b1' (by decide)
    have aK := ownS_ne hol b2' (by decide)
    have aH := k2.own_neH c11
    have lP := cell_lt p0
    have lK := cell_lt x0
    have lH := k2.ltH
    have hn0 := k2.n0
    have fz : ∀ a b, ((W2.alloc a).alloc b).drew.frozen? ⟨H, 11, none⟩ = false := fun a b => (World.frozen?_of_block ((below_trans (below_alloc W2 a) (below_alloc _ b)).block H lH)).trans f11
    have hsz1 : ¬ (9223372036854775807 < 5 + k.size) := by omega
    have hsz2 : ¬ (9223372036854775807 < 5 + k.size + 1) := by omega
    have hsz3 : ¬ (9223372036854775807 < 5 + k.size + 1 + v.size) := by omega
    have hst := str1' (t % 256) (Int.emod_nonneg _ (by decide)) (Int.emod_lt_of_pos _ (by decide))
    have hwx : IntKind.u8.wrap t = t % 256 := by simp [IntKind.wrap, IntKind.bits, IntKind.signed]
    go_wp2_with fail
    refine wp_region_noPanic ?_
    refine region_cut (S := fun w' => w'.cell? ⟨P, 0, none⟩ = some (.pointer (some ⟨H, 0, none⟩)) ∧ w'.cell? ⟨K, 0, none⟩ = some (.int .i64 t) ∧ w'.cell? ⟨K, 1, none⟩ = some (.string k) ∧ w'.cell? ⟨H, 11, none⟩ = some vl) 21 (by kernel_rfl) (by kernel_rfl) (by kernel_rfl) (by kernel_rfl) (by decide) ⟨p0, x0, x1, c11⟩ (fun hHeld => ?_)
    simp only [List.drop_succ_cons, List.drop_zero]
    repeat (first | (refine WT_take (i := 0) (v := ?_) rfl (by decide) (by decide +kernel) (by decide +kernel) (fun _ _ _ h => h) (Or.inl ⟨by rfl, ?_⟩) (by assumption) ?_; rotate_left 1; (focus (intro w hSw; (try dsimp only at hSw); go_simp; (try with_reducible rfl); done)); (try simp only [Act.put, List.getElem_toArray, List.getElem_cons_zero, List.setIfInBounds_toArray, List.set_cons_zero, List.set_cons_succ])) | (refine WT_take (i := 1) (v := ?_) rfl (by decide) (by decide +kernel) (by decide +kernel) (fun _ _ _ h => h) (Or.inl ⟨by rfl, ?_⟩) (by assumption) ?_; rotate_left 1; (focus (intro w hSw; (try dsimp only at hSw); go_simp; (try with_reducible rfl); done)); (try simp only [Act.put, List.getElem_toArray, List.getElem_cons_zero, List.getElem_cons_succ, List.setIfInBounds_toArray, List.set_cons_zero, List.set_cons_succ])) | (refine WT_take (i := 2) (v := ?_) rfl (by decide) (by decide +kernel) (by decide +kernel) (fun _ _ _ h => h) (Or.inl ⟨by rfl, ?_⟩) (by assumption) ?_; rotate_left 1; (focus (intro w hSw; (try dsimp only at hSw); go_simp; (try with_reducible rfl); done)); (try simp only [Act.put, List.getElem_toArray, List.getElem_cons_zero, List.getElem_cons_succ, List.setIfInBounds_toArray, List.set_cons_zero, List.set_cons_succ])) | (refine WT_take (i := 3) (v := ?_) rfl (by decide) (by decide +kernel) (by decide +kernel) (fun _ _ _ h => h) (Or.inl ⟨by rfl, ?_⟩) (by assumption) ?_; rotate_left 1; (focus (intro w hSw; (try dsimp only at hSw); go_simp; (try with_reducible rfl); done)); (try simp only [Act.put, List.getElem_toArray, List.getElem_cons_zero, List.getElem_cons_succ, List.setIfInBounds_toArray, List.set_cons_zero, List.set_cons_succ])) | (refine WT_take (i := 4) (v := ?_) rfl (by decide) (by decide +kernel) (by decide +kernel) (fun _ _ _ h => h) (Or.inl ⟨by rfl, ?_⟩) (by assumption) ?_; rotate_left 1; (focus (intro w hSw; (try dsimp only at hSw); go_simp; (try with_reducible rfl); done)); (try simp only [Act.put, List.getElem_toArray, List.getElem_cons_zero, List.getElem_cons_succ, List.setIfInBounds_toArray, List.set_cons_zero, List.set_cons_succ])) | (refine WT_take (i := 5) (v := ?_) rfl (by decide) (by decide +kernel) (by decide +kernel) (fun _ _ _ h => h) (Or.inl ⟨by rfl, ?_⟩) (by assumption) ?_; rotate_left 1; (focus (intro w hSw; (try dsimp only at hSw); go_simp; (try with_reducible rfl); done)); (try simp only [Act.put, List.getElem_toArray, List.getElem_cons_zero, List.getElem_cons_succ, List.setIfInBounds_toArray, List.set_cons_zero, List.set_cons_succ])) | (refine WT_take (i := 6) (v := ?_) rfl (by decide) (by decide +kernel) (by decide +kernel) (fun _ _ _ h => h) (Or.inl ⟨by rfl, ?_⟩) (by assumption) ?_; rotate_left 1; (focus (intro w hSw; (try dsimp only at hSw); go_simp; (try with_reducible rfl); done)); (try simp only [Act.put, List.getElem_toArray, List.getElem_cons_zero, List.getElem_cons_succ, List.setIfInBounds_toArray, List.set_cons_zero, List.set_cons_succ])) | (refine WT_take (i := 7) (v := ?_) rfl (by decide) (by decide +kernel) (by decide +kernel) (fun _ _ _ h => h) (Or.inl ⟨by rfl, ?_⟩) (by assumption) ?_; rotate_left 1; (focus (intro w hSw; (try dsimp only at hSw); go_simp; (try with_reducible rfl); done)); (try simp only [Act.put, List.getElem_toArray, List.getElem_cons_zero, List.getElem_cons_succ, List.setIfInBounds_toArray, List.set_cons_zero, List.set_cons_succ])) | (refine WT_take (i := 8) (v := ?_) rfl (by decide) (by decide +kernel) (by decide +kernel) (fun _ _ _ h => h) (Or.inl ⟨by rfl, ?_⟩) (by assumption) ?_; rotate_left 1; (focus (intro w hSw; (try dsimp only at hSw); go_simp; (try with_reducible rfl); done)); (try simp only [Act.put, List.getElem_toArray, List.getElem_cons_zero, List.getElem_cons_succ, List.setIfInBounds_toArray, List.set_cons_zero, List.set_cons_succ])) | (refine WT_take (i := 9) (v := ?_) rfl (by decide) (by decide +kernel) (by decide +kernel) (fun _ _ _ h => h) (Or.inl ⟨by rfl, ?_⟩) (by assumption) ?_; rotate_left 1; (focus (intro w hSw; (try dsimp only at hSw); go_simp; (try with_reducible rfl); done)); (try simp only [Act.put, List.getElem_toArray, List.getElem_cons_zero, List.getElem_cons_succ, List.setIfInBounds_toArray, List.set_cons_zero, List.set_cons_succ])) | (refine WT_take (i := 10) (v := ?_) rfl (by decide) (by decide +kernel) (by decide +kernel) (fun _ _ _ h => h) (Or.inl ⟨by rfl, ?_⟩) (by assumption) ?_; rotate_left 1; (focus (intro w hSw; (try dsimp only at hSw); go_simp; (try with_reducible rfl); done)); (try simp only [Act.put, List.getElem_toArray, List.getElem_cons_zero, List.getElem_cons_succ, List.setIfInBounds_toArray, List.set_cons_zero, List.set_cons_succ])) | (refine WT_take (i := 11) (v := ?_) rfl (by decide) (by decide +kernel) (by decide +kernel) (fun _ _ _ h => h) (Or.inl ⟨by rfl, ?_⟩) (by assumption) ?_; rotate_left 1; (focus (intro w hSw; (try dsimp only at hSw); go_simp; (try with_reducible rfl); done)); (try simp only [Act.put, List.getElem_toArray, List.getElem_cons_zero, List.getElem_cons_succ, List.setIfInBounds_toArray, List.set_cons_zero, List.set_cons_succ])) | (refine WT_take (i := 12) (v := ?_) rfl (by decide) (by decide +kernel) (by decide +kernel) (fun _ _ _ h => h) (Or.inl ⟨by rfl, ?_⟩) (by assumption) ?_; rotate_left 1; (focus (intro w hSw; (try dsimp only at hSw); go_simp; (try with_reducible rfl); done)); (try simp only [Act.put, List.getElem_toArray, List.getElem_cons_zero, List.getElem_cons_succ, List.setIfInBounds_toArray, List.set_cons_zero, List.set_cons_succ])) | (refine WT_take (i := 13) (v := ?_) rfl (by decide) (by decide +kernel) (by decide +kernel) (fun _ _ _ h => h) (Or.inl ⟨by rfl, ?_⟩) (by assumption) ?_; rotate_left 1; (focus (intro w hSw; (try dsimp only at hSw); go_simp; (try with_reducible rfl); done)); (try simp only [Act.put, List.getElem_toArray, List.getElem_cons_zero, List.getElem_cons_succ, List.setIfInBounds_toArray, List.set_cons_zero, List.set_cons_succ])) | (refine WT_take (i := 14) (v := ?_) rfl (by decide) (by decide +kernel) (by decide +kernel) (fun _ _ _ h => h) (Or.inl ⟨by rfl, ?_⟩) (by assumption) ?_; rotate_left 1; (focus (intro w hSw; (try dsimp only at hSw); go_simp; (try with_reducible rfl); done)); (try simp only [Act.put, List.getElem_toArray, List.getElem_cons_zero, List.getElem_cons_succ, List.setIfInBounds_toArray, List.set_cons_zero, List.set_cons_succ])) | (refine WT_take (i := 15) (v := ?_) rfl (by decide) (by decide +kernel) (by decide +kernel) (fun _ _ _ h => h) (Or.inl ⟨by rfl, ?_⟩) (by assumption) ?_; rotate_left 1; (focus (intro w hSw; (try dsimp only at hSw); go_simp; (try with_reducible rfl); done)); (try simp only [Act.put, List.getElem_toArray, List.getElem_cons_zero, List.getElem_cons_succ, List.setIfInBounds_toArray, List.set_cons_zero, List.set_cons_succ])) | (refine WT_take (i := 16) (v := ?_) rfl (by decide) (by decide +kernel) (by decide +kernel) (fun _ _ _ h => h) (Or.inl ⟨by rfl, ?_⟩) (by assumption) ?_; rotate_left 1; (focus (intro w hSw; (try dsimp only at hSw); go_simp; (try with_reducible rfl); done)); (try simp only [Act.put, List.getElem_toArray, List.getElem_cons_zero, List.getElem_cons_succ, List.setIfInBounds_toArray, List.set_cons_zero, List.set_cons_succ])) | (refine WT_take (i := 17) (v := ?_) rfl (by decide) (by decide +kernel) (by decide +kernel) (fun _ _ _ h => h) (Or.inl ⟨by rfl, ?_⟩) (by assumption) ?_; rotate_left 1; (focus (intro w hSw; (try dsimp only at hSw); go_simp; (try with_reducible rfl); done)); (try simp only [Act.put, List.getElem_toArray, List.getElem_cons_zero, List.getElem_cons_succ, List.setIfInBounds_toArray, List.set_cons_zero, List.set_cons_succ])) | (refine WT_take (i := 18) (v := ?_) rfl (by decide) (by decide +kernel) (by decide +kernel) (fun _ _ _ h => h) (Or.inl ⟨by rfl, ?_⟩) (by assumption) ?_; rotate_left 1; (focus (intro w hSw; (try dsimp only at hSw); go_simp; (try with_reducible rfl); done)); (try simp only [Act.put, List.getElem_toArray, List.getElem_cons_zero, List.getElem_cons_succ, List.setIfInBounds_toArray, List.set_cons_zero, List.set_cons_succ])) | (refine WT_take (i := 19) (v := ?_) rfl (by decide) (by decide +kernel) (by decide +kernel) (fun _ _ _ h => h) (Or.inl ⟨by rfl, ?_⟩) (by assumption) ?_; rotate_left 1; (focus (intro w hSw; (try dsimp only at hSw); go_simp; (try with_reducible rfl); done)); (try simp only [Act.put, List.getElem_toArray, List.getElem_cons_zero, List.getElem_cons_succ, List.setIfInBounds_toArray, List.set_cons_zero, List.set_cons_succ])) | (refine WT_take (i := 20) (v := ?_) rfl (by decide) (by decide +kernel) (by decide +kernel) (fun _ _ _ h => h) (Or.inl ⟨by rfl, ?_⟩) (by assumption) ?_; rotate_left 1; (focus (intro w hSw; (try dsimp only at hSw); go_simp; (try with_reducible rfl); done)); (try simp only [Act.put, List.getElem_toArray, List.getElem_cons_zero, List.getElem_cons_succ, List.setIfInBounds_toArray, List.set_cons_zero, List.set_cons_succ])))
    refine WT_one (i := 10) (by kernel_rfl) (by decide) rfl (fun KK hK => ?_)
    go_simp
    refine hK.out _ _ ?_ (fun hHeld => ?_)
    · go_keep
    clear hK KK
    refine WT_one (i := 11) (by kernel_rfl) (by decide) rfl (fun KK hK => ?_)
    go_simp
    refine hK.out _ _ ?_ (fun hHeld => ?_)
    · go_keep
    clear hK KK
    repeat (first | (refine WT_take (i := 0) (v := ?_) rfl (by decide) (by decide +kernel) (by decide +kernel) (fun _ _ _ h => h) (Or.inl ⟨by rfl, ?_⟩) (by assumption) ?_; rotate_left 1; (focus (intro w hSw; (try dsimp only at hSw); go_simp; (try with_reducible rfl); done)); (try simp only [Act.put, List.getElem_toArray, List.getElem_cons_zero, List.setIfInBounds_toArray, List.set_cons_zero, List.set_cons_succ])) | (refine WT_take (i := 1) (v := ?_) rfl (by decide) (by decide +kernel) (by decide +kernel) (fun _ _ _ h => h) (Or.inl ⟨by rfl, ?_⟩) (by assumption) ?_; rotate_left 1; (focus (intro w hSw; (try dsimp only at hSw); go_simp; (try with_reducible rfl); done)); (try simp only [Act.put, List.getElem_toArray, List.getElem_cons_zero, List.getElem_cons_succ, List.setIfInBounds_toArray, List.set_cons_zero, List.set_cons_succ])) | (refine WT_take (i := 2) (v := ?_) rfl (by decide) (by decide +kernel) (by decide +kernel) (fun _ _ _ h => h) (Or.inl ⟨by rfl, ?_⟩) (by assumption) ?_; rotate_left 1; (focus (intro w hSw; (try dsimp only at hSw); go_simp; (try with_reducible rfl); done)); (try simp only [Act.put, List.getElem_toArray, List.getElem_cons_zero, List.getElem_cons_succ, List.setIfInBounds_toArray, List.set_cons_zero, List.set_cons_succ])) | (refine WT_take (i := 3) (v := ?_) rfl (by decide) (by decide +kernel) (by decide +kernel) (fun _ _ _ h => h) (Or.inl ⟨by rfl, ?_⟩) (by assumption) ?_; rotate_left 1; (focus (intro w hSw; (try dsimp only at hSw); go_simp; (try with_reducible rfl); done)); (try simp only [Act.put, List.getElem_toArray, List.getElem_cons_zero, List.getElem_cons_succ, List.setIfInBounds_toArray, List.set_cons_zero, List.set_cons_succ])) | (refine WT_take (i := 4) (v := ?_) rfl (by decide) (by decide +kernel) (by decide +kernel) (fun _ _ _ h => h) (Or.inl ⟨by rfl, ?_⟩) (by assumption) ?_; rotate_left 1; (focus (intro w hSw; (try dsimp only at hSw); go_simp; (try with_reducible rfl); done)); (try simp only [Act.put, List.getElem_toArray, List.getElem_cons_zero, List.getElem_cons_succ, List.setIfInBounds_toArray, List.set_cons_zero, List.set_cons_succ])) | (refine WT_take (i := 5) (v := ?_) rfl (by decide) (by decide +kernel) (by decide +kernel) (fun _ _ _ h => h) (Or.inl ⟨by rfl, ?_⟩) (by assumption) ?_; rotate_left 1; (focus (intro w hSw; (try dsimp only at hSw); go_simp; (try with_reducible rfl); done)); (try simp only [Act.put, List.getElem_toArray, List.getElem_cons_zero, List.getElem_cons_succ, List.setIfInBounds_toArray, List.set_cons_zero, List.set_cons_succ])) | (refine WT_take (i := 6) (v := ?_) rfl (by decide) (by decide +kernel) (by decide +kernel) (fun _ _ _ h => h) (Or.inl ⟨by rfl, ?_⟩) (by assumption) ?_; rotate_left 1; (focus (intro w hSw; (try dsimp only at hSw); go_simp; (try with_reducible rfl); done)); (try simp only [Act.put, List.getElem_toArray, List.getElem_cons_zero, List.getElem_cons_succ, List.setIfInBounds_toArray, List.set_cons_zero, List.set_cons_succ])) | (refine WT_take (i := 7) (v := ?_) rfl (by decide) (by decide +kernel) (by decide +kernel) (fun _ _ _ h => h) (Or.inl ⟨by rfl, ?_⟩) (by assumption) ?_; rotate_left 1; (focus (intro w hSw; (try dsimp only at hSw); go_simp; (try with_reducible rfl); done)); (try simp only [Act.put, List.getElem_toArray, List.getElem_cons_zero, List.getElem_cons_succ, List.setIfInBounds_toArray, List.set_cons_zero, List.set_cons_succ])) | (refine WT_take (i := 8) (v := ?_) rfl (by decide) (by decide +kernel) (by decide +kernel) (fun _ _ _ h => h) (Or.inl ⟨by rfl, ?_⟩) (by assumption) ?_; rotate_left 1; (focus (intro w hSw; (try dsimp only at hSw); go_simp; (try with_reducible rfl); done)); (try simp only [Act.put, List.getElem_toArray, List.getElem_cons_zero, List.getElem_cons_succ, List.setIfInBounds_toArray, List.set_cons_zero, List.set_cons_succ])) | (refine WT_take (i := 9) (v := ?_) rfl (by decide) (by decide +kernel) (by decide +kernel) (fun _ _ _ h => h) (Or.inl ⟨by rfl, ?_⟩) (by assumption) ?_; rotate_left 1; (focus (intro w hSw; (try dsimp only at hSw); go_simp; (try with_reducible rfl); done)); (try simp only [Act.put, List.getElem_toArray, List.getElem_cons_zero, List.getElem_cons_succ, List.setIfInBounds_toArray, List.set_cons_zero, List.set_cons_succ])) | (refine WT_take (i := 10) (v := ?_) rfl (by decide) (by decide +kernel) (by decide +kernel) (fun _ _ _ h => h) (Or.inl ⟨by rfl, ?_⟩) (by assumption) ?_; rotate_left 1; (focus (intro w hSw; (try dsimp only at hSw); go_simp; (try with_reducible rfl); done)); (try simp only [Act.put, List.getElem_toArray, List.getElem_cons_zero, List.getElem_cons_succ, List.setIfInBounds_toArray, List.set_cons_zero, List.set_cons_succ])) | (refine WT_take (i := 11) (v := ?_) rfl (by decide) (by decide +kernel) (by decide +kernel) (fun _ _ _ h => h) (Or.inl ⟨by rfl, ?_⟩) (by assumption) ?_; rotate_left 1; (focus (intro w hSw; (try dsimp only at hSw); go_simp; (try with_reducible rfl); done)); (try simp only [Act.put, List.getElem_toArray, List.getElem_cons_zero, List.getElem_cons_succ, List.setIfInBounds_toArray, List.set_cons_zero, List.set_cons_succ])) | (refine WT_take (i := 12) (v := ?_) rfl (by decide) (by decide +kernel) (by decide +kernel) (fun _ _ _ h => h) (Or.inl ⟨by rfl, ?_⟩) (by assumption) ?_; rotate_left 1; (focus (intro w hSw; (try dsimp only at hSw); go_simp; (try with_reducible rfl); done)); (try simp only [Act.put, List.getElem_toArray, List.getElem_cons_zero, List.getElem_cons_succ, List.setIfInBounds_toArray, List.set_cons_zero, List.set_cons_succ])) | (refine WT_take (i := 13) (v := ?_) rfl (by decide) (by decide +kernel) (by decide +kernel) (fun _ _ _ h => h) (Or.inl ⟨by rfl, ?_⟩) (by assumption) ?_; rotate_left 1; (focus (intro w hSw; (try dsimp only at hSw); go_simp; (try with_reducible rfl); done)); (try simp only [Act.put, List.getElem_toArray, List.getElem_cons_zero, List.getElem_cons_succ, List.setIfInBounds_toArray, List.set_cons_zero, List.set_cons_succ])) | (refine WT_take (i := 14) (v := ?_) rfl (by decide) (by decide +kernel) (by decide +kernel) (fun _ _ _ h => h) (Or.inl ⟨by rfl, ?_⟩) (by assumption) ?_; rotate_left 1; (focus (intro w hSw; (try dsimp only at hSw); go_simp; (try with_reducible rfl); done)); (try simp only [Act.put, List.getElem_toArray, List.getElem_cons_zero, List.getElem_cons_succ, List.setIfInBounds_toArray, List.set_cons_zero, List.set_cons_succ])) | (refine WT_take (i := 15) (v := ?_) rfl (by decide) (by decide +kernel) (by decide +kernel) (fun _ _ _ h => h) (Or.inl ⟨by rfl, ?_⟩) (by assumption) ?_; rotate_left 1; (focus (intro w hSw; (try dsimp only at hSw); go_simp; (try with_reducible rfl); done)); (try simp only [Act.put, List.getElem_toArray, List.getElem_cons_zero, List.getElem_cons_succ, List.setIfInBounds_toArray, List.set_cons_zero, List.set_cons_succ])) | (refine WT_take (i := 16) (v := ?_) rfl (by decide) (by decide +kernel) (by decide +kernel) (fun _ _ _ h => h) (Or.inl ⟨by rfl, ?_⟩) (by assumption) ?_; rotate_left 1; (focus (intro w hSw; (try dsimp only at hSw); go_simp; (try with_reducible rfl); done)); (try simp only [Act.put, List.getElem_toArray, List.getElem_cons_zero, List.getElem_cons_succ, List.setIfInBounds_toArray, List.set_cons_zero, List.set_cons_succ])) | (refine WT_take (i := 17) (v := ?_) rfl (by decide) (by decide +kernel) (by decide +kernel) (fun _ _ _ h => h) (Or.inl ⟨by rfl, ?_⟩) (by assumption) ?_; rotate_left 1; (focus (intro w hSw; (try dsimp only at hSw); go_simp; (try with_reducible rfl); done)); (try simp only [Act.put, List.getElem_toArray, List.getElem_cons_zero, List.getElem_cons_succ, List.setIfInBounds_toArray, List.set_cons_zero, List.set_cons_succ])) | (refine WT_take (i := 18) (v := ?_) rfl (by decide) (by decide +kernel) (by decide +kernel) (fun _ _ _ h => h) (Or.inl ⟨by rfl, ?_⟩) (by assumption) ?_; rotate_left 1; (focus (intro w hSw; (try dsimp only at hSw); go_simp; (try with_reducible rfl); done)); (try simp only [Act.put, List.getElem_toArray, List.getElem_cons_zero, List.getElem_cons_succ, List.setIfInBounds_toArray, List.set_cons_zero, List.set_cons_succ])) | (refine WT_take (i := 19) (v := ?_) rfl (by decide) (by decide +kernel) (by decide +kernel) (fun _ _ _ h => h) (Or.inl ⟨by rfl, ?_⟩) (by assumption) ?_; rotate_left 1; (focus (intro w hSw; (try dsimp only at hSw); go_simp; (try with_reducible rfl); done)); (try simp only [Act.put, List.getElem_toArray, List.getElem_cons_zero, List.getElem_cons_succ, List.setIfInBounds_toArray, List.set_cons_zero, List.set_cons_succ])) | (refine WT_take (i := 20) (v := ?_) rfl (by decide) (by decide +kernel) (by decide +kernel) (fun _ _ _ h => h) (Or.inl ⟨by rfl, ?_⟩) (by assumption) ?_; rotate_left 1; (focus (intro w hSw; (try dsimp only at hSw); go_simp; (try with_reducible rfl); done)); (try simp only [Act.put, List.getElem_toArray, List.getElem_cons_zero, List.getElem_cons_succ, List.setIfInBounds_toArray, List.set_cons_zero, List.set_cons_succ])))
    refine WT_one (i := 19) (by kernel_rfl) (by decide) rfl (fun KK hK => ?_)
    go_simp
    refine hK.out _ _ ?_ (fun hHeld => ?_)
    · go_keep
    clear hK KK
    refine WT_one (i := 20) (by kernel_rfl) (by decide) rfl (fun KK hK => ?_)
    refine step_append_lies _ (by rfl) _ _ _ (by rfl) n0 9 i0 _ 1 16 Tryz.underlying23 hi0 hz0 hz1 hz2 rfl (by omega) vl log.length (log.map .string) (by rfl) (((hol.alloc _).alloc _).drew) ⟨W2.heap.size + 1, 0, none⟩ 1 1 [.string (putT ⟨t, k, v⟩)] (by rfl) (by rfl) (World.news_of_block (cs := #[.string (putT ⟨t, k, v⟩)]) (t := 9) (fr := (0, 0)) (new_two W2 _ _)) (by simp [Value.oneCell']) (by omega) (by unfold maxLen; omega) (by omega) (by simp; omega) (W2.heap.size + 2) (by simp) ?_
    intro gg cap w1 hown1 hgrow hat hlt
    refine hK.out _ _ ?_ (fun hHeld => ?_)
    · go_split_ands
      refine ⟨?_, ?_, ?_, ?_⟩
      · (rw [hgrow.cell_far _ (by simp; omega) (Ne.symm aP)]; simp [*])
      · (rw [hgrow.cell_far _ (by simp; omega) (Ne.symm aK)]; simp [*])
      · (rw [hgrow.cell_far _ (by simp; omega) (Ne.symm aK)]; simp [*])
      · (rw [hgrow.cell_far _ (by simp; omega) (Ne.symm aH)]; simp [*])
    clear hK KK
    refine WT_done (by kernel_rfl) ?_
    have hfz := (hgrow.frozen_far ⟨H, 11, none⟩ (by simp; omega) (Ne.symm aH)).trans (fz _ _)
    have hcz := hHeld.2.2.2
    go_wp2_with fail
    refine NoPanic.normal ?_
    obtain ⟨k3, w3⟩ := k2.app c11 ((below_trans (below_alloc W2 _) (below_alloc _ _)).drew) hgrow (putT ⟨t, k, v⟩) hown1
    have b1'' := w3.1.far _ _ _ _ b1' (by decide) (by decide)
    have b2'' := w3.1.far _ _ _ _ b2' (by decide) (by decide)
    have hw3 := hw.trans w3
    clear hHeld hown1 hgrow hat hlt hfz hcz w3 hst hol b1' b2' p0 x0 x1 c11 f11 aP aK aH lP lK lH hn0 fz k2 hw hsz1 hsz2 hsz3 hwx
    generalize w1.setCell ⟨H, 11, none⟩ _ = W3 at *
    have p0 : W3.cell? ⟨P, 0, none⟩ = some (.pointer (some ⟨H, 0, none⟩)) := by simp [World.cell?, b1'']
    have x0 : W3.cell? ⟨K, 0, none⟩ = some (.int .i64 t) := by simp [World.cell?, b2'']
    have x1 : W3.cell? ⟨K, 1, none⟩ = some (.string k) := by simp [World.cell?, b2'']
    have c10 := k3.cells.2.2.1
    obtain ⟨vx, hlk⟩ := k3.mp.look_all hs hk ho.1 ho.2
    have lM := k3.mp.lt
    have lH := k3.ltH
    have lP := cell_lt p0
    have lK := cell_lt x0
    go_wp2_with fail
    refine wp_region_noPanic ?_
    refine region_cut (S := fun w' => w'.cell? ⟨P, 0, none⟩ = some (.pointer (some ⟨H, 0, none⟩)) ∧ w'.cell? ⟨K, 0, none⟩ = some (.int .i64 t) ∧ w'.cell? ⟨K, 1, none⟩ = some (.string k) ∧ w'.cell? ⟨H, 10, none⟩ = some (.map (some M)) ∧ w'.heap[M]? = W3.heap[M]?) 12 (by kernel_rfl) (by kernel_rfl) (by kernel_rfl) (by kernel_rfl) (by decide) ⟨p0, x0, x1, c10, rfl⟩ (fun hHeld => ?_)
    simp only [List.drop_succ_cons, List.drop_zero]
    repeat (first | (refine WT_take (i := 0) (v := ?_) rfl (by decide) (by decide +kernel) (by decide +kernel) (fun _ _ _ h => h) (Or.inl ⟨by rfl, ?_⟩) (by assumption) ?_; rotate_left 1; (focus (intro w hSw; (try dsimp only at hSw); go_simp; (try with_reducible rfl); done)); (try simp only [Act.put, List.getElem_toArray, List.getElem_cons_zero, List.setIfInBounds_toArray, List.set_cons_zero, List.set_cons_succ])) | (refine WT_take (i := 1) (v := ?_) rfl (by decide) (by decide +kernel) (by decide +kernel) (fun _ _ _ h => h) (Or.inl ⟨by rfl, ?_⟩) (by assumption) ?_; rotate_left 1; (focus (intro w hSw; (try dsimp only at hSw); go_simp; (try with_reducible rfl); done)); (try simp only [Act.put, List.getElem_toArray, List.getElem_cons_zero, List.getElem_cons_succ, List.setIfInBounds_toArray, List.set_cons_zero, List.set_cons_succ])) | (refine WT_take (i := 2) (v := ?_) rfl (by decide) (by decide +kernel) (by decide +kernel) (fun _ _ _ h => h) (Or.inl ⟨by rfl, ?_⟩) (by assumption) ?_; rotate_left 1; (focus (intro w hSw; (try dsimp only at hSw); go_simp; (try with_reducible rfl); done)); (try simp only [Act.put, List.getElem_toArray, List.getElem_cons_zero, List.getElem_cons_succ, List.setIfInBounds_toArray, List.set_cons_zero, List.set_cons_succ])) | (refine WT_take (i := 3) (v := ?_) rfl (by decide) (by decide +kernel) (by decide +kernel) (fun _ _ _ h => h) (Or.inl ⟨by rfl, ?_⟩) (by assumption) ?_; rotate_left 1; (focus (intro w hSw; (try dsimp only at hSw); go_simp; (try with_reducible rfl); done)); (try simp only [Act.put, List.getElem_toArray, List.getElem_cons_zero, List.getElem_cons_succ, List.setIfInBounds_toArray, List.set_cons_zero, List.set_cons_succ])) | (refine WT_take (i := 4) (v := ?_) rfl (by decide) (by decide +kernel) (by decide +kernel) (fun _ _ _ h => h) (Or.inl ⟨by rfl, ?_⟩) (by assumption) ?_; rotate_left 1; (focus (intro w hSw; (try dsimp only at hSw); go_simp; (try with_reducible rfl); done)); (try simp only [Act.put, List.getElem_toArray, List.getElem_cons_zero, List.getElem_cons_succ, List.setIfInBounds_toArray, List.set_cons_zero, List.set_cons_succ])) | (refine WT_take (i := 5) (v := ?_) rfl (by decide) (by decide +kernel) (by decide +kernel) (fun _ _ _ h => h) (Or.inl ⟨by rfl, ?_⟩) (by assumption) ?_; rotate_left 1; (focus (intro w hSw; (try dsimp only at hSw); go_simp; (try with_reducible rfl); done)); (try simp only [Act.put, List.getElem_toArray, List.getElem_cons_zero, List.getElem_cons_succ, List.setIfInBounds_toArray, List.set_cons_zero, List.set_cons_succ])) | (refine WT_take (i := 6) (v := ?_) rfl (by decide) (by decide +kernel) (by decide +kernel) (fun _ _ _ h => h) (Or.inl ⟨by rfl, ?_⟩) (by assumption) ?_; rotate_left 1; (focus (intro w hSw; (try dsimp only at hSw); go_simp; (try with_reducible rfl); done)); (try simp only [Act.put, List.getElem_toArray, List.getElem_cons_zero, List.getElem_cons_succ, List.setIfInBounds_toArray, List.set_cons_zero, List.set_cons_succ])) | (refine WT_take (i := 7) (v := ?_) rfl (by decide) (by decide +kernel) (by decide +kernel) (fun _ _ _ h => h) (Or.inl ⟨by rfl, ?_⟩) (by assumption) ?_; rotate_left 1; (focus (intro w hSw; (try dsimp only at hSw); go_simp; (try with_reducible rfl); done)); (try simp only [Act.put, List.getElem_toArray, List.getElem_cons_zero, List.getElem_cons_succ, List.setIfInBounds_toArray, List.set_cons_zero, List.set_cons_succ])) | (refine WT_take (i := 8) (v := ?_) rfl (by decide) (by decide +kernel) (by decide +kernel) (fun _ _ _ h => h) (Or.inl ⟨by rfl, ?_⟩) (by assumption) ?_; rotate_left 1; (focus (intro w hSw; (try dsimp only at hSw); go_simp; (try with_reducible rfl); done)); (try simp only [Act.put, List.getElem_toArray, List.getElem_cons_zero, List.getElem_cons_succ, List.setIfInBounds_toArray, List.set_cons_zero, List.set_cons_succ])) | (refine WT_take (i := 9) (v := ?_) rfl (by decide) (by decide +kernel) (by decide +kernel) (fun _ _ _ h => h) (Or.inl ⟨by rfl, ?_⟩) (by assumption) ?_; rotate_left 1; (focus (intro w hSw; (try dsimp only at hSw); go_simp; (try with_reducible rfl); done)); (try simp only [Act.put, List.getElem_toArray, List.getElem_cons_zero, List.getElem_cons_succ, List.setIfInBounds_toArray, List.set_cons_zero, List.set_cons_succ])) | (refine WT_take (i := 10) (v := ?_) rfl (by decide) (by decide +kernel) (by decide +kernel) (fun _ _ _ h => h) (Or.inl ⟨by rfl, ?_⟩) (by assumption) ?_; rotate_left 1; (focus (intro w hSw; (try dsimp only at hSw); go_simp; (try with_reducible rfl); done)); (try simp only [Act.put, List.getElem_toArray, List.getElem_cons_zero, List.getElem_cons_succ, List.setIfInBounds_toArray, List.set_cons_zero, List.set_cons_succ])) | (refine WT_take (i := 11) (v := ?_) rfl (by decide) (by decide +kernel) (by decide +kernel) (fun _ _ _ h => h) (Or.inl ⟨by rfl, ?_⟩) (by assumption) ?_; rotate_left 1; (focus (intro w hSw; (try dsimp only at hSw); go_simp; (try with_reducible rfl); done)); (try simp only [Act.put, List.getElem_toArray, List.getElem_cons_zero, List.getElem_cons_succ, List.setIfInBounds_toArray, List.set_cons_zero, List.set_cons_succ])))
    refine WT_one (i := 10) (by kernel_rfl) (by decide) rfl (fun KK hK => ?_)
    go_simp
    refine hK.out _ _ ?_ (fun hHeld => ?_)
    · refine ⟨?_, ?_, ?_, ?_, (below_alloc W3 _).block M lM⟩ <;> go_keep
    clear hK KK
    refine WT_one (i := 11) (by kernel_rfl) (by decide) rfl (fun KK hK => ?_)
    go_simp
    refine hK.out _ _ ?_ (fun hHeld => ?_)
    · refine ⟨?_, ?_, ?_, ?_, (below_alloc W3 _).block M lM⟩ <;> go_keep
    clear hK KK
    refine WT_done (by kernel_rfl) ?_
    go_wp2_with fail
    refine NoPanic.normal ?_
    clear hlk hHeld
    have q4 := (below_alloc W3 (.cells #[.string vx] 159)).drew
    have k4 := k3.keep q4
    have w4 := hw3.trans (HW.below q4 k3.n0)
    have b1 := (q4.block P lP).trans b1''
    have b2 := (q4.block K lK).trans b2''
    clear k3 hw3 b1'' b2'' p0 x0 x1 c10 lM lH lP lK
    generalize (W3.alloc (.cells #[.string vx] 159)).drew = W4 at *
    have p0 : W4.cell? ⟨P, 0, none⟩ = some (.pointer (some ⟨H, 0, none⟩)) := by simp [World.cell?, b1]
    have x0 : W4.cell? ⟨K, 0, none⟩ = some (.int .i64 t) := by simp [World.cell?, b2]
    have x1 : W4.cell? ⟨K, 1, none⟩ = some (.string k) := by simp [World.cell?, b2]
    have c10 := k4.cells.2.2.1
    by_cases hf : fnd t k l = true
    · obtain rfl : ff = true := by rw [← hff]; simp [fits, hf]
      rw [hf]
      go_wp2_with fail
      go_quiet (fail)
      have q5 := below_drawn W4 nq
      have k5 := k4.keep q5
      have w5 := w4.trans (HW.below q5 k4.n0)
      have b1' := (q5.block P (cell_lt p0)).trans b1
      have b2' := (q5.block K (cell_lt x0)).trans b2
      clear k4 w4 b1 b2 p0 x0 x1 c10 q4
      generalize W4.drewN nq = W5 at *
      have p0 : W5.cell? ⟨P, 0, none⟩ = some (.pointer (some ⟨H, 0, none⟩)) := by simp [World.cell?, b1']
      have x0 : W5.cell? ⟨K, 0, none⟩ = some (.int .i64 t) := by simp [World.cell?, b2']
      have x1 : W5.cell? ⟨K, 1, none⟩ = some (.string k) := by simp [World.cell?, b2']
      have c10 := k5.cells.2.2.1
      go_wp2_with fail
      refine region_tail 8 (by kernel_rfl) (by kernel_rfl) ?_
      simp only [List.take_succ_cons, List.take_zero, List.drop_succ_cons, List.drop_zero]
      still_step
      still_step
      still_step
      still_step
      still_step
      still_step
      still_step
      still_step
      refine wpStill_nil ?_
      go_wp2_with (first | (at_mapUpdate; refine wpl_store _ rfl _ _ _ rfl M l rfl ⟨t, k, v⟩ rfl rfl (k5.mp.kept (w' := W5.drew) rfl) hs hk ho ?_; intro es' cl' hm') | fail)
      go_end0
      obtain ⟨k6, w6⟩ := (k5.keep (below_drew W5)).mapSet hm'
      exact ⟨rfl, k6, (w5.trans (HW.below (below_drew W5) k5.n0)).trans w6⟩
    · have hf' : fnd t k l = false := by simpa using hf
      have hcl := cntM_le t l
      rw [hf']
      go_wp2_with fail
      go_region_held3 (fun w' => w'.cell? ⟨P, 0, none⟩ = some (.pointer (some ⟨H, 0, none⟩)) ∧ w'.cell? ⟨K, 0, none⟩ = some (.int .i64 t))
        (first | go_keep | exact ⟨by assumption, by assumption⟩)
        (first
          | (go_at_call 84; refine (hCount n0 H M r l _ _ _ _ (k4.keep (below_drew W4)) t hn).mono ?_; rintro e w5 ⟨rfl, q5⟩; have kp := (q5.cell (p := ⟨P, 0, none⟩) (cell_lt p0)).trans p0; have kk := (q5.cell (p := ⟨K, 0, none⟩) (cell_lt x0)).trans x0)
          | (go_at_call 85; refine (hRoom n0 H M r l _ _ _ _ ((k4.keep (below_drew W4)).keep q5) t).mono ?_; rintro e w6 ⟨rfl, q6⟩; have kp' := (q6.cell (p := ⟨P, 0, none⟩) (cell_lt kp)).trans kp; have kk' := (q6.cell (p := ⟨K, 0, none⟩) (cell_lt kk)).trans kk))
      have q7 := below_trans (below_drew W4) (below_trans q5 q6)
      have k5 := k4.keep q7
      have w5' := w4.trans (HW.below q7 k4.n0)
      have b1' := (q7.block P (cell_lt p0)).trans b1
      have b2' := (q7.block K (cell_lt x0)).trans b2
      clear k4 w4 b1 b2 p0 x0 x1 c10 q4 q5 q6 q7 kp kk kp' kk'
      have p0 : w6.cell? ⟨P, 0, none⟩ = some (.pointer (some ⟨H, 0, none⟩)) := by simp [World.cell?, b1']
      have x0 : w6.cell? ⟨K, 0, none⟩ = some (.int .i64 t) := by simp [World.cell?, b2']
      have x1 : w6.cell? ⟨K, 1, none⟩ = some (.string k) := by simp [World.cell?, b2']
      have c10 := k5.cells.2.2.1
      by_cases hcr : (cntM t l : Int) < roomOf r t
      · obtain rfl : ff = true := by rw [← hff]; simp [fits, hcr]
        go_wp2_with fail
        refine region_tail 8 (by kernel_rfl) (by kernel_rfl) ?_
        simp only [List.take_succ_cons, List.take_zero, List.drop_succ_cons, List.drop_zero]
        still_step
        still_step
        still_step
        still_step
        still_step
        still_step
        still_step
        still_step
        refine wpStill_nil ?_
        go_wp2_with (first | (at_mapUpdate; refine wpl_store _ rfl _ _ _ rfl M l rfl ⟨t, k, v⟩ rfl rfl (k5.mp.kept (w' := w6.drew) rfl) hs hk ho ?_; intro es' cl' hm') | fail)
        go_end0
        obtain ⟨k9, w9⟩ := (k5.keep (below_drew w6)).mapSet hm'
        exact ⟨rfl, k9, (w5'.trans (HW.below (below_drew w6) k5.n0)).trans w9⟩
      · obtain rfl : ff = false := by rw [← hff]; simp [fits, hf', hcr]
        have hicr : ¬ (cntM t l : Int) < roomOf r t := hcr
        obtain ⟨vl, c11, hol⟩ := k5.log_cell
        have f11 := k5.cells.2.2.2 11
        have aP := ownS_ne hol b1' (by decide)
        have aH := k5.own_neH c11
        have lP := cell_lt p0
        have lH := k5.ltH
        have hn0 := k5.n0
        have hlg2 : (log ++ [putT ⟨t, k, v⟩]).length ≤ 8000000000001 := by simp; omega
        have fz : ∀ a, (w6.alloc a).drew.frozen? ⟨H, 11, none⟩ = false := fun a => (World.frozen?_of_block ((below_alloc w6 a).block H lH)).trans f11
        obtain ⟨log2, hl2⟩ : ∃ g, log ++ [putT ⟨t, k, v⟩] = g := ⟨_, rfl⟩
        rw [hl2] at k5 hol hlg2
        go_wp2_with fail
        refine wp_region_noPanic ?_
        refine region_cut (S := fun w' => w'.cell? ⟨P, 0, none⟩ = some (.pointer (some ⟨H, 0, none⟩)) ∧ w'.cell? ⟨H, 11, none⟩ = some vl) 9 (by kernel_rfl) (by kernel_rfl) (by kernel_rfl) (by kernel_rfl) (by decide) ⟨p0, c11⟩ (fun hHeld => ?_)
        simp only [List.drop_succ_cons, List.drop_zero]
        repeat (first | (refine WT_take (i := 0) (v := ?_) rfl (by decide) (by decide +kernel) (by decide +kernel) (fun _ _ _ h => h) (Or.inl ⟨by rfl, ?_⟩) (by assumption) ?_; rotate_left 1; (focus (intro w hSw; (try dsimp only at hSw); go_simp; (try with_reducible rfl); done)); (try simp only [Act.put, List.getElem_toArray, List.getElem_cons_zero, List.setIfInBounds_toArray, List.set_cons_zero, List.set_cons_succ])) | (refine WT_take (i := 1) (v := ?_) rfl (by decide) (by decide +kernel) (by decide +kernel) (fun _ _ _ h => h) (Or.inl ⟨by rfl, ?_⟩) (by assumption) ?_; rotate_left 1; (focus (intro w hSw; (try dsimp only at hSw); go_simp; (try with_reducible rfl); done)); (try simp only [Act.put, List.getElem_toArray, List.getElem_cons_zero, List.getElem_cons_succ, List.setIfInBounds_toArray, List.set_cons_zero, List.set_cons_succ])) | (refine WT_take (i := 2) (v := ?_) rfl (by decide) (by decide +kernel) (by decide +kernel) (fun _ _ _ h => h) (Or.inl ⟨by rfl, ?_⟩) (by assumption) ?_; rotate_left 1; (focus (intro w hSw; (try dsimp only at hSw); go_simp; (try with_reducible rfl); done)); (try simp only [Act.put, List.getElem_toArray, List.getElem_cons_zero, List.getElem_cons_succ, List.setIfInBounds_toArray, List.set_cons_zero, List.set_cons_succ])) | (refine WT_take (i := 3) (v := ?_) rfl (by decide) (by decide +kernel) (by decide +kernel) (fun _ _ _ h => h) (Or.inl ⟨by rfl, ?_⟩) (by assumption) ?_; rotate_left 1; (focus (intro w hSw; (try dsimp only at hSw); go_simp; (try with_reducible rfl); done)); (try simp only [Act.put, List.getElem_toArray, List.getElem_cons_zero, List.getElem_cons_succ, List.setIfInBounds_toArray, List.set_cons_zero, List.set_cons_succ])) | (refine WT_take (i := 4) (v := ?_) rfl (by decide) (by decide +kernel) (by decide +kernel) (fun _ _ _ h => h) (Or.inl ⟨by rfl, ?_⟩) (by assumption) ?_; rotate_left 1; (focus (intro w hSw; (try dsimp only at hSw); go_simp; (try with_reducible rfl); done)); (try simp only [Act.put, List.getElem_toArray, List.getElem_cons_zero, List.getElem_cons_succ, List.setIfInBounds_toArray, List.set_cons_zero, List.set_cons_succ])) | (refine WT_take (i := 5) (v := ?_) rfl (by decide) (by decide +kernel) (by decide +kernel) (fun _ _ _ h => h) (Or.inl ⟨by rfl, ?_⟩) (by assumption) ?_; rotate_left 1; (focus (intro w hSw; (try dsimp only at hSw); go_simp; (try with_reducible rfl); done)); (try simp only [Act.put, List.getElem_toArray, List.getElem_cons_zero, List.getElem_cons_succ, List.setIfInBounds_toArray, List.set_cons_zero, List.set_cons_succ])) | (refine WT_take (i := 6) (v := ?_) rfl (by decide) (by decide +kernel) (by decide +kernel) (fun _ _ _ h => h) (Or.inl ⟨by rfl, ?_⟩) (by assumption) ?_; rotate_left 1; (focus (intro w hSw; (try dsimp only at hSw); go_simp; (try with_reducible rfl); done)); (try simp only [Act.put, List.getElem_toArray, List.getElem_cons_zero, List.getElem_cons_succ, List.setIfInBounds_toArray, List.set_cons_zero, List.set_cons_succ])))
        refine WT_one (i := 7) (by kernel_rfl) (by decide) rfl (fun KK hK => ?_)
        go_simp
        refine hK.out _ _ ?_ (fun hHeld => ?_)
        · go_keep
        clear hK KK
        refine WT_one (i := 8) (by kernel_rfl) (by decide) rfl (fun KK hK => ?_)
        refine step_append_lies _ (by rfl) _ _ _ (by rfl) n0 9 i0 _ 1 16 Tryz.underlying23 hi0 hz0 hz1 hz2 rfl (by omega) vl log2.length (log2.map .string) (by rfl) ((hol.alloc _).drew) ⟨w6.heap.size, 0, none⟩ 1 1 [.string noS] (by rfl) (by rfl) (World.news_of_block (cs := #[.string noS]) (t := 9) (fr := (0, 0)) (MapKept.heap_alloc w6 _).1) (by simp [Value.oneCell']) (by omega) (by unfold maxLen; omega) (by omega) (by simp; omega) (w6.heap.size + 1) (by simp) ?_
        intro gg' cap' w7 hown1 hgrow hat hlt
        refine hK.out _ _ ?_ (fun hHeld => ?_)
        · go_split_ands
          refine ⟨?_, ?_⟩
          · (rw [hgrow.cell_far _ (by simp; omega) (Ne.symm aP)]; simp [*])
          · (rw [hgrow.cell_far _ (by simp; omega) (Ne.symm aH)]; simp [*])
        clear hK KK
        refine WT_done (by kernel_rfl) ?_
        have hfz := (hgrow.frozen_far ⟨H, 11, none⟩ (by simp; omega) (Ne.symm aH)).trans (fz _)
        have hcz := hHeld.2
        go_wp2_with fail
        refine NoPanic.normal ?_
        obtain ⟨k9, w9⟩ := k5.app c11 ((below_alloc w6 _).drew) hgrow noS hown1
        go_end0
        subst hl2
        exact ⟨rfl, k9, w5'.trans w9⟩
end Go.Proofs.YtindifjhocgkbaaGreatDoor
