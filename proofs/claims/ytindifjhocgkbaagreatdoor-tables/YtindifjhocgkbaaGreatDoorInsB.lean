import Derived.Test.YtindifjhocgkbaaGreatDoorIns
namespace Go.Proofs.YtindifjhocgkbaaGreatDoor
open Go.RowKit

theorem append_types {P : Program} (w : World) (t t2 ty e e2 : TypeId) (b : Option Addr) (n c : Nat) (x : Value) (h1 : P.underlying t = some (.slice e)) (h2 : P.underlying t2 = some (.slice e2)) :
    (Builtin.append_ #[t, t2] ty #[.slice b n c, x]).run P w = (Builtin.append_ #[t, t] ty #[.slice b n c, x]).run P w := by
  simp only [Builtin.append_, List.getElem?_toArray, List.getElem?_cons_zero, List.getElem?_cons_succ, Sem.run_bind, run_underlying h1, run_underlying h2, Result.andThen_ok]

set_option maxRecDepth 100000 in
set_option maxHeartbeats 2000000 in
theorem lInsert_end (base : Nat) (v : Value) (l : List En) (n vb : Nat) (e : En) (w : World) (h : w.ownsRow base 183 3 v l.length (cellsE l)) (hl : l.length = n) (hn : n ≤ 1000000) (hbase : base ≤ w.heap.size)
    (hv : w.heap[vb]? = some (.cells #[.int .i64 e.t, .string e.k, .string e.v] 183 (0, 0))) :
    Calls Tryz.prog 120 #[v, .int .i64 n, .slice (some ⟨vb, 0, none⟩) 1 1] w fun r w' => ∃ v', r = .returned v' ∧ w'.ownsRow base 183 3 v' ((n + 1 : Nat)) (cellsE (l ++ [e])) ∧ w.grownBy w' v.ownBlock := by
  obtain ⟨i0, hi0, hz0, hz1, hz2⟩ := info_parts Tryz.infoEn
  rw [hl] at h
  have hrun : ∀ ty, ∃ v' w', (Builtin.append_ #[112, 111] ty #[v, .slice (some ⟨vb, 0, none⟩) 1 1]).run Tryz.prog w = .ok v' w' ∧ w'.ownsRow base 183 3 v' ((n + 1 : Nat)) (cellsE l ++ e3 e) ∧ w.grownBy w' v.ownBlock ∧ (v' = .slice none 0 0 ↔ v = .slice none 0 0 ∧ 1 = 0) := fun ty => by
    have hvs : ∃ b c, v = .slice b n c := by rcases h.2 with ⟨rfl, hn0⟩ | ⟨g, cap, cur, rfl, _⟩ <;> exact ⟨_, _, by first | rfl | rw [hn0]⟩
    obtain ⟨vb', vc', rfl⟩ := hvs
    rw [append_types w _ _ ty 183 183 _ _ _ _ Tryz.underlying112 Tryz.underlying111]
    exact run_append_own (P := Tryz.prog) w base 112 ty 183 i0 (.agg #[.int .i64 0, .string ⟨#[]⟩, .string ⟨#[]⟩]) 3 40 Tryz.underlying112 hi0 hz0 hz1 hz2 rfl (by decide) _ n (cellsE l) h ⟨vb, 0, none⟩ 1 1 (e3 e) rfl (fun j u hu => by
      rw [Addr.add_lit, cell_of_row w vb _ _ _ _ hv]
      simpa [e3] using hu) (by intro v hv; simp [e3] at hv; rcases hv with rfl | rfl | rfl <;> rfl) (by unfold maxLen; omega) (by omega) hbase
  obtain ⟨v', w', hr, hown, hgr, -⟩ := hrun 112
  have hfin : w'.ownsRow base 183 3 v' ((n + 1 : Nat)) (cellsE (l ++ [e])) := by rw [cellsE_append]; exact hown
  clear hrun hown
  rcases h.2 with ⟨rfl, hn0⟩ | ⟨g, cap, cur, rfl, hb, hg, hnc, hcm, hcs, htk⟩
  · subst hn0
    go_enter Tryz.func120, Tryz.ntmps120
    go_wp2_with (at_builtin; refine Lib.wpList_append_run _ rfl _ _ _ _ rfl _ _ rfl rfl _ _ hr ?_)
    go_ret
    exact ⟨_, rfl, hfin, hgr⟩
  · have hii : ((n : Nat) : Int) ≤ (cap : Int) := by omega
    go_enter Tryz.func120, Tryz.ntmps120
    go_wp2_with (at_builtin; refine Lib.wpList_append_run _ rfl _ _ _ _ rfl _ _ rfl rfl _ _ hr ?_)
    all_goals (go_ret; exact ⟨_, rfl, hfin, hgr⟩)
end Go.Proofs.YtindifjhocgkbaaGreatDoor
