import Derived.Test.YtindifjhocgkbaaGreatDoorRmE
import Derived.Test.YtindifjhocgkbaaGreatDoorRefD
import Derived.Test.YtindifjhocgkbaaGreatDoorMemToSli
import Derived.Test.YtindifjhocgkbaaGreatDoorItD
import Derived.Deep.CutRange
namespace Go.Proofs.YtindifjhocgkbaaGreatDoor
open Go.RowKit Go.ChangeMaps Go.MapKept Go.WideShapes Go.WideMaps
/-! ### An entry is put in its place -/
theorem ins_srt {l : List En} {i : Nat} {e : En} (hs : Srt l) (h1 : ∀ x ∈ l.drop i, cmpK e.t e.k x.t x.k < 0) (h2 : ∀ x ∈ l.take i, cmpK x.t x.k e.t e.k < 0) : Srt (l.take i ++ e :: l.drop i) := by
  unfold Srt
  rw [List.pairwise_append]
  refine ⟨List.Pairwise.sublist (List.take_sublist i l) hs, List.pairwise_cons.2 ⟨h1, List.Pairwise.sublist (List.drop_sublist i l) hs⟩, fun a ha b hb => ?_⟩
  rcases List.mem_cons.1 hb with rfl | hb
  · exact h2 a ha
  · exact cmpK_trans (h2 a ha) (h1 b hb)
theorem take_lt {l : List En} {i : Nat} {e : En} (hs : Srt l) (hi : i < l.length) (h : cmpK l[i].t l[i].k e.t e.k < 0) : ∀ x ∈ l.take (i + 1), cmpK x.t x.k e.t e.k < 0 := by
  intro x hx
  obtain ⟨j, hj, rfl⟩ := List.getElem_of_mem hx
  simp only [List.length_take] at hj
  rw [List.getElem_take]
  by_cases e1 : j = i
  · subst e1; exact h
  · exact cmpK_trans ((List.pairwise_iff_getElem.1 hs) j i (by omega) hi (by omega)) h
theorem ins_perm {l : List En} {i : Nat} {e : En} : (l.take i ++ e :: l.drop i).Perm (e :: l) := by
  refine List.perm_middle.trans (List.Perm.cons e ?_)
  rw [List.take_append_drop]
theorem srt_apart {es dn rst : List En} {y : En} (hs : Srt es) (hp : (dn ++ y :: rst).Perm es) : ∀ x ∈ dn, ¬ (x.t = y.t ∧ x.k = y.k) := fun x hx h => by
  have h1 : es.Pairwise (fun a b => cmpK a.t a.k b.t b.k ≠ 0) := hs.imp (fun h => by omega)
  have h2 := (hp.pairwise_iff (R := fun a b => cmpK a.t a.k b.t b.k ≠ 0) (fun {a b} h e => h (by rw [cmpK_neg, e]; rfl))).2 h1
  rw [List.pairwise_append] at h2
  exact h2.2.2 x hx y List.mem_cons_self ((cmpK_zero _ _ _ _).2 h)
/-- Does an entry stand behind another one? -/
def gtB (x e : En) : Bool := decide (0 < cmpK x.t x.k e.t e.k)
theorem gtB_t {x e : En} (h : e.t < x.t) : gtB x e = true := by
  unfold gtB cmpK cmpT
  rw [if_neg (by omega : ¬ x.t < e.t), if_pos h]; simp
theorem gtB_f {x e : En} (h : x.t < e.t) : gtB x e = false := by
  unfold gtB cmpK cmpT
  rw [if_pos h]; simp
theorem gtB_k {x e : En} (h : x.t = e.t) : gtB x e = !(Op.bytesLess x.k.toList e.k.toList || x.k.toList == e.k.toList) := by
  have e1 : (x.k.toList == e.k.toList) = decide (cmpB x.k e.k = 0) := by
    rw [Bool.eq_iff_iff, beq_iff_eq, decide_eq_true_iff, cmpB_zero, ByteArray.toList_eq, ByteArray.toList_eq]
    exact ⟨ba_ext', fun h => by rw [h]⟩
  rw [e1, cmpB_bytes]
  unfold gtB cmpK cmpT
  rw [if_neg (by omega : ¬ x.t < e.t), if_neg (by omega : ¬ e.t < x.t), if_pos rfl, Bool.eq_iff_iff]
  simp
  omega
theorem gtB_lt {x e : En} (h : gtB x e = true) : cmpK e.t e.k x.t x.k < 0 := by
  have := of_decide_eq_true h
  rw [cmpK_neg]; omega
theorem gtB_ge {x e : En} (h : gtB x e = false) (hd : ¬ (x.t = e.t ∧ x.k = e.k)) : cmpK x.t x.k e.t e.k < 0 := by
  have h1 := of_decide_eq_false h
  have h2 : ¬ cmpK x.t x.k e.t e.k = 0 := fun h0 => hd ((cmpK_zero _ _ _ _).1 h0)
  omega
theorem own_iter {W : World} {n0 n : Nat} {e : TypeId} {size r : Nat} {v : Value} {xs : List Value} {M : Nat} {l rst : List En} (h : W.ownsRow n0 e size v n xs) (hr : RngIs W M r l rst) : v.ownBlock ≠ some r := fun e1 => by
  obtain ⟨es, clock, since, seen, c0, hb, hst, hp, hr, _⟩ := hr
  rcases h with ⟨_, ⟨rfl, _⟩ | ⟨g', cap, cur, rfl, _, hc, _⟩⟩
  · simp [Value.ownBlock] at e1
  · simp only [Value.ownBlock, Option.some.injEq] at e1
    rw [e1, hr] at hc; cases hc
theorem own_lt {W : World} {n0 n g : Nat} {e : TypeId} {size : Nat} {vl : Value} {xs : List Value} (h : W.ownsRow n0 e size vl n xs) (e1 : vl.ownBlock = some g) : g < W.heap.size ∧ n0 ≤ g := by
  rcases h with ⟨_, ⟨rfl, _⟩ | ⟨g', cap, cur, rfl, hb, hc, _⟩⟩
  · simp [Value.ownBlock] at e1
  · simp only [Value.ownBlock, Option.some.injEq] at e1
    subst e1
    exact ⟨(Array.getElem?_eq_some_iff.1 hc).1, hb⟩
theorem lset3 : ∀ (P S : List Value) (q0 q1 q2 a b c : Value), (((P ++ q0 :: q1 :: q2 :: S).set P.length a).set (P.length + 1) b).set (P.length + 2) c = P ++ a :: b :: c :: S
  | [], _, _, _, _, _, _, _ => rfl
  | x :: P, S, q0, q1, q2, a, b, c => by
    have h := lset3 P S q0 q1 q2 a b c
    simp only [List.cons_append, List.length_cons]
    rw [show P.length + 1 + 2 = (P.length + 2) + 1 by omega]
    simp only [List.set_cons_succ]
    rw [h]
abbrev z0E : En := ⟨0, ⟨#[]⟩, ⟨#[]⟩⟩
theorem ins_row {L : List En} {k cap : Nat} {y : En} {cur C1 : Array Value} (hk : k ≤ L.length) (hcap : L.length + 1 ≤ cap) (hcs : cur.size = cap * 3) (htk : cur.toList.take ((L.length + 1) * 3) = cellsE L ++ e3 z0E)
    (hC1 : C1 = (cur.toList.take ((k + 1) * 3) ++ cellsE (L.drop k) ++ cur.toList.drop ((L.length + 1) * 3)).toArray) :
    (((C1.setIfInBounds (k * 3) (.int .i64 y.t)).setIfInBounds (k * 3 + 1) (.string y.k)).setIfInBounds (k * 3 + 2) (.string y.v)).toList.take ((L.length + 1) * 3) = cellsE (L.take k ++ y :: L.drop k) := by
  have hl : (cellsE (L.take k)).length = k * 3 := by rw [cellsE_length, List.length_take]; omega
  have hd : (cellsE (L.drop k)).length = (L.length - k) * 3 := by rw [cellsE_length, List.length_drop]
  have h2 : cur.toList.take (k * 3) = cellsE (L.take k) := by
    have e : (cur.toList.take ((L.length + 1) * 3)).take (k * 3) = cur.toList.take (k * 3) := by rw [List.take_take, Nat.min_eq_left (by omega)]
    rw [← e, htk, List.take_append_of_le_length (by rw [cellsE_length]; omega), cellsE_take]
  obtain ⟨q0, q1, q2, hq⟩ : ∃ q0 q1 q2, cur.toList.take ((k + 1) * 3) = cellsE (L.take k) ++ [q0, q1, q2] := by
    have h1 := (List.take_append_drop (k * 3) (cur.toList.take ((k + 1) * 3))).symm
    rw [List.take_take, Nat.min_eq_left (by omega), h2] at h1
    have h3 : ((cur.toList.take ((k + 1) * 3)).drop (k * 3)).length = 3 := by rw [List.length_drop, List.length_take, Array.length_toList, hcs]; omega
    generalize (cur.toList.take ((k + 1) * 3)).drop (k * 3) = T at *
    match T, h3 with
    | [q0, q1, q2], _ => exact ⟨q0, q1, q2, h1⟩
  have e1 : C1.toList = cellsE (L.take k) ++ q0 :: q1 :: q2 :: (cellsE (L.drop k) ++ cur.toList.drop ((L.length + 1) * 3)) := by rw [hC1, List.toList_toArray, hq]; simp
  rw [Array.toList_setIfInBounds, Array.toList_setIfInBounds, Array.toList_setIfInBounds, e1, ← hl, lset3, cellsE_append]
  rw [show cellsE (L.take k) ++ Value.int .i64 y.t :: Value.string y.k :: Value.string y.v :: (cellsE (L.drop k) ++ cur.toList.drop ((L.length + 1) * 3)) = (cellsE (L.take k) ++ (e3 y ++ cellsE (L.drop k))) ++ cur.toList.drop ((L.length + 1) * 3) by simp [e3]]
  rw [List.take_left' (by simp only [List.length_append, hl, hd, e3, List.length_cons, List.length_nil]; omega)]
  rfl
set_option maxRecDepth 100000 in
set_option maxHeartbeats 3200000 in
theorem hDumpL (n0 H M : Nat) (r : Nat → Int) (l : List En) (log : List ByteArray) (left : Int) (dead : Bool) (W : World) (h : HostI n0 H M r l log left dead W) (hs : Srt l) (hn : l.length ≤ 100000) :
    Calls Tryz.prog 62 #[.pointer (some ⟨H, 0, none⟩)] W fun e W' => ∃ v, e = .returned v ∧ W'.ownsRow W.heap.size 62 3 v l.length (cellsE l) ∧ Below W.heap.size W W' := by
  have c10 := h.cells.2.2.1
  have hm := h.mp
  obtain ⟨i0, hi0, hz0, hz1, hz2⟩ := info_parts Tryz.infoPl
  go_enter Tryz.func62, Tryz.ntmps62
  go_wp2_with (first | (at_range; refine wpl_range _ rfl _ rfl M l rfl hm ?_; intro w0 hr0 q0 s0) | fail)
  go_frame
  have HS : Hid (Srt l) := hs
  clear hs c10 hm s0 h
  go_loopw [3] (fun v wr => ∃ L rst, Hid (Srt L) ∧ (L ++ rst).Perm l ∧ wr.ownsRow W.heap.size 62 3 v L.length (cellsE L) ∧ RngIs wr M W.heap.size l rst ∧ Below W.heap.size W wr) (fun _ wr => wr.rangeLeft M W.heap.size)
  case atStart => exact ⟨[], l, List.Pairwise.nil, List.Perm.refl _, World.ownsRow_nil _ _ _ _, hr0, q0⟩
  case round =>
    obtain ⟨L, rst, HL, hp, hO, hr, hq⟩ := hrel
    have hlen := hp.length_eq
    simp only [List.length_append] at hlen
    obtain ⟨yo, yc, rfl⟩ := own_slice hO
    go_wp2_with (first | (at_next; refine wpl_next _ rfl _ rfl M W.heap.size l rst rfl hr ?_ ?_) | fail)
    · rintro rfl
      rw [List.append_nil] at hp
      go_wp2_with fail
      go_ret
      obtain rfl := srt_perm HL.out HS.out hp
      exact ⟨_, rfl, hO, hq⟩
    · intro y rst' w1 hp1 hr1 hg1 hs1 hen
      have hq1 := hq.grown hg1 hq.size (fun k e => by cases e; omega)
      have hO1 := hO.kept hg1 (.inr (own_iter hO hr))
      have HP : Hid ((L ++ y :: rst').Perm l) := (List.Perm.append_left L hp1.symm).trans hp
      have HD : Hid (∀ x ∈ L, ¬ (x.t = y.t ∧ x.k = y.k)) := srt_apart HS.out HP.out
      have hlt : rst'.length < rst.length := by have := hp1.length_eq; simp at this; omega
      have HM : Hid (wr.rangeLeft M W.heap.size = rst.length) := hr.left_eq
      have hL5 : L.length ≤ 100000 := by omega
      clear hp hp1 hO hr hg1 hs1
      go_wp2_with fail
      have qb := below_trans (below_trans (below_alloc w1 (.cells #[.int .i64 y.t, .string y.k] 83)) (below_alloc _ (.cells #[.string y.v] 159))) (below_alloc _ (.cells #[.int .i64 y.t, .string y.k, .string y.v] 62))
      have be : (((w1.alloc (.cells #[.int .i64 y.t, .string y.k] 83)).alloc (.cells #[.string y.v] 159)).alloc (.cells #[.int .i64 y.t, .string y.k, .string y.v] 62)).heap[w1.heap.size + 2]? = some (.cells #[.int .i64 y.t, .string y.k, .string y.v] 62 (0, 0)) := by
        have := (MapKept.heap_alloc ((w1.alloc (.cells #[.int .i64 y.t, .string y.k] 83)).alloc (.cells #[.string y.v] 159)) (.cells #[.int .i64 y.t, .string y.k, .string y.v] 62)).1
        simpa using this
      generalize ((w1.alloc (.cells #[.int .i64 y.t, .string y.k] 83)).alloc (.cells #[.string y.v] 159)).alloc (.cells #[.int .i64 y.t, .string y.k, .string y.v] 62) = Wb at *
      have hrb := hr1.kept (qb.block M hr1.map.lt) (qb.block W.heap.size hr1.lt)
      have hOb := owns_below hO1 qb
      have hqb := hq1.trans (qb.mono hq1.size)
      have hsb : W.heap.size ≤ w1.heap.size := hq1.size
      have HOL : Hid (∀ g, (Value.slice yo L.length yc).ownBlock = some g → g < w1.heap.size) := fun g e => (own_lt hO1 e).1
      clear hr1 hO1 hq1 qb hen hq
      obtain ⟨Be, hBe⟩ : ∃ Be, w1.heap.size + 2 = Be := ⟨_, rfl⟩
      rw [hBe] at be ⊢
      have hBn : W.heap.size ≤ Be := by omega
      go_loopw [7] (fun i wk => ∃ k : Nat, k ≤ L.length ∧ i = .int .i64 k ∧ Hid (∀ x ∈ L.drop k, cmpK y.t y.k x.t x.k < 0) ∧ Below Wb.heap.size Wb wk) (fun i _ => (intOf i).toNat)
      case atStart => exact ⟨L.length, Nat.le_refl _, rfl, (fun x hx => by simp at hx), Below.refl _ _⟩
      case round =>
        obtain ⟨k, hk, rfl, HK, qk⟩ := hrel
        obtain ⟨gb, hgb⟩ : ∃ gb : Bool, gb = (if h : 0 < k then gtB (L[k - 1]'(by omega)) y else false) := ⟨_, rfl⟩
        have beK := (qk.block Be (Array.getElem?_eq_some_iff.1 be).1).trans be
        have hOk := owns_below hOb qk
        have HG : Hid (gb = (if h : 0 < k then gtB (L[k - 1]'(by omega)) y else false)) := hgb
        clear hgb
        have x0 : wr.cell? ⟨Be, 0, none⟩ = some (.int .i64 y.t) := by simp [World.cell?, beK]
        have x1 : wr.cell? ⟨Be, 1, none⟩ = some (.string y.k) := by simp [World.cell?, beK]
        go_wp2_with fail
        go_cut [61] from 27 to 60 (fun p wc => p = .bool gb ∧ Below Wb.heap.size Wb wc)
        case first =>
          rcases Nat.eq_zero_or_pos k with h0 | hp
          · subst h0
            obtain rfl : gb = false := by have := HG.out; simpa using this
            clear HG x0 x1
            go_wp2_with fail
            go_quiet (fail)
            go_wp2_with fail
            go_meet
            exact ⟨rfl, below_trans qk (below_drawn _ _)⟩
          · obtain ⟨j, rfl⟩ : ∃ j, k = j + 1 := ⟨k - 1, by omega⟩
            have hj : j < L.length := by omega
            have hG2 : gb = gtB L[j] y := by have := HG.out; rw [dif_pos hp] at this; simpa using this
            rcases EnsIn.of_owns hOk with ⟨_, he⟩ | ⟨gg, off, cp, he, hgg, hens⟩
            · rw [he] at hj; simp at hj
            simp only [Value.slice.injEq] at he
            obtain ⟨rfl, _, rfl⟩ := he
            have d0 := hens.c0 j hj
            have d1 := hens.c1 j hj
            clear hens HG HK beK hOk
            generalize L[j] = X at *
            have ij : ((j : Nat) : Int) < (L.length : Int) := by omega
            have ijn : (0 : Int) < ((j : Nat) : Int) + 1 := by omega
            have isb : ((j : Nat) : Int) + 1 - 1 = (j : Int) := by omega
            by_cases h1 : y.t < X.t
            · obtain rfl : gb = true := by rw [hG2, gtB_t h1]
              clear hG2
              go_wp2_with fail
              go_quiet (fail)
              go_wp2_with fail
              go_meet
              exact ⟨rfl, below_trans qk (below_drawn _ _)⟩
            · by_cases h2 : X.t < y.t
              · obtain rfl : gb = false := by rw [hG2, gtB_f h2]
                have h3 : (X.t == y.t) = false := by simp; omega
                have h5 : X.t ≤ y.t := by omega
                have h6 : decide (y.t < X.t) = false := decide_eq_false h1
                clear hG2 h2 h1
                go_wp2_with fail
                go_quiet (fail)
                go_wp2_with fail
                go_meet
                exact ⟨rfl, below_trans qk (below_drawn _ _)⟩
              · have h3 : X.t = y.t := by omega
                rw [gtB_k h3] at hG2
                rw [h3] at d0
                have h4 : ¬ y.t < y.t := by omega
                clear h1 h2 h3
                subst hG2
                go_wp2_with fail
                go_quiet (fail)
                go_wp2_with fail
                go_meet
                exact ⟨by rw [Bool.not_or], below_trans qk (below_drawn _ _)⟩
        case rest =>
          obtain ⟨rfl, qc⟩ := hcut
          cases gb
          · have HT : Hid (∀ x ∈ L.take k, cmpK x.t x.k y.t y.k < 0) := by
              rcases Nat.eq_zero_or_pos k with h0 | hp
              · subst h0; exact fun x hx => by simp at hx
              · have h1 := HG.out
                rw [dif_pos hp] at h1
                have h2 := take_lt HL.out (by omega : k - 1 < L.length) (gtB_ge h1.symm (HD.out _ (List.getElem_mem _)))
                rwa [show k - 1 + 1 = k by omega] at h2
            clear HG x0 x1 beK hOk qk
            have hOc := owns_below hOb qc
            have hqc := hqb.trans (qc.mono hqb.size)
            have hsc := hqc.size
            have hbc := qc.size
            have hBl := (Array.getElem?_eq_some_iff.1 be).1
            go_wp2_with (at_builtin; refine wpList_append_lies _ rfl _ _ 44 rfl W.heap.size 62 i0 zP 3 40 Tryz.underlying44 hi0 hz0 hz1 hz2 rfl (by decide) (.slice yo L.length yc) L.length (cellsE L) rfl (hOc.alloc _) ⟨wc.heap.size, 0, none⟩ 1 1 (e3 z0E) rfl rfl (three_new wc z0E) (e3_one z0E) (by omega) (by unfold maxLen; omega) (by omega) (by simp; omega) (wc.heap.size + 1) (by simp) ?_; intro gg cap w2 hown hgrow hat hglt)
            have hgB : gg ≠ Be := by
              rcases hat with h | h
              · have := HOL.out gg h; omega
              · omega
            have hq2 := (hqc.alloc hqc.size (.cells #[.int .i64 0, .string ⟨#[]⟩, .string ⟨#[]⟩] 62)).grown hgrow (by simp; omega) (fun j e => (own_lt hOc e).2)
            have be2 : w2.heap[Be]? = some (.cells #[.int .i64 y.t, .string y.k, .string y.v] 62 (0, 0)) := by
              refine (hgrow.block Be (by simp; omega) (fun e => ?_)).trans (((below_alloc wc _).block Be (by omega)).trans ((qc.block Be hBl).trans be))
              have := HOL.out Be e.symm; omega
            have hr2 : RngIs w2 M W.heap.size l rst' := by
              have h1 := hrb.kept (qc.block M hrb.map.lt) (qc.block W.heap.size hrb.lt)
              have h2 := h1.kept ((below_alloc wc (.cells #[.int .i64 0, .string ⟨#[]⟩, .string ⟨#[]⟩] 62)).block M h1.map.lt) ((below_alloc wc (.cells #[.int .i64 0, .string ⟨#[]⟩, .string ⟨#[]⟩] 62)).block W.heap.size h1.lt)
              refine h2.kept (hgrow.block M h2.map.lt (fun e => ?_)) (hgrow.block W.heap.size h2.lt (fun e => own_iter (hOc.alloc _) h2 e.symm))
              obtain ⟨es, cl, hmb, _⟩ := h2.map
              rcases (hOc.alloc (.cells #[.int .i64 0, .string ⟨#[]⟩, .string ⟨#[]⟩] 62)).2 with ⟨e', _⟩ | ⟨g', cap', cur', e', _, hc', _⟩
              · rw [e'] at e; simp [Value.ownBlock] at e
              · rw [e'] at e; simp only [Value.ownBlock, Option.some.injEq] at e
                rw [← e, hmb] at hc'; cases hc'
            obtain ⟨cur, hcur, hnc, hcm, hcs, htk⟩ : ∃ cur : Array Value, w2.heap[gg]? = some (.cells cur 62 (0, 0)) ∧ L.length + 1 ≤ cap ∧ cap ≤ maxLen ∧ cur.size = cap * 3 ∧ cur.toList.take ((L.length + 1) * 3) = cellsE L ++ e3 z0E := by
              rcases hown.2 with ⟨e', _⟩ | ⟨g', cap', cur', e', _, hc', h1, h2, h3, h4⟩
              · cases e'
              · simp only [Value.slice.injEq, Option.some.injEq, Addr.mk.injEq] at e'
                obtain ⟨⟨rfl, _⟩, _, rfl⟩ := e'
                exact ⟨cur', hc', h1, h2, h3, h4⟩
            have hgw : W.heap.size ≤ gg := (own_lt hown rfl).2
            have hgi : W.heap.size ≠ gg := fun e => own_iter hown hr2 (by rw [e]; rfl)
            have hgM : M ≠ gg := fun e => by
              obtain ⟨es, cl, hmb, _⟩ := hr2.map
              rw [e, hcur] at hmb; cases hmb
            clear hOb hOc hown hgrow hat hrb hqb be hqc hsb HOL hbc hBl qc
            have hsz : (Tryz.prog.info? 62).map (·.size) = some 3 := by rw [hi0]; simp [hz1]
            have hone : ∀ v ∈ cellsE (L.drop k), v.oneCell' = true := cellsE_one _
            have hld : (cellsE (L.drop k)).length = (L.length - k) * 3 := by rw [cellsE_length, List.length_drop]
            have hsrc : ∀ j v, (cellsE (L.drop k))[j]? = some v → cur[k * 3 + j]? = some v := fun j v hv => by
              have hjl : j < (L.length - k) * 3 := by rw [← hld]; exact (List.getElem?_eq_some_iff.1 hv).1
              have h1 : (cur.toList.take ((L.length + 1) * 3))[k * 3 + j]? = some v := by
                rw [htk, List.getElem?_append_left (by rw [cellsE_length]; omega)]
                rw [← cellsE_drop, List.getElem?_drop] at hv
                exact hv
              rw [List.getElem?_take, if_pos (by omega)] at h1
              simpa using h1
            obtain ⟨C1, hC1⟩ : ∃ C1 : Array Value, C1 = (cur.toList.take ((k + 1) * 3) ++ cellsE (L.drop k) ++ cur.toList.drop ((L.length + 1) * 3)).toArray := ⟨_, rfl⟩
            have hcp : ∀ (X : World), X.heap[gg]? = some (.cells cur 62 (0, 0)) → ∀ ty o dc sc, (k < L.length → o = (k + 1) * 3) → o ≤ cur.size → (Builtin.copy_ #[44, 44] ty #[.slice (some ⟨gg, o, none⟩) (L.length - k) dc, .slice (some ⟨gg, k * 3, none⟩) (L.length + 1 - k) sc]).run Tryz.prog X = .ok (goInt (L.length - k : Nat)) (X.setRow gg C1) := fun X hX ty o dc sc ho hos => by
              have hmin : Nat.min (L.length + 1 - k) (L.length - k) = L.length - k := Nat.min_eq_right (by omega)
              have hh := run_copy_rowK (P := Tryz.prog) X 44 44 ty 62 3 gg o (L.length - k) dc ⟨gg, k * 3, none⟩ (L.length + 1 - k) sc cur 62 (cellsE (L.drop k)) Tryz.underlying44 hsz hX (by rw [hmin, hld]) (fun j u hu => by
                rw [Addr.add_lit, cell_of_row X gg _ _ _ _ hX]
                exact hsrc j u hu) (by
                  rw [hld, hcs]
                  rcases Nat.lt_or_ge k L.length with h | h
                  · rw [ho h]; omega
                  · have : L.length - k = 0 := by omega
                    rw [this]; omega) hone
              rw [hmin] at hh
              rw [hh, hC1]
              rcases Nat.lt_or_ge k L.length with h | h
              · rw [ho h, hld, show (k + 1) * 3 + (L.length - k) * 3 = (L.length + 1) * 3 by omega]
              · have e0 : L.drop k = [] := List.drop_eq_nil_of_le h
                obtain rfl : k = L.length := by omega
                rw [e0]
                simp [cellsE]
            have hC1s : C1.size = cap * 3 := by
              rw [hC1, List.size_toArray]; simp only [List.length_append, List.length_take, List.length_drop, Array.length_toList, hld, hcs]; omega
            have HCur : Hid (cur.toList.take ((L.length + 1) * 3) = cellsE L ++ e3 z0E) := htk
            have HC1 : Hid (C1 = (cur.toList.take ((k + 1) * 3) ++ cellsE (L.drop k) ++ cur.toList.drop ((L.length + 1) * 3)).toArray) := hC1
            clear htk hC1 hone hsrc hsz hld
            have g1 : (k : Int) ≤ (L.length : Int) + 1 := by omega
            have g2 : (k : Int) + 1 ≤ (L.length : Int) + 1 := by omega
            have g3 : (0 : Int) ≤ (k : Int) + 1 := by omega
            have g4 : ((k : Int) + 1).toNat = k + 1 := by omega
            have g5 : IntKind.i64.wrap ((k : Int) + 1) = (k : Int) + 1 := by rw [IntKind.wrap_i64]; omega
            have g6 : ¬ cap = k := by omega
            have g7 : cap ≤ 9223372036854775807 := by unfold maxLen at hcm; omega
            have g8 : L.length + 1 - (k + 1) = L.length - k := by omega
            have hcp2 := hcp w2.drew hcur
            clear hcp
            have hc3 : (w2.drew.setRow gg C1).heap[gg]? = some (.cells C1 62 (0, 0)) := setRow_heap _ _ cur _ _ _ hcur
            have be3 : (w2.drew.setRow gg C1).heap[Be]? = some (.cells #[.int .i64 y.t, .string y.k, .string y.v] 62 (0, 0)) := (setRow_other _ _ _ _ (Ne.symm hgB)).trans be2
            have x0 : (w2.drew.setRow gg C1).cell? ⟨Be, 0, none⟩ = some (.int .i64 y.t) := by simp [World.cell?, be3]
            have x1 : (w2.drew.setRow gg C1).cell? ⟨Be, 1, none⟩ = some (.string y.k) := by simp [World.cell?, be3]
            have x2 : (w2.drew.setRow gg C1).cell? ⟨Be, 2, none⟩ = some (.string y.v) := by simp [World.cell?, be3]
            have hfz : ∀ i, (w2.drew.setRow gg C1).frozen? ⟨gg, i, none⟩ = false := fun i => frozen_of_row _ gg i _ _ hc3
            have hcl : ∀ i, i < cap * 3 → ∃ v, (w2.drew.setRow gg C1).cell? ⟨gg, i, none⟩ = some v := fun i hi => ⟨C1[i]'(by omega), by rw [cell_of_row _ gg _ _ _ _ hc3]; simp [hC1s, hi]⟩
            obtain ⟨o0, p0⟩ := hcl (k * 3) (by omega)
            obtain ⟨o1, p1⟩ := hcl (k * 3 + 1) (by omega)
            obtain ⟨o2, p2⟩ := hcl (k * 3 + 2) (by omega)
            have z0 := hfz (k * 3)
            have z1 := hfz (k * 3 + 1)
            have z2 := hfz (k * 3 + 2)
            clear hcl hfz
            have hrow := ins_row (y := y) hk hnc hcs HCur.out HC1.out
            have hh1 := heap_setCell_same (w2.drew.setRow gg C1) gg (k * 3) _ _ (.int .i64 y.t) hc3
            have hh2 := heap_setCell_same _ gg (k * 3 + 1) _ _ (.string y.k) hh1
            have hh3 := heap_setCell_same _ gg (k * 3 + 2) _ _ (.string y.v) hh2
            have HO3 : Hid (((((w2.drew.setRow gg C1).setCell ⟨gg, k * 3, none⟩ (.int .i64 y.t)).setCell ⟨gg, k * 3 + 1, none⟩ (.string y.k)).setCell ⟨gg, k * 3 + 2, none⟩ (.string y.v)).ownsRow W.heap.size 62 3 (.slice (some ⟨gg, 0, none⟩) (L.length + 1) cap) (L.take k ++ y :: L.drop k).length (cellsE (L.take k ++ y :: L.drop k))) := by
              have hll : (L.take k ++ y :: L.drop k).length = L.length + 1 := by have := (ins_perm (l := L) (i := k) (e := y)).length_eq; simpa using this
              rw [hll]
              exact ⟨by rw [cellsE_length, hll], .inr ⟨gg, cap, _, rfl, hgw, hh3, hnc, hcm, by simpa using hC1s, hrow⟩⟩
            have HOth : Hid (∀ i, i ≠ gg → ((((w2.drew.setRow gg C1).setCell ⟨gg, k * 3, none⟩ (.int .i64 y.t)).setCell ⟨gg, k * 3 + 1, none⟩ (.string y.k)).setCell ⟨gg, k * 3 + 2, none⟩ (.string y.v)).heap[i]? = w2.heap[i]?) := fun i hi =>
              (heap_setCell_other _ _ _ _ hi).trans ((heap_setCell_other _ _ _ _ hi).trans ((heap_setCell_other _ _ _ _ hi).trans (setRow_other _ _ _ _ hi)))
            have HR3 : Hid (RngIs ((((w2.drew.setRow gg C1).setCell ⟨gg, k * 3, none⟩ (.int .i64 y.t)).setCell ⟨gg, k * 3 + 1, none⟩ (.string y.k)).setCell ⟨gg, k * 3 + 2, none⟩ (.string y.v)) M W.heap.size l rst') := hr2.kept (HOth.out M hgM) (HOth.out _ hgi)
            have HQ3 : Hid (Below W.heap.size W ((((w2.drew.setRow gg C1).setCell ⟨gg, k * 3, none⟩ (.int .i64 y.t)).setCell ⟨gg, k * 3 + 1, none⟩ (.string y.k)).setCell ⟨gg, k * 3 + 2, none⟩ (.string y.v))) :=
              ((((hq2.drew.grown (grown_setRow w2.drew gg C1) hq2.size (fun j e => by cases e; exact hgw)).setCell (p := ⟨gg, k * 3, none⟩) hgw _).setCell (p := ⟨gg, k * 3 + 1, none⟩) hgw _).setCell (p := ⟨gg, k * 3 + 2, none⟩) hgw _)
            have HS3 : Hid (Srt (L.take k ++ y :: L.drop k)) := ins_srt HL.out HK.out HT.out
            have HP3 : Hid ((L.take k ++ y :: L.drop k ++ rst').Perm l) := by
              refine List.Perm.trans ?_ HP.out
              exact (ins_perm.append_right rst').trans (List.perm_middle (l₁ := L) (l₂ := rst') (a := y)).symm
            clear hrow hh1 hh2 hh3 HOth hr2 hq2
            by_cases hcap : cap = k + 1
            · subst hcap
              have hcp3 := fun ty sc => hcp2 ty 0 0 sc (fun h => by omega) (by omega)
              clear hcp2
              go_wp2_with fail
              refine region_tail 7 (by kernel_rfl) (by kernel_rfl) ?_
              simp only [List.take_succ_cons, List.take_zero, List.drop_succ_cons, List.drop_zero]
              still_step
              still_step
              still_step
              still_step
              still_step
              still_step
              still_step
              refine wpStill_nil ?_
              go_wp2_with (first | (at_builtin; refine wpList_copy_run3 _ rfl _ _ _ _ rfl _ _ rfl rfl (hcp3 _ _) ?_) | fail)
              go_roundw
              case rel => exact ⟨_, rst', HS3, HP3.out, HO3.out, HR3.out, HQ3.out⟩
              case measure => rw [HR3.out.left_eq, HM.out]; exact hlt
            · have hcp3 := fun ty dc sc => hcp2 ty ((k + 1) * 3) dc sc (fun _ => rfl) (by omega)
              clear hcp2
              go_wp2_with fail
              refine region_tail 7 (by kernel_rfl) (by kernel_rfl) ?_
              simp only [List.take_succ_cons, List.take_zero, List.drop_succ_cons, List.drop_zero]
              still_step
              still_step
              still_step
              still_step
              still_step
              still_step
              still_step
              refine wpStill_nil ?_
              go_wp2_with (first | (at_builtin; refine wpList_copy_run3 _ rfl _ _ _ _ rfl _ _ rfl rfl (hcp3 _ _ _) ?_) | fail)
              go_roundw
              case rel => exact ⟨_, rst', HS3, HP3.out, HO3.out, HR3.out, HQ3.out⟩
              case measure => rw [HR3.out.left_eq, HM.out]; exact hlt
          · have hp : 0 < k := by
              rcases Nat.eq_zero_or_pos k with h0 | hp
              · have h1 := HG.out
                rw [dif_neg (by omega)] at h1
                cases h1
              · exact hp
            have HK2 : Hid (∀ x ∈ L.drop (k - 1), cmpK y.t y.k x.t x.k < 0) := by
              have h1 := HG.out
              rw [dif_pos hp] at h1
              intro x hx
              rw [List.drop_eq_getElem_cons (by omega : k - 1 < L.length), show k - 1 + 1 = k by omega] at hx
              rcases List.mem_cons.1 hx with rfl | hx
              · exact gtB_lt h1.symm
              · exact HK.out x hx
            go_wp2_with fail
            go_roundw
            case rel => exact ⟨k - 1, by omega, by go_num, HK2, qc⟩
            case measure => simp [intOf]; omega
end Go.Proofs.YtindifjhocgkbaaGreatDoor
