import Derived.Test.YtindifjhocgkbaaGreatDoorChk
import Derived.Lib.AppendStr
import Derived.Deep.Cut
namespace Go.Proofs.YtindifjhocgkbaaGreatDoor
open Go.RowKit

theorem Tryz.info5 : (Tryz.prog.info? 5).map (fun i => (i.zero, i.size, i.bytes)) = some (some (.int .u8 0), 1, 1) := by kernel_rfl

/-- The number's bytes, the highest first, from place i - 1 down. -/
def beV (n : Int) : Nat → List Value
  | 0 => []
  | i + 1 => .int .u8 (n / 2 ^ (8 * i) % 256) :: beV n i
def beTo (n : Int) (size : Nat) : Nat → List Value
  | 0 => []
  | k + 1 => beTo n size k ++ [.int .u8 (n / 2 ^ (8 * (size - 1 - k)) % 256)]
theorem beTo_eq (n : Int) (size k : Nat) (h : k ≤ size) : beTo n size k ++ beV n (size - k) = beV n size := by
  induction k with
  | zero => simp [beTo]
  | succ k ih =>
    have e : size - k = (size - (k + 1)) + 1 := by omega
    rw [← ih (by omega), e, beV, beTo, List.append_assoc, show size - 1 - k = size - (k + 1) by omega]; rfl

set_option maxRecDepth 10000 in
set_option maxHeartbeats 1000000 in
theorem appendNumber (base : Nat) (v : Value) (k size : Nat) (xs : List Value) (n : Int) (w : World) (hs8 : size ≤ 8) (hk : k ≤ 1000) (_h0 : 0 ≤ n) (hown : w.ownsRow base 5 1 v k xs) (hbase : base ≤ w.heap.size) :
    Calls Tryz.prog 105 #[v, .int .u64 n, .int .i64 size] w fun e w' => ∃ v', e = .returned v' ∧ w'.ownsRow base 5 1 v' (k + size) (xs ++ beV n size) ∧ Below base w w' := by
  obtain ⟨i0, hi, hz0, hz1, hz2⟩ := info_parts Tryz.info5
  go_enter Tryz.func105, Tryz.ntmps105
  go_wp2_with fail
  go_loopw [0, 7] (fun b i wr => ∃ j : Nat, j ≤ size ∧ i = .int .i64 ((size : Int) - 1 - j) ∧ wr.ownsRow base 5 1 b (k + j) (xs ++ beTo n size j) ∧ Below base w wr)
    (fun _ i _ => (intOf i + 1).toNat)
  case atStart => exact ⟨0, by omega, by go_num, by simpa [beTo] using hown, Below.refl _ _⟩
  case round =>
    obtain ⟨j, hj, rfl, hown', hq⟩ := hrel
    by_cases hlt : j < size
    · have hx : (0 : Int) ≤ (size : Int) - 1 - j := by omega
      go_wp2_with (at_builtin; refine wpList_append_own _ rfl _ _ 53 rfl base 5 i0 (.int .u8 0) 1 1 Tryz.underlying53 hi hz0 hz1 hz2 rfl (by decide) _ _ _ rfl (hown'.alloc _) ⟨wr.heap.size, 0, none⟩ 1 1 [.int .u8 (n / 2 ^ (8 * (size - 1 - j)) % 256)] rfl rfl ?c1 ?c2 ?c3 ?c4 ?c5 ?_)
      case c1 => intro i u hu; match i, hu with | 0, hu => simp at hu; subst hu; simp [Addr.add]
      case c2 => intro u hu; simp at hu; subst hu; rfl
      case c3 => unfold maxLen; omega
      case c4 => omega
      case c5 => have := hq.size; simp; omega
      intro v' w1 hown1 hgrow _
      go_wp2_with fail
      go_roundw
      case rel =>
        refine ⟨j + 1, by omega, by go_num, ?_, (hq.alloc (by have := hq.size; omega) _).grown hgrow (by have := hq.size; simp; omega) (fun b hb => (hown'.lt b hb).1)⟩
        rw [beTo]; exact hown1
      case measure => simp [intOf]; omega
    · obtain rfl : j = size := by omega
      go_wp2
      go_ret
      exact ⟨_, rfl, by have h := beTo_eq n j j (Nat.le_refl _); simp [beV] at h; rw [← h]; exact hown', hq⟩
end Go.Proofs.YtindifjhocgkbaaGreatDoor
namespace Go.Proofs.YtindifjhocgkbaaGreatDoor
open Go.RowKit

theorem keyB_size {t : Int} {k : ByteArray} (h : keyB t k = true) : k.size ≤ 6 := by
  unfold keyB at h
  split at h
  · simp at h; omega
  split at h
  · simp at h; omega
  · simp at h; omega
theorem valB_size {t : Int} {v : ByteArray} (h : valB t v = true) : v.size ≤ 4 := by
  unfold valB at h
  split at h
  · simp at h; omega
  · simp at h; omega
theorem fits_size {o : OpD} (h : fitsB o = true) : o.val.size ≤ 4 := by
  unfold fitsB at h
  split at h
  · rw [ByteArray.toList_eq, List.isEmpty_iff] at h
    have : o.val.data.toList.length = 0 := by rw [h]; rfl
    have h2 : o.val.size = o.val.data.toList.length := by rw [Array.length_toList]; rfl
    omega
  · exact valB_size h
theorem wrongN_ok {o : OpD} {l : List OpD} (h : wrongN o l = 0) : kindB o.kind o.table = true ∧ keyB o.table o.key = true ∧ l.any (sameKey o.table o.key) = false ∧ fitsB o = true := by
  unfold wrongN at h
  split at h
  · omega
  split at h
  · omega
  split at h
  · omega
  split at h
  · omega
  simp_all
theorem firstW_all {l : List OpD} : ∀ (n i : Nat), (firstW l n i).1 = 0 → ∀ j, i ≤ j → j < i + n → wrongAt l j = 0
  | 0, i, _, j, h1, h2 => by omega
  | n + 1, i, h, j, h1, h2 => by
    rw [firstW] at h
    split at h
    · rename_i h0
      by_cases e : j = i
      · rw [e]; exact h0
      · exact firstW_all n (i + 1) h j (by omega) (by omega)
    · rename_i h0; exact absurd h h0
theorem wrongD_ok {v : Int} {l : List OpD} (h : (wrongD v l).1 = 0) : verB v = true ∧ cntB l.length = true ∧ ∀ j (hj : j < l.length), wrongN l[j] (l.take j) = 0 := by
  unfold wrongD at h
  split at h
  · simp at h
  split at h
  · simp at h
  rename_i h1 h2
  refine ⟨by simpa using h1, by simpa using h2, fun j hj => ?_⟩
  rw [← wrongAt_eq hj]
  exact firstW_all _ _ h j (by omega) (by omega)
theorem wrongD_zero {v : Int} {l : List OpD} (h : (wrongD v l).1 = 0) : wrongD v l = (0, 0) := by
  obtain ⟨h1, h2, h3⟩ := wrongD_ok h
  rw [wrongD_0 h1 h2]
  have key : ∀ (n i : Nat), i + n ≤ l.length → firstW l n i = (0, 0) := by
    intro n
    induction n with
    | zero => intro i _; rfl
    | succ n ih => intro i hi; rw [firstW, if_pos (by rw [wrongAt_eq (by omega)]; exact h3 i (by omega))]; exact ih (i + 1) (by omega)
  exact key _ _ (by omega)

/-- A change's bytes, as cells. -/
def opV (o : OpD) : List Value := [.int .u8 o.kind, .int .u8 o.table] ++ Lib.strCells o.key ++ Lib.strCells o.val
def opsV (l : List OpD) : List Value := l.flatMap opV
def encV (v : Int) (l : List OpD) : List Value := beV v 8 ++ [.int .u8 (l.length : Int)] ++ opsV l
theorem opsV_step (l : List OpD) (j : Nat) (h : j < l.length) : opsV (l.take (j + 1)) = opsV (l.take j) ++ opV l[j] := by
  unfold opsV; rw [List.take_succ_eq_append_getElem h, List.flatMap_append]; simp
theorem opV_length (o : OpD) : (opV o).length = 2 + o.key.size + o.val.size := by simp [opV, Lib.strCells_length]; omega
theorem opsV_length {v : Int} {l : List OpD} (h : (wrongD v l).1 = 0) (j : Nat) (hj : j ≤ l.length) : (opsV (l.take j)).length ≤ j * 12 := by
  obtain ⟨_, _, h3⟩ := wrongD_ok h
  induction j with
  | zero => simp [opsV]
  | succ j ih =>
    rw [opsV_step l j (by omega), List.length_append, opV_length]
    have hw := wrongN_ok (h3 j (by omega))
    have := keyB_size hw.2.1
    have := fits_size hw.2.2.2
    have := ih (by omega)
    omega
theorem beV_length (n : Int) (k : Nat) : (beV n k).length = k := by induction k with | zero => rfl | succ k ih => simp [beV, ih]

theorem two_new (w : World) (x y : Value) (t : TypeId) : ∀ j u, [x, y][j]? = some u → (w.alloc (.cells #[x, y] t)).cell? ((⟨w.heap.size, 0, none⟩ : Addr).add j) = some u := by
  intro j u hj
  match j, hj with
  | 0, hj => simp at hj; subst hj; simp [Addr.add]
  | 1, hj => simp at hj; subst hj; simp [Addr.add]
theorem one_new (w : World) (x : Value) (t : TypeId) : ∀ j u, [x][j]? = some u → (w.alloc (.cells #[x] t)).cell? ((⟨w.heap.size, 0, none⟩ : Addr).add j) = some u := by
  intro j u hj
  match j, hj with
  | 0, hj => simp at hj; subst hj; simp [Addr.add]
theorem oneCells2 (k : IntKind) (x y : Int) : ∀ u ∈ [Value.int k x, Value.int k y], u.oneCell' = true := by
  intro u hu; simp at hu; rcases hu with rfl | rfl <;> rfl
theorem oneCells1 (k : IntKind) (x : Int) : ∀ u ∈ [Value.int k x], u.oneCell' = true := by
  intro u hu; simp at hu; subst hu; rfl

/-- A block of another element type is none of a row's. -/
theorem own_ne {w : World} {base e size n : Nat} {v : Value} {xs : List Value} {b : Nat} {c : Array Value} {t : TypeId} {f : Nat × Nat} (h : w.ownsRow base e size v n xs) (hb : w.heap[b]? = some (.cells c t f)) (hne : t ≠ e) : some b ≠ v.ownBlock := by
  rcases h.2 with ⟨rfl, _⟩ | ⟨g, cap, cur, rfl, hbg, hg, _⟩
  · simp [Value.ownBlock]
  · simp only [Value.ownBlock]
    intro e'
    have e'' : b = g := by simpa using e'
    rw [e'', hg] at hb
    simp only [Option.some.injEq, Obj.cells.injEq] at hb
    exact hne hb.2.1.symm
theorem grown_below {B : Nat} {a w w' : World} {v : Value} {base e size n : Nat} {xs : List Value} (h : Below B a w) (ho : w.ownsRow base e size v n xs) (hg : w.grownBy w' v.ownBlock) (hB : B ≤ w.heap.size) (hb : B ≤ base) : Below B a w' :=
  h.grown hg hB (fun k hk => Nat.le_trans hb (ho.lt k hk).1)

/-- What a round of Encode's loop knows: the bytes so far, the change's own block, nothing old has turned. -/
structure Rnd (w W : World) (B : Nat) (o : OpD) (b : Value) (n : Nat) (xs : List Value) : Prop where
  own : W.ownsRow (w.heap.size + 1) 5 1 b n xs
  blk : W.heap[B]? = some (.cells #[.int .i64 o.kind, .int .i64 o.table, .string o.key, .string o.val] 85 (0, 0))
  q : Below w.heap.size w W
theorem Rnd.alloc {w W : World} {B : Nat} {o : OpD} {b : Value} {n : Nat} {xs : List Value} (h : Rnd w W B o b n xs) (x : Obj) : Rnd w (W.alloc x) B o b n xs :=
  ⟨h.own.alloc x, by rw [Below.heap_alloc _ _ _ (Array.getElem?_eq_some_iff.1 h.blk).1]; exact h.blk, h.q.alloc h.q.size x⟩
theorem Rnd.grow {w W W' : World} {B : Nat} {o : OpD} {b b' : Value} {n n' : Nat} {xs xs' : List Value} (h : Rnd w W B o b n xs) (hg : W.grownBy W' b.ownBlock) (ho : W'.ownsRow (w.heap.size + 1) 5 1 b' n' xs') : Rnd w W' B o b' n' xs' :=
  ⟨ho, by rw [hg.block B (Array.getElem?_eq_some_iff.1 h.blk).1 (own_ne h.own h.blk (by decide))]; exact h.blk, grown_below h.q h.own hg h.q.size (by omega)⟩
theorem Rnd.c {w W : World} {B : Nat} {o : OpD} {b : Value} {n : Nat} {xs : List Value} (h : Rnd w W B o b n xs) :
    W.cell? ⟨B, 0, none⟩ = some (.int .i64 o.kind) ∧ W.cell? ⟨B, 1, none⟩ = some (.int .i64 o.table) ∧ W.cell? ⟨B, 2, none⟩ = some (.string o.key) ∧ W.cell? ⟨B, 3, none⟩ = some (.string o.val) := by
  have hb := h.blk
  refine ⟨?_, ?_, ?_, ?_⟩ <;> simp [World.cell?, hb]
end Go.Proofs.YtindifjhocgkbaaGreatDoor
namespace Go.Proofs.YtindifjhocgkbaaGreatDoor
open Go.RowKit

/-- An entry's bytes, as cells. -/
def enV (t : Int) (k v : ByteArray) : List Value := [.int .u8 t] ++ Lib.strCells k ++ Lib.strCells v
/-- The row, and the key's own block. -/
structure RndK (base : Nat) (w W : World) (B : Nat) (t : Int) (k : ByteArray) (b : Value) (n : Nat) (xs : List Value) : Prop where
  own : W.ownsRow base 5 1 b n xs
  blk : W.heap[B]? = some (.cells #[.int .i64 t, .string k] 83 (0, 0))
  q : Below base w W
theorem RndK.alloc {base : Nat} {w W : World} {B : Nat} {t : Int} {k : ByteArray} {b : Value} {n : Nat} {xs : List Value} (h : RndK base w W B t k b n xs) (hb : base ≤ w.heap.size) (x : Obj) : RndK base w (W.alloc x) B t k b n xs :=
  ⟨h.own.alloc x, by rw [Below.heap_alloc _ _ _ (Array.getElem?_eq_some_iff.1 h.blk).1]; exact h.blk, h.q.alloc (Nat.le_trans hb h.q.size) x⟩
theorem RndK.grow {base : Nat} {w W W' : World} {B : Nat} {t : Int} {k : ByteArray} {b b' : Value} {n n' : Nat} {xs xs' : List Value} (h : RndK base w W B t k b n xs) (hb : base ≤ w.heap.size) (hg : W.grownBy W' b.ownBlock) (ho : W'.ownsRow base 5 1 b' n' xs') : RndK base w W' B t k b' n' xs' :=
  ⟨ho, by rw [hg.block B (Array.getElem?_eq_some_iff.1 h.blk).1 (own_ne h.own h.blk (by decide))]; exact h.blk, grown_below h.q h.own hg (Nat.le_trans hb h.q.size) (Nat.le_refl _)⟩
theorem RndK.c {base : Nat} {w W : World} {B : Nat} {t : Int} {k : ByteArray} {b : Value} {n : Nat} {xs : List Value} (h : RndK base w W B t k b n xs) :
    W.cell? ⟨B, 0, none⟩ = some (.int .i64 t) ∧ W.cell? ⟨B, 1, none⟩ = some (.string k) := by
  have hb := h.blk
  refine ⟨?_, ?_⟩ <;> simp [World.cell?, hb]

set_option maxRecDepth 10000 in
set_option maxHeartbeats 2000000 in
theorem appendEntry (base : Nat) (b : Value) (n : Nat) (xs : List Value) (t : Int) (k v : ByteArray) (w : World) (ht0 : 0 ≤ t) (ht3 : t < 3) (hk : k.size ≤ 6) (hv : v.size ≤ 4) (hn : n ≤ 100000000) (hown : w.ownsRow base 5 1 b n xs) (hbase : base ≤ w.heap.size) :
    Calls Tryz.prog 106 #[b, .agg #[.int .i64 t, .string k], .string v] w fun e w' => ∃ b', e = .returned b' ∧ w'.ownsRow base 5 1 b' (n + (enV t k v).length) (xs ++ enV t k v) ∧ Below base w w' := by
  obtain ⟨i0, hi, hz0, hz1, hz2⟩ := info_parts Tryz.info5
  have hlen : (enV t k v).length = 1 + k.size + v.size := by simp [enV, Lib.strCells_length]; omega
  have R0 : RndK base w (w.alloc (.cells #[.int .i64 t, .string k] 83)) w.heap.size t k b n xs := ⟨hown.alloc _, heap_alloc_new _ _, (Below.refl _ _).alloc hbase _⟩
  have R1 := R0.alloc hbase (.cells #[.int .u8 t] 5)
  go_enter Tryz.func106, Tryz.ntmps106
  go_wp2_with (first | (at_builtin; refine wpList_append_own _ rfl _ _ 53 rfl base 5 i0 (.int .u8 0) 1 1 Tryz.underlying53 hi hz0 hz1 hz2 rfl (by decide) b _ _ rfl R1.own ⟨w.heap.size + 1, 0, none⟩ 1 1 [.int .u8 t] rfl rfl (by have h2 := one_new (w.alloc (.cells #[.int .i64 t, .string k] 83)) (.int .u8 t) 5; simpa using h2) (oneCells1 _ _) (by unfold maxLen; omega) (by omega) (by simp; omega) ?_; intro b4 w4 hown4 hgrow4 _; have R4 := R1.grow hbase hgrow4 hown4; obtain ⟨-, k4⟩ := R4.c) | (at_builtin; refine Lib.wpList_append_own_string _ rfl _ _ 53 9 rfl base 5 i0 Tryz.underlying53 Tryz.underlying9 hi hz0 hz1 hz2 b4 _ _ rfl R4.own k rfl (by unfold maxLen; omega) (by omega) (by have h := R4.q.size; omega) ?_; intro b5 w5 hown5 hgrow5 _; have R5 := R4.grow hbase hgrow5 hown5; obtain ⟨-, k5⟩ := R5.c) | (at_builtin; refine Lib.wpList_append_own_string _ rfl _ _ 53 9 rfl base 5 i0 Tryz.underlying53 Tryz.underlying9 hi hz0 hz1 hz2 b5 _ _ rfl R5.own v rfl (by unfold maxLen; omega) (by omega) (by have h := R5.q.size; omega) ?_; intro b6 w6 hown6 hgrow6 _; have R6 := R5.grow hbase hgrow6 hown6))
  go_ret
  refine ⟨_, rfl, ?_, R6.q⟩
  rw [hlen]
  have ho := R6.own
  simpa [enV, List.append_assoc, Nat.add_assoc] using ho
end Go.Proofs.YtindifjhocgkbaaGreatDoor
