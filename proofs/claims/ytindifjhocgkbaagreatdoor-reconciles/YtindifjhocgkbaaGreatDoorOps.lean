import Derived.Test.YtindifjhocgkbaaGreatDoorLeafB
namespace Go.Proofs.YtindifjhocgkbaaGreatDoor
open Go.RowKit

/-- A change, as data. -/
structure OpD where
  kind : Int
  table : Int
  key : ByteArray
  val : ByteArray

/-- The changes of a list lie one behind the other from an address on. -/
structure OpsAt (w : World) (b off : Nat) (l : List OpD) : Prop where
  c0 : ∀ i (h : i < l.length), w.cell? ⟨b, off + i * 4, none⟩ = some (.int .i64 l[i].kind)
  c1 : ∀ i (h : i < l.length), w.cell? ⟨b, off + i * 4 + 1, none⟩ = some (.int .i64 l[i].table)
  c2 : ∀ i (h : i < l.length), w.cell? ⟨b, off + i * 4 + 2, none⟩ = some (.string l[i].key)
  c3 : ∀ i (h : i < l.length), w.cell? ⟨b, off + i * 4 + 3, none⟩ = some (.string l[i].val)
/-- A slice of changes: its address, where it is not empty. -/
def OpsIn (w : World) (ao : Option Addr) (l : List OpD) : Prop := 0 < l.length → ∃ b off, ao = some ⟨b, off, none⟩ ∧ b < w.heap.size ∧ OpsAt w b off l
theorem OpsAt.keep {w w' : World} {B b off : Nat} {l : List OpD} (h : OpsAt w b off l) (hb : b < B) (q : Below B w w') : OpsAt w' b off l :=
  ⟨fun i hi => (q.cell (p := ⟨b, off + i * 4, none⟩) hb).trans (h.c0 i hi), fun i hi => (q.cell (p := ⟨b, off + i * 4 + 1, none⟩) hb).trans (h.c1 i hi),
    fun i hi => (q.cell (p := ⟨b, off + i * 4 + 2, none⟩) hb).trans (h.c2 i hi), fun i hi => (q.cell (p := ⟨b, off + i * 4 + 3, none⟩) hb).trans (h.c3 i hi)⟩
theorem OpsIn.keep {w w' : World} {ao : Option Addr} {l : List OpD} (h : OpsIn w ao l) (q : Below w.heap.size w w') : OpsIn w' ao l := by
  intro hn
  obtain ⟨b, off, e, hb, ho⟩ := h hn
  exact ⟨b, off, e, Nat.lt_of_lt_of_le hb q.size, ho.keep hb q⟩
theorem OpsIn.take {w : World} {ao : Option Addr} {l : List OpD} (h : OpsIn w ao l) (n : Nat) : OpsIn w ao (l.take n) := by
  intro hn
  have hl := List.length_take_le n l
  have hl' := List.length_take_le' n l
  obtain ⟨b, off, e, hb, ho⟩ := h (by omega)
  refine ⟨b, off, e, hb, ⟨fun i hi => ?_, fun i hi => ?_, fun i hi => ?_, fun i hi => ?_⟩⟩
  · rw [List.getElem_take]; exact ho.c0 i (by omega)
  · rw [List.getElem_take]; exact ho.c1 i (by omega)
  · rw [List.getElem_take]; exact ho.c2 i (by omega)
  · rw [List.getElem_take]; exact ho.c3 i (by omega)
theorem below_alloc (w : World) (o : Obj) : Below w.heap.size w (w.alloc o) := (Below.refl _ _).alloc (Nat.le_refl _) _
theorem below_trans {a b c : World} (h : Below a.heap.size a b) (k : Below b.heap.size b c) : Below a.heap.size a c := h.trans (k.mono h.size)
theorem below_drawn (w : World) (n : Nat) : Below w.heap.size w (w.drewN n) := below_drewN (Below.refl _ _) n
theorem below_drew (w : World) : Below w.heap.size w w.drew := (Below.refl _ _).drew

def sameKey (t : Int) (k : ByteArray) (o : OpD) : Bool := o.table == t && o.key.toList == k.toList
theorem any_step (t : Int) (k : ByteArray) (l : List OpD) (j : Nat) (h : j < l.length) : (l.take (j + 1)).any (sameKey t k) = ((l.take j).any (sameKey t k) || sameKey t k l[j]) := by
  rw [List.take_succ_eq_append_getElem h, List.any_append]; simp
theorem any_of {t : Int} {k : ByteArray} {l : List OpD} {j : Nat} (h : j < l.length) (e : l[j].table = t) (e' : l[j].key.toList = k.toList) : l.any (sameKey t k) = true :=
  List.any_eq_true.2 ⟨l[j], List.getElem_mem h, by simp [sameKey, e, e']⟩

set_option maxHeartbeats 400000 in
theorem changed (ao : Option Addr) (cap : Nat) (l : List OpD) (t : Int) (k : ByteArray) (w : World) (hl : l.length ≤ 8) (ho : OpsIn w ao l) :
    Calls Tryz.prog 116 #[.slice ao l.length cap, .agg #[.int .i64 t, .string k]] w fun e w' => e = .returned (.bool (l.any (sameKey t k))) ∧ Below w.heap.size w w' := by
  go_enter Tryz.func116, Tryz.ntmps116
  go_wp2
  go_loopw [6, 9] (fun _ i wr => ∃ j : Nat, j ≤ l.length ∧ i = .int .i64 j ∧ (l.take j).any (sameKey t k) = false ∧ Below w.heap.size w wr ∧ w.heap.size < wr.heap.size ∧ wr.cell? ⟨w.heap.size, 0, none⟩ = some (.int .i64 t) ∧ wr.cell? ⟨w.heap.size, 1, none⟩ = some (.string k))
    (fun _ i _ => l.length - (intOf i).toNat)
  case atStart => exact ⟨0, Nat.zero_le _, rfl, rfl, (Below.refl _ _).alloc (Nat.le_refl _) _, by simp, by simp, by simp⟩
  case round =>
    obtain ⟨j, hj, rfl, hno, hq, hsz, k0, k1⟩ := hrel
    have HNO : Hid ((l.take j).any (sameKey t k) = false) := hno
    clear hno
    by_cases hlt : j < l.length
    · obtain ⟨b, off, rfl, hb, ho'⟩ := ho (by omega)
      have d0 := (hq.cell (p := ⟨b, off + j * 4, none⟩) hb).trans (ho'.c0 j hlt)
      have d1 := (hq.cell (p := ⟨b, off + j * 4 + 1, none⟩) hb).trans (ho'.c1 j hlt)
      have d2 := (hq.cell (p := ⟨b, off + j * 4 + 2, none⟩) hb).trans (ho'.c2 j hlt)
      have d3 := (hq.cell (p := ⟨b, off + j * 4 + 3, none⟩) hb).trans (ho'.c3 j hlt)
      by_cases e1 : l[j].table = t
      · by_cases e2 : l[j].key.toList = k.toList
        · have HA : Hid (l.any (sameKey t k) = true) := any_of hlt e1 e2
          go_wp2
          go_ret
          exact ⟨ret_bool HA.out.symm, hq.alloc (by omega) _⟩
        · have hs := any_step t k l j hlt
          rw [HNO.out, show sameKey t k l[j] = false by simp [sameKey, e2]] at hs
          have HS : Hid _ := hs
          clear hs
          go_wp2
          go_roundw
          case rel => exact ⟨j + 1, by omega, by go_num, HS.out, hq.alloc (by omega) _, by simp; omega, (World.cell?_alloc_lt _ _ _ hsz).trans k0, (World.cell?_alloc_lt _ _ _ hsz).trans k1⟩
          case measure => simp [intOf]; omega
      · have hs := any_step t k l j hlt
        rw [HNO.out, show sameKey t k l[j] = false by simp [sameKey, e1]] at hs
        have HS : Hid _ := hs
        clear hs
        go_wp2
        go_roundw
        case rel => exact ⟨j + 1, by omega, by go_num, HS.out, hq.alloc (by omega) _, by simp; omega, (World.cell?_alloc_lt _ _ _ hsz).trans k0, (World.cell?_alloc_lt _ _ _ hsz).trans k1⟩
        case measure => simp [intOf]; omega
    · obtain rfl : j = l.length := by omega
      go_wp2
      go_ret
      exact ⟨ret_bool (by have h := HNO.out; rw [List.take_length] at h; exact h.symm), hq⟩

def fitsB (o : OpD) : Bool := if o.kind = 2 then o.val.toList.isEmpty else valB o.table o.val
theorem fits2 {o : OpD} (h : o.kind = 2) : fitsB o = o.val.toList.isEmpty := by simp [fitsB, h]
theorem fits1 {o : OpD} (h : ¬ o.kind = 2) : fitsB o = valB o.table o.val := by simp [fitsB, h]
set_option maxHeartbeats 400000 in
theorem valueFits (o : OpD) (w : World) (h0 : 0 ≤ o.table) (h3 : o.table < 3) (g : Glob w) :
    Calls Tryz.prog 117 #[.agg #[.int .i64 o.kind, .int .i64 o.table, .string o.key, .string o.val]] w fun e w' => e = .returned (.bool (fitsB o)) ∧ Below w.heap.size w w' := by
  have gA : ∀ x, Glob (w.alloc x) := fun x => g.keep (below_alloc w x)
  by_cases hk : o.kind = 2
  · have hb : (o.kind == 2) = true := by simpa using hk
    rw [fits2 hk]
    clear hk
    go_enter Tryz.func117, Tryz.ntmps117
    go_wp2
    go_ret
    exact ⟨rfl, below_alloc _ _⟩
  · have hb : (o.kind == 2) = false := by simpa using hk
    rw [fits1 hk]
    clear hk
    go_enter Tryz.func117, Tryz.ntmps117
    go_wp2_with fail
    refine (isValue _ _ _ h0 h3 (gA _)).mono ?_
    rintro e w1 ⟨rfl, rfl⟩
    go_wp2
    go_ret
    exact ⟨rfl, below_alloc _ _⟩

def wrongN (o : OpD) (l : List OpD) : Int :=
  if kindB o.kind o.table = false then 6 else if keyB o.table o.key = false then 7 else if l.any (sameKey o.table o.key) = true then 8 else if fitsB o = false then 9 else 0
theorem wrongN_6 {o : OpD} {l : List OpD} (h : kindB o.kind o.table = false) : wrongN o l = 6 := by simp [wrongN, h]
theorem wrongN_7 {o : OpD} {l : List OpD} (h : kindB o.kind o.table = true) (h' : keyB o.table o.key = false) : wrongN o l = 7 := by simp [wrongN, h, h']
theorem wrongN_8 {o : OpD} {l : List OpD} (h : kindB o.kind o.table = true) (h' : keyB o.table o.key = true) (h'' : l.any (sameKey o.table o.key) = true) : wrongN o l = 8 := by simp only [wrongN, h, h', h'']; rfl
theorem wrongN_9 {o : OpD} {l : List OpD} (h : kindB o.kind o.table = true) (h' : keyB o.table o.key = true) (h'' : l.any (sameKey o.table o.key) = false) (h3 : fitsB o = false) : wrongN o l = 9 := by simp only [wrongN, h, h', h'', h3]; rfl
theorem wrongN_0 {o : OpD} {l : List OpD} (h : kindB o.kind o.table = true) (h' : keyB o.table o.key = true) (h'' : l.any (sameKey o.table o.key) = false) (h3 : fitsB o = true) : wrongN o l = 0 := by simp only [wrongN, h, h', h'', h3]; rfl
theorem kindB_in {k t : Int} (h : kindB k t = true) : (k = 1 ∨ k = 2) ∧ 0 ≤ t ∧ t < 3 := by simpa [kindB] using h
theorem kindB_out {k t : Int} (h : kindB k t = false) : ¬ ((k = 1 ∨ k = 2) ∧ 0 ≤ t ∧ t < 3) := by
  intro h'; have : kindB k t = true := by simpa [kindB] using h'
  rw [this] at h; cases h

/-- The four cells of a boxed change, behind calls that write nothing old. -/
theorem box4 {W w1 : World} {B : Nat} {a b c d : Value} (h : Below W.heap.size W w1) (hB : B < W.heap.size) (e0 : W.cell? ⟨B, 0, none⟩ = some a) (e1 : W.cell? ⟨B, 1, none⟩ = some b) (e2 : W.cell? ⟨B, 2, none⟩ = some c) (e3 : W.cell? ⟨B, 3, none⟩ = some d) :
    w1.cell? ⟨B, 0, none⟩ = some a ∧ w1.cell? ⟨B, 1, none⟩ = some b ∧ w1.cell? ⟨B, 2, none⟩ = some c ∧ w1.cell? ⟨B, 3, none⟩ = some d :=
  ⟨(h.cell (p := ⟨B, 0, none⟩) hB).trans e0, (h.cell (p := ⟨B, 1, none⟩) hB).trans e1, (h.cell (p := ⟨B, 2, none⟩) hB).trans e2, (h.cell (p := ⟨B, 3, none⟩) hB).trans e3⟩

set_option maxHeartbeats 1000000 in
theorem wWrong (o : OpD) (ao : Option Addr) (cap : Nat) (l : List OpD) (w : World) (hl : l.length ≤ 8) (ho : OpsIn w ao l) (g : Glob w) :
    Calls Tryz.prog 96 #[.agg #[.int .i64 o.kind, .int .i64 o.table, .string o.key, .string o.val], .slice ao l.length cap] w fun e w' => e = .returned (.int .i64 (wrongN o l)) ∧ Below w.heap.size w w' := by
  have gA : ∀ x, Glob (w.alloc x) := fun x => g.keep (below_alloc w x)
  have oA : ∀ x, OpsIn (w.alloc x) ao l := fun x => ho.keep (below_alloc w x)
  cases hk : kindB o.kind o.table
  · rw [wrongN_6 hk]
    go_enter Tryz.func96, Tryz.ntmps96
    go_wp2_with fail
    refine (isKind _ _ _).mono ?_
    rintro e w1 ⟨rfl, rfl⟩
    go_wp2
    go_ret
    exact ⟨rfl, below_alloc _ _⟩
  obtain ⟨-, h0, h3⟩ := kindB_in hk
  cases hy : keyB o.table o.key
  · rw [wrongN_7 hk hy]
    go_enter Tryz.func96, Tryz.ntmps96
    go_wp2_with fail
    refine (isKind _ _ _).mono ?_
    rintro e w1 ⟨rfl, rfl⟩
    go_wp2_with fail
    refine (isKey _ _ _ h0 h3 (gA _)).mono ?_
    rintro e w1 ⟨rfl, q1⟩
    go_wp2
    go_ret
    exact ⟨rfl, below_trans (below_alloc _ _) q1⟩
  cases ha : l.any (sameKey o.table o.key)
  rotate_left
  · rw [wrongN_8 hk hy ha]
    go_enter Tryz.func96, Tryz.ntmps96
    go_wp2_with fail
    refine (isKind _ _ _).mono ?_
    rintro e w1 ⟨rfl, rfl⟩
    go_wp2_with fail
    refine (isKey _ _ _ h0 h3 (gA _)).mono ?_
    rintro e w1 ⟨rfl, q1⟩
    obtain ⟨b0, b1, b2, b3⟩ := box4 (B := w.heap.size) q1 (by simp) (by simp; rfl) (by simp; rfl) (by simp; rfl) (by simp; rfl)
    have o1 := (oA _).keep q1
    go_wp2_with fail
    refine (changed _ _ _ _ _ _ hl o1).mono ?_
    rintro e w2 ⟨rfl, q2⟩
    go_wp2
    go_ret
    exact ⟨rfl, below_trans (below_trans (below_alloc _ _) q1) q2⟩
  cases hf : fitsB o
  · rw [wrongN_9 hk hy ha hf]
    go_enter Tryz.func96, Tryz.ntmps96
    go_wp2_with fail
    refine (isKind _ _ _).mono ?_
    rintro e w1 ⟨rfl, rfl⟩
    go_wp2_with fail
    refine (isKey _ _ _ h0 h3 (gA _)).mono ?_
    rintro e w1 ⟨rfl, q1⟩
    obtain ⟨b0, b1, b2, b3⟩ := box4 (B := w.heap.size) q1 (by simp) (by simp; rfl) (by simp; rfl) (by simp; rfl) (by simp; rfl)
    have o1 := (oA _).keep q1
    have g1 := (gA _).keep q1
    go_wp2_with fail
    refine (changed _ _ _ _ _ _ hl o1).mono ?_
    rintro e w2 ⟨rfl, q2⟩
    obtain ⟨f0, f1, f2, f3⟩ := box4 (B := w.heap.size) q2 (by have := q1.size; simp at this; omega) b0 b1 b2 b3
    have g2 := g1.keep q2
    go_wp2_with fail
    refine (valueFits _ _ h0 h3 g2).mono ?_
    rintro e w3 ⟨rfl, q3⟩
    go_wp2
    go_ret
    exact ⟨rfl, below_trans (below_trans (below_trans (below_alloc _ _) q1) q2) q3⟩
  · rw [wrongN_0 hk hy ha hf]
    go_enter Tryz.func96, Tryz.ntmps96
    go_wp2_with fail
    refine (isKind _ _ _).mono ?_
    rintro e w1 ⟨rfl, rfl⟩
    go_wp2_with fail
    refine (isKey _ _ _ h0 h3 (gA _)).mono ?_
    rintro e w1 ⟨rfl, q1⟩
    obtain ⟨b0, b1, b2, b3⟩ := box4 (B := w.heap.size) q1 (by simp) (by simp; rfl) (by simp; rfl) (by simp; rfl) (by simp; rfl)
    have o1 := (oA _).keep q1
    have g1 := (gA _).keep q1
    go_wp2_with fail
    refine (changed _ _ _ _ _ _ hl o1).mono ?_
    rintro e w2 ⟨rfl, q2⟩
    obtain ⟨f0, f1, f2, f3⟩ := box4 (B := w.heap.size) q2 (by have := q1.size; simp at this; omega) b0 b1 b2 b3
    have g2 := g1.keep q2
    go_wp2_with fail
    refine (valueFits _ _ h0 h3 g2).mono ?_
    rintro e w3 ⟨rfl, q3⟩
    go_wp2
    go_ret
    exact ⟨rfl, below_trans (below_trans (below_trans (below_alloc _ _) q1) q2) q3⟩
end Go.Proofs.YtindifjhocgkbaaGreatDoor
