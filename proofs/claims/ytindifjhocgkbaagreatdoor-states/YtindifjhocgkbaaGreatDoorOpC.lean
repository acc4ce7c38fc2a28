import Derived.Test.YtindifjhocgkbaaGreatDoorErrC
import Derived.Laws.AppendOwnNone
namespace Go.Proofs.YtindifjhocgkbaaGreatDoor
open Go.RowKit

theorem own_mono {w : World} {base base' e size n : Nat} {v : Value} {xs : List Value} (h : w.ownsRow base e size v n xs) (hb : base' ≤ base) : w.ownsRow base' e size v n xs := by
  refine ⟨h.1, ?_⟩
  rcases h.2 with h2 | ⟨g, cap, cur, hv, hg, r⟩
  · exact .inl h2
  · exact .inr ⟨g, cap, cur, hv, Nat.le_trans hb hg, r⟩

/-- A list of changes as cells. -/
def opC (o : OpD) : List Value := [.int .i64 o.kind, .int .i64 o.table, .string o.key, .string o.val]
def opsC (l : List OpD) : List Value := l.flatMap opC
theorem opsC_length (l : List OpD) : (opsC l).length = l.length * 4 := by
  induction l with
  | nil => rfl
  | cons o l ih => unfold opsC at *; simp [List.flatMap_cons, opC, ih]; omega
theorem opsC_get (l : List OpD) : ∀ i (h : i < l.length), (opsC l)[i * 4]? = some (.int .i64 l[i].kind) ∧ (opsC l)[i * 4 + 1]? = some (.int .i64 l[i].table) ∧ (opsC l)[i * 4 + 2]? = some (.string l[i].key) ∧ (opsC l)[i * 4 + 3]? = some (.string l[i].val) := by
  induction l with
  | nil => intro i h; simp at h
  | cons o l ih =>
    intro i h
    have e : opsC (o :: l) = opC o ++ opsC l := by simp [opsC, List.flatMap_cons]
    rw [e]
    cases i with
    | zero => simp [opC]
    | succ i =>
      have h' : i < l.length := by simpa using h
      have hh := ih i h'
      have a0 : (i + 1) * 4 = 4 + i * 4 := by omega
      simp only [a0, List.getElem_cons_succ]
      have sh : ∀ k, (opC o ++ opsC l)[4 + k]? = (opsC l)[k]? := fun k => by rw [List.getElem?_append_right (by simp [opC])]; congr 1; simp [opC]
      rw [show 4 + i * 4 + 1 = 4 + (i * 4 + 1) by omega, show 4 + i * 4 + 2 = 4 + (i * 4 + 2) by omega, show 4 + i * 4 + 3 = 4 + (i * 4 + 3) by omega, sh, sh, sh, sh]
      exact hh
theorem opsC_cells {w : World} {b off : Nat} {l : List OpD} (h : OpsAt w b off l) : ∀ j u, (opsC l)[j]? = some u → w.cell? ((⟨b, off, none⟩ : Addr).add j) = some u := by
  intro j u hu
  have hj : j < l.length * 4 := by rw [← opsC_length]; exact (List.getElem?_eq_some_iff.1 hu).1
  obtain ⟨i, hi, hr⟩ : ∃ i, i < l.length ∧ (j = i * 4 ∨ j = i * 4 + 1 ∨ j = i * 4 + 2 ∨ j = i * 4 + 3) := ⟨j / 4, by omega, by omega⟩
  obtain ⟨g0, g1, g2, g3⟩ := opsC_get l i hi
  have ha : (⟨b, off, none⟩ : Addr).add j = ⟨b, off + j, none⟩ := by simp [Addr.add]
  rw [ha]
  rcases hr with rfl | rfl | rfl | rfl
  · rw [g0] at hu; cases hu; exact h.c0 _ hi
  · rw [g1] at hu; cases hu; exact h.c1 _ hi
  · rw [g2] at hu; cases hu; exact h.c2 _ hi
  · rw [g3] at hu; cases hu; exact h.c3 _ hi
theorem opsC_one (l : List OpD) : ∀ u ∈ opsC l, u.oneCell' = true := by
  intro u hu
  simp only [opsC, List.mem_flatMap] at hu
  obtain ⟨o, _, ho⟩ := hu
  simp [opC] at ho
  rcases ho with rfl | rfl | rfl | rfl <;> rfl
/-- From an owned row of changes to where they lie. -/
theorem ops_of_own {w : World} {base : Nat} {v : Value} {l : List OpD} (h : w.ownsRow base 85 4 v l.length (opsC l)) : ∃ ao cap, v = .slice ao l.length cap ∧ l.length ≤ cap ∧ cap ≤ maxLen ∧ OpsIn w ao l ∧ (0 < l.length → ∃ g, ao = some ⟨g, 0, none⟩ ∧ base ≤ g ∧ v.ownBlock = some g) := by
  rcases h.2 with ⟨rfl, h0⟩ | ⟨g, cap, cur, rfl, hb, hg, hn, hm, hs, ht⟩
  · exact ⟨none, 0, by rw [h0], by omega, by unfold maxLen; omega, fun hp => by omega, fun hp => by omega⟩
  · refine ⟨some ⟨g, 0, none⟩, cap, rfl, hn, hm, fun hp => ⟨g, 0, rfl, (Array.getElem?_eq_some_iff.1 hg).1, ?_⟩, fun _ => ⟨g, rfl, hb, rfl⟩⟩
    have hc := h.cells (g := g) rfl
    have ha : ∀ j, (⟨g, 0, none⟩ : Addr).add j = ⟨g, j, none⟩ := fun j => by unfold Addr.add; split <;> simp_all
    refine ⟨fun i hi => ?_, fun i hi => ?_, fun i hi => ?_, fun i hi => ?_⟩
    · have := hc _ _ (opsC_get l i hi).1; rw [ha] at this; simpa using this
    · have := hc _ _ (opsC_get l i hi).2.1; rw [ha] at this; simpa using this
    · have := hc _ _ (opsC_get l i hi).2.2.1; rw [ha] at this; simpa using this
    · have := hc _ _ (opsC_get l i hi).2.2.2; rw [ha] at this; simpa using this

/-! ### Bytes -/
def beB (n : Int) : Nat → List UInt8
  | 0 => []
  | i + 1 => UInt8.ofNat (n / 2 ^ (8 * i) % 256).toNat :: beB n i
def opB (o : OpD) : List UInt8 := [UInt8.ofNat o.kind.toNat, UInt8.ofNat o.table.toNat] ++ o.key.data.toList ++ o.val.data.toList
def opsB (l : List OpD) : List UInt8 := l.flatMap opB
def encB (v : Int) (l : List OpD) : List UInt8 := beB v 8 ++ [UInt8.ofNat l.length] ++ opsB l
def cellsB (l : List UInt8) : List Value := l.map fun b => Value.int .u8 b.toNat
theorem cellsB_append (a b : List UInt8) : cellsB (a ++ b) = cellsB a ++ cellsB b := by simp [cellsB]
theorem byte_back (x : Int) (h0 : 0 ≤ x) (h1 : x < 256) : (((UInt8.ofNat x.toNat).toNat : Nat) : Int) = x := by
  simp [UInt8.toNat_ofNat']; omega
theorem beB_cells (n : Int) (k : Nat) : cellsB (beB n k) = beV n k := by
  induction k with
  | zero => rfl
  | succ k ih =>
    simp only [beB, beV, cellsB, List.map_cons] at ih ⊢
    rw [ih, byte_back _ (Int.emod_nonneg _ (by decide)) (Int.emod_lt_of_pos _ (by decide))]
theorem opB_cells {o : OpD} (h : kindB o.kind o.table = true) : cellsB (opB o) = opV o := by
  have h1 := kindB_in h
  simp only [opB, opV, cellsB, List.map_append, List.map_cons, List.map_nil, Lib.strCells]
  rw [byte_back _ (by omega) (by omega), byte_back _ (by omega) (by omega)]
theorem opsB_cells : ∀ (l : List OpD), (∀ j (hj : j < l.length), kindB l[j].kind l[j].table = true) → cellsB (opsB l) = opsV l
  | [], _ => rfl
  | o :: l, h => by
    have h0 : kindB o.kind o.table = true := h 0 (by simp)
    have ih := opsB_cells l (fun j hj => by have := h (j + 1) (by simpa using hj); simpa using this)
    simp only [opsB, opsV, List.flatMap_cons, cellsB_append] at ih ⊢
    rw [ih, opB_cells h0]
theorem encB_cells {v : Int} {l : List OpD} (h : (wrongD v l).1 = 0) : cellsB (encB v l) = encV v l := by
  obtain ⟨_, h2, h3⟩ := wrongD_ok h
  have hl : l.length ≤ 8 := by simp [cntB] at h2; omega
  unfold encB encV
  rw [cellsB_append, cellsB_append, beB_cells, opsB_cells l (fun j hj => (wrongN_ok (h3 j hj)).1)]
  congr 2
  simp [cellsB, UInt8.toNat_ofNat']
  omega
theorem cellsB_length (l : List UInt8) : (cellsB l).length = l.length := by simp [cellsB]
theorem encB_pos (v : Int) (l : List OpD) : 9 ≤ (encB v l).length := by simp [encB, beB]
/-- 'string(b)', b the call's own bytes. -/
theorem string_of_own {w : World} {base n : Nat} {b : Value} {l : List UInt8} (h : w.ownsRow base 5 1 b n (cellsB l)) : (convert 53 9 b).run Tryz.prog w = .ok (.string ⟨l.toArray⟩) w ∧ ∃ ao cap, b = .slice ao l.length cap := by
  have hn : n = l.length := by have := h.1; rw [cellsB_length] at this; omega
  subst hn
  rcases h.2 with ⟨rfl, h0⟩ | ⟨g, cap, cur, rfl, hb, hg, hn, hm, hs, ht⟩
  · have : l = [] := List.eq_nil_of_length_eq_zero h0
    subst this
    exact ⟨by kernel_rfl, none, 0, rfl⟩
  · refine ⟨run_convert_bytes_back w _ _ _ _ cap l Tryz.underlying53 Tryz.underlying5 Tryz.underlying9 (fun j hj => ?_), _, cap, rfl⟩
    exact h.cells (g := g) rfl j _ (by simp [cellsB, hj])
theorem string_of_nil (w : World) : (convert 53 9 (.slice none 0 0)).run Tryz.prog w = .ok (.string ⟨#[]⟩) w := by kernel_rfl
theorem four_new (w : World) (a b c d : Value) (t : TypeId) : ∀ j u, [a, b, c, d][j]? = some u → (w.alloc (.cells #[a, b, c, d] t)).cell? ((⟨w.heap.size, 0, none⟩ : Addr).add j) = some u := by
  intro j u hj
  match j, hj with
  | 0, hj => simp at hj; subst hj; simp [Addr.add]
  | 1, hj => simp at hj; subst hj; simp [Addr.add]
  | 2, hj => simp at hj; subst hj; simp [Addr.add]
  | 3, hj => simp at hj; subst hj; simp [Addr.add]
theorem op_new (W : World) (B : Nat) (hB : B = W.heap.size) (o : OpD) : ∀ j u, (opC o)[j]? = some u → (W.alloc (.cells #[.int .i64 o.kind, .int .i64 o.table, .string o.key, .string o.val] 85)).cell? ((⟨B, 0, none⟩ : Addr).add j) = some u := by
  subst hB; exact four_new W _ _ _ _ _
theorem opC_one (o : OpD) : ∀ u ∈ opC o, u.oneCell' = true := by
  intro u hu; simp [opC] at hu; rcases hu with rfl | rfl | rfl | rfl <;> rfl
theorem opsC_snoc (l : List OpD) (o : OpD) : opsC (l ++ [o]) = opsC l ++ opC o := by simp [opsC, List.flatMap_append]
theorem own_slice {w : World} {base e size n : Nat} {v : Value} {xs : List Value} (h : w.ownsRow base e size v n xs) : ∃ ao cp, v = .slice ao n cp := by
  rcases h.2 with ⟨rfl, rfl⟩ | ⟨g, cp, cur, rfl, _⟩
  · exact ⟨none, 0, rfl⟩
  · exact ⟨_, cp, rfl⟩
theorem Tryz.info85 : (Tryz.prog.info? 85).map (fun i => (i.zero, i.size, i.bytes)) = some (some (.agg #[.int .i64 0, .int .i64 0, .string ⟨#[]⟩, .string ⟨#[]⟩]), 4, 48) := by kernel_rfl
theorem bcells {W w1 : World} (hb : Below W.heap.size W w1) : (∀ b o, b < W.heap.size → w1.cell? ⟨b, o, none⟩ = W.cell? ⟨b, o, none⟩) ∧ (∀ b o, b < W.heap.size → w1.frozen? ⟨b, o, none⟩ = W.frozen? ⟨b, o, none⟩) :=
  ⟨fun b o h => hb.cell (p := ⟨b, o, none⟩) h, fun b o h => hb.frozen (p := ⟨b, o, none⟩) h⟩
end Go.Proofs.YtindifjhocgkbaaGreatDoor
