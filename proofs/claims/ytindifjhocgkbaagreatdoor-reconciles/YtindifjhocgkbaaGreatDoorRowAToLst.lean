import Derived.Test.YtindifjhocgkbaaGreatDoorRows
import Derived.Test.YtindifjhocgkbaaGreatDoorParts
import Derived.Test.YtindifjhocgkbaaGreatDoorErrCToKit
import Derived.ChangeSame
import Derived.ChangeVars
import Derived.JoinedOf
import Derived.RowKit
import Derived.RowKitTokens
import Derived.LaidLaws
import Derived.LaidHandle
import Derived.Stop.Joined
import Derived.Lib.LaidTab
import Derived.Stop.LaidErr
import Derived.Lib.SmallJoins
import Derived.Deep.Slices
import Derived.Deep.Strs
import Derived.Carry
import Derived.SizedLaws
import Derived.StringKeys
import Derived.Test.YtindifjhocgkbaaGreatDoorOps
import Derived.Lib.Bytealg
namespace Go.Proofs.YtindifjhocgkbaaGreatDoor
open Go.ChangeShapes Go.WideShapes Go.RowKit Go.Joins Go.Deep
open Go.ChangeMaps (open_string shut_string)

theorem Tryz.ownR : ownKnob Tryz.prog.godebug = none := by kernel_rfl
theorem Tryz.laidOutR : laidOutB Tryz.prog = true := by kernel_rfl
theorem Tryz.etR : Tryz.prog.globalNamed "errors.errorType" = some 0 := by kernel_rfl
theorem Tryz.kbR : Tryz.prog.globalNamed "overlay/entry.keyBytes" = some 1 := by kernel_rfl
theorem Tryz.vbR : Tryz.prog.globalNamed "overlay/entry.valueBytes" = some 2 := by kernel_rfl
theorem Tryz.rtR : (Tryz.prog.cutTypes.find? (·.1 == "internal/reflectlite.rtype")).map (·.2) = some 196 := by kernel_rfl
theorem Tryz.sizeR : Tryz.prog.types.size = 304 := by kernel_rfl
theorem Tryz.oneRowR : ((List.range 304).filter fun t => Tryz.prog.rowNamed t [101, 114, 114, 111, 114]) = [80] := by kernel_rfl
theorem Tryz.handleR : typeHandle Tryz.prog 80 = .pointer (some ⟨4, 80, none⟩) := by kernel_rfl
theorem Tryz.cellsOpR : Tryz.prog.cellsOf 85 = 4 := by kernel_rfl
theorem Tryz.cellsKeyR : Tryz.prog.cellsOf 83 = 2 := by kernel_rfl
theorem Tryz.cellsDeltaR : Tryz.prog.cellsOf 34 = 2 := by kernel_rfl
theorem Tryz.bytesOpR : Tryz.prog.bytesOf 85 = 48 := by kernel_rfl
theorem Tryz.cellsIntR : Tryz.prog.cellsOf 3 = 1 := by kernel_rfl
theorem Tryz.cellsStrR : Tryz.prog.cellsOf 9 = 1 := by kernel_rfl

def laidL : List (String × DataW Unit) := [("errors.errorType", Rows.laid_errors_errorType), ("overlay/entry.keyBytes", Rows.laid_overlay_entry_keyBytes), ("overlay/entry.valueBytes", Rows.laid_overlay_entry_valueBytes)]

theorem laid_parts {W : World} (h : laidMetH Tryz.prog laidL W) : laidMet Tryz.prog [("overlay/entry.keyBytes", Rows.laid_overlay_entry_keyBytes), ("overlay/entry.valueBytes", Rows.laid_overlay_entry_valueBytes)] W ∧ handlesMet Tryz.prog [("errors.errorType", Rows.laid_errors_errorType)] W := h
theorem et_of_laid {W : World} (h : laidMetH Tryz.prog laidL W) : EtIs W := by
  obtain ⟨name, u, ty, e1, e2, e3, e4, e5⟩ := (laid_parts h).2 _ (List.mem_singleton.2 rfl)
  have en : name = [101, 114, 114, 111, 114] := (Option.some.inj e1).symm
  subst en
  obtain rfl := Option.some.inj (Tryz.rtR.symm.trans e2)
  have hm : ty ∈ (List.range 304).filter fun t => Tryz.prog.rowNamed t [101, 114, 114, 111, 114] := List.mem_filter.2 ⟨List.mem_range.2 (by rw [← Tryz.sizeR]; exact e3), e4⟩
  rw [Tryz.oneRowR] at hm
  obtain rfl := List.mem_singleton.1 hm
  rw [Tryz.handleR] at e5
  unfold EtIs
  simpa using World.var?_cell Tryz.etR e5 0
theorem glob_of_laid {W : World} (h : laidMetH Tryz.prog laidL W) : Glob W := by
  have h1 : laidMet Tryz.prog (("overlay/entry.keyBytes", Lib.tabData .i64 [6, 5, 2]) :: [("overlay/entry.valueBytes", Rows.laid_overlay_entry_valueBytes)]) W := (laid_parts h).1
  have h2 : laidMet Tryz.prog (("overlay/entry.valueBytes", Lib.tabData .i64 [4, 4, 2]) :: []) W := laidMet.tail (laid_parts h).1
  have k := Lib.tabIs_of_head Tryz.kbR (t := 127) (by kernel_rfl) Tryz.underlying127 Tryz.underlying3 Tryz.cellsIntR (by kernel_rfl) h1
  have v := Lib.tabIs_of_head Tryz.vbR (t := 127) (by kernel_rfl) Tryz.underlying127 Tryz.underlying3 Tryz.cellsIntR (by kernel_rfl) h2
  exact ⟨k.cell Tryz.kbR 0 (by decide), k.cell Tryz.kbR 1 (by decide), k.cell Tryz.kbR 2 (by decide), v.cell Tryz.vbR 0 (by decide), v.cell Tryz.vbR 1 (by decide), v.cell Tryz.vbR 2 (by decide)⟩

section
variable {H : Type} {enc : TypeId × Value → H}

theorem add_none (b off j : Nat) : (⟨b, off, none⟩ : Addr).add j = ⟨b, off + j, none⟩ := by unfold Addr.add; split <;> simp_all
end
theorem Tryz.bytesIntR : Tryz.prog.bytesOf 3 = 8 := by kernel_rfl
section
variable {H : Type} {enc : TypeId × Value → H}
theorem open_raw {W : World} {fuel : Nat} {c : Value} {x : DataW H × List MemPlace} (h : DataW.trod enc Tryz.prog W 0 (fun _ => true) true fuel 24 [c] = some x) :
    ∃ (ra : Option Addr) (n rc : Nat), c = .slice ra n rc ∧ IntsIn W ra n ∧ (n = 0 ∨ ∃ elems spare, x.1 = .slice elems spare ∧ n ≤ elems.length + spare.length) := by
  rcases open_slice1 Tryz.underlying24 Tryz.cellsIntR h with ⟨hc, hx⟩ | ⟨a, len, cap, m, k, V, D, Pl, hc, _, hl, hm, hmm, hx, hall⟩
  · simp only [List.cons.injEq, and_true] at hc
    exact ⟨none, 0, 0, hc, fun h => absurd h (by omega), .inl rfl⟩
  · simp only [List.cons.injEq, and_true] at hc
    simp only [if_true] at hmm
    subst hmm
    refine ⟨some a, len, m, hc, fun hp => ?_, .inr ⟨_, _, by rw [hx], by simp <;> omega⟩⟩
    obtain ⟨b, off, spot⟩ := a
    have hspot : spot = none := by
      have h0 := (hall 0 (by omega)).1
      have e0 : (⟨b, off, spot⟩ : Addr).add 0 = ⟨b, off, spot⟩ := by simp [Addr.add]
      rw [e0] at h0
      exact World.cell?_spot h0
    subst hspot
    have hcell : ∀ i, i < m → W.cell? ⟨b, off + i, none⟩ = some (V i) := fun i hi => by have h := (hall i hi).1; rwa [add_none] at h
    refine ⟨b, off, rfl, cell_lt (hcell 0 (by omega)), fun i hi => ?_⟩
    obtain ⟨z, e1, _, wz⟩ := DataW.trod_int Tryz.underlying3 (hall i (by omega)).2
    simp only [List.cons.injEq, and_true] at e1
    have bz : -9223372036854775808 ≤ z ∧ z ≤ 9223372036854775807 := by simpa [Lit.wf, IntKind.min, IntKind.max, IntKind.signed, IntKind.bits] using wz
    exact ⟨z, by rw [hcell i (by omega), e1], bz.1, bz.2⟩
end

/-- The three variables laid in a world (a world that meets the condition: the settled one, so laid). -/
def laidW (w0 : World) : World :=
  { w0 with heap := ((w0.heap.modify 0 fun
      | .cells _ t frozen => .cells #[.iface 196 (.agg #[.pointer (some ⟨4, 80, none⟩)])] t frozen
      | o => o).modify 1 fun
      | .cells _ t frozen => .cells #[.int .i64 6, .int .i64 5, .int .i64 2] t frozen
      | o => o).modify 2 fun
      | .cells _ t frozen => .cells #[.int .i64 4, .int .i64 4, .int .i64 2] t frozen
      | o => o }
theorem laidWorld_met (os : Os) (args : Array Value) : laidMetH Tryz.prog laidL ((laidW (World.holding Tryz.prog os ⟨#[], #[], []⟩)).forCall (fun _ _ => 0) ⟨#[], args, []⟩).memory :=
  laidMetH_of_parts (laidMet_of_run' 8 (by kernel_rfl) (by kernel_rfl)) (by kernel_rfl)

end Go.Proofs.YtindifjhocgkbaaGreatDoor
namespace Go.Proofs.YtindifjhocgkbaaGreatDoor
open Go.RowKit
open Go.Lib (compareBytes)

/-- An entry: its table, its key, its value. -/
structure En where
  t : Int
  k : ByteArray
  v : ByteArray

theorem cb_range : ∀ (a b : List UInt8), compareBytes a b = -1 ∨ compareBytes a b = 0 ∨ compareBytes a b = 1
  | [], [] => by simp [compareBytes]
  | [], _ :: _ => by simp [compareBytes]
  | _ :: _, [] => by simp [compareBytes]
  | x :: a, y :: b => by
    unfold compareBytes
    split
    · simp
    split
    · simp
    exact cb_range a b
theorem u8_tri {x y : UInt8} (h1 : ¬ x < y) (h2 : ¬ y < x) : x = y := by
  rw [UInt8.lt_iff_toNat_lt] at h1 h2
  exact UInt8.toNat_inj.1 (by omega)
theorem cb_zero : ∀ (a b : List UInt8), compareBytes a b = 0 ↔ a = b
  | [], [] => by simp [compareBytes]
  | [], _ :: _ => by simp [compareBytes]
  | _ :: _, [] => by simp [compareBytes]
  | x :: a, y :: b => by
    unfold compareBytes
    split
    · rename_i h; simp; intro e; subst e; exact absurd h (UInt8.lt_irrefl x)
    split
    · rename_i h; simp; intro e; subst e; exact absurd h (UInt8.lt_irrefl x)
    rename_i h1 h2
    rw [cb_zero a b]; simp [u8_tri h1 h2]
theorem cb_neg : ∀ (a b : List UInt8), compareBytes b a = - compareBytes a b
  | [], [] => by simp [compareBytes]
  | [], _ :: _ => by simp [compareBytes]
  | _ :: _, [] => by simp [compareBytes]
  | x :: a, y :: b => by
    have ih := cb_neg a b
    unfold compareBytes
    by_cases h1 : x < y
    · have h2 : ¬ y < x := by rw [UInt8.lt_iff_toNat_lt] at h1 ⊢; omega
      simp [h1, h2]
    · by_cases h2 : y < x
      · simp [h1, h2]
      · simp [h1, h2, ih]
theorem cb_trans : ∀ (a b c : List UInt8), compareBytes a b < 0 → compareBytes b c < 0 → compareBytes a c < 0
  | [], [], c, h, _ => by simp [compareBytes] at h
  | _ :: _, [], c, h, _ => by simp [compareBytes] at h
  | _, _ :: _, [], _, h => by simp [compareBytes] at h
  | [], _ :: _, _ :: _, _, _ => by simp [compareBytes]
  | x :: a, y :: b, z :: c, h1, h2 => by
    have ih := cb_trans a b c
    unfold compareBytes at h1 h2 ⊢
    by_cases xy : x < y
    · by_cases yz : y < z
      · have xz : x < z := by rw [UInt8.lt_iff_toNat_lt] at xy yz ⊢; omega
        simp [xz]
      · by_cases zy : z < y
        · simp [yz, zy] at h2
        · have := u8_tri yz zy; subst this; simp [xy]
    · by_cases yx : y < x
      · simp [xy, yx] at h1
      · have := u8_tri xy yx; subst this
        simp [xy] at h1
        by_cases xz : x < z
        · simp [xz]
        · by_cases zx : z < x
          · simp [xz, zx] at h2
          · simp [xz, zx] at h2 ⊢; exact ih h1 h2

/-- In which order two keys stand. -/
def cmpT (a b : Int) : Int := if a < b then -1 else if b < a then 1 else 0
def cmpB (a b : ByteArray) : Int := compareBytes a.data.toList b.data.toList
def cmpK (t : Int) (k : ByteArray) (t' : Int) (k' : ByteArray) : Int := if cmpT t t' = 0 then cmpB k k' else cmpT t t'
theorem ba_ext' {a b : ByteArray} (h : a.data.toList = b.data.toList) : a = b := by
  obtain ⟨⟨a⟩⟩ := a; obtain ⟨⟨b⟩⟩ := b; simp at h; simp [h]
theorem cmpB_zero (a b : ByteArray) : cmpB a b = 0 ↔ a = b := by
  unfold cmpB; rw [cb_zero]; exact ⟨ba_ext', fun h => by rw [h]⟩
theorem cmpT_zero (a b : Int) : cmpT a b = 0 ↔ a = b := by unfold cmpT; split <;> (try split) <;> omega
theorem cmpT_ne {a b : Int} (h : a ≠ b) : ¬ cmpT a b = 0 := fun e => h ((cmpT_zero a b).1 e)
theorem cmpT_neg (a b : Int) : cmpT b a = - cmpT a b := by unfold cmpT; split <;> (try split) <;> (try split) <;> omega
theorem cmpK_zero (t : Int) (k : ByteArray) (t' : Int) (k' : ByteArray) : cmpK t k t' k' = 0 ↔ t = t' ∧ k = k' := by
  unfold cmpK
  split
  · rename_i h; rw [cmpT_zero] at h; rw [cmpB_zero]; simp [h]
  · rename_i h
    have := fun e => h ((cmpT_zero t t').2 e)
    exact ⟨fun e => absurd e h, fun e => absurd e.1 this⟩
theorem cmpK_neg (t : Int) (k : ByteArray) (t' : Int) (k' : ByteArray) : cmpK t' k' t k = - cmpK t k t' k' := by
  unfold cmpK
  rw [cmpT_neg t t', show cmpB k' k = - cmpB k k' from cb_neg _ _]
  split <;> split <;> omega
theorem cmpK_trans {t1 t2 t3 : Int} {k1 k2 k3 : ByteArray} (h1 : cmpK t1 k1 t2 k2 < 0) (h2 : cmpK t2 k2 t3 k3 < 0) : cmpK t1 k1 t3 k3 < 0 := by
  unfold cmpK at h1 h2 ⊢
  by_cases e1 : t1 = t2
  · subst e1
    by_cases e2 : t1 = t3
    · subst e2
      simp only [(cmpT_zero t1 t1).2 rfl, if_true] at *
      exact cb_trans _ _ _ h1 h2
    · simp only [cmpT_ne e2, if_false] at *; exact h2
  · simp only [cmpT_ne e1, if_false] at h1
    by_cases e2 : t2 = t3
    · subst e2
      simp only [cmpT_ne e1, if_false]; exact h1
    · simp only [cmpT_ne e2, if_false] at h2
      unfold cmpT at *
      have a1 : t1 < t2 := by split at h1 <;> (try split at h1) <;> omega
      have a2 : t2 < t3 := by split at h2 <;> (try split at h2) <;> omega
      rw [if_pos (by omega : t1 < t3)]; simp

def En.cmp (e : En) (t : Int) (k : ByteArray) : Int := cmpK e.t e.k t k
/-- How many entries stand ahead of a key (up to the first that does not). -/
def low (t : Int) (k : ByteArray) : List En → Nat
  | [] => 0
  | x :: l => if x.cmp t k < 0 then low t k l + 1 else 0
def fnd (t : Int) (k : ByteArray) (l : List En) : Bool := match l[low t k l]? with | some e => decide (e.cmp t k = 0) | none => false
def Srt (l : List En) : Prop := l.Pairwise (fun a b => cmpK a.t a.k b.t b.k < 0)
theorem low_le (t : Int) (k : ByteArray) : ∀ l, low t k l ≤ l.length
  | [] => Nat.le_refl _
  | x :: l => by unfold low; split <;> simp; exact low_le t k l
theorem low_lt {t : Int} {k : ByteArray} : ∀ {l : List En} {i : Nat} (h : i < l.length), i < low t k l → l[i].cmp t k < 0
  | x :: l, 0, _, h => by unfold low at h; split at h; assumption; omega
  | x :: l, i + 1, hi, h => by
    unfold low at h
    split at h
    · simpa using low_lt (by simpa using hi) (by omega)
    · omega
theorem low_ge {t : Int} {k : ByteArray} : ∀ {l : List En}, Srt l → ∀ {i : Nat} (h : i < l.length), low t k l ≤ i → 0 ≤ l[i].cmp t k
  | x :: l, hs, i, hi, h => by
    have hs' := List.pairwise_cons.1 hs
    unfold low at h
    split at h
    · match i, hi, h with
      | 0, _, h => omega
      | i + 1, hi, h => simpa using low_ge hs'.2 (by simpa using hi) (by omega)
    · rename_i hx
      match i, hi with
      | 0, _ => simpa using hx
      | i + 1, hi =>
        have hi' : i < l.length := by simpa using hi
        have h2 := hs'.1 l[i] (List.getElem_mem _)
        simp only [List.getElem_cons_succ]
        by_cases h3 : (l[i]).cmp t k < 0
        · exact absurd (cmpK_trans h2 h3) hx
        · omega
theorem low_iff {t : Int} {k : ByteArray} {l : List En} (hs : Srt l) {i : Nat} (h : i < l.length) : l[i].cmp t k < 0 ↔ i < low t k l := by
  constructor
  · intro h1
    rcases Nat.lt_or_ge i (low t k l) with h2 | h2
    · exact h2
    · have := low_ge hs h h2; omega
  · exact low_lt h

/-- An entry laid in its place. -/
def put (e : En) : List En → List En
  | [] => [e]
  | x :: l => if x.cmp e.t e.k < 0 then x :: put e l else if x.cmp e.t e.k = 0 then e :: l else e :: x :: l
def del (t : Int) (k : ByteArray) : List En → List En
  | [] => []
  | x :: l => if x.cmp t k < 0 then x :: del t k l else if x.cmp t k = 0 then l else x :: l
theorem fnd_cons_lt {t : Int} {k : ByteArray} {x : En} {l : List En} (h : x.cmp t k < 0) : fnd t k (x :: l) = fnd t k l := by
  unfold fnd; simp [low, h]
theorem fnd_cons_ge {t : Int} {k : ByteArray} {x : En} {l : List En} (h : ¬ x.cmp t k < 0) : fnd t k (x :: l) = decide (x.cmp t k = 0) := by
  unfold fnd; simp [low, h]
/-- What the program does: cut the old one out, lay the new one in. -/
theorem del_cut (t : Int) (k : ByteArray) : ∀ l, del t k l = if fnd t k l then l.take (low t k l) ++ l.drop (low t k l + 1) else l
  | [] => by simp [del, fnd]
  | x :: l => by
    have ih := del_cut t k l
    unfold del
    by_cases h : x.cmp t k < 0
    · rw [if_pos h, ih, fnd_cons_lt h]; simp [low, h]; split <;> rfl
    · rw [if_neg h, fnd_cons_ge h]; simp [low, h]
theorem put_cut (e : En) : ∀ l, put e l = (del e.t e.k l).take (low e.t e.k l) ++ e :: (del e.t e.k l).drop (low e.t e.k l)
  | [] => by simp [put, del, low]
  | x :: l => by
    have ih := put_cut e l
    unfold put del
    by_cases h : x.cmp e.t e.k < 0
    · rw [if_pos h, if_pos h, ih]; simp [low, h]
    · rw [if_neg h, if_neg h]; simp [low, h]; split <;> rfl
theorem del_mem {t : Int} {k : ByteArray} {y : En} : ∀ {l : List En}, y ∈ del t k l → y ∈ l
  | x :: l, h => by
    unfold del at h
    split at h
    · rcases List.mem_cons.1 h with rfl | h
      · simp
      · simp [del_mem h]
    split at h
    · simp [h]
    · exact h
theorem put_mem {e y : En} : ∀ {l : List En}, y ∈ put e l → y = e ∨ y ∈ l
  | [], h => by simp [put] at h; exact .inl h
  | x :: l, h => by
    unfold put at h
    split at h
    · rcases List.mem_cons.1 h with rfl | h
      · simp
      · rcases put_mem h with h | h
        · exact .inl h
        · simp [h]
    split at h
    · rcases List.mem_cons.1 h with rfl | h
      · simp
      · simp [h]
    · rcases List.mem_cons.1 h with rfl | h
      · simp
      · exact .inr h
theorem del_srt {t : Int} {k : ByteArray} : ∀ {l : List En}, Srt l → Srt (del t k l)
  | [], _ => List.Pairwise.nil
  | x :: l, hs => by
    have hs' := List.pairwise_cons.1 hs
    unfold del
    split
    · exact List.pairwise_cons.2 ⟨fun y hy => hs'.1 y (del_mem hy), del_srt hs'.2⟩
    split
    · exact hs'.2
    · exact hs
theorem cmp_pos {e : En} {t : Int} {k : ByteArray} (h1 : ¬ e.cmp t k < 0) (h2 : ¬ e.cmp t k = 0) : cmpK t k e.t e.k < 0 := by
  rw [cmpK_neg e.t e.k t k]; unfold En.cmp at h1 h2; omega
theorem put_srt {e : En} : ∀ {l : List En}, Srt l → Srt (put e l)
  | [], _ => by simp [put, Srt]
  | x :: l, hs => by
    have hs' := List.pairwise_cons.1 hs
    unfold put
    split
    · rename_i h
      refine List.pairwise_cons.2 ⟨fun y hy => ?_, put_srt hs'.2⟩
      rcases put_mem hy with rfl | hy
      · exact h
      · exact hs'.1 y hy
    split
    · rename_i h
      obtain ⟨h1, h2⟩ := (cmpK_zero _ _ _ _).1 h
      refine List.pairwise_cons.2 ⟨fun y hy => ?_, hs'.2⟩
      rw [← h1, ← h2]; exact hs'.1 y hy
    · rename_i h1 h2
      have h3 := cmp_pos h1 h2
      refine List.pairwise_cons.2 ⟨fun y hy => ?_, hs⟩
      rcases List.mem_cons.1 hy with rfl | hy
      · exact h3
      · exact cmpK_trans h3 (hs'.1 y hy)
theorem put_length (e : En) : ∀ l, (put e l).length ≤ l.length + 1
  | [] => by simp [put]
  | x :: l => by unfold put; have := put_length e l; split <;> (try split) <;> simp <;> omega
theorem del_length (t : Int) (k : ByteArray) : ∀ l, (del t k l).length ≤ l.length
  | [] => by simp [del]
  | x :: l => by unfold del; have := del_length t k l; split <;> (try split) <;> simp <;> omega

/-- A change made. -/
def chd (l : List En) (o : OpD) : List En := if o.kind = 2 then del o.table o.key l else put ⟨o.table, o.key, o.val⟩ l
def aft (l : List En) (ops : List OpD) : List En := ops.foldl chd l
theorem chd_srt {l : List En} {o : OpD} (h : Srt l) : Srt (chd l o) := by unfold chd; split; exact del_srt h; exact put_srt h
theorem aft_srt {ops : List OpD} : ∀ {l : List En}, Srt l → Srt (aft l ops) := by
  induction ops with
  | nil => intro l h; exact h
  | cons o ops ih => intro l h; exact ih (chd_srt h)
theorem chd_length (l : List En) (o : OpD) : (chd l o).length ≤ l.length + 1 := by
  unfold chd; have := put_length ⟨o.table, o.key, o.val⟩ l; have := del_length o.table o.key l; split <;> omega
theorem aft_length : ∀ (ops : List OpD) (l : List En), (aft l ops).length ≤ l.length + ops.length
  | [], l => by simp [aft]
  | o :: ops, l => by
    have h1 := aft_length ops (chd l o); have h2 := chd_length l o
    show (aft (chd l o) ops).length ≤ _
    simp; omega
theorem aft_take (l : List En) (ops : List OpD) (j : Nat) (h : j < ops.length) : aft l (ops.take (j + 1)) = chd (aft l (ops.take j)) ops[j] := by
  unfold aft; rw [List.take_succ_eq_append_getElem h, List.foldl_append]; rfl

/-- The value at a key. -/
def got (t : Int) (k : ByteArray) (l : List En) : Option ByteArray := if fnd t k l then (l[low t k l]?).map (·.v) else none
theorem fnd_mem {t : Int} {k : ByteArray} {l : List En} (hs : Srt l) : fnd t k l = true ↔ ∃ e ∈ l, e.t = t ∧ e.k = k := by
  constructor
  · intro h
    unfold fnd at h
    split at h
    · rename_i e he
      exact ⟨e, List.mem_of_getElem? he, (cmpK_zero _ _ _ _).1 (of_decide_eq_true h)⟩
    · simp at h
  · rintro ⟨e, he, ht, hk⟩
    obtain ⟨i, hi, rfl⟩ := List.getElem_of_mem he
    have h0 : l[i].cmp t k = 0 := (cmpK_zero _ _ _ _).2 ⟨ht, hk⟩
    have h1 : low t k l = i := by
      have a : ¬ i < low t k l := fun h => absurd ((low_iff (t := t) (k := k) hs hi).2 h) (by omega)
      rcases Nat.lt_or_ge (low t k l) i with b | b
      · exfalso
        have c := low_ge hs (t := t) (k := k) (i := low t k l) (by omega) (Nat.le_refl _)
        have d : cmpK (l[low t k l]'(by omega)).t (l[low t k l]'(by omega)).k l[i].t l[i].k < 0 := (List.pairwise_iff_getElem.1 hs) _ _ _ _ b
        rw [ht, hk] at d
        unfold En.cmp at c; omega
      · omega
    unfold fnd; rw [h1, List.getElem?_eq_getElem hi]; simp [h0]
theorem got_mem {t : Int} {k : ByteArray} {l : List En} (hs : Srt l) {v : ByteArray} : got t k l = some v ↔ ∃ e ∈ l, e.t = t ∧ e.k = k ∧ e.v = v := by
  unfold got
  constructor
  · intro h
    split at h
    · rename_i hf
      unfold fnd at hf
      split at hf
      · rename_i e he
        rw [he] at h
        have := (cmpK_zero _ _ _ _).1 (of_decide_eq_true hf)
        exact ⟨e, List.mem_of_getElem? he, this.1, this.2, by simpa using h⟩
      · simp at hf
    · simp at h
  · rintro ⟨e, he, ht, hk, hv⟩
    have hf := (fnd_mem hs).2 ⟨e, he, ht, hk⟩
    rw [if_pos hf]
    unfold fnd at hf
    split at hf
    · rename_i e' he'
      rw [he']
      have h2 := (cmpK_zero _ _ _ _).1 (of_decide_eq_true hf)
      -- both lie in the list with the same key
      obtain ⟨i, hi, rfl⟩ := List.getElem_of_mem he
      obtain ⟨j, hj, rfl⟩ := List.getElem_of_mem (List.mem_of_getElem? he')
      have : i = j := by
        rcases Nat.lt_trichotomy i j with a | a | a
        · have d := (List.pairwise_iff_getElem.1 hs) i j hi hj a
          rw [ht, hk, h2.1, h2.2] at d
          have := (cmpK_zero t k t k).2 ⟨rfl, rfl⟩; omega
        · exact a
        · have d := (List.pairwise_iff_getElem.1 hs) j i hj hi a
          rw [ht, hk, h2.1, h2.2] at d
          have := (cmpK_zero t k t k).2 ⟨rfl, rfl⟩; omega
      subst this
      simp [hv]
    · simp at hf
theorem got_none {t : Int} {k : ByteArray} {l : List En} (hs : Srt l) : got t k l = none ↔ ∀ e ∈ l, ¬ (e.t = t ∧ e.k = k) := by
  constructor
  · intro h e he hc
    have := (got_mem hs).2 ⟨e, he, hc.1, hc.2, rfl⟩
    rw [h] at this; simp at this
  · intro h
    cases hg : got t k l with
    | none => rfl
    | some v => obtain ⟨e, he, ht, hk, _⟩ := (got_mem hs).1 hg; exact absurd ⟨ht, hk⟩ (h e he)

/-- Entries that may be. -/
def okE (e : En) : Prop := kindB 1 e.t = true ∧ keyB e.t e.k = true ∧ valB e.t e.v = true
def Ok (l : List En) : Prop := ∀ e ∈ l, okE e
end Go.Proofs.YtindifjhocgkbaaGreatDoor
