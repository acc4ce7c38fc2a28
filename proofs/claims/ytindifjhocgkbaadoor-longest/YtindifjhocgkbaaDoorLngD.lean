import Derived.Test.YtindifjhocgkbaaDoorLngB
namespace Go.Proofs.YtindifjhocgkbaaDoor
open Go.RowKit Go.Maps

theorem cast128 (r : Nat) : (128 : Int) / 2 ^ r = ((128 / 2 ^ r : Nat) : Int) := by rw [Int.natCast_ediv, Int.natCast_pow]; rfl
theorem mask_step {P : Nat} {wr : World} {bs : Nat → Int} {t qq rr m : Nat} (hQ : qq = t / 8 ∧ rr = t % 8) (ht : t < 32) (hcl : ∀ i, i < 5 → wr.cell? ⟨P, i, none⟩ = some (.int .u8 (bs i))) (hfz : ∀ i, wr.frozen? ⟨P, i, none⟩ = false) (hbs : ∀ i, 0 ≤ bs i ∧ bs i ≤ 255) (hb4 : bs 4 = m) (hbit : ∀ jj, m ≤ jj → jj < t → bit7 (bs (jj / 8)).toNat (jj % 8) = 0) :
    ∃ bs' : Nat → Int, (∀ i, i < 5 → (wr.setCell ⟨P, qq, none⟩ (.int .u8 (bits .andNot .u8 (bs qq) (128 / 2 ^ rr)))).drew.cell? ⟨P, i, none⟩ = some (.int .u8 (bs' i))) ∧ (∀ i, (wr.setCell ⟨P, qq, none⟩ (.int .u8 (bits .andNot .u8 (bs qq) (128 / 2 ^ rr)))).drew.frozen? ⟨P, i, none⟩ = false) ∧ (∀ i, 0 ≤ bs' i ∧ bs' i ≤ 255) ∧ bs' 4 = m ∧ ∀ jj, m ≤ jj → jj < t + 1 → bit7 (bs' (jj / 8)).toNat (jj % 8) = 0 := by
  obtain ⟨h1, h2⟩ := hQ
  have hb := hbs qq
  obtain ⟨b, hbb⟩ : ∃ b : Nat, bs qq = (b : Int) := ⟨(bs qq).toNat, by omega⟩
  have hclr : ∀ s, s < 8 → _ := fun s hs => clr_bit b rr s (by omega) (by omega) hs
  rw [cast128, hbb]
  refine ⟨fun i => if i = qq then bits .andNot .u8 (b : Int) ((128 / 2 ^ rr : Nat) : Int) else bs i, fun i hi => ?_, fun i => ?_, fun i => ?_, ?_, fun jj hj1 hj2 => ?_⟩
  · show (wr.setCell ⟨P, qq, none⟩ _).cell? ⟨P, i, none⟩ = _
    by_cases e : i = qq
    · subst e
      simp only [if_true]
      exact World.cell?_setCell_same _ _ _ (hcl i hi)
    · simp only [if_neg e]
      rw [World.cell?_setCell_other _ _ _ _ (by intro e'; cases e'; exact e rfl)]
      exact hcl i hi
  · show (wr.setCell ⟨P, qq, none⟩ _).frozen? ⟨P, i, none⟩ = _
    rw [World.frozen?_setCell]; exact hfz i
  · show 0 ≤ (if i = qq then _ else bs i) ∧ (if i = qq then _ else bs i) ≤ 255
    split
    · have := hclr 0 (by omega); exact ⟨this.1, this.2.1⟩
    · exact hbs i
  · show (if 4 = qq then _ else bs 4) = (m : Int)
    rw [if_neg (by omega)]; exact hb4
  · show bit7 (if jj / 8 = qq then bits .andNot .u8 (b : Int) ((128 / 2 ^ rr : Nat) : Int) else bs (jj / 8)).toNat (jj % 8) = 0
    by_cases e : jj / 8 = qq
    · rw [if_pos e, (hclr (jj % 8) (by omega)).2.2]
      by_cases e2 : jj % 8 = rr
      · rw [if_pos e2]
      · rw [if_neg e2]
        have := hbit jj hj1 (by omega)
        rw [e, hbb] at this; exact this
    · rw [if_neg e]
      exact hbit jj hj1 (by omega)
/-- The five bytes as a string. -/
def sOf (bs : Nat → Int) : ByteArray := baOf [bs 0, bs 1, bs 2, bs 3, bs 4]
theorem sOf_bt {bs : Nat → Int} (hbs : ∀ i, 0 ≤ bs i ∧ bs i ≤ 255) (i : Nat) (h : i < 5) : bt (sOf bs) i = bs i := by
  unfold sOf
  rw [bt_baOf _ i (by simpa using h) (by match i, h with | 0, _ => (have := hbs 0; simp; omega) | 1, _ => (have := hbs 1; simp; omega) | 2, _ => (have := hbs 2; simp; omega) | 3, _ => (have := hbs 3; simp; omega) | 4, _ => (have := hbs 4; simp; omega))]
  match i, h with
  | 0, _ => rfl
  | 1, _ => rfl
  | 2, _ => rfl
  | 3, _ => rfl
  | 4, _ => rfl
theorem sOf_size (bs : Nat → Int) : (sOf bs).size = 5 := baOf_size _
theorem sOf_at {bs : Nat → Int} {W : World} {P : Nat} (hbs : ∀ i, 0 ≤ bs i ∧ bs i ≤ 255) (hcl : ∀ i, i < 5 → W.cell? ⟨P, i, none⟩ = some (.int .u8 (bs i))) : BytesAt W P (sOf bs) := fun i hi => by
  rw [sOf_size] at hi
  rw [sOf_bt hbs i hi]; exact hcl i hi
theorem sOf_conv {bs : Nat → Int} {W : World} {P : Nat} (hbs : ∀ i, 0 ≤ bs i ∧ bs i ≤ 255) (hcl : ∀ i, i < 5 → W.cell? ⟨P, i, none⟩ = some (.int .u8 (bs i))) : (convert 34 9 (.slice (some ⟨P, 0, none⟩) 5 5)).run Tryd.prog W = .ok (.string (sOf bs)) W := by
  have h := str_whole (sOf bs) P 5 W (sOf_at hbs hcl)
  rw [sOf_size] at h; exact h
theorem sOf_key {bs : Nat → Int} {m : Nat} (hbs : ∀ i, 0 ≤ bs i ∧ bs i ≤ 255) (hm : m ≤ 32) (hb4 : bs 4 = m) (hbit : ∀ jj, m ≤ jj → jj < 32 → bit7 (bs (jj / 8)).toNat (jj % 8) = 0) : keyB 1 (sOf bs) = true :=
  key_of_bits (sOf_size bs) ((sOf_bt hbs 4 (by omega)).trans hb4) hm fun jj h1 h2 => by rw [sOf_bt hbs _ (by omega)]; exact hbit jj h1 h2
end Go.Proofs.YtindifjhocgkbaaDoor
