import Derived.Test.YtindifjhocgkbaaGreatDoorRd
namespace Go.Proofs.YtindifjhocgkbaaGreatDoor
open Go.RowKit

theorem piece_length (s : ByteArray) (e k : Nat) (hs : e + k ≤ s.size) : (s.extract e (e + k)).data.toList.length = k := by
  simp only [ByteArray.data_extract, Array.toList_extract]; simp; have : s.data.size = s.size := rfl; omega
theorem bt_piece (s : ByteArray) (e k j : Nat) (hj : j < k) (hs : e + k ≤ s.size) : ∃ h : j < (s.extract e (e + k)).data.toList.length, (((s.extract e (e + k)).data.toList[j]).toNat : Int) = bt s (e + j) := by
  have hl := piece_length s e k hs
  refine ⟨by omega, ?_⟩
  have hz : s.data.size = s.size := rfl
  unfold bt
  simp only [ByteArray.data_extract, Array.toList_extract]
  simp [List.getD_eq_getElem?_getD]
  rw [Array.getElem?_eq_getElem (by omega)]
  simp
/-- 'string(p)' of a piece. -/
theorem str_piece (s : ByteArray) (B e k c : Nat) (W : World) (hb : BytesAt W B s) (hs : e + k ≤ s.size) : (convert 53 9 (.slice (some ⟨B, e, none⟩) k c)).run Tryz.prog W = .ok (.string (s.extract e (e + k))) W := by
  have hl := piece_length s e k hs
  have h := run_convert_bytes_back W 53 9 5 ⟨B, e, none⟩ c (s.extract e (e + k)).data.toList Tryz.underlying53 Tryz.underlying5 Tryz.underlying9 (fun j hj => by
    obtain ⟨h', e'⟩ := bt_piece s e k j (by omega) hs
    rw [e', ← hb (e + j) (by omega)]
    congr 1
    simp [Addr.add])
  rw [hl] at h
  exact h

/-- A reader over a string's bytes. -/
structure Rdr (w : World) (s : ByteArray) (R B cap b e : Nat) : Prop where
  rd : RdAt w R B s.size cap b e
  bs : BytesAt w B s
  ne : B ≠ R
  le : e ≤ s.size
  cp : s.size ≤ cap
  mx : cap ≤ 9223372036854775807
theorem Rdr.keep {w w' : World} {s : ByteArray} {R B cap b e : Nat} (h : Rdr w s R B cap b e) (q : Below w.heap.size w w') : Rdr w' s R B cap b e :=
  ⟨h.rd.keep q, h.bs.keep q, h.ne, h.le, h.cp, h.mx⟩
theorem Rdr.set {w : World} {s : ByteArray} {R B cap b e : Nat} {p : Addr} {v : Value} (h : Rdr w s R B cap b e) (h1 : p.block ≠ R) (h2 : p.block ≠ B) : Rdr (w.setCell p v) s R B cap b e :=
  have hR : ∀ o, (w.setCell p v).cell? ⟨R, o, none⟩ = w.cell? ⟨R, o, none⟩ := fun o => World.cell?_setCell_other _ _ _ _ (fun h => h1 (by rw [h]))
  ⟨⟨(hR _).trans h.rd.c0, (hR _).trans h.rd.c1, (hR _).trans h.rd.c2, by simpa using h.rd.f1, by simpa using h.rd.f2⟩, fun i hi => (World.cell?_setCell_other _ _ _ _ (fun h => h2 (by rw [h]))).trans (h.bs i hi), h.ne, h.le, h.cp, h.mx⟩
theorem pc_no {w : World} {s : ByteArray} {R B cap b e : Nat} (size : Nat) (h : Rdr w s R B cap b e) (hs : size ≤ 8) (hlt : s.size < e + size) :
    Calls Tryz.prog 125 #[.pointer (some ⟨R, 0, none⟩), .int .i64 (size : Int)] w fun ev w' => ∃ fb, w.heap.size ≤ fb ∧ ev = .returned (.tuple #[.slice none 0 0, .iface 133 (.pointer (some ⟨fb, 0, none⟩))]) ∧ ErrIs w' (.iface 133 (.pointer (some ⟨fb, 0, none⟩))) 1 (e : Int) ∧ w.grownBy w' (some R) := by
  have hcp := h.cp
  have hmx := h.mx
  refine (piece_no size R B s.size cap b e w h.rd h.le (by omega) hs hlt).mono ?_
  rintro ev w1 ⟨fb, hfb, rfl, hx, r1, g1⟩
  exact ⟨fb, hfb, rfl, hx, g1⟩
theorem pc_ok {w : World} {s : ByteArray} {R B cap b e : Nat} (size : Nat) (h : Rdr w s R B cap b e) (hs : 1 ≤ size) (hlt : e + size ≤ s.size) :
    Calls Tryz.prog 125 #[.pointer (some ⟨R, 0, none⟩), .int .i64 (size : Int)] w fun ev w' => ev = .returned (.tuple #[.slice (some ⟨B, e, none⟩) size (cap - e), .nilIface]) ∧ Rdr w' s R B cap e (e + size) ∧ w.grownBy w' (some R) := by
  have hcp := h.cp
  have hmx := h.mx
  refine (piece_ok size R B s.size cap b e w h.rd h.cp (by unfold maxLen; omega) hs hlt).mono ?_
  rintro ev w1 ⟨rfl, r1, g1⟩
  exact ⟨rfl, ⟨r1, h.bs.grown h.ne g1, h.ne, hlt, h.cp, h.mx⟩, g1⟩
theorem rdFault' {w : World} {s : ByteArray} {R B cap b e : Nat} (k : Int) (h : Rdr w s R B cap b e) (h1 : 1 ≤ k) (h2 : k ≤ 14) :
    Calls Tryz.prog 142 #[.pointer (some ⟨R, 0, none⟩), .int .i64 k] w fun ev w' => ∃ fb, w.heap.size ≤ fb ∧ ev = .returned (.iface 133 (.pointer (some ⟨fb, 0, none⟩))) ∧ ErrIs w' (.iface 133 (.pointer (some ⟨fb, 0, none⟩))) k (b : Int) ∧ Below w.heap.size w w' :=
  rdFault k R B s.size cap b e w h.rd h1 h2

set_option maxHeartbeats 1000000 in
theorem ver_short {w : World} {s : ByteArray} {R B cap b e : Nat} (h : Rdr w s R B cap b e) (hs : s.size < e + 8) :
    Calls Tryz.prog 124 #[.pointer (some ⟨R, 0, none⟩)] w fun ev w' => ∃ fb, w.heap.size ≤ fb ∧ ev = .returned (.tuple #[.int .u64 0, .iface 133 (.pointer (some ⟨fb, 0, none⟩))]) ∧ ErrIs w' (.iface 133 (.pointer (some ⟨fb, 0, none⟩))) 1 (e : Int) ∧ w.grownBy w' (some R) := by
  go_enter Tryz.func124, Tryz.ntmps124
  go_wp2_with fail
  refine (pc_no 8 h (by omega) (by omega)).mono ?_
  rintro ev w1 ⟨fb, hfb, rfl, hx, g1⟩
  go_wp2
  go_ret2
  exact ⟨fb, hfb, rfl, hx, g1⟩
set_option maxHeartbeats 1000000 in
theorem ver_bad {w : World} {s : ByteArray} {R B cap b e : Nat} (h : Rdr w s R B cap b e) (hs : e + 8 ≤ s.size) (hv : verB (numAt s e 8) = false) :
    Calls Tryz.prog 124 #[.pointer (some ⟨R, 0, none⟩)] w fun ev w' => ∃ fb, w.heap.size ≤ fb ∧ ev = .returned (.tuple #[.int .u64 0, .iface 133 (.pointer (some ⟨fb, 0, none⟩))]) ∧ ErrIs w' (.iface 133 (.pointer (some ⟨fb, 0, none⟩))) 4 (e : Int) ∧ w.grownBy w' (some R) := by
  go_enter Tryz.func124, Tryz.ntmps124
  go_wp2_with fail
  refine (pc_ok 8 h (by omega) (by omega)).mono ?_
  rintro ev w1 ⟨rfl, r1, g1⟩
  go_wp2_with fail
  refine (wNumber s B e 8 _ _ r1.bs (by omega) (by omega)).mono ?_
  rintro ev w2 ⟨rfl, rfl⟩
  go_wp2_with fail
  refine (wIsVersion _ _ (numAt_bd8 s e).1).mono ?_
  rintro ev w2 ⟨rfl, rfl⟩
  go_wp2_with fail
  refine (rdFault' 4 r1 (by decide) (by decide)).mono ?_
  rintro ev w2 ⟨fb, hfb, rfl, hx, q2⟩
  go_wp2
  go_ret2
  exact ⟨fb, Nat.le_trans g1.size hfb, rfl, hx, grown_trans g1 (grown_of_below q2)⟩
set_option maxHeartbeats 1000000 in
theorem ver_ok {w : World} {s : ByteArray} {R B cap b e : Nat} (h : Rdr w s R B cap b e) (hs : e + 8 ≤ s.size) (hv : verB (numAt s e 8) = true) :
    Calls Tryz.prog 124 #[.pointer (some ⟨R, 0, none⟩)] w fun ev w' => ev = .returned (.tuple #[.int .u64 (numAt s e 8), .nilIface]) ∧ Rdr w' s R B cap e (e + 8) ∧ w.grownBy w' (some R) := by
  go_enter Tryz.func124, Tryz.ntmps124
  go_wp2_with fail
  refine (pc_ok 8 h (by omega) (by omega)).mono ?_
  rintro ev w1 ⟨rfl, r1, g1⟩
  go_wp2_with fail
  refine (wNumber s B e 8 _ _ r1.bs (by omega) (by omega)).mono ?_
  rintro ev w2 ⟨rfl, rfl⟩
  go_wp2_with fail
  refine (wIsVersion _ _ (numAt_bd8 s e).1).mono ?_
  rintro ev w2 ⟨rfl, rfl⟩
  go_wp2
  go_ret2
  exact ⟨rfl, r1, g1⟩
theorem vbN_bd (t : Int) : 2 ≤ vbN t ∧ vbN t ≤ 4 := by unfold vbN; split <;> (try split) <;> omega
theorem kbN_bd (t : Int) : 2 ≤ kbN t ∧ kbN t ≤ 6 := by unfold kbN; split <;> (try split) <;> omega
set_option maxHeartbeats 1000000 in
theorem val_short {w : World} {s : ByteArray} {R B cap b e : Nat} {t : Int} (h : Rdr w s R B cap b e) (g : Glob w) (_hR : 2 < R) (h0 : 0 ≤ t) (h3 : t < 3) (hs : s.size < e + (vbN t).toNat) :
    Calls Tryz.prog 146 #[.pointer (some ⟨R, 0, none⟩), .int .i64 t] w fun ev w' => ∃ fb, w.heap.size ≤ fb ∧ ev = .returned (.tuple #[.string ⟨#[]⟩, .iface 133 (.pointer (some ⟨fb, 0, none⟩))]) ∧ ErrIs w' (.iface 133 (.pointer (some ⟨fb, 0, none⟩))) 1 (e : Int) ∧ w.grownBy w' (some R) := by
  have hvb := vbN_bd t
  obtain ⟨k, hk⟩ : ∃ k : Nat, vbN t = (k : Int) := ⟨(vbN t).toNat, by omega⟩
  have HK : Hid (vbN t = (k : Int)) := hk
  have hk2 : 2 ≤ k ∧ k ≤ 4 := by omega
  have hs' : s.size < e + k := by omega
  clear hs hk
  go_enter Tryz.func146, Tryz.ntmps146
  go_wp2_with fail
  refine (valueBytes _ _ h0 h3 g).mono ?_
  rintro ev w0 ⟨rfl, rfl⟩
  rw [HK.out]
  go_wp2_with fail
  refine (pc_no k h (by omega) (by omega)).mono ?_
  rintro ev w1 ⟨fb, hfb, rfl, hx, g1⟩
  go_wp2
  go_ret2
  exact ⟨fb, hfb, rfl, hx, g1⟩
set_option maxHeartbeats 1000000 in
theorem val_bad {w : World} {s : ByteArray} {R B cap b e : Nat} {t : Int} (h : Rdr w s R B cap b e) (g : Glob w) (_hR : 2 < R) (h0 : 0 ≤ t) (h3 : t < 3) (hs : e + (vbN t).toNat ≤ s.size) (hv : valB t (s.extract e (e + (vbN t).toNat)) = false) :
    Calls Tryz.prog 146 #[.pointer (some ⟨R, 0, none⟩), .int .i64 t] w fun ev w' => ∃ fb, w.heap.size ≤ fb ∧ ev = .returned (.tuple #[.string ⟨#[]⟩, .iface 133 (.pointer (some ⟨fb, 0, none⟩))]) ∧ ErrIs w' (.iface 133 (.pointer (some ⟨fb, 0, none⟩))) 9 (e : Int) ∧ w.grownBy w' (some R) := by
  have hvb := vbN_bd t
  obtain ⟨k, hk⟩ : ∃ k : Nat, vbN t = (k : Int) := ⟨(vbN t).toNat, by omega⟩
  have HK : Hid (vbN t = (k : Int)) := hk
  have hk2 : 2 ≤ k ∧ k ≤ 4 := by omega
  have hs' : e + k ≤ s.size := by omega
  have hv' : valB t (s.extract e (e + k)) = false := by rw [show e + k = e + (vbN t).toNat by omega]; exact hv
  clear hs hk hv
  go_enter Tryz.func146, Tryz.ntmps146
  go_wp2_with fail
  refine (valueBytes _ _ h0 h3 g).mono ?_
  rintro ev w0 ⟨rfl, rfl⟩
  rw [HK.out]
  go_wp2_with fail
  refine (pc_ok k h (by omega) (by omega)).mono ?_
  rintro ev w1 ⟨rfl, r1, g1⟩
  have hcv := str_piece s B e k (cap - e) w1 r1.bs hs'
  go_wp2_with fail
  refine (isValue _ _ _ h0 h3 (g.grown _hR g1)).mono ?_
  rintro ev w2 ⟨rfl, rfl⟩
  go_wp2_with fail
  refine (rdFault' 9 r1 (by decide) (by decide)).mono ?_
  rintro ev w2 ⟨fb, hfb, rfl, hx, q2⟩
  go_wp2
  go_ret2
  exact ⟨fb, Nat.le_trans g1.size hfb, rfl, hx, grown_trans g1 (grown_of_below q2)⟩
set_option maxHeartbeats 1000000 in
theorem val_ok {w : World} {s : ByteArray} {R B cap b e : Nat} {t : Int} (h : Rdr w s R B cap b e) (g : Glob w) (_hR : 2 < R) (h0 : 0 ≤ t) (h3 : t < 3) (hs : e + (vbN t).toNat ≤ s.size) (hv : valB t (s.extract e (e + (vbN t).toNat)) = true) :
    Calls Tryz.prog 146 #[.pointer (some ⟨R, 0, none⟩), .int .i64 t] w fun ev w' => ev = .returned (.tuple #[.string (s.extract e (e + (vbN t).toNat)), .nilIface]) ∧ Rdr w' s R B cap e (e + (vbN t).toNat) ∧ w.grownBy w' (some R) := by
  have hvb := vbN_bd t
  obtain ⟨k, hk⟩ : ∃ k : Nat, vbN t = (k : Int) := ⟨(vbN t).toNat, by omega⟩
  have HK : Hid (vbN t = (k : Int)) := hk
  have hk2 : 2 ≤ k ∧ k ≤ 4 := by omega
  have hs' : e + k ≤ s.size := by omega
  have hv' : valB t (s.extract e (e + k)) = true := by rw [show e + k = e + (vbN t).toNat by omega]; exact hv
  clear hs hk hv
  rw [show (vbN t).toNat = k by have := HK.out; omega]
  go_enter Tryz.func146, Tryz.ntmps146
  go_wp2_with fail
  refine (valueBytes _ _ h0 h3 g).mono ?_
  rintro ev w0 ⟨rfl, rfl⟩
  rw [HK.out]
  go_wp2_with fail
  refine (pc_ok k h (by omega) (by omega)).mono ?_
  rintro ev w1 ⟨rfl, r1, g1⟩
  have hcv := str_piece s B e k (cap - e) w1 r1.bs hs'
  go_wp2_with fail
  refine (isValue _ _ _ h0 h3 (g.grown _hR g1)).mono ?_
  rintro ev w2 ⟨rfl, rfl⟩
  go_wp2
  go_ret2
  exact ⟨rfl, r1, g1⟩
theorem grown_new {w W : World} {o : Obj} {R : Nat} {a : Addr} {v : Value} (g : (w.alloc o).grownBy W (some R)) (ha : a.block = w.heap.size) : w.grownBy (W.setCell a v) (some R) :=
  ⟨g.os, g.tape, g.output, by have := g.size; simp at this; simp [World.setCell]; omega, fun k hk hne => by
    rw [Below.heap_setCell _ _ _ _ (by omega), g.block k (by simp; omega) hne, Below.heap_alloc _ _ _ hk]⟩
theorem grown_new' {w W : World} {R : Nat} {a : Addr} {v : Value} (g : w.grownBy W (some R)) (ha : w.heap.size ≤ a.block) : w.grownBy (W.setCell a v) (some R) :=
  ⟨g.os, g.tape, g.output, by simpa [World.setCell] using g.size, fun k hk hne => by rw [Below.heap_setCell _ _ _ _ (by omega)]; exact g.block k hk hne⟩
theorem grown_start {w W : World} {o : Obj} {R : Nat} (g : (w.alloc o).grownBy W (some R)) : w.grownBy W (some R) := grown_trans (World.grownBy_alloc w o (some R)) g
set_option maxHeartbeats 1000000 in
theorem key_short {w : World} {s : ByteArray} {R B cap b e : Nat} {t : Int} (h : Rdr w s R B cap b e) (g : Glob w) (_hR : 2 < R) (h0 : 0 ≤ t) (h3 : t < 3) (hs : s.size < e + (kbN t).toNat) :
    Calls Tryz.prog 144 #[.pointer (some ⟨R, 0, none⟩), .int .i64 t] w fun ev w' => ∃ fb, w.heap.size ≤ fb ∧ ev = .returned (.tuple #[.agg #[.int .i64 0, .string ⟨#[]⟩], .iface 133 (.pointer (some ⟨fb, 0, none⟩))]) ∧ ErrIs w' (.iface 133 (.pointer (some ⟨fb, 0, none⟩))) 1 (e : Int) ∧ w.grownBy w' (some R) := by
  have hkb := kbN_bd t
  obtain ⟨k, hk⟩ : ∃ k : Nat, kbN t = (k : Int) := ⟨(kbN t).toNat, by omega⟩
  have HK : Hid (kbN t = (k : Int)) := hk
  have hk2 : 2 ≤ k ∧ k ≤ 6 := by omega
  have ha := h.keep (below_alloc w (.cells #[.int .i64 0, .string ⟨#[]⟩] 83))
  have ga := g.keep (below_alloc w (.cells #[.int .i64 0, .string ⟨#[]⟩] 83))
  have hRw : R < w.heap.size := cell_lt h.rd.c0
  have hs' : s.size < e + k := by omega
  clear hs hk
  go_enter Tryz.func144, Tryz.ntmps144
  go_wp2_with fail
  refine (keyBytes _ _ h0 h3 ga).mono ?_
  rintro ev w0 ⟨rfl, rfl⟩
  rw [HK.out]
  go_wp2_with fail
  refine (pc_no k ha (by omega) (by omega)).mono ?_
  rintro ev w1 ⟨fb, hfb, rfl, hx, g1⟩
  have rc0 : w1.cell? ⟨w.heap.size, 0, none⟩ = some (.int .i64 0) := g1.cell (by simp) (by simp; omega)
  have rc1 : w1.cell? ⟨w.heap.size, 1, none⟩ = some (.string ⟨#[]⟩) := g1.cell (by simp) (by simp; omega)
  have rf0 : w1.frozen? ⟨w.heap.size, 0, none⟩ = false := (World.frozen?_of_block (g1.block _ (by simp) (by simp; omega))).trans (by simp)
  have rf1 : w1.frozen? ⟨w.heap.size, 1, none⟩ = false := (World.frozen?_of_block (g1.block _ (by simp) (by simp; omega))).trans (by simp)
  have hfb' : w.heap.size < fb := by simp at hfb; omega
  go_wp2
  exact bodyPost_ret (v := .tuple #[.agg #[.int .i64 0, .string ⟨#[]⟩], .iface 133 (.pointer (some ⟨fb, 0, none⟩))]) (by simp [results, Tryz.results144, go_sem, rc0, rc1]) rfl ⟨fb, by omega, rfl, (hx.set (by simp; omega)).set (by simp; omega), grown_new' (grown_new' (grown_start g1) (by simp)) (by simp)⟩
set_option maxHeartbeats 1000000 in
theorem key_bad {w : World} {s : ByteArray} {R B cap b e : Nat} {t : Int} (h : Rdr w s R B cap b e) (g : Glob w) (_hR : 2 < R) (h0 : 0 ≤ t) (h3 : t < 3) (hs : e + (kbN t).toNat ≤ s.size) (hv : keyB t (s.extract e (e + (kbN t).toNat)) = false) :
    Calls Tryz.prog 144 #[.pointer (some ⟨R, 0, none⟩), .int .i64 t] w fun ev w' => ∃ fb, w.heap.size ≤ fb ∧ ev = .returned (.tuple #[.agg #[.int .i64 0, .string ⟨#[]⟩], .iface 133 (.pointer (some ⟨fb, 0, none⟩))]) ∧ ErrIs w' (.iface 133 (.pointer (some ⟨fb, 0, none⟩))) 7 (e : Int) ∧ w.grownBy w' (some R) := by
  have hkb := kbN_bd t
  obtain ⟨k, hk⟩ : ∃ k : Nat, kbN t = (k : Int) := ⟨(kbN t).toNat, by omega⟩
  have HK : Hid (kbN t = (k : Int)) := hk
  have hk2 : 2 ≤ k ∧ k ≤ 6 := by omega
  have ha := h.keep (below_alloc w (.cells #[.int .i64 0, .string ⟨#[]⟩] 83))
  have ga := g.keep (below_alloc w (.cells #[.int .i64 0, .string ⟨#[]⟩] 83))
  have hRw : R < w.heap.size := cell_lt h.rd.c0
  have hs' : e + k ≤ s.size := by omega
  have hv' : keyB t (s.extract e (e + k)) = false := by rw [show e + k = e + (kbN t).toNat by omega]; exact hv
  clear hs hk hv
  go_enter Tryz.func144, Tryz.ntmps144
  go_wp2_with fail
  refine (keyBytes _ _ h0 h3 ga).mono ?_
  rintro ev w0 ⟨rfl, rfl⟩
  rw [HK.out]
  go_wp2_with fail
  refine (pc_ok k ha (by omega) (by omega)).mono ?_
  rintro ev w1 ⟨rfl, r1, g1⟩
  have rc0 : w1.cell? ⟨w.heap.size, 0, none⟩ = some (.int .i64 0) := g1.cell (by simp) (by simp; omega)
  have rc1 : w1.cell? ⟨w.heap.size, 1, none⟩ = some (.string ⟨#[]⟩) := g1.cell (by simp) (by simp; omega)
  have rf0 : w1.frozen? ⟨w.heap.size, 0, none⟩ = false := (World.frozen?_of_block (g1.block _ (by simp) (by simp; omega))).trans (by simp)
  have rf1 : w1.frozen? ⟨w.heap.size, 1, none⟩ = false := (World.frozen?_of_block (g1.block _ (by simp) (by simp; omega))).trans (by simp)
  have hcv := str_piece s B e k (cap - e) w1 r1.bs hs'
  have gl1 := ga.grown _hR g1
  have q1a : ∀ o, Below w1.heap.size w1 (w1.alloc o) := fun o => below_alloc w1 o
  go_wp2_with fail
  refine (isKey _ _ _ h0 h3 (gl1.keep (q1a _))).mono ?_
  rintro ev w2 ⟨rfl, q2⟩
  have q12 := below_trans (q1a _) q2
  have sc0 := (q12.cell (p := ⟨w.heap.size, 0, none⟩) (cell_lt rc0)).trans rc0
  have sc1 := (q12.cell (p := ⟨w.heap.size, 1, none⟩) (cell_lt rc1)).trans rc1
  have sf0 := (q12.frozen (p := ⟨w.heap.size, 0, none⟩) (cell_lt rc0)).trans rf0
  have sf1 := (q12.frozen (p := ⟨w.heap.size, 1, none⟩) (cell_lt rc1)).trans rf1
  go_wp2_with fail
  refine (rdFault' 7 (r1.keep q12) (by decide) (by decide)).mono ?_
  rintro ev w3 ⟨fb, hfb, rfl, hx, q3⟩
  have uc0 := (q3.cell (p := ⟨w.heap.size, 0, none⟩) (cell_lt sc0)).trans sc0
  have uc1 := (q3.cell (p := ⟨w.heap.size, 1, none⟩) (cell_lt sc1)).trans sc1
  have uf0 := (q3.frozen (p := ⟨w.heap.size, 0, none⟩) (cell_lt sc0)).trans sf0
  have uf1 := (q3.frozen (p := ⟨w.heap.size, 1, none⟩) (cell_lt sc1)).trans sf1
  have hfb' : w.heap.size < fb := by have h1 := g1.size; have h2 := q12.size; simp at h1; omega
  go_wp2
  exact bodyPost_ret (v := .tuple #[.agg #[.int .i64 0, .string ⟨#[]⟩], .iface 133 (.pointer (some ⟨fb, 0, none⟩))]) (by simp [results, Tryz.results144, go_sem, uc0, uc1]) rfl ⟨fb, by omega, rfl, (hx.set (by simp; omega)).set (by simp; omega), grown_new' (grown_new' (grown_trans (grown_start g1) (grown_of_below (below_trans q12 q3))) (by simp)) (by simp)⟩
set_option maxHeartbeats 1000000 in
theorem key_ok {w : World} {s : ByteArray} {R B cap b e : Nat} {t : Int} (h : Rdr w s R B cap b e) (g : Glob w) (_hR : 2 < R) (h0 : 0 ≤ t) (h3 : t < 3) (hs : e + (kbN t).toNat ≤ s.size) (hv : keyB t (s.extract e (e + (kbN t).toNat)) = true) :
    Calls Tryz.prog 144 #[.pointer (some ⟨R, 0, none⟩), .int .i64 t] w fun ev w' => ev = .returned (.tuple #[.agg #[.int .i64 t, .string (s.extract e (e + (kbN t).toNat))], .nilIface]) ∧ Rdr w' s R B cap e (e + (kbN t).toNat) ∧ w.grownBy w' (some R) := by
  have hkb := kbN_bd t
  obtain ⟨k, hk⟩ : ∃ k : Nat, kbN t = (k : Int) := ⟨(kbN t).toNat, by omega⟩
  have HK : Hid (kbN t = (k : Int)) := hk
  have hk2 : 2 ≤ k ∧ k ≤ 6 := by omega
  have ha := h.keep (below_alloc w (.cells #[.int .i64 0, .string ⟨#[]⟩] 83))
  have ga := g.keep (below_alloc w (.cells #[.int .i64 0, .string ⟨#[]⟩] 83))
  have hRw : R < w.heap.size := cell_lt h.rd.c0
  have hs' : e + k ≤ s.size := by omega
  have hv' : keyB t (s.extract e (e + k)) = true := by rw [show e + k = e + (kbN t).toNat by omega]; exact hv
  clear hs hk hv
  rw [show (kbN t).toNat = k by have := HK.out; omega]
  go_enter Tryz.func144, Tryz.ntmps144
  go_wp2_with fail
  refine (keyBytes _ _ h0 h3 ga).mono ?_
  rintro ev w0 ⟨rfl, rfl⟩
  rw [HK.out]
  go_wp2_with fail
  refine (pc_ok k ha (by omega) (by omega)).mono ?_
  rintro ev w1 ⟨rfl, r1, g1⟩
  have rc0 : w1.cell? ⟨w.heap.size, 0, none⟩ = some (.int .i64 0) := g1.cell (by simp) (by simp; omega)
  have rc1 : w1.cell? ⟨w.heap.size, 1, none⟩ = some (.string ⟨#[]⟩) := g1.cell (by simp) (by simp; omega)
  have rf0 : w1.frozen? ⟨w.heap.size, 0, none⟩ = false := (World.frozen?_of_block (g1.block _ (by simp) (by simp; omega))).trans (by simp)
  have rf1 : w1.frozen? ⟨w.heap.size, 1, none⟩ = false := (World.frozen?_of_block (g1.block _ (by simp) (by simp; omega))).trans (by simp)
  have hcv := str_piece s B e k (cap - e) w1 r1.bs hs'
  have gl1 := ga.grown _hR g1
  have q1a : ∀ o, Below w1.heap.size w1 (w1.alloc o) := fun o => below_alloc w1 o
  go_wp2_with fail
  refine (isKey _ _ _ h0 h3 (gl1.keep (q1a _))).mono ?_
  rintro ev w2 ⟨rfl, q2⟩
  have q12 := below_trans (q1a _) q2
  have sc0 := (q12.cell (p := ⟨w.heap.size, 0, none⟩) (cell_lt rc0)).trans rc0
  have sc1 := (q12.cell (p := ⟨w.heap.size, 1, none⟩) (cell_lt rc1)).trans rc1
  have sf0 := (q12.frozen (p := ⟨w.heap.size, 0, none⟩) (cell_lt rc0)).trans rf0
  have sf1 := (q12.frozen (p := ⟨w.heap.size, 1, none⟩) (cell_lt rc1)).trans rf1
  have kv0 : w2.cell? ⟨w1.heap.size, 0, none⟩ = some (.int .i64 t) := (q2.cell (p := ⟨w1.heap.size, 0, none⟩) (by simp)).trans (by simp)
  have kv1 : w2.cell? ⟨w1.heap.size, 1, none⟩ = some (.string (s.extract e (e + k))) := (q2.cell (p := ⟨w1.heap.size, 1, none⟩) (by simp)).trans (by simp)
  have r2 := r1.keep q12
  have hnR : R ≠ w.heap.size := by omega
  have hnB : B ≠ w.heap.size := by have := cell_lt (h.bs e (by omega)); simp at this; omega
  go_wp2
  refine bodyPost_ret (v := .tuple #[.agg #[.int .i64 t, .string (s.extract e (e + k))], .nilIface]) (by simp [results, Tryz.results144, go_sem, sc0, sc1]) rfl ⟨rfl, ?_, grown_new' (grown_new' (grown_trans (grown_start g1) (grown_of_below q12)) (by simp)) (by simp)⟩
  exact (r2.set (by simpa using fun h => hnR h.symm) (by simpa using fun h => hnB h.symm)).set (by simpa using fun h => hnR h.symm) (by simpa using fun h => hnB h.symm)
end Go.Proofs.YtindifjhocgkbaaGreatDoor
