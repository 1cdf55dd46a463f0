/-
  The labels that are asked for.
-/
import Derived.Test.YtagkpkkbkeefbaaKs
namespace Go.Proofs.Ytagkpkkbkeefbaa
open Go.RowKit Go.Lib

def askd (L : List Int) (j : Int) : Bool := L.isEmpty || L.contains j
def lbl (L : List Int) (k : Nat) : List Value := (List.range 16).map fun j : Nat => .bool (decide (j < k) && askd L (j : Int))
theorem lbl_set (L : List Int) (k : Nat) (hk : k < 16) : (lbl L k).set k (.bool (askd L k)) = lbl L (k + 1) := by
  unfold lbl
  apply List.ext_getElem?
  intro j
  rw [List.getElem?_set]
  simp only [List.getElem?_map, List.length_map, List.length_range]
  by_cases hj : k = j
  · subst hj
    rw [if_pos rfl, if_pos hk, List.getElem?_range hk]
    simp
  · rw [if_neg hj]
    by_cases h16 : j < 16
    · rw [List.getElem?_range h16]
      simp only [Option.map_some]
      congr 3
      have : decide (j < k) = decide (j < k + 1) := by rw [decide_eq_decide]; omega
      rw [this]
    · rw [List.getElem?_eq_none (by simpa using h16)]
      rfl
theorem contains_call (A : Option Addr) (c : Nat) (l : List Int) (x : Int) (w : World) (h : RD w A c l) (hl : l.length ≤ 65536) :
    Calls Try.prog 59 #[.slice A l.length c, .int .i64 x] w fun e w' => e = .returned (.bool (hasB l x)) ∧ w = w' := by
  by_cases hn : 0 < l.length
  · obtain ⟨ad, e, _, _⟩ := h.at_ hn
    obtain ⟨b, off, rfl, hc⟩ := ints_at (k := .i64) (zs := l) (fun i hi => h.all_ e hi) hn
    subst e
    refine (Try.slices_Contains_int b off l.length c l x w (Nat.le_refl _) (by omega) hc).mono ?_
    rintro e w' ⟨rfl, rfl⟩
    rw [List.take_length]
    exact ⟨rfl, rfl⟩
  · obtain rfl : l = [] := List.eq_nil_of_length_eq_zero (by omega)
    refine (Try.slices_Contains_int_empty A c x w).mono ?_
    rintro e w' ⟨rfl, rfl⟩
    exact ⟨rfl, rfl⟩
theorem set16_blk (w : World) (B : Nat) (a0 a1 a2 a3 a4 a5 a6 a7 a8 a9 a10 a11 a12 a13 a14 a15 : Value) {T : TypeId} (h : w.heap[B]? = some (.cells #[a0, a1, a2, a3, a4, a5, a6, a7, a8, a9, a10, a11, a12, a13, a14, a15] T (0, 0))) (v0 v1 v2 v3 v4 v5 v6 v7 v8 v9 v10 v11 v12 v13 v14 v15 : Value) :
    ((((((((((((((((w.setCell ⟨B, 0, none⟩ v0).setCell ⟨B, 1, none⟩ v1).setCell ⟨B, 2, none⟩ v2).setCell ⟨B, 3, none⟩ v3).setCell ⟨B, 4, none⟩ v4).setCell ⟨B, 5, none⟩ v5).setCell ⟨B, 6, none⟩ v6).setCell ⟨B, 7, none⟩ v7).setCell ⟨B, 8, none⟩ v8).setCell ⟨B, 9, none⟩ v9).setCell ⟨B, 10, none⟩ v10).setCell ⟨B, 11, none⟩ v11).setCell ⟨B, 12, none⟩ v12).setCell ⟨B, 13, none⟩ v13).setCell ⟨B, 14, none⟩ v14).setCell ⟨B, 15, none⟩ v15).heap[B]? = some (.cells #[v0, v1, v2, v3, v4, v5, v6, v7, v8, v9, v10, v11, v12, v13, v14, v15] T (0, 0)) := by
  have := (setCell_cells (setCell_cells (setCell_cells (setCell_cells (setCell_cells (setCell_cells (setCell_cells (setCell_cells (setCell_cells (setCell_cells (setCell_cells (setCell_cells (setCell_cells (setCell_cells (setCell_cells (setCell_cells h 0 v0) 1 v1) 2 v2) 3 v3) 4 v4) 5 v5) 6 v6) 7 v7) 8 v8) 9 v9) 10 v10) 11 v11) 12 v12) 13 v13) 14 v14) 15 v15)
  simp only [List.setIfInBounds_toArray, List.set_cons_succ, List.set_cons_zero] at this
  exact this
theorem below_set16 {n B : Nat} {w w' : World} (h : Below n w w') (hB : n ≤ B) (v0 v1 v2 v3 v4 v5 v6 v7 v8 v9 v10 v11 v12 v13 v14 v15 : Value) : Below n w ((((((((((((((((w'.setCell ⟨B, 0, none⟩ v0).setCell ⟨B, 1, none⟩ v1).setCell ⟨B, 2, none⟩ v2).setCell ⟨B, 3, none⟩ v3).setCell ⟨B, 4, none⟩ v4).setCell ⟨B, 5, none⟩ v5).setCell ⟨B, 6, none⟩ v6).setCell ⟨B, 7, none⟩ v7).setCell ⟨B, 8, none⟩ v8).setCell ⟨B, 9, none⟩ v9).setCell ⟨B, 10, none⟩ v10).setCell ⟨B, 11, none⟩ v11).setCell ⟨B, 12, none⟩ v12).setCell ⟨B, 13, none⟩ v13).setCell ⟨B, 14, none⟩ v14).setCell ⟨B, 15, none⟩ v15) :=
  ((((((((((((((((h.setCell (p := ⟨B, 0, none⟩) hB v0).setCell (p := ⟨B, 1, none⟩) hB v1).setCell (p := ⟨B, 2, none⟩) hB v2).setCell (p := ⟨B, 3, none⟩) hB v3).setCell (p := ⟨B, 4, none⟩) hB v4).setCell (p := ⟨B, 5, none⟩) hB v5).setCell (p := ⟨B, 6, none⟩) hB v6).setCell (p := ⟨B, 7, none⟩) hB v7).setCell (p := ⟨B, 8, none⟩) hB v8).setCell (p := ⟨B, 9, none⟩) hB v9).setCell (p := ⟨B, 10, none⟩) hB v10).setCell (p := ⟨B, 11, none⟩) hB v11).setCell (p := ⟨B, 12, none⟩) hB v12).setCell (p := ⟨B, 13, none⟩) hB v13).setCell (p := ⟨B, 14, none⟩) hB v14).setCell (p := ⟨B, 15, none⟩) hB v15)
set_option maxHeartbeats 8000000 in
set_option maxRecDepth 100000 in
theorem labels_any (A : Option Addr) (c : Nat) (L : List Int) (w : World) (h : RD w A c L) (hl : L.length ≤ 65536) :
    Calls Try.prog 43 #[.slice A L.length c] w fun e w' => e = .returned (.agg #[.bool (askd L 0), .bool (askd L 1), .bool (askd L 2), .bool (askd L 3), .bool (askd L 4), .bool (askd L 5), .bool (askd L 6), .bool (askd L 7), .bool (askd L 8), .bool (askd L 9), .bool (askd L 10), .bool (askd L 11), .bool (askd L 12), .bool (askd L 13), .bool (askd L 14), .bool (askd L 15)]) ∧ Below w.heap.size w w' := by
  obtain ⟨m0, m1, ms, mb⟩ := new_two w (.cells #[.bool false, .bool false, .bool false, .bool false, .bool false, .bool false, .bool false, .bool false, .bool false, .bool false, .bool false, .bool false, .bool false, .bool false, .bool false, .bool false] 82) (.cells #[.bool false, .bool false, .bool false, .bool false, .bool false, .bool false, .bool false, .bool false, .bool false, .bool false, .bool false, .bool false, .bool false, .bool false, .bool false, .bool false] 82)
  have H := Lib.hid h
  have h0 : Hid (lbl L 0 = [.bool false, .bool false, .bool false, .bool false, .bool false, .bool false, .bool false, .bool false, .bool false, .bool false, .bool false, .bool false, .bool false, .bool false, .bool false, .bool false]) := by show _ = _; simp [lbl, List.range_succ]
  have C59 : Hid (∀ (W : World) (x : Int), Below w.heap.size w W → Calls Try.prog 59 #[.slice A L.length c, .int .i64 x] W fun e w' => e = .returned (.bool (hasB L x)) ∧ W = w') := fun W x hb => contains_call A c L x W (H.out.go hb) hl
  have HEM : Hid (L.isEmpty = decide (L.length = 0)) := by show _ = _; cases L <;> simp
  obtain ⟨n, HN⟩ : ∃ n, Hid (L.length = n) := ⟨_, rfl⟩
  have hn64 : n ≤ 65536 := by rw [← HN.out]; exact hl
  rw [HN.out] at C59 HEM ⊢
  obtain ⟨W1, hW1⟩ : ∃ W1, Hid ((w.alloc (.cells #[.bool false, .bool false, .bool false, .bool false, .bool false, .bool false, .bool false, .bool false, .bool false, .bool false, .bool false, .bool false, .bool false, .bool false, .bool false, .bool false] 82)).alloc (.cells #[.bool false, .bool false, .bool false, .bool false, .bool false, .bool false, .bool false, .bool false, .bool false, .bool false, .bool false, .bool false, .bool false, .bool false, .bool false, .bool false] 82) = W1) := ⟨_, rfl⟩
  rw [hW1.out] at m0 m1 ms mb
  have M0 := Lib.hid m0; have M1 := Lib.hid m1; have MS := Lib.hid ms; have MB := Lib.hid mb
  obtain ⟨G, hG⟩ : ∃ G, Hid (w.heap.size = G) := ⟨_, rfl⟩
  rw [hG.out] at M0 M1 MS
  clear m0 m1 ms mb h
  go_enter Try.func43, Try.ntmps43
  go_wp2
  rw [hW1.out]
  simp only [hG.out]
  go_loopw [4, 5] (fun _ i wr => ∃ (k : Nat), k ≤ 16 ∧ i = .int .i64 k ∧ Hid (wr.heap[G + 1]? = some (.cells (lbl L k).toArray 82 (0, 0))) ∧ Hid (wr.heap[G]? = some (.cells #[.bool false, .bool false, .bool false, .bool false, .bool false, .bool false, .bool false, .bool false, .bool false, .bool false, .bool false, .bool false, .bool false, .bool false, .bool false, .bool false] 82 (0, 0))) ∧ Hid (Below w.heap.size w wr)) (fun _ i _ => 16 - (RowKit.intOf i).toNat)
  case atStart => exact ⟨0, by omega, rfl, by show _ = _; rw [h0.out]; exact M1.out, M0.out, MB.out⟩
  case round =>
    obtain ⟨k, hk, rfl, HL, HR, HB⟩ := hrel
    have hGs : G + 1 < wr.heap.size := lt_of_some HL.out
    by_cases hlt : k < 16
    · have hcl := Go.Joins.cell_of_block HL.out k
      have hfl := Go.Joins.unfrozen_of_block HL.out k
      have hlk : (lbl L k)[k]? = some (.bool false) := by simp [lbl, hlt]
      rw [List.getElem?_toArray, hlk] at hcl
      have HS : Hid (∀ v, v = askd L k → (wr.setCell ⟨G + 1, k, none⟩ (.bool v)).heap[G + 1]? = some (.cells (lbl L (k + 1)).toArray 82 (0, 0))) := by
        rintro v rfl
        rw [setCell_cells HL.out k _, ← lbl_set L k hlt]
        simp
      have HSR : Hid (∀ v, (wr.setCell ⟨G + 1, k, none⟩ v).heap[G]? = some (.cells #[.bool false, .bool false, .bool false, .bool false, .bool false, .bool false, .bool false, .bool false, .bool false, .bool false, .bool false, .bool false, .bool false, .bool false, .bool false, .bool false] 82 (0, 0))) := fun v => (setCell_only _ (by omega)).trans HR.out
      have HSB : Hid (∀ v, Below w.heap.size w (wr.setCell ⟨G + 1, k, none⟩ v)) := fun v => HB.out.setCell (p := ⟨G + 1, k, none⟩) (by show w.heap.size ≤ G + 1; rw [hG.out]; omega) v
      have hk0 : (0 : Int) ≤ (k : Int) := by omega
      have hk16 : (k : Int) < 16 := by omega
      have hgg : G < wr.heap.size := by omega
      clear hlk
      by_cases hn0 : n = 0
      · have hA : Hid (askd L k = true) := by show _ = _; rw [askd, HEM.out]; simp [hn0]
        subst hn0
        go_wp2
        go_roundw
        case rel => exact ⟨k + 1, by omega, by go_num, HS.out true hA.out.symm, HSR.out _, HSB.out _⟩
        case measure => simp [RowKit.intOf]; omega
      · have hA : Hid (askd L k = hasB L k) := by show _ = _; rw [askd, HEM.out]; simp [hn0, hasB]
        have hd : ((n : Int) == 0) = false := by simp; omega
        have CC := Lib.hid (C59.out wr k HB.out)
        obtain ⟨q, HQ⟩ : ∃ q, Hid (hasB L k = q) := ⟨_, rfl⟩
        rw [HQ.out] at CC
        clear hn0
        go_wp2_with (go_at_call 59; refine CC.out.mono ?_; rintro e w' ⟨rfl, rfl⟩)
        go_roundw
        case rel => exact ⟨k + 1, by omega, by go_num, HS.out q (by rw [hA.out, HQ.out]), HSR.out _, HSB.out _⟩
        case measure => simp [RowKit.intOf]; omega
    · obtain rfl : k = 16 := by omega
      have hL16 : lbl L 16 = [.bool (askd L 0), .bool (askd L 1), .bool (askd L 2), .bool (askd L 3), .bool (askd L 4), .bool (askd L 5), .bool (askd L 6), .bool (askd L 7), .bool (askd L 8), .bool (askd L 9), .bool (askd L 10), .bool (askd L 11), .bool (askd L 12), .bool (askd L 13), .bool (askd L 14), .bool (askd L 15)] := by simp [lbl, List.range_succ]
      have HL2 : Hid (wr.heap[G + 1]? = some (.cells #[.bool (askd L 0), .bool (askd L 1), .bool (askd L 2), .bool (askd L 3), .bool (askd L 4), .bool (askd L 5), .bool (askd L 6), .bool (askd L 7), .bool (askd L 8), .bool (askd L 9), .bool (askd L 10), .bool (askd L 11), .bool (askd L 12), .bool (askd L 13), .bool (askd L 14), .bool (askd L 15)] 82 (0, 0))) := by have := HL.out; rw [hL16] at this; exact this
      clear hL16 HL
      have hcl := Go.Joins.cell_of_block HL2.out
      have hcr := Go.Joins.cell_of_block HR.out
      have hfr := Go.Joins.unfrozen_of_block HR.out
      have x0 := hcl 0; have x1 := hcl 1; have x2 := hcl 2; have x3 := hcl 3; have x4 := hcl 4; have x5 := hcl 5; have x6 := hcl 6; have x7 := hcl 7; have x8 := hcl 8; have x9 := hcl 9; have x10 := hcl 10; have x11 := hcl 11; have x12 := hcl 12; have x13 := hcl 13; have x14 := hcl 14; have x15 := hcl 15
      have y0 := hcr 0; have y1 := hcr 1; have y2 := hcr 2; have y3 := hcr 3; have y4 := hcr 4; have y5 := hcr 5; have y6 := hcr 6; have y7 := hcr 7; have y8 := hcr 8; have y9 := hcr 9; have y10 := hcr 10; have y11 := hcr 11; have y12 := hcr 12; have y13 := hcr 13; have y14 := hcr 14; have y15 := hcr 15
      have z0 := hfr 0; have z1 := hfr 1; have z2 := hfr 2; have z3 := hfr 3; have z4 := hfr 4; have z5 := hfr 5; have z6 := hfr 6; have z7 := hfr 7; have z8 := hfr 8; have z9 := hfr 9; have z10 := hfr 10; have z11 := hfr 11; have z12 := hfr 12; have z13 := hfr 13; have z14 := hfr 14; have z15 := hfr 15
      simp only [List.getElem?_toArray, List.getElem?_cons_succ, List.getElem?_cons_zero] at x0 y0 x1 y1 x2 y2 x3 y3 x4 y4 x5 y5 x6 y6 x7 y7 x8 y8 x9 y9 x10 y10 x11 y11 x12 y12 x13 y13 x14 y14 x15 y15
      have hgg : G < wr.heap.size := by omega
      clear hcl hcr hfr
      go_wp2
      have hblk := set16_blk wr G _ _ _ _ _ _ _ _ _ _ _ _ _ _ _ _ HR.out (.bool (askd L 0)) (.bool (askd L 1)) (.bool (askd L 2)) (.bool (askd L 3)) (.bool (askd L 4)) (.bool (askd L 5)) (.bool (askd L 6)) (.bool (askd L 7)) (.bool (askd L 8)) (.bool (askd L 9)) (.bool (askd L 10)) (.bool (askd L 11)) (.bool (askd L 12)) (.bool (askd L 13)) (.bool (askd L 14)) (.bool (askd L 15))
      have hbel := below_set16 HB.out (show w.heap.size ≤ G by rw [hG.out]; omega) (.bool (askd L 0)) (.bool (askd L 1)) (.bool (askd L 2)) (.bool (askd L 3)) (.bool (askd L 4)) (.bool (askd L 5)) (.bool (askd L 6)) (.bool (askd L 7)) (.bool (askd L 8)) (.bool (askd L 9)) (.bool (askd L 10)) (.bool (askd L 11)) (.bool (askd L 12)) (.bool (askd L 13)) (.bool (askd L 14)) (.bool (askd L 15))
      have hcl2 := Go.Joins.cell_of_block hblk
      have t0 := hcl2 0; have t1 := hcl2 1; have t2 := hcl2 2; have t3 := hcl2 3; have t4 := hcl2 4; have t5 := hcl2 5; have t6 := hcl2 6; have t7 := hcl2 7; have t8 := hcl2 8; have t9 := hcl2 9; have t10 := hcl2 10; have t11 := hcl2 11; have t12 := hcl2 12; have t13 := hcl2 13; have t14 := hcl2 14; have t15 := hcl2 15
      simp only [List.getElem?_toArray, List.getElem?_cons_succ, List.getElem?_cons_zero] at t0 t1 t2 t3 t4 t5 t6 t7 t8 t9 t10 t11 t12 t13 t14 t15
      exact bodyPost_ret (v := .agg #[.bool (askd L 0), .bool (askd L 1), .bool (askd L 2), .bool (askd L 3), .bool (askd L 4), .bool (askd L 5), .bool (askd L 6), .bool (askd L 7), .bool (askd L 8), .bool (askd L 9), .bool (askd L 10), .bool (askd L 11), .bool (askd L 12), .bool (askd L 13), .bool (askd L 14), .bool (askd L 15)]) (by simp [results, Try.results43, go_sem, t0, t1, t2, t3, t4, t5, t6, t7, t8, t9, t10, t11, t12, t13, t14, t15]) rfl ⟨rfl, hbel⟩
end Go.Proofs.Ytagkpkkbkeefbaa
