/-
  The reference's Apply: all of it.
-/
import Derived.Test.YtfapfkaipdcflaaGreatMo
import Derived.Test.YtfapfkaipdcflaaGreatMp
namespace Go.Proofs.YtfapfkaipdcflaaGreat.K
open Go.RowKit Go.Lib

set_option maxHeartbeats 8000000 in
set_option maxRecDepth 100000 in
theorem rapplyT_any (n : Int) (A : Option Addr) (c : Nat) (l : List Ls.Lk) (k t u v x y z : Int) (w : World) (h : RL w.heap.size w A c l) (hl : l.length ≤ 60000) :
    Calls Tryz.prog 28 #[.agg #[.int .i64 n, .slice A l.length c], .agg #[.int .i64 k, .int .i64 t, .int .i64 u, .int .i64 v, .int .i64 x, .int .i64 y, .int .i64 z]] w (ApplyT n l ⟨k, t, u, v, x, y, z⟩ w) := by
  by_cases hA : Ls.apE n l ⟨k, t, u, v, x, y, z⟩ = 0
  · obtain ⟨hV0, hG0⟩ := (Ls.apE_zero _ _ _).1 hA
    obtain hk | hk | hk : k = 1 ∨ k = 2 ∨ k = 3 := (Ls.good_kind hG0).1
    · subst hk; exact rapply_k1 n A c l t u v x y z w h hl hV0 hG0
    · subst hk; exact rapply_k2 n A c l t u v x y z w h hl hV0 hG0
    · subst hk; exact rapply_k3 n A c l t u v x y z w h hl hV0 hG0
  have HAE0 : Hid (Ls.apE n l ⟨k, t, u, v, x, y, z⟩ ≠ 0) := hA
  clear hA
  obtain ⟨W1, hW1⟩ : ∃ W1, ((w.alloc (.cells #[.int .i64 n, .slice A l.length c] 24)).alloc (.cells #[.int .i64 k, .int .i64 t, .int .i64 u, .int .i64 v, .int .i64 x, .int .i64 y, .int .i64 z] 57)).alloc (.cells #[.int .i64 0, .slice none 0 0] 24) = W1 := ⟨_, rfl⟩
  obtain ⟨n0, n1, n2, n3, n4⟩ := new_three w _ _ _ W1 hW1
  obtain ⟨G, hG⟩ : ∃ G, Hid (w.heap.size = G) := ⟨_, rfl⟩
  have HW1 := Lib.hid hW1
  have HB1 := Lib.hid n4
  have H1 := Lib.hid (h.up n4)
  rw [hG.out] at n0 n1 n2 n3
  have N0 := Lib.hid n0; have N1 := Lib.hid n1; have N2 := Lib.hid n2; have N3 := Lib.hid n3
  have C13 := Lib.hid (rcheckS_any n A c l W1 H1.out (by omega))
  have s0 := Go.Joins.cell_of_block n0 0; have s1 := Go.Joins.cell_of_block n0 1
  simp only [List.getElem?_toArray, List.getElem?_cons_succ, List.getElem?_cons_zero] at s0 s1
  clear h hW1 n4 n0 n1 n2
  obtain ⟨R, HR⟩ : ∃ R, Hid (Ls.chkS n l = R) := ⟨_, rfl⟩
  simp only [HR.out] at C13
  go_enter Tryz.func28, Tryz.ntmps28
  go_wp2_with fail
  rw [HW1.out]
  simp only [hG.out]
  refine C13.out.mono ?_
  rintro e w2 ⟨rfl, hb2⟩
  have B2 := Lib.hid hb2
  clear hb2 C13 s0 s1
  by_cases hR : R = 0
  · subst hR
    have HV := Lib.hid ((Ls.chkS_zero n l).1 HR.out)
    have n1 := (B2.out.block (G + 1) (by rw [N3.out]; omega)).trans N1.out
    have hev := Go.Joins.cell_of_block n1
    have e0 := hev 0; have e1 := hev 1; have e2 := hev 2; have e3 := hev 3; have e4 := hev 4; have e5 := hev 5; have e6 := hev 6
    simp only [List.getElem?_toArray, List.getElem?_cons_succ, List.getElem?_cons_zero] at e0 e1 e2 e3 e4 e5 e6
    have hs2 : G + 3 ≤ w2.heap.size := by have := B2.out.size; rw [N3.out] at this; exact this
    have C40 := Lib.hid (rcheck_anyE k t u v x y z w2)
    obtain ⟨R2, HR2⟩ : ∃ R2, Hid (chkE ⟨k, t, u, v, x, y, z⟩ = R2) := ⟨_, rfl⟩
    rw [HR2.out] at C40
    clear hev n1
    go_wp2_with fail
    refine C40.out.mono ?_
    rintro e w3 ⟨rfl, hb3⟩
    have B3 := Lib.hid (B2.out.trans (hb3.mono B2.out.size))
    have B23 := Lib.hid hb3
    clear hb3 C40 e0 e1 e2 e3 e4 e5 e6
    by_cases hR2 : R2 = 0
    · subst hR2
      have n0 := (B3.out.block G (by rw [N3.out]; omega)).trans N0.out
      have s0 := Go.Joins.cell_of_block n0 0; have s1 := Go.Joins.cell_of_block n0 1
      have n1 := (B3.out.block (G + 1) (by rw [N3.out]; omega)).trans N1.out
      have hev := Go.Joins.cell_of_block n1
      have e0 := hev 0; have e1 := hev 1; have e2 := hev 2; have e3 := hev 3; have e4 := hev 4; have e5 := hev 5; have e6 := hev 6
      simp only [List.getElem?_toArray, List.getElem?_cons_succ, List.getElem?_cons_zero] at s0 s1 e0 e1 e2 e3 e4 e5 e6
      have hs3 : G + 3 ≤ w3.heap.size := Nat.le_trans hs2 B23.out.size
      have M0 := Lib.hid n0; have M1 := Lib.hid n1
      clear hev n0 n1
      by_cases hu : n ≤ u
      · have HAE : Hid (Ls.apE n l ⟨k, t, u, v, x, y, z⟩ = 6) := by show _ = _; rw [Ls.apE, HR.out, if_neg (by decide), Ls.chkEv, HR2.out, if_neg (by decide), if_pos (.inl hu)]
        have du : decide (u ≥ n) = true := by rw [decide_eq_true_eq]; omega
        have n2 := (B3.out.block (G + 2) (by rw [N3.out]; omega)).trans N2.out
        have r0 := Go.Joins.cell_of_block n2 0; have r1 := Go.Joins.cell_of_block n2 1
        have f0 := Go.Joins.unfrozen_of_block n2 0; have f1 := Go.Joins.unfrozen_of_block n2 1
        simp only [List.getElem?_toArray, List.getElem?_cons_succ, List.getElem?_cons_zero] at r0 r1
        have M2 := Lib.hid n2
        clear n2
        go_wp2
        have hblk := setCell_cells (setCell_cells M2.out 0 (.int .i64 0)) 1 (.slice none 0 0)
        have hbel : Below w.heap.size w _ := ((HB1.out.trans (B3.out.mono HB1.out.size)).setCell (p := ⟨G + 2, 0, none⟩) (by show w.heap.size ≤ G + 2; rw [hG.out]; omega) (.int .i64 0)).setCell (p := ⟨G + 2, 1, none⟩) (by show w.heap.size ≤ G + 2; rw [hG.out]; omega) (.slice none 0 0)
        exact ret_state3 (p := 4) (q := 5) (r := 6) Tryz.results28 rfl (G + 2) rfl _ _ rfl rfl hblk ⟨0, [], [], none, none, 0, 0, by rw [HAE.out]; rfl, by rw [HAE.out, if_neg (by decide)]; exact ⟨rfl, rfl, rfl⟩, RX.nil_ _ _ _ _, RX.nil_ _ _ _ _, hbel, TK.nil⟩
      · by_cases hv : n ≤ v
        · have HAE : Hid (Ls.apE n l ⟨k, t, u, v, x, y, z⟩ = 6) := by show _ = _; rw [Ls.apE, HR.out, if_neg (by decide), Ls.chkEv, HR2.out, if_neg (by decide), if_pos (.inr hv)]
          have du : decide (u ≥ n) = false := by rw [decide_eq_false_iff_not]; omega
          have dv : decide (v ≥ n) = true := by rw [decide_eq_true_eq]; omega
          have n2 := (B3.out.block (G + 2) (by rw [N3.out]; omega)).trans N2.out
          have r0 := Go.Joins.cell_of_block n2 0; have r1 := Go.Joins.cell_of_block n2 1
          have f0 := Go.Joins.unfrozen_of_block n2 0; have f1 := Go.Joins.unfrozen_of_block n2 1
          simp only [List.getElem?_toArray, List.getElem?_cons_succ, List.getElem?_cons_zero] at r0 r1
          have M2 := Lib.hid n2
          clear n2
          go_wp2
          have hblk := setCell_cells (setCell_cells M2.out 0 (.int .i64 0)) 1 (.slice none 0 0)
          have hbel : Below w.heap.size w _ := ((HB1.out.trans (B3.out.mono HB1.out.size)).setCell (p := ⟨G + 2, 0, none⟩) (by show w.heap.size ≤ G + 2; rw [hG.out]; omega) (.int .i64 0)).setCell (p := ⟨G + 2, 1, none⟩) (by show w.heap.size ≤ G + 2; rw [hG.out]; omega) (.slice none 0 0)
          exact ret_state3 (p := 4) (q := 5) (r := 6) Tryz.results28 rfl (G + 2) rfl _ _ rfl rfl hblk ⟨0, [], [], none, none, 0, 0, by rw [HAE.out]; rfl, by rw [HAE.out, if_neg (by decide)]; exact ⟨rfl, rfl, rfl⟩, RX.nil_ _ _ _ _, RX.nil_ _ _ _ _, hbel, TK.nil⟩
        · have HGD : Hid (Ls.Good n ⟨k, t, u, v, x, y, z⟩) := ⟨HR2.out, by show u < n; omega, by show v < n; omega⟩
          exact absurd ((Ls.apE_zero _ _ _).2 ⟨HV.out, HGD.out⟩) HAE0.out
    · have HAE : Hid (Ls.apE n l ⟨k, t, u, v, x, y, z⟩ = R2) := by show _ = _; rw [Ls.apE, HR.out, if_neg (by decide), Ls.chkEv, HR2.out, if_pos hR2]
      have hd : (R2 != 0) = true := by simpa using hR2
      have hd' : (R2 == 0) = false := by simpa using hR2
      have H2 := Lib.hid hR2
      clear hR2
      have n2 := (B3.out.block (G + 2) (by rw [N3.out]; omega)).trans N2.out
      have r0 := Go.Joins.cell_of_block n2 0; have r1 := Go.Joins.cell_of_block n2 1
      have f0 := Go.Joins.unfrozen_of_block n2 0; have f1 := Go.Joins.unfrozen_of_block n2 1
      simp only [List.getElem?_toArray, List.getElem?_cons_succ, List.getElem?_cons_zero] at r0 r1
      have M2 := Lib.hid n2
      clear n2
      go_wp2
      have hblk := setCell_cells (setCell_cells M2.out 0 (.int .i64 0)) 1 (.slice none 0 0)
      have hbel : Below w.heap.size w _ := ((HB1.out.trans (B3.out.mono HB1.out.size)).setCell (p := ⟨G + 2, 0, none⟩) (by show w.heap.size ≤ G + 2; rw [hG.out]; omega) (.int .i64 0)).setCell (p := ⟨G + 2, 1, none⟩) (by show w.heap.size ≤ G + 2; rw [hG.out]; omega) (.slice none 0 0)
      exact ret_state3 (p := 4) (q := 5) (r := 6) Tryz.results28 rfl (G + 2) rfl _ _ rfl rfl hblk ⟨0, [], [], none, none, 0, 0, by rw [HAE.out]; rfl, by rw [HAE.out, if_neg H2.out]; exact ⟨rfl, rfl, rfl⟩, RX.nil_ _ _ _ _, RX.nil_ _ _ _ _, hbel, TK.nil⟩
  · have HAE : Hid (Ls.apE n l ⟨k, t, u, v, x, y, z⟩ = R) := by show _ = _; rw [Ls.apE, HR.out, if_pos hR]
    have hd : (R != 0) = true := by simpa using hR
    have hd' : (R == 0) = false := by simpa using hR
    have H2 := Lib.hid hR
    clear hR
    have n2 := (B2.out.block (G + 2) (by rw [N3.out]; omega)).trans N2.out
    have r0 := Go.Joins.cell_of_block n2 0; have r1 := Go.Joins.cell_of_block n2 1
    have f0 := Go.Joins.unfrozen_of_block n2 0; have f1 := Go.Joins.unfrozen_of_block n2 1
    simp only [List.getElem?_toArray, List.getElem?_cons_succ, List.getElem?_cons_zero] at r0 r1
    have M2 := Lib.hid n2
    clear n2
    go_wp2
    have hblk := setCell_cells (setCell_cells M2.out 0 (.int .i64 0)) 1 (.slice none 0 0)
    have hbel : Below w.heap.size w _ := ((HB1.out.trans (B2.out.mono HB1.out.size)).setCell (p := ⟨G + 2, 0, none⟩) (by show w.heap.size ≤ G + 2; rw [hG.out]; omega) (.int .i64 0)).setCell (p := ⟨G + 2, 1, none⟩) (by show w.heap.size ≤ G + 2; rw [hG.out]; omega) (.slice none 0 0)
    exact ret_state3 (p := 4) (q := 5) (r := 6) Tryz.results28 rfl (G + 2) rfl _ _ rfl rfl hblk ⟨0, [], [], none, none, 0, 0, by rw [HAE.out]; rfl, by rw [HAE.out, if_neg H2.out]; exact ⟨rfl, rfl, rfl⟩, RX.nil_ _ _ _ _, RX.nil_ _ _ _ _, hbel, TK.nil⟩
theorem rapply_any (n : Int) (A : Option Addr) (c : Nat) (l : List Ls.Lk) (k t u v x y z : Int) (w : World) (h : RL w.heap.size w A c l) (hl : l.length ≤ 60000) :
    Calls Tryz.prog 28 #[.agg #[.int .i64 n, .slice A l.length c], .agg #[.int .i64 k, .int .i64 t, .int .i64 u, .int .i64 v, .int .i64 x, .int .i64 y, .int .i64 z]] w (ApplyP n l ⟨k, t, u, v, x, y, z⟩ w) :=
  (rapplyT_any n A c l k t u v x y z w h hl).mono fun _ _ h => h.plain
end Go.Proofs.YtfapfkaipdcflaaGreat.K
