/-
  The reference's Slide.
-/
import Derived.Test.YtfapfkaipdcflaaGreatUgi
import Derived.Test.YtfapfkaipdcflaaGreatSr
import Derived.Test.YtfapfkaipdcflaaGreatMr
namespace Go.Proofs.YtfapfkaipdcflaaGreat
open Go.RowKit Go.Lib

namespace Ls
theorem chkSt_ev {n : Int} {l : List Ev} (h0 : 0 ≤ n ∧ n ≤ 64) (hl : l.length ≤ 65536) : chkSt n l = chkEv n 0 l := by
  unfold chkSt
  rw [if_neg (by omega), if_neg (by omega)]
end Ls
def lenP (P : Nat) (w : World) : Nat := match w.cell? ⟨P, 1, none⟩ with | some (.slice _ n _) => n | _ => 0
theorem SR.lenP {w wr : World} {P c c5 : Nat} {N : Int} {A A5 : Option Addr} {S L : List Ls.Lk} {out : List Ev} (h : SR w P N A c S L A5 c5 out wr) : lenP P wr = S.length := by
  have h1 : wr.cell? ⟨P, 1, none⟩ = some (.slice A S.length c) := Go.Joins.cell_of_block h.box 1
  unfold Go.Proofs.YtfapfkaipdcflaaGreat.lenP
  rw [h1]
set_option maxHeartbeats 8000000 in
set_option maxRecDepth 100000 in
theorem rslide_any (n k W M : Int) (A : Option Addr) (c : Nat) (l : List Ev) (w : World) (h : RV w.heap.size w A c l) (hl : l.length ≤ 1000) :
    Calls Tryz.prog 26 #[.int .i64 n, .slice A l.length c, .agg #[.int .i64 k, .int .i64 W, .int .i64 M]] w
      (SlideP (orL [chkW k W M, Ls.chkSt n l]) (if orL [chkW k W M, Ls.chkSt n l] = 0 then Ls.slideA (extW k W) (extM k M) [] l else []) w) := by
  obtain ⟨W1, HW1⟩ : ∃ W1, Hid (W1 = w.alloc (.cells #[.int .i64 k, .int .i64 W, .int .i64 M] 26)) := ⟨_, rfl⟩
  have HB1 : Hid (Below w.heap.size w W1) := by show Below _ _ _; rw [HW1.out]; exact below_new _ _
  obtain ⟨g, HG⟩ : ∃ g, Hid (w.heap.size = g) := ⟨_, rfl⟩
  have M0 : Hid (W1.heap[g]? = some (.cells #[.int .i64 k, .int .i64 W, .int .i64 M] 26 (0, 0))) := by show _ = _; rw [HW1.out, ← HG.out]; exact heap_alloc_new _ _
  have H := Lib.hid (h.up HB1.out)
  have C1 := Lib.hid (rcheckW_any k W M W1)
  obtain ⟨E, HE⟩ : ∃ E, Hid (orL [chkW k W M, Ls.chkSt n l] = E) := ⟨_, rfl⟩
  obtain ⟨R, HR⟩ : ∃ R, Hid ((if orL [chkW k W M, Ls.chkSt n l] = 0 then Ls.slideA (extW k W) (extM k M) [] l else []) = R) := ⟨_, rfl⟩
  rw [HR.out, HE.out]
  rw [HE.out] at HR
  obtain ⟨E1, HE1⟩ : ∃ E, Hid (chkW k W M = E) := ⟨_, rfl⟩
  obtain ⟨E2, HE2⟩ : ∃ E, Hid (Ls.chkSt n l = E) := ⟨_, rfl⟩
  rw [HE1.out, HE2.out] at HE
  rw [HE1.out] at C1
  obtain ⟨N, HN⟩ : ∃ N, Hid (l.length = N) := ⟨_, rfl⟩
  have hN : N ≤ 1000 := by rw [← HN.out]; exact hl
  simp only [HN.out]
  clear h hl
  have HRN : Hid (E ≠ 0 → ([] : List Ev) = R) := fun hE => HR.out.symm ▸ (by rw [if_neg hE])
  have hg0 := lt_of_some M0.out
  have HWW : Hid (w.heap.size ≤ W1.heap.size) := HB1.out.size
  have HWL : Hid (∀ (u : World) (v : Value) (m : Nat) (xs : List Value) (k : Nat), Below W1.heap.size W1 u → u.ownsRow w.heap.size 57 7 v m xs → v.ownBlock = some k → W1.heap.size ≤ k) := by
    intro u v m xs q hb ho hk
    have h5 := (ho.lt q hk).1
    have h6 := (hb.block g hg0).trans M0.out
    have h8 : W1.heap.size = w.heap.size + 1 := by rw [HW1.out]; simp
    rcases ho.2 with ⟨e0, _⟩ | ⟨g', cap, cur, e0, _, h7, _⟩
    · rw [e0] at hk; cases hk
    · rw [e0] at hk
      have : g' = q := by simpa [Value.ownBlock] using hk
      subst this
      have : g' ≠ g := by
        rintro rfl
        rw [h7] at h6
        injection h6 with h6
        injection h6 with _ h6
        exact absurd h6 (by decide)
      have := HG.out
      omega
  have p := Go.Joins.cell_of_block M0.out
  have q0 := p 0; have q1 := p 1; have q2 := p 2
  simp only [List.getElem?_toArray, List.getElem?_cons_succ, List.getElem?_cons_zero] at q0 q1 q2
  clear p
  rw [HW1.out] at C1 q0 q1 q2
  simp only [← HG.out] at q0 q1 q2
  go_enter Tryz.func26, Tryz.ntmps26
  go_wp2_with fail
  refine C1.out.mono ?_
  rw [← HW1.out]
  simp only [HG.out]
  rintro e w1 ⟨rfl, hb1⟩
  have HB2 := Lib.hid (HB1.out.trans (hb1.mono HWW.out))
  have H1 := Lib.hid (H.out.up hb1)
  have HL1 := Lib.hid H.out
  have HBW := Lib.hid hb1
  clear q0 q1 q2 C1 hb1 H
  have ret0 : Hid (∀ u : World, Below w.heap.size w u → E ≠ 0 → SlideP E R w (.returned (.tuple #[.slice none 0 0, .int .i64 E])) u) := fun u hu hE => ⟨none, 0, by rw [← HRN.out hE]; rfl, by rw [← HRN.out hE]; exact World.ownsRow_nil _ _ _ _, hu⟩
  by_cases h1 : E1 = 0
  · subst h1
    have d1 : ((0 : Int) != 0) = false := rfl
    have HEE : Hid (E2 = E) := by show _ = _; rw [← HE.out, orL_b]
    clear HE
    by_cases hn0 : n < 0
    · have hR : Hid ((1 : Int) = E) := by show _ = _; rw [← HEE.out, ← HE2.out]; unfold Ls.chkSt; rw [if_pos (.inl hn0)]
      have d2 : decide (n < 0) = true := by simpa using hn0
      have h1E := hR.out
      subst h1E
      clear hn0
      go_wp2
      go_ret2
      exact ret0.out _ HB2.out (by decide)
    · by_cases hn1 : 64 < n
      · have hR : Hid ((1 : Int) = E) := by show _ = _; rw [← HEE.out, ← HE2.out]; unfold Ls.chkSt; rw [if_pos (.inr hn1)]
        have d2 : decide (n < 0) = false := by rw [decide_eq_false_iff_not]; omega
        have d3 : decide (n > 64) = true := by rw [decide_eq_true_eq]; omega
        have h1E := hR.out
        subst h1E
        clear hn0 hn1
        go_wp2
        go_ret2
        exact ret0.out _ HB2.out (by decide)
      · have HNB : Hid (0 ≤ n ∧ n ≤ 64) := by show _ ∧ _; omega
        have HCE : Hid (Ls.chkEv n 0 l = E) := by show _ = _; rw [← HEE.out, ← HE2.out, Ls.chkSt_ev HNB.out (by rw [HN.out]; omega)]
        have d2 : decide (n < 0) = false := by rw [decide_eq_false_iff_not]; omega
        have d3 : decide (n > 64) = false := by rw [decide_eq_false_iff_not]; omega
        have d4 : decide ((N : Int) > 65536) = false := by rw [decide_eq_false_iff_not]; omega
        clear hn0 hn1 HEE
        obtain ⟨W2, HW2⟩ : ∃ W2, Hid (W2 = w1.alloc (.cells #[.int .i64 n, .slice none 0 0] 24)) := ⟨_, rfl⟩
        obtain ⟨P, HP⟩ : ∃ P, Hid (w1.heap.size = P) := ⟨_, rfl⟩
        have hb2 : Below w1.heap.size w1 W2 := by rw [HW2.out]; exact below_new _ _
        have HS0 : Hid (SR w P n none 0 [] [] none 0 [] W2) := ⟨by rw [HW2.out, ← HP.out]; exact heap_alloc_new _ _, RX.nil_ _ _ _ _, K.TK.nil, World.ownsRow_nil _ _ _ _, HB2.out.trans (hb2.mono HB2.out.size), by rw [← HP.out]; exact HB2.out.size, Ls.rl_nil, ⟨HNB.out.1, HNB.out.2, List.Pairwise.nil, fun _ h => (by cases h)⟩⟩
        have H2 := Lib.hid (H1.out.up hb2)
        have HB3 := Lib.hid (HBW.out.trans (hb2.mono HBW.out.size))
        have HBX : Hid (Below w1.heap.size w1 W2) := hb2
        have HPW : Hid (W1.heap.size ≤ P) := by show _ ≤ _; rw [← HP.out]; exact HBW.out.size
        clear hb2
        obtain ⟨XW, HXW⟩ : ∃ X, Hid (extW k W = X) := ⟨_, rfl⟩
        obtain ⟨XM, HXM⟩ : ∃ X, Hid (extM k M = X) := ⟨_, rfl⟩
        obtain ⟨T, HT⟩ : ∃ T, Hid (Ls.slideA XW XM [] l = T) := ⟨_, rfl⟩
        go_wp2_with fail
        rw [← HW2.out]
        simp only [HP.out]
        go_loopw [10, 39] (fun q i wr => ∃ (A1 A5 : Option Addr) (c1 c5 j : Nat) (S L : List Ls.Lk) (out : List Ev) (tl : Int), q = .slice A5 out.length c5 ∧ i = .int .i64 j ∧ j ≤ N ∧ Hid (SR w P n A1 c1 S L A5 c5 out wr) ∧ Hid (out ++ Ls.slideA XW XM L (l.drop j) = T) ∧ Hid (out.length + S.length ≤ 2 * j) ∧ Hid (Ls.chkEv n tl (l.drop j) = E) ∧ Hid ((j = 0 → tl = 0) ∧ (∀ e, 0 < j → l[j - 1]? = some e → e.time = tl)) ∧ Hid ((0 ≤ tl ∧ tl ≤ 1048576) ∧ ∀ x ∈ S, x.time ≤ tl ∧ tl < x.time + XW) ∧ Hid (Below W1.heap.size W1 wr)) (fun _ i _ => N - (RowKit.intOf i).toNat)
        case atStart => exact ⟨none, none, 0, 0, 0, [], [], [], 0, rfl, rfl, Nat.zero_le _, HS0.out, HT.out, by show _ ≤ _; simp, HCE.out, ⟨fun _ => rfl, fun e h => absurd h (by decide)⟩, ⟨⟨by decide, by decide⟩, fun x hx => (by cases hx)⟩, HB3.out⟩
        case round =>
          obtain ⟨A1, A5, c1, c5, j, S, L, out, tl, rfl, rfl, hj, HS, HO, HLL, HC, HTL, HTM, HB⟩ := hrel
          clear HS0 HB3
          by_cases hlt : j < N
          · obtain ⟨bb, off, ⟨k1, t1, u1, v1, x1, y1, z1⟩, rfl, hb, ha, c0, c1', c2, c3, c4, c5', c6⟩ := RV.at_ (k := j) (HL1.out.up HB.out) (by rw [HN.out]; exact hlt)
            dsimp only at c0 c1' c2 c3 c4 c5' c6
            have HEV : Hid (l.drop j = ⟨k1, t1, u1, v1, x1, y1, z1⟩ :: l.drop (j + 1)) := drop_at2 l j _ ha
            have HAT := Lib.hid ha
            have HC2 : Hid (Ls.chkEv n tl (⟨k1, t1, u1, v1, x1, y1, z1⟩ :: l.drop (j + 1)) = E) := by show _ = _; rw [← HEV.out]; exact HC.out
            obtain ⟨Gp, HGp⟩ : ∃ G, Hid (wr.heap.size = G) := ⟨_, rfl⟩
            obtain ⟨W6, HW6⟩ : ∃ W6, Hid (W6 = wr.alloc (.cells #[.int .i64 k1, .int .i64 t1, .int .i64 u1, .int .i64 v1, .int .i64 x1, .int .i64 y1, .int .i64 z1] 57)) := ⟨_, rfl⟩
            have hb6 : Below wr.heap.size wr W6 := by rw [HW6.out]; exact below_new _ _
            have HS6 := Lib.hid (HS.out.go hb6)
            have HE6 : Hid (EB Gp ⟨k1, t1, u1, v1, x1, y1, z1⟩ (.slice A5 out.length c5) W6) := by
              show EB _ _ _ _
              rw [HW6.out, ← HGp.out]
              exact ⟨heap_alloc_new _ _, fun e => by have := (HS.out.own.lt _ e).2; omega⟩
            have HB6 := Lib.hid (HB.out.trans (hb6.mono HB.out.size))
            obtain ⟨R3, HR3⟩ : ∃ r, Hid (chkE ⟨k1, t1, u1, v1, x1, y1, z1⟩ = r) := ⟨_, rfl⟩
            have CK := Lib.hid (rcheck_anyE k1 t1 u1 v1 x1 y1 z1 W6)
            rw [HR3.out] at CK
            rw [HW6.out] at CK
            obtain ⟨g0, g1, g2, g3, g4, g5, g6⟩ := HE6.out.cs
            dsimp only at g0 g1 g2 g3 g4 g5 g6
            have hgl := lt_of_some HE6.out.blk
            rw [HW6.out] at g0 g1 g2 g3 g4 g5 g6 hgl
            clear ha hb hb6 HS HB
            go_wp2_with fail
            refine CK.out.mono ?_
            rw [← HW6.out]
            simp only [HGp.out]
            rintro e w7 ⟨rfl, hb7⟩
            have HS7 := Lib.hid (HS6.out.go hb7)
            have HE7 := Lib.hid (HE6.out.go hb7)
            have HB7 := Lib.hid (HB6.out.trans (hb7.mono HB6.out.size))
            clear hb7 CK g0 g1 g2 g3 g4 g5 g6 hgl c0 c1' c2 c3 c4 c5' c6 HS6 HE6 HB6 HW6
            obtain ⟨g0, g1, g2, g3, g4, g5, g6⟩ := HE7.out.cs
            dsimp only at g0 g1 g2 g3 g4 g5 g6
            have hgl := lt_of_some HE7.out.blk
            by_cases h3 : R3 = 0
            · subst h3
              by_cases hu : n ≤ u1
              · have hR : Hid ((6 : Int) = E) := by show _ = _; rw [← HC2.out]; unfold Ls.chkEv; rw [HR3.out, if_neg (by decide), if_pos (.inl hu)]
                have hR' := hR.out
                subst hR'
                have d5 : decide (u1 ≥ n) = true := by simpa using hu
                clear hu
                go_wp2
                go_ret2
                exact ret0.out _ HS7.out.bel (by decide)
              by_cases hv : n ≤ v1
              · have hR : Hid ((6 : Int) = E) := by show _ = _; rw [← HC2.out]; unfold Ls.chkEv; rw [HR3.out, if_neg (by decide), if_pos (.inr hv)]
                have hR' := hR.out
                subst hR'
                have d5 : decide (u1 ≥ n) = false := by rw [decide_eq_false_iff_not]; omega
                have d6 : decide (v1 ≥ n) = true := by simpa using hv
                clear hu hv
                go_wp2
                go_ret2
                exact ret0.out _ HS7.out.bel (by decide)
              have HGE : Hid (Ls.Good n ⟨k1, t1, u1, v1, x1, y1, z1⟩) := ⟨HR3.out, by show u1 < n; omega, by show v1 < n; omega⟩
              have d5 : decide (u1 ≥ n) = false := by rw [decide_eq_false_iff_not]; omega
              have d6 : decide (v1 ≥ n) = false := by rw [decide_eq_false_iff_not]; omega
              have HTE : Hid (0 ≤ t1 ∧ t1 ≤ 1048576) := by have := Ls.good_kind HGE.out; exact ⟨this.2.1, this.2.2.1⟩
              have HNG : Hid (¬ (n ≤ u1 ∨ n ≤ v1)) := by show ¬ _; omega
              clear hu hv
              have hcase : (¬ (0 < j) ∧ decide ((j : Int) > 0) = false ∧ tl = 0) ∨ (∃ m : Nat, (0 < j ∧ bb < w7.heap.size) ∧ decide ((j : Int) > 0) = true ∧ IntKind.i64.wrap ((j : Int) - 1) = m ∧ m < N ∧ w7.cell? ⟨bb, off + m * 7 + 1, none⟩ = some (.int .i64 tl)) := by
                rcases Nat.eq_zero_or_pos j with h0 | h0
                · exact .inl ⟨by omega, by rw [decide_eq_false_iff_not]; omega, HTL.out.1 h0⟩
                · obtain ⟨b2, o2, e2, he, hb2, ha2, -, x2, -, -, -, -, -⟩ := K.RV_at (k := j - 1) (HL1.out.up HB7.out) (by rw [HN.out]; omega)
                  injection he with he
                  injection he with he1 he2
                  refine .inr ⟨j - 1, ⟨h0, by rw [he1]; exact hb2⟩, by rw [decide_eq_true_eq]; omega, ?_, by omega, ?_⟩
                  · have h5 : ((j - 1 : Nat) : Int) = (j : Int) - 1 := by omega
                    rw [h5]; exact IntWalk.i64_in _ (by omega)
                  · rw [he1, he2, ← HTL.out.2 e2 h0 ha2]; exact x2
              by_cases htt : t1 < tl
              · have hR : Hid ((9 : Int) = E) := by show _ = _; rw [← HC2.out]; unfold Ls.chkEv; rw [HR3.out, if_neg (by decide), if_neg HNG.out, if_pos htt]
                have hR' := hR.out
                subst hR'
                rcases hcase with ⟨-, -, h0⟩ | ⟨m, ⟨hjp, hbw⟩, hj1, hjw, hjm, hjc⟩
                · have := HTE.out; omega
                have d7 : decide (tl > t1) = true := by simpa using htt
                clear htt
                go_wp2
                go_quiet (fail)
                go_wp2
                go_ret2
                exact ret0.out _ (HS7.out.bel.trans ((below_drewN _ _).mono HS7.out.bel.size)) (by decide)
              have HTT : Hid (tl ≤ t1) := by show _ ≤ _; omega
              have HC3 : Hid (Ls.chkEv n t1 (l.drop (j + 1)) = E) := by
                have h1 := HC2.out
                unfold Ls.chkEv at h1
                rw [HR3.out, if_neg (by decide), if_neg HNG.out, if_neg htt] at h1
                exact h1
              have HO2 : Hid (out ++ Ls.slideA XW XM L (⟨k1, t1, u1, v1, x1, y1, z1⟩ :: l.drop (j + 1)) = T) := by show _ = _; rw [← HEV.out]; exact HO.out
              have d7 : decide (tl > t1) = false := by rw [decide_eq_false_iff_not]; omega
              have HW0 : Hid (chkW k W M = 0) := HE1.out
              clear htt HC2 HC HO
              rcases hcase with ⟨hjp, hj1, -⟩ | ⟨m, ⟨hjp, hbw⟩, hj1, hjw, hjm, hjc⟩
              all_goals
                go_wp2
                go_quiet (fail)
                go_wp2
                have HS8 := Lib.hid (HS7.out.go (below_drewN w7 nq))
                have HE8 := Lib.hid (HE7.out.go (below_drewN w7 nq))
                have HB8 := Lib.hid (HB7.out.trans ((below_drewN w7 nq).mono HB7.out.size))
                clear g0 g1 g2 g3 g4 g5 g6 hgl d5 d6 d7 HS7 HE7 HB7
                go_loopw [10] (fun s wr => ∃ (A2 A6 : Option Addr) (c2 c6 : Nat) (S2 L2 : List Ls.Lk) (out2 : List Ev), s = .slice A6 out2.length c6 ∧ Hid (SR w P n A2 c2 S2 L2 A6 c6 out2 wr) ∧ Hid (EB Gp ⟨k1, t1, u1, v1, x1, y1, z1⟩ (.slice A6 out2.length c6) wr) ∧ Hid (out2 ++ Ls.slideA XW XM L2 (⟨k1, t1, u1, v1, x1, y1, z1⟩ :: l.drop (j + 1)) = T) ∧ Hid (out2.length + S2.length ≤ 2 * j) ∧ Hid (∀ x ∈ S2, x.time ≤ tl ∧ tl < x.time + XW) ∧ Hid (Below W1.heap.size W1 wr)) (fun _ wr => lenP P wr)
                case atStart => exact ⟨A1, A5, c1, c5, S, L, out, rfl, HS8.out, HE8.out, HO2.out, HLL.out, HTM.out.2, HB8.out⟩
                case round =>
                  obtain ⟨A2, A6, c2, c6, S2, L2, out2, rfl, HS9, HE9, HO9, HL9, HT9, HB9⟩ := hrel
                  clear HS8 HE8 HB8 HO2 HLL
                  have p := Go.Joins.cell_of_block HS9.out.box; have q := Go.Joins.cell_of_block ((HB9.out.block g hg0).trans M0.out)
                  have p0 := p 0; have p1 := p 1; have q0 := q 0; have q1 := q 1; have q2 := q 2
                  simp only [List.getElem?_toArray, List.getElem?_cons_succ, List.getElem?_cons_zero] at p0 p1 q0 q1 q2
                  have hlP := lt_of_some HS9.out.box; have hlg := lt_of_some ((HB9.out.block g hg0).trans M0.out)
                  clear p q
                  have hck : orL [chkW k W M, Ls.chkS n S2] = 0 := by rw [HW0.out, (Ls.chkS_zero n S2).2 HS9.out.v]; rfl
                  have CU := Lib.hid (runtil_any n A2 c2 S2 k W M _ HS9.out.rl (by have := HL9.out; omega))
                  rw [hck] at CU
                  clear hck
                  go_wp2_with fail
                  refine CU.out.mono ?_
                  rintro e w9 ⟨b, ok, rfl, hu, -, hb9⟩
                  have HUN := Lib.hid (Ls.unt_until HW0.out HS9.out.r (hu rfl))
                  have HSA := Lib.hid (HS9.out.go hb9)
                  have HEA := Lib.hid (HE9.out.go hb9)
                  have HBA := Lib.hid (HB9.out.trans (hb9.mono HB9.out.size))
                  clear hu hb9 CU HE9 HB9 p0 p1 q0 q1 q2 hlP hlg
                  have hXM : 0 ≤ XM := by rw [← HXM.out]; exact (ext_bounds HW0.out).2.2.1
                  obtain ⟨g0, g1, g2, g3, g4, g5, g6⟩ := HEA.out.cs
                  dsimp only at g0 g1 g2 g3 g4 g5 g6
                  have hgl := lt_of_some HEA.out.blk
                  by_cases hgo : ok = true ∧ b ≤ t1
                  · obtain ⟨rfl, hs⟩ := hgo
                    have hu : Ls.untilA XW L2 = some b := by rw [← HXW.out]; exact HUN.out.1 rfl
                    have dgo : decide (b > t1) = false := by rw [decide_eq_false_iff_not]; omega
                    have HST := Lib.hid (Ls.slide_step XW XM b L2 ⟨k1, t1, u1, v1, x1, y1, z1⟩ (l.drop (j + 1)) hu hs)
                    have HTB : Hid ((0 ≤ b ∧ b ≤ 1048576) ∧ ∀ x ∈ S2, x.time ≤ b) := by
                      obtain ⟨x, hx, he, -⟩ := Ls.until_some XW b L2 hu
                      obtain ⟨y, hy, ey⟩ := Ls.rl_mem HSA.out.r hx
                      have h5 := HT9.out y hy
                      have h6 := HTM.out.1
                      have h7 := HTE.out
                      refine ⟨⟨by omega, by omega⟩, fun z hz => ?_⟩
                      have := (HT9.out z hz).1
                      omega
                    have HLT := Lib.hid (Ls.rest_lt XW XM b L2 hu)
                    have CE := rexpired_any n A2 c2 S2 k W M b w9 HSA.out.rl (by have := HL9.out; omega)
                    have hws : wrongS k W M n b S2 = 0 := by
                      unfold wrongS
                      rw [HW0.out, (Ls.chkS_zero n S2).2 HSA.out.v, Ls.chkT_zero _ _ HTB.out.1 HTB.out.2]; rfl
                    rw [hws, if_pos rfl, HXW.out, HXM.out] at CE
                    have HCE := Lib.hid CE
                    have p := Go.Joins.cell_of_block HSA.out.box; have q := Go.Joins.cell_of_block ((HBA.out.block g hg0).trans M0.out)
                    have p0 := p 0; have p1 := p 1; have q0 := q 0; have q1 := q 1; have q2 := q 2
                    simp only [List.getElem?_toArray, List.getElem?_cons_succ, List.getElem?_cons_zero] at p0 p1 q0 q1 q2
                    have hlP := lt_of_some HSA.out.box; have hlg := lt_of_some ((HBA.out.block g hg0).trans M0.out)
                    clear p q hu hs hws CE
                    go_wp2_with fail
                    refine HCE.out.mono ?_
                    rintro e wa ⟨A7, c7, rfl, ho7, hba⟩
                    obtain ⟨cu, HCU⟩ : ∃ cu, Hid (Ls.expS XW XM b S2 = cu) := ⟨_, rfl⟩
                    rw [HCU.out] at ho7 ⊢
                    have HV7 := Lib.hid (RX.of_own ho7)
                    have HSB := Lib.hid (HSA.out.go hba)
                    have HEB := Lib.hid (HEA.out.go hba)
                    have HBB := Lib.hid (HBA.out.trans (hba.mono HBA.out.size))
                    have HKL : Hid (cu.length + (Ls.keepS XW XM b S2).length = S2.length) := by show _ = _; rw [← HCU.out]; exact Ls.exp_keep_len XW XM b S2
                    have HGC : Hid (∀ e ∈ cu, Ls.Good n e) := by rw [← HCU.out]; exact fun e he => (Ls.exp_good XW XM b HTB.out.1 n S2 HSA.out.v e he).1
                    have HAL : Hid (K.Ls.allR n S2 cu = (Ls.keepS XW XM b S2, ((Ls.numL S2 cu : Nat) : Int), 0)) := by
                      show _ = _
                      unfold K.Ls.allR
                      rw [if_neg (by rw [(Ls.chkS_zero n S2).2 HSA.out.v]; decide), Ls.allS_ok n cu HGC.out 0 S2, ← HCU.out, (Ls.all_exp XW XM b n S2 HSA.out.v).1]
                    have CA := Lib.hid (K.rallT_any n A2 A7 c2 c7 S2 cu wa HSB.out.rl HV7.out (by have := HKL.out; have := HL9.out; omega))
                    have p := Go.Joins.cell_of_block HSB.out.box
                    clear p0 p1 q0 q1 q2 hlP hlg
                    have p0 := p 0; have p1 := p 1
                    simp only [List.getElem?_toArray, List.getElem?_cons_succ, List.getElem?_cons_zero] at p0 p1
                    have hlP := lt_of_some HSB.out.box
                    clear p ho7 hba HCE HSA HEA HBA g0 g1 g2 g3 g4 g5 g6 hgl dgo
                    obtain ⟨nc, HNC⟩ : ∃ nc, Hid (cu.length = nc) := ⟨_, rfl⟩
                    rw [HNC.out] at CA ⊢
                    go_wp2_with fail
                    refine CA.out.mono ?_
                    rintro e wb ⟨n9, S3, A8, c8, rfl, hS3, hn9, hr8, hbb, htk⟩
                    rw [HAL.out] at hS3 hn9 ⊢
                    dsimp only at hS3 hn9 ⊢
                    rw [if_pos rfl] at hn9
                    subst hn9
                    have HS3 := Lib.hid hS3
                    have HSC := Lib.hid (HSB.out.go hbb)
                    have HEC := Lib.hid (HEB.out.go hbb)
                    have HBC := Lib.hid (HBB.out.trans (hbb.mono HBB.out.size))
                    have HVC := Lib.hid (HV7.out.up hbb)
                    have HR8 := Lib.hid hr8
                    have HTK := Lib.hid (htk HSB.out.tk)
                    have HRL : Hid (Ls.Rl S3 (Ls.restX XW XM b L2)) := by show Ls.Rl _ _; rw [HS3.out]; exact Ls.rest_rl XW XM b hXM S2 L2 HSB.out.r
                    have HVV : Hid (Ls.V n9 S3) := by show Ls.V _ _; rw [HS3.out]; exact Ls.filter_valid HSB.out.v _
                    have HSD := Lib.hid (HSC.out.put HR8.out HTK.out HRL.out HVV.out)
                    have hgr : wb.grownBy ((wb.setCell ⟨P, 0, none⟩ (.int .i64 n9)).setCell ⟨P, 1, none⟩ (.slice A8 S3.length c8)) (some P) := grown_trans (only_set1 _ _ _ rfl) (only_set1 _ _ _ rfl)
                    have HED := Lib.hid (HEC.out.gr hgr HSC.out.box (by decide))
                    have HVD := Lib.hid (HVC.out.keepG encE (n := 7) (by decide) HSC.out.box hgr).2
                    have HBD := Lib.hid ((HBC.out.setCell (p := ⟨P, 0, none⟩) HPW.out (.int .i64 n9)).setCell (p := ⟨P, 1, none⟩) HPW.out (.slice A8 S3.length c8))
                    have p := Go.Joins.cell_of_block HSC.out.box
                    clear p0 p1 hlP
                    have p0 := p 0; have p1 := p 1
                    simp only [List.getElem?_toArray, List.getElem?_cons_succ, List.getElem?_cons_zero] at p0 p1
                    have f0 := Go.Joins.unfrozen_of_block HSC.out.box 0; have f1 := Go.Joins.unfrozen_of_block HSC.out.box 1
                    have hlP := lt_of_some HSC.out.box
                    clear p hgr hS3 hr8 hbb htk CA HSB HEB HBB HV7 HR8 HTK HVC
                    obtain ⟨cn1, HC1⟩ : ∃ x : Int, Hid (((Ls.numL S2 cu : Nat) : Int) = x) := ⟨_, rfl⟩
                    simp only [HC1.out]
                    obtain ⟨wc, HWC⟩ : ∃ wc, Hid (wc = (wb.setCell ⟨P, 0, none⟩ (.int .i64 n9)).setCell ⟨P, 1, none⟩ (.slice A8 S3.length c8)) := ⟨_, rfl⟩
                    rw [← HWC.out] at HSD HED HVD HBD
                    go_wp2_with (at_builtin; rw [← HWC.out]; (refine wpList_applF _ rfl (.tmp 101) (.tmp 102) w.heap.size A6 c6 rfl out2 (by simp [Act.eval]) HSD.out.own A7 c7 nc cu HNC.out (by simp [Act.eval]) HVD.out (by have := HL9.out; have := HKL.out; have := HNC.out; omega) HSD.out.bel.size ?_; intro Aa ca wd HOd HGd HFd))
                    have HSE := Lib.hid (HSD.out.app HGd.out HOd.out)
                    have HEE := Lib.hid (HED.out.app HGd.out HFd.out)
                    have HBE := Lib.hid (HBD.out.grown HGd.out HBD.out.size (fun k hk => HWL.out _ _ _ _ k HBD.out HSD.out.own hk))
                    have HOE : Hid ((out2 ++ cu) ++ Ls.slideA XW XM (Ls.restX XW XM b L2) (⟨k1, t1, u1, v1, x1, y1, z1⟩ :: l.drop (j + 1)) = T) := by
                      show _ = _
                      rw [← HO9.out, HST.out, Ls.cuts_eq_exp XW XM b hXM S2 L2 HSC.out.v.2.2.1 HSC.out.r, HCU.out, List.append_assoc]
                    have HLE : Hid ((out2 ++ cu).length + S3.length ≤ 2 * j) := by show _ ≤ _; rw [List.length_append, HS3.out]; have := HKL.out; have := HL9.out; omega
                    have HTE2 : Hid (∀ x ∈ S3, x.time ≤ tl ∧ tl < x.time + XW) := by
                      intro x hx
                      rw [HS3.out] at hx
                      exact HT9.out x (List.mem_filter.1 hx).1
                    have HME : Hid (lenP P wd < lenP P wr) := by
                      show _ < _
                      rw [HSE.out.lenP, HS9.out.lenP, ← Ls.rl_len HRL.out, ← Ls.rl_len HS9.out.r]
                      exact HLT.out
                    clear HOd HGd HFd
                    go_wp2
                    go_roundw
                    case rel => exact ⟨A8, Aa, c8, ca, S3, Ls.restX XW XM b L2, out2 ++ cu, by first | rfl | rw [List.length_append, HNC.out] | rw [List.length_append], HSE.out, HEE.out, HOE.out, HLE.out, HTE2.out, HBE.out⟩
                    case measure => exact HME.out
                  · have HSTOP : Hid (∀ s, Ls.untilA XW L2 = some s → t1 < s) := fun s hs => by
                      cases ok with
                      | true =>
                        have h5 := HUN.out.1 rfl
                        rw [HXW.out, hs] at h5
                        injection h5 with h5
                        have : ¬ b ≤ t1 := fun h6 => hgo ⟨rfl, h6⟩
                        omega
                      | false =>
                        have h5 := HUN.out.2 rfl
                        rw [HXW.out, hs] at h5
                        cases h5
                    have HO3 : Hid (out2 ++ (⟨k1, t1, u1, v1, x1, y1, z1⟩ :: Ls.cutsX XW XM t1 (Ls.stepA L2 ⟨k1, t1, u1, v1, x1, y1, z1⟩) ++ Ls.slideA XW XM (Ls.restX XW XM t1 (Ls.stepA L2 ⟨k1, t1, u1, v1, x1, y1, z1⟩)) (l.drop (j + 1))) = T) := by
                      show _ = _
                      rw [← HO9.out, Ls.slide_stop XW XM L2 ⟨k1, t1, u1, v1, x1, y1, z1⟩ (l.drop (j + 1)) HSTOP.out]
                    have hgo2 : ok = false ∨ (ok = true ∧ decide (b > t1) = true) := by
                      cases ok with
                      | false => exact .inl rfl
                      | true => exact .inr ⟨rfl, by rw [decide_eq_true_eq]; by_cases h6 : b ≤ t1; exact absurd ⟨rfl, h6⟩ hgo; omega⟩
                    have p := Go.Joins.cell_of_block HSA.out.box
                    have p0 := p 0; have p1 := p 1
                    simp only [List.getElem?_toArray, List.getElem?_cons_succ, List.getElem?_cons_zero] at p0 p1
                    have hlP := lt_of_some HSA.out.box
                    have CP := Lib.hid (K.rapplyT_any n A2 c2 S2 k1 t1 u1 v1 x1 y1 z1 w9 HSA.out.rl (by have := HL9.out; omega))
                    clear p hgo HUN HO9
                    rcases hgo2 with rfl | ⟨rfl, hdd⟩
                    all_goals
                      go_wp2_with fail
                      refine CP.out.mono ?_
                      rintro e wa ⟨n9, S3, ev9, A8, A9, c8, c9, rfl, hif, hrl, hrv, hba, htk⟩
                      have h0 : K.Ls.apE n S2 ⟨k1, t1, u1, v1, x1, y1, z1⟩ = 0 := (K.Ls.apE_zero _ _ _).2 ⟨HSA.out.v, HGE.out⟩
                      rw [if_pos h0] at hif
                      obtain ⟨h5, h6, h7⟩ := hif
                      subst h5
                      subst h7
                      rw [h0]
                      have HS3 := Lib.hid h6
                      have HSB := Lib.hid (HSA.out.go hba)
                      have HEB := Lib.hid (HEA.out.go hba)
                      have HBB := Lib.hid (HBA.out.trans (hba.mono HBA.out.size))
                      have HSC := Lib.hid (HSB.out.put hrl htk (by rw [h6]; exact Ls.step_rl HSB.out.r HSB.out.v.2.2.1 ⟨k1, t1, u1, v1, x1, y1, z1⟩ (Ls.good_kind HGE.out).1) (by rw [h6]; exact Ls.next_valid HSB.out.v HGE.out))
                      have hgr : wa.grownBy ((wa.setCell ⟨P, 0, none⟩ (.int .i64 n9)).setCell ⟨P, 1, none⟩ (.slice A8 S3.length c8)) (some P) := grown_trans (only_set1 _ _ _ rfl) (only_set1 _ _ _ rfl)
                      have HEC := Lib.hid (HEB.out.gr hgr HSB.out.box (by decide))
                      have HBC := Lib.hid ((HBB.out.setCell (p := ⟨P, 0, none⟩) HPW.out (.int .i64 n9)).setCell (p := ⟨P, 1, none⟩) HPW.out (.slice A8 S3.length c8))
                      have p := Go.Joins.cell_of_block HSB.out.box
                      have e := HEB.out.cs
                      clear p0 p1 hlP g0 g1 g2 g3 g4 g5 g6 hgl
                      have p0 := p 0; have p1 := p 1
                      obtain ⟨g0, g1, g2, g3, g4, g5, g6⟩ := HEC.out.cs
                      dsimp only at g0 g1 g2 g3 g4 g5 g6
                      have hgl := lt_of_some HEC.out.blk
                      simp only [List.getElem?_toArray, List.getElem?_cons_succ, List.getElem?_cons_zero] at p0 p1
                      have f0 := Go.Joins.unfrozen_of_block HSB.out.box 0; have f1 := Go.Joins.unfrozen_of_block HSB.out.box 1
                      have hlP := lt_of_some HSB.out.box
                      obtain ⟨nE, HNE⟩ : ∃ m, Hid ((Ls.chg S2 ⟨k1, t1, u1, v1, x1, y1, z1⟩).length = m) := ⟨_, rfl⟩
                      rw [HNE.out]
                      obtain ⟨wc, HWC⟩ : ∃ wc, Hid (wc = (wa.setCell ⟨P, 0, none⟩ (.int .i64 n9)).setCell ⟨P, 1, none⟩ (.slice A8 S3.length c8)) := ⟨_, rfl⟩
                      rw [← HWC.out] at HSC HEC HBC
                      have HSCa := Lib.hid (HSC.out.go (below_new wc (.cells #[.int .i64 k1, .int .i64 t1, .int .i64 u1, .int .i64 v1, .int .i64 x1, .int .i64 y1, .int .i64 z1] 57)))
                      have HECa := Lib.hid (HEC.out.go (below_new wc (.cells #[.int .i64 k1, .int .i64 t1, .int .i64 u1, .int .i64 v1, .int .i64 x1, .int .i64 y1, .int .i64 z1] 57)))
                      have HBCa := Lib.hid (HBC.out.alloc HBC.out.size (.cells #[.int .i64 k1, .int .i64 t1, .int .i64 u1, .int .i64 v1, .int .i64 x1, .int .i64 y1, .int .i64 z1] 57))
                      have HVN := Lib.hid (RV_new1 wc ⟨k1, t1, u1, v1, x1, y1, z1⟩)
                      clear p e hgr h0 h6 hrl hrv hba htk CP HSA HEA HBA HEB
                      by_cases hk3 : k = 3
                      · subst hk3
                        go_wp2_with (
                          at_builtin
                          rw [← HWC.out]
                          refine wpList_applF _ rfl (.tmp 111) (.tmp 113) w.heap.size A6 c6 rfl out2 (by simp [Act.eval]) HSCa.out.own (some ⟨wc.heap.size, 0, none⟩) 1 1 [(⟨k1, t1, u1, v1, x1, y1, z1⟩ : Ev)] rfl (by simp [Act.eval, HWC.out]) HVN.out (by have := HL9.out; omega) HSCa.out.bel.size ?_
                          intro Aa ca wd HOd HGd HFd
                          have HSD := Lib.hid (HSCa.out.app HGd.out HOd.out)
                          have HED := Lib.hid (HECa.out.app HGd.out HFd.out)
                          have HBD := Lib.hid (HBCa.out.grown HGd.out HBCa.out.size (fun k hk => HWL.out _ _ _ _ k HBCa.out HSCa.out.own hk))
                          have q := Go.Joins.cell_of_block ((HBD.out.block g hg0).trans M0.out)
                          have q0 := q 0; have q1 := q 1; have q2 := q 2
                          simp only [List.getElem?_toArray, List.getElem?_cons_succ, List.getElem?_cons_zero] at q0 q1 q2
                          have hlg := lt_of_some ((HBD.out.block g hg0).trans M0.out)
                          clear q g0 g1 g2 g3 g4 g5 g6 hgl p0 p1 hlP f0 f1
                          have p := Go.Joins.cell_of_block HSD.out.box
                          have p0 := p 0; have p1 := p 1
                          obtain ⟨g0, g1, g2, g3, g4, g5, g6⟩ := HED.out.cs
                          dsimp only at g0 g1 g2 g3 g4 g5 g6
                          have hgl := lt_of_some HED.out.blk
                          simp only [List.getElem?_toArray, List.getElem?_cons_succ, List.getElem?_cons_zero] at p0 p1
                          have hlP := lt_of_some HSD.out.box
                          clear p)
                        have hm3 := Ls.count_round HS9.out.v ⟨k1, t1, u1, v1, x1, y1, z1⟩ HGE.out (fun x hx => (HT9.out x hx).1) HTT.out
                        have hXM : 0 ≤ XM := by rw [← HXM.out]; exact (ext_bounds HW0.out).2.2.1
                        have HXV : Hid (XW = 1048577) := by show _ = _; rw [← HXW.out]; exact if_neg (by decide)
                        obtain ⟨LL, HLL2⟩ : ∃ X, Hid (Ls.stepA L2 ⟨k1, t1, u1, v1, x1, y1, z1⟩ = X) := ⟨_, rfl⟩
                        obtain ⟨o3, HO33⟩ : ∃ X, Hid (out2 ++ [(⟨k1, t1, u1, v1, x1, y1, z1⟩ : Ev)] = X) := ⟨_, rfl⟩
                        have YT : Hid (∀ x ∈ S3, x.time ≤ t1 ∧ t1 < x.time + XW) := by show ∀ _, _; rw [HS3.out, HXV.out]; exact hm3
                        have YL : Hid (o3.length + S3.length ≤ 2 * (j + 1)) := by
                          show _ ≤ _
                          have h1 := Ls.len_next S2 ⟨k1, t1, u1, v1, x1, y1, z1⟩ HS9.out.v.2.2.1
                          have h2 := congrArg List.length HO33.out
                          rw [List.length_append] at h2
                          simp only [List.length_cons, List.length_nil] at h2
                          rw [HS3.out]
                          have := HL9.out
                          omega
                        have hol : out2.length + 1 = o3.length := by rw [← HO33.out]; simp
                        have YSA := HSD
                        have YEA := HED
                        have YBA := HBD
                        rw [HLL2.out, HO33.out] at YSA
                        rw [HO33.out] at YEA
                        rw [hol]
                        have YTB : Hid ((0 ≤ t1 ∧ t1 ≤ 1048576) ∧ ∀ x ∈ S3, x.time ≤ t1) := ⟨HTE.out, fun x hx => (YT.out x hx).1⟩
                        have CE := rexpired_any n9 A8 c8 S3 3 W M t1 wd YSA.out.rl (by have := YL.out; omega)
                        have hws : wrongS 3 W M n9 t1 S3 = 0 := by
                          unfold wrongS
                          rw [HW0.out, (Ls.chkS_zero n9 S3).2 YSA.out.v, Ls.chkT_zero _ _ YTB.out.1 YTB.out.2]; rfl
                        rw [hws, if_pos rfl, HXW.out, HXM.out] at CE
                        have HCE := Lib.hid CE
                        clear hm3 CE hws hol HSD HED HBD HSC HEC HBC HSCa HECa HBCa
                        refine HCE.out.mono ?_
                        rintro e xa ⟨A7, c7, rfl, ho7, hba⟩
                        obtain ⟨cu, YCU⟩ : ∃ cu, Hid (Ls.expS XW XM t1 S3 = cu) := ⟨_, rfl⟩
                        rw [YCU.out] at ho7 ⊢
                        have YV7 := Lib.hid (RX.of_own ho7)
                        have YSB := Lib.hid (YSA.out.go hba)
                        have YEB := Lib.hid (YEA.out.go hba)
                        have YBB := Lib.hid (YBA.out.trans (hba.mono YBA.out.size))
                        have YKL : Hid (cu.length + (Ls.keepS XW XM t1 S3).length = S3.length) := by show _ = _; rw [← YCU.out]; exact Ls.exp_keep_len XW XM t1 S3
                        have YGC : Hid (∀ e ∈ cu, Ls.Good n9 e) := by rw [← YCU.out]; exact fun e he => (Ls.exp_good XW XM t1 YTB.out.1 n9 S3 YSA.out.v e he).1
                        have YAL : Hid (K.Ls.allR n9 S3 cu = (Ls.keepS XW XM t1 S3, ((Ls.numL S3 cu : Nat) : Int), 0)) := by
                          show _ = _
                          unfold K.Ls.allR
                          rw [if_neg (by rw [(Ls.chkS_zero n9 S3).2 YSA.out.v]; decide), Ls.allS_ok n9 cu YGC.out 0 S3, ← YCU.out, (Ls.all_exp XW XM t1 n9 S3 YSA.out.v).1]
                        have CA := Lib.hid (K.rallT_any n9 A8 A7 c8 c7 S3 cu xa YSB.out.rl YV7.out (by have := YKL.out; have := YL.out; omega))
                        have p := Go.Joins.cell_of_block YSB.out.box
                        clear p0 p1 q0 q1 q2 hlP hlg
                        have p0 := p 0; have p1 := p 1
                        simp only [List.getElem?_toArray, List.getElem?_cons_succ, List.getElem?_cons_zero] at p0 p1
                        have hlP := lt_of_some YSB.out.box
                        clear p ho7 hba HCE YSA YEA YBA g0 g1 g2 g3 g4 g5 g6 hgl
                        obtain ⟨nc, YNC⟩ : ∃ nc, Hid (cu.length = nc) := ⟨_, rfl⟩
                        rw [YNC.out] at CA ⊢
                        go_wp2_with fail
                        refine CA.out.mono ?_
                        rintro e xb ⟨nz, S4, Az, cz, rfl, hS3, hn9, hr8, hbb, htk⟩
                        rw [YAL.out] at hS3 hn9 ⊢
                        dsimp only at hS3 hn9 ⊢
                        rw [if_pos rfl] at hn9
                        subst hn9
                        have YS3 := Lib.hid hS3
                        have YSC := Lib.hid (YSB.out.go hbb)
                        have YEC := Lib.hid (YEB.out.go hbb)
                        have YBC := Lib.hid (YBB.out.trans (hbb.mono YBB.out.size))
                        have YVC := Lib.hid (YV7.out.up hbb)
                        have YR8 := Lib.hid hr8
                        have YTK := Lib.hid (htk YSB.out.tk)
                        have YRL : Hid (Ls.Rl S4 (Ls.restX XW XM t1 LL)) := by show Ls.Rl _ _; rw [YS3.out]; exact Ls.rest_rl XW XM t1 hXM S3 LL YSB.out.r
                        have YVV : Hid (Ls.V nz S4) := by show Ls.V _ _; rw [YS3.out]; exact Ls.filter_valid YSB.out.v _
                        have YSD := Lib.hid (YSC.out.put YR8.out YTK.out YRL.out YVV.out)
                        have hgr : xb.grownBy ((xb.setCell ⟨P, 0, none⟩ (.int .i64 nz)).setCell ⟨P, 1, none⟩ (.slice Az S4.length cz)) (some P) := grown_trans (only_set1 _ _ _ rfl) (only_set1 _ _ _ rfl)
                        have YED := Lib.hid (YEC.out.gr hgr YSC.out.box (by decide))
                        have YVD := Lib.hid (YVC.out.keepG encE (n := 7) (by decide) YSC.out.box hgr).2
                        have YBD := Lib.hid ((YBC.out.setCell (p := ⟨P, 0, none⟩) HPW.out (.int .i64 nz)).setCell (p := ⟨P, 1, none⟩) HPW.out (.slice Az S4.length cz))
                        have p := Go.Joins.cell_of_block YSC.out.box
                        clear p0 p1 hlP
                        have p0 := p 0; have p1 := p 1
                        simp only [List.getElem?_toArray, List.getElem?_cons_succ, List.getElem?_cons_zero] at p0 p1
                        have f0 := Go.Joins.unfrozen_of_block YSC.out.box 0; have f1 := Go.Joins.unfrozen_of_block YSC.out.box 1
                        have hlP := lt_of_some YSC.out.box
                        clear p hgr hS3 hr8 hbb htk CA YSB YEB YBB YV7 YR8 YTK YVC
                        obtain ⟨cn1, YC1⟩ : ∃ x : Int, Hid (((Ls.numL S3 cu : Nat) : Int) = x) := ⟨_, rfl⟩
                        simp only [YC1.out]
                        obtain ⟨xc, YWC⟩ : ∃ xc, Hid (xc = (xb.setCell ⟨P, 0, none⟩ (.int .i64 nz)).setCell ⟨P, 1, none⟩ (.slice Az S4.length cz)) := ⟨_, rfl⟩
                        rw [← YWC.out] at YSD YED YVD YBD
                        go_wp2_with (at_builtin; rw [← YWC.out]; (refine wpList_applF _ rfl (.tmp 133) (.tmp 134) w.heap.size Aa ca rfl o3 (by simp [Act.eval]) YSD.out.own A7 c7 nc cu YNC.out (by simp [Act.eval]) YVD.out (by have := YL.out; have := YKL.out; have := YNC.out; omega) YSD.out.bel.size ?_; intro Ab cb xd YOd YGd YFd))
                        have YSE := Lib.hid (YSD.out.app YGd.out YOd.out)
                        have YBE := Lib.hid (YBD.out.grown YGd.out YBD.out.size (fun k hk => HWL.out _ _ _ _ k YBD.out YSD.out.own hk))
                        have YOE : Hid ((o3 ++ cu) ++ Ls.slideA XW XM (Ls.restX XW XM t1 LL) (l.drop (j + 1)) = T) := by
                          show _ = _
                          have h1 := Ls.cuts_eq_exp XW XM t1 hXM S3 LL YSC.out.v.2.2.1 YSC.out.r
                          have h2 := HO3.out
                          try dsimp only at h2
                          rw [HLL2.out, h1, YCU.out] at h2
                          rw [← h2, ← HO33.out]
                          simp
                        have YLE : Hid ((o3 ++ cu).length + S4.length ≤ 2 * (j + 1)) := by show _ ≤ _; rw [List.length_append, YS3.out]; have := YKL.out; have := YL.out; omega
                        have YTE2 : Hid (∀ x ∈ S4, x.time ≤ t1 ∧ t1 < x.time + XW) := by
                          intro x hx
                          rw [YS3.out] at hx
                          exact YT.out x (List.mem_filter.1 hx).1
                        clear YOd YGd YFd
                        go_wp2
                        go_roundw
                        case rel => exact ⟨Az, Ab, cz, cb, j + 1, S4, Ls.restX XW XM t1 LL, o3 ++ cu, t1, by first | rfl | rw [List.length_append, YNC.out] | rw [List.length_append], by first | rfl | simp, by omega, YSE.out, YOE.out, YLE.out, HC3.out, ⟨fun h => absurd h (by omega), fun e _ he => by rw [show j + 1 - 1 = j from rfl, HAT.out] at he; injection he with he; rw [← he]⟩, ⟨HTE.out, YTE2.out⟩, YBE.out⟩
                        case measure => simp only [RowKit.intOf]; omega
                      · have dk3 : (k == 3) = false := by simpa using hk3
                        have HK3 := Lib.hid hk3
                        clear hk3
                        go_wp2_with (
                          at_builtin
                          rw [← HWC.out]
                          refine wpList_applF _ rfl (.tmp 111) (.tmp 113) w.heap.size A6 c6 rfl out2 (by simp [Act.eval]) HSCa.out.own (some ⟨wc.heap.size, 0, none⟩) 1 1 [(⟨k1, t1, u1, v1, x1, y1, z1⟩ : Ev)] rfl (by simp [Act.eval, HWC.out]) HVN.out (by have := HL9.out; omega) HSCa.out.bel.size ?_
                          intro Aa ca wd HOd HGd HFd
                          have HSD := Lib.hid (HSCa.out.app HGd.out HOd.out)
                          have HED := Lib.hid (HECa.out.app HGd.out HFd.out)
                          have HBD := Lib.hid (HBCa.out.grown HGd.out HBCa.out.size (fun k hk => HWL.out _ _ _ _ k HBCa.out HSCa.out.own hk))
                          have q := Go.Joins.cell_of_block ((HBD.out.block g hg0).trans M0.out)
                          have q0 := q 0; have q1 := q 1; have q2 := q 2
                          simp only [List.getElem?_toArray, List.getElem?_cons_succ, List.getElem?_cons_zero] at q0 q1 q2
                          have hlg := lt_of_some ((HBD.out.block g hg0).trans M0.out)
                          clear q g0 g1 g2 g3 g4 g5 g6 hgl p0 p1 hlP f0 f1)
                        have hm := Ls.stop_round HW0.out HK3.out HS9.out.r HS9.out.v ⟨k1, t1, u1, v1, x1, y1, z1⟩ HGE.out (fun x hx => by have h := HT9.out x hx; rw [HXW.out]; exact h) HTT.out (fun s hs => HSTOP.out s (by rw [← HXW.out]; exact hs)) (by have := HL9.out; omega)
                        rw [HXW.out, HXM.out] at hm
                        obtain ⟨hm1, hm2, hm3⟩ := hm
                        dsimp only at hm1 hm2
                        have HOE : Hid ((out2 ++ [(⟨k1, t1, u1, v1, x1, y1, z1⟩ : Ev)]) ++ Ls.slideA XW XM (Ls.stepA L2 ⟨k1, t1, u1, v1, x1, y1, z1⟩) (l.drop (j + 1)) = T) := by
                          show _ = _
                          rw [← HO3.out, hm1, hm2]
                          simp
                        have HLE : Hid ((out2 ++ [(⟨k1, t1, u1, v1, x1, y1, z1⟩ : Ev)]).length + S3.length ≤ 2 * (j + 1)) := by
                          show _ ≤ _
                          have h1 := Ls.len_next S2 ⟨k1, t1, u1, v1, x1, y1, z1⟩ HS9.out.v.2.2.1
                          rw [List.length_append, HS3.out]
                          have := HL9.out
                          simp only [List.length_cons, List.length_nil]
                          omega
                        have HTE2 : Hid (∀ x ∈ S3, x.time ≤ t1 ∧ t1 < x.time + XW) := by show ∀ _, _; rw [HS3.out]; exact hm3
                        clear hm1 hm2 hm3
                        go_roundw
                        case rel => exact ⟨A8, Aa, c8, ca, j + 1, S3, Ls.stepA L2 ⟨k1, t1, u1, v1, x1, y1, z1⟩, out2 ++ [(⟨k1, t1, u1, v1, x1, y1, z1⟩ : Ev)], t1, by simp, by first | rfl | simp, by omega, HSD.out, HOE.out, HLE.out, HC3.out, ⟨fun h => absurd h (by omega), fun e _ he => by rw [show j + 1 - 1 = j from rfl, HAT.out] at he; injection he with he; rw [← he]⟩, ⟨HTE.out, HTE2.out⟩, HBD.out⟩
                        case measure => simp only [RowKit.intOf]; omega
            · have hR : Hid (R3 = E) := by show _ = _; rw [← HC2.out]; unfold Ls.chkEv; rw [HR3.out, if_pos h3]
              have hR' := hR.out
              subst hR'
              have d5 : (R3 != 0) = true := by simpa using h3
              have d6 : (R3 == 0) = false := by simpa using h3
              have H33 := Lib.hid h3
              clear h3
              go_wp2
              go_ret2
              exact ret0.out _ HS7.out.bel H33.out
          · obtain rfl : j = N := by omega
            have hdr : l.drop j = [] := List.drop_eq_nil_of_le (by rw [HN.out]; exact Nat.le_refl _)
            have hE0 : E = 0 := by have := HC.out; rw [hdr] at this; exact this.symm
            have hout : out = R := by
              have h1 := HO.out
              rw [hdr] at h1
              rw [← HR.out, if_pos hE0, HXW.out, HXM.out, HT.out, ← h1]
              simp [Ls.slideA]
            subst hE0
            subst hout
            have HF := Lib.hid HS.out.own
            go_wp2
            go_ret2
            exact ⟨A5, c5, rfl, HF.out, HS.out.bel⟩
  · have hR : Hid (E1 = E) := by show _ = _; rw [← HE.out, orL_a h1]
    have hR' := hR.out
    subst hR'
    have d2 : (E1 != 0) = true := by simpa using h1
    have d3 : (E1 == 0) = false := by simpa using h1
    have H11 := Lib.hid h1
    clear h1
    go_wp2
    go_ret2
    exact ret0.out _ HB2.out H11.out
end Go.Proofs.YtfapfkaipdcflaaGreat
