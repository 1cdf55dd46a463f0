/-
  The reference's Present.
-/
import Derived.Test.YtfapfkaipdcflaaGreatUd
namespace Go.Proofs.YtfapfkaipdcflaaGreat
open Go.RowKit Go.Lib
open Go.Proofs.YtfapfkaipdcflaaGreat.K (new_two)

namespace Ls
def keepX (P : Lk → Bool) (l : List Lk) (j : Nat) : List Lk := (l.take j).filter P
theorem keepX_len (P : Lk → Bool) (l : List Lk) (j : Nat) : (keepX P l j).length ≤ j := Nat.le_trans (List.length_filter_le _ _) (List.length_take_le _ _)
theorem keepX_out (P : Lk → Bool) (l : List Lk) (j : Nat) (x : Lk) (h : l[j]? = some x) (hp : P x = false) : keepX P l (j + 1) = keepX P l j := by
  unfold keepX
  rw [List.take_add_one, h, List.filter_append]
  simp [hp]
theorem keepX_in (P : Lk → Bool) (l : List Lk) (j : Nat) (x : Lk) (h : l[j]? = some x) (hp : P x = true) : keepX P l (j + 1) = keepX P l j ++ [x] := by
  unfold keepX
  rw [List.take_add_one, h, List.filter_append]
  simp [hp]
theorem keepX_all (P : Lk → Bool) (l : List Lk) (j : Nat) (h : l.length ≤ j) : keepX P l j = l.filter P := by
  unfold keepX
  rw [List.take_of_length_le h]
end Ls
theorem RL_newL (w : World) (e : Ls.Lk) : RL (w.alloc (.cells #[.int .i64 e.u, .int .i64 e.v, .int .i64 e.weight, .int .i64 e.label, .int .i64 e.sign, .int .i64 e.time] 62)).heap.size (w.alloc (.cells #[.int .i64 e.u, .int .i64 e.v, .int .i64 e.weight, .int .i64 e.label, .int .i64 e.sign, .int .i64 e.time] 62)) (some ⟨w.heap.size, 0, none⟩) 1 [e] := RX_new encL w [e] 62
set_option maxHeartbeats 4000000 in
set_option maxRecDepth 100000 in
theorem rpresent_any (n : Int) (A : Option Addr) (c : Nat) (l : List Ls.Lk) (k W M t : Int) (w : World) (h : RL w.heap.size w A c l) (hl : l.length ≤ 2016) :
    Calls Tryz.prog 14 #[.agg #[.int .i64 n, .slice A l.length c], .agg #[.int .i64 k, .int .i64 W, .int .i64 M], .int .i64 t] w
      (PrsP (wrongS k W M n t l) (if wrongS k W M n t l = 0 then n else 0) (if wrongS k W M n t l = 0 then Ls.keepS (extW k W) (extM k M) t l else []) w) := by
  obtain ⟨m0, m1, ms, mb⟩ := new_two w (.cells #[.int .i64 n, .slice A l.length c] 24) (.cells #[.int .i64 k, .int .i64 W, .int .i64 M] 26)
  have hbz := below_new ((w.alloc (.cells #[.int .i64 n, .slice A l.length c] 24)).alloc (.cells #[.int .i64 k, .int .i64 W, .int .i64 M] 26)) (.cells #[.int .i64 0, .slice none 0 0] 24)
  have m2 := heap_alloc_new ((w.alloc (.cells #[.int .i64 n, .slice A l.length c] 24)).alloc (.cells #[.int .i64 k, .int .i64 W, .int .i64 M] 26)) (.cells #[.int .i64 0, .slice none 0 0] 24)
  have m0 := (hbz.block _ (lt_of_some m0)).trans m0
  have m1 := (hbz.block _ (lt_of_some m1)).trans m1
  have mb := mb.trans (hbz.mono mb.size)
  rw [ms] at m2
  obtain ⟨W2, HW2⟩ : ∃ W2, Hid (W2 = ((w.alloc (.cells #[.int .i64 n, .slice A l.length c] 24)).alloc (.cells #[.int .i64 k, .int .i64 W, .int .i64 M] 26)).alloc (.cells #[.int .i64 0, .slice none 0 0] 24)) := ⟨_, rfl⟩
  rw [← HW2.out] at m0 m1 m2 mb
  clear ms hbz
  obtain ⟨g, HG⟩ : ∃ g, Hid (w.heap.size = g) := ⟨_, rfl⟩
  have hgs : g ≤ w.heap.size ∧ w.heap.size ≤ g := by rw [HG.out]; exact ⟨Nat.le_refl _, Nat.le_refl _⟩
  rw [HG.out] at m0 m1 m2
  have M0 := Lib.hid m0; have M1 := Lib.hid m1; have M2 := Lib.hid m2; have MB := Lib.hid mb
  have H := Lib.hid (h.up mb)
  have C1 := Lib.hid (rwrong_any n A c l k W M t W2 H.out (by omega))
  obtain ⟨R, HR⟩ : ∃ R, Hid ((if wrongS k W M n t l = 0 then Ls.keepS (extW k W) (extM k M) t l else []) = R) := ⟨_, rfl⟩
  obtain ⟨nR, HNR⟩ : ∃ X : Int, Hid ((if wrongS k W M n t l = 0 then n else 0) = X) := ⟨_, rfl⟩
  rw [HR.out, HNR.out]
  have HWS : Hid (wrongS k W M n t l = 0 → chkW k W M = 0 ∧ Ls.chkS n l = 0 ∧ Ls.chkT t l = 0) := orL3
  obtain ⟨E, HE⟩ : ∃ E, Hid (wrongS k W M n t l = E) := ⟨_, rfl⟩
  rw [HE.out] at C1 HR HWS HNR ⊢
  obtain ⟨N, HN⟩ : ∃ N, Hid (l.length = N) := ⟨_, rfl⟩
  have hN : N ≤ 2016 := by rw [← HN.out]; exact hl
  simp only [HN.out] at M0 HW2 C1 ⊢
  clear h hl m0 mb m1 m2 HE
  have hg0 : g < W2.heap.size := lt_of_some M0.out
  have hg1 : g + 1 < W2.heap.size := lt_of_some M1.out
  have hg2 : g + 2 < W2.heap.size := lt_of_some M2.out
  have HWW : Hid (w.heap.size ≤ W2.heap.size) := by show _ ≤ _; omega
  have p := Go.Joins.cell_of_block M0.out; have q := Go.Joins.cell_of_block M1.out
  have p0 := p 0; have p1 := p 1; have q0 := q 0; have q1 := q 1; have q2 := q 2
  simp only [List.getElem?_toArray, List.getElem?_cons_succ, List.getElem?_cons_zero] at p0 p1 q0 q1 q2
  clear p q
  go_enter Tryz.func14, Tryz.ntmps14
  rw [HW2.out] at C1 p0 p1 q0 q1 q2
  simp only [← HG.out] at p0 p1 q0 q1 q2
  go_wp2_with fail
  refine C1.out.mono ?_
  rw [← HW2.out]
  simp only [HG.out]
  rintro e w1 ⟨rfl, hb1⟩
  have HB1 := Lib.hid hb1
  clear p0 p1 q0 q1 q2 hb1 C1
  by_cases hE : E = 0
  · subst hE
    obtain ⟨e1, e2, e3⟩ := HWS.out rfl
    have HV := Lib.hid ((Ls.chkS_zero n l).1 e2)
    obtain ⟨t0, t1, t2⟩ := chkT_ok e3
    have HK : Hid (k = 1 ∨ k = 2 ∨ k = 3) := by
      obtain ⟨h1, -⟩ := chkW_ok e1
      simp [kindB] at h1
      show _ ∨ _
      omega
    obtain ⟨P, HP⟩ : ∃ P, Hid (Ls.inX (extW k W) (extM k M) t l = P) := ⟨_, rfl⟩
    have HRP : Hid (l.filter P = R) := by
      show _ = _
      rw [← HR.out, if_pos rfl, ← HP.out]; rfl
    have HNT : Hid (n = nR) := by show _ = _; rw [← HNR.out, if_pos rfl]
    have HTB : Hid (0 ≤ t ∧ t ≤ 1048576) := ⟨t0, t1⟩
    have HEQ : Hid (∀ x ∈ l, Ls.refIn k W M t l x = P x) := by
      intro x hx
      rw [← HP.out]
      exact Ls.refIn_eq e1 l (by rw [HN.out]; exact hN) x hx (Ls.chkLk_parts (HV.out.2.2.2 x hx)).2.2.2.2.1 t1
    clear e1 e2 e3 t0 t1 t2 HR HWS HNR
    have b0 := (HB1.out.block g hg0).trans M0.out
    have p := Go.Joins.cell_of_block b0
    have p0 := p 0; have p1 := p 1
    simp only [List.getElem?_toArray, List.getElem?_cons_succ, List.getElem?_cons_zero] at p0 p1
    have hgr0 := lt_of_some b0
    clear p b0
    obtain ⟨Pn, HPN⟩ : ∃ Pn, Hid (w1.heap.size = Pn) := ⟨_, rfl⟩
    have hpn : Pn ≤ w1.heap.size ∧ w1.heap.size ≤ Pn := by rw [HPN.out]; exact ⟨Nat.le_refl _, Nat.le_refl _⟩
    go_wp2
    simp only [HPN.out]
    go_loopw [26] (fun i wr => ∃ (A5 : Option Addr) (c5 j : Nat), i = .int .i64 j ∧ j ≤ N ∧ Hid (wr.heap[Pn]? = some (.cells #[.int .i64 n, .slice A5 (Ls.keepX P l j).length c5] 24 (0, 0))) ∧ Hid (wr.ownsRow (Pn + 1) 62 6 (.slice A5 (Ls.keepX P l j).length c5) (Ls.keepX P l j).length (cl Ls.Lk.cells (Ls.keepX P l j))) ∧ Hid (Below w1.heap.size w1 wr)) (fun i _ => N - (RowKit.intOf i).toNat)
    case atStart => exact ⟨none, 0, 0, rfl, Nat.zero_le _, by show _ = _; rw [← HPN.out]; exact heap_alloc_new _ _, World.ownsRow_nil _ _ _ _, below_new _ _⟩
    case round =>
      obtain ⟨A5, c5, j, rfl, hj, HPB0, HO, HB⟩ := hrel
      clear p0 p1 hgr0
      by_cases hlt : j < N
      · obtain ⟨bb, off, ⟨u1, v1, x1, y1, z1, t1⟩, rfl, hb, hx, c0, c1, c2, c3, c4, c5'⟩ := RL.at_ (k := j) (H.out.up (HB1.out.trans (HB.out.mono HB1.out.size))) (by rw [HN.out]; exact hlt)
        dsimp only at c0 c1 c2 c3 c4 c5'
        have HX := Lib.hid hx
        clear hx
        obtain ⟨wr2, HW3⟩ : ∃ wr2, Hid (wr2 = wr.alloc (.cells #[.int .i64 u1, .int .i64 v1, .int .i64 x1, .int .i64 y1, .int .i64 z1, .int .i64 t1] 62)) := ⟨_, rfl⟩
        have hb3 : Below wr.heap.size wr wr2 := by rw [HW3.out]; exact below_new _ _
        have HB3 := Lib.hid (HB.out.trans (hb3.mono HB.out.size))
        have HO3 := Lib.hid (own_up HO.out hb3)
        have HP3 := Lib.hid ((hb3.block _ (lt_of_some HPB0.out)).trans HPB0.out)
        have hxm := List.mem_of_getElem? HX.out
        have hlk := Ls.chkLk_parts (HV.out.2.2.2 _ hxm)
        have CI := Lib.hid (rin_any n (some ⟨bb, off, none⟩) c l k W M t j ⟨u1, v1, x1, y1, z1, t1⟩ wr2 (H.out.up (HB1.out.trans (HB3.out.mono HB1.out.size))) (by rw [HN.out]; omega) HV.out.2.2.1 HX.out hlk.2.2.2.2 HTB.out HK.out)
        obtain ⟨pb, HPB⟩ : ∃ pb, Hid (P ⟨u1, v1, x1, y1, z1, t1⟩ = pb) := ⟨_, rfl⟩
        rw [HEQ.out _ hxm, HPB.out, HN.out] at CI
        obtain ⟨h3, HH3⟩ : ∃ h3, Hid (wr.heap.size = h3) := ⟨_, rfl⟩
        have HY3 : Hid (wr2.heap[h3]? = some (.cells #[.int .i64 u1, .int .i64 v1, .int .i64 x1, .int .i64 y1, .int .i64 z1, .int .i64 t1] 62 (0, 0))) := by show _ = _; rw [HW3.out, ← HH3.out]; exact heap_alloc_new _ _
        have b0 := ((HB1.out.trans (HB3.out.mono HB1.out.size)).block g hg0).trans M0.out
        have b1 := ((HB1.out.trans (HB3.out.mono HB1.out.size)).block (g + 1) hg1).trans M1.out
        have p := Go.Joins.cell_of_block b0; have q := Go.Joins.cell_of_block b1
        have p0 := p 0; have p1 := p 1; have q0 := q 0; have q1 := q 1; have q2 := q 2
        simp only [List.getElem?_toArray, List.getElem?_cons_succ, List.getElem?_cons_zero] at p0 p1 q0 q1 q2
        have hgr0 := lt_of_some b0; have hgr1 := lt_of_some b1
        rw [HW3.out] at p0 p1 q0 q1 q2 CI
        clear p q b0 b1 hb3 hb hlk hxm
        go_wp2_with fail
        refine CI.out.mono ?_
        rw [← HW3.out]
        simp only [HH3.out]
        rintro e w3 ⟨rfl, hb⟩
        have HBB := Lib.hid (HB3.out.trans (hb.mono HB3.out.size))
        have HOB := Lib.hid (own_up HO3.out hb)
        have HYB := Lib.hid ((hb.block _ (lt_of_some HY3.out)).trans HY3.out)
        have HP4 := Lib.hid ((hb.block _ (lt_of_some HP3.out)).trans HP3.out)
        clear hb p0 p1 q0 q1 q2 c0 c1 c2 c3 c4 c5' hgr0 hgr1 CI HO3 HB3 HY3 HP3
        cases pb with
        | false =>
          have HT := Lib.hid (Ls.keepX_out P l j _ HX.out HPB.out)
          go_wp2
          go_roundw
          case rel => exact ⟨A5, c5, j + 1, by go_num, by omega, by rw [HT.out]; exact HP4.out, by rw [HT.out]; exact HOB.out, HBB.out⟩
          case measure => simp [RowKit.intOf]; omega
        | true =>
          have HT := Lib.hid (Ls.keepX_in P l j _ HX.out HPB.out)
          have yc := Go.Joins.cell_of_block HYB.out
          have e0 := yc 0; have e1 := yc 1; have e2 := yc 2; have e3 := yc 3; have e4 := yc 4; have e5 := yc 5
          have zc := Go.Joins.cell_of_block HP4.out
          have k0 := zc 0; have k1 := zc 1
          simp only [List.getElem?_toArray, List.getElem?_cons_succ, List.getElem?_cons_zero] at e0 e1 e2 e3 e4 e5 k0 k1
          have hlp := lt_of_some HP4.out
          clear yc zc
          have HOL := Lib.hid (Ls.keepX_len P l j)
          have HSZ := Lib.hid HBB.out.size
          go_wp2_with (at_builtin; go_loud (refine wpList_applL _ rfl (.tmp 37) (.tmp 39) (Pn + 1) A5 c5 rfl (Ls.keepX P l j) (by simp [Act.eval]) (HOB.out.alloc _) (some ⟨w3.heap.size, 0, none⟩) 1 1 [(⟨u1, v1, x1, y1, z1, t1⟩ : Ls.Lk)] rfl (by simp [Act.eval]) (RL_newL _ _) (by have := HOL.out; omega) (by simp; omega) ?_; intro A6 c6 w6 HO6 HB6 _; have HPP := Lib.hid ((HB6.out.block Pn (Nat.lt_succ_self _)).trans ((Below.heap_alloc _ _ _ hlp).trans HP4.out)); have hz := Go.Joins.cell_of_block HPP.out 1; have hu := Go.Joins.unfrozen_of_block HPP.out 1; simp only [List.getElem?_toArray, List.getElem?_cons_succ, List.getElem?_cons_zero] at hz; clear e0 e1 e2 e3 e4 e5 k0 k1))
          have HPE := Lib.hid (setCell_cells HPP.out 1 (.slice A6 ((Ls.keepX P l j).length + 1) c6))
          have HOE := Lib.hid (own_kept HO6.out (show w6.grownBy (w6.setCell ⟨Pn, 1, none⟩ (.slice A6 ((Ls.keepX P l j).length + 1) c6)) (some Pn) from only_set1 _ _ _ rfl) (Nat.lt_succ_self _))
          have HBE : Hid (Below w1.heap.size w1 _) := (HBB.out.trans ((((Below.refl w1.heap.size w3).alloc HSZ.out (.cells #[.int .i64 u1, .int .i64 v1, .int .i64 x1, .int .i64 y1, .int .i64 z1, .int .i64 t1] 62)).trans (HB6.out.mono (by omega))))).setCell (p := ⟨Pn, 1, none⟩) (by show w1.heap.size ≤ Pn; omega) (.slice A6 ((Ls.keepX P l j).length + 1) c6)
          go_wp2
          go_roundw
          case rel => exact ⟨A6, c6, j + 1, by go_num, by omega, by rw [HT.out, List.length_append]; exact HPE.out, by rw [HT.out]; exact HOE.out, HBE.out⟩
          case measure => simp [RowKit.intOf]; omega
      · have HT : Hid (Ls.keepX P l j = R) := by
          show _ = _
          rw [← HRP.out]
          exact Ls.keepX_all P l j (by rw [HN.out]; omega)
        have dk : ¬ (j < N) := hlt
        rw [HT.out] at HO HPB0
        have M3 := Lib.hid (((HB1.out.trans (HB.out.mono HB1.out.size)).block _ hg2).trans M2.out)
        have r := Go.Joins.cell_of_block M3.out
        have r0 := r 0; have r1 := r 1
        have s := Go.Joins.cell_of_block HPB0.out
        have s0 := s 0; have s1 := s 1
        simp only [List.getElem?_toArray, List.getElem?_cons_succ, List.getElem?_cons_zero] at r0 r1 s0 s1
        have f0 := Go.Joins.unfrozen_of_block M3.out 0; have f1 := Go.Joins.unfrozen_of_block M3.out 1
        have hlr := lt_of_some M3.out; have hls := lt_of_some HPB0.out
        clear r s
        have HRR := Lib.hid (RX.of_own HO.out)
        have HBF := Lib.hid (MB.out.trans ((HB1.out.trans (HB.out.mono HB1.out.size)).mono HWW.out))
        go_wp2
        have q1 := setCell_cells (setCell_cells M3.out 0 (.int .i64 n)) 1 (.slice A5 R.length c5)
        have hgw : w.heap.size ≤ g + 2 := by omega
        have hgr : wr.grownBy ((wr.setCell ⟨g + 2, 0, none⟩ (.int .i64 n)).setCell ⟨g + 2, 1, none⟩ (.slice A5 R.length c5)) (some (g + 2)) := grown_trans (only_set1 _ _ _ rfl) (only_set1 _ _ _ rfl)
        refine ret_st2 rfl rfl (g + 2) rfl rfl q1 ⟨A5, c5, by rw [HNT.out]; rfl, (HRR.out.keepG encL (by decide) M3.out hgr).2, ?_⟩
        exact (HBF.out.setCell (p := ⟨g + 2, 0, none⟩) hgw _).setCell (p := ⟨g + 2, 1, none⟩) hgw _
  · have HR3 := Lib.hid (HR.out.symm.trans (if_neg hE))
    have hR0 := HR3.out
    subst hR0
    have HR4 := Lib.hid (HNR.out.symm.trans (if_neg hE))
    have hR1 := HR4.out
    subst hR1
    have d2 : (E != 0) = true := by simpa using hE
    have d3 : (E == 0) = false := by simpa using hE
    have M3 := Lib.hid ((HB1.out.block _ hg2).trans M2.out)
    have r := Go.Joins.cell_of_block M3.out
    have r0 := r 0; have r1 := r 1
    simp only [List.getElem?_toArray, List.getElem?_cons_succ, List.getElem?_cons_zero] at r0 r1
    have f0 := Go.Joins.unfrozen_of_block M3.out 0; have f1 := Go.Joins.unfrozen_of_block M3.out 1
    have hlr := lt_of_some M3.out
    clear hE HWS HR HNR r
    go_wp2
    have q1 := setCell_cells (setCell_cells M3.out 0 (.int .i64 0)) 1 (.slice none 0 0)
    refine ret_st2 rfl rfl (g + 2) rfl rfl q1 ⟨none, 0, rfl, RX.nil_ _ _ _ _, ?_⟩
    have hgw : w.heap.size ≤ g + 2 := by omega
    exact ((MB.out.trans (HB1.out.mono HWW.out)).setCell (p := ⟨g + 2, 0, none⟩) hgw _).setCell (p := ⟨g + 2, 1, none⟩) hgw _
end Go.Proofs.YtfapfkaipdcflaaGreat
