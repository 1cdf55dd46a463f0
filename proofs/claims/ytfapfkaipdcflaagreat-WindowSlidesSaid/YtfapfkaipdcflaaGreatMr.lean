/-
  The reference's All.
-/
import Derived.Test.YtfapfkaipdcflaaGreatMq
import Derived.Test.YtfapfkaipdcflaaGreatSu
namespace Go.Proofs.YtfapfkaipdcflaaGreat.K
open Go.RowKit Go.Lib

/-- the loop's state: the state that is kept, in the box G, the answer's box behind it -/
structure AS (w : World) (G : Nat) (n : Int) (A : Option Addr) (c : Nat) (l : List Ls.Lk) (wr : World) : Prop where
  b0 : wr.heap[G]? = some (.cells #[.int .i64 n, .slice A l.length c] 24)
  b1 : wr.heap[G + 1]? = some (.cells #[.int .i64 0, .slice none 0 0] 24)
  rl : RL wr.heap.size wr A c l
  bel : Below w.heap.size w wr
  hg : w.heap.size = G
section
variable {w wr w' : World} {G : Nat} {n : Int} {A : Option Addr} {c : Nat} {l : List Ls.Lk}
theorem AS.go (h : AS w G n A c l wr) (hb : Below wr.heap.size wr w') : AS w G n A c l w' :=
  ⟨(hb.block _ (lt_of_some h.b0)).trans h.b0, (hb.block _ (lt_of_some h.b1)).trans h.b1, h.rl.up hb, h.bel.trans (hb.mono h.bel.size), h.hg⟩
theorem AS.put {A' : Option Addr} {c' : Nat} {q : List Ls.Lk} (h2 : AS w G n A c l wr) (hr2 : RL wr.heap.size wr A' c' q) :
    AS w G n A' c' q ((wr.setCell ⟨G, 0, none⟩ (.int .i64 n)).setCell ⟨G, 1, none⟩ (.slice A' q.length c')) := by
  have e1 := setCell_cells h2.b0 0 (.int .i64 n)
  have e2 := setCell_cells e1 1 (.slice A' q.length c')
  have hgr : wr.grownBy ((wr.setCell ⟨G, 0, none⟩ (.int .i64 n)).setCell ⟨G, 1, none⟩ (.slice A' q.length c')) (some G) := grown_trans set_grown set_grown
  have hg := h2.hg
  exact ⟨e2, (hgr.block _ (lt_of_some h2.b1) (by simp)).trans h2.b1, (hr2.keepG encL (n := 6) (by decide) h2.b0 hgr).2, (h2.bel.setCell (p := ⟨G, 0, none⟩) (by show w.heap.size ≤ G; omega) _).setCell (p := ⟨G, 1, none⟩) (by show w.heap.size ≤ G; omega) _, hg⟩
end
set_option maxHeartbeats 8000000 in
set_option maxRecDepth 100000 in
theorem rallT_any (n : Int) (A B : Option Addr) (c d : Nat) (l : List Ls.Lk) (es : List Ev) (w : World) (h : RL w.heap.size w A c l) (hE : RV w.heap.size w B d es) (hl : l.length + es.length ≤ 60000) :
    Calls Tryz.prog 27 #[.agg #[.int .i64 n, .slice A l.length c], .slice B es.length d] w (AllT n A l es w) := by
  obtain ⟨W1, hW1⟩ : ∃ W1, ((w.alloc (.cells #[.int .i64 n, .slice A l.length c] 24)).alloc (.cells #[.int .i64 0, .slice none 0 0] 24)) = W1 := ⟨_, rfl⟩
  obtain ⟨n0, n1, n3, n4⟩ := new_two w (.cells #[.int .i64 n, .slice A l.length c] 24) (.cells #[.int .i64 0, .slice none 0 0] 24)
  rw [hW1] at n0 n1 n3 n4
  obtain ⟨G, hG⟩ : ∃ G, Hid (w.heap.size = G) := ⟨_, rfl⟩
  have HW1 := Lib.hid hW1
  have HE := Lib.hid hE
  rw [hG.out] at n0 n1 n3
  have HA1 : Hid (AS w G n A c l W1) := ⟨n0, n1, h.up n4, n4, hG.out⟩
  have C13 := Lib.hid (rcheckS_any n A c l W1 HA1.out.rl (by omega))
  have s0 := Go.Joins.cell_of_block n0 0; have s1 := Go.Joins.cell_of_block n0 1
  simp only [List.getElem?_toArray, List.getElem?_cons_succ, List.getElem?_cons_zero] at s0 s1
  clear h hE hW1 n4 n0 n1
  obtain ⟨R, HR⟩ : ∃ R, Hid (Ls.chkS n l = R) := ⟨_, rfl⟩
  simp only [HR.out] at C13
  go_enter Tryz.func27, Tryz.ntmps27
  go_wp2_with fail
  rw [HW1.out]
  simp only [hG.out]
  refine C13.out.mono ?_
  rintro e w2 ⟨rfl, hb2⟩
  have HA2 := Lib.hid (HA1.out.go hb2)
  clear hb2 C13 s0 s1 HA1
  by_cases hR : R = 0
  · subst hR
    have HV := Lib.hid ((Ls.chkS_zero n l).1 HR.out)
    have HAR : Hid (Ls.allR n l es = Ls.addC 0 (Ls.allS n 0 l es)) := by show _ = _; rw [Ls.allR, HR.out, if_neg (by decide), Ls.addC_zero]
    go_wp2_with fail
    go_loopw [8, 22] (fun q i wr => ∃ (j : Nat) (cnt : Nat) (lc : List Ls.Lk) (A5 : Option Addr) (c5 : Nat), j ≤ es.length ∧ i = .int .i64 j ∧ q = .int .i64 cnt ∧ cnt ≤ j * 60001 ∧ Hid (lc.length ≤ l.length + j) ∧ Hid (Ls.V n lc) ∧
      Hid (Ls.allR n l es = Ls.addC cnt (Ls.allS n j lc (es.drop j))) ∧ Hid (AS w G n A5 c5 lc wr) ∧ Hid (TK w A l → TK wr A5 lc)) (fun _ i _ => es.length - (RowKit.intOf i).toNat)
    case atStart => exact ⟨0, 0, l, A, c, Nat.zero_le _, rfl, rfl, by omega, Nat.le_refl _, HV.out, HAR.out, HA2.out, fun hq => hq.go HA2.out.bel⟩
    case round =>
      obtain ⟨j, cnt, lc, A5, c5, hj, rfl, rfl, hcnt, HLC, HVC, HRR, HA5, HTK⟩ := hrel
      clear HA2 HAR
      by_cases hlt : j < es.length
      · obtain ⟨bb, off, ⟨k, t, u, v, x, y, z⟩, rfl, hbb, hx, c0, c1, c2, c3, c4', c5', c6⟩ := RV_at (HE.out.go HA5.out.bel) hlt
        dsimp only at c0 c1 c2 c3 c4' c5' c6
        have hD : Hid (es.drop j = ⟨k, t, u, v, x, y, z⟩ :: es.drop (j + 1)) := drop_here hx
        obtain ⟨R2, HR2⟩ : ∃ R2, Hid (Ls.chkEv n ⟨k, t, u, v, x, y, z⟩ = R2) := ⟨_, rfl⟩
        have HAP : Hid (Ls.apE n lc ⟨k, t, u, v, x, y, z⟩ = R2) := by show _ = _; rw [Ls.apE, (Ls.chkS_zero n lc).2 HVC.out, if_neg (by decide), HR2.out]
        have hbw : bb < wr.heap.size := Nat.lt_of_lt_of_le hbb HA5.out.bel.size
        obtain ⟨W6, hW6⟩ : ∃ W6, Hid (wr.alloc (.cells #[.int .i64 k, .int .i64 t, .int .i64 u, .int .i64 v, .int .i64 x, .int .i64 y, .int .i64 z] 57) = W6) := ⟨_, rfl⟩
        have HA6 : Hid (AS w G n A5 c5 lc W6) := by show AS _ _ _ _ _ _ _; rw [← hW6.out]; exact HA5.out.go (below_new _ _)
        have s0 := Go.Joins.cell_of_block HA5.out.b0 0; have s1 := Go.Joins.cell_of_block HA5.out.b0 1
        simp only [List.getElem?_toArray, List.getElem?_cons_succ, List.getElem?_cons_zero] at s0 s1
        have hGr := lt_of_some HA5.out.b0
        clear hx
        go_wp2_with fail
        rw [hW6.out]
        refine (rapplyT_any n A5 c5 lc k t u v x y z W6 HA6.out.rl (by have := HLC.out; omega)).mono ?_
        rintro e w8 ⟨n', l', ev, A8, A9, c8, c9, rfl, hif, hrl, hrv, hb8, htk8⟩
        have HA8 := Lib.hid (HA6.out.go hb8)
        clear hb8 c0 c1 c2 c3 c4' c5' c6 s0 s1 hGr HA6 hW6 HA5
        rw [HAP.out] at hif
        rw [HAP.out]
        have s0 := Go.Joins.cell_of_block HA8.out.b0 0; have s1 := Go.Joins.cell_of_block HA8.out.b0 1
        have sf0 := Go.Joins.unfrozen_of_block HA8.out.b0 0; have sf1 := Go.Joins.unfrozen_of_block HA8.out.b0 1
        have r0 := Go.Joins.cell_of_block HA8.out.b1 0; have r1 := Go.Joins.cell_of_block HA8.out.b1 1
        have f0 := Go.Joins.unfrozen_of_block HA8.out.b1 0; have f1 := Go.Joins.unfrozen_of_block HA8.out.b1 1
        simp only [List.getElem?_toArray, List.getElem?_cons_succ, List.getElem?_cons_zero] at s0 s1 r0 r1
        have hGr := lt_of_some HA8.out.b0
        have hGr1 := lt_of_some HA8.out.b1
        by_cases hR2 : R2 = 0
        · subst hR2
          rw [if_pos rfl] at hif
          obtain ⟨h1, h2, h3⟩ := hif
          have HGD := Lib.hid ((Ls.chkEv_good n ⟨k, t, u, v, x, y, z⟩).1 HR2.out)
          obtain ⟨q, HQ⟩ : ∃ q, Hid (Ls.nextL lc ⟨k, t, u, v, x, y, z⟩ = q) := ⟨_, rfl⟩
          rw [h2, HQ.out] at hrl htk8
          have HTK8 := Lib.hid htk8
          rw [h1, h2, h3, HQ.out]
          have HRL := Lib.hid hrl
          have hlen := Ls.len_chg lc ⟨k, t, u, v, x, y, z⟩
          obtain ⟨m, HM⟩ : ∃ m, Hid ((Ls.chg lc ⟨k, t, u, v, x, y, z⟩).length = m) := ⟨_, rfl⟩
          rw [HM.out] at hlen
          have hm : m ≤ 60001 := by have := HLC.out; omega
          have fw : IntKind.i64.wrap ((cnt : Int) + (m : Int)) = (cnt : Int) + (m : Int) := IntWalk.i64_in _ (by omega)
          rw [HM.out]
          clear hrl hrv hlen h1 h2 h3 htk8
          go_wp2
          go_roundw
          case rel =>
            refine ⟨j + 1, cnt + m, q, A8, c8, hlt, by go_num, by go_num, by omega, ?_, ?_, ?_, (HA8.out.put HRL.out).go (below_new _ _), fun _ => (HTK8.out.gr HA8.out.b0 (by decide) (grown_trans set_grown set_grown)).go (below_new _ _)⟩
            · have h7 := Ls.len_next lc ⟨k, t, u, v, x, y, z⟩
              rw [HQ.out] at h7
              have := HLC.out
              show _ ≤ _
              omega
            · have h7 := Ls.next_valid HVC.out HGD.out
              rw [HQ.out] at h7
              exact h7
            · show _ = _
              rw [HRR.out, hD.out, Ls.allS_step n j lc _ _ _ HR2.out, HM.out, HQ.out]
              congr 1
          case measure => simp [RowKit.intOf]; omega
        · have hd : (R2 != 0) = true := by simpa using hR2
          have hd' : (R2 == 0) = false := by simpa using hR2
          have HRE : Hid (Ls.allR n l es = ([], (j : Int), R2)) := by
            show _ = _
            rw [HRR.out, hD.out, Ls.allS_bad n j lc _ _ (by rw [HR2.out]; exact hR2), HR2.out, Ls.addC, if_pos hR2]
          have H2 := Lib.hid hR2
          have hGw : Hid (w.heap.size ≤ G + 1) := by show _ ≤ _; rw [hG.out]; omega
          clear hR2 hif hrl hrv htk8
          go_wp2
          have hblk0 := setCell_cells (setCell_cells HA8.out.b1 0 (.int .i64 0)) 1 (.slice none 0 0)
          have hblk := fun o => (heap_alloc_old _ o (lt_of_some hblk0)).trans hblk0
          have hbel0 : Below w.heap.size w _ := (HA8.out.bel.setCell (p := ⟨G + 1, 0, none⟩) hGw.out (.int .i64 0)).setCell (p := ⟨G + 1, 1, none⟩) hGw.out (.slice none 0 0)
          exact ret_state3 (p := 4) (q := 5) (r := 6) Tryz.results27 rfl (G + 1) rfl _ _ rfl rfl (hblk _) ⟨0, [], none, 0, by rw [HRE.out]; rfl, by rw [HRE.out], by rw [HRE.out, if_neg H2.out], RX.nil_ _ _ _ _, hbel0.alloc hbel0.size _, fun _ => TK.nil⟩
      · have HRE : Hid (Ls.allR n l es = (lc, (cnt : Int), 0)) := by
          show _ = _
          rw [HRR.out, List.drop_eq_nil_of_le (by omega), Ls.allS_nil]
        have s0 := Go.Joins.cell_of_block HA5.out.b0 0; have s1 := Go.Joins.cell_of_block HA5.out.b0 1
        have r0 := Go.Joins.cell_of_block HA5.out.b1 0; have r1 := Go.Joins.cell_of_block HA5.out.b1 1
        have f0 := Go.Joins.unfrozen_of_block HA5.out.b1 0; have f1 := Go.Joins.unfrozen_of_block HA5.out.b1 1
        simp only [List.getElem?_toArray, List.getElem?_cons_succ, List.getElem?_cons_zero] at s0 s1 r0 r1
        have hGr := lt_of_some HA5.out.b0
        have hGr1 := lt_of_some HA5.out.b1
        have hGw : Hid (w.heap.size ≤ G + 1) := by show _ ≤ _; rw [hG.out]; omega
        go_wp2
        have hblk := setCell_cells (setCell_cells HA5.out.b1 0 (.int .i64 n)) 1 (.slice A5 lc.length c5)
        have hbel : Below w.heap.size w _ := (HA5.out.bel.setCell (p := ⟨G + 1, 0, none⟩) hGw.out (.int .i64 n)).setCell (p := ⟨G + 1, 1, none⟩) hGw.out (.slice A5 lc.length c5)
        have hgr : wr.grownBy ((wr.setCell ⟨G + 1, 0, none⟩ (.int .i64 n)).setCell ⟨G + 1, 1, none⟩ (.slice A5 lc.length c5)) (some (G + 1)) := grown_trans set_grown set_grown
        exact ret_state3 (p := 4) (q := 5) (r := 6) Tryz.results27 rfl (G + 1) rfl _ _ rfl rfl hblk ⟨n, lc, A5, c5, by rw [HRE.out]; rfl, by rw [HRE.out], by rw [HRE.out, if_pos rfl], (HA5.out.rl.keepG encL (n := 6) (by decide) HA5.out.b1 hgr).2, hbel, fun hq => (HTK.out hq).gr HA5.out.b1 (by decide) hgr⟩
  · have HAE : Hid (Ls.allR n l es = ([], 0, R)) := by show _ = _; rw [Ls.allR, HR.out, if_pos hR]
    have hd : (R != 0) = true := by simpa using hR
    have hd' : (R == 0) = false := by simpa using hR
    have r0 := Go.Joins.cell_of_block HA2.out.b1 0; have r1 := Go.Joins.cell_of_block HA2.out.b1 1
    have f0 := Go.Joins.unfrozen_of_block HA2.out.b1 0; have f1 := Go.Joins.unfrozen_of_block HA2.out.b1 1
    simp only [List.getElem?_toArray, List.getElem?_cons_succ, List.getElem?_cons_zero] at r0 r1
    have hGr1 := lt_of_some HA2.out.b1
    have H2 := Lib.hid hR
    have hGw : Hid (w.heap.size ≤ G + 1) := by show _ ≤ _; rw [hG.out]; omega
    clear hR
    go_wp2
    have hblk := setCell_cells (setCell_cells HA2.out.b1 0 (.int .i64 0)) 1 (.slice none 0 0)
    have hbel : Below w.heap.size w _ := (HA2.out.bel.setCell (p := ⟨G + 1, 0, none⟩) hGw.out (.int .i64 0)).setCell (p := ⟨G + 1, 1, none⟩) hGw.out (.slice none 0 0)
    exact ret_state3 (p := 4) (q := 5) (r := 6) Tryz.results27 rfl (G + 1) rfl _ _ rfl rfl hblk ⟨0, [], none, 0, by rw [HAE.out]; rfl, by rw [HAE.out], by rw [HAE.out, if_neg H2.out], RX.nil_ _ _ _ _, hbel, fun _ => TK.nil⟩
theorem rall_any (n : Int) (A B : Option Addr) (c d : Nat) (l : List Ls.Lk) (es : List Ev) (w : World) (h : RL w.heap.size w A c l) (hE : RV w.heap.size w B d es) (hl : l.length + es.length ≤ 60000) :
    Calls Tryz.prog 27 #[.agg #[.int .i64 n, .slice A l.length c], .slice B es.length d] w (AllP n l es w) :=
  (rallT_any n A B c d l es w h hE hl).mono fun _ _ h => h.plain
end Go.Proofs.YtfapfkaipdcflaaGreat.K
