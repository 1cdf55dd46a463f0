/-
  ReorderPushes: the walk of the law.
-/
import Derived.Test.YtgdhjllfdndmnaaRw
namespace Go.Proofs.Ytgdhjllfdndmnaa
open Go.RowKit Go.Lib

/-- what is known while events are pushed on both sides: the buffer's box, what waits, the list -/
structure PSI (W : World) (K : Nat) (l : List Ev) (Al : Option Addr) (cl' : Nat) (b : Rd.Bf) (A1 : Option Addr) (c1 : Nat) (j : Nat) (w : World) : Prop where
  box : w.heap[K]? = some (.cells #[.int .i64 b.bound, .int .i64 b.latest, .int .i64 b.mark, .slice A1 b.wait.length c1] 24 (0, 0))
  wt : RV w.heap.size w A1 c1 b.wait
  li : RV w.heap.size w Al cl' l
  len : b.wait.length ≤ j
  bel : Below W.heap.size W w
  hK : W.heap.size ≤ K
section
variable {W w w' : World} {K Kx j cl' c1 c2 c : Nat} {l q : List Ev} {Al A1 A2 A : Option Addr} {b b' : Rd.Bf} {a0 a1 a2 a3 : Value}
theorem PSI.lK (h : PSI W K l Al cl' b A1 c1 j w) : K < w.heap.size := lt_of_some h.box
theorem PSI.go (h : PSI W K l Al cl' b A1 c1 j w) (hb : Below w.heap.size w w') : PSI W K l Al cl' b A1 c1 j w' :=
  ⟨(hb.block K h.lK).trans h.box, h.wt.up hb, h.li.up hb, h.len, h.bel.trans (hb.mono h.bel.size), h.hK⟩
theorem PSI.put (h : PSI W K l Al cl' b A1 c1 j w) (hw : RV w.heap.size w A2 c2 b'.wait) (hl : b'.wait.length ≤ j + 1) :
    PSI W K l Al cl' b' A2 c2 (j + 1) ((((w.setCell ⟨K, 0, none⟩ (.int .i64 b'.bound)).setCell ⟨K, 1, none⟩ (.int .i64 b'.latest)).setCell ⟨K, 2, none⟩ (.int .i64 b'.mark)).setCell ⟨K, 3, none⟩ (.slice A2 b'.wait.length c2)) :=
  ⟨set4_blk h.box _ _ _ _, rv_box h.box _ _ _ _ _ _ _ hw, rv_box h.box _ _ _ _ _ _ _ h.li, hl, below_set4 h.bel h.hK _ _ _ _, h.hK⟩
theorem set4_other {v0 v1 v2 v3 : Value} {k : Nat} (hk : k ≠ Kx) : ((((w.setCell ⟨Kx, 0, none⟩ v0).setCell ⟨Kx, 1, none⟩ v1).setCell ⟨Kx, 2, none⟩ v2).setCell ⟨Kx, 3, none⟩ v3).heap[k]? = w.heap[k]? :=
  (((Below.heap_setCell _ _ _ _ hk).trans (Below.heap_setCell _ _ _ _ hk)).trans (Below.heap_setCell _ _ _ _ hk)).trans (Below.heap_setCell _ _ _ _ hk)
theorem PSI.other (h : PSI W K l Al cl' b A1 c1 j w) (hx : w.heap[Kx]? = some (.cells #[a0, a1, a2, a3] 24 (0, 0))) (hK : W.heap.size ≤ Kx) (hne : K ≠ Kx) (v0 v1 v2 v3 : Value) :
    PSI W K l Al cl' b A1 c1 j ((((w.setCell ⟨Kx, 0, none⟩ v0).setCell ⟨Kx, 1, none⟩ v1).setCell ⟨Kx, 2, none⟩ v2).setCell ⟨Kx, 3, none⟩ v3) :=
  ⟨(set4_other hne).trans h.box, rv_box hx _ _ _ _ _ _ _ h.wt, rv_box hx _ _ _ _ _ _ _ h.li, h.len, below_set4 h.bel hK _ _ _ _, h.hK⟩
end
theorem push_len {b b' : Rd.Bf} {e : Ev} {r : List Ev} (h : (b', r) = (if Rd.pushE b e = 0 then Rd.pushed b e else (b, []))) : b'.wait.length ≤ b.wait.length + 1 := by
  split at h
  · have h1 : b' = (Rd.pushed b e).1 := by rw [← h]
    have := pushed_len b e
    rw [h1]; omega
  · injection h with h1 h2
    rw [h1]; omega
theorem push_rlen {b b' : Rd.Bf} {e : Ev} {r : List Ev} (h : (b', r) = (if Rd.pushE b e = 0 then Rd.pushed b e else (b, []))) : r.length ≤ b.wait.length + 1 := by
  split at h
  · have h1 : r = (Rd.pushed b e).2 := by rw [← h]
    have := pushed_len b e
    rw [h1]; omega
  · injection h with h1 h2
    rw [h2]; simp
theorem flush_len {b b' : Rd.Bf} {r : List Ev} (h : (b', r) = flushB b) : b'.wait.length ≤ b.wait.length ∧ r.length ≤ b.wait.length := by
  unfold flushB at h
  split at h
  · have h1 : b' = (Rd.rel b b.latest).1 := by rw [← h]
    have h2 : r = (Rd.rel b b.latest).2 := by rw [← h]
    have : (Rd.upto b.latest b.wait).length + (Rd.behind b.latest b.wait).length = b.wait.length := Rd.len_split _ _
    rw [h1, h2]
    show (Rd.behind _ _).length ≤ _ ∧ (Rd.upto _ _).length ≤ _
    omega
  · injection h with h1 h2
    rw [h1, h2]; simp
theorem sortS_len (l : List Ev) : ∀ (b : Rd.Bf) (out : List Ev) (n : Int), (Rd.sortS b out n l).1.length ≤ out.length + b.wait.length + l.length := by
  induction l with
  | nil =>
    intro b out n
    unfold Rd.sortS
    have := Rd.len_split b.latest b.wait
    simp only [List.length_append, List.length_nil]
    omega
  | cons e l ih =>
    intro b out n
    unfold Rd.sortS
    split
    · have := ih b out (n + 1)
      simp only [List.length_cons]
      omega
    · split
      · simp
      · have := ih (Rd.pushed b e).1 (out ++ (Rd.pushed b e).2) n
        have h2 := pushed_len b e
        simp only [List.length_cons]
        rw [List.length_append] at this
        omega
theorem sortF_len {k : Int} {l r : List Ev} {n e : Int} (h : sortF k l = (r, n, e)) : r.length ≤ l.length := by
  have h1 : r = (sortF k l).1 := by rw [h]
  rw [h1]
  unfold sortF
  split
  · have := sortS_len l (Rd.opened k) [] 0
    simpa [Rd.opened] using this
  · simp
set_option maxHeartbeats 16000000 in
set_option maxRecDepth 100000 in
theorem pushes_law (n0 L0 M0 : Int) (A0 : Option Addr) (c0 : Nat) (l0 : List Ev) (rk rt ru rv rx ry rz : Int) (A : Option Addr) (c : Nat) (L : List Int) (bound : Int) (W : World) (hr0 : RV W.heap.size W A0 c0 l0) (h : RD W A c L) (hL : L.length ≤ 17592186044416) :
    Calls Try.prog 3 #[.agg #[.int .i64 n0, .int .i64 L0, .int .i64 M0, .slice A0 l0.length c0], .agg #[.int .i64 rk, .int .i64 rt, .int .i64 ru, .int .i64 rv, .int .i64 rx, .int .i64 ry, .int .i64 rz], .slice A L.length c, .int .i64 bound] W fun e W' => e = .returned (.bool true) ∧ Below W.heap.size W W' := by
  obtain ⟨W1, HW1⟩ : ∃ W1, Hid ((W.alloc (.cells #[.int .i64 n0, .int .i64 L0, .int .i64 M0, .slice A0 l0.length c0] 24)).alloc (.cells #[.int .i64 rk, .int .i64 rt, .int .i64 ru, .int .i64 rv, .int .i64 rx, .int .i64 ry, .int .i64 rz] 26) = W1) := ⟨_, rfl⟩
  obtain ⟨R, HR⟩ : ∃ R, Hid (W.heap.size = R) := ⟨_, rfl⟩
  have hn2 := new_two W (.cells #[.int .i64 n0, .int .i64 L0, .int .i64 M0, .slice A0 l0.length c0] 24) (.cells #[.int .i64 rk, .int .i64 rt, .int .i64 ru, .int .i64 rv, .int .i64 rx, .int .i64 ry, .int .i64 rz] 26)
  rw [HW1.out, HR.out] at hn2
  have HN := Lib.hid hn2
  have HS1 : Hid (W1.heap.size = R + 2) := hn2.2.2.1
  have HB0 : Hid (Below W.heap.size W W1) := by have := hn2.2.2.2; rwa [← HR.out] at this
  have HR0 := Lib.hid (hr0.up HB0.out)
  have CN := Lib.hid (new_any A c L W1 (h.go HB0.out))
  clear hn2 hr0 h
  by_cases h60 : l0.length > 60
  · have hd : decide ((l0.length : Int) > 60) = true := by rw [decide_eq_true_eq]; omega
    go_enter Try.func3, Try.ntmps3
    go_wp2_with fail
    rw [HW1.out]
    refine (awake_any _).mono ?_
    rintro e v9 ⟨rfl, hb9⟩
    have HB9 : Hid (Below W.heap.size W v9) := HB0.out.trans (hb9.mono HB0.out.size)
    clear hb9
    go_wp2
    go_ret
    exact ⟨rfl, HB9.out⟩
  · have hd : decide ((l0.length : Int) > 60) = false := by rw [decide_eq_false_iff_not]; omega
    have HL0 : Hid (l0.length ≤ 60) := by show _ ≤ _; omega
    go_enter Try.func3, Try.ntmps3
    go_wp2_with fail
    clear hd h60
    rw [HW1.out, HR.out]
    refine CN.out.mono ?_
    rintro e w1 ⟨rfl, D1, hb1⟩
    have HD1 := Lib.hid D1
    have HB1 := Lib.hid hb1
    clear D1 hb1 CN
    go_wp2_with fail
    refine (mixed_any W1.heap.size W1.heap.size A c L 0 6 14 w1 HD1.out hL (by decide) (by decide)).mono ?_
    rintro e w2 ⟨l, Al, cl', m2, rfl, hll, hlv, ho, hd, hg⟩
    have HB2 : Hid (Below W1.heap.size W1 w2) := HB1.out.grown hg HB1.out.size (fun k hk => by injection hk with hk; omega)
    have HD2 := Lib.hid hd
    have HZ2 : Hid (w1.heap.size ≤ w2.heap.size) := hg.size
    have HOL := Lib.hid ho
    have HLL := Lib.hid hll
    have HBL : Hid (W1.heap.size < w1.heap.size) := HD1.out.lt
    clear hlv ho hd hg HD1
    go_wp2_with fail
    refine (next_any W1.heap.size W1.heap.size A c L _ 6 _ HD2.out hL (by decide)).mono ?_
    rintro e w3 ⟨xb, m3, rfl, hx0, hx1, D3, g3⟩
    have HD3 := Lib.hid D3
    have HB3 : Hid (Below W1.heap.size W1 w3) := HB2.out.grown g3 HB2.out.size (fun k hk => by injection hk with hk; omega)
    have HOL3 := Lib.hid (own_kept HOL.out g3 HBL.out)
    have HZ4a : Hid (w1.heap.size ≤ w3.heap.size) := Nat.le_trans HZ2.out g3.size
    obtain ⟨W4, HW4⟩ : ∃ W4, Hid (w3.alloc (.cells #[.int .i64 bound, .int .i64 xb] 3) = W4) := ⟨_, rfl⟩
    obtain ⟨G, HG⟩ : ∃ G, Hid (w3.heap.size = G) := ⟨_, rfl⟩
    have HB34 : Hid (Below w3.heap.size w3 W4) := by show Below _ _ _; rw [← HW4.out]; exact below_new _ _
    have HGb : Hid (W4.heap[G]? = some (.cells #[.int .i64 bound, .int .i64 xb] 3 (0, 0))) := by show _ = _; rw [← HW4.out, ← HG.out]; exact heap_alloc_new _ _
    have HD4 := Lib.hid (HD3.out.go HB34.out)
    have HOL4 := Lib.hid (own_up HOL3.out HB34.out)
    have HRL := Lib.hid (RX.of_own HOL4.out)
    have HZ4 : Hid (w1.heap.size ≤ W4.heap.size) := Nat.le_trans HZ4a.out HB34.out.size
    have HB4 : Hid (Below W1.heap.size W1 W4) := HB3.out.trans (HB34.out.mono HB3.out.size)
    have hG4 := lt_of_some HGb.out
    clear D3 g3 hx0 hx1 HD2 HD3 HOL HOL3 HB34
    go_wp2_with fail
    rw [HW4.out]
    simp only [HG.out]
    go_loopw [59] (fun i wr => ∃ (j : Nat), j ≤ 2 ∧ i = .int .i64 j ∧ Hid (Below W4.heap.size W4 wr)) (fun i _ => 2 - (RowKit.intOf i).toNat)
    case atStart => exact ⟨0, by omega, rfl, Below.refl _ _⟩
    case round =>
      obtain ⟨j, hj, rfl, HB⟩ := hrel
      have HRr := Lib.hid (HRL.out.up HB.out)
      by_cases hlt : j < 2
      · obtain ⟨kv, hkv⟩ : ∃ kv : Int, wr.cell? ⟨G, j, none⟩ = some (.int .i64 kv) := by
          have gC := Go.Joins.cell_of_block ((HB.out.block G hG4).trans HGb.out)
          rcases (by omega : j = 0 ∨ j = 1) with rfl | rfl
          · exact ⟨bound, gC 0⟩
          · exact ⟨xb, gC 1⟩
        go_wp2_with fail
        refine (open_any kv wr).mono ?_
        rintro e wa ⟨rfl, hba⟩
        have HBa := Lib.hid hba
        have HRa := Lib.hid (HRr.out.up hba)
        clear hkv hba
        generalize hOB : openB kv = OB
        generalize hOE : openE kv = OE'
        obtain ⟨ob1, ob2, ob3, ob4⟩ := OB
        dsimp only
        obtain ⟨K13, HK13⟩ : ∃ K13, Hid (wa.heap.size = K13) := ⟨_, rfl⟩
        obtain ⟨wb, HWb⟩ : ∃ wb, Hid (wa.alloc (.cells #[.int .i64 ob1, .int .i64 ob2, .int .i64 ob3, .slice none 0 0] 24) = wb) := ⟨_, rfl⟩
        have HBb : Hid (Below wa.heap.size wa wb) := by show Below _ _ _; rw [← HWb.out]; exact below_new _ _
        have H13 : Hid (wb.heap[K13]? = some (.cells #[.int .i64 ob1, .int .i64 ob2, .int .i64 ob3, .slice none 0 0] 24 (0, 0))) := by show _ = _; rw [← HWb.out, ← HK13.out]; exact heap_alloc_new _ _
        have CO := Lib.hid (ropen_any kv wb)
        rw [hOB, hOE] at CO
        dsimp only at CO
        have HOB := Lib.hid hOB
        clear hOB hOE
        go_wp2_with fail
        rw [HWb.out]
        simp only [HK13.out]
        refine CO.out.mono ?_
        rintro e wc ⟨rfl, hbc⟩
        have HRc := Lib.hid ((HRa.out.up HBb.out).up hbc)
        have HBc : Hid (Below wa.heap.size wa wc) := HBb.out.trans (hbc.mono HBb.out.size)
        have H13c : Hid (wc.heap[K13]? = some (.cells #[.int .i64 ob1, .int .i64 ob2, .int .i64 ob3, .slice none 0 0] 24 (0, 0))) := (hbc.block K13 (lt_of_some H13.out)).trans H13.out
        have h13l := lt_of_some H13c.out
        obtain ⟨K15, HK15⟩ : ∃ K15, Hid (wc.heap.size = K15) := ⟨_, rfl⟩
        obtain ⟨wd, HWd⟩ : ∃ wd, Hid (wc.alloc (.cells #[.int .i64 ob1, .int .i64 ob2, .int .i64 ob3, .slice none 0 0] 24) = wd) := ⟨_, rfl⟩
        have HBd : Hid (Below wc.heap.size wc wd) := by show Below _ _ _; rw [← HWd.out]; exact below_new _ _
        have CS := Lib.hid (sameB_any ob1 ob2 ob3 none none 0 0 [] wd (RX.nil_ _ _ _ _) (RX.nil_ _ _ _ _) (by simp))
        have HRd := Lib.hid (HRc.out.up HBd.out)
        have HBad : Hid (Below wa.heap.size wa wd) := HBc.out.trans (HBd.out.mono HBc.out.size)
        clear hbc CO
        have aC := Go.Joins.cell_of_block (H13c.out)
        have a0 := aC 0; have a1 := aC 1; have a2 := aC 2; have a3 := aC 3
        simp only [List.getElem?_toArray, List.getElem?_cons_succ, List.getElem?_cons_zero] at a0 a1 a2 a3
        clear aC
        go_wp2_with fail
        rw [HWd.out]
        refine CS.out.mono ?_
        rintro e we ⟨rfl, hbe⟩
        have HRe := Lib.hid (HRd.out.up hbe)
        have HBae : Hid (Below wa.heap.size wa we) := HBad.out.trans (hbe.mono HBad.out.size)
        clear hbe CS a0 a1 a2 a3
        go_wp2_with fail
        refine (sort_any kv Al cl' l we HRe.out (by have := HLL.out; omega)).mono ?_
        rintro e wf ⟨sr, sn, se, A7, c7, rfl, hs, hr7, hbf⟩
        have HSR := Lib.hid hs
        have HR7 := Lib.hid hr7
        have HRf := Lib.hid (HRe.out.up hbf)
        have HBaf : Hid (Below wa.heap.size wa wf) := HBae.out.trans (hbf.mono HBae.out.size)
        clear hs hr7 hbf
        go_wp2_with fail
        refine (rsort_any kv Al cl' l wf HRf.out (by have := HLL.out; omega)).mono ?_
        rintro e wg ⟨sr2, sn2, se2, A8, c8, rfl, hs, hr8, hbg⟩
        rw [HSR.out] at hs
        injection hs with h1 h2
        injection h2 with h2 h3
        subst h1; subst h2; subst h3
        have hsl : sr.length ≤ 1000000 := by have h8 := sortF_len HSR.out; have := HLL.out; omega
        have CE := Lib.hid (same_any A7 A8 c7 c8 sr wg (HR7.out.up hbg) hr8 hsl)
        have HBag : Hid (Below wa.heap.size wa wg) := HBaf.out.trans (hbg.mono HBaf.out.size)
        clear hr8 hbg hsl
        go_wp2_with fail
        refine CE.out.mono ?_
        rintro e wh ⟨rfl, hbh⟩
        have HBz : Hid (Below W4.heap.size W4 wh) := HB.out.trans ((HBa.out.trans ((HBag.out.trans (hbh.mono HBag.out.size)).mono HBa.out.size)).mono HB.out.size)
        clear hbh CE
        go_wp2
        go_roundw
        case rel => exact ⟨j + 1, by omega, by go_num, HBz.out⟩
        case measure => simp [RowKit.intOf]; try omega
      · obtain rfl : j = 2 := by omega
        have HDr := Lib.hid (HD4.out.go HB.out)
        have HOr := Lib.hid (own_up HOL4.out HB.out)
        have HBr : Hid (Below W1.heap.size W1 wr) := HB4.out.trans (HB.out.mono HB4.out.size)
        have HZr : Hid (w1.heap.size ≤ wr.heap.size) := Nat.le_trans HZ4.out HB.out.size
        clear HRr HRL HOL4 HD4 HGb hG4 HB
        go_wp2_with fail
        refine (next_any W1.heap.size W1.heap.size A c L _ 5 _ HDr.out hL (by decide)).mono ?_
        rintro e wa ⟨xv, m5, rfl, hx0, hx1, D5, g5⟩
        have HOa := Lib.hid (own_kept HOr.out g5 HBL.out)
        have HBa : Hid (Below W1.heap.size W1 wa) := HBr.out.grown g5 HBr.out.size (fun k hk => by injection hk with hk; omega)
        have HZa : Hid (wr.heap.size ≤ wa.heap.size) := g5.size
        clear D5 g5 HDr HOr HBr
        have hok : okB xv = true := by simp [okB]; omega
        have e1 : openB xv = ⟨xv, -1, -1, []⟩ := by rw [openB, if_pos hok]; rfl
        have e2 : openE xv = 0 := by rw [openE, if_pos hok]
        clear hx0 hx1 hok
        go_wp2_with fail
        refine (ropen_any xv wa).mono ?_
        rintro e wb ⟨rfl, hbb⟩
        rw [e1, e2]
        dsimp only
        have HOb := Lib.hid (own_up HOa.out hbb)
        have HWB1 : Hid (w1.heap.size ≤ wb.heap.size) := Nat.le_trans (Nat.le_trans HZr.out HZa.out) hbb.size
        have HBb : Hid (Below W1.heap.size W1 wb) := HBa.out.trans (hbb.mono HBa.out.size)
        clear e1 e2 hbb HOa HBa
        obtain ⟨K, HK⟩ : ∃ K, Hid (wb.heap.size = K) := ⟨_, rfl⟩
        obtain ⟨wc, HWwc⟩ : ∃ wc, Hid (wb.alloc (.cells #[.int .i64 xv, .int .i64 (-1), .int .i64 (-1), .slice none 0 0] 24) = wc) := ⟨_, rfl⟩
        have HBBwc : Hid (Below wb.heap.size wb wc) := by show Below _ _ _; rw [← HWwc.out]; exact below_new _ _
        have HXwc : Hid (wc.heap[K]? = some (.cells #[.int .i64 xv, .int .i64 (-1), .int .i64 (-1), .slice none 0 0] 24 (0, 0))) := by show _ = _; rw [← HWwc.out, ← HK.out]; exact heap_alloc_new _ _
        have HR1b : Hid (wb.heap[R + 1]? = some (.cells #[.int .i64 rk, .int .i64 rt, .int .i64 ru, .int .i64 rv, .int .i64 rx, .int .i64 ry, .int .i64 rz] 26 (0, 0))) := (HBb.out.block (R + 1) (by rw [HS1.out]; omega)).trans HN.out.2.1
        have hR1l := lt_of_some HR1b.out
        have hR0l : R < wb.heap.size := by omega
        have reC := Go.Joins.cell_of_block (HR1b.out)
        have re0 := reC 0; have re1 := reC 1; have re2 := reC 2; have re3 := reC 3; have re4 := reC 4; have re5 := reC 5; have re6 := reC 6
        simp only [List.getElem?_toArray, List.getElem?_cons_succ, List.getElem?_cons_zero] at re0 re1 re2 re3 re4 re5 re6
        clear reC
        obtain ⟨wc2, HWC2⟩ : ∃ wc2, Hid (wc.alloc (.cells #[.int .i64 rk, .int .i64 rt, .int .i64 ru, .int .i64 rv, .int .i64 rx, .int .i64 ry, .int .i64 rz] 26) = wc2) := ⟨_, rfl⟩
        have HOT : Hid (OE w1.heap.size ((wb.alloc (.cells #[.int .i64 xv, .int .i64 (-1), .int .i64 (-1), .slice none 0 0] 24)).alloc (.cells #[.int .i64 rk, .int .i64 rt, .int .i64 ru, .int .i64 rv, .int .i64 rx, .int .i64 ry, .int .i64 rz] 26)) Al cl' l) := by
          show OE _ _ _ _ _
          rw [HWwc.out]
          exact own_up (own_up HOb.out HBBwc.out) (below_new wc _)
        have HRVE : Hid (RV ((wb.alloc (.cells #[.int .i64 xv, .int .i64 (-1), .int .i64 (-1), .slice none 0 0] 24)).alloc (.cells #[.int .i64 rk, .int .i64 rt, .int .i64 ru, .int .i64 rv, .int .i64 rx, .int .i64 ry, .int .i64 rz] 26)).heap.size ((wb.alloc (.cells #[.int .i64 xv, .int .i64 (-1), .int .i64 (-1), .slice none 0 0] 24)).alloc (.cells #[.int .i64 rk, .int .i64 rt, .int .i64 ru, .int .i64 rv, .int .i64 rx, .int .i64 ry, .int .i64 rz] 26)) (some ⟨wb.heap.size + 1, 0, none⟩) 1 [(⟨rk, rt, ru, rv, rx, ry, rz⟩ : Ev)]) := by
          have h9 := RV_newE (wb.alloc (.cells #[.int .i64 xv, .int .i64 (-1), .int .i64 (-1), .slice none 0 0] 24)) (⟨rk, rt, ru, rv, rx, ry, rz⟩ : Ev)
          rwa [show (wb.alloc (.cells #[.int .i64 xv, .int .i64 (-1), .int .i64 (-1), .slice none 0 0] 24)).heap.size = wb.heap.size + 1 by simp] at h9
        have HBS : Hid (w1.heap.size ≤ ((wb.alloc (.cells #[.int .i64 xv, .int .i64 (-1), .int .i64 (-1), .slice none 0 0] 24)).alloc (.cells #[.int .i64 rk, .int .i64 rt, .int .i64 ru, .int .i64 rv, .int .i64 rx, .int .i64 ry, .int .i64 rz] 26)).heap.size) := by
          show _ ≤ _
          have h1 := HOb.out
          have h2 : w1.heap.size ≤ wb.heap.size := HWB1.out
          simp
          omega
        have hll14 : l.length ≤ 14 := HLL.out
        go_wp2_with (at_builtin; (refine wpList_applF _ rfl (.tmp 117) (.tmp 119) w1.heap.size Al cl' rfl l (by simp [Act.eval]) HOT.out (some ⟨wb.heap.size + 1, 0, none⟩) 1 1 [(⟨rk, rt, ru, rv, rx, ry, rz⟩ : Ev)] rfl (by simp [Act.eval]) HRVE.out (by omega) HBS.out ?_; intro A5 c5 w5 HO5 HG5 HF5))
        rw [HWwc.out] at HG5
        have HKe : Hid ((wc.alloc (.cells #[.int .i64 rk, .int .i64 rt, .int .i64 ru, .int .i64 rv, .int .i64 rx, .int .i64 ry, .int .i64 rz] 26)).heap[K]? = some (.cells #[.int .i64 xv, .int .i64 (-1), .int .i64 (-1), .slice none 0 0] 24 (0, 0))) := ((below_new wc _).block K (lt_of_some HXwc.out)).trans HXwc.out
        have HOe : Hid (OE w1.heap.size (wc.alloc (.cells #[.int .i64 rk, .int .i64 rt, .int .i64 ru, .int .i64 rv, .int .i64 rx, .int .i64 ry, .int .i64 rz] 26)) Al cl' l) := own_up (own_up HOb.out HBBwc.out) (below_new wc _)
        have HBe : Hid (Below W1.heap.size W1 (wc.alloc (.cells #[.int .i64 rk, .int .i64 rt, .int .i64 ru, .int .i64 rv, .int .i64 rx, .int .i64 ry, .int .i64 rz] 26))) := HBb.out.trans ((HBBwc.out.trans ((below_new wc _).mono HBBwc.out.size)).mono HBb.out.size)
        obtain ⟨l2, HL2⟩ : ∃ l2, Hid (l ++ [(⟨rk, rt, ru, rv, rx, ry, rz⟩ : Ev)] = l2) := ⟨_, rfl⟩
        have HN2 : Hid (l2.length = l.length + 1) := by show _ = _; rw [← HL2.out]; simp
        rw [HL2.out] at HO5
        have HP0 : Hid (PSI W1 K l2 A5 c5 (Rd.opened xv) none 0 0 w5) :=
          ⟨(HG5.out.block K (lt_of_some HKe.out) (fun e => own_ne' HOe.out HKe.out (by decide) e.symm)).trans HKe.out, RX.nil_ _ _ _ _, RX.of_own HO5.out, Nat.le_refl _, HBe.out.grown HG5.out HBe.out.size (fun q hq => by have := (HOe.out.lt q hq).1; have := HBL.out; omega), by rw [← HK.out]; exact HBb.out.size⟩
        obtain ⟨N2, HNN⟩ : ∃ N2, Hid (l2.length = N2) := ⟨_, rfl⟩
        have hN15 : N2 ≤ 15 := by rw [← HNN.out, HN2.out]; omega
        have hcN : l.length + 1 = N2 := by rw [← HNN.out, HN2.out]
        clear HOT HRVE HBS HG5 HF5 HO5 HKe HOe HBe re0 re1 re2 re3 re4 re5 re6
        go_wp2_with fail
        simp only [HK.out]
        have hci : ((l.length : Int) + 1) = (N2 : Int) := by omega
        rw [hcN, hci]
        clear hcN hci
        go_loopw [122] (fun i wr => ∃ (j : Nat) (b : Rd.Bf) (A1 : Option Addr) (c1 : Nat), i = .int .i64 j ∧ j ≤ N2 ∧ Hid (PSI W1 K l2 A5 c5 b A1 c1 j wr)) (fun i _ => N2 - (RowKit.intOf i).toNat)
        case atStart => exact ⟨0, _, none, 0, rfl, Nat.zero_le _, HP0.out⟩
        case round =>
          clear HP0
          obtain ⟨j, ⟨n, Lt, M, wq⟩, A1, c1, rfl, hj, HS⟩ := hrel
          have hKl := HS.out.lK
          have hwl := HS.out.len
          dsimp only at hwl
          have aC := Go.Joins.cell_of_block (HS.out.box)
          have a0 := aC 0; have a1 := aC 1; have a2 := aC 2; have a3 := aC 3
          simp only [List.getElem?_toArray, List.getElem?_cons_succ, List.getElem?_cons_zero] at a0 a1 a2 a3
          clear aC
          by_cases hlt : j < N2
          · obtain ⟨bb, off, ⟨k1, t1, u1, v1, x1, y1, z1⟩, rfl, hbb, ha, d0, d1, d2, d3, d4, d5, d6⟩ := RV.at_ (k := j) HS.out.li (by rw [HNN.out]; exact hlt)
            dsimp only at d0 d1 d2 d3 d4 d5 d6
            have HSa := Lib.hid (HS.out.go (below_new wr (.cells #[.int .i64 k1, .int .i64 t1, .int .i64 u1, .int .i64 v1, .int .i64 x1, .int .i64 y1, .int .i64 z1] 26)))
            have C1 := Lib.hid (pushB_any n Lt M A1 c1 wq k1 t1 u1 v1 x1 y1 z1 _ HSa.out.wt (by omega))
            have hwl2 := Lib.hid hwl
            clear ha
            go_wp2_with fail
            refine C1.out.mono ?_
            rintro e wb ⟨⟨nb, nl, nm, wt⟩, r, A2, A3, c2, c3, rfl, hbr, ho2, hr3, hb⟩
            obtain ⟨e0, e1, e2, e3, e4, e5, e6⟩ := box7 hb
            have HSb := Lib.hid (HSa.out.go hb)
            have HQ2 := Lib.hid ho2.rv
            have HQ3 := Lib.hid hr3.1
            have HBR := Lib.hid hbr
            have hszb : wr.heap.size < wb.heap.size := by have := hb.size; simp at this; omega
            have hwt : wt.length ≤ 20 := by have h9 := push_len hbr; dsimp only at h9; omega
            have hrl : r.length ≤ 20 := by have h9 := push_rlen hbr; dsimp only at h9; omega
            have hwtj : Hid (wt.length ≤ j + 1) := by have h9 := push_len hbr; dsimp only at h9; show _ ≤ _; omega
            clear hb ho2 hr3 hbr C1 d0 d1 d2 d3 d4 d5 d6 a0 a1 a2 a3 hKl hwl
            dsimp only
            have hKb := HSb.out.lK
            have aC := Go.Joins.cell_of_block (HSb.out.box)
            have a0 := aC 0; have a1 := aC 1; have a2 := aC 2; have a3 := aC 3
            simp only [List.getElem?_toArray, List.getElem?_cons_succ, List.getElem?_cons_zero] at a0 a1 a2 a3
            clear aC
            obtain ⟨pe, HPE⟩ : ∃ pe, Hid (Rd.pushE ⟨n, Lt, M, wq⟩ ⟨k1, t1, u1, v1, x1, y1, z1⟩ = pe) := ⟨_, rfl⟩
            rw [HPE.out] at HBR ⊢
            obtain ⟨K27, HK27⟩ : ∃ K27, Hid (wb.heap.size = K27) := ⟨_, rfl⟩
            obtain ⟨wc, HWwc⟩ : ∃ wc, Hid (wb.alloc (.cells #[.int .i64 nb, .int .i64 nl, .int .i64 nm, .slice A2 wt.length c2] 24) = wc) := ⟨_, rfl⟩
            have HBBwc : Hid (Below wb.heap.size wb wc) := by show Below _ _ _; rw [← HWwc.out]; exact below_new _ _
            have HXwc : Hid (wc.heap[K27]? = some (.cells #[.int .i64 nb, .int .i64 nl, .int .i64 nm, .slice A2 wt.length c2] 24 (0, 0))) := by show _ = _; rw [← HWwc.out, ← HK27.out]; exact heap_alloc_new _ _
            have HSc := Lib.hid (HSb.out.go HBBwc.out)
            have HQ2c := Lib.hid (HQ2.out.up HBBwc.out)
            have HQ3c := Lib.hid (HQ3.out.up HBBwc.out)
            have C2 := Lib.hid (rpush_any n Lt M A1 c1 wq k1 t1 u1 v1 x1 y1 z1 wc HSc.out.wt (by have := hwl2.out; omega))
            go_wp2_with fail
            rw [HWwc.out]
            simp only [HK27.out]
            refine C2.out.mono ?_
            rintro e wd ⟨b9, r9, A4, A6, c4, c6, rfl, hbr9, ho4, hr6, hd⟩
            rw [HPE.out] at hbr9 ⊢
            rw [← HBR.out] at hbr9
            injection hbr9 with h1 h2
            subst h1
            have h3 := h2.symm
            clear h2
            subst h3
            dsimp only
            have HSd := Lib.hid (HSc.out.go hd)
            have HQ2d := Lib.hid (HQ2c.out.up hd)
            have HQ3d := Lib.hid (HQ3c.out.up hd)
            have HQ4d := Lib.hid ho4.rv
            have HQ6d := Lib.hid hr6.1
            have HX27d : Hid (wd.heap[K27]? = some (.cells #[.int .i64 nb, .int .i64 nl, .int .i64 nm, .slice A2 wt.length c2] 24 (0, 0))) := (hd.block K27 (lt_of_some HXwc.out)).trans HXwc.out
            have h27d := lt_of_some HX27d.out
            have HK27W : Hid (W1.heap.size ≤ K27) := by show _ ≤ _; rw [← HK27.out]; exact HSb.out.bel.size
            have HKK27 : Hid (K ≠ K27) := by show _ ≠ _; rw [← HK27.out]; omega
            have hbs : Hid (wb.heap.size < wd.heap.size) := by show _ < _; have := lt_of_some HXwc.out; have := hd.size; rw [HK27.out]; omega
            clear hd ho4 hr6 C2 HXwc HQ2c HQ3c HQ2 HQ3 e0 e1 e2 e3 e4 e5 e6 a0 a1 a2 a3 hszb hKb
            obtain ⟨K30, HK30⟩ : ∃ K30, Hid (wd.heap.size = K30) := ⟨_, rfl⟩
            obtain ⟨we, HWwe⟩ : ∃ we, Hid (wd.alloc (.cells #[.int .i64 nb, .int .i64 nl, .int .i64 nm, .slice A4 wt.length c4] 24) = we) := ⟨_, rfl⟩
            have HBBwe : Hid (Below wd.heap.size wd we) := by show Below _ _ _; rw [← HWwe.out]; exact below_new _ _
            have HXwe : Hid (we.heap[K30]? = some (.cells #[.int .i64 nb, .int .i64 nl, .int .i64 nm, .slice A4 wt.length c4] 24 (0, 0))) := by show _ = _; rw [← HWwe.out, ← HK30.out]; exact heap_alloc_new _ _
            have HSe := Lib.hid (HSd.out.go HBBwe.out)
            have HQ2e := Lib.hid (HQ2d.out.up HBBwe.out)
            have HQ3e := Lib.hid (HQ3d.out.up HBBwe.out)
            have HQ4e := Lib.hid (HQ4d.out.up HBBwe.out)
            have HQ6e := Lib.hid (HQ6d.out.up HBBwe.out)
            have HX27e : Hid (we.heap[K27]? = some (.cells #[.int .i64 nb, .int .i64 nl, .int .i64 nm, .slice A2 wt.length c2] 24 (0, 0))) := (HBBwe.out.block K27 h27d).trans HX27d.out
            have HK30W : Hid (W1.heap.size ≤ K30) := by show _ ≤ _; rw [← HK30.out]; exact HSd.out.bel.size
            have HKK30 : Hid (K ≠ K30) := by show _ ≠ _; rw [← HK30.out]; have := HSd.out.lK; omega
            have HK2730 : Hid (K27 ≠ K30) := by show _ ≠ _; rw [← HK30.out]; omega
            have CS : Hid (∀ x' : More we, Calls Try.prog 13 #[.agg #[.int .i64 nb, .int .i64 nl, .int .i64 nm, .slice A2 wt.length c2], .agg #[.int .i64 nb, .int .i64 nl, .int .i64 nm, .slice A4 wt.length c4]] (over we x') fun e w' => e = .returned (.bool true) ∧ Below (over we x').heap.size (over we x') w') :=
              fun x' => sameB_any nb nl nm A2 A4 c2 c4 wt _ (HQ2e.out.up (over_below _ x')) (HQ4e.out.up (over_below _ x')) (by omega)
            have CE : Hid (∀ x' : More we, Calls Try.prog 16 #[.slice A3 r.length c3, .slice A6 r.length c6] (over we x') fun e w' => e = .returned (.bool true) ∧ Below (over we x').heap.size (over we x') w') :=
              fun x' => same_any A3 A6 c3 c6 r _ (HQ3e.out.up (over_below _ x')) (HQ6e.out.up (over_below _ x')) (by omega)
            have CV1 : Hid (∀ x' : More we, Calls Try.prog 19 #[.agg #[.int .i64 nb, .int .i64 nl, .int .i64 nm, .slice A2 wt.length c2]] (over we x') fun e w' => e = .returned (.bool (decide (Rd.V ⟨nb, nl, nm, wt⟩))) ∧ Below (over we x').heap.size (over we x') w') :=
              fun x' => valid_any nb nl nm A2 c2 wt _ (HQ2e.out.up (over_below _ x')) (by omega)
            have CV2 : Hid (∀ x' : More we, Calls Try.prog 20 #[.agg #[.int .i64 nb, .int .i64 nl, .int .i64 nm, .slice A4 wt.length c4]] (over we x') fun e w' => e = .returned (.bool (decide (Rd.V ⟨nb, nl, nm, wt⟩))) ∧ Below (over we x').heap.size (over we x') w') :=
              fun x' => rvalid_any nb nl nm A4 c4 wt _ (HQ4e.out.up (over_below _ x')) (by omega)
            generalize decide (Rd.V ⟨nb, nl, nm, wt⟩) = VB at CV1 CV2
            go_wp2_with fail
            rw [HWwe.out]
            simp only [HK30.out]
            have h27e := lt_of_some HX27e.out
            have h30e := lt_of_some HXwe.out
            have pC := Go.Joins.cell_of_block (HX27e.out)
            have p0 := pC 0; have p1 := pC 1; have p2 := pC 2; have p3 := pC 3
            simp only [List.getElem?_toArray, List.getElem?_cons_succ, List.getElem?_cons_zero] at p0 p1 p2 p3
            clear pC
            have qC := Go.Joins.cell_of_block (HXwe.out)
            have q0 := qC 0; have q1 := qC 1; have q2 := qC 2; have q3 := qC 3
            simp only [List.getElem?_toArray, List.getElem?_cons_succ, List.getElem?_cons_zero] at q0 q1 q2 q3
            clear qC
            refine wp_region_over (by kernel_rfl) (by kernel_rfl) ?_
            repeat (go_big_quiet_step (first | (go_at_call 13; exact calls_over (CS.out _)) | (go_at_call 16; exact calls_over (CE.out _)) | (go_at_call 19; exact calls_over (CV1.out _)) | (go_at_call 20; exact calls_over (CV2.out _))))
            refine wpQuiet_nil ?_
            rintro _ ⟨zz, rfl⟩
            have hbz := Lib.hid (over_below _ zz)
            clear CS CE CV1 CV2 p0 p1 p2 p3 q0 q1 q2 q3
            generalize over we zz = wf at hbz ⊢
            have HSf := Lib.hid (HSe.out.go hbz.out)
            have HQ4f := Lib.hid (HQ4e.out.up hbz.out)
            have HX27f : Hid (wf.heap[K27]? = some (.cells #[.int .i64 nb, .int .i64 nl, .int .i64 nm, .slice A2 wt.length c2] 24 (0, 0))) := (hbz.out.block K27 h27e).trans HX27e.out
            have HX30f : Hid (wf.heap[K30]? = some (.cells #[.int .i64 nb, .int .i64 nl, .int .i64 nm, .slice A4 wt.length c4] 24 (0, 0))) := (hbz.out.block K30 h30e).trans HXwe.out
            have hKf := HSf.out.lK
            have h27f := lt_of_some HX27f.out
            have h30f := lt_of_some HX30f.out
            have HPn := Lib.hid (HSf.out.put (b' := ⟨nb, nl, nm, wt⟩) HQ4f.out hwtj.out)
            have hn1 : ¬ K = K27 := HKK27.out
            have hn2 : ¬ K27 = K := fun e => HKK27.out e.symm
            have hn3 : ¬ K = K30 := HKK30.out
            have hn4 : ¬ K30 = K := fun e => HKK30.out e.symm
            have hn5 : ¬ K27 = K30 := HK2730.out
            have hn6 : ¬ K30 = K27 := fun e => HK2730.out e.symm
            have fC := Go.Joins.cell_of_block (HSf.out.box)
            have f0 := fC 0; have f1 := fC 1; have f2 := fC 2; have f3 := fC 3
            simp only [List.getElem?_toArray, List.getElem?_cons_succ, List.getElem?_cons_zero] at f0 f1 f2 f3
            have fF := Go.Joins.unfrozen_of_block (HSf.out.box)
            have ff0 := fF 0; have ff1 := fF 1; have ff2 := fF 2; have ff3 := fF 3
            clear fF
            clear fC
            have qC := Go.Joins.cell_of_block (HX30f.out)
            have q0 := qC 0; have q1 := qC 1; have q2 := qC 2; have q3 := qC 3
            simp only [List.getElem?_toArray, List.getElem?_cons_succ, List.getElem?_cons_zero] at q0 q1 q2 q3
            have qF := Go.Joins.unfrozen_of_block (HX30f.out)
            have qf0 := qF 0; have qf1 := qF 1; have qf2 := qF 2; have qf3 := qF 3
            clear qF
            clear qC
            clear HSd HSe HSb HSc HSa HX27d HX27e HXwe h27d h27e h30e HQ2d HQ3d HQ4d HQ6d
            dsimp only at HPn
            by_cases hj5 : j % 5 = 4
            · have hrem : ((j : Int).tmod 5 == 4) = true := by rw [beq_iff_eq, Int.tmod_eq_emod_of_nonneg (by omega)]; omega
              have C3 := Lib.hid (flush_any nb nl nm A4 c4 wt _ HPn.out.wt (by show wt.length ≤ _; omega))
              go_wp2_with fail
              refine C3.out.mono ?_
              rintro e wh ⟨⟨fb, fl, fm, fw⟩, fr, A7, A8, c7, c8, rfl, hfb, hf1, hf2, hfd⟩
              have HSh := Lib.hid (HPn.out.go hfd)
              have HF1 := Lib.hid hf1
              have HF2 := Lib.hid hf2
              have HFB := Lib.hid hfb
              have hfl : fw.length ≤ 20 ∧ fr.length ≤ 20 := by have h9 := flush_len hfb; dsimp only at h9; omega
              have HX27h : Hid (wh.heap[K27]? = some (.cells #[.int .i64 nb, .int .i64 nl, .int .i64 nm, .slice A2 wt.length c2] 24 (0, 0))) := (hfd.block K27 (by show K27 < ((((wf.setCell ⟨K, 0, none⟩ (.int .i64 nb)).setCell ⟨K, 1, none⟩ (.int .i64 nl)).setCell ⟨K, 2, none⟩ (.int .i64 nm)).setCell ⟨K, 3, none⟩ (.slice A4 wt.length c4)).heap.size; simp [World.setCell]; omega)).trans ((set4_other (Ne.symm HKK27.out)).trans HX27f.out)
              have HX30h : Hid (wh.heap[K30]? = some (.cells #[.int .i64 nb, .int .i64 nl, .int .i64 nm, .slice A4 wt.length c4] 24 (0, 0))) := (hfd.block K30 (by show K30 < ((((wf.setCell ⟨K, 0, none⟩ (.int .i64 nb)).setCell ⟨K, 1, none⟩ (.int .i64 nl)).setCell ⟨K, 2, none⟩ (.int .i64 nm)).setCell ⟨K, 3, none⟩ (.slice A4 wt.length c4)).heap.size; simp [World.setCell]; omega)).trans ((set4_other (Ne.symm HKK30.out)).trans HX30f.out)
              have hKh := HSh.out.lK
              have h27h := lt_of_some HX27h.out
              have h30h := lt_of_some HX30h.out
              have HSi := Lib.hid (HSh.out.other HX27h.out HK27W.out HKK27.out (.int .i64 fb) (.int .i64 fl) (.int .i64 fm) (.slice A7 fw.length c7))
              have HF1i := Lib.hid (rv_box HX27h.out (.int .i64 fb) (.int .i64 fl) (.int .i64 fm) (.slice A7 fw.length c7) _ _ _ HF1.out)
              have HF2i := Lib.hid (rv_box HX27h.out (.int .i64 fb) (.int .i64 fl) (.int .i64 fm) (.slice A7 fw.length c7) _ _ _ HF2.out)
              have HX27i := Lib.hid (set4_blk HX27h.out (.int .i64 fb) (.int .i64 fl) (.int .i64 fm) (.slice A7 fw.length c7))
              have C4 := Lib.hid (rflush_any nb nl nm A4 c4 wt _ HSi.out.wt (by show wt.length ≤ _; omega))
              obtain ⟨fe, HFE⟩ : ∃ fe, Hid (flushE ⟨nb, nl, nm, wt⟩ = fe) := ⟨_, rfl⟩
              rw [HFE.out]
              dsimp only
              clear hf1 hf2 hfd hfb C3 HF1 HF2 f0 f1 f2 f3 ff0 ff1 ff2 ff3 q0 q1 q2 q3 qf0 qf1 qf2 qf3
              have sC := Go.Joins.cell_of_block (HSh.out.box)
              have s0 := sC 0; have s1 := sC 1; have s2 := sC 2; have s3 := sC 3
              simp only [List.getElem?_toArray, List.getElem?_cons_succ, List.getElem?_cons_zero] at s0 s1 s2 s3
              have sF := Go.Joins.unfrozen_of_block (HSh.out.box)
              have sf0 := sF 0; have sf1 := sF 1; have sf2 := sF 2; have sf3 := sF 3
              clear sF
              clear sC
              have pC := Go.Joins.cell_of_block (HX27h.out)
              have p0 := pC 0; have p1 := pC 1; have p2 := pC 2; have p3 := pC 3
              simp only [List.getElem?_toArray, List.getElem?_cons_succ, List.getElem?_cons_zero] at p0 p1 p2 p3
              have pF := Go.Joins.unfrozen_of_block (HX27h.out)
              have pf0 := pF 0; have pf1 := pF 1; have pf2 := pF 2; have pf3 := pF 3
              clear pF
              clear pC
              go_wp2_with fail
              clear s0 s1 s2 s3 sf0 sf1 sf2 sf3 p0 p1 p2 p3 pf0 pf1 pf2 pf3
              refine C4.out.mono ?_
              rintro e wj ⟨b9, r9, A9, A10, c9, c10, rfl, hfb9, hf3, hf4, hfj⟩
              rw [← HFB.out] at hfb9
              rw [HFE.out]
              injection hfb9 with h1 h2
              subst h1
              have h3 := h2.symm
              clear h2
              subst h3
              dsimp only
              have hss : wh.heap.size ≤ wj.heap.size := by have h9 := hfj.size; simpa [World.setCell] using h9
              have HX27j : Hid (wj.heap[K27]? = some (.cells #[.int .i64 fb, .int .i64 fl, .int .i64 fm, .slice A7 fw.length c7] 24 (0, 0))) := (hfj.block K27 (by show K27 < ((((wh.setCell ⟨K27, 0, none⟩ (.int .i64 fb)).setCell ⟨K27, 1, none⟩ (.int .i64 fl)).setCell ⟨K27, 2, none⟩ (.int .i64 fm)).setCell ⟨K27, 3, none⟩ (.slice A7 fw.length c7)).heap.size; simp [World.setCell]; omega)).trans HX27i.out
              have HX30j : Hid (wj.heap[K30]? = some (.cells #[.int .i64 nb, .int .i64 nl, .int .i64 nm, .slice A4 wt.length c4] 24 (0, 0))) := (hfj.block K30 (by show K30 < ((((wh.setCell ⟨K27, 0, none⟩ (.int .i64 fb)).setCell ⟨K27, 1, none⟩ (.int .i64 fl)).setCell ⟨K27, 2, none⟩ (.int .i64 fm)).setCell ⟨K27, 3, none⟩ (.slice A7 fw.length c7)).heap.size; simp [World.setCell]; omega)).trans ((set4_other (Ne.symm HK2730.out)).trans HX30h.out)
              have HSj := Lib.hid (HSi.out.go hfj)
              have hKj := HSj.out.lK
              have h27j := lt_of_some HX27j.out
              have h30j := lt_of_some HX30j.out
              have HSk := Lib.hid (HSj.out.other HX30j.out HK30W.out HKK30.out (.int .i64 fb) (.int .i64 fl) (.int .i64 fm) (.slice A9 fw.length c9))
              have G1 := Lib.hid (rv_box HX30j.out (.int .i64 fb) (.int .i64 fl) (.int .i64 fm) (.slice A9 fw.length c9) _ _ _ (HF1i.out.up hfj))
              have G2 := Lib.hid (rv_box HX30j.out (.int .i64 fb) (.int .i64 fl) (.int .i64 fm) (.slice A9 fw.length c9) _ _ _ (HF2i.out.up hfj))
              have G3 := Lib.hid (rv_box HX30j.out (.int .i64 fb) (.int .i64 fl) (.int .i64 fm) (.slice A9 fw.length c9) _ _ _ hf3)
              have G4 := Lib.hid (rv_box HX30j.out (.int .i64 fb) (.int .i64 fl) (.int .i64 fm) (.slice A9 fw.length c9) _ _ _ hf4)
              have C5 := Lib.hid (sameB_any fb fl fm A7 A9 c7 c9 fw _ G1.out G3.out (by omega))
              clear hf3 hf4 hfj C4 HX27i HX30h HX27h h27h h30h hKh
              have pC := Go.Joins.cell_of_block (HX27j.out)
              have p0 := pC 0; have p1 := pC 1; have p2 := pC 2; have p3 := pC 3
              simp only [List.getElem?_toArray, List.getElem?_cons_succ, List.getElem?_cons_zero] at p0 p1 p2 p3
              have pF := Go.Joins.unfrozen_of_block (HX27j.out)
              have pf0 := pF 0; have pf1 := pF 1; have pf2 := pF 2; have pf3 := pF 3
              clear pF
              clear pC
              have qC := Go.Joins.cell_of_block (HX30j.out)
              have q0 := qC 0; have q1 := qC 1; have q2 := qC 2; have q3 := qC 3
              simp only [List.getElem?_toArray, List.getElem?_cons_succ, List.getElem?_cons_zero] at q0 q1 q2 q3
              have qF := Go.Joins.unfrozen_of_block (HX30j.out)
              have qf0 := qF 0; have qf1 := qF 1; have qf2 := qF 2; have qf3 := qF 3
              clear qF
              clear qC
              go_wp2_with fail
              clear p0 p1 p2 p3 pf0 pf1 pf2 pf3 q0 q1 q2 q3 qf0 qf1 qf2 qf3
              refine C5.out.mono ?_
              rintro e wl ⟨rfl, hl1⟩
              have HSl := Lib.hid (HSk.out.go hl1)
              have C6 := Lib.hid (same_any A8 A10 c8 c10 fr wl (G2.out.up hl1) (G4.out.up hl1) (by omega))
              clear hl1 C5 G1 G2 G3 G4
              go_wp2_with fail
              refine C6.out.mono ?_
              rintro e wm ⟨rfl, hm1⟩
              have HSm := Lib.hid (HSl.out.go hm1)
              clear hm1 C6
              go_wp2
              go_roundw
              case rel => exact ⟨j + 1, _, A4, c4, by go_num, by omega, HSm.out⟩
              case measure => simp [RowKit.intOf]; try omega
            · have hrem : ((j : Int).tmod 5 == 4) = false := by rw [beq_eq_false_iff_ne, Int.tmod_eq_emod_of_nonneg (by omega)]; omega
              go_wp2
              go_roundw
              case rel => exact ⟨j + 1, _, A4, c4, by go_num, by omega, HPn.out⟩
              case measure => simp [RowKit.intOf]; try omega
          · obtain rfl : j = N2 := by omega
            have HRw := Lib.hid (HR0.out.up HS.out.bel)
            have HZr := Lib.hid HS.out.bel
            clear HS hwl hKl a0 a1 a2 a3 hlt hj
            have rbwr := (HZr.out.block R (by rw [HS1.out]; omega)).trans HN.out.1
            have rlwr := lt_of_some rbwr
            have rC := Go.Joins.cell_of_block (rbwr)
            have r0 := rC 0; have r1 := rC 1; have r2 := rC 2; have r3 := rC 3
            simp only [List.getElem?_toArray, List.getElem?_cons_succ, List.getElem?_cons_zero] at r0 r1 r2 r3
            clear rC
            have vbwr := (HZr.out.block (R + 1) (by rw [HS1.out]; omega)).trans HN.out.2.1
            have vlwr := lt_of_some vbwr
            have vC := Go.Joins.cell_of_block (vbwr)
            have v0 := vC 0; have v1 := vC 1; have v2 := vC 2; have v3 := vC 3; have v4 := vC 4; have v5 := vC 5; have v6 := vC 6
            simp only [List.getElem?_toArray, List.getElem?_cons_succ, List.getElem?_cons_zero] at v0 v1 v2 v3 v4 v5 v6
            clear vC
            clear rbwr vbwr
            have C1 := Lib.hid (pushB_any n0 L0 M0 A0 c0 l0 rk rt ru rv rx ry rz wr HRw.out (by have := HL0.out; omega))
            go_wp2_with fail
            refine C1.out.mono ?_
            rintro e wa ⟨⟨pb, pl, pm, pw⟩, pr, A2, A3, c2, c3, rfl, hbr, ho2, hr3, ha⟩
            have HQ2 := Lib.hid ho2.rv
            have HQ3 := Lib.hid hr3.1
            have HBR := Lib.hid hbr
            have hpl : pw.length ≤ 100 ∧ pr.length ≤ 100 := by have h8 := push_len hbr; have h9 := push_rlen hbr; have := HL0.out; dsimp only at h8 h9; omega
            have HZa : Hid (Below W1.heap.size W1 wa) := HZr.out.trans (ha.mono HZr.out.size)
            have HRa := Lib.hid (HRw.out.up ha)
            clear ho2 hr3 hbr ha C1 r0 r1 r2 r3 v0 v1 v2 v3 v4 v5 v6 rlwr vlwr
            dsimp only
            obtain ⟨pe, HPE⟩ : ∃ pe, Hid (Rd.pushE ⟨n0, L0, M0, l0⟩ ⟨rk, rt, ru, rv, rx, ry, rz⟩ = pe) := ⟨_, rfl⟩
            rw [HPE.out] at HBR ⊢
            have rbwa := (HZa.out.block R (by rw [HS1.out]; omega)).trans HN.out.1
            have rlwa := lt_of_some rbwa
            have rC := Go.Joins.cell_of_block (rbwa)
            have r0 := rC 0; have r1 := rC 1; have r2 := rC 2; have r3 := rC 3
            simp only [List.getElem?_toArray, List.getElem?_cons_succ, List.getElem?_cons_zero] at r0 r1 r2 r3
            clear rC
            have vbwa := (HZa.out.block (R + 1) (by rw [HS1.out]; omega)).trans HN.out.2.1
            have vlwa := lt_of_some vbwa
            have vC := Go.Joins.cell_of_block (vbwa)
            have v0 := vC 0; have v1 := vC 1; have v2 := vC 2; have v3 := vC 3; have v4 := vC 4; have v5 := vC 5; have v6 := vC 6
            simp only [List.getElem?_toArray, List.getElem?_cons_succ, List.getElem?_cons_zero] at v0 v1 v2 v3 v4 v5 v6
            clear vC
            clear rbwa vbwa
            obtain ⟨K33, HK33⟩ : ∃ K33, Hid (wa.heap.size = K33) := ⟨_, rfl⟩
            obtain ⟨wb, HWwb⟩ : ∃ wb, Hid (wa.alloc (.cells #[.int .i64 pb, .int .i64 pl, .int .i64 pm, .slice A2 pw.length c2] 24) = wb) := ⟨_, rfl⟩
            have HBBwb : Hid (Below wa.heap.size wa wb) := by show Below _ _ _; rw [← HWwb.out]; exact below_new _ _
            have HXwb : Hid (wb.heap[K33]? = some (.cells #[.int .i64 pb, .int .i64 pl, .int .i64 pm, .slice A2 pw.length c2] 24 (0, 0))) := by show _ = _; rw [← HWwb.out, ← HK33.out]; exact heap_alloc_new _ _
            have C2 := Lib.hid (rpush_any n0 L0 M0 A0 c0 l0 rk rt ru rv rx ry rz wb (HRa.out.up HBBwb.out) (by have := HL0.out; omega))
            go_wp2_with fail
            rw [HWwb.out]
            simp only [HK33.out]
            refine C2.out.mono ?_
            rintro e wc ⟨b9, r9, A4, A6, c4, c6, rfl, hbr9, ho4, hr6, hc⟩
            rw [HPE.out] at hbr9 ⊢
            rw [← HBR.out] at hbr9
            injection hbr9 with h1 h2
            subst h1
            have h3 := h2.symm
            clear h2
            subst h3
            dsimp only
            have HQ4 := Lib.hid ho4.rv
            have HQ6 := Lib.hid hr6.1
            have HBbc := Lib.hid hc
            have HZc : Hid (Below W1.heap.size W1 wc) := HZa.out.trans ((HBBwb.out.trans (hc.mono HBBwb.out.size)).mono HZa.out.size)
            have HRcc := Lib.hid ((HRa.out.up HBBwb.out).up hc)
            clear ho4 hr6 hc C2 r0 r1 r2 r3 v0 v1 v2 v3 v4 v5 v6 rlwa vlwa
            have rbwc := (HZc.out.block R (by rw [HS1.out]; omega)).trans HN.out.1
            have rlwc := lt_of_some rbwc
            have rC := Go.Joins.cell_of_block (rbwc)
            have r0 := rC 0; have r1 := rC 1; have r2 := rC 2; have r3 := rC 3
            simp only [List.getElem?_toArray, List.getElem?_cons_succ, List.getElem?_cons_zero] at r0 r1 r2 r3
            clear rC
            clear rbwc
            obtain ⟨K36, HK36⟩ : ∃ K36, Hid (wc.heap.size = K36) := ⟨_, rfl⟩
            obtain ⟨wd, HWwd⟩ : ∃ wd, Hid (wc.alloc (.cells #[.int .i64 pb, .int .i64 pl, .int .i64 pm, .slice A4 pw.length c4] 24) = wd) := ⟨_, rfl⟩
            have HBBwd : Hid (Below wc.heap.size wc wd) := by show Below _ _ _; rw [← HWwd.out]; exact below_new _ _
            have HXwd : Hid (wd.heap[K36]? = some (.cells #[.int .i64 pb, .int .i64 pl, .int .i64 pm, .slice A4 pw.length c4] 24 (0, 0))) := by show _ = _; rw [← HWwd.out, ← HK36.out]; exact heap_alloc_new _ _
            have C3 := Lib.hid (flush_any n0 L0 M0 A0 c0 l0 wd (HRcc.out.up HBBwd.out) (by have := HL0.out; omega))
            go_wp2_with fail
            rw [HWwd.out]
            simp only [HK36.out]
            refine C3.out.mono ?_
            rintro e we ⟨⟨fb, fl, fm, fw⟩, fr, A7, A8, c7, c8, rfl, hfb, hf1, hf2, hfe⟩
            have HF1 := Lib.hid hf1
            have HF2 := Lib.hid hf2
            have HFB := Lib.hid hfb
            have HBde := Lib.hid hfe
            have hfl : fw.length ≤ 100 ∧ fr.length ≤ 100 := by have h9 := flush_len hfb; have := HL0.out; dsimp only at h9; omega
            have HZe : Hid (Below W1.heap.size W1 we) := HZc.out.trans ((HBBwd.out.trans (hfe.mono HBBwd.out.size)).mono HZc.out.size)
            have HRee := Lib.hid ((HRcc.out.up HBBwd.out).up hfe)
            obtain ⟨fe, HFE⟩ : ∃ fe, Hid (flushE ⟨n0, L0, M0, l0⟩ = fe) := ⟨_, rfl⟩
            rw [HFE.out]
            dsimp only
            clear hf1 hf2 hfb hfe C3 r0 r1 r2 r3 rlwc
            have rbwe := (HZe.out.block R (by rw [HS1.out]; omega)).trans HN.out.1
            have rlwe := lt_of_some rbwe
            have rC := Go.Joins.cell_of_block (rbwe)
            have r0 := rC 0; have r1 := rC 1; have r2 := rC 2; have r3 := rC 3
            simp only [List.getElem?_toArray, List.getElem?_cons_succ, List.getElem?_cons_zero] at r0 r1 r2 r3
            clear rC
            clear rbwe
            obtain ⟨K39, HK39⟩ : ∃ K39, Hid (we.heap.size = K39) := ⟨_, rfl⟩
            obtain ⟨wf, HWwf⟩ : ∃ wf, Hid (we.alloc (.cells #[.int .i64 fb, .int .i64 fl, .int .i64 fm, .slice A7 fw.length c7] 24) = wf) := ⟨_, rfl⟩
            have HBBwf : Hid (Below we.heap.size we wf) := by show Below _ _ _; rw [← HWwf.out]; exact below_new _ _
            have HXwf : Hid (wf.heap[K39]? = some (.cells #[.int .i64 fb, .int .i64 fl, .int .i64 fm, .slice A7 fw.length c7] 24 (0, 0))) := by show _ = _; rw [← HWwf.out, ← HK39.out]; exact heap_alloc_new _ _
            have C4 := Lib.hid (rflush_any n0 L0 M0 A0 c0 l0 wf (HRee.out.up HBBwf.out) (by have := HL0.out; omega))
            go_wp2_with fail
            rw [HWwf.out]
            simp only [HK39.out]
            refine C4.out.mono ?_
            rintro e wg ⟨b9, r9, A9, A10, c9, c10, rfl, hfb9, hf3, hf4, hg⟩
            rw [← HFB.out] at hfb9
            rw [HFE.out]
            injection hfb9 with h1 h2
            subst h1
            have h3 := h2.symm
            clear h2
            subst h3
            dsimp only
            have HF3 := Lib.hid hf3
            have HF4 := Lib.hid hf4
            have HBfg := Lib.hid hg
            have HZg : Hid (Below W1.heap.size W1 wg) := HZe.out.trans ((HBBwf.out.trans (hg.mono HBBwf.out.size)).mono HZe.out.size)
            clear hf3 hf4 hg C4 r0 r1 r2 r3 rlwe
            obtain ⟨K42, HK42⟩ : ∃ K42, Hid (wg.heap.size = K42) := ⟨_, rfl⟩
            obtain ⟨wh, HWwh⟩ : ∃ wh, Hid (wg.alloc (.cells #[.int .i64 fb, .int .i64 fl, .int .i64 fm, .slice A9 fw.length c9] 24) = wh) := ⟨_, rfl⟩
            have HBBwh : Hid (Below wg.heap.size wg wh) := by show Below _ _ _; rw [← HWwh.out]; exact below_new _ _
            have HXwh : Hid (wh.heap[K42]? = some (.cells #[.int .i64 fb, .int .i64 fl, .int .i64 fm, .slice A9 fw.length c9] 24 (0, 0))) := by show _ = _; rw [← HWwh.out, ← HK42.out]; exact heap_alloc_new _ _
            have HBfh : Hid (Below wf.heap.size wf wh) := HBfg.out.trans (HBBwh.out.mono HBfg.out.size)
            have HBeh : Hid (Below we.heap.size we wh) := HBBwf.out.trans (HBfh.out.mono HBBwf.out.size)
            have HBdh : Hid (Below wd.heap.size wd wh) := HBde.out.trans (HBeh.out.mono HBde.out.size)
            have HBch : Hid (Below wc.heap.size wc wh) := HBBwd.out.trans (HBdh.out.mono HBBwd.out.size)
            have HBbh : Hid (Below wb.heap.size wb wh) := HBbc.out.trans (HBch.out.mono HBbc.out.size)
            have HBah : Hid (Below wa.heap.size wa wh) := HBBwb.out.trans (HBbh.out.mono HBBwb.out.size)
            have HZh : Hid (Below W1.heap.size W1 wh) := HZa.out.trans (HBah.out.mono HZa.out.size)
            have HRh := Lib.hid (HRa.out.up HBah.out)
            have HX33 : Hid (wh.heap[K33]? = some (.cells #[.int .i64 pb, .int .i64 pl, .int .i64 pm, .slice A2 pw.length c2] 24 (0, 0))) := (HBbh.out.block K33 (lt_of_some HXwb.out)).trans HXwb.out
            have HX36 : Hid (wh.heap[K36]? = some (.cells #[.int .i64 pb, .int .i64 pl, .int .i64 pm, .slice A4 pw.length c4] 24 (0, 0))) := (HBdh.out.block K36 (lt_of_some HXwd.out)).trans HXwd.out
            have HX39 : Hid (wh.heap[K39]? = some (.cells #[.int .i64 fb, .int .i64 fl, .int .i64 fm, .slice A7 fw.length c7] 24 (0, 0))) := (HBfh.out.block K39 (lt_of_some HXwf.out)).trans HXwf.out
            have HX42 : Hid (wh.heap[K42]? = some (.cells #[.int .i64 fb, .int .i64 fl, .int .i64 fm, .slice A9 fw.length c9] 24 (0, 0))) := HXwh.out
            have HQ2h := Lib.hid (HQ2.out.up HBah.out)
            have HQ3h := Lib.hid (HQ3.out.up HBah.out)
            have HQ4h := Lib.hid (HQ4.out.up HBch.out)
            have HQ6h := Lib.hid (HQ6.out.up HBch.out)
            have HF1h := Lib.hid (HF1.out.up HBeh.out)
            have HF2h := Lib.hid (HF2.out.up HBeh.out)
            have HF3h := Lib.hid (HF3.out.up HBBwh.out)
            have HF4h := Lib.hid (HF4.out.up HBBwh.out)
            have CV1 : Hid (∀ x' : More wh, Calls Try.prog 19 #[.agg #[.int .i64 n0, .int .i64 L0, .int .i64 M0, .slice A0 l0.length c0]] (over wh x') fun e w' => e = .returned (.bool (decide (Rd.V ⟨n0, L0, M0, l0⟩))) ∧ Below (over wh x').heap.size (over wh x') w') :=
              fun x' => valid_any n0 L0 M0 A0 c0 l0 _ (HRh.out.up (over_below _ x')) (by have := HL0.out; omega)
            have CV2 : Hid (∀ x' : More wh, Calls Try.prog 20 #[.agg #[.int .i64 n0, .int .i64 L0, .int .i64 M0, .slice A0 l0.length c0]] (over wh x') fun e w' => e = .returned (.bool (decide (Rd.V ⟨n0, L0, M0, l0⟩))) ∧ Below (over wh x').heap.size (over wh x') w') :=
              fun x' => rvalid_any n0 L0 M0 A0 c0 l0 _ (HRh.out.up (over_below _ x')) (by have := HL0.out; omega)
            have CS1 : Hid (∀ x' : More wh, Calls Try.prog 13 #[.agg #[.int .i64 pb, .int .i64 pl, .int .i64 pm, .slice A2 pw.length c2], .agg #[.int .i64 pb, .int .i64 pl, .int .i64 pm, .slice A4 pw.length c4]] (over wh x') fun e w' => e = .returned (.bool true) ∧ Below (over wh x').heap.size (over wh x') w') :=
              fun x' => sameB_any pb pl pm A2 A4 c2 c4 pw _ (HQ2h.out.up (over_below _ x')) (HQ4h.out.up (over_below _ x')) (by omega)
            have CE1 : Hid (∀ x' : More wh, Calls Try.prog 16 #[.slice A3 pr.length c3, .slice A6 pr.length c6] (over wh x') fun e w' => e = .returned (.bool true) ∧ Below (over wh x').heap.size (over wh x') w') :=
              fun x' => same_any A3 A6 c3 c6 pr _ (HQ3h.out.up (over_below _ x')) (HQ6h.out.up (over_below _ x')) (by omega)
            have CS2 : Hid (∀ x' : More wh, Calls Try.prog 13 #[.agg #[.int .i64 fb, .int .i64 fl, .int .i64 fm, .slice A7 fw.length c7], .agg #[.int .i64 fb, .int .i64 fl, .int .i64 fm, .slice A9 fw.length c9]] (over wh x') fun e w' => e = .returned (.bool true) ∧ Below (over wh x').heap.size (over wh x') w') :=
              fun x' => sameB_any fb fl fm A7 A9 c7 c9 fw _ (HF1h.out.up (over_below _ x')) (HF3h.out.up (over_below _ x')) (by omega)
            have CE2 : Hid (∀ x' : More wh, Calls Try.prog 16 #[.slice A8 fr.length c8, .slice A10 fr.length c10] (over wh x') fun e w' => e = .returned (.bool true) ∧ Below (over wh x').heap.size (over wh x') w') :=
              fun x' => same_any A8 A10 c8 c10 fr _ (HF2h.out.up (over_below _ x')) (HF4h.out.up (over_below _ x')) (by omega)
            have CW : Hid (∀ x' : More wh, Calls Try.prog 7 #[] (over wh x') fun e w' => e = .returned (.bool true) ∧ Below (over wh x').heap.size (over wh x') w') := fun x' => awake_any _
            generalize decide (Rd.V ⟨n0, L0, M0, l0⟩) = VB at CV1 CV2
            go_wp2_with fail
            rw [HWwh.out]
            simp only [HK42.out]
            clear HQ2 HQ3 HQ4 HQ6 HF1 HF2 HF3 HF4 HQ2h HQ3h HQ4h HQ6h HF1h HF2h HF3h HF4h HBR HFB HPE HFE HRa HRcc HRee HRw HRh HBBwb HBBwd HBBwf HBBwh HBbc HBde HBfg HBfh HBeh HBdh HBch HBbh HBah HXwb HXwd HXwf HXwh HWwb HWwd HWwf HWwh HK33 HK36 HK39 HK42 HZr HZa HZc HZe HZg hpl hfl HR0 HL2 HN2 HNN HLL HL0 HBb HWB1 HWC2 hll14 HB1 HB2 HB3 HB4 HZ4 HZ4a HBL
            have h33 := lt_of_some HX33.out
            have h36 := lt_of_some HX36.out
            have h39 := lt_of_some HX39.out
            have h42 := lt_of_some HX42.out
            have rbwh := (HZh.out.block R (by rw [HS1.out]; omega)).trans HN.out.1
            have rlwh := lt_of_some rbwh
            have rC := Go.Joins.cell_of_block (rbwh)
            have r0 := rC 0; have r1 := rC 1; have r2 := rC 2; have r3 := rC 3
            simp only [List.getElem?_toArray, List.getElem?_cons_succ, List.getElem?_cons_zero] at r0 r1 r2 r3
            clear rC
            clear rbwh
            have paC := Go.Joins.cell_of_block (HX33.out)
            have pa0 := paC 0; have pa1 := paC 1; have pa2 := paC 2; have pa3 := paC 3
            simp only [List.getElem?_toArray, List.getElem?_cons_succ, List.getElem?_cons_zero] at pa0 pa1 pa2 pa3
            clear paC
            have pqC := Go.Joins.cell_of_block (HX36.out)
            have pq0 := pqC 0; have pq1 := pqC 1; have pq2 := pqC 2; have pq3 := pqC 3
            simp only [List.getElem?_toArray, List.getElem?_cons_succ, List.getElem?_cons_zero] at pq0 pq1 pq2 pq3
            clear pqC
            have pfC := Go.Joins.cell_of_block (HX39.out)
            have pf0 := pfC 0; have pf1 := pfC 1; have pf2 := pfC 2; have pf3 := pfC 3
            simp only [List.getElem?_toArray, List.getElem?_cons_succ, List.getElem?_cons_zero] at pf0 pf1 pf2 pf3
            clear pfC
            have pgC := Go.Joins.cell_of_block (HX42.out)
            have pg0 := pgC 0; have pg1 := pgC 1; have pg2 := pgC 2; have pg3 := pgC 3
            simp only [List.getElem?_toArray, List.getElem?_cons_succ, List.getElem?_cons_zero] at pg0 pg1 pg2 pg3
            clear pgC
            refine wp_region_over (by kernel_rfl) (by kernel_rfl) ?_
            iterate 39 (go_big_quiet_step (first | (go_at_call 13; first | (with_reducible exact calls_over (CS1.out _)) | exact calls_over (CS2.out _)) | (go_at_call 16; first | (with_reducible exact calls_over (CE1.out _)) | exact calls_over (CE2.out _)) | (go_at_call 19; exact calls_over (CV1.out _)) | (go_at_call 20; exact calls_over (CV2.out _)) | (go_at_call 7; exact calls_over (CW.out _))))
            refine wpQuiet_nil ?_
            rintro _ ⟨zz, rfl⟩
            have hbz := Lib.hid (over_below _ zz)
            generalize over wh zz = wy at hbz ⊢
            have HFI : Hid (Below W.heap.size W wy) := HB0.out.trans ((HZh.out.trans (hbz.out.mono HZh.out.size)).mono HB0.out.size)
            clear CV1 CV2 CS1 CS2 CE1 CE2 CW r0 r1 r2 r3 rlwh pa0 pa1 pa2 pa3 pq0 pq1 pq2 pq3 pf0 pf1 pf2 pf3 pg0 pg1 pg2 pg3 h33 h36 h39 h42
            go_wp2
            go_ret
            exact ⟨rfl, HFI.out⟩
end Go.Proofs.Ytgdhjllfdndmnaa
