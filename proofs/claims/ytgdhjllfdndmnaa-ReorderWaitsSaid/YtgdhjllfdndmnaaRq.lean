/-
  ReorderWaits: the walk of the law.
-/
import Derived.Test.YtgdhjllfdndmnaaRn
namespace Go.Proofs.Ytgdhjllfdndmnaa
open Go.RowKit Go.Lib

/-- what is known in the loop: the buffer's box, what waits, the list, the run -/
structure WS (W : World) (K : Nat) (k : Int) (l : List Ev) (Al : Option Addr) (cl' : Nat) (b : Rd.Bf) (A1 : Option Addr) (c1 : Nat) (j : Nat) (w : World) : Prop where
  box : w.heap[K]? = some (.cells #[.int .i64 b.bound, .int .i64 b.latest, .int .i64 b.mark, .slice A1 b.wait.length c1] 24 (0, 0))
  wt : RV w.heap.size w A1 c1 b.wait
  li : RV w.heap.size w Al cl' l
  run : ∃ out tk, Rd.Run k b out tk ∧ tk.length ≤ j
  bel : Below W.heap.size W w
  hK : W.heap.size ≤ K
section
variable {W w w' : World} {K j cl' c1 c2 : Nat} {k : Int} {l : List Ev} {Al A1 A2 : Option Addr} {b b' : Rd.Bf}
theorem WS.lK (h : WS W K k l Al cl' b A1 c1 j w) : K < w.heap.size := lt_of_some h.box
theorem WS.go (h : WS W K k l Al cl' b A1 c1 j w) (hb : Below w.heap.size w w') : WS W K k l Al cl' b A1 c1 j w' :=
  ⟨(hb.block K h.lK).trans h.box, h.wt.up hb, h.li.up hb, h.run, h.bel.trans (hb.mono h.bel.size), h.hK⟩
theorem WS.put (h : WS W K k l Al cl' b A1 c1 j w) (hw : RV w.heap.size w A2 c2 b'.wait) (hr : ∃ out tk, Rd.Run k b' out tk ∧ tk.length ≤ j + 1) :
    WS W K k l Al cl' b' A2 c2 (j + 1) ((((w.setCell ⟨K, 0, none⟩ (.int .i64 b'.bound)).setCell ⟨K, 1, none⟩ (.int .i64 b'.latest)).setCell ⟨K, 2, none⟩ (.int .i64 b'.mark)).setCell ⟨K, 3, none⟩ (.slice A2 b'.wait.length c2)) :=
  ⟨set4_blk h.box _ _ _ _, rv_box h.box _ _ _ _ _ _ _ hw, rv_box h.box _ _ _ _ _ _ _ h.li, hr, below_set4 h.bel h.hK _ _ _ _, h.hK⟩
theorem WS.len (h : WS W K k l Al cl' b A1 c1 j w) : b.wait.length ≤ j := by
  obtain ⟨out, tk, hr, hl⟩ := h.run
  have := Rd.run_len hr
  omega
end
set_option maxHeartbeats 8000000 in
set_option maxRecDepth 100000 in
theorem waits_law (A : Option Addr) (c : Nat) (L : List Int) (bound : Int) (W : World) (h : RD W A c L) (hL : L.length ≤ 17592186044416) :
    Calls Try.prog 6 #[.slice A L.length c, .int .i64 bound] W fun e W' => e = .returned (.bool true) ∧ Below W.heap.size W W' := by
  have CN := Lib.hid (new_any A c L W h)
  clear h
  go_enter Try.func6, Try.ntmps6
  go_wp2_with fail
  refine CN.out.mono ?_
  rintro e w1 ⟨rfl, D1, hb1⟩
  have HD1 := Lib.hid D1
  have HB1 := Lib.hid hb1
  clear D1 hb1 CN
  go_wp2_with fail
  refine (mod_any bound 6 _ (by decide) (by decide)).mono ?_
  rintro e w2 ⟨rfl, h3⟩
  subst h3
  have hk : 0 ≤ (bound.tmod 6 + 6) % 6 ∧ (bound.tmod 6 + 6) % 6 < 6 := by omega
  generalize (bound.tmod 6 + 6) % 6 = k at hk ⊢
  have hok : okB k = true := by simp [okB]; omega
  have e1 : openB k = ⟨k, -1, -1, []⟩ := by rw [openB, if_pos hok]; rfl
  have e2 : openE k = 0 := by rw [openE, if_pos hok]
  go_wp2_with fail
  refine (open_any k _).mono ?_
  rintro e w3 ⟨rfl, hb3⟩
  rw [e1, e2]
  dsimp only
  clear e1 e2 hok
  obtain ⟨K, HK⟩ : ∃ K, Hid (w3.heap.size = K) := ⟨_, rfl⟩
  obtain ⟨W4, HW4⟩ : ∃ W4, Hid (w3.alloc (.cells #[.int .i64 k, .int .i64 (-1), .int .i64 (-1), .slice none 0 0] 24) = W4) := ⟨_, rfl⟩
  have HB34 : Hid (Below w3.heap.size w3 W4) := by show Below _ _ _; rw [← HW4.out]; exact below_new _ _
  have HB14 : Hid (Below w1.heap.size w1 W4) := hb3.trans (HB34.out.mono hb3.size)
  have HD4 := Lib.hid (HD1.out.go HB14.out)
  have hgK : W.heap.size < K := by have := HD1.out.lt; have := hb3.size; have := HK.out; omega
  have HKb : Hid (W4.heap[K]? = some (.cells #[.int .i64 k, .int .i64 (-1), .int .i64 (-1), .slice none 0 0] 24 (0, 0))) := by show _ = _; rw [← HW4.out, ← HK.out]; exact heap_alloc_new _ _
  clear hb3 HD1
  go_wp2_with fail
  rw [HW4.out]
  simp only [HK.out]
  refine (mixed_any W.heap.size W.heap.size A c L 0 6 15 W4 HD4.out hL (by decide) (by decide)).mono ?_
  rintro e w5 ⟨l, Al, cl', m2, rfl, hll, hlv, ho, hd, hg⟩
  have HLV := Lib.hid hlv
  have HLL := Lib.hid hll
  have HB4 : Hid (Below W.heap.size W W4) := HB1.out.trans (HB14.out.mono HB1.out.size)
  have HW0 : Hid (WS W K k l Al cl' (Rd.opened k) none 0 0 w5) :=
    ⟨(hg.block K (lt_of_some HKb.out) (fun e => by injection e with e; omega)).trans HKb.out, RX.nil_ _ _ _ _, RX.of_own ho, ⟨[], [], Rd.run_start (by omega) (by omega), Nat.le_refl _⟩, HB4.out.grown hg HB4.out.size (fun q hq => by injection hq with hq; omega), by omega⟩
  have HKK := Lib.hid hk
  clear hlv ho hd hg HD4 HKb hgK hk
  go_wp2_with fail
  go_loopw [9, 31] (fun sl i wr => ∃ (j : Nat) (b : Rd.Bf) (A1 : Option Addr) (c1 : Nat), sl = .int .i64 b.latest ∧ i = .int .i64 j ∧ j ≤ l.length ∧ Hid (WS W K k l Al cl' b A1 c1 j wr)) (fun _ i _ => l.length - (RowKit.intOf i).toNat)
  case atStart => exact ⟨0, Rd.opened k, none, 0, rfl, rfl, Nat.zero_le _, HW0.out⟩
  case round =>
    clear HW0 HW4 HK HB34 HB14
    obtain ⟨j, ⟨n, Lt, M, wq⟩, A1, c1, rfl, rfl, hj, HS⟩ := hrel
    have hKl := HS.out.lK
    have hwl := HS.out.len
    dsimp only at hwl
    have aC := Go.Joins.cell_of_block (HS.out.box)
    have a0 := aC 0; have a1 := aC 1; have a2 := aC 2; have a3 := aC 3
    simp only [List.getElem?_toArray, List.getElem?_cons_succ, List.getElem?_cons_zero] at a0 a1 a2 a3
    clear aC
    by_cases hlt : j < l.length
    · obtain ⟨bb, off, ⟨k1, t1, u1, v1, x1, y1, z1⟩, rfl, hbb, ha, d0, d1, d2, d3, d4, d5, d6⟩ := RV.at_ HS.out.li hlt
      dsimp only at d0 d1 d2 d3 d4 d5 d6
      have HCE : Hid (chkE (⟨k1, t1, u1, v1, x1, y1, z1⟩ : Ev) = 0) := HLV.out _ (List.mem_of_getElem? ha)
      have HSa := Lib.hid (HS.out.go (below_new wr (.cells #[.int .i64 k1, .int .i64 t1, .int .i64 u1, .int .i64 v1, .int .i64 x1, .int .i64 y1, .int .i64 z1] 26)))
      have CP := Lib.hid (pushB_any n Lt M A1 c1 wq k1 t1 u1 v1 x1 y1 z1 _ HSa.out.wt (by omega))
      have hwl2 := Lib.hid hwl
      have hwq : wq.length < 4096 := by omega
      obtain ⟨out, tk, hRun, htk⟩ := HS.out.run
      have HMK : Hid ((t1 ≤ M ∧ Rd.pushE ⟨n, Lt, M, wq⟩ ⟨k1, t1, u1, v1, x1, y1, z1⟩ = 10) ∨ (M < t1 ∧ Rd.pushE ⟨n, Lt, M, wq⟩ ⟨k1, t1, u1, v1, x1, y1, z1⟩ = 0)) := by
        rcases Int.lt_or_le M t1 with h9 | h9
        · exact .inr ⟨h9, Rd.pushE_ok hRun.v HCE.out (by dsimp only; omega) hwq⟩
        · exact .inl ⟨h9, Rd.pushE_late hRun.v HCE.out h9⟩
      have HRun := Lib.hid hRun
      have HTK := Lib.hid htk
      clear ha hwl hwq hRun htk
      go_wp2_with fail
      refine CP.out.mono ?_
      rintro e wb ⟨⟨nb, nl, nm, wt⟩, r, A2, A3, c2, c3, rfl, hbr', ho2, hr3, hb⟩
      obtain ⟨e0, e1, e2, e3, e4, e5, e6⟩ := box7 hb
      have HSb := Lib.hid (HSa.out.go hb)
      have hszb : wr.heap.size < wb.heap.size := by have := hb.size; simp at this; omega
      have HRb := Lib.hid ho2.rv
      have HBR := Lib.hid hbr'
      clear hb ho2 hr3 hbr' CP d0 d1 d2 d3 d4 d5 d6 a0 a1 a2 a3 hKl
      dsimp only
      obtain ⟨K3, HK3⟩ : ∃ K3, Hid (wb.heap.size = K3) := ⟨_, rfl⟩
      obtain ⟨wc, HWC⟩ : ∃ wc, Hid (wb.alloc (.cells #[.int .i64 nb, .int .i64 nl, .int .i64 nm, .slice A2 wt.length c2] 24) = wc) := ⟨_, rfl⟩
      have HBC : Hid (Below wb.heap.size wb wc) := by show Below _ _ _; rw [← HWC.out]; exact below_new _ _
      have HKc : Hid (wc.heap[K3]? = some (.cells #[.int .i64 nb, .int .i64 nl, .int .i64 nm, .slice A2 wt.length c2] 24 (0, 0))) := by show _ = _; rw [← HWC.out, ← HK3.out]; exact heap_alloc_new _ _
      have HSc := Lib.hid (HSb.out.go HBC.out)
      have HRc := Lib.hid (HRb.out.up HBC.out)
      have HCTm := Lib.hid (chk_time HCE.out)
      generalize hpe : Rd.pushE ⟨n, Lt, M, wq⟩ ⟨k1, t1, u1, v1, x1, y1, z1⟩ = pe at HMK HBR ⊢
      have HCASE : Hid ((pe = 10 ∧ nl = Lt ∧ (∃ out tk, Rd.Run k ⟨nb, nl, nm, wt⟩ out tk ∧ tk.length ≤ j + 1)) ∨ (pe = 0 ∧ nl = max Lt t1 ∧ (∃ out tk, Rd.Run k ⟨nb, nl, nm, wt⟩ out tk ∧ tk.length ≤ j + 1))) := by
        rcases HMK.out with ⟨h1, h2⟩ | ⟨h1, h2⟩
        · left
          have hbe := HBR.out
          rw [h2, if_neg (by decide)] at hbe
          injection hbe with hb1 hb2
          refine ⟨h2, by injection hb1, out, tk, by rw [hb1]; exact HRun.out, by have := HTK.out; omega⟩
        · right
          have hbe := HBR.out
          rw [h2, if_pos rfl] at hbe
          have hb1 : (⟨nb, nl, nm, wt⟩ : Rd.Bf) = (Rd.pushed ⟨n, Lt, M, wq⟩ ⟨k1, t1, u1, v1, x1, y1, z1⟩).1 := by rw [← hbe]
          have hR := Rd.run_push HRun.out HCE.out HCTm.out.2 h1 (by have := hwl2.out; show wq.length < _; omega)
          rw [← hb1] at hR
          refine ⟨h2, by injection hb1, _, _, hR, by have := HTK.out; simp; omega⟩
      clear hpe HMK HBR HRun HTK
      have HNX : Hid (∃ out tk, Rd.Run k ⟨nb, nl, nm, wt⟩ out tk ∧ tk.length ≤ j + 1) := by rcases HCASE.out with h | h <;> exact h.2.2
      have HV : Hid (Rd.V ⟨nb, nl, nm, wt⟩) := by obtain ⟨_, _, h, _⟩ := HNX.out; exact h.v
      have HMX : Hid ((nl - k - 1 ≤ -1 ∧ nm = -1) ∨ (-1 < nl - k - 1 ∧ nm = nl - k - 1)) := by
        obtain ⟨_, _, h, _⟩ := HNX.out
        have := h.mrk
        dsimp only at this
        show _ ∨ _
        omega
      have hwt : Hid (wt.length ≤ 4096) := HV.out.2.2.2.2.2.1
      have HNL : Hid (-1 ≤ nl ∧ nl ≤ 1048576) := by obtain ⟨i1, i2, i3, i4, i5, -⟩ := HV.out; dsimp only at i1 i2 i3 i4 i5; show _ ∧ _; omega
      have f1 : IntKind.i64.wrap (nl - k) = nl - k := IntWalk.i64_in _ (by have := HNL.out; have := HKK.out; omega)
      have f2 : IntKind.i64.wrap (nl - k - 1) = nl - k - 1 := IntWalk.i64_in _ (by have := HNL.out; have := HKK.out; omega)
      have hKb := HSb.out.lK
      rcases (by rcases HCASE.out with ⟨h1, h2, -⟩ | ⟨h1, h2, -⟩ <;> omega : (pe = 10 ∧ Lt = nl) ∨ (pe = 0 ∧ t1 ≤ Lt ∧ Lt = nl) ∨ (pe = 0 ∧ Lt < t1 ∧ t1 = nl)) with ⟨h1, h9⟩ | ⟨h1, hmx, h9⟩ | ⟨h1, hmx, h9⟩
      all_goals
        subst h1
        rcases HMX.out with ⟨hm1, hm2⟩ | ⟨hm1, hm2⟩
        all_goals
          have CV := Lib.hid (valid_any nb nl nm A2 c2 wt wc HRc.out (by have := hwt.out; omega))
          have hdV : decide (Rd.V ⟨nb, nl, nm, wt⟩) = true := by simpa using HV.out
          rw [hdV] at CV
          clear hdV
          have HTM : Hid (∀ e ∈ wt, nm < e.time ∧ e.time ≤ nl) := fun e he => (HV.out.2.2.2.2.2.2.1 e he).2
          have HPUT : Hid (∀ wz : World, Below wc.heap.size wc wz → WS W K k l (some ⟨bb, off, none⟩) cl' ⟨nb, nl, nm, wt⟩ A2 c2 (j + 1) ((((wz.setCell ⟨K, 0, none⟩ (.int .i64 nb)).setCell ⟨K, 1, none⟩ (.int .i64 nl)).setCell ⟨K, 2, none⟩ (.int .i64 nm)).setCell ⟨K, 3, none⟩ (.slice A2 wt.length c2))) := fun wz hz => (HSc.out.go hz).put (b' := ⟨nb, nl, nm, wt⟩) (HRc.out.up hz) HNX.out
          clear HCASE HMX HV HNX
          subst h9
          subst hm2
          go_wp2_with fail
          rw [HWC.out]
          refine CV.out.mono ?_
          rintro e wd ⟨rfl, hbd⟩
          have HBd := Lib.hid hbd
          have HSd := Lib.hid (HSc.out.go hbd)
          have HRd := Lib.hid (HRc.out.up hbd)
          have HKd := Lib.hid ((hbd.block K3 (lt_of_some HKc.out)).trans HKc.out)
          have hK3 := lt_of_some HKd.out
          clear hbd CV e0 e1 e2 e3 e4 e5 e6
          simp only [HK3.out]
          have kC := Go.Joins.cell_of_block (HKd.out)
          have k0 := kC 0; have k1 := kC 1; have k2 := kC 2; have k3 := kC 3
          simp only [List.getElem?_toArray, List.getElem?_cons_succ, List.getElem?_cons_zero] at k0 k1 k2 k3
          clear kC
          go_wp2_with fail
          clear k0 k1 k2 k3
          have hwl9 : wt.length ≤ 4096 := hwt.out
          go_loopw [70] (fun i wr => ∃ (q : Nat), i = .int .i64 q ∧ q ≤ wt.length ∧ Hid (Below wd.heap.size wd wr)) (fun i _ => wt.length - (RowKit.intOf i).toNat)
          case atStart => exact ⟨0, rfl, Nat.zero_le _, Below.refl _ _⟩
          case round =>
            obtain ⟨q, rfl, hq, HB⟩ := hrel
            have HKq := Lib.hid ((HB.out.block K3 hK3).trans HKd.out)
            have hK3q := lt_of_some HKq.out
            have kC := Go.Joins.cell_of_block (HKq.out)
            have k0 := kC 0; have k1 := kC 1; have k2 := kC 2; have k3 := kC 3
            simp only [List.getElem?_toArray, List.getElem?_cons_succ, List.getElem?_cons_zero] at k0 k1 k2 k3
            clear kC
            by_cases hql : q < wt.length
            · obtain ⟨b9, o9, ⟨k9, t9, u9, v9, x9, y9, z9⟩, rfl, hb9, ha9, g0, g1, g2, g3, g4, g5, g6⟩ := RV.at_ (HRd.out.up HB.out) hql
              have htm := HTM.out _ (List.mem_of_getElem? ha9)
              dsimp only at htm g0 g1 g2 g3 g4 g5 g6
              have d1 := decide_eq_false (Int.not_le.2 htm.1)
              have d2 : decide (t9 > _) = false := decide_eq_false (Int.not_lt.2 htm.2)
              clear ha9 htm
              go_wp2
              go_roundw
              case rel => exact ⟨q + 1, by go_num, by omega, HB.out.trans ((below_new _ _).mono HB.out.size)⟩
              case measure => simp [RowKit.intOf]; try omega
            · obtain rfl : q = wt.length := by omega
              have HSq := Lib.hid (HSd.out.go HB.out)
              have hKq := HSq.out.lK
              have aC := Go.Joins.cell_of_block (HSq.out.box)
              have a0 := aC 0; have a1 := aC 1; have a2 := aC 2; have a3 := aC 3
              simp only [List.getElem?_toArray, List.getElem?_cons_succ, List.getElem?_cons_zero] at a0 a1 a2 a3
              have aF := Go.Joins.unfrozen_of_block (HSq.out.box)
              have af0 := aF 0; have af1 := aF 1; have af2 := aF 2; have af3 := aF 3
              clear aF
              clear aC
              have hz := Lib.hid (HBd.out.trans (HB.out.mono HBd.out.size))
              go_wp2
              go_roundw
              case rel => refine ⟨j + 1, _, A2, c2, ?_, ?_, ?_, HPUT.out _ hz.out⟩ <;> first | rfl | go_num | omega
              case measure => simp [RowKit.intOf]; try omega
    · obtain rfl : j = l.length := by omega
      go_wp2_with fail
      refine (awake_any _).mono ?_
      rintro e v3 ⟨rfl, hb9⟩
      have HB9 := Lib.hid (HS.out.bel.trans (hb9.mono HS.out.bel.size))
      clear hb9
      go_wp2
      go_ret
      exact ⟨rfl, HB9.out⟩
end Go.Proofs.Ytgdhjllfdndmnaa
