/-
  The reference's Sort.
-/
import Derived.Test.YtgdhjllfdndmnaaRv
namespace Go.Proofs.Ytgdhjllfdndmnaa
open Go.RowKit Go.Lib

theorem pushE_zero {b : Rd.Bf} {e : Ev} (h : Rd.pushE b e = 0) : Rd.V b ∧ chkE e = 0 ∧ b.mark < e.time ∧ b.wait.length < 4096 := by
  unfold Rd.pushE at h
  split at h
  · omega
  · next h1 =>
    split at h
    · contradiction
    · next h2 =>
      split at h
      · omega
      · next h3 =>
        split at h
        · omega
        · next h4 => exact ⟨by simpa using h1, by simpa using h2, by omega, by omega⟩
set_option maxHeartbeats 8000000 in
set_option maxRecDepth 100000 in
theorem rsort_any (k : Int) (A : Option Addr) (c : Nat) (l : List Ev) (w : World) (h : RV w.heap.size w A c l) (hl : l.length ≤ 900000) :
    Calls Try.prog 15 #[.int .i64 k, .slice A l.length c] w (SortP k l w) := by
  have H := Lib.hid h
  have HL := Lib.hid hl
  have HSF : Hid (sortF k l = if okB k = true then Rd.sortS (Rd.opened k) [] 0 l else ([], 0, 1)) := rfl
  have C0 := Lib.hid (ropen_any k w)
  have HE : Hid (openB k = if okB k = true then ⟨k, -1, -1, []⟩ else ⟨0, 0, 0, []⟩) := rfl
  have HE2 : Hid (openE k = if okB k = true then 0 else 1) := rfl
  have HOK : Hid (okB k = true → Rd.V (Rd.opened k)) := by
    show _ → _
    intro h
    have := openV k
    rw [h] at this
    simpa using this
  clear h hl
  go_enter Try.func15, Try.ntmps15
  go_wp2_with fail
  refine C0.out.mono ?_
  rintro e w2 ⟨rfl, hb⟩
  have HB1 := Lib.hid hb
  have HRL := Lib.hid (H.out.up hb)
  clear hb C0
  generalize openB k = OB at HE ⊢
  generalize openE k = OE at HE2 ⊢
  cases hB : okB k with
  | false =>
    rw [hB] at HE HE2 HSF
    obtain rfl := HE.out
    obtain rfl := HE2.out
    clear hB
    go_wp2
    refine ret_tmp3 (p := 4) (q := 5) (r := 6) Try.results15 rfl _ _ _ rfl rfl rfl ?_
    exact ⟨[], 0, 1, none, 0, rfl, HSF.out, RX.nil_ _ _ _ _, HB1.out.trans ((below_new _ _).mono HB1.out.size)⟩
  | true =>
    rw [hB] at HE HE2 HSF HOK
    obtain rfl := HE.out
    obtain rfl := HE2.out
    replace HSF : Hid (sortF k l = Rd.sortS (Rd.opened k) [] 0 l) := by show _ = _; rw [HSF.out, if_pos rfl]
    replace HOK := Lib.hid (HOK.out rfl)
    clear hB HE HE2
    dsimp only
    obtain ⟨K, HK⟩ : ∃ K, Hid (w2.heap.size = K) := ⟨_, rfl⟩
    obtain ⟨W4, HW4⟩ : ∃ W4, Hid (w2.alloc (.cells #[.int .i64 k, .int .i64 (-1), .int .i64 (-1), .slice none 0 0] 24) = W4) := ⟨_, rfl⟩
    have HT0 : Hid (TT w2.heap.size K w2 #[.int .i64 k, .int .i64 (-1), .int .i64 (-1), .slice none 0 0] [] none 0 [] none 0 [] none 0 W4) := by
      refine ⟨by rw [← HW4.out, ← HK.out]; exact heap_alloc_new _ _, ⟨by simp, by unfold maxLen; omega, .inl rfl⟩, World.ownsRow_nil _ _ _ _, World.ownsRow_nil _ _ _ _, fun q hq => (by cases hq), fun q hq => (by cases hq), ?_, by rw [← HK.out]; exact Nat.le_refl _⟩
      rw [← HW4.out]
      exact below_new _ _
    have HS0 : Hid (Rd.sortS (Rd.opened k) [] 0 (l.drop 0) = sortF k l) := by show _ = _; rw [HSF.out]; rfl
    go_wp2_with fail
    rw [HW4.out]
    simp only [HK.out]
    go_loopw [9, 10, 29] (fun so sn i wr => ∃ (j : Nat) (b : Rd.Bf) (A1 : Option Addr) (c1 : Nat) (out : List Ev) (Ao : Option Addr) (co : Nat) (nn : Int), so = .slice Ao out.length co ∧ sn = .int .i64 nn ∧ i = .int .i64 j ∧ j ≤ l.length ∧
        Hid (TT w2.heap.size K w2 #[.int .i64 b.bound, .int .i64 b.latest, .int .i64 b.mark, .slice A1 b.wait.length c1] b.wait A1 c1 out Ao co [] none 0 wr) ∧ Hid (Rd.V b) ∧ Hid (Rd.sortS b out nn (l.drop j) = sortF k l) ∧ Hid (out.length + b.wait.length ≤ j) ∧ Hid (0 ≤ nn ∧ nn ≤ j)) (fun _ _ i _ => l.length - (RowKit.intOf i).toNat)
    case atStart => exact ⟨0, Rd.opened k, none, 0, [], none, 0, 0, rfl, rfl, rfl, Nat.zero_le _, HT0.out, HOK.out, HS0.out, Nat.le_refl _, ⟨by omega, by omega⟩⟩
    case round =>
      clear HT0 HS0 HW4 HK HSF HOK
      obtain ⟨j, ⟨n, Lt, M, wq⟩, A1, c1, out, Ao, co, nn, rfl, rfl, rfl, hj, HT, HV, HRS, HLN, HNN⟩ := hrel
      have hKl := HT.out.lK
      have hll : l.length ≤ 900000 := HL.out
      obtain ⟨a0, a1, a2, a3⟩ := HT.out.cells
      dsimp only at a0 a1 a2 a3
      have hwl : Hid (wq.length ≤ 4096) := HV.out.2.2.2.2.2.1
      have hol : Hid (out.length ≤ 900000) := by show _ ≤ _; have h9 : out.length + wq.length ≤ j := HLN.out; omega
      by_cases hlt : j < l.length
      · obtain ⟨bb, off, ⟨k1, t1, u1, v1, x1, y1, z1⟩, rfl, hbb, ha, d0, d1, d2, d3, d4, d5, d6⟩ := RV.at_ (HRL.out.go HT.out.bel) hlt
        dsimp only at d0 d1 d2 d3 d4 d5 d6
        have hbr : bb < wr.heap.size := Nat.lt_of_lt_of_le hbb HT.out.bel.size
        have HRS1 : Hid (Rd.sortS ⟨n, Lt, M, wq⟩ out nn ((⟨k1, t1, u1, v1, x1, y1, z1⟩ : Ev) :: l.drop (j + 1)) = sortF k l) := by
          show _ = _
          have := HRS.out
          rwa [List.drop_eq_getElem_cons hlt, (List.getElem?_eq_some_iff.1 ha).2] at this
        have HTa := Lib.hid (HT.out.go (below_new wr (.cells #[.int .i64 k1, .int .i64 t1, .int .i64 u1, .int .i64 v1, .int .i64 x1, .int .i64 y1, .int .i64 z1] 26)))
        have CP := Lib.hid (rpush_any n Lt M A1 c1 wq k1 t1 u1 v1 x1 y1 z1 _ HTa.out.wt.rv (by have := hwl.out; omega))
        clear ha
        go_wp2_with fail
        refine CP.out.mono ?_
        rintro e wb ⟨b', r, A2, A3, c2, c3, rfl, hbr', ho2, hr3, hb⟩
        obtain ⟨e0, e1, e2, e3, e4, e5, e6⟩ := box7 hb
        have HTg := Lib.hid (HTa.out.go hb)
        have HTb := Lib.hid (HTa.out.push hb ho2)
        have HR3b := Lib.hid hr3
        have hsz : wr.heap.size < wb.heap.size := by have := hb.size; simp at this; omega
        clear hb ho2 hr3 CP d0 d1 d2 d3 d4 d5 d6 a0 a1 a2 a3 hKl
        obtain ⟨a0, a1, a2, a3⟩ := HTb.out.cells
        have hKb := HTb.out.lK
        have HBR := Lib.hid hbr'
        obtain ⟨nb, HNB⟩ : ∃ nb, Hid (b'.bound = nb) := ⟨_, rfl⟩
        obtain ⟨nl, HNL⟩ : ∃ nl, Hid (b'.latest = nl) := ⟨_, rfl⟩
        obtain ⟨nm, HNM⟩ : ∃ nm, Hid (b'.mark = nm) := ⟨_, rfl⟩
        obtain ⟨nw, HNW⟩ : ∃ nw, Hid (b'.wait.length = nw) := ⟨_, rfl⟩
        obtain ⟨nr, HNR⟩ : ∃ nr, Hid (r.length = nr) := ⟨_, rfl⟩
        rw [HNB.out, HNL.out, HNM.out, HNW.out, HNR.out]
        obtain ⟨K3, HK3n⟩ : ∃ K3, Hid (wb.heap.size = K3) := ⟨_, rfl⟩
        obtain ⟨wc, HWC⟩ : ∃ wc, Hid (wb.alloc (.cells #[.int .i64 nb, .int .i64 nl, .int .i64 nm, .slice A2 nw c2] 24) = wc) := ⟨_, rfl⟩
        have HBC : Hid (Below wb.heap.size wb wc) := by show Below _ _ _; rw [← HWC.out]; exact below_new _ _
        have HK3c : Hid (wc.heap[K3]? = some (.cells #[.int .i64 nb, .int .i64 nl, .int .i64 nm, .slice A2 nw c2] 24 (0, 0))) := by show _ = _; rw [← HWC.out, ← HK3n.out]; exact heap_alloc_new _ _
        have HTc := Lib.hid (HTb.out.go HBC.out)
        have HTh := Lib.hid (HTg.out.go HBC.out)
        have HRc := Lib.hid (HR3b.out.go HBC.out)
        clear hbr'
        obtain ⟨pe, HPE⟩ : ∃ pe, Hid (Rd.pushE ⟨n, Lt, M, wq⟩ (⟨k1, t1, u1, v1, x1, y1, z1⟩ : Ev) = pe) := ⟨_, rfl⟩
        rw [HPE.out] at HBR ⊢
        by_cases hp0 : pe = 0
        · subst hp0
          have hz := Lib.hid (pushE_zero HPE.out)
          have hbe : (b', r) = Rd.pushed ⟨n, Lt, M, wq⟩ (⟨k1, t1, u1, v1, x1, y1, z1⟩ : Ev) := by rw [HBR.out, if_pos rfl]
          have hb1 : b' = (Rd.pushed ⟨n, Lt, M, wq⟩ (⟨k1, t1, u1, v1, x1, y1, z1⟩ : Ev)).1 := by rw [← hbe]
          have hb2 : r = (Rd.pushed ⟨n, Lt, M, wq⟩ (⟨k1, t1, u1, v1, x1, y1, z1⟩ : Ev)).2 := by rw [← hbe]
          have HV2 : Hid (Rd.V b') := by show Rd.V _; rw [hb1]; exact Rd.pushed_valid HV.out hz.out.2.1 (chk_time hz.out.2.1).2 hz.out.2.2.1 hz.out.2.2.2
          have HRS2 : Hid (Rd.sortS b' (out ++ r) nn (l.drop (j + 1)) = sortF k l) := by
            show _ = _
            rw [← HRS1.out, hb1, hb2]
            conv => rhs; unfold Rd.sortS
            rw [if_neg (by rw [HPE.out]; decide), if_neg (by rw [HPE.out]; decide)]
          have h9 : _ + _ = wq.length + 1 := pushed_len ⟨n, Lt, M, wq⟩ (⟨k1, t1, u1, v1, x1, y1, z1⟩ : Ev)
          have h10 : out.length + wq.length ≤ j := HLN.out
          have HLN2 : Hid ((out ++ r).length + b'.wait.length ≤ j + 1) := by show _ ≤ _; rw [List.length_append, hb1, hb2]; omega
          have HSZ : Hid (out.length + r.length ≤ 1000000) := by show _ ≤ _; have := hwl.out; have := hol.out; rw [hb2]; omega
          clear hb1 hb2 hbe h9 h10 HRS HLN
          have HTd := HTc
          have HR3 := Lib.hid HRc.out.1
          have HK3 := HK3c
          have HK3l : Hid (K3 < wc.heap.size) := lt_of_some HK3.out
          go_wp2_with fail
          rw [HWC.out]
          simp only [HK3n.out]
          obtain ⟨wd, HWD⟩ : ∃ wd, wc = wd := ⟨_, rfl⟩
          rw [HWD] at HTd HR3 HK3 HK3l ⊢
          clear HWD
          obtain ⟨no, HNO⟩ : ∃ no, Hid (out.length = no) := ⟨_, rfl⟩
          have HJ0 : Hid (∀ a : Act, a.tmps.size = 62 → JO 62 50 w2.heap.size wd.heap.size Ao co out r A3 c3 false a (wd.drewN 1)) := fun a ha => ⟨ha, fun _ => ⟨own_up HTd.out.oo (below_drewN wd 1), HR3.out.up (below_drewN wd 1), HTd.out.lB, Nat.le_refl _⟩, fun h => absurd h (by decide)⟩
          have HK3R : Hid (some K3 ≠ ob Ao no co) := by show _ ≠ _; rw [← HNO.out]; exact fun e => own_ne' HTd.out.oo HK3.out (by decide) e.symm
          have HSM : Hid (no + nr ≤ 1000000) := by show _ ≤ _; rw [← HNO.out, ← HNR.out]; exact HSZ.out
          rw [HNO.out]
          refine wp_region_ac 4 62 (fun u v => u.grownBy v (ob Ao no co)) (fun f a wr => JO 62 50 w2.heap.size wd.heap.size Ao co out r A3 c3 (f 3) a wr) [(fun q0 _ => q0 = .agg #[.int .i64 nb, .int .i64 nl, .int .i64 nm, .slice A2 nw c2]), (fun q0 _ => q0 = .slice Ao no co), (fun q0 _ => q0 = .slice A3 nr c3), (fun _ _ => True)] (by kernel_rfl) (by kernel_rfl) rfl (fun _ _ _ => gr_trans) (gr_drewN _ _ _) (HJ0.out _ rfl) ?_ ?_ ?_
          · intro R hR
            simp only [List.mem_cons, List.not_mem_nil, or_false] at hR
            rcases hR with rfl | rfl | rfl | rfl <;> exact fun _ _ _ h _ => h
          · simp only [List.take_succ_cons, List.take_zero]
            refine ⟨?_, ?_, ?_, ?_, trivial⟩
            · intro a ws f hle hjj hfi hun hdn hag hdep K Q hK
              have d13 : (a.tmps[13]?).getD undef = .pointer (some ⟨K3, 0, none⟩) := eval_get (hag 13 (freeB_spec (by kernel_rfl)))
              rw [if_pos (show Region.wanted _ _ = true from rfl)]
              have yy := Go.Joins.cell_of_block ((hle.block K3 HK3l.out HK3R.out).trans HK3.out)
              have y0 := yy 0; have y1 := yy 1; have y2 := yy 2; have y3 := yy 3
              simp only [List.getElem?_toArray, List.getElem?_cons_succ, List.getElem?_cons_zero] at y0 y1 y2 y3
              clear yy
              unfold Oper.wp
              simp [go_sem, d13, y0, y1, y2, y3]
              exact hK _ _ (gr_refl _ _) (hjj.put (by decide)) rfl
            · intro a ws f hle hjj hfi hun hdn hag hdep K Q hK
              have d9 : (a.tmps[9]?).getD undef = .slice Ao no co := eval_get (hag 9 (freeB_spec (by kernel_rfl)))
              rw [if_pos (show Region.wanted _ _ = true from rfl)]
              unfold Oper.wp
              simp [go_sem, d9]
              exact hK _ _ (gr_refl _ _) (hjj.put (by decide)) rfl
            · intro a ws f hle hjj hfi hun hdn hag hdep K Q hK
              have d14 : (a.tmps[14]?).getD undef = .slice A3 nr c3 := eval_get (hag 14 (freeB_spec (by kernel_rfl)))
              rw [if_pos (show Region.wanted _ _ = true from rfl)]
              unfold Oper.wp
              simp [go_sem, d14]
              exact hK _ _ (gr_refl _ _) (hjj.put (by decide)) rfl
            · intro a ws f hle hjj hfi hun hdn hag hdep K Q hK
              have d48 : (a.tmps[48]?).getD undef = .slice Ao no co := eval_get (dep_of hdep 1 48 rfl (by kernel_rfl) rfl rfl)
              have d49 : (a.tmps[49]?).getD undef = .slice A3 nr c3 := eval_get (dep_of hdep 2 49 rfl (by kernel_rfl) rfl rfl)
              rw [if_pos (show Region.wanted _ _ = true from rfl)]
              have hun' : f 3 = false := hfi
              obtain ⟨ho, hr, hbz, hnz⟩ := hjj.own hun'
              refine run_applF ws (.tmp 48) (.tmp 49) w2.heap.size Ao co rfl out (by rw [HNO.out]; simp [Act.eval, d48]) ho A3 c3 nr r HNR.out (by simp [Act.eval, d49]) hr (by rw [HNO.out]; have := HSM.out; omega) hbz ?_
              intro A6 c6 w6 ho6 hg6 hf6
              rw [HNO.out] at hg6
              exact hK _ _ hg6 (hjj.done (by decide) ho6 (fun q hq => (hf6 q hq).imp id (Nat.le_trans hnz))) trivial
          · intro a ws f hle hjj hft hff hsz hdf hag hend
            have f47 : a.eval (.tmp 47) = .agg #[.int .i64 nb, .int .i64 nl, .int .i64 nm, .slice A2 nw c2] := end_of hend 0 47 (by decide) rfl rfl rfl
            have f48 : a.eval (.tmp 48) = .slice Ao no co := end_of hend 1 48 (by decide) rfl rfl rfl
            have f49 : a.eval (.tmp 49) = .slice A3 nr c3 := end_of hend 2 49 (by decide) rfl rfl rfl
            have f50 : (fun _ _ => True) (a.eval (.tmp 50)) ws := end_of hend 3 50 (by decide) rfl rfl rfl
            have ea := act_block 47 4 hsz hdf hag [47, 48, 49, 50] (by kernel_rfl) (by kernel_rfl) (of_decide_eq_true (by kernel_rfl))
            clear hag hend hsz hdf
            obtain ⟨A', c', e50, ho, hf⟩ := hjj.new (hft 3 (by decide))
            simp only [List.map_cons, List.map_nil, f47, f48, f49] at ea
            clear f47 f48 f49
            generalize a.eval (.tmp 50) = x50 at ea f50
            simp only [List.take_succ_cons, List.take_zero, List.drop_succ_cons, List.drop_zero, List.cons_append, List.nil_append] at ea
            subst ea
            have HTs := Lib.hid (HTd.out.outs ho (by rw [HNO.out]; exact hle) hf)
            clear hle hjj hft hff ho hf HJ0
            replace e50 : x50 = .slice A' (out ++ r).length c' := e50
            subst e50
            obtain ⟨n2, HN2⟩ : ∃ n2, Hid ((out ++ r).length = n2) := ⟨_, rfl⟩
            rw [HN2.out]
            have q0 := HTs.out.cells
            obtain ⟨q0, q1, q2, q3⟩ := q0
            have zz0 := HTs.out.fz 0; have zz1 := HTs.out.fz 1; have zz2 := HTs.out.fz 2; have zz3 := HTs.out.fz 3
            have hKs := HTs.out.lK
            simp only [List.drop_succ_cons, List.drop_zero]
            clear e0 e1 e2 e3 e4 e5 e6 a0 a1 a2 a3
            go_wp2
            have HTf := Lib.hid (HTs.out.store (.int .i64 nb) (.int .i64 nl) (.int .i64 nm) (.slice A2 nw c2))
            go_roundw
            case rel => exact ⟨j + 1, b', A2, c2, out ++ r, A', c', nn, by rw [HN2.out], rfl, by go_num, by omega, by rw [HNB.out, HNL.out, HNM.out, HNW.out]; exact HTf.out, HV2.out, HRS2.out, HLN2.out, by have := HNN.out; show _ ∧ _; omega⟩
            case measure => simp [RowKit.intOf]; try omega
        · by_cases hp1 : pe = 10
          · subst hp1
            have HRS2 : Hid (Rd.sortS ⟨n, Lt, M, wq⟩ out (nn + 1) (l.drop (j + 1)) = sortF k l) := by
              show _ = _
              rw [← HRS1.out]
              conv => rhs; unfold Rd.sortS
              rw [if_pos HPE.out]
            have f1 : IntKind.i64.wrap (nn + 1) = nn + 1 := IntWalk.i64_in _ (by have := HNN.out; omega)
            clear hp0 e0 e1 e2 e3 e4 e5 e6
            go_wp2
            rw [HWC.out]
            go_roundw
            case rel => exact ⟨j + 1, ⟨n, Lt, M, wq⟩, A1, c1, out, Ao, co, nn + 1, rfl, rfl, by go_num, by omega, HTh.out, HV.out, HRS2.out, by have h9 : out.length + wq.length ≤ j := HLN.out; show out.length + wq.length ≤ _; omega, by have := HNN.out; show _ ∧ _; omega⟩
            case measure => simp [RowKit.intOf]; try omega
          · have g0 : (pe != 0) = true := by simpa using hp0
            have g1 : (pe == 10) = false := by simpa using hp1
            have HRS2 : Hid (sortF k l = ([], 0, pe)) := by
              show _ = _
              rw [← HRS1.out]
              conv => lhs; unfold Rd.sortS
              rw [if_neg (by rw [HPE.out]; exact hp1), if_pos (by rw [HPE.out]; exact hp0), HPE.out]
            clear hp0 hp1 e0 e1 e2 e3 e4 e5 e6
            go_wp2
            rw [HWC.out]
            refine ret_tmp3 (p := 4) (q := 5) (r := 6) Try.results15 rfl _ _ _ rfl rfl rfl ?_
            exact ⟨[], 0, pe, none, 0, rfl, HRS2.out, RX.nil_ _ _ _ _, HB1.out.trans (HTc.out.bel.mono HB1.out.size)⟩
      · obtain rfl : j = l.length := by omega
        have CF := Lib.hid (rflush_any n Lt M A1 c1 wq wr HT.out.wt.rv (by have := hwl.out; omega))
        have HFE : Hid (flushE ⟨n, Lt, M, wq⟩ = 0) := by show _ = _; rw [flushE, if_pos HV.out]
        have HFB : Hid (flushB ⟨n, Lt, M, wq⟩ = Rd.rel ⟨n, Lt, M, wq⟩ Lt) := by show _ = _; rw [flushB, if_pos HV.out]
        go_wp2_with fail
        refine CF.out.mono ?_
        rintro e wb ⟨b', r, A2, A3, c2, c3, rfl, hbr', hr2, hr3, hb⟩
        rw [HFB.out] at hbr'
        rw [HFE.out]
        injection hbr' with hb1 hb2
        have HRW : Hid (r = Rd.upto Lt wq) := hb2
        have HFIN : Hid (sortF k l = (out ++ r, nn, 0)) := by
          show _ = _
          rw [← HRS.out, List.drop_length, HRW.out]
          rfl
        have hnr : r.length ≤ 4096 := by rw [HRW.out]; have := Rd.len_split Lt wq; have := hwl.out; omega
        have HTb := Lib.hid (HT.out.go hb)
        have HR3 := Lib.hid hr3
        clear hb hr2 hr3 hb1 hb2 CF a0 a1 a2 a3
        obtain ⟨nr, HNR⟩ : ∃ nr, Hid (r.length = nr) := ⟨_, rfl⟩
        rw [HNR.out] at hnr ⊢
        obtain ⟨⟨nb, nl, nm, nw⟩, HBB⟩ : ∃ BB, b' = BB := ⟨_, rfl⟩
        subst HBB
        dsimp only
        obtain ⟨wc, HWC⟩ : ∃ wc, Hid (wb.alloc (.cells #[.int .i64 nb, .int .i64 nl, .int .i64 nm, .slice A2 nw.length c2] 24) = wc) := ⟨_, rfl⟩
        have HBC : Hid (Below wb.heap.size wb wc) := by show Below _ _ _; rw [← HWC.out]; exact below_new _ _
        have HTc := Lib.hid (HTb.out.go HBC.out)
        have HRc := Lib.hid (HR3.out.up HBC.out)
        have HOT : Hid (OE w2.heap.size (wb.alloc (.cells #[.int .i64 nb, .int .i64 nl, .int .i64 nm, .slice A2 nw.length c2] 24)) Ao co out) := by
          show OE _ _ _ _ _
          rw [HWC.out]
          exact HTc.out.oo
        have HRC : Hid (RV (wb.alloc (.cells #[.int .i64 nb, .int .i64 nl, .int .i64 nm, .slice A2 nw.length c2] 24)).heap.size (wb.alloc (.cells #[.int .i64 nb, .int .i64 nl, .int .i64 nm, .slice A2 nw.length c2] 24)) A3 c3 r) := by
          show RX _ _ _ _ _ _ _
          rw [HWC.out]
          exact HRc.out
        have HBS : Hid (w2.heap.size ≤ (wb.alloc (.cells #[.int .i64 nb, .int .i64 nl, .int .i64 nm, .slice A2 nw.length c2] 24)).heap.size) := by
          show _ ≤ _
          rw [HWC.out]
          exact HTc.out.lB
        have hol2 : out.length + nr ≤ 1000000 := by have := hol.out; omega
        go_wp2_with (at_builtin; (refine wpList_applF _ rfl (.tmp 58) (.tmp 59) w2.heap.size Ao co rfl out (by simp [Act.eval]) HOT.out A3 c3 nr r HNR.out (by simp [Act.eval]) HRC.out (by omega) HBS.out ?_; intro A5 c5 w5 HO5 HG5 HF5))
        rw [HWC.out] at HG5 HF5
        have HTd := Lib.hid (HTc.out.outs HO5.out HG5.out HF5.out)
        go_wp2
        refine ret_tmp3 (p := 4) (q := 5) (r := 6) Try.results15 rfl _ _ _ rfl rfl rfl ?_
        exact ⟨out ++ r, nn, 0, A5, c5, by simp, HFIN.out, RX.of_own HO5.out, HB1.out.trans (HTd.out.bel.mono HB1.out.size)⟩
end Go.Proofs.Ytgdhjllfdndmnaa
