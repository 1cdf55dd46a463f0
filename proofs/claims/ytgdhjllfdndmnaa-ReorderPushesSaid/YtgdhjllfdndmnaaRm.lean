/-
  The law's stable sort.
-/
import Derived.Test.YtgdhjllfdndmnaaRk
import Derived.Test.YtgdhjllfdndmnaaRl
namespace Go.Proofs.Ytgdhjllfdndmnaa
open Go.RowKit Go.Lib

/-- an append to a full list of one event makes new memory only -/
theorem append_full (w : World) (vb : Nat) (a : Ev) (A : Option Addr) (c : Nat) (l : List Ev) (hv : w.heap[vb]? = some (.cells a.cells.toArray 26 (0, 0))) (hr : RV w.heap.size w A c l) (hl : l.length ≤ 1000000) :
    ∃ A' c' w', (∀ ty, (Builtin.append_ #[22, 22] ty #[.slice (some ⟨vb, 0, none⟩) 1 1, .slice A l.length c]).run Try.prog w = .ok (.slice A' (l.length + 1) c') w') ∧ RV w'.heap.size w' A' c' (a :: l) ∧ Below w.heap.size w w' := by
  obtain ⟨i0, hi0, hz0, hzs, hzb⟩ := info_parts infoV
  have hva : ∀ j u, a.cells[j]? = some u → w.cell? ((⟨vb, 0, none⟩ : Addr).add j) = some u := by
    intro j u hj
    have hcell := Go.Joins.cell_of_block hv
    rw [Go.WideShapes.add_plain, hcell, ← hj]
    simp
  have own1 : w.ownsRow vb 26 7 (.slice (some ⟨vb, 0, none⟩) 1 1) 1 a.cells := ⟨rfl, .inr ⟨vb, 1, _, rfl, Nat.le_refl _, hv, Nat.le_refl _, by unfold maxLen; omega, rfl, by simp [Ev.cells]⟩⟩
  rcases l with _ | ⟨b, l⟩
  · refine ⟨some ⟨vb, 0, none⟩, 1, w, fun ty => ?_, RX.of_own (l := [a]) (by simpa [cl] using own1), Below.refl _ _⟩
    rcases A with _ | ad
    · exact run_append_of_nil w vb _ ty _ i0 7 Try.underlying22 hi0 _ _ _ own1 c
    · have hfc := run_firstCells_some (P := Try.prog) w 7 0 ad 0 c [] rfl (fun j u h => by simp at h)
      simp [Builtin.append_, run_underlying Try.underlying22, sizeOf, typeInfo, hi0, Builtin.lenOf, hfc, hzs, storeCells]
  · obtain ⟨ad, rfl, hb, hc⟩ := hr.2.2 (by simp)
    have hlc : (cl Ev.cells (b :: l)).length = (b :: l).length * i0.size := by rw [hzs]; exact cl_len encE _
    have hrun := fun ty => run_append_grow (P := Try.prog) w 22 ty 26 i0 _ Try.underlying22 hi0 hz0 ⟨vb, 0, none⟩ 1 1 a.cells (by rw [hzs]; rfl) hva ad (b :: l).length c (cl Ev.cells (b :: l)) hlc hc (by simp) (by omega) (by rw [hzb]; exact growslice_fits (by simp) (by omega))
    have hge := grownCap_ge w (1 + (b :: l).length) 1 26
    have hcm := grownCap_le_maxLen w (1 + (b :: l).length) 1 26 (by unfold maxLen; omega)
    obtain ⟨G, hG⟩ : ∃ G, grownCap w (1 + (b :: l).length) 1 26 = G := ⟨_, rfl⟩
    rw [hG] at hge hcm
    simp only [hG] at hrun
    refine ⟨_, _, _, fun ty => by rw [hrun ty, Nat.add_comm], ?_, ?_⟩
    · refine RX.of_own (base := w.heap.size) (e := 26) ⟨cl_len encE _, .inr ⟨w.heap.size, G, _, by rw [List.length_cons (a := a)], Nat.le_refl _, heap_alloc_new w.drew _, by simp at hge ⊢; omega, hcm, ?_, ?_⟩⟩
      · simp only [Array.size_append, List.size_toArray, size_zeroCells, hlc, hzs, show a.cells.length = 7 from rfl, show (Value.agg #[.int .i64 0, .int .i64 0, .int .i64 0, .int .i64 0, .int .i64 0, .int .i64 0, .int .i64 0]).cells.size = 7 from rfl]
        omega
      · simp only [Array.toList_append, cl_cons a]
        have e : (a :: b :: l).length * 7 = (a.cells ++ cl Ev.cells (b :: l)).length := by rw [List.length_append, hlc, hzs, show a.cells.length = 7 from rfl]; simp; omega
        rw [e]
        exact List.take_left
    · exact (below_drewN w 1).trans (below_new w.drew _)
theorem own_take {base c : Nat} {A : Option Addr} {l : List Ev} {w : World} (h : w.ownsRow base 26 7 (.slice A l.length c) l.length (cl Ev.cells l)) (i : Nat) :
    w.ownsRow base 26 7 (.slice A (l.take i).length c) (l.take i).length (cl Ev.cells (l.take i)) := by
  refine ⟨cl_len encE _, ?_⟩
  rcases h.2 with ⟨h1, h2⟩ | ⟨g, cap, cur, hv, hb, hg, hn, hm, hs, hx⟩
  · have h0 : l = [] := List.eq_nil_of_length_eq_zero h2
    subst h0
    injection h1 with e1 e2 e3
    subst e1; subst e3
    exact .inl ⟨by simp, by simp⟩
  · injection hv with e1 e2 e3
    subst e1; subst e3
    refine .inr ⟨g, c, cur, rfl, hb, hg, by rw [List.length_take]; omega, hm, hs, ?_⟩
    rw [← cl_take encE, ← hx, List.take_take, List.length_take]
    by_cases hi : i ≤ l.length
    · congr 1; omega
    · rw [Nat.min_eq_right (by omega), show min (i * 7) (l.length * 7) = l.length * 7 by omega]
set_option maxHeartbeats 4000000 in
set_option maxRecDepth 100000 in
theorem stable_any (A : Option Addr) (c : Nat) (l : List Ev) (w : World) (h : RV w.heap.size w A c l) (hl : l.length ≤ 60000) :
    Calls Try.prog 24 #[.slice A l.length c] w fun e w' => ∃ A' c', e = .returned (.slice A' (Rd.stab l).length c') ∧ RV w'.heap.size w' A' c' (Rd.stab l) ∧ Below w.heap.size w w' := by
  have H := Lib.hid h
  clear h
  go_enter Try.func24, Try.ntmps24
  go_wp2
  go_loopw [3, 9] (fun so i wr => ∃ (j : Nat) (A2 : Option Addr) (c2 : Nat), i = .int .i64 j ∧ so = .slice A2 (Rd.stab (l.take j)).length c2 ∧ j ≤ l.length ∧ Hid (wr.ownsRow w.heap.size 26 7 (.slice A2 (Rd.stab (l.take j)).length c2) (Rd.stab (l.take j)).length (cl Ev.cells (Rd.stab (l.take j)))) ∧ Hid (Below w.heap.size w wr)) (fun _ i _ => l.length - (RowKit.intOf i).toNat)
  case atStart => exact ⟨0, none, 0, rfl, rfl, Nat.zero_le _, World.ownsRow_nil _ _ _ _, Below.refl _ _⟩
  case round =>
    obtain ⟨j, A2, c2, rfl, rfl, hj, HO, HB⟩ := hrel
    by_cases hlt : j < l.length
    · obtain ⟨bb, off, ⟨k1, t1, u1, v1, x1, y1, z1⟩, rfl, hbb, ha, d0, d1, d2, d3, d4, d5, d6⟩ := RV.at_ (H.out.go HB.out) hlt
      dsimp only at d0 d1 d2 d3 d4 d5 d6
      have hbr : bb < wr.heap.size := Nat.lt_of_lt_of_le hbb HB.out.size
      have HST : Hid (Rd.stab (l.take (j + 1)) = Rd.ins ⟨k1, t1, u1, v1, x1, y1, z1⟩ (Rd.stab (l.take j))) := by
        show _ = _
        rw [List.take_add_one, ha]
        exact Rd.stab_snoc _ _
      have HAS := Lib.hid (Rd.stab_asc (l.take j))
      have hlen0 : (Rd.stab (l.take j)).length ≤ 60000 := by rw [Rd.stab_len, List.length_take]; omega
      obtain ⟨out, HOUT⟩ : ∃ out, Hid (Rd.stab (l.take j) = out) := ⟨_, rfl⟩
      rw [HOUT.out] at HO HST HAS hlen0 ⊢
      have hle2 := (RX.of_own HO.out).1
      have hmx : c2 ≤ 9223372036854775807 := by
        rcases HO.out.2 with ⟨h1, _⟩ | ⟨g, cap, cur, h1, _, _, _, h2, _⟩
        · injection h1 with _ _ h3; omega
        · injection h1 with _ _ h3; unfold maxLen at h2; omega
      obtain ⟨n, HN⟩ : ∃ n, Hid (out.length = n) := ⟨_, rfl⟩
      rw [HN.out] at hlen0 hle2 ⊢
      obtain ⟨G, HGG⟩ : ∃ G, Hid (wr.heap.size = G) := ⟨_, rfl⟩
      obtain ⟨W2, HW2⟩ : ∃ W2, Hid (wr.alloc (.cells #[.int .i64 k1, .int .i64 t1, .int .i64 u1, .int .i64 v1, .int .i64 x1, .int .i64 y1, .int .i64 z1] 26) = W2) := ⟨_, rfl⟩
      have HB2 : Hid (Below wr.heap.size wr W2) := by show Below _ _ _; rw [← HW2.out]; exact below_new _ _
      have HGb : Hid (W2.heap[G]? = some (.cells #[.int .i64 k1, .int .i64 t1, .int .i64 u1, .int .i64 v1, .int .i64 x1, .int .i64 y1, .int .i64 z1] 26 (0, 0))) := by show _ = _; rw [← HW2.out, ← HGG.out]; exact heap_alloc_new _ _
      have HO2 := Lib.hid (own_up HO.out HB2.out)
      have HBW : Hid (Below w.heap.size w W2) := HB.out.trans (HB2.out.mono HB.out.size)
      have HI0 : Hid (∀ m a, n ≤ m → out[m]? = some a → t1 < a.time) := by
        show ∀ m a, _ → _ → _
        intro m a hm ha
        rw [List.getElem?_eq_none (by rw [HN.out]; exact hm)] at ha
        cases ha
      clear ha
      go_wp2
      rw [HGG.out, HW2.out]
      go_loopw [6] (fun si wq => ∃ (i : Nat), si = .int .i64 i ∧ i ≤ n ∧ Hid (∀ m a, i ≤ m → out[m]? = some a → t1 < a.time) ∧ Hid (Below W2.heap.size W2 wq)) (fun si _ => (RowKit.intOf si).toNat)
      case atStart => exact ⟨n, rfl, Nat.le_refl _, HI0.out, Below.refl _ _⟩
      case round =>
        obtain ⟨i, rfl, hin, HI, HQ⟩ := hrel
        clear d0 d1 d2 d3 d4 d5 d6 HI0
        have HGq : Hid (wr.heap[G]? = some (.cells #[.int .i64 k1, .int .i64 t1, .int .i64 u1, .int .i64 v1, .int .i64 x1, .int .i64 y1, .int .i64 z1] 26 (0, 0))) := (HQ.out.block G (lt_of_some HGb.out)).trans HGb.out
        have hGl : G < wr.heap.size := lt_of_some HGq.out
        have gt := Go.Joins.cell_of_block HGq.out 1
        simp only [List.getElem?_toArray, List.getElem?_cons_succ, List.getElem?_cons_zero] at gt
        have HO3 := Lib.hid (own_up HO2.out HQ.out)
        by_cases hi0 : 0 < i
        · obtain ⟨m, hm⟩ : ∃ m, i = m + 1 := ⟨i - 1, by omega⟩
          subst hm
          obtain ⟨b9, off9, ⟨k9, t9, u9, v9, x9, y9, z9⟩, rfl, hb9, ha9, e0, e1, e2, e3, e4, e5, e6⟩ := RV.at_ (k := m) (RX.of_own HO3.out) (by rw [HN.out]; omega)
          dsimp only at e0 e1 e2 e3 e4 e5 e6
          have f1 : IntKind.i64.wrap (((m + 1 : Nat) : Int) - 1) = (m : Int) := by rw [IntWalk.i64_in _ (by omega)]; omega
          have g1 : decide (((m + 1 : Nat) : Int) > 0) = true := by rw [decide_eq_true_eq]; omega
          by_cases ht : t9 > t1
          · have d9 : decide (t9 > t1) = true := by simpa using ht
            have HI2 : Hid (∀ q a, m ≤ q → out[q]? = some a → t1 < a.time) := by
              show ∀ q a, _ → _ → _
              intro q a hq ha
              by_cases hqm : q = m
              · subst hqm
                rw [ha9] at ha
                injection ha with ha
                subst ha
                exact ht
              · exact HI.out q a (by omega) ha
            clear ha9
            go_wp2_with fail
            go_quiet (fail)
            clear e0 e1 e2 e3 e4 e5 e6 gt
            go_wp2
            go_roundw
            case rel => exact ⟨m, by go_num, by omega, HI2.out, HQ.out.trans ((below_drewN wr nq).mono HQ.out.size)⟩
            case measure => simp [RowKit.intOf]; try omega
          · have d9 : decide (t9 > t1) = false := by simpa using ht
            have HIX : Hid ((Rd.upto t1 out).length = m + 1) := Rd.upto_len (e := ⟨k1, t1, u1, v1, x1, y1, z1⟩) HAS.out (by rw [HN.out]; omega) HI.out (.inr ⟨_, ha9, by show t9 ≤ t1; omega⟩)
            clear ha9
            go_wp2_with fail
            go_quiet (fail)
            clear e0 e1 e2 e3 e4 e5 e6 gt f1 g1 d9 ht
            obtain ⟨A2, HA2⟩ : ∃ A2, some (⟨b9, off9, none⟩ : Addr) = A2 := ⟨_, rfl⟩
            rw [HA2] at HO HO2 HO3 ⊢
            obtain ⟨i, hmi⟩ : ∃ i, m + 1 = i := ⟨_, rfl⟩
            have hci : (m : Int) + 1 = (i : Int) := by omega
            rw [hmi] at HIX hin hi0
            rw [hci]
            have HB5 : Hid (Below W2.heap.size W2 (wr.drewN nq)) := HQ.out.trans ((below_drewN wr nq).mono HQ.out.size)
            generalize wr.drewN nq = W5 at HB5 ⊢
            have HO5 := Lib.hid (own_up HO2.out HB5.out)
            have HGx : Hid (W5.heap[G]? = some (.cells #[.int .i64 k1, .int .i64 t1, .int .i64 u1, .int .i64 v1, .int .i64 x1, .int .i64 y1, .int .i64 z1] 26 (0, 0))) := (HB5.out.block G (lt_of_some HGb.out)).trans HGb.out
            have HGl : Hid (G < W5.heap.size) := lt_of_some HGx.out
            obtain ⟨X, hX⟩ : ∃ X, (if c2 = i then A2 else A2.map (·.add (i * 7))) = X := ⟨_, rfl⟩
            have HRX : Hid (RV W5.heap.size W5 X (c2 - i) (out.drop i)) := by
              show RX _ _ _ _ _ _ _
              rw [← hX]
              exact RX.cut encE (RX.of_own HO5.out) (by rw [HN.out]; omega)
            have HDL : Hid ((out.drop i).length = n - i) := by show _ = _; rw [List.length_drop, HN.out]
            have HTL : Hid ((out.take i).length = i) := by show _ = _; rw [List.length_take, HN.out]; omega
            have HLD : Hid ((out.drop i).length ≤ 1000000) := by show _ ≤ _; rw [HDL.out]; omega
            have HM1 : Hid (∀ (q0 : Value) (w5 w6 : World), (∃ vb, q0 = .slice (some ⟨vb, 0, none⟩) 1 1 ∧ w5.heap[vb]? = some (.cells #[.int .i64 k1, .int .i64 t1, .int .i64 u1, .int .i64 v1, .int .i64 x1, .int .i64 y1, .int .i64 z1] 26 (0, 0))) → Below w5.heap.size w5 w6 → (∃ vb, q0 = .slice (some ⟨vb, 0, none⟩) 1 1 ∧ w6.heap[vb]? = some (.cells #[.int .i64 k1, .int .i64 t1, .int .i64 u1, .int .i64 v1, .int .i64 x1, .int .i64 y1, .int .i64 z1] 26 (0, 0)))) := by
              rintro q0 w5 w6 ⟨vb, e, h1⟩ hb
              exact ⟨vb, e, (hb.block vb (lt_of_some h1)).trans h1⟩
            have HM2 : Hid (∀ (q0 : Value) (w5 w6 : World), (∃ A7 c7, q0 = .slice A7 (n - i + 1) c7 ∧ RV w5.heap.size w5 A7 c7 (⟨k1, t1, u1, v1, x1, y1, z1⟩ :: out.drop i)) → Below w5.heap.size w5 w6 → (∃ A7 c7, q0 = .slice A7 (n - i + 1) c7 ∧ RV w6.heap.size w6 A7 c7 (⟨k1, t1, u1, v1, x1, y1, z1⟩ :: out.drop i))) := by
              rintro q0 w5 w6 ⟨A7, c7, e, h1⟩ hb
              exact ⟨A7, c7, e, h1.up hb⟩
            have HIN : Hid (out.take i ++ ⟨k1, t1, u1, v1, x1, y1, z1⟩ :: out.drop i = Rd.stab (l.take (j + 1))) := by
              show _ = _
              rw [HST.out, Rd.ins_take HAS.out]
              dsimp only
              rw [HIX.out]
            have HOT : Hid (W5.ownsRow w.heap.size 26 7 (.slice A2 (out.take i).length c2) (out.take i).length (cl Ev.cells (out.take i))) := own_take HO5.out i
            have h_in : (i : Int) ≤ (n : Int) := by omega
            have h_nc : (n : Int) ≤ (c2 : Int) := by omega
            have h_ic : (i : Int) ≤ (c2 : Int) := by omega
            clear hmi hci
            go_wp2_with fail
            refine wp_region_ac 9 42 (fun u v => Below u.heap.size u v) (fun _ _ _ => True) [(fun q0 _ => q0 = .slice A2 n c2), (fun q0 _ => q0 = .int .i64 (i : Nat)), (fun q0 _ => q0 = .slice A2 i c2), (fun q0 _ => q0 = .agg #[.int .i64 k1, .int .i64 t1, .int .i64 u1, .int .i64 v1, .int .i64 x1, .int .i64 y1, .int .i64 z1]), (fun q0 w5 => ∃ vb, q0 = .slice (some ⟨vb, 0, none⟩) 1 1 ∧ w5.heap[vb]? = some (.cells #[.int .i64 k1, .int .i64 t1, .int .i64 u1, .int .i64 v1, .int .i64 x1, .int .i64 y1, .int .i64 z1] 26 (0, 0))), (fun q0 _ => q0 = .slice A2 n c2), (fun q0 _ => q0 = .int .i64 (i : Nat)), (fun q0 _ => q0 = .slice X (n - i) (c2 - i)), (fun q0 w5 => ∃ A7 c7, q0 = .slice A7 (n - i + 1) c7 ∧ RV w5.heap.size w5 A7 c7 (⟨k1, t1, u1, v1, x1, y1, z1⟩ :: out.drop i))] (by kernel_rfl) (by kernel_rfl) rfl (fun _ _ _ h1 h2 => h1.trans (h2.mono h1.size)) (below_drewN _ _) trivial ?_ ?_ ?_
            · intro R hR
              simp only [List.mem_cons, List.not_mem_nil, or_false] at hR
              rcases hR with rfl | rfl | rfl | rfl | rfl | rfl | rfl | rfl | rfl <;> first | exact fun _ _ _ h _ => h | exact HM1.out | exact HM2.out
            · simp only [List.take_succ_cons, List.take_zero]
              refine ⟨?_, ?_, ?_, ?_, ?_, ?_, ?_, ?_, ?_, trivial⟩
              · intro a ws f hle hjj hfi hun hdn hag hdep K Q hK
                have d3 : (a.tmps[3]?).getD undef = .slice A2 n c2 := eval_get (hag 3 (freeB_spec (by kernel_rfl)))
                rw [if_pos (show Region.wanted _ _ = true from rfl)]
                unfold Oper.wp
                simp [go_sem, d3]
                exact hK _ _ (Below.refl _ _) trivial rfl
              · intro a ws f hle hjj hfi hun hdn hag hdep K Q hK
                have d6 : (a.tmps[6]?).getD undef = .int .i64 (i : Nat) := eval_get (hag 6 (freeB_spec (by kernel_rfl)))
                rw [if_pos (show Region.wanted _ _ = true from rfl)]
                unfold Oper.wp
                simp [go_sem, d6]
                exact hK _ _ (Below.refl _ _) trivial rfl
              · intro a ws f hle hjj hfi hun hdn hag hdep K Q hK
                have d30 : (a.tmps[30]?).getD undef = .slice A2 n c2 := eval_get (dep_of hdep 0 30 rfl (by kernel_rfl) rfl rfl)
                have d31 : (a.tmps[31]?).getD undef = .int .i64 (i : Nat) := eval_get (dep_of hdep 1 31 rfl (by kernel_rfl) rfl rfl)
                rw [if_pos (show Region.wanted _ _ = true from rfl)]
                unfold Oper.wp
                simp [go_sem, d30, d31, h_ic]
                exact hK _ _ (Below.refl _ _) trivial rfl
              · intro a ws f hle hjj hfi hun hdn hag hdep K Q hK
                have d5 : (a.tmps[5]?).getD undef = .pointer (some ⟨G, 0, none⟩) := eval_get (hag 5 (freeB_spec (by kernel_rfl)))
                rw [if_pos (show Region.wanted _ _ = true from rfl)]
                have yy := Go.Joins.cell_of_block ((hle.block G HGl.out).trans HGx.out)
                have y0 := yy 0; have y1 := yy 1; have y2 := yy 2; have y3 := yy 3; have y4 := yy 4; have y5 := yy 5; have y6 := yy 6
                simp only [List.getElem?_toArray, List.getElem?_cons_succ, List.getElem?_cons_zero] at y0 y1 y2 y3 y4 y5 y6
                clear yy
                unfold Oper.wp
                simp [go_sem, d5, y0, y1, y2, y3, y4, y5, y6]
                exact hK _ _ (Below.refl _ _) trivial rfl
              · intro a ws f hle hjj hfi hun hdn hag hdep K Q hK
                have d33 : (a.tmps[33]?).getD undef = .agg #[.int .i64 k1, .int .i64 t1, .int .i64 u1, .int .i64 v1, .int .i64 x1, .int .i64 y1, .int .i64 z1] := eval_get (dep_of hdep 3 33 rfl (by kernel_rfl) rfl rfl)
                rw [if_pos (show Region.wanted _ _ = true from rfl)]
                unfold Oper.wp
                simp [go_sem, d33]
                exact hK _ _ (below_new _ _) trivial ⟨_, rfl, heap_alloc_new _ _⟩
              · intro a ws f hle hjj hfi hun hdn hag hdep K Q hK
                have d3 : (a.tmps[3]?).getD undef = .slice A2 n c2 := eval_get (hag 3 (freeB_spec (by kernel_rfl)))
                rw [if_pos (show Region.wanted _ _ = true from rfl)]
                unfold Oper.wp
                simp [go_sem, d3]
                exact hK _ _ (Below.refl _ _) trivial rfl
              · intro a ws f hle hjj hfi hun hdn hag hdep K Q hK
                have d6 : (a.tmps[6]?).getD undef = .int .i64 (i : Nat) := eval_get (hag 6 (freeB_spec (by kernel_rfl)))
                rw [if_pos (show Region.wanted _ _ = true from rfl)]
                unfold Oper.wp
                simp [go_sem, d6]
                exact hK _ _ (Below.refl _ _) trivial rfl
              · intro a ws f hle hjj hfi hun hdn hag hdep K Q hK
                have d35 : (a.tmps[35]?).getD undef = .slice A2 n c2 := eval_get (dep_of hdep 5 35 rfl (by kernel_rfl) rfl rfl)
                have d36 : (a.tmps[36]?).getD undef = .int .i64 (i : Nat) := eval_get (dep_of hdep 6 36 rfl (by kernel_rfl) rfl rfl)
                rw [if_pos (show Region.wanted _ _ = true from rfl)]
                unfold Oper.wp
                simp [go_sem, d35, d36, h_in]
                rw [hX]
                exact hK _ _ (Below.refl _ _) trivial rfl
              · intro a ws f hle hjj hfi hun hdn hag hdep K Q hK
                have d34 : (fun q0 w5 => ∃ vb, q0 = .slice (some ⟨vb, 0, none⟩) 1 1 ∧ w5.heap[vb]? = some (.cells #[.int .i64 k1, .int .i64 t1, .int .i64 u1, .int .i64 v1, .int .i64 x1, .int .i64 y1, .int .i64 z1] 26 (0, 0))) (a.eval (.tmp 34)) ws := dep_of hdep 4 34 rfl (by kernel_rfl) rfl rfl
                have d37 : (a.tmps[37]?).getD undef = .slice X (n - i) (c2 - i) := eval_get (dep_of hdep 7 37 rfl (by kernel_rfl) rfl rfl)
                rw [if_pos (show Region.wanted _ _ = true from rfl)]
                obtain ⟨vb, d34, hvb⟩ := d34
                have d34 := eval_get d34
                obtain ⟨A7, c7, w7, hr7, hv7, hb7⟩ := append_full ws vb ⟨k1, t1, u1, v1, x1, y1, z1⟩ X (c2 - i) (out.drop i) hvb (HRX.out.up hle) HLD.out
                rw [HDL.out] at hr7
                unfold Oper.wp execOp
                simp only [resolve, invoke, builtin, Sem.run_bind, Sem.run_pure, Result.andThen_ok, List.map_toArray, List.map_cons, List.map_nil, Act.eval, Array.getD_eq_getD_getElem?, d34, d37, hr7]
                exact hK _ _ hb7 trivial ⟨A7, c7, rfl, hv7⟩
            · intro a ws f hle hjj hft hff hsz hdf hag hend
              have f30 : a.eval (.tmp 30) = .slice A2 n c2 := end_of hend 0 30 (by decide) rfl rfl rfl
              have f31 : a.eval (.tmp 31) = .int .i64 (i : Nat) := end_of hend 1 31 (by decide) rfl rfl rfl
              have f32 : a.eval (.tmp 32) = .slice A2 i c2 := end_of hend 2 32 (by decide) rfl rfl rfl
              have f33 : a.eval (.tmp 33) = .agg #[.int .i64 k1, .int .i64 t1, .int .i64 u1, .int .i64 v1, .int .i64 x1, .int .i64 y1, .int .i64 z1] := end_of hend 3 33 (by decide) rfl rfl rfl
              have f34 : (fun q0 w5 => ∃ vb, q0 = .slice (some ⟨vb, 0, none⟩) 1 1 ∧ w5.heap[vb]? = some (.cells #[.int .i64 k1, .int .i64 t1, .int .i64 u1, .int .i64 v1, .int .i64 x1, .int .i64 y1, .int .i64 z1] 26 (0, 0))) (a.eval (.tmp 34)) ws := end_of hend 4 34 (by decide) rfl rfl rfl
              have f35 : a.eval (.tmp 35) = .slice A2 n c2 := end_of hend 5 35 (by decide) rfl rfl rfl
              have f36 : a.eval (.tmp 36) = .int .i64 (i : Nat) := end_of hend 6 36 (by decide) rfl rfl rfl
              have f37 : a.eval (.tmp 37) = .slice X (n - i) (c2 - i) := end_of hend 7 37 (by decide) rfl rfl rfl
              have f38 : (fun q0 w5 => ∃ A7 c7, q0 = .slice A7 (n - i + 1) c7 ∧ RV w5.heap.size w5 A7 c7 (⟨k1, t1, u1, v1, x1, y1, z1⟩ :: out.drop i)) (a.eval (.tmp 38)) ws := end_of hend 8 38 (by decide) rfl rfl rfl
              have ea := act_block 30 9 hsz hdf hag [30, 31, 32, 33, 34, 35, 36, 37, 38] (by kernel_rfl) (by kernel_rfl) (of_decide_eq_true (by kernel_rfl))
              clear hag hend hsz hdf
              simp only [List.map_cons, List.map_nil, f30, f31, f32, f33, f35, f36, f37] at ea
              clear f30 f31 f32 f33 f35 f36 f37
              generalize a.eval (.tmp 34) = x34 at ea f34
              generalize a.eval (.tmp 38) = x38 at ea f38
              simp only [List.take_succ_cons, List.take_zero, List.drop_succ_cons, List.drop_zero, List.cons_append, List.nil_append] at ea
              subst ea
              obtain ⟨A7, c7, rfl, hr7⟩ := f38
              have HR7 := Lib.hid hr7
              have HOS := Lib.hid (own_up HOT.out hle)
              have HBS : Hid (Below w.heap.size w ws) := HBW.out.trans ((HB5.out.trans (hle.mono HB5.out.size)).mono HBW.out.size)
              have hLL : (⟨k1, t1, u1, v1, x1, y1, z1⟩ :: out.drop i : List Ev).length = n - i + 1 := by rw [List.length_cons, HDL.out]
              clear hr7 f34 hle hjj hft hff HM1 HM2 HRX
              simp only [List.drop_succ_cons, List.drop_zero]
              go_wp2_with (at_builtin; (refine wpList_applV _ rfl (.tmp 32) (.tmp 38) w.heap.size A2 c2 rfl (out.take i) (by rw [HTL.out]; simp [Act.eval]) HOS.out A7 c7 (n - i + 1) (⟨k1, t1, u1, v1, x1, y1, z1⟩ :: out.drop i) hLL (by simp [Act.eval]) HR7.out (by rw [HTL.out]; omega) HBS.out.size ?_; intro A6 c6 w6 HO6 HB6 _))
              rw [HIN.out] at HO6
              have HLS : Hid ((Rd.stab (l.take (j + 1))).length = n + 1) := by show _ = _; rw [HST.out, Rd.ins_len, HN.out]
              have HB7 := Lib.hid (HBS.out.trans HB6.out)
              go_wp2
              go_roundw
              case rel => exact ⟨j + 1, A6, c6, by go_num, by rw [HLS.out, HN.out, show min i n + (n - i + 1) = n + 1 by omega], by omega, HO6.out, HB7.out⟩
              case measure => simp [RowKit.intOf]; try omega
        · obtain rfl : i = 0 := by omega
          have g1 : decide (((0 : Nat) : Int) > 0) = false := by simp
          have HIX : Hid ((Rd.upto t1 out).length = 0) := Rd.upto_len (e := ⟨k1, t1, u1, v1, x1, y1, z1⟩) HAS.out (by omega) HI.out (.inl rfl)
          go_wp2_with fail
          go_quiet (fail)
          clear gt g1 hi0
          obtain ⟨i, hmi⟩ : ∃ i, 0 = i := ⟨_, rfl⟩
          have hci : ((0 : Nat) : Int) = (i : Int) := by omega
          rw [hmi] at HIX hin
          rw [hci]
          have HB5 : Hid (Below W2.heap.size W2 (wr.drewN nq)) := HQ.out.trans ((below_drewN wr nq).mono HQ.out.size)
          generalize wr.drewN nq = W5 at HB5 ⊢
          have HO5 := Lib.hid (own_up HO2.out HB5.out)
          have HGx : Hid (W5.heap[G]? = some (.cells #[.int .i64 k1, .int .i64 t1, .int .i64 u1, .int .i64 v1, .int .i64 x1, .int .i64 y1, .int .i64 z1] 26 (0, 0))) := (HB5.out.block G (lt_of_some HGb.out)).trans HGb.out
          have HGl : Hid (G < W5.heap.size) := lt_of_some HGx.out
          obtain ⟨X, hX⟩ : ∃ X, (if c2 = i then A2 else A2.map (·.add (i * 7))) = X := ⟨_, rfl⟩
          have HRX : Hid (RV W5.heap.size W5 X (c2 - i) (out.drop i)) := by
            show RX _ _ _ _ _ _ _
            rw [← hX]
            exact RX.cut encE (RX.of_own HO5.out) (by rw [HN.out]; omega)
          have HDL : Hid ((out.drop i).length = n - i) := by show _ = _; rw [List.length_drop, HN.out]
          have HTL : Hid ((out.take i).length = i) := by show _ = _; rw [List.length_take, HN.out]; omega
          have HLD : Hid ((out.drop i).length ≤ 1000000) := by show _ ≤ _; rw [HDL.out]; omega
          have HM1 : Hid (∀ (q0 : Value) (w5 w6 : World), (∃ vb, q0 = .slice (some ⟨vb, 0, none⟩) 1 1 ∧ w5.heap[vb]? = some (.cells #[.int .i64 k1, .int .i64 t1, .int .i64 u1, .int .i64 v1, .int .i64 x1, .int .i64 y1, .int .i64 z1] 26 (0, 0))) → Below w5.heap.size w5 w6 → (∃ vb, q0 = .slice (some ⟨vb, 0, none⟩) 1 1 ∧ w6.heap[vb]? = some (.cells #[.int .i64 k1, .int .i64 t1, .int .i64 u1, .int .i64 v1, .int .i64 x1, .int .i64 y1, .int .i64 z1] 26 (0, 0)))) := by
            rintro q0 w5 w6 ⟨vb, e, h1⟩ hb
            exact ⟨vb, e, (hb.block vb (lt_of_some h1)).trans h1⟩
          have HM2 : Hid (∀ (q0 : Value) (w5 w6 : World), (∃ A7 c7, q0 = .slice A7 (n - i + 1) c7 ∧ RV w5.heap.size w5 A7 c7 (⟨k1, t1, u1, v1, x1, y1, z1⟩ :: out.drop i)) → Below w5.heap.size w5 w6 → (∃ A7 c7, q0 = .slice A7 (n - i + 1) c7 ∧ RV w6.heap.size w6 A7 c7 (⟨k1, t1, u1, v1, x1, y1, z1⟩ :: out.drop i))) := by
            rintro q0 w5 w6 ⟨A7, c7, e, h1⟩ hb
            exact ⟨A7, c7, e, h1.up hb⟩
          have HIN : Hid (out.take i ++ ⟨k1, t1, u1, v1, x1, y1, z1⟩ :: out.drop i = Rd.stab (l.take (j + 1))) := by
            show _ = _
            rw [HST.out, Rd.ins_take HAS.out]
            dsimp only
            rw [HIX.out]
          have HOT : Hid (W5.ownsRow w.heap.size 26 7 (.slice A2 (out.take i).length c2) (out.take i).length (cl Ev.cells (out.take i))) := own_take HO5.out i
          have h_in : (i : Int) ≤ (n : Int) := by omega
          have h_nc : (n : Int) ≤ (c2 : Int) := by omega
          have h_ic : (i : Int) ≤ (c2 : Int) := by omega
          clear hmi hci
          go_wp2_with fail
          refine wp_region_ac 9 42 (fun u v => Below u.heap.size u v) (fun _ _ _ => True) [(fun q0 _ => q0 = .slice A2 n c2), (fun q0 _ => q0 = .int .i64 (i : Nat)), (fun q0 _ => q0 = .slice A2 i c2), (fun q0 _ => q0 = .agg #[.int .i64 k1, .int .i64 t1, .int .i64 u1, .int .i64 v1, .int .i64 x1, .int .i64 y1, .int .i64 z1]), (fun q0 w5 => ∃ vb, q0 = .slice (some ⟨vb, 0, none⟩) 1 1 ∧ w5.heap[vb]? = some (.cells #[.int .i64 k1, .int .i64 t1, .int .i64 u1, .int .i64 v1, .int .i64 x1, .int .i64 y1, .int .i64 z1] 26 (0, 0))), (fun q0 _ => q0 = .slice A2 n c2), (fun q0 _ => q0 = .int .i64 (i : Nat)), (fun q0 _ => q0 = .slice X (n - i) (c2 - i)), (fun q0 w5 => ∃ A7 c7, q0 = .slice A7 (n - i + 1) c7 ∧ RV w5.heap.size w5 A7 c7 (⟨k1, t1, u1, v1, x1, y1, z1⟩ :: out.drop i))] (by kernel_rfl) (by kernel_rfl) rfl (fun _ _ _ h1 h2 => h1.trans (h2.mono h1.size)) (below_drewN _ _) trivial ?_ ?_ ?_
          · intro R hR
            simp only [List.mem_cons, List.not_mem_nil, or_false] at hR
            rcases hR with rfl | rfl | rfl | rfl | rfl | rfl | rfl | rfl | rfl <;> first | exact fun _ _ _ h _ => h | exact HM1.out | exact HM2.out
          · simp only [List.take_succ_cons, List.take_zero]
            refine ⟨?_, ?_, ?_, ?_, ?_, ?_, ?_, ?_, ?_, trivial⟩
            · intro a ws f hle hjj hfi hun hdn hag hdep K Q hK
              have d3 : (a.tmps[3]?).getD undef = .slice A2 n c2 := eval_get (hag 3 (freeB_spec (by kernel_rfl)))
              rw [if_pos (show Region.wanted _ _ = true from rfl)]
              unfold Oper.wp
              simp [go_sem, d3]
              exact hK _ _ (Below.refl _ _) trivial rfl
            · intro a ws f hle hjj hfi hun hdn hag hdep K Q hK
              have d6 : (a.tmps[6]?).getD undef = .int .i64 (i : Nat) := eval_get (hag 6 (freeB_spec (by kernel_rfl)))
              rw [if_pos (show Region.wanted _ _ = true from rfl)]
              unfold Oper.wp
              simp [go_sem, d6]
              exact hK _ _ (Below.refl _ _) trivial rfl
            · intro a ws f hle hjj hfi hun hdn hag hdep K Q hK
              have d30 : (a.tmps[30]?).getD undef = .slice A2 n c2 := eval_get (dep_of hdep 0 30 rfl (by kernel_rfl) rfl rfl)
              have d31 : (a.tmps[31]?).getD undef = .int .i64 (i : Nat) := eval_get (dep_of hdep 1 31 rfl (by kernel_rfl) rfl rfl)
              rw [if_pos (show Region.wanted _ _ = true from rfl)]
              unfold Oper.wp
              simp [go_sem, d30, d31, h_ic]
              exact hK _ _ (Below.refl _ _) trivial rfl
            · intro a ws f hle hjj hfi hun hdn hag hdep K Q hK
              have d5 : (a.tmps[5]?).getD undef = .pointer (some ⟨G, 0, none⟩) := eval_get (hag 5 (freeB_spec (by kernel_rfl)))
              rw [if_pos (show Region.wanted _ _ = true from rfl)]
              have yy := Go.Joins.cell_of_block ((hle.block G HGl.out).trans HGx.out)
              have y0 := yy 0; have y1 := yy 1; have y2 := yy 2; have y3 := yy 3; have y4 := yy 4; have y5 := yy 5; have y6 := yy 6
              simp only [List.getElem?_toArray, List.getElem?_cons_succ, List.getElem?_cons_zero] at y0 y1 y2 y3 y4 y5 y6
              clear yy
              unfold Oper.wp
              simp [go_sem, d5, y0, y1, y2, y3, y4, y5, y6]
              exact hK _ _ (Below.refl _ _) trivial rfl
            · intro a ws f hle hjj hfi hun hdn hag hdep K Q hK
              have d33 : (a.tmps[33]?).getD undef = .agg #[.int .i64 k1, .int .i64 t1, .int .i64 u1, .int .i64 v1, .int .i64 x1, .int .i64 y1, .int .i64 z1] := eval_get (dep_of hdep 3 33 rfl (by kernel_rfl) rfl rfl)
              rw [if_pos (show Region.wanted _ _ = true from rfl)]
              unfold Oper.wp
              simp [go_sem, d33]
              exact hK _ _ (below_new _ _) trivial ⟨_, rfl, heap_alloc_new _ _⟩
            · intro a ws f hle hjj hfi hun hdn hag hdep K Q hK
              have d3 : (a.tmps[3]?).getD undef = .slice A2 n c2 := eval_get (hag 3 (freeB_spec (by kernel_rfl)))
              rw [if_pos (show Region.wanted _ _ = true from rfl)]
              unfold Oper.wp
              simp [go_sem, d3]
              exact hK _ _ (Below.refl _ _) trivial rfl
            · intro a ws f hle hjj hfi hun hdn hag hdep K Q hK
              have d6 : (a.tmps[6]?).getD undef = .int .i64 (i : Nat) := eval_get (hag 6 (freeB_spec (by kernel_rfl)))
              rw [if_pos (show Region.wanted _ _ = true from rfl)]
              unfold Oper.wp
              simp [go_sem, d6]
              exact hK _ _ (Below.refl _ _) trivial rfl
            · intro a ws f hle hjj hfi hun hdn hag hdep K Q hK
              have d35 : (a.tmps[35]?).getD undef = .slice A2 n c2 := eval_get (dep_of hdep 5 35 rfl (by kernel_rfl) rfl rfl)
              have d36 : (a.tmps[36]?).getD undef = .int .i64 (i : Nat) := eval_get (dep_of hdep 6 36 rfl (by kernel_rfl) rfl rfl)
              rw [if_pos (show Region.wanted _ _ = true from rfl)]
              unfold Oper.wp
              simp [go_sem, d35, d36, h_in]
              rw [hX]
              exact hK _ _ (Below.refl _ _) trivial rfl
            · intro a ws f hle hjj hfi hun hdn hag hdep K Q hK
              have d34 : (fun q0 w5 => ∃ vb, q0 = .slice (some ⟨vb, 0, none⟩) 1 1 ∧ w5.heap[vb]? = some (.cells #[.int .i64 k1, .int .i64 t1, .int .i64 u1, .int .i64 v1, .int .i64 x1, .int .i64 y1, .int .i64 z1] 26 (0, 0))) (a.eval (.tmp 34)) ws := dep_of hdep 4 34 rfl (by kernel_rfl) rfl rfl
              have d37 : (a.tmps[37]?).getD undef = .slice X (n - i) (c2 - i) := eval_get (dep_of hdep 7 37 rfl (by kernel_rfl) rfl rfl)
              rw [if_pos (show Region.wanted _ _ = true from rfl)]
              obtain ⟨vb, d34, hvb⟩ := d34
              have d34 := eval_get d34
              obtain ⟨A7, c7, w7, hr7, hv7, hb7⟩ := append_full ws vb ⟨k1, t1, u1, v1, x1, y1, z1⟩ X (c2 - i) (out.drop i) hvb (HRX.out.up hle) HLD.out
              rw [HDL.out] at hr7
              unfold Oper.wp execOp
              simp only [resolve, invoke, builtin, Sem.run_bind, Sem.run_pure, Result.andThen_ok, List.map_toArray, List.map_cons, List.map_nil, Act.eval, Array.getD_eq_getD_getElem?, d34, d37, hr7]
              exact hK _ _ hb7 trivial ⟨A7, c7, rfl, hv7⟩
          · intro a ws f hle hjj hft hff hsz hdf hag hend
            have f30 : a.eval (.tmp 30) = .slice A2 n c2 := end_of hend 0 30 (by decide) rfl rfl rfl
            have f31 : a.eval (.tmp 31) = .int .i64 (i : Nat) := end_of hend 1 31 (by decide) rfl rfl rfl
            have f32 : a.eval (.tmp 32) = .slice A2 i c2 := end_of hend 2 32 (by decide) rfl rfl rfl
            have f33 : a.eval (.tmp 33) = .agg #[.int .i64 k1, .int .i64 t1, .int .i64 u1, .int .i64 v1, .int .i64 x1, .int .i64 y1, .int .i64 z1] := end_of hend 3 33 (by decide) rfl rfl rfl
            have f34 : (fun q0 w5 => ∃ vb, q0 = .slice (some ⟨vb, 0, none⟩) 1 1 ∧ w5.heap[vb]? = some (.cells #[.int .i64 k1, .int .i64 t1, .int .i64 u1, .int .i64 v1, .int .i64 x1, .int .i64 y1, .int .i64 z1] 26 (0, 0))) (a.eval (.tmp 34)) ws := end_of hend 4 34 (by decide) rfl rfl rfl
            have f35 : a.eval (.tmp 35) = .slice A2 n c2 := end_of hend 5 35 (by decide) rfl rfl rfl
            have f36 : a.eval (.tmp 36) = .int .i64 (i : Nat) := end_of hend 6 36 (by decide) rfl rfl rfl
            have f37 : a.eval (.tmp 37) = .slice X (n - i) (c2 - i) := end_of hend 7 37 (by decide) rfl rfl rfl
            have f38 : (fun q0 w5 => ∃ A7 c7, q0 = .slice A7 (n - i + 1) c7 ∧ RV w5.heap.size w5 A7 c7 (⟨k1, t1, u1, v1, x1, y1, z1⟩ :: out.drop i)) (a.eval (.tmp 38)) ws := end_of hend 8 38 (by decide) rfl rfl rfl
            have ea := act_block 30 9 hsz hdf hag [30, 31, 32, 33, 34, 35, 36, 37, 38] (by kernel_rfl) (by kernel_rfl) (of_decide_eq_true (by kernel_rfl))
            clear hag hend hsz hdf
            simp only [List.map_cons, List.map_nil, f30, f31, f32, f33, f35, f36, f37] at ea
            clear f30 f31 f32 f33 f35 f36 f37
            generalize a.eval (.tmp 34) = x34 at ea f34
            generalize a.eval (.tmp 38) = x38 at ea f38
            simp only [List.take_succ_cons, List.take_zero, List.drop_succ_cons, List.drop_zero, List.cons_append, List.nil_append] at ea
            subst ea
            obtain ⟨A7, c7, rfl, hr7⟩ := f38
            have HR7 := Lib.hid hr7
            have HOS := Lib.hid (own_up HOT.out hle)
            have HBS : Hid (Below w.heap.size w ws) := HBW.out.trans ((HB5.out.trans (hle.mono HB5.out.size)).mono HBW.out.size)
            have hLL : (⟨k1, t1, u1, v1, x1, y1, z1⟩ :: out.drop i : List Ev).length = n - i + 1 := by rw [List.length_cons, HDL.out]
            clear hr7 f34 hle hjj hft hff HM1 HM2 HRX
            simp only [List.drop_succ_cons, List.drop_zero]
            go_wp2_with (at_builtin; (refine wpList_applV _ rfl (.tmp 32) (.tmp 38) w.heap.size A2 c2 rfl (out.take i) (by rw [HTL.out]; simp [Act.eval]) HOS.out A7 c7 (n - i + 1) (⟨k1, t1, u1, v1, x1, y1, z1⟩ :: out.drop i) hLL (by simp [Act.eval]) HR7.out (by rw [HTL.out]; omega) HBS.out.size ?_; intro A6 c6 w6 HO6 HB6 _))
            rw [HIN.out] at HO6
            have HLS : Hid ((Rd.stab (l.take (j + 1))).length = n + 1) := by show _ = _; rw [HST.out, Rd.ins_len, HN.out]
            have HB7 := Lib.hid (HBS.out.trans HB6.out)
            go_wp2
            go_roundw
            case rel => exact ⟨j + 1, A6, c6, by go_num, by rw [HLS.out, HN.out, show min i n + (n - i + 1) = n + 1 by omega], by omega, HO6.out, HB7.out⟩
            case measure => simp [RowKit.intOf]; try omega
    · obtain rfl : j = l.length := by omega
      rw [List.take_length] at HO ⊢
      go_wp2
      go_ret
      exact ⟨A2, c2, rfl, RX.of_own HO.out, HB.out⟩
end Go.Proofs.Ytgdhjllfdndmnaa
