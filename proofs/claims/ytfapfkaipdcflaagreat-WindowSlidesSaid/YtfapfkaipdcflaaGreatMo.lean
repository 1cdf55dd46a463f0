/-
  The reference's Apply: events of kind 3.
-/
import Derived.Test.YtfapfkaipdcflaaGreatMn
namespace Go.Proofs.YtfapfkaipdcflaaGreat.K
open Go.RowKit Go.Lib

set_option maxHeartbeats 8000000 in
set_option maxRecDepth 100000 in
theorem rapply_k3 (n : Int) (A : Option Addr) (c : Nat) (l : List Ls.Lk) (t u v x y z : Int) (w : World) (h : RL w.heap.size w A c l) (hl : l.length ≤ 60000) (hV0 : Ls.V n l) (hG0 : Ls.Good n ⟨3, t, u, v, x, y, z⟩) :
    Calls Tryz.prog 28 #[.agg #[.int .i64 n, .slice A l.length c], .agg #[.int .i64 3, .int .i64 t, .int .i64 u, .int .i64 v, .int .i64 x, .int .i64 y, .int .i64 z]] w (ApplyT n l ⟨3, t, u, v, x, y, z⟩ w) := by
  obtain ⟨W1, hW1⟩ : ∃ W1, ((w.alloc (.cells #[.int .i64 n, .slice A l.length c] 24)).alloc (.cells #[.int .i64 3, .int .i64 t, .int .i64 u, .int .i64 v, .int .i64 x, .int .i64 y, .int .i64 z] 57)).alloc (.cells #[.int .i64 0, .slice none 0 0] 24) = W1 := ⟨_, rfl⟩
  obtain ⟨n0, n1, n2, n3, n4⟩ := new_three w _ _ _ W1 hW1
  obtain ⟨G, hG⟩ : ∃ G, Hid (w.heap.size = G) := ⟨_, rfl⟩
  have HW1 := Lib.hid hW1
  have HB1 := Lib.hid n4
  have H1 := Lib.hid (h.up n4)
  rw [hG.out] at n0 n1 n2 n3
  have N0 := Lib.hid n0; have N1 := Lib.hid n1; have N2 := Lib.hid n2; have N3 := Lib.hid n3
  have C13 := Lib.hid (rcheckS_any n A c l W1 H1.out (by omega))
  have s0 := Go.Joins.cell_of_block n0 0; have s1 := Go.Joins.cell_of_block n0 1
  simp only [List.getElem?_toArray, List.getElem?_cons_succ, List.getElem?_cons_zero] at s0 s1
  clear h hW1 n4 n0 n1 n2
  obtain ⟨R, HR⟩ : ∃ R, Hid (Ls.chkS n l = R) := ⟨_, rfl⟩
  simp only [HR.out] at C13
  go_enter Tryz.func28, Tryz.ntmps28
  go_wp2_with fail
  rw [HW1.out]
  simp only [hG.out]
  refine C13.out.mono ?_
  rintro e w2 ⟨rfl, hb2⟩
  have B2 := Lib.hid hb2
  clear hb2 C13 s0 s1
  have hR : R = 0 := by rw [← HR.out]; exact (Ls.chkS_zero n l).2 hV0
  subst hR
  have HV := Lib.hid hV0
  have HGD := Lib.hid hG0
  clear hV0 hG0
  have n1 := (B2.out.block (G + 1) (by rw [N3.out]; omega)).trans N1.out
  have hev := Go.Joins.cell_of_block n1
  have e0 := hev 0; have e1 := hev 1; have e2 := hev 2; have e3 := hev 3; have e4 := hev 4; have e5 := hev 5; have e6 := hev 6
  simp only [List.getElem?_toArray, List.getElem?_cons_succ, List.getElem?_cons_zero] at e0 e1 e2 e3 e4 e5 e6
  have hs2 : G + 3 ≤ w2.heap.size := by have := B2.out.size; rw [N3.out] at this; exact this
  have C40 := Lib.hid (rcheck_anyE 3 t u v x y z w2)
  obtain ⟨R2, HR2⟩ : ∃ R2, Hid (chkE ⟨3, t, u, v, x, y, z⟩ = R2) := ⟨_, rfl⟩
  rw [HR2.out] at C40
  clear hev n1
  go_wp2_with fail
  refine C40.out.mono ?_
  rintro e w3 ⟨rfl, hb3⟩
  have B3 := Lib.hid (B2.out.trans (hb3.mono B2.out.size))
  have B23 := Lib.hid hb3
  clear hb3 C40 e0 e1 e2 e3 e4 e5 e6
  have hR2 : R2 = 0 := by rw [← HR2.out]; exact HGD.out.1
  subst hR2
  have n0 := (B3.out.block G (by rw [N3.out]; omega)).trans N0.out
  have s0 := Go.Joins.cell_of_block n0 0; have s1 := Go.Joins.cell_of_block n0 1
  have n1 := (B3.out.block (G + 1) (by rw [N3.out]; omega)).trans N1.out
  have hev := Go.Joins.cell_of_block n1
  have e0 := hev 0; have e1 := hev 1; have e2 := hev 2; have e3 := hev 3; have e4 := hev 4; have e5 := hev 5; have e6 := hev 6
  simp only [List.getElem?_toArray, List.getElem?_cons_succ, List.getElem?_cons_zero] at s0 s1 e0 e1 e2 e3 e4 e5 e6
  have hs3 : G + 3 ≤ w3.heap.size := Nat.le_trans hs2 B23.out.size
  have M0 := Lib.hid n0; have M1 := Lib.hid n1
  clear hev n0 n1
  have hu : ¬ n ≤ u := by have := HGD.out.2.1; dsimp only at this; omega
  have hv : ¬ n ≤ v := by have := HGD.out.2.2; dsimp only at this; omega
  have HAE : Hid (Ls.apE n l ⟨3, t, u, v, x, y, z⟩ = 0) := (Ls.apE_zero _ _ _).2 ⟨HV.out, HGD.out⟩
  obtain ⟨O, hO⟩ : ∃ O, Hid (w3.heap.size = O) := ⟨_, rfl⟩
  obtain ⟨U, hU⟩ : ∃ U, Hid (min u v = U) := ⟨_, rfl⟩
  obtain ⟨V, hV⟩ : ∃ V, Hid (max u v = V) := ⟨_, rfl⟩
  have HLK : Hid (Ls.lk ⟨3, t, u, v, x, y, z⟩ = ⟨U, V, x, y, z, t⟩) := by show _ = _; rw [← hU.out, ← hV.out]; rfl
  obtain ⟨W5, hW5⟩ : ∃ W5, Hid ((w3.alloc (.cells #[.int .i64 n, .slice none 0 0] 24)).alloc (.cells #[.int .i64 U, .int .i64 V, .int .i64 x, .int .i64 y, .int .i64 z, .int .i64 t] 62) = W5) := ⟨_, rfl⟩
  have HT0 : Hid (TL w3 O (O + 1) n ⟨U, V, x, y, z, t⟩ ⟨U, V, x, y, z, t⟩ (.slice none 0 0) [] none 0 [] none 0 W5) := by
    obtain ⟨m0, m1, m2, m3⟩ := new_two w3 (.cells #[.int .i64 n, .slice none 0 0] 24) (.cells #[.int .i64 U, .int .i64 V, .int .i64 x, .int .i64 y, .int .i64 z, .int .i64 t] 62)
    show TL _ _ _ _ _ _ _ _ _ _ _ _ _ _
    rw [← hW5.out, ← hO.out]
    exact ⟨m3, m0, m1, m1, World.ownsRow_nil _ _ _ _, World.ownsRow_nil _ _ _ _, Nat.lt_succ_self _⟩
  have du : decide (u ≥ n) = false := by rw [decide_eq_false_iff_not]; omega
  have dv : decide (v ≥ n) = false := by rw [decide_eq_false_iff_not]; omega
  clear hu hv
  have hg0 : G < w3.heap.size := by omega
  have hg1 : G + 1 < w3.heap.size := by omega
  go_wp2_with fail
  rw [hU.out, hV.out, hW5.out]
  simp only [hO.out]
  clear s0 s1 e0 e1 e2 e3 e4 e5 e6 hg0 hg1 du dv
  have HM0 : Hid (Ls.rem ⟨3, t, u, v, x, y, z⟩ true l = (Ls.nextL l ⟨3, t, u, v, x, y, z⟩, Ls.chg l ⟨3, t, u, v, x, y, z⟩)) := Ls.rem_all ⟨3, t, u, v, x, y, z⟩ l HV.out.2.2.1
  have H3 : Hid (RL O w3 A c l) := by show RL _ _ _ _ _; rw [← hO.out]; exact H1.out.up B3.out
  have hGO : G + 3 ≤ O := by rw [← hO.out]; exact hs3
  have M2 := Lib.hid ((B3.out.block (G + 2) (by rw [N3.out]; omega)).trans N2.out)
  clear HR2 B23 hs2 hs3 hW5
  go_loopw [10, 12, 69] (fun q d i wr => ∃ (j : Nat) (A2 : Option Addr) (c2 : Nat) (out : List Ls.Lk) (A1 : Option Addr) (c1 : Nat) (ch : List Ev), j ≤ l.length ∧ i = .int .i64 j ∧ d = .bool true ∧ q = .slice A1 ch.length c1 ∧ out.length ≤ 2 * j ∧ ch.length ≤ 2 * j ∧ Hid ((Ls.nextL l ⟨3, t, u, v, x, y, z⟩, Ls.chg l ⟨3, t, u, v, x, y, z⟩) = (out ++ (Ls.rem ⟨3, t, u, v, x, y, z⟩ true (l.drop j)).1, ch ++ (Ls.rem ⟨3, t, u, v, x, y, z⟩ true (l.drop j)).2)) ∧ Hid (TL w3 O (O + 1) n ⟨U, V, x, y, z, t⟩ ⟨U, V, x, y, z, t⟩ (.slice A2 out.length c2) out A2 c2 ch A1 c1 wr)) (fun _ _ i _ => l.length - (RowKit.intOf i).toNat)
  case atStart => exact ⟨0, none, 0, [], none, 0, [], Nat.zero_le _, rfl, rfl, rfl, Nat.zero_le _, Nat.zero_le _, by show _ = _; rw [List.drop_zero, HM0.out]; rfl, HT0.out⟩
  case round =>
    obtain ⟨j, A2, c2, out, A1, c1, ch, hj, rfl, rfl, rfl, hlo, hlc, HM, HT⟩ := hrel
    clear HT0 HM0
    by_cases hlt : j < l.length
    · obtain ⟨b, off, ⟨au, av, ax, ay, az, at'⟩, rfl, hb, hx, c0, c1', c2', c3, c4, c5⟩ := RL.at_ (k := j) (H3.out.go HT.out.bel) hlt
      dsimp only at c0 c1' c2' c3 c4 c5
      have hbw : b < wr.heap.size := Nat.lt_trans hb (lt_of_some HT.out.bO)
      have HD : Hid (l.drop j = ⟨au, av, ax, ay, az, at'⟩ :: l.drop (j + 1)) := drop_here hx
      rw [HD.out] at HM
      obtain ⟨Qb, hQ⟩ : ∃ Q, Hid (wr.heap.size = Q) := ⟨_, rfl⟩
      obtain ⟨W6, hW6⟩ : ∃ W6, Hid (wr.alloc (.cells #[.int .i64 au, .int .i64 av, .int .i64 ax, .int .i64 ay, .int .i64 az, .int .i64 at'] 62) = W6) := ⟨_, rfl⟩
      have HT6 : Hid (TL w3 O Qb n ⟨U, V, x, y, z, t⟩ ⟨au, av, ax, ay, az, at'⟩ (.slice A2 out.length c2) out A2 c2 ch A1 c1 W6) := by show TL _ _ _ _ _ _ _ _ _ _ _ _ _ _; rw [← hW6.out, ← hQ.out]; exact HT.out.withQ ⟨au, av, ax, ay, az, at'⟩
      have HQN : Hid ((Value.slice A2 out.length c2).ownBlock ≠ some Qb) := fun e => by have := (HT.out.ownO.lt _ e).2; have := hQ.out; omega
      have hl6 : l.length ≤ 60000 := hl
      clear hx HT HD
      by_cases hs1 : au = U
      · subst hs1
        by_cases hs2 : av = V
        · subst hs2
          by_cases hh1 : u = au
          · subst hh1
            go_wp2_with fail
            rw [hW6.out]
            try simp only [hQ.out]
            clear c0 c1' c2' c3 c4 c5 hbw
            refine wp_region_over (by kernel_rfl) (by kernel_rfl) ?_
            repeat (go_big_quiet_step (fail))
            refine wpQuiet_nil ?_
            rintro _ ⟨zz, rfl⟩
            obtain ⟨W7, hW7⟩ : ∃ W7, Hid (over W6 zz = W7) := ⟨_, rfl⟩
            have HT7 : Hid (TL w3 O Qb n ⟨u, av, x, y, z, t⟩ ⟨u, av, ax, ay, az, at'⟩ (.slice A2 out.length c2) out A2 c2 ch A1 c1 W7) := by show TL _ _ _ _ _ _ _ _ _ _ _ _ _ _; rw [← hW7.out]; exact HT6.out.up (over_below _ zz)
            rw [hW7.out]
            clear HT6 hW6
            have n0 := Go.Joins.cell_of_block HT7.out.bN 0
            have n1 := Go.Joins.cell_of_block HT7.out.bN 1
            have n2 := Go.Joins.cell_of_block HT7.out.bN 2
            have n3 := Go.Joins.cell_of_block HT7.out.bN 3
            have n4 := Go.Joins.cell_of_block HT7.out.bN 4
            have n5 := Go.Joins.cell_of_block HT7.out.bN 5
            simp only [List.getElem?_toArray, List.getElem?_cons_succ, List.getElem?_cons_zero] at n0 n1 n2 n3 n4 n5
            have q0 := Go.Joins.cell_of_block HT7.out.bQ 0
            have q1 := Go.Joins.cell_of_block HT7.out.bQ 1
            have q2 := Go.Joins.cell_of_block HT7.out.bQ 2
            have q3 := Go.Joins.cell_of_block HT7.out.bQ 3
            have q4 := Go.Joins.cell_of_block HT7.out.bQ 4
            have q5 := Go.Joins.cell_of_block HT7.out.bQ 5
            simp only [List.getElem?_toArray, List.getElem?_cons_succ, List.getElem?_cons_zero] at q0 q1 q2 q3 q4 q5
            have nl := lt_of_some HT7.out.bN; have ql := lt_of_some HT7.out.bQ
            go_wp2_with fail
            refine wp_region_over (by kernel_rfl) (by kernel_rfl) ?_
            repeat (go_big_quiet_step (first | (go_at_call 47; exact calls_over (redge_any _ _ _ _ _ _ _))))
            refine wpQuiet_nil ?_
            rintro _ ⟨zz, rfl⟩
            obtain ⟨W8, hW8⟩ : ∃ W8, Hid (over W7 zz = W8) := ⟨_, rfl⟩
            have HT8 : Hid (TL w3 O Qb n ⟨u, av, x, y, z, t⟩ ⟨u, av, ax, ay, az, at'⟩ (.slice A2 out.length c2) out A2 c2 ch A1 c1 W8) := by show TL _ _ _ _ _ _ _ _ _ _ _ _ _ _; rw [← hW8.out]; exact HT7.out.up (over_below _ zz)
            rw [hW8.out]
            clear HT7 hW7 nl ql n0 n1 n2 n3 n4 n5 q0 q1 q2 q3 q4 q5
            have n0 := Go.Joins.cell_of_block HT8.out.bN 0
            have n1 := Go.Joins.cell_of_block HT8.out.bN 1
            have n2 := Go.Joins.cell_of_block HT8.out.bN 2
            have n3 := Go.Joins.cell_of_block HT8.out.bN 3
            have n4 := Go.Joins.cell_of_block HT8.out.bN 4
            have n5 := Go.Joins.cell_of_block HT8.out.bN 5
            simp only [List.getElem?_toArray, List.getElem?_cons_succ, List.getElem?_cons_zero] at n0 n1 n2 n3 n4 n5
            have q0 := Go.Joins.cell_of_block HT8.out.bQ 0
            have q1 := Go.Joins.cell_of_block HT8.out.bQ 1
            have q2 := Go.Joins.cell_of_block HT8.out.bQ 2
            have q3 := Go.Joins.cell_of_block HT8.out.bQ 3
            have q4 := Go.Joins.cell_of_block HT8.out.bQ 4
            have q5 := Go.Joins.cell_of_block HT8.out.bQ 5
            simp only [List.getElem?_toArray, List.getElem?_cons_succ, List.getElem?_cons_zero] at q0 q1 q2 q3 q4 q5
            have p0 := Go.Joins.cell_of_block HT8.out.bO 0; have p1 := Go.Joins.cell_of_block HT8.out.bO 1; have pf := Go.Joins.unfrozen_of_block HT8.out.bO 1
            simp only [List.getElem?_toArray, List.getElem?_cons_succ, List.getElem?_cons_zero] at p0 p1
            have nl := lt_of_some HT8.out.bN; have ql := lt_of_some HT8.out.bQ; have pl := lt_of_some HT8.out.bO
            have hev := Go.Joins.cell_of_block ((HT8.out.bel.block (G + 1) (by omega)).trans M1.out)
            have e0 := hev 0; have e1 := hev 1; have e2 := hev 2
            simp only [List.getElem?_toArray, List.getElem?_cons_succ, List.getElem?_cons_zero] at e0 e1 e2
            have el := Nat.lt_trans (show G + 1 < O by omega) (lt_of_some HT8.out.bO)
            clear hev
            have HH : Hid (Ls.hit ⟨3, t, u, v, x, y, z⟩ ⟨u, av, ax, ay, az, at'⟩ = true) := by show _ = _; unfold Ls.hit; rw [if_neg (show ¬ (3 : Int) = 2 by decide)]; simp [Ls.has]
            go_wp2_with fail
            refine (rcut_any _ _ _ _ _ _ _ _).mono ?_
            rintro e W9 ⟨rfl, hb9⟩
            have HT9 := Lib.hid (HT8.out.up hb9)
            have hO9 : O + 1 < W9.heap.size := lt_of_some HT9.out.bN
            clear hb9
            go_wp2_with (at_builtin; (refine wpList_applV _ rfl (.tmp 155) (.tmp 160) (O + 2) A1 c1 rfl ch (by simp [Act.eval]) (HT9.out.ownC.alloc _) (some ⟨W9.heap.size, 0, none⟩) 1 1 [⟨2, t, u, av, 0, 0, 0⟩] rfl (by simp [Act.eval]) (RV_new1 W9 ⟨2, t, u, av, 0, 0, 0⟩) (by omega) (by simp; omega) ?_; intro A6 c6 w6 HO6 HB6 HG6; have HTa := Lib.hid (TL.appC (HT9.out.up (below_new _ _)) HO6.out HB6.out HG6.out); obtain ⟨o2, Ho2⟩ : ∃ o, Hid (ch ++ [(⟨2, t, u, av, 0, 0, 0⟩ : Ev)] = o) := ⟨_, rfl⟩; rw [Ho2.out] at HTa ⊢))
            clear HO6 HB6 HG6
            go_roundw
            case rel => exact ⟨j + 1, A2, c2, out, A6, c6, o2, hlt, by go_num, rfl, rfl, by omega, by rw [← Ho2.out, List.length_append, List.length_singleton]; omega, by show _ = _; rw [HM.out, Ls.rem_cut1 _ _ _ (show (3 : Int) ≠ 1 by decide) HH.out, ← Ho2.out]; simp [Ls.cutE], HTa.out.unQ⟩
            case measure => simp [RowKit.intOf]; omega
          · have gg1 : (au == u) = false := by simpa using fun e : au = u => hh1 e.symm
            by_cases hh2 : u = av
            · subst hh2
              go_wp2_with fail
              rw [hW6.out]
              try simp only [hQ.out]
              clear c0 c1' c2' c3 c4 c5 hbw
              refine wp_region_over (by kernel_rfl) (by kernel_rfl) ?_
              repeat (go_big_quiet_step (fail))
              refine wpQuiet_nil ?_
              rintro _ ⟨zz, rfl⟩
              obtain ⟨W7, hW7⟩ : ∃ W7, Hid (over W6 zz = W7) := ⟨_, rfl⟩
              have HT7 : Hid (TL w3 O Qb n ⟨au, u, x, y, z, t⟩ ⟨au, u, ax, ay, az, at'⟩ (.slice A2 out.length c2) out A2 c2 ch A1 c1 W7) := by show TL _ _ _ _ _ _ _ _ _ _ _ _ _ _; rw [← hW7.out]; exact HT6.out.up (over_below _ zz)
              rw [hW7.out]
              clear HT6 hW6
              have n0 := Go.Joins.cell_of_block HT7.out.bN 0
              have n1 := Go.Joins.cell_of_block HT7.out.bN 1
              have n2 := Go.Joins.cell_of_block HT7.out.bN 2
              have n3 := Go.Joins.cell_of_block HT7.out.bN 3
              have n4 := Go.Joins.cell_of_block HT7.out.bN 4
              have n5 := Go.Joins.cell_of_block HT7.out.bN 5
              simp only [List.getElem?_toArray, List.getElem?_cons_succ, List.getElem?_cons_zero] at n0 n1 n2 n3 n4 n5
              have q0 := Go.Joins.cell_of_block HT7.out.bQ 0
              have q1 := Go.Joins.cell_of_block HT7.out.bQ 1
              have q2 := Go.Joins.cell_of_block HT7.out.bQ 2
              have q3 := Go.Joins.cell_of_block HT7.out.bQ 3
              have q4 := Go.Joins.cell_of_block HT7.out.bQ 4
              have q5 := Go.Joins.cell_of_block HT7.out.bQ 5
              simp only [List.getElem?_toArray, List.getElem?_cons_succ, List.getElem?_cons_zero] at q0 q1 q2 q3 q4 q5
              have nl := lt_of_some HT7.out.bN; have ql := lt_of_some HT7.out.bQ
              go_wp2_with fail
              refine wp_region_over (by kernel_rfl) (by kernel_rfl) ?_
              repeat (go_big_quiet_step (first | (go_at_call 47; exact calls_over (redge_any _ _ _ _ _ _ _))))
              refine wpQuiet_nil ?_
              rintro _ ⟨zz, rfl⟩
              obtain ⟨W8, hW8⟩ : ∃ W8, Hid (over W7 zz = W8) := ⟨_, rfl⟩
              have HT8 : Hid (TL w3 O Qb n ⟨au, u, x, y, z, t⟩ ⟨au, u, ax, ay, az, at'⟩ (.slice A2 out.length c2) out A2 c2 ch A1 c1 W8) := by show TL _ _ _ _ _ _ _ _ _ _ _ _ _ _; rw [← hW8.out]; exact HT7.out.up (over_below _ zz)
              rw [hW8.out]
              clear HT7 hW7 nl ql n0 n1 n2 n3 n4 n5 q0 q1 q2 q3 q4 q5
              have n0 := Go.Joins.cell_of_block HT8.out.bN 0
              have n1 := Go.Joins.cell_of_block HT8.out.bN 1
              have n2 := Go.Joins.cell_of_block HT8.out.bN 2
              have n3 := Go.Joins.cell_of_block HT8.out.bN 3
              have n4 := Go.Joins.cell_of_block HT8.out.bN 4
              have n5 := Go.Joins.cell_of_block HT8.out.bN 5
              simp only [List.getElem?_toArray, List.getElem?_cons_succ, List.getElem?_cons_zero] at n0 n1 n2 n3 n4 n5
              have q0 := Go.Joins.cell_of_block HT8.out.bQ 0
              have q1 := Go.Joins.cell_of_block HT8.out.bQ 1
              have q2 := Go.Joins.cell_of_block HT8.out.bQ 2
              have q3 := Go.Joins.cell_of_block HT8.out.bQ 3
              have q4 := Go.Joins.cell_of_block HT8.out.bQ 4
              have q5 := Go.Joins.cell_of_block HT8.out.bQ 5
              simp only [List.getElem?_toArray, List.getElem?_cons_succ, List.getElem?_cons_zero] at q0 q1 q2 q3 q4 q5
              have p0 := Go.Joins.cell_of_block HT8.out.bO 0; have p1 := Go.Joins.cell_of_block HT8.out.bO 1; have pf := Go.Joins.unfrozen_of_block HT8.out.bO 1
              simp only [List.getElem?_toArray, List.getElem?_cons_succ, List.getElem?_cons_zero] at p0 p1
              have nl := lt_of_some HT8.out.bN; have ql := lt_of_some HT8.out.bQ; have pl := lt_of_some HT8.out.bO
              have hev := Go.Joins.cell_of_block ((HT8.out.bel.block (G + 1) (by omega)).trans M1.out)
              have e0 := hev 0; have e1 := hev 1; have e2 := hev 2
              simp only [List.getElem?_toArray, List.getElem?_cons_succ, List.getElem?_cons_zero] at e0 e1 e2
              have el := Nat.lt_trans (show G + 1 < O by omega) (lt_of_some HT8.out.bO)
              clear hev
              have HH : Hid (Ls.hit ⟨3, t, u, v, x, y, z⟩ ⟨au, u, ax, ay, az, at'⟩ = true) := by show _ = _; unfold Ls.hit; rw [if_neg (show ¬ (3 : Int) = 2 by decide)]; simp [Ls.has]
              clear hh1
              go_wp2_with fail
              refine (rcut_any _ _ _ _ _ _ _ _).mono ?_
              rintro e W9 ⟨rfl, hb9⟩
              have HT9 := Lib.hid (HT8.out.up hb9)
              have hO9 : O + 1 < W9.heap.size := lt_of_some HT9.out.bN
              clear hb9
              go_wp2_with (at_builtin; (refine wpList_applV _ rfl (.tmp 155) (.tmp 160) (O + 2) A1 c1 rfl ch (by simp [Act.eval]) (HT9.out.ownC.alloc _) (some ⟨W9.heap.size, 0, none⟩) 1 1 [⟨2, t, au, u, 0, 0, 0⟩] rfl (by simp [Act.eval]) (RV_new1 W9 ⟨2, t, au, u, 0, 0, 0⟩) (by omega) (by simp; omega) ?_; intro A6 c6 w6 HO6 HB6 HG6; have HTa := Lib.hid (TL.appC (HT9.out.up (below_new _ _)) HO6.out HB6.out HG6.out); obtain ⟨o2, Ho2⟩ : ∃ o, Hid (ch ++ [(⟨2, t, au, u, 0, 0, 0⟩ : Ev)] = o) := ⟨_, rfl⟩; rw [Ho2.out] at HTa ⊢))
              clear HO6 HB6 HG6
              go_roundw
              case rel => exact ⟨j + 1, A2, c2, out, A6, c6, o2, hlt, by go_num, rfl, rfl, by omega, by rw [← Ho2.out, List.length_append, List.length_singleton]; omega, by show _ = _; rw [HM.out, Ls.rem_cut1 _ _ _ (show (3 : Int) ≠ 1 by decide) HH.out, ← Ho2.out]; simp [Ls.cutE], HTa.out.unQ⟩
              case measure => simp [RowKit.intOf]; omega
            · have gg2 : (av == u) = false := by simpa using fun e : av = u => hh2 e.symm
              go_wp2_with fail
              rw [hW6.out]
              try simp only [hQ.out]
              clear c0 c1' c2' c3 c4 c5 hbw
              refine wp_region_over (by kernel_rfl) (by kernel_rfl) ?_
              repeat (go_big_quiet_step (fail))
              refine wpQuiet_nil ?_
              rintro _ ⟨zz, rfl⟩
              obtain ⟨W7, hW7⟩ : ∃ W7, Hid (over W6 zz = W7) := ⟨_, rfl⟩
              have HT7 : Hid (TL w3 O Qb n ⟨au, av, x, y, z, t⟩ ⟨au, av, ax, ay, az, at'⟩ (.slice A2 out.length c2) out A2 c2 ch A1 c1 W7) := by show TL _ _ _ _ _ _ _ _ _ _ _ _ _ _; rw [← hW7.out]; exact HT6.out.up (over_below _ zz)
              rw [hW7.out]
              clear HT6 hW6
              have n0 := Go.Joins.cell_of_block HT7.out.bN 0
              have n1 := Go.Joins.cell_of_block HT7.out.bN 1
              have n2 := Go.Joins.cell_of_block HT7.out.bN 2
              have n3 := Go.Joins.cell_of_block HT7.out.bN 3
              have n4 := Go.Joins.cell_of_block HT7.out.bN 4
              have n5 := Go.Joins.cell_of_block HT7.out.bN 5
              simp only [List.getElem?_toArray, List.getElem?_cons_succ, List.getElem?_cons_zero] at n0 n1 n2 n3 n4 n5
              have q0 := Go.Joins.cell_of_block HT7.out.bQ 0
              have q1 := Go.Joins.cell_of_block HT7.out.bQ 1
              have q2 := Go.Joins.cell_of_block HT7.out.bQ 2
              have q3 := Go.Joins.cell_of_block HT7.out.bQ 3
              have q4 := Go.Joins.cell_of_block HT7.out.bQ 4
              have q5 := Go.Joins.cell_of_block HT7.out.bQ 5
              simp only [List.getElem?_toArray, List.getElem?_cons_succ, List.getElem?_cons_zero] at q0 q1 q2 q3 q4 q5
              have nl := lt_of_some HT7.out.bN; have ql := lt_of_some HT7.out.bQ
              go_wp2_with fail
              refine wp_region_over (by kernel_rfl) (by kernel_rfl) ?_
              repeat (go_big_quiet_step (first | (go_at_call 47; exact calls_over (redge_any _ _ _ _ _ _ _))))
              refine wpQuiet_nil ?_
              rintro _ ⟨zz, rfl⟩
              obtain ⟨W8, hW8⟩ : ∃ W8, Hid (over W7 zz = W8) := ⟨_, rfl⟩
              have HT8 : Hid (TL w3 O Qb n ⟨au, av, x, y, z, t⟩ ⟨au, av, ax, ay, az, at'⟩ (.slice A2 out.length c2) out A2 c2 ch A1 c1 W8) := by show TL _ _ _ _ _ _ _ _ _ _ _ _ _ _; rw [← hW8.out]; exact HT7.out.up (over_below _ zz)
              rw [hW8.out]
              clear HT7 hW7 nl ql n0 n1 n2 n3 n4 n5 q0 q1 q2 q3 q4 q5
              have n0 := Go.Joins.cell_of_block HT8.out.bN 0
              have n1 := Go.Joins.cell_of_block HT8.out.bN 1
              have n2 := Go.Joins.cell_of_block HT8.out.bN 2
              have n3 := Go.Joins.cell_of_block HT8.out.bN 3
              have n4 := Go.Joins.cell_of_block HT8.out.bN 4
              have n5 := Go.Joins.cell_of_block HT8.out.bN 5
              simp only [List.getElem?_toArray, List.getElem?_cons_succ, List.getElem?_cons_zero] at n0 n1 n2 n3 n4 n5
              have q0 := Go.Joins.cell_of_block HT8.out.bQ 0
              have q1 := Go.Joins.cell_of_block HT8.out.bQ 1
              have q2 := Go.Joins.cell_of_block HT8.out.bQ 2
              have q3 := Go.Joins.cell_of_block HT8.out.bQ 3
              have q4 := Go.Joins.cell_of_block HT8.out.bQ 4
              have q5 := Go.Joins.cell_of_block HT8.out.bQ 5
              simp only [List.getElem?_toArray, List.getElem?_cons_succ, List.getElem?_cons_zero] at q0 q1 q2 q3 q4 q5
              have p0 := Go.Joins.cell_of_block HT8.out.bO 0; have p1 := Go.Joins.cell_of_block HT8.out.bO 1; have pf := Go.Joins.unfrozen_of_block HT8.out.bO 1
              simp only [List.getElem?_toArray, List.getElem?_cons_succ, List.getElem?_cons_zero] at p0 p1
              have nl := lt_of_some HT8.out.bN; have ql := lt_of_some HT8.out.bQ; have pl := lt_of_some HT8.out.bO
              have hev := Go.Joins.cell_of_block ((HT8.out.bel.block (G + 1) (by omega)).trans M1.out)
              have e0 := hev 0; have e1 := hev 1; have e2 := hev 2
              simp only [List.getElem?_toArray, List.getElem?_cons_succ, List.getElem?_cons_zero] at e0 e1 e2
              have el := Nat.lt_trans (show G + 1 < O by omega) (lt_of_some HT8.out.bO)
              clear hev
              have HH : Hid (Ls.hit ⟨3, t, u, v, x, y, z⟩ ⟨au, av, ax, ay, az, at'⟩ = false) := by show _ = _; unfold Ls.hit; rw [if_neg (show ¬ (3 : Int) = 2 by decide)]; simp [Ls.has, Ne.symm hh1, Ne.symm hh2]
              clear hh1 hh2
              go_wp2_with (at_builtin; (refine wpList_applL _ rfl (.tmp 101) (.tmp 103) (O + 2) A2 c2 rfl out (by simp [Act.eval]) (HT8.out.ownO.alloc _) (some ⟨W8.heap.size, 0, none⟩) 1 1 [⟨au, av, ax, ay, az, at'⟩] rfl (by simp [Act.eval]) (RL_new1 W8 ⟨au, av, ax, ay, az, at'⟩) (by omega) (by simp; omega) ?_; intro A6 c6 w6 HO6 HB6 HG6; have HT9 := Lib.hid (TL.appO (HT8.out.up (below_new _ _)) HO6.out HB6.out HG6.out); obtain ⟨o2, Ho2⟩ : ∃ o, Hid (out ++ [(⟨au, av, ax, ay, az, at'⟩ : Ls.Lk)] = o) := ⟨_, rfl⟩; rw [Ho2.out] at HT9 ⊢; have i1 := Go.Joins.cell_of_block HT9.out.bO 1; have jf := Go.Joins.unfrozen_of_block HT9.out.bO 1; simp only [List.getElem?_toArray, List.getElem?_cons_succ, List.getElem?_cons_zero] at i1; have il := lt_of_some HT9.out.bO))
              clear HO6 HB6 HG6 i1 jf il
              go_roundw
              case rel => exact ⟨j + 1, A6, c6, o2, A1, c1, ch, hlt, by go_num, rfl, rfl, by rw [← Ho2.out, List.length_append, List.length_singleton]; omega, by omega, by show _ = _; rw [HM.out, Ls.rem_cut0 _ _ _ (show (3 : Int) ≠ 1 by decide) HH.out, ← Ho2.out]; simp, HT9.out.store _⟩
              case measure => simp [RowKit.intOf]; omega
        · have g2 : (av == V) = false := by simpa using hs2
          have HS : Hid (Ls.same ⟨au, av, ax, ay, az, at'⟩ (Ls.lk ⟨3, t, u, v, x, y, z⟩) = false) := by show _ = _; rw [HLK.out]; simp [Ls.same, hs2]
          clear hs2
          by_cases hh1 : u = au
          · subst hh1
            go_wp2_with fail
            rw [hW6.out]
            try simp only [hQ.out]
            clear c0 c1' c2' c3 c4 c5 hbw
            refine wp_region_over (by kernel_rfl) (by kernel_rfl) ?_
            repeat (go_big_quiet_step (fail))
            refine wpQuiet_nil ?_
            rintro _ ⟨zz, rfl⟩
            obtain ⟨W7, hW7⟩ : ∃ W7, Hid (over W6 zz = W7) := ⟨_, rfl⟩
            have HT7 : Hid (TL w3 O Qb n ⟨u, V, x, y, z, t⟩ ⟨u, av, ax, ay, az, at'⟩ (.slice A2 out.length c2) out A2 c2 ch A1 c1 W7) := by show TL _ _ _ _ _ _ _ _ _ _ _ _ _ _; rw [← hW7.out]; exact HT6.out.up (over_below _ zz)
            rw [hW7.out]
            clear HT6 hW6
            have n0 := Go.Joins.cell_of_block HT7.out.bN 0
            have n1 := Go.Joins.cell_of_block HT7.out.bN 1
            have n2 := Go.Joins.cell_of_block HT7.out.bN 2
            have n3 := Go.Joins.cell_of_block HT7.out.bN 3
            have n4 := Go.Joins.cell_of_block HT7.out.bN 4
            have n5 := Go.Joins.cell_of_block HT7.out.bN 5
            simp only [List.getElem?_toArray, List.getElem?_cons_succ, List.getElem?_cons_zero] at n0 n1 n2 n3 n4 n5
            have q0 := Go.Joins.cell_of_block HT7.out.bQ 0
            have q1 := Go.Joins.cell_of_block HT7.out.bQ 1
            have q2 := Go.Joins.cell_of_block HT7.out.bQ 2
            have q3 := Go.Joins.cell_of_block HT7.out.bQ 3
            have q4 := Go.Joins.cell_of_block HT7.out.bQ 4
            have q5 := Go.Joins.cell_of_block HT7.out.bQ 5
            simp only [List.getElem?_toArray, List.getElem?_cons_succ, List.getElem?_cons_zero] at q0 q1 q2 q3 q4 q5
            have nl := lt_of_some HT7.out.bN; have ql := lt_of_some HT7.out.bQ
            go_wp2_with fail
            refine wp_region_over (by kernel_rfl) (by kernel_rfl) ?_
            repeat (go_big_quiet_step (first | (go_at_call 47; exact calls_over (redge_any _ _ _ _ _ _ _))))
            refine wpQuiet_nil ?_
            rintro _ ⟨zz, rfl⟩
            obtain ⟨W8, hW8⟩ : ∃ W8, Hid (over W7 zz = W8) := ⟨_, rfl⟩
            have HT8 : Hid (TL w3 O Qb n ⟨u, V, x, y, z, t⟩ ⟨u, av, ax, ay, az, at'⟩ (.slice A2 out.length c2) out A2 c2 ch A1 c1 W8) := by show TL _ _ _ _ _ _ _ _ _ _ _ _ _ _; rw [← hW8.out]; exact HT7.out.up (over_below _ zz)
            rw [hW8.out]
            clear HT7 hW7 nl ql n0 n1 n2 n3 n4 n5 q0 q1 q2 q3 q4 q5
            have n0 := Go.Joins.cell_of_block HT8.out.bN 0
            have n1 := Go.Joins.cell_of_block HT8.out.bN 1
            have n2 := Go.Joins.cell_of_block HT8.out.bN 2
            have n3 := Go.Joins.cell_of_block HT8.out.bN 3
            have n4 := Go.Joins.cell_of_block HT8.out.bN 4
            have n5 := Go.Joins.cell_of_block HT8.out.bN 5
            simp only [List.getElem?_toArray, List.getElem?_cons_succ, List.getElem?_cons_zero] at n0 n1 n2 n3 n4 n5
            have q0 := Go.Joins.cell_of_block HT8.out.bQ 0
            have q1 := Go.Joins.cell_of_block HT8.out.bQ 1
            have q2 := Go.Joins.cell_of_block HT8.out.bQ 2
            have q3 := Go.Joins.cell_of_block HT8.out.bQ 3
            have q4 := Go.Joins.cell_of_block HT8.out.bQ 4
            have q5 := Go.Joins.cell_of_block HT8.out.bQ 5
            simp only [List.getElem?_toArray, List.getElem?_cons_succ, List.getElem?_cons_zero] at q0 q1 q2 q3 q4 q5
            have p0 := Go.Joins.cell_of_block HT8.out.bO 0; have p1 := Go.Joins.cell_of_block HT8.out.bO 1; have pf := Go.Joins.unfrozen_of_block HT8.out.bO 1
            simp only [List.getElem?_toArray, List.getElem?_cons_succ, List.getElem?_cons_zero] at p0 p1
            have nl := lt_of_some HT8.out.bN; have ql := lt_of_some HT8.out.bQ; have pl := lt_of_some HT8.out.bO
            have hev := Go.Joins.cell_of_block ((HT8.out.bel.block (G + 1) (by omega)).trans M1.out)
            have e0 := hev 0; have e1 := hev 1; have e2 := hev 2
            simp only [List.getElem?_toArray, List.getElem?_cons_succ, List.getElem?_cons_zero] at e0 e1 e2
            have el := Nat.lt_trans (show G + 1 < O by omega) (lt_of_some HT8.out.bO)
            clear hev
            have HH : Hid (Ls.hit ⟨3, t, u, v, x, y, z⟩ ⟨u, av, ax, ay, az, at'⟩ = true) := by show _ = _; unfold Ls.hit; rw [if_neg (show ¬ (3 : Int) = 2 by decide)]; simp [Ls.has]
            go_wp2_with fail
            refine (rcut_any _ _ _ _ _ _ _ _).mono ?_
            rintro e W9 ⟨rfl, hb9⟩
            have HT9 := Lib.hid (HT8.out.up hb9)
            have hO9 : O + 1 < W9.heap.size := lt_of_some HT9.out.bN
            clear hb9
            go_wp2_with (at_builtin; (refine wpList_applV _ rfl (.tmp 155) (.tmp 160) (O + 2) A1 c1 rfl ch (by simp [Act.eval]) (HT9.out.ownC.alloc _) (some ⟨W9.heap.size, 0, none⟩) 1 1 [⟨2, t, u, av, 0, 0, 0⟩] rfl (by simp [Act.eval]) (RV_new1 W9 ⟨2, t, u, av, 0, 0, 0⟩) (by omega) (by simp; omega) ?_; intro A6 c6 w6 HO6 HB6 HG6; have HTa := Lib.hid (TL.appC (HT9.out.up (below_new _ _)) HO6.out HB6.out HG6.out); obtain ⟨o2, Ho2⟩ : ∃ o, Hid (ch ++ [(⟨2, t, u, av, 0, 0, 0⟩ : Ev)] = o) := ⟨_, rfl⟩; rw [Ho2.out] at HTa ⊢))
            clear HO6 HB6 HG6
            go_roundw
            case rel => exact ⟨j + 1, A2, c2, out, A6, c6, o2, hlt, by go_num, rfl, rfl, by omega, by rw [← Ho2.out, List.length_append, List.length_singleton]; omega, by show _ = _; rw [HM.out, Ls.rem_cut1 _ _ _ (show (3 : Int) ≠ 1 by decide) HH.out, ← Ho2.out]; simp [Ls.cutE], HTa.out.unQ⟩
            case measure => simp [RowKit.intOf]; omega
          · have gg1 : (au == u) = false := by simpa using fun e : au = u => hh1 e.symm
            by_cases hh2 : u = av
            · subst hh2
              go_wp2_with fail
              rw [hW6.out]
              try simp only [hQ.out]
              clear c0 c1' c2' c3 c4 c5 hbw
              refine wp_region_over (by kernel_rfl) (by kernel_rfl) ?_
              repeat (go_big_quiet_step (fail))
              refine wpQuiet_nil ?_
              rintro _ ⟨zz, rfl⟩
              obtain ⟨W7, hW7⟩ : ∃ W7, Hid (over W6 zz = W7) := ⟨_, rfl⟩
              have HT7 : Hid (TL w3 O Qb n ⟨au, V, x, y, z, t⟩ ⟨au, u, ax, ay, az, at'⟩ (.slice A2 out.length c2) out A2 c2 ch A1 c1 W7) := by show TL _ _ _ _ _ _ _ _ _ _ _ _ _ _; rw [← hW7.out]; exact HT6.out.up (over_below _ zz)
              rw [hW7.out]
              clear HT6 hW6
              have n0 := Go.Joins.cell_of_block HT7.out.bN 0
              have n1 := Go.Joins.cell_of_block HT7.out.bN 1
              have n2 := Go.Joins.cell_of_block HT7.out.bN 2
              have n3 := Go.Joins.cell_of_block HT7.out.bN 3
              have n4 := Go.Joins.cell_of_block HT7.out.bN 4
              have n5 := Go.Joins.cell_of_block HT7.out.bN 5
              simp only [List.getElem?_toArray, List.getElem?_cons_succ, List.getElem?_cons_zero] at n0 n1 n2 n3 n4 n5
              have q0 := Go.Joins.cell_of_block HT7.out.bQ 0
              have q1 := Go.Joins.cell_of_block HT7.out.bQ 1
              have q2 := Go.Joins.cell_of_block HT7.out.bQ 2
              have q3 := Go.Joins.cell_of_block HT7.out.bQ 3
              have q4 := Go.Joins.cell_of_block HT7.out.bQ 4
              have q5 := Go.Joins.cell_of_block HT7.out.bQ 5
              simp only [List.getElem?_toArray, List.getElem?_cons_succ, List.getElem?_cons_zero] at q0 q1 q2 q3 q4 q5
              have nl := lt_of_some HT7.out.bN; have ql := lt_of_some HT7.out.bQ
              go_wp2_with fail
              refine wp_region_over (by kernel_rfl) (by kernel_rfl) ?_
              repeat (go_big_quiet_step (first | (go_at_call 47; exact calls_over (redge_any _ _ _ _ _ _ _))))
              refine wpQuiet_nil ?_
              rintro _ ⟨zz, rfl⟩
              obtain ⟨W8, hW8⟩ : ∃ W8, Hid (over W7 zz = W8) := ⟨_, rfl⟩
              have HT8 : Hid (TL w3 O Qb n ⟨au, V, x, y, z, t⟩ ⟨au, u, ax, ay, az, at'⟩ (.slice A2 out.length c2) out A2 c2 ch A1 c1 W8) := by show TL _ _ _ _ _ _ _ _ _ _ _ _ _ _; rw [← hW8.out]; exact HT7.out.up (over_below _ zz)
              rw [hW8.out]
              clear HT7 hW7 nl ql n0 n1 n2 n3 n4 n5 q0 q1 q2 q3 q4 q5
              have n0 := Go.Joins.cell_of_block HT8.out.bN 0
              have n1 := Go.Joins.cell_of_block HT8.out.bN 1
              have n2 := Go.Joins.cell_of_block HT8.out.bN 2
              have n3 := Go.Joins.cell_of_block HT8.out.bN 3
              have n4 := Go.Joins.cell_of_block HT8.out.bN 4
              have n5 := Go.Joins.cell_of_block HT8.out.bN 5
              simp only [List.getElem?_toArray, List.getElem?_cons_succ, List.getElem?_cons_zero] at n0 n1 n2 n3 n4 n5
              have q0 := Go.Joins.cell_of_block HT8.out.bQ 0
              have q1 := Go.Joins.cell_of_block HT8.out.bQ 1
              have q2 := Go.Joins.cell_of_block HT8.out.bQ 2
              have q3 := Go.Joins.cell_of_block HT8.out.bQ 3
              have q4 := Go.Joins.cell_of_block HT8.out.bQ 4
              have q5 := Go.Joins.cell_of_block HT8.out.bQ 5
              simp only [List.getElem?_toArray, List.getElem?_cons_succ, List.getElem?_cons_zero] at q0 q1 q2 q3 q4 q5
              have p0 := Go.Joins.cell_of_block HT8.out.bO 0; have p1 := Go.Joins.cell_of_block HT8.out.bO 1; have pf := Go.Joins.unfrozen_of_block HT8.out.bO 1
              simp only [List.getElem?_toArray, List.getElem?_cons_succ, List.getElem?_cons_zero] at p0 p1
              have nl := lt_of_some HT8.out.bN; have ql := lt_of_some HT8.out.bQ; have pl := lt_of_some HT8.out.bO
              have hev := Go.Joins.cell_of_block ((HT8.out.bel.block (G + 1) (by omega)).trans M1.out)
              have e0 := hev 0; have e1 := hev 1; have e2 := hev 2
              simp only [List.getElem?_toArray, List.getElem?_cons_succ, List.getElem?_cons_zero] at e0 e1 e2
              have el := Nat.lt_trans (show G + 1 < O by omega) (lt_of_some HT8.out.bO)
              clear hev
              have HH : Hid (Ls.hit ⟨3, t, u, v, x, y, z⟩ ⟨au, u, ax, ay, az, at'⟩ = true) := by show _ = _; unfold Ls.hit; rw [if_neg (show ¬ (3 : Int) = 2 by decide)]; simp [Ls.has]
              clear hh1
              go_wp2_with fail
              refine (rcut_any _ _ _ _ _ _ _ _).mono ?_
              rintro e W9 ⟨rfl, hb9⟩
              have HT9 := Lib.hid (HT8.out.up hb9)
              have hO9 : O + 1 < W9.heap.size := lt_of_some HT9.out.bN
              clear hb9
              go_wp2_with (at_builtin; (refine wpList_applV _ rfl (.tmp 155) (.tmp 160) (O + 2) A1 c1 rfl ch (by simp [Act.eval]) (HT9.out.ownC.alloc _) (some ⟨W9.heap.size, 0, none⟩) 1 1 [⟨2, t, au, u, 0, 0, 0⟩] rfl (by simp [Act.eval]) (RV_new1 W9 ⟨2, t, au, u, 0, 0, 0⟩) (by omega) (by simp; omega) ?_; intro A6 c6 w6 HO6 HB6 HG6; have HTa := Lib.hid (TL.appC (HT9.out.up (below_new _ _)) HO6.out HB6.out HG6.out); obtain ⟨o2, Ho2⟩ : ∃ o, Hid (ch ++ [(⟨2, t, au, u, 0, 0, 0⟩ : Ev)] = o) := ⟨_, rfl⟩; rw [Ho2.out] at HTa ⊢))
              clear HO6 HB6 HG6
              go_roundw
              case rel => exact ⟨j + 1, A2, c2, out, A6, c6, o2, hlt, by go_num, rfl, rfl, by omega, by rw [← Ho2.out, List.length_append, List.length_singleton]; omega, by show _ = _; rw [HM.out, Ls.rem_cut1 _ _ _ (show (3 : Int) ≠ 1 by decide) HH.out, ← Ho2.out]; simp [Ls.cutE], HTa.out.unQ⟩
              case measure => simp [RowKit.intOf]; omega
            · have gg2 : (av == u) = false := by simpa using fun e : av = u => hh2 e.symm
              go_wp2_with fail
              rw [hW6.out]
              try simp only [hQ.out]
              clear c0 c1' c2' c3 c4 c5 hbw
              refine wp_region_over (by kernel_rfl) (by kernel_rfl) ?_
              repeat (go_big_quiet_step (fail))
              refine wpQuiet_nil ?_
              rintro _ ⟨zz, rfl⟩
              obtain ⟨W7, hW7⟩ : ∃ W7, Hid (over W6 zz = W7) := ⟨_, rfl⟩
              have HT7 : Hid (TL w3 O Qb n ⟨au, V, x, y, z, t⟩ ⟨au, av, ax, ay, az, at'⟩ (.slice A2 out.length c2) out A2 c2 ch A1 c1 W7) := by show TL _ _ _ _ _ _ _ _ _ _ _ _ _ _; rw [← hW7.out]; exact HT6.out.up (over_below _ zz)
              rw [hW7.out]
              clear HT6 hW6
              have n0 := Go.Joins.cell_of_block HT7.out.bN 0
              have n1 := Go.Joins.cell_of_block HT7.out.bN 1
              have n2 := Go.Joins.cell_of_block HT7.out.bN 2
              have n3 := Go.Joins.cell_of_block HT7.out.bN 3
              have n4 := Go.Joins.cell_of_block HT7.out.bN 4
              have n5 := Go.Joins.cell_of_block HT7.out.bN 5
              simp only [List.getElem?_toArray, List.getElem?_cons_succ, List.getElem?_cons_zero] at n0 n1 n2 n3 n4 n5
              have q0 := Go.Joins.cell_of_block HT7.out.bQ 0
              have q1 := Go.Joins.cell_of_block HT7.out.bQ 1
              have q2 := Go.Joins.cell_of_block HT7.out.bQ 2
              have q3 := Go.Joins.cell_of_block HT7.out.bQ 3
              have q4 := Go.Joins.cell_of_block HT7.out.bQ 4
              have q5 := Go.Joins.cell_of_block HT7.out.bQ 5
              simp only [List.getElem?_toArray, List.getElem?_cons_succ, List.getElem?_cons_zero] at q0 q1 q2 q3 q4 q5
              have nl := lt_of_some HT7.out.bN; have ql := lt_of_some HT7.out.bQ
              go_wp2_with fail
              refine wp_region_over (by kernel_rfl) (by kernel_rfl) ?_
              repeat (go_big_quiet_step (first | (go_at_call 47; exact calls_over (redge_any _ _ _ _ _ _ _))))
              refine wpQuiet_nil ?_
              rintro _ ⟨zz, rfl⟩
              obtain ⟨W8, hW8⟩ : ∃ W8, Hid (over W7 zz = W8) := ⟨_, rfl⟩
              have HT8 : Hid (TL w3 O Qb n ⟨au, V, x, y, z, t⟩ ⟨au, av, ax, ay, az, at'⟩ (.slice A2 out.length c2) out A2 c2 ch A1 c1 W8) := by show TL _ _ _ _ _ _ _ _ _ _ _ _ _ _; rw [← hW8.out]; exact HT7.out.up (over_below _ zz)
              rw [hW8.out]
              clear HT7 hW7 nl ql n0 n1 n2 n3 n4 n5 q0 q1 q2 q3 q4 q5
              have n0 := Go.Joins.cell_of_block HT8.out.bN 0
              have n1 := Go.Joins.cell_of_block HT8.out.bN 1
              have n2 := Go.Joins.cell_of_block HT8.out.bN 2
              have n3 := Go.Joins.cell_of_block HT8.out.bN 3
              have n4 := Go.Joins.cell_of_block HT8.out.bN 4
              have n5 := Go.Joins.cell_of_block HT8.out.bN 5
              simp only [List.getElem?_toArray, List.getElem?_cons_succ, List.getElem?_cons_zero] at n0 n1 n2 n3 n4 n5
              have q0 := Go.Joins.cell_of_block HT8.out.bQ 0
              have q1 := Go.Joins.cell_of_block HT8.out.bQ 1
              have q2 := Go.Joins.cell_of_block HT8.out.bQ 2
              have q3 := Go.Joins.cell_of_block HT8.out.bQ 3
              have q4 := Go.Joins.cell_of_block HT8.out.bQ 4
              have q5 := Go.Joins.cell_of_block HT8.out.bQ 5
              simp only [List.getElem?_toArray, List.getElem?_cons_succ, List.getElem?_cons_zero] at q0 q1 q2 q3 q4 q5
              have p0 := Go.Joins.cell_of_block HT8.out.bO 0; have p1 := Go.Joins.cell_of_block HT8.out.bO 1; have pf := Go.Joins.unfrozen_of_block HT8.out.bO 1
              simp only [List.getElem?_toArray, List.getElem?_cons_succ, List.getElem?_cons_zero] at p0 p1
              have nl := lt_of_some HT8.out.bN; have ql := lt_of_some HT8.out.bQ; have pl := lt_of_some HT8.out.bO
              have hev := Go.Joins.cell_of_block ((HT8.out.bel.block (G + 1) (by omega)).trans M1.out)
              have e0 := hev 0; have e1 := hev 1; have e2 := hev 2
              simp only [List.getElem?_toArray, List.getElem?_cons_succ, List.getElem?_cons_zero] at e0 e1 e2
              have el := Nat.lt_trans (show G + 1 < O by omega) (lt_of_some HT8.out.bO)
              clear hev
              have HH : Hid (Ls.hit ⟨3, t, u, v, x, y, z⟩ ⟨au, av, ax, ay, az, at'⟩ = false) := by show _ = _; unfold Ls.hit; rw [if_neg (show ¬ (3 : Int) = 2 by decide)]; simp [Ls.has, Ne.symm hh1, Ne.symm hh2]
              clear hh1 hh2
              go_wp2_with (at_builtin; (refine wpList_applL _ rfl (.tmp 101) (.tmp 103) (O + 2) A2 c2 rfl out (by simp [Act.eval]) (HT8.out.ownO.alloc _) (some ⟨W8.heap.size, 0, none⟩) 1 1 [⟨au, av, ax, ay, az, at'⟩] rfl (by simp [Act.eval]) (RL_new1 W8 ⟨au, av, ax, ay, az, at'⟩) (by omega) (by simp; omega) ?_; intro A6 c6 w6 HO6 HB6 HG6; have HT9 := Lib.hid (TL.appO (HT8.out.up (below_new _ _)) HO6.out HB6.out HG6.out); obtain ⟨o2, Ho2⟩ : ∃ o, Hid (out ++ [(⟨au, av, ax, ay, az, at'⟩ : Ls.Lk)] = o) := ⟨_, rfl⟩; rw [Ho2.out] at HT9 ⊢; have i1 := Go.Joins.cell_of_block HT9.out.bO 1; have jf := Go.Joins.unfrozen_of_block HT9.out.bO 1; simp only [List.getElem?_toArray, List.getElem?_cons_succ, List.getElem?_cons_zero] at i1; have il := lt_of_some HT9.out.bO))
              clear HO6 HB6 HG6 i1 jf il
              go_roundw
              case rel => exact ⟨j + 1, A6, c6, o2, A1, c1, ch, hlt, by go_num, rfl, rfl, by rw [← Ho2.out, List.length_append, List.length_singleton]; omega, by omega, by show _ = _; rw [HM.out, Ls.rem_cut0 _ _ _ (show (3 : Int) ≠ 1 by decide) HH.out, ← Ho2.out]; simp, HT9.out.store _⟩
              case measure => simp [RowKit.intOf]; omega
      · have g1 : (au == U) = false := by simpa using hs1
        have HS : Hid (Ls.same ⟨au, av, ax, ay, az, at'⟩ (Ls.lk ⟨3, t, u, v, x, y, z⟩) = false) := by show _ = _; rw [HLK.out]; simp [Ls.same, hs1]
        clear hs1
        by_cases hh1 : u = au
        · subst hh1
          go_wp2_with fail
          rw [hW6.out]
          try simp only [hQ.out]
          clear c0 c1' c2' c3 c4 c5 hbw
          refine wp_region_over (by kernel_rfl) (by kernel_rfl) ?_
          repeat (go_big_quiet_step (fail))
          refine wpQuiet_nil ?_
          rintro _ ⟨zz, rfl⟩
          obtain ⟨W7, hW7⟩ : ∃ W7, Hid (over W6 zz = W7) := ⟨_, rfl⟩
          have HT7 : Hid (TL w3 O Qb n ⟨U, V, x, y, z, t⟩ ⟨u, av, ax, ay, az, at'⟩ (.slice A2 out.length c2) out A2 c2 ch A1 c1 W7) := by show TL _ _ _ _ _ _ _ _ _ _ _ _ _ _; rw [← hW7.out]; exact HT6.out.up (over_below _ zz)
          rw [hW7.out]
          clear HT6 hW6
          have n0 := Go.Joins.cell_of_block HT7.out.bN 0
          have n1 := Go.Joins.cell_of_block HT7.out.bN 1
          have n2 := Go.Joins.cell_of_block HT7.out.bN 2
          have n3 := Go.Joins.cell_of_block HT7.out.bN 3
          have n4 := Go.Joins.cell_of_block HT7.out.bN 4
          have n5 := Go.Joins.cell_of_block HT7.out.bN 5
          simp only [List.getElem?_toArray, List.getElem?_cons_succ, List.getElem?_cons_zero] at n0 n1 n2 n3 n4 n5
          have q0 := Go.Joins.cell_of_block HT7.out.bQ 0
          have q1 := Go.Joins.cell_of_block HT7.out.bQ 1
          have q2 := Go.Joins.cell_of_block HT7.out.bQ 2
          have q3 := Go.Joins.cell_of_block HT7.out.bQ 3
          have q4 := Go.Joins.cell_of_block HT7.out.bQ 4
          have q5 := Go.Joins.cell_of_block HT7.out.bQ 5
          simp only [List.getElem?_toArray, List.getElem?_cons_succ, List.getElem?_cons_zero] at q0 q1 q2 q3 q4 q5
          have nl := lt_of_some HT7.out.bN; have ql := lt_of_some HT7.out.bQ
          go_wp2_with fail
          refine wp_region_over (by kernel_rfl) (by kernel_rfl) ?_
          repeat (go_big_quiet_step (first | (go_at_call 47; exact calls_over (redge_any _ _ _ _ _ _ _))))
          refine wpQuiet_nil ?_
          rintro _ ⟨zz, rfl⟩
          obtain ⟨W8, hW8⟩ : ∃ W8, Hid (over W7 zz = W8) := ⟨_, rfl⟩
          have HT8 : Hid (TL w3 O Qb n ⟨U, V, x, y, z, t⟩ ⟨u, av, ax, ay, az, at'⟩ (.slice A2 out.length c2) out A2 c2 ch A1 c1 W8) := by show TL _ _ _ _ _ _ _ _ _ _ _ _ _ _; rw [← hW8.out]; exact HT7.out.up (over_below _ zz)
          rw [hW8.out]
          clear HT7 hW7 nl ql n0 n1 n2 n3 n4 n5 q0 q1 q2 q3 q4 q5
          have n0 := Go.Joins.cell_of_block HT8.out.bN 0
          have n1 := Go.Joins.cell_of_block HT8.out.bN 1
          have n2 := Go.Joins.cell_of_block HT8.out.bN 2
          have n3 := Go.Joins.cell_of_block HT8.out.bN 3
          have n4 := Go.Joins.cell_of_block HT8.out.bN 4
          have n5 := Go.Joins.cell_of_block HT8.out.bN 5
          simp only [List.getElem?_toArray, List.getElem?_cons_succ, List.getElem?_cons_zero] at n0 n1 n2 n3 n4 n5
          have q0 := Go.Joins.cell_of_block HT8.out.bQ 0
          have q1 := Go.Joins.cell_of_block HT8.out.bQ 1
          have q2 := Go.Joins.cell_of_block HT8.out.bQ 2
          have q3 := Go.Joins.cell_of_block HT8.out.bQ 3
          have q4 := Go.Joins.cell_of_block HT8.out.bQ 4
          have q5 := Go.Joins.cell_of_block HT8.out.bQ 5
          simp only [List.getElem?_toArray, List.getElem?_cons_succ, List.getElem?_cons_zero] at q0 q1 q2 q3 q4 q5
          have p0 := Go.Joins.cell_of_block HT8.out.bO 0; have p1 := Go.Joins.cell_of_block HT8.out.bO 1; have pf := Go.Joins.unfrozen_of_block HT8.out.bO 1
          simp only [List.getElem?_toArray, List.getElem?_cons_succ, List.getElem?_cons_zero] at p0 p1
          have nl := lt_of_some HT8.out.bN; have ql := lt_of_some HT8.out.bQ; have pl := lt_of_some HT8.out.bO
          have hev := Go.Joins.cell_of_block ((HT8.out.bel.block (G + 1) (by omega)).trans M1.out)
          have e0 := hev 0; have e1 := hev 1; have e2 := hev 2
          simp only [List.getElem?_toArray, List.getElem?_cons_succ, List.getElem?_cons_zero] at e0 e1 e2
          have el := Nat.lt_trans (show G + 1 < O by omega) (lt_of_some HT8.out.bO)
          clear hev
          have HH : Hid (Ls.hit ⟨3, t, u, v, x, y, z⟩ ⟨u, av, ax, ay, az, at'⟩ = true) := by show _ = _; unfold Ls.hit; rw [if_neg (show ¬ (3 : Int) = 2 by decide)]; simp [Ls.has]
          go_wp2_with fail
          refine (rcut_any _ _ _ _ _ _ _ _).mono ?_
          rintro e W9 ⟨rfl, hb9⟩
          have HT9 := Lib.hid (HT8.out.up hb9)
          have hO9 : O + 1 < W9.heap.size := lt_of_some HT9.out.bN
          clear hb9
          go_wp2_with (at_builtin; (refine wpList_applV _ rfl (.tmp 155) (.tmp 160) (O + 2) A1 c1 rfl ch (by simp [Act.eval]) (HT9.out.ownC.alloc _) (some ⟨W9.heap.size, 0, none⟩) 1 1 [⟨2, t, u, av, 0, 0, 0⟩] rfl (by simp [Act.eval]) (RV_new1 W9 ⟨2, t, u, av, 0, 0, 0⟩) (by omega) (by simp; omega) ?_; intro A6 c6 w6 HO6 HB6 HG6; have HTa := Lib.hid (TL.appC (HT9.out.up (below_new _ _)) HO6.out HB6.out HG6.out); obtain ⟨o2, Ho2⟩ : ∃ o, Hid (ch ++ [(⟨2, t, u, av, 0, 0, 0⟩ : Ev)] = o) := ⟨_, rfl⟩; rw [Ho2.out] at HTa ⊢))
          clear HO6 HB6 HG6
          go_roundw
          case rel => exact ⟨j + 1, A2, c2, out, A6, c6, o2, hlt, by go_num, rfl, rfl, by omega, by rw [← Ho2.out, List.length_append, List.length_singleton]; omega, by show _ = _; rw [HM.out, Ls.rem_cut1 _ _ _ (show (3 : Int) ≠ 1 by decide) HH.out, ← Ho2.out]; simp [Ls.cutE], HTa.out.unQ⟩
          case measure => simp [RowKit.intOf]; omega
        · have gg1 : (au == u) = false := by simpa using fun e : au = u => hh1 e.symm
          by_cases hh2 : u = av
          · subst hh2
            go_wp2_with fail
            rw [hW6.out]
            try simp only [hQ.out]
            clear c0 c1' c2' c3 c4 c5 hbw
            refine wp_region_over (by kernel_rfl) (by kernel_rfl) ?_
            repeat (go_big_quiet_step (fail))
            refine wpQuiet_nil ?_
            rintro _ ⟨zz, rfl⟩
            obtain ⟨W7, hW7⟩ : ∃ W7, Hid (over W6 zz = W7) := ⟨_, rfl⟩
            have HT7 : Hid (TL w3 O Qb n ⟨U, V, x, y, z, t⟩ ⟨au, u, ax, ay, az, at'⟩ (.slice A2 out.length c2) out A2 c2 ch A1 c1 W7) := by show TL _ _ _ _ _ _ _ _ _ _ _ _ _ _; rw [← hW7.out]; exact HT6.out.up (over_below _ zz)
            rw [hW7.out]
            clear HT6 hW6
            have n0 := Go.Joins.cell_of_block HT7.out.bN 0
            have n1 := Go.Joins.cell_of_block HT7.out.bN 1
            have n2 := Go.Joins.cell_of_block HT7.out.bN 2
            have n3 := Go.Joins.cell_of_block HT7.out.bN 3
            have n4 := Go.Joins.cell_of_block HT7.out.bN 4
            have n5 := Go.Joins.cell_of_block HT7.out.bN 5
            simp only [List.getElem?_toArray, List.getElem?_cons_succ, List.getElem?_cons_zero] at n0 n1 n2 n3 n4 n5
            have q0 := Go.Joins.cell_of_block HT7.out.bQ 0
            have q1 := Go.Joins.cell_of_block HT7.out.bQ 1
            have q2 := Go.Joins.cell_of_block HT7.out.bQ 2
            have q3 := Go.Joins.cell_of_block HT7.out.bQ 3
            have q4 := Go.Joins.cell_of_block HT7.out.bQ 4
            have q5 := Go.Joins.cell_of_block HT7.out.bQ 5
            simp only [List.getElem?_toArray, List.getElem?_cons_succ, List.getElem?_cons_zero] at q0 q1 q2 q3 q4 q5
            have nl := lt_of_some HT7.out.bN; have ql := lt_of_some HT7.out.bQ
            go_wp2_with fail
            refine wp_region_over (by kernel_rfl) (by kernel_rfl) ?_
            repeat (go_big_quiet_step (first | (go_at_call 47; exact calls_over (redge_any _ _ _ _ _ _ _))))
            refine wpQuiet_nil ?_
            rintro _ ⟨zz, rfl⟩
            obtain ⟨W8, hW8⟩ : ∃ W8, Hid (over W7 zz = W8) := ⟨_, rfl⟩
            have HT8 : Hid (TL w3 O Qb n ⟨U, V, x, y, z, t⟩ ⟨au, u, ax, ay, az, at'⟩ (.slice A2 out.length c2) out A2 c2 ch A1 c1 W8) := by show TL _ _ _ _ _ _ _ _ _ _ _ _ _ _; rw [← hW8.out]; exact HT7.out.up (over_below _ zz)
            rw [hW8.out]
            clear HT7 hW7 nl ql n0 n1 n2 n3 n4 n5 q0 q1 q2 q3 q4 q5
            have n0 := Go.Joins.cell_of_block HT8.out.bN 0
            have n1 := Go.Joins.cell_of_block HT8.out.bN 1
            have n2 := Go.Joins.cell_of_block HT8.out.bN 2
            have n3 := Go.Joins.cell_of_block HT8.out.bN 3
            have n4 := Go.Joins.cell_of_block HT8.out.bN 4
            have n5 := Go.Joins.cell_of_block HT8.out.bN 5
            simp only [List.getElem?_toArray, List.getElem?_cons_succ, List.getElem?_cons_zero] at n0 n1 n2 n3 n4 n5
            have q0 := Go.Joins.cell_of_block HT8.out.bQ 0
            have q1 := Go.Joins.cell_of_block HT8.out.bQ 1
            have q2 := Go.Joins.cell_of_block HT8.out.bQ 2
            have q3 := Go.Joins.cell_of_block HT8.out.bQ 3
            have q4 := Go.Joins.cell_of_block HT8.out.bQ 4
            have q5 := Go.Joins.cell_of_block HT8.out.bQ 5
            simp only [List.getElem?_toArray, List.getElem?_cons_succ, List.getElem?_cons_zero] at q0 q1 q2 q3 q4 q5
            have p0 := Go.Joins.cell_of_block HT8.out.bO 0; have p1 := Go.Joins.cell_of_block HT8.out.bO 1; have pf := Go.Joins.unfrozen_of_block HT8.out.bO 1
            simp only [List.getElem?_toArray, List.getElem?_cons_succ, List.getElem?_cons_zero] at p0 p1
            have nl := lt_of_some HT8.out.bN; have ql := lt_of_some HT8.out.bQ; have pl := lt_of_some HT8.out.bO
            have hev := Go.Joins.cell_of_block ((HT8.out.bel.block (G + 1) (by omega)).trans M1.out)
            have e0 := hev 0; have e1 := hev 1; have e2 := hev 2
            simp only [List.getElem?_toArray, List.getElem?_cons_succ, List.getElem?_cons_zero] at e0 e1 e2
            have el := Nat.lt_trans (show G + 1 < O by omega) (lt_of_some HT8.out.bO)
            clear hev
            have HH : Hid (Ls.hit ⟨3, t, u, v, x, y, z⟩ ⟨au, u, ax, ay, az, at'⟩ = true) := by show _ = _; unfold Ls.hit; rw [if_neg (show ¬ (3 : Int) = 2 by decide)]; simp [Ls.has]
            clear hh1
            go_wp2_with fail
            refine (rcut_any _ _ _ _ _ _ _ _).mono ?_
            rintro e W9 ⟨rfl, hb9⟩
            have HT9 := Lib.hid (HT8.out.up hb9)
            have hO9 : O + 1 < W9.heap.size := lt_of_some HT9.out.bN
            clear hb9
            go_wp2_with (at_builtin; (refine wpList_applV _ rfl (.tmp 155) (.tmp 160) (O + 2) A1 c1 rfl ch (by simp [Act.eval]) (HT9.out.ownC.alloc _) (some ⟨W9.heap.size, 0, none⟩) 1 1 [⟨2, t, au, u, 0, 0, 0⟩] rfl (by simp [Act.eval]) (RV_new1 W9 ⟨2, t, au, u, 0, 0, 0⟩) (by omega) (by simp; omega) ?_; intro A6 c6 w6 HO6 HB6 HG6; have HTa := Lib.hid (TL.appC (HT9.out.up (below_new _ _)) HO6.out HB6.out HG6.out); obtain ⟨o2, Ho2⟩ : ∃ o, Hid (ch ++ [(⟨2, t, au, u, 0, 0, 0⟩ : Ev)] = o) := ⟨_, rfl⟩; rw [Ho2.out] at HTa ⊢))
            clear HO6 HB6 HG6
            go_roundw
            case rel => exact ⟨j + 1, A2, c2, out, A6, c6, o2, hlt, by go_num, rfl, rfl, by omega, by rw [← Ho2.out, List.length_append, List.length_singleton]; omega, by show _ = _; rw [HM.out, Ls.rem_cut1 _ _ _ (show (3 : Int) ≠ 1 by decide) HH.out, ← Ho2.out]; simp [Ls.cutE], HTa.out.unQ⟩
            case measure => simp [RowKit.intOf]; omega
          · have gg2 : (av == u) = false := by simpa using fun e : av = u => hh2 e.symm
            go_wp2_with fail
            rw [hW6.out]
            try simp only [hQ.out]
            clear c0 c1' c2' c3 c4 c5 hbw
            refine wp_region_over (by kernel_rfl) (by kernel_rfl) ?_
            repeat (go_big_quiet_step (fail))
            refine wpQuiet_nil ?_
            rintro _ ⟨zz, rfl⟩
            obtain ⟨W7, hW7⟩ : ∃ W7, Hid (over W6 zz = W7) := ⟨_, rfl⟩
            have HT7 : Hid (TL w3 O Qb n ⟨U, V, x, y, z, t⟩ ⟨au, av, ax, ay, az, at'⟩ (.slice A2 out.length c2) out A2 c2 ch A1 c1 W7) := by show TL _ _ _ _ _ _ _ _ _ _ _ _ _ _; rw [← hW7.out]; exact HT6.out.up (over_below _ zz)
            rw [hW7.out]
            clear HT6 hW6
            have n0 := Go.Joins.cell_of_block HT7.out.bN 0
            have n1 := Go.Joins.cell_of_block HT7.out.bN 1
            have n2 := Go.Joins.cell_of_block HT7.out.bN 2
            have n3 := Go.Joins.cell_of_block HT7.out.bN 3
            have n4 := Go.Joins.cell_of_block HT7.out.bN 4
            have n5 := Go.Joins.cell_of_block HT7.out.bN 5
            simp only [List.getElem?_toArray, List.getElem?_cons_succ, List.getElem?_cons_zero] at n0 n1 n2 n3 n4 n5
            have q0 := Go.Joins.cell_of_block HT7.out.bQ 0
            have q1 := Go.Joins.cell_of_block HT7.out.bQ 1
            have q2 := Go.Joins.cell_of_block HT7.out.bQ 2
            have q3 := Go.Joins.cell_of_block HT7.out.bQ 3
            have q4 := Go.Joins.cell_of_block HT7.out.bQ 4
            have q5 := Go.Joins.cell_of_block HT7.out.bQ 5
            simp only [List.getElem?_toArray, List.getElem?_cons_succ, List.getElem?_cons_zero] at q0 q1 q2 q3 q4 q5
            have nl := lt_of_some HT7.out.bN; have ql := lt_of_some HT7.out.bQ
            go_wp2_with fail
            refine wp_region_over (by kernel_rfl) (by kernel_rfl) ?_
            repeat (go_big_quiet_step (first | (go_at_call 47; exact calls_over (redge_any _ _ _ _ _ _ _))))
            refine wpQuiet_nil ?_
            rintro _ ⟨zz, rfl⟩
            obtain ⟨W8, hW8⟩ : ∃ W8, Hid (over W7 zz = W8) := ⟨_, rfl⟩
            have HT8 : Hid (TL w3 O Qb n ⟨U, V, x, y, z, t⟩ ⟨au, av, ax, ay, az, at'⟩ (.slice A2 out.length c2) out A2 c2 ch A1 c1 W8) := by show TL _ _ _ _ _ _ _ _ _ _ _ _ _ _; rw [← hW8.out]; exact HT7.out.up (over_below _ zz)
            rw [hW8.out]
            clear HT7 hW7 nl ql n0 n1 n2 n3 n4 n5 q0 q1 q2 q3 q4 q5
            have n0 := Go.Joins.cell_of_block HT8.out.bN 0
            have n1 := Go.Joins.cell_of_block HT8.out.bN 1
            have n2 := Go.Joins.cell_of_block HT8.out.bN 2
            have n3 := Go.Joins.cell_of_block HT8.out.bN 3
            have n4 := Go.Joins.cell_of_block HT8.out.bN 4
            have n5 := Go.Joins.cell_of_block HT8.out.bN 5
            simp only [List.getElem?_toArray, List.getElem?_cons_succ, List.getElem?_cons_zero] at n0 n1 n2 n3 n4 n5
            have q0 := Go.Joins.cell_of_block HT8.out.bQ 0
            have q1 := Go.Joins.cell_of_block HT8.out.bQ 1
            have q2 := Go.Joins.cell_of_block HT8.out.bQ 2
            have q3 := Go.Joins.cell_of_block HT8.out.bQ 3
            have q4 := Go.Joins.cell_of_block HT8.out.bQ 4
            have q5 := Go.Joins.cell_of_block HT8.out.bQ 5
            simp only [List.getElem?_toArray, List.getElem?_cons_succ, List.getElem?_cons_zero] at q0 q1 q2 q3 q4 q5
            have p0 := Go.Joins.cell_of_block HT8.out.bO 0; have p1 := Go.Joins.cell_of_block HT8.out.bO 1; have pf := Go.Joins.unfrozen_of_block HT8.out.bO 1
            simp only [List.getElem?_toArray, List.getElem?_cons_succ, List.getElem?_cons_zero] at p0 p1
            have nl := lt_of_some HT8.out.bN; have ql := lt_of_some HT8.out.bQ; have pl := lt_of_some HT8.out.bO
            have hev := Go.Joins.cell_of_block ((HT8.out.bel.block (G + 1) (by omega)).trans M1.out)
            have e0 := hev 0; have e1 := hev 1; have e2 := hev 2
            simp only [List.getElem?_toArray, List.getElem?_cons_succ, List.getElem?_cons_zero] at e0 e1 e2
            have el := Nat.lt_trans (show G + 1 < O by omega) (lt_of_some HT8.out.bO)
            clear hev
            have HH : Hid (Ls.hit ⟨3, t, u, v, x, y, z⟩ ⟨au, av, ax, ay, az, at'⟩ = false) := by show _ = _; unfold Ls.hit; rw [if_neg (show ¬ (3 : Int) = 2 by decide)]; simp [Ls.has, Ne.symm hh1, Ne.symm hh2]
            clear hh1 hh2
            go_wp2_with (at_builtin; (refine wpList_applL _ rfl (.tmp 101) (.tmp 103) (O + 2) A2 c2 rfl out (by simp [Act.eval]) (HT8.out.ownO.alloc _) (some ⟨W8.heap.size, 0, none⟩) 1 1 [⟨au, av, ax, ay, az, at'⟩] rfl (by simp [Act.eval]) (RL_new1 W8 ⟨au, av, ax, ay, az, at'⟩) (by omega) (by simp; omega) ?_; intro A6 c6 w6 HO6 HB6 HG6; have HT9 := Lib.hid (TL.appO (HT8.out.up (below_new _ _)) HO6.out HB6.out HG6.out); obtain ⟨o2, Ho2⟩ : ∃ o, Hid (out ++ [(⟨au, av, ax, ay, az, at'⟩ : Ls.Lk)] = o) := ⟨_, rfl⟩; rw [Ho2.out] at HT9 ⊢; have i1 := Go.Joins.cell_of_block HT9.out.bO 1; have jf := Go.Joins.unfrozen_of_block HT9.out.bO 1; simp only [List.getElem?_toArray, List.getElem?_cons_succ, List.getElem?_cons_zero] at i1; have il := lt_of_some HT9.out.bO))
            clear HO6 HB6 HG6 i1 jf il
            go_roundw
            case rel => exact ⟨j + 1, A6, c6, o2, A1, c1, ch, hlt, by go_num, rfl, rfl, by rw [← Ho2.out, List.length_append, List.length_singleton]; omega, by omega, by show _ = _; rw [HM.out, Ls.rem_cut0 _ _ _ (show (3 : Int) ≠ 1 by decide) HH.out, ← Ho2.out]; simp, HT9.out.store _⟩
            case measure => simp [RowKit.intOf]; omega
    · obtain rfl : j = l.length := by omega
      have HE : Hid (Ls.nextL l ⟨3, t, u, v, x, y, z⟩ = out ∧ Ls.chg l ⟨3, t, u, v, x, y, z⟩ = ch) := by
        have h9 := HM.out
        rw [List.drop_length] at h9
        simp only [Ls.rem, if_true, List.append_nil] at h9
        exact ⟨(Prod.mk.injEq _ _ _ _ ▸ h9).1, (Prod.mk.injEq _ _ _ _ ▸ h9).2⟩
      have p0 := Go.Joins.cell_of_block HT.out.bO 0; have p1 := Go.Joins.cell_of_block HT.out.bO 1
      simp only [List.getElem?_toArray, List.getElem?_cons_succ, List.getElem?_cons_zero] at p0 p1
      have n2 := (HT.out.bel.block (G + 2) (by omega)).trans M2.out
      have r0 := Go.Joins.cell_of_block n2 0; have r1 := Go.Joins.cell_of_block n2 1
      have f0 := Go.Joins.unfrozen_of_block n2 0; have f1 := Go.Joins.unfrozen_of_block n2 1
      simp only [List.getElem?_toArray, List.getElem?_cons_succ, List.getElem?_cons_zero] at r0 r1
      have M2' := Lib.hid n2
      have pl := lt_of_some HT.out.bO
      have rl := lt_of_some n2
      clear n2
      go_wp2
      have hblk := setCell_cells (setCell_cells M2'.out 0 (.int .i64 n)) 1 (.slice A2 out.length c2)
      have hbw : Below w.heap.size w wr := HB1.out.trans ((B3.out.trans (HT.out.bel.mono (by rw [← hO.out]; exact B3.out.size))).mono HB1.out.size)
      have hbel : Below w.heap.size w _ := (hbw.setCell (p := ⟨G + 2, 0, none⟩) (by show w.heap.size ≤ G + 2; rw [hG.out]; omega) (.int .i64 n)).setCell (p := ⟨G + 2, 1, none⟩) (by show w.heap.size ≤ G + 2; rw [hG.out]; omega) (.slice A2 out.length c2)
      have hk : ∀ (v : Value) (q : Nat) (xs : List Value) (T : TypeId) (sz : Nat), wr.ownsRow (O + 2) T sz v q xs → ((wr.setCell ⟨G + 2, 0, none⟩ (.int .i64 n)).setCell ⟨G + 2, 1, none⟩ (.slice A2 out.length c2)).ownsRow (O + 2) T sz v q xs := by
        intro v q xs T sz ho
        have h1 : v.ownBlock ≠ some (G + 2) := fun e => by have := (ho.lt _ e).1; omega
        exact (ho.kept set_grown (.inr h1)).kept set_grown (.inr h1)
      exact ret_state3 (p := 4) (q := 5) (r := 6) Tryz.results28 rfl (G + 2) rfl _ _ rfl rfl hblk ⟨n, out, ch, A2, A1, c2, c1, by rw [HAE.out]; rfl, by rw [HAE.out, if_pos rfl]; exact ⟨rfl, HE.out.1.symm, HE.out.2.symm⟩, RX.of_own (hk _ _ _ _ _ HT.out.ownO), RX.of_own (hk _ _ _ _ _ HT.out.ownC), hbel, TK.of_own (hk _ _ _ _ _ HT.out.ownO)⟩
end Go.Proofs.YtfapfkaipdcflaaGreat.K
