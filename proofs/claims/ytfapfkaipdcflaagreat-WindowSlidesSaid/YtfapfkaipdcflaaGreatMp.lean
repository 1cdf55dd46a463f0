/-
  The reference's Apply: events of kind 1.
-/
import Derived.Test.YtfapfkaipdcflaaGreatMn
namespace Go.Proofs.YtfapfkaipdcflaaGreat.K
open Go.RowKit Go.Lib

set_option maxHeartbeats 8000000 in
set_option maxRecDepth 100000 in
theorem rapply_k1 (n : Int) (A : Option Addr) (c : Nat) (l : List Ls.Lk) (t u v x y z : Int) (w : World) (h : RL w.heap.size w A c l) (hl : l.length ≤ 60000) (hV0 : Ls.V n l) (hG0 : Ls.Good n ⟨1, t, u, v, x, y, z⟩) :
    Calls Tryz.prog 28 #[.agg #[.int .i64 n, .slice A l.length c], .agg #[.int .i64 1, .int .i64 t, .int .i64 u, .int .i64 v, .int .i64 x, .int .i64 y, .int .i64 z]] w (ApplyT n l ⟨1, t, u, v, x, y, z⟩ w) := by
  obtain ⟨W1, hW1⟩ : ∃ W1, ((w.alloc (.cells #[.int .i64 n, .slice A l.length c] 24)).alloc (.cells #[.int .i64 1, .int .i64 t, .int .i64 u, .int .i64 v, .int .i64 x, .int .i64 y, .int .i64 z] 57)).alloc (.cells #[.int .i64 0, .slice none 0 0] 24) = W1 := ⟨_, rfl⟩
  obtain ⟨n0, n1, n2, n3, n4⟩ := new_three w _ _ _ W1 hW1
  obtain ⟨G, hG⟩ : ∃ G, Hid (w.heap.size = G) := ⟨_, rfl⟩
  have HW1 := Lib.hid hW1
  have HB1 := Lib.hid n4
  have H1 := Lib.hid (h.up n4)
  rw [hG.out] at n0 n1 n2 n3
  have N0 := Lib.hid n0; have N1 := Lib.hid n1; have N2 := Lib.hid n2; have N3 := Lib.hid n3
  have C13 := Lib.hid (rcheckS_any n A c l W1 H1.out (by omega))
  have s0 := Go.Joins.cell_of_block n0 0; have s1 := Go.Joins.cell_of_block n0 1
  simp only [List.getElem?_toArray, List.getElem?_cons_succ, List.getElem?_cons_zero] at s0 s1
  clear h hW1 n4 n0 n1 n2
  obtain ⟨R, HR⟩ : ∃ R, Hid (Ls.chkS n l = R) := ⟨_, rfl⟩
  simp only [HR.out] at C13
  go_enter Tryz.func28, Tryz.ntmps28
  go_wp2_with fail
  rw [HW1.out]
  simp only [hG.out]
  refine C13.out.mono ?_
  rintro e w2 ⟨rfl, hb2⟩
  have B2 := Lib.hid hb2
  clear hb2 C13 s0 s1
  have hR : R = 0 := by rw [← HR.out]; exact (Ls.chkS_zero n l).2 hV0
  subst hR
  have HV := Lib.hid hV0
  have HGD := Lib.hid hG0
  clear hV0 hG0
  have n1 := (B2.out.block (G + 1) (by rw [N3.out]; omega)).trans N1.out
  have hev := Go.Joins.cell_of_block n1
  have e0 := hev 0; have e1 := hev 1; have e2 := hev 2; have e3 := hev 3; have e4 := hev 4; have e5 := hev 5; have e6 := hev 6
  simp only [List.getElem?_toArray, List.getElem?_cons_succ, List.getElem?_cons_zero] at e0 e1 e2 e3 e4 e5 e6
  have hs2 : G + 3 ≤ w2.heap.size := by have := B2.out.size; rw [N3.out] at this; exact this
  have C40 := Lib.hid (rcheck_anyE 1 t u v x y z w2)
  obtain ⟨R2, HR2⟩ : ∃ R2, Hid (chkE ⟨1, t, u, v, x, y, z⟩ = R2) := ⟨_, rfl⟩
  rw [HR2.out] at C40
  clear hev n1
  go_wp2_with fail
  refine C40.out.mono ?_
  rintro e w3 ⟨rfl, hb3⟩
  have B3 := Lib.hid (B2.out.trans (hb3.mono B2.out.size))
  have B23 := Lib.hid hb3
  clear hb3 C40 e0 e1 e2 e3 e4 e5 e6
  have hR2 : R2 = 0 := by rw [← HR2.out]; exact HGD.out.1
  subst hR2
  have n0 := (B3.out.block G (by rw [N3.out]; omega)).trans N0.out
  have s0 := Go.Joins.cell_of_block n0 0; have s1 := Go.Joins.cell_of_block n0 1
  have n1 := (B3.out.block (G + 1) (by rw [N3.out]; omega)).trans N1.out
  have hev := Go.Joins.cell_of_block n1
  have e0 := hev 0; have e1 := hev 1; have e2 := hev 2; have e3 := hev 3; have e4 := hev 4; have e5 := hev 5; have e6 := hev 6
  simp only [List.getElem?_toArray, List.getElem?_cons_succ, List.getElem?_cons_zero] at s0 s1 e0 e1 e2 e3 e4 e5 e6
  have hs3 : G + 3 ≤ w3.heap.size := Nat.le_trans hs2 B23.out.size
  have M0 := Lib.hid n0; have M1 := Lib.hid n1
  clear hev n0 n1
  have hu : ¬ n ≤ u := by have := HGD.out.2.1; dsimp only at this; omega
  have hv : ¬ n ≤ v := by have := HGD.out.2.2; dsimp only at this; omega
  have HAE : Hid (Ls.apE n l ⟨1, t, u, v, x, y, z⟩ = 0) := (Ls.apE_zero _ _ _).2 ⟨HV.out, HGD.out⟩
  obtain ⟨O, hO⟩ : ∃ O, Hid (w3.heap.size = O) := ⟨_, rfl⟩
  obtain ⟨U, hU⟩ : ∃ U, Hid (min u v = U) := ⟨_, rfl⟩
  obtain ⟨V, hV⟩ : ∃ V, Hid (max u v = V) := ⟨_, rfl⟩
  have HLK : Hid (Ls.lk ⟨1, t, u, v, x, y, z⟩ = ⟨U, V, x, y, z, t⟩) := by show _ = _; rw [← hU.out, ← hV.out]; rfl
  obtain ⟨W5, hW5⟩ : ∃ W5, Hid ((w3.alloc (.cells #[.int .i64 n, .slice none 0 0] 24)).alloc (.cells #[.int .i64 U, .int .i64 V, .int .i64 x, .int .i64 y, .int .i64 z, .int .i64 t] 62) = W5) := ⟨_, rfl⟩
  have HT0 : Hid (TL w3 O (O + 1) n ⟨U, V, x, y, z, t⟩ ⟨U, V, x, y, z, t⟩ (.slice none 0 0) [] none 0 [] none 0 W5) := by
    obtain ⟨m0, m1, m2, m3⟩ := new_two w3 (.cells #[.int .i64 n, .slice none 0 0] 24) (.cells #[.int .i64 U, .int .i64 V, .int .i64 x, .int .i64 y, .int .i64 z, .int .i64 t] 62)
    show TL _ _ _ _ _ _ _ _ _ _ _ _ _ _
    rw [← hW5.out, ← hO.out]
    exact ⟨m3, m0, m1, m1, World.ownsRow_nil _ _ _ _, World.ownsRow_nil _ _ _ _, Nat.lt_succ_self _⟩
  have du : decide (u ≥ n) = false := by rw [decide_eq_false_iff_not]; omega
  have dv : decide (v ≥ n) = false := by rw [decide_eq_false_iff_not]; omega
  clear hu hv
  have hg0 : G < w3.heap.size := by omega
  have hg1 : G + 1 < w3.heap.size := by omega
  go_wp2_with fail
  rw [hU.out, hV.out, hW5.out]
  simp only [hO.out]
  clear s0 s1 e0 e1 e2 e3 e4 e5 e6 hg0 hg1 du dv
  have HM0 : Hid (Ls.rem ⟨1, t, u, v, x, y, z⟩ false l = (Ls.nextL l ⟨1, t, u, v, x, y, z⟩, Ls.chg l ⟨1, t, u, v, x, y, z⟩)) := Ls.rem_all ⟨1, t, u, v, x, y, z⟩ l HV.out.2.2.1
  have H3 : Hid (RL O w3 A c l) := by show RL _ _ _ _ _; rw [← hO.out]; exact H1.out.up B3.out
  have hGO : G + 3 ≤ O := by rw [← hO.out]; exact hs3
  have M2 := Lib.hid ((B3.out.block (G + 2) (by rw [N3.out]; omega)).trans N2.out)
  clear HR2 B23 hs2 hs3 hW5
  go_loopw [10, 12, 69] (fun q d i wr => ∃ (j : Nat) (db : Bool) (A2 : Option Addr) (c2 : Nat) (out : List Ls.Lk) (A1 : Option Addr) (c1 : Nat) (ch : List Ev), j ≤ l.length ∧ i = .int .i64 j ∧ d = .bool db ∧ q = .slice A1 ch.length c1 ∧ out.length ≤ 2 * j ∧ ch.length ≤ 2 * j ∧ Hid ((Ls.nextL l ⟨1, t, u, v, x, y, z⟩, Ls.chg l ⟨1, t, u, v, x, y, z⟩) = (out ++ (Ls.rem ⟨1, t, u, v, x, y, z⟩ db (l.drop j)).1, ch ++ (Ls.rem ⟨1, t, u, v, x, y, z⟩ db (l.drop j)).2)) ∧ Hid (TL w3 O (O + 1) n ⟨U, V, x, y, z, t⟩ ⟨U, V, x, y, z, t⟩ (.slice A2 out.length c2) out A2 c2 ch A1 c1 wr)) (fun _ _ i _ => l.length - (RowKit.intOf i).toNat)
  case atStart => exact ⟨0, false, none, 0, [], none, 0, [], Nat.zero_le _, rfl, rfl, rfl, Nat.zero_le _, Nat.zero_le _, by show _ = _; rw [List.drop_zero, HM0.out]; rfl, HT0.out⟩
  case round =>
    obtain ⟨j, db, A2, c2, out, A1, c1, ch, hj, rfl, rfl, rfl, hlo, hlc, HM, HT⟩ := hrel
    clear HT0 HM0
    by_cases hlt : j < l.length
    · obtain ⟨b, off, ⟨au, av, ax, ay, az, at'⟩, rfl, hb, hx, c0, c1', c2', c3, c4, c5⟩ := RL.at_ (k := j) (H3.out.go HT.out.bel) hlt
      dsimp only at c0 c1' c2' c3 c4 c5
      have hbw : b < wr.heap.size := Nat.lt_trans hb (lt_of_some HT.out.bO)
      have HD : Hid (l.drop j = ⟨au, av, ax, ay, az, at'⟩ :: l.drop (j + 1)) := drop_here hx
      rw [HD.out] at HM
      obtain ⟨Qb, hQ⟩ : ∃ Q, Hid (wr.heap.size = Q) := ⟨_, rfl⟩
      obtain ⟨W6, hW6⟩ : ∃ W6, Hid (wr.alloc (.cells #[.int .i64 au, .int .i64 av, .int .i64 ax, .int .i64 ay, .int .i64 az, .int .i64 at'] 62) = W6) := ⟨_, rfl⟩
      have HT6 : Hid (TL w3 O Qb n ⟨U, V, x, y, z, t⟩ ⟨au, av, ax, ay, az, at'⟩ (.slice A2 out.length c2) out A2 c2 ch A1 c1 W6) := by show TL _ _ _ _ _ _ _ _ _ _ _ _ _ _; rw [← hW6.out, ← hQ.out]; exact HT.out.withQ ⟨au, av, ax, ay, az, at'⟩
      have HQN : Hid ((Value.slice A2 out.length c2).ownBlock ≠ some Qb) := fun e => by have := (HT.out.ownO.lt _ e).2; have := hQ.out; omega
      have hl6 : l.length ≤ 60000 := hl
      clear hx HT HD
      cases db with
      | true =>
        by_cases hs1 : au = U
        · subst hs1
          by_cases hs2 : av = V
          · subst hs2
            by_cases j3 : ax = x
            · subst j3
              by_cases j4 : ay = y
              · subst j4
                by_cases j5 : az = z
                · subst j5
                  by_cases j6 : at' = t
                  · subst j6
                    go_wp2_with fail
                    rw [hW6.out]
                    try simp only [hQ.out]
                    clear c0 c1' c2' c3 c4 c5 hbw
                    refine wp_region_over (by kernel_rfl) (by kernel_rfl) ?_
                    repeat (go_big_quiet_step (fail))
                    refine wpQuiet_nil ?_
                    rintro _ ⟨zz, rfl⟩
                    obtain ⟨W7, hW7⟩ : ∃ W7, Hid (over W6 zz = W7) := ⟨_, rfl⟩
                    have HT7 : Hid (TL w3 O Qb n ⟨au, av, ax, ay, az, at'⟩ ⟨au, av, ax, ay, az, at'⟩ (.slice A2 out.length c2) out A2 c2 ch A1 c1 W7) := by show TL _ _ _ _ _ _ _ _ _ _ _ _ _ _; rw [← hW7.out]; exact HT6.out.up (over_below _ zz)
                    rw [hW7.out]
                    clear HT6 hW6
                    have n0 := Go.Joins.cell_of_block HT7.out.bN 0
                    have n1 := Go.Joins.cell_of_block HT7.out.bN 1
                    have n2 := Go.Joins.cell_of_block HT7.out.bN 2
                    have n3 := Go.Joins.cell_of_block HT7.out.bN 3
                    have n4 := Go.Joins.cell_of_block HT7.out.bN 4
                    have n5 := Go.Joins.cell_of_block HT7.out.bN 5
                    simp only [List.getElem?_toArray, List.getElem?_cons_succ, List.getElem?_cons_zero] at n0 n1 n2 n3 n4 n5
                    have q0 := Go.Joins.cell_of_block HT7.out.bQ 0
                    have q1 := Go.Joins.cell_of_block HT7.out.bQ 1
                    have q2 := Go.Joins.cell_of_block HT7.out.bQ 2
                    have q3 := Go.Joins.cell_of_block HT7.out.bQ 3
                    have q4 := Go.Joins.cell_of_block HT7.out.bQ 4
                    have q5 := Go.Joins.cell_of_block HT7.out.bQ 5
                    simp only [List.getElem?_toArray, List.getElem?_cons_succ, List.getElem?_cons_zero] at q0 q1 q2 q3 q4 q5
                    have nl := lt_of_some HT7.out.bN; have ql := lt_of_some HT7.out.bQ
                    go_wp2_with fail
                    refine wp_region_over (by kernel_rfl) (by kernel_rfl) ?_
                    repeat (go_big_quiet_step (first | (go_at_call 47; exact calls_over (redge_any _ _ _ _ _ _ _))))
                    refine wpQuiet_nil ?_
                    rintro _ ⟨zz, rfl⟩
                    obtain ⟨W8, hW8⟩ : ∃ W8, Hid (over W7 zz = W8) := ⟨_, rfl⟩
                    have HT8 : Hid (TL w3 O Qb n ⟨au, av, ax, ay, az, at'⟩ ⟨au, av, ax, ay, az, at'⟩ (.slice A2 out.length c2) out A2 c2 ch A1 c1 W8) := by show TL _ _ _ _ _ _ _ _ _ _ _ _ _ _; rw [← hW8.out]; exact HT7.out.up (over_below _ zz)
                    rw [hW8.out]
                    clear HT7 hW7 nl ql n0 n1 n2 n3 n4 n5 q0 q1 q2 q3 q4 q5
                    have n0 := Go.Joins.cell_of_block HT8.out.bN 0
                    have n1 := Go.Joins.cell_of_block HT8.out.bN 1
                    have n2 := Go.Joins.cell_of_block HT8.out.bN 2
                    have n3 := Go.Joins.cell_of_block HT8.out.bN 3
                    have n4 := Go.Joins.cell_of_block HT8.out.bN 4
                    have n5 := Go.Joins.cell_of_block HT8.out.bN 5
                    simp only [List.getElem?_toArray, List.getElem?_cons_succ, List.getElem?_cons_zero] at n0 n1 n2 n3 n4 n5
                    have q0 := Go.Joins.cell_of_block HT8.out.bQ 0
                    have q1 := Go.Joins.cell_of_block HT8.out.bQ 1
                    have q2 := Go.Joins.cell_of_block HT8.out.bQ 2
                    have q3 := Go.Joins.cell_of_block HT8.out.bQ 3
                    have q4 := Go.Joins.cell_of_block HT8.out.bQ 4
                    have q5 := Go.Joins.cell_of_block HT8.out.bQ 5
                    simp only [List.getElem?_toArray, List.getElem?_cons_succ, List.getElem?_cons_zero] at q0 q1 q2 q3 q4 q5
                    have p0 := Go.Joins.cell_of_block HT8.out.bO 0; have p1 := Go.Joins.cell_of_block HT8.out.bO 1; have pf := Go.Joins.unfrozen_of_block HT8.out.bO 1
                    simp only [List.getElem?_toArray, List.getElem?_cons_succ, List.getElem?_cons_zero] at p0 p1
                    have nl := lt_of_some HT8.out.bN; have ql := lt_of_some HT8.out.bQ; have pl := lt_of_some HT8.out.bO
                    have hev := Go.Joins.cell_of_block ((HT8.out.bel.block (G + 1) (by omega)).trans M1.out)
                    have e0 := hev 0; have e1 := hev 1; have e2 := hev 2
                    simp only [List.getElem?_toArray, List.getElem?_cons_succ, List.getElem?_cons_zero] at e0 e1 e2
                    have el := Nat.lt_trans (show G + 1 < O by omega) (lt_of_some HT8.out.bO)
                    clear hev
                    have HSM : Hid (Ls.same ⟨au, av, ax, ay, az, at'⟩ (Ls.lk ⟨1, at', u, v, ax, ay, az⟩) = true) := by show _ = _; rw [HLK.out]; simp [Ls.same]
                    go_wp2_with (at_builtin; (refine wpList_applL _ rfl (.tmp 124) (.tmp 126) (O + 2) A2 c2 rfl out (by simp [Act.eval]) (HT8.out.ownO.alloc _) (some ⟨W8.heap.size, 0, none⟩) 1 1 [(⟨au, av, ax, ay, az, at'⟩ : Ls.Lk)] rfl (by simp [Act.eval]) (RL_new1 W8 ⟨au, av, ax, ay, az, at'⟩) (by omega) (by simp; omega) ?_; intro A6 c6 w6 HO6 HB6 HG6; have HTb := Lib.hid (TL.appO (HT8.out.up (below_new _ _)) HO6.out HB6.out HG6.out); obtain ⟨o2, Ho2⟩ : ∃ o, Hid (out ++ [(⟨au, av, ax, ay, az, at'⟩ : Ls.Lk)] = o) := ⟨_, rfl⟩; rw [Ho2.out] at HTb ⊢; have i1 := Go.Joins.cell_of_block HTb.out.bO 1; have jf := Go.Joins.unfrozen_of_block HTb.out.bO 1; simp only [List.getElem?_toArray, List.getElem?_cons_succ, List.getElem?_cons_zero] at i1; have il := lt_of_some HTb.out.bO))
                    clear HO6 HB6 HG6 i1 jf il
                    go_roundw
                    case rel => exact ⟨j + 1, true, A6, c6, o2, A1, c1, ch, hlt, by go_num, rfl, rfl, by rw [← Ho2.out, List.length_append, List.length_singleton]; omega, by omega, by show _ = _; rw [HM.out, Ls.rem_hit _ _ _ _ rfl HSM.out, HLK.out, if_neg (by simp), ← Ho2.out]; simp, HTb.out.store _⟩
                    case measure => simp [RowKit.intOf]; omega
                  · have g6 : (at' == t) = false := by simpa using j6
                    have gg6 : (at' != t) = true := by simpa using j6
                    go_wp2_with fail
                    rw [hW6.out]
                    try simp only [hQ.out]
                    clear c0 c1' c2' c3 c4 c5 hbw
                    refine wp_region_over (by kernel_rfl) (by kernel_rfl) ?_
                    repeat (go_big_quiet_step (fail))
                    refine wpQuiet_nil ?_
                    rintro _ ⟨zz, rfl⟩
                    obtain ⟨W7, hW7⟩ : ∃ W7, Hid (over W6 zz = W7) := ⟨_, rfl⟩
                    have HT7 : Hid (TL w3 O Qb n ⟨au, av, ax, ay, az, t⟩ ⟨au, av, ax, ay, az, at'⟩ (.slice A2 out.length c2) out A2 c2 ch A1 c1 W7) := by show TL _ _ _ _ _ _ _ _ _ _ _ _ _ _; rw [← hW7.out]; exact HT6.out.up (over_below _ zz)
                    rw [hW7.out]
                    clear HT6 hW6
                    have n0 := Go.Joins.cell_of_block HT7.out.bN 0
                    have n1 := Go.Joins.cell_of_block HT7.out.bN 1
                    have n2 := Go.Joins.cell_of_block HT7.out.bN 2
                    have n3 := Go.Joins.cell_of_block HT7.out.bN 3
                    have n4 := Go.Joins.cell_of_block HT7.out.bN 4
                    have n5 := Go.Joins.cell_of_block HT7.out.bN 5
                    simp only [List.getElem?_toArray, List.getElem?_cons_succ, List.getElem?_cons_zero] at n0 n1 n2 n3 n4 n5
                    have q0 := Go.Joins.cell_of_block HT7.out.bQ 0
                    have q1 := Go.Joins.cell_of_block HT7.out.bQ 1
                    have q2 := Go.Joins.cell_of_block HT7.out.bQ 2
                    have q3 := Go.Joins.cell_of_block HT7.out.bQ 3
                    have q4 := Go.Joins.cell_of_block HT7.out.bQ 4
                    have q5 := Go.Joins.cell_of_block HT7.out.bQ 5
                    simp only [List.getElem?_toArray, List.getElem?_cons_succ, List.getElem?_cons_zero] at q0 q1 q2 q3 q4 q5
                    have nl := lt_of_some HT7.out.bN; have ql := lt_of_some HT7.out.bQ
                    go_wp2_with fail
                    refine wp_region_over (by kernel_rfl) (by kernel_rfl) ?_
                    repeat (go_big_quiet_step (first | (go_at_call 47; exact calls_over (redge_any _ _ _ _ _ _ _))))
                    refine wpQuiet_nil ?_
                    rintro _ ⟨zz, rfl⟩
                    obtain ⟨W8, hW8⟩ : ∃ W8, Hid (over W7 zz = W8) := ⟨_, rfl⟩
                    have HT8 : Hid (TL w3 O Qb n ⟨au, av, ax, ay, az, t⟩ ⟨au, av, ax, ay, az, at'⟩ (.slice A2 out.length c2) out A2 c2 ch A1 c1 W8) := by show TL _ _ _ _ _ _ _ _ _ _ _ _ _ _; rw [← hW8.out]; exact HT7.out.up (over_below _ zz)
                    rw [hW8.out]
                    clear HT7 hW7 nl ql n0 n1 n2 n3 n4 n5 q0 q1 q2 q3 q4 q5
                    have n0 := Go.Joins.cell_of_block HT8.out.bN 0
                    have n1 := Go.Joins.cell_of_block HT8.out.bN 1
                    have n2 := Go.Joins.cell_of_block HT8.out.bN 2
                    have n3 := Go.Joins.cell_of_block HT8.out.bN 3
                    have n4 := Go.Joins.cell_of_block HT8.out.bN 4
                    have n5 := Go.Joins.cell_of_block HT8.out.bN 5
                    simp only [List.getElem?_toArray, List.getElem?_cons_succ, List.getElem?_cons_zero] at n0 n1 n2 n3 n4 n5
                    have q0 := Go.Joins.cell_of_block HT8.out.bQ 0
                    have q1 := Go.Joins.cell_of_block HT8.out.bQ 1
                    have q2 := Go.Joins.cell_of_block HT8.out.bQ 2
                    have q3 := Go.Joins.cell_of_block HT8.out.bQ 3
                    have q4 := Go.Joins.cell_of_block HT8.out.bQ 4
                    have q5 := Go.Joins.cell_of_block HT8.out.bQ 5
                    simp only [List.getElem?_toArray, List.getElem?_cons_succ, List.getElem?_cons_zero] at q0 q1 q2 q3 q4 q5
                    have p0 := Go.Joins.cell_of_block HT8.out.bO 0; have p1 := Go.Joins.cell_of_block HT8.out.bO 1; have pf := Go.Joins.unfrozen_of_block HT8.out.bO 1
                    simp only [List.getElem?_toArray, List.getElem?_cons_succ, List.getElem?_cons_zero] at p0 p1
                    have nl := lt_of_some HT8.out.bN; have ql := lt_of_some HT8.out.bQ; have pl := lt_of_some HT8.out.bO
                    have hev := Go.Joins.cell_of_block ((HT8.out.bel.block (G + 1) (by omega)).trans M1.out)
                    have e0 := hev 0; have e1 := hev 1; have e2 := hev 2
                    simp only [List.getElem?_toArray, List.getElem?_cons_succ, List.getElem?_cons_zero] at e0 e1 e2
                    have el := Nat.lt_trans (show G + 1 < O by omega) (lt_of_some HT8.out.bO)
                    clear hev
                    have HSM : Hid (Ls.same ⟨au, av, ax, ay, az, at'⟩ (Ls.lk ⟨1, t, u, v, ax, ay, az⟩) = true) := by show _ = _; rw [HLK.out]; simp [Ls.same]
                    have HNE : Hid ((⟨au, av, ax, ay, az, at'⟩ : Ls.Lk) ≠ ⟨au, av, ax, ay, az, t⟩) := by show _ ≠ _; simp [j6]
                    clear j6
                    go_wp2_with fail
                    refine (rset_any _ _ _ _ _ _ _ _).mono ?_
                    rintro e W9 ⟨rfl, hb9⟩
                    have HT9 := Lib.hid (HT8.out.up hb9)
                    have hO9 : O + 1 < W9.heap.size := lt_of_some HT9.out.bN
                    clear hb9 n0 n1 n2 n3 n4 n5 q0 q1 q2 q3 q4 q5 p0 p1 pf e0 e1 e2
                    go_wp2_with (first | (at_builtin; (refine wpList_applV _ rfl (.tmp 116) (.tmp 121) (O + 2) A1 c1 rfl ch (by simp [Act.eval]) (HT9.out.ownC.alloc _) (some ⟨W9.heap.size, 0, none⟩) 1 1 [(⟨1, t, au, av, ax, ay, az⟩ : Ev)] rfl (by simp [Act.eval]) (RV_new1 W9 ⟨1, t, au, av, ax, ay, az⟩) (by omega) (by simp; omega) ?_; intro A7 c7 w7 HO7 HB7 HG7; have HTa := Lib.hid (TL.appC (HT9.out.up (below_new _ _)) HO7.out HB7.out HG7.out); obtain ⟨ch2, Hc2⟩ : ∃ o, Hid (ch ++ [(⟨1, t, au, av, ax, ay, az⟩ : Ev)] = o) := ⟨_, rfl⟩; rw [Hc2.out] at HTa ⊢; have m0 := Go.Joins.cell_of_block HTa.out.bN 0; have m1 := Go.Joins.cell_of_block HTa.out.bN 1; have m2 := Go.Joins.cell_of_block HTa.out.bN 2; have m3 := Go.Joins.cell_of_block HTa.out.bN 3; have m4 := Go.Joins.cell_of_block HTa.out.bN 4; have m5 := Go.Joins.cell_of_block HTa.out.bN 5; simp only [List.getElem?_toArray, List.getElem?_cons_succ, List.getElem?_cons_zero] at m0 m1 m2 m3 m4 m5; have b0 := Go.Joins.cell_of_block HTa.out.bO 0; have b1 := Go.Joins.cell_of_block HTa.out.bO 1; have bf := Go.Joins.unfrozen_of_block HTa.out.bO 1; simp only [List.getElem?_toArray, List.getElem?_cons_succ, List.getElem?_cons_zero] at b0 b1; have ml := lt_of_some HTa.out.bN; have bl := lt_of_some HTa.out.bO)) | (at_builtin; (refine wpList_applL _ rfl (.tmp 124) (.tmp 126) (O + 2) A2 c2 rfl out (by simp [Act.eval]) (HTa.out.ownO.alloc _) (some ⟨w7.heap.size, 0, none⟩) 1 1 [(⟨au, av, ax, ay, az, t⟩ : Ls.Lk)] rfl (by simp [Act.eval]) (RL_new1 w7 ⟨au, av, ax, ay, az, t⟩) (by omega) (by simp; omega) ?_; intro A6 c6 w6 HO6 HB6 HG6; have HTb := Lib.hid (TL.appO (HTa.out.up (below_new _ _)) HO6.out HB6.out HG6.out); obtain ⟨o2, Ho2⟩ : ∃ o, Hid (out ++ [(⟨au, av, ax, ay, az, t⟩ : Ls.Lk)] = o) := ⟨_, rfl⟩; rw [Ho2.out] at HTb ⊢; have i1 := Go.Joins.cell_of_block HTb.out.bO 1; have jf := Go.Joins.unfrozen_of_block HTb.out.bO 1; simp only [List.getElem?_toArray, List.getElem?_cons_succ, List.getElem?_cons_zero] at i1; have il := lt_of_some HTb.out.bO)))
                    clear HO6 HB6 HG6 i1 jf il HO7 HB7 HG7
                    go_roundw
                    case rel => exact ⟨j + 1, true, A6, c6, o2, A7, c7, ch2, hlt, by go_num, rfl, rfl, by rw [← Ho2.out, List.length_append, List.length_singleton]; omega, by rw [← Hc2.out, List.length_append, List.length_singleton]; omega, by show _ = _; rw [HM.out, Ls.rem_hit _ _ _ _ rfl HSM.out, HLK.out, if_pos HNE.out, ← Ho2.out, ← Hc2.out]; simp [Ls.setE], HTb.out.store _⟩
                    case measure => simp [RowKit.intOf]; omega
                · have g5 : (az == z) = false := by simpa using j5
                  have gg5 : (az != z) = true := by simpa using j5
                  go_wp2_with fail
                  rw [hW6.out]
                  try simp only [hQ.out]
                  clear c0 c1' c2' c3 c4 c5 hbw
                  refine wp_region_over (by kernel_rfl) (by kernel_rfl) ?_
                  repeat (go_big_quiet_step (fail))
                  refine wpQuiet_nil ?_
                  rintro _ ⟨zz, rfl⟩
                  obtain ⟨W7, hW7⟩ : ∃ W7, Hid (over W6 zz = W7) := ⟨_, rfl⟩
                  have HT7 : Hid (TL w3 O Qb n ⟨au, av, ax, ay, z, t⟩ ⟨au, av, ax, ay, az, at'⟩ (.slice A2 out.length c2) out A2 c2 ch A1 c1 W7) := by show TL _ _ _ _ _ _ _ _ _ _ _ _ _ _; rw [← hW7.out]; exact HT6.out.up (over_below _ zz)
                  rw [hW7.out]
                  clear HT6 hW6
                  have n0 := Go.Joins.cell_of_block HT7.out.bN 0
                  have n1 := Go.Joins.cell_of_block HT7.out.bN 1
                  have n2 := Go.Joins.cell_of_block HT7.out.bN 2
                  have n3 := Go.Joins.cell_of_block HT7.out.bN 3
                  have n4 := Go.Joins.cell_of_block HT7.out.bN 4
                  have n5 := Go.Joins.cell_of_block HT7.out.bN 5
                  simp only [List.getElem?_toArray, List.getElem?_cons_succ, List.getElem?_cons_zero] at n0 n1 n2 n3 n4 n5
                  have q0 := Go.Joins.cell_of_block HT7.out.bQ 0
                  have q1 := Go.Joins.cell_of_block HT7.out.bQ 1
                  have q2 := Go.Joins.cell_of_block HT7.out.bQ 2
                  have q3 := Go.Joins.cell_of_block HT7.out.bQ 3
                  have q4 := Go.Joins.cell_of_block HT7.out.bQ 4
                  have q5 := Go.Joins.cell_of_block HT7.out.bQ 5
                  simp only [List.getElem?_toArray, List.getElem?_cons_succ, List.getElem?_cons_zero] at q0 q1 q2 q3 q4 q5
                  have nl := lt_of_some HT7.out.bN; have ql := lt_of_some HT7.out.bQ
                  go_wp2_with fail
                  refine wp_region_over (by kernel_rfl) (by kernel_rfl) ?_
                  repeat (go_big_quiet_step (first | (go_at_call 47; exact calls_over (redge_any _ _ _ _ _ _ _))))
                  refine wpQuiet_nil ?_
                  rintro _ ⟨zz, rfl⟩
                  obtain ⟨W8, hW8⟩ : ∃ W8, Hid (over W7 zz = W8) := ⟨_, rfl⟩
                  have HT8 : Hid (TL w3 O Qb n ⟨au, av, ax, ay, z, t⟩ ⟨au, av, ax, ay, az, at'⟩ (.slice A2 out.length c2) out A2 c2 ch A1 c1 W8) := by show TL _ _ _ _ _ _ _ _ _ _ _ _ _ _; rw [← hW8.out]; exact HT7.out.up (over_below _ zz)
                  rw [hW8.out]
                  clear HT7 hW7 nl ql n0 n1 n2 n3 n4 n5 q0 q1 q2 q3 q4 q5
                  have n0 := Go.Joins.cell_of_block HT8.out.bN 0
                  have n1 := Go.Joins.cell_of_block HT8.out.bN 1
                  have n2 := Go.Joins.cell_of_block HT8.out.bN 2
                  have n3 := Go.Joins.cell_of_block HT8.out.bN 3
                  have n4 := Go.Joins.cell_of_block HT8.out.bN 4
                  have n5 := Go.Joins.cell_of_block HT8.out.bN 5
                  simp only [List.getElem?_toArray, List.getElem?_cons_succ, List.getElem?_cons_zero] at n0 n1 n2 n3 n4 n5
                  have q0 := Go.Joins.cell_of_block HT8.out.bQ 0
                  have q1 := Go.Joins.cell_of_block HT8.out.bQ 1
                  have q2 := Go.Joins.cell_of_block HT8.out.bQ 2
                  have q3 := Go.Joins.cell_of_block HT8.out.bQ 3
                  have q4 := Go.Joins.cell_of_block HT8.out.bQ 4
                  have q5 := Go.Joins.cell_of_block HT8.out.bQ 5
                  simp only [List.getElem?_toArray, List.getElem?_cons_succ, List.getElem?_cons_zero] at q0 q1 q2 q3 q4 q5
                  have p0 := Go.Joins.cell_of_block HT8.out.bO 0; have p1 := Go.Joins.cell_of_block HT8.out.bO 1; have pf := Go.Joins.unfrozen_of_block HT8.out.bO 1
                  simp only [List.getElem?_toArray, List.getElem?_cons_succ, List.getElem?_cons_zero] at p0 p1
                  have nl := lt_of_some HT8.out.bN; have ql := lt_of_some HT8.out.bQ; have pl := lt_of_some HT8.out.bO
                  have hev := Go.Joins.cell_of_block ((HT8.out.bel.block (G + 1) (by omega)).trans M1.out)
                  have e0 := hev 0; have e1 := hev 1; have e2 := hev 2
                  simp only [List.getElem?_toArray, List.getElem?_cons_succ, List.getElem?_cons_zero] at e0 e1 e2
                  have el := Nat.lt_trans (show G + 1 < O by omega) (lt_of_some HT8.out.bO)
                  clear hev
                  have HSM : Hid (Ls.same ⟨au, av, ax, ay, az, at'⟩ (Ls.lk ⟨1, t, u, v, ax, ay, z⟩) = true) := by show _ = _; rw [HLK.out]; simp [Ls.same]
                  have HNE : Hid ((⟨au, av, ax, ay, az, at'⟩ : Ls.Lk) ≠ ⟨au, av, ax, ay, z, t⟩) := by show _ ≠ _; simp [j5]
                  clear j5
                  go_wp2_with fail
                  refine (rset_any _ _ _ _ _ _ _ _).mono ?_
                  rintro e W9 ⟨rfl, hb9⟩
                  have HT9 := Lib.hid (HT8.out.up hb9)
                  have hO9 : O + 1 < W9.heap.size := lt_of_some HT9.out.bN
                  clear hb9 n0 n1 n2 n3 n4 n5 q0 q1 q2 q3 q4 q5 p0 p1 pf e0 e1 e2
                  go_wp2_with (first | (at_builtin; (refine wpList_applV _ rfl (.tmp 116) (.tmp 121) (O + 2) A1 c1 rfl ch (by simp [Act.eval]) (HT9.out.ownC.alloc _) (some ⟨W9.heap.size, 0, none⟩) 1 1 [(⟨1, t, au, av, ax, ay, z⟩ : Ev)] rfl (by simp [Act.eval]) (RV_new1 W9 ⟨1, t, au, av, ax, ay, z⟩) (by omega) (by simp; omega) ?_; intro A7 c7 w7 HO7 HB7 HG7; have HTa := Lib.hid (TL.appC (HT9.out.up (below_new _ _)) HO7.out HB7.out HG7.out); obtain ⟨ch2, Hc2⟩ : ∃ o, Hid (ch ++ [(⟨1, t, au, av, ax, ay, z⟩ : Ev)] = o) := ⟨_, rfl⟩; rw [Hc2.out] at HTa ⊢; have m0 := Go.Joins.cell_of_block HTa.out.bN 0; have m1 := Go.Joins.cell_of_block HTa.out.bN 1; have m2 := Go.Joins.cell_of_block HTa.out.bN 2; have m3 := Go.Joins.cell_of_block HTa.out.bN 3; have m4 := Go.Joins.cell_of_block HTa.out.bN 4; have m5 := Go.Joins.cell_of_block HTa.out.bN 5; simp only [List.getElem?_toArray, List.getElem?_cons_succ, List.getElem?_cons_zero] at m0 m1 m2 m3 m4 m5; have b0 := Go.Joins.cell_of_block HTa.out.bO 0; have b1 := Go.Joins.cell_of_block HTa.out.bO 1; have bf := Go.Joins.unfrozen_of_block HTa.out.bO 1; simp only [List.getElem?_toArray, List.getElem?_cons_succ, List.getElem?_cons_zero] at b0 b1; have ml := lt_of_some HTa.out.bN; have bl := lt_of_some HTa.out.bO)) | (at_builtin; (refine wpList_applL _ rfl (.tmp 124) (.tmp 126) (O + 2) A2 c2 rfl out (by simp [Act.eval]) (HTa.out.ownO.alloc _) (some ⟨w7.heap.size, 0, none⟩) 1 1 [(⟨au, av, ax, ay, z, t⟩ : Ls.Lk)] rfl (by simp [Act.eval]) (RL_new1 w7 ⟨au, av, ax, ay, z, t⟩) (by omega) (by simp; omega) ?_; intro A6 c6 w6 HO6 HB6 HG6; have HTb := Lib.hid (TL.appO (HTa.out.up (below_new _ _)) HO6.out HB6.out HG6.out); obtain ⟨o2, Ho2⟩ : ∃ o, Hid (out ++ [(⟨au, av, ax, ay, z, t⟩ : Ls.Lk)] = o) := ⟨_, rfl⟩; rw [Ho2.out] at HTb ⊢; have i1 := Go.Joins.cell_of_block HTb.out.bO 1; have jf := Go.Joins.unfrozen_of_block HTb.out.bO 1; simp only [List.getElem?_toArray, List.getElem?_cons_succ, List.getElem?_cons_zero] at i1; have il := lt_of_some HTb.out.bO)))
                  clear HO6 HB6 HG6 i1 jf il HO7 HB7 HG7
                  go_roundw
                  case rel => exact ⟨j + 1, true, A6, c6, o2, A7, c7, ch2, hlt, by go_num, rfl, rfl, by rw [← Ho2.out, List.length_append, List.length_singleton]; omega, by rw [← Hc2.out, List.length_append, List.length_singleton]; omega, by show _ = _; rw [HM.out, Ls.rem_hit _ _ _ _ rfl HSM.out, HLK.out, if_pos HNE.out, ← Ho2.out, ← Hc2.out]; simp [Ls.setE], HTb.out.store _⟩
                  case measure => simp [RowKit.intOf]; omega
              · have g4 : (ay == y) = false := by simpa using j4
                have gg4 : (ay != y) = true := by simpa using j4
                go_wp2_with fail
                rw [hW6.out]
                try simp only [hQ.out]
                clear c0 c1' c2' c3 c4 c5 hbw
                refine wp_region_over (by kernel_rfl) (by kernel_rfl) ?_
                repeat (go_big_quiet_step (fail))
                refine wpQuiet_nil ?_
                rintro _ ⟨zz, rfl⟩
                obtain ⟨W7, hW7⟩ : ∃ W7, Hid (over W6 zz = W7) := ⟨_, rfl⟩
                have HT7 : Hid (TL w3 O Qb n ⟨au, av, ax, y, z, t⟩ ⟨au, av, ax, ay, az, at'⟩ (.slice A2 out.length c2) out A2 c2 ch A1 c1 W7) := by show TL _ _ _ _ _ _ _ _ _ _ _ _ _ _; rw [← hW7.out]; exact HT6.out.up (over_below _ zz)
                rw [hW7.out]
                clear HT6 hW6
                have n0 := Go.Joins.cell_of_block HT7.out.bN 0
                have n1 := Go.Joins.cell_of_block HT7.out.bN 1
                have n2 := Go.Joins.cell_of_block HT7.out.bN 2
                have n3 := Go.Joins.cell_of_block HT7.out.bN 3
                have n4 := Go.Joins.cell_of_block HT7.out.bN 4
                have n5 := Go.Joins.cell_of_block HT7.out.bN 5
                simp only [List.getElem?_toArray, List.getElem?_cons_succ, List.getElem?_cons_zero] at n0 n1 n2 n3 n4 n5
                have q0 := Go.Joins.cell_of_block HT7.out.bQ 0
                have q1 := Go.Joins.cell_of_block HT7.out.bQ 1
                have q2 := Go.Joins.cell_of_block HT7.out.bQ 2
                have q3 := Go.Joins.cell_of_block HT7.out.bQ 3
                have q4 := Go.Joins.cell_of_block HT7.out.bQ 4
                have q5 := Go.Joins.cell_of_block HT7.out.bQ 5
                simp only [List.getElem?_toArray, List.getElem?_cons_succ, List.getElem?_cons_zero] at q0 q1 q2 q3 q4 q5
                have nl := lt_of_some HT7.out.bN; have ql := lt_of_some HT7.out.bQ
                go_wp2_with fail
                refine wp_region_over (by kernel_rfl) (by kernel_rfl) ?_
                repeat (go_big_quiet_step (first | (go_at_call 47; exact calls_over (redge_any _ _ _ _ _ _ _))))
                refine wpQuiet_nil ?_
                rintro _ ⟨zz, rfl⟩
                obtain ⟨W8, hW8⟩ : ∃ W8, Hid (over W7 zz = W8) := ⟨_, rfl⟩
                have HT8 : Hid (TL w3 O Qb n ⟨au, av, ax, y, z, t⟩ ⟨au, av, ax, ay, az, at'⟩ (.slice A2 out.length c2) out A2 c2 ch A1 c1 W8) := by show TL _ _ _ _ _ _ _ _ _ _ _ _ _ _; rw [← hW8.out]; exact HT7.out.up (over_below _ zz)
                rw [hW8.out]
                clear HT7 hW7 nl ql n0 n1 n2 n3 n4 n5 q0 q1 q2 q3 q4 q5
                have n0 := Go.Joins.cell_of_block HT8.out.bN 0
                have n1 := Go.Joins.cell_of_block HT8.out.bN 1
                have n2 := Go.Joins.cell_of_block HT8.out.bN 2
                have n3 := Go.Joins.cell_of_block HT8.out.bN 3
                have n4 := Go.Joins.cell_of_block HT8.out.bN 4
                have n5 := Go.Joins.cell_of_block HT8.out.bN 5
                simp only [List.getElem?_toArray, List.getElem?_cons_succ, List.getElem?_cons_zero] at n0 n1 n2 n3 n4 n5
                have q0 := Go.Joins.cell_of_block HT8.out.bQ 0
                have q1 := Go.Joins.cell_of_block HT8.out.bQ 1
                have q2 := Go.Joins.cell_of_block HT8.out.bQ 2
                have q3 := Go.Joins.cell_of_block HT8.out.bQ 3
                have q4 := Go.Joins.cell_of_block HT8.out.bQ 4
                have q5 := Go.Joins.cell_of_block HT8.out.bQ 5
                simp only [List.getElem?_toArray, List.getElem?_cons_succ, List.getElem?_cons_zero] at q0 q1 q2 q3 q4 q5
                have p0 := Go.Joins.cell_of_block HT8.out.bO 0; have p1 := Go.Joins.cell_of_block HT8.out.bO 1; have pf := Go.Joins.unfrozen_of_block HT8.out.bO 1
                simp only [List.getElem?_toArray, List.getElem?_cons_succ, List.getElem?_cons_zero] at p0 p1
                have nl := lt_of_some HT8.out.bN; have ql := lt_of_some HT8.out.bQ; have pl := lt_of_some HT8.out.bO
                have hev := Go.Joins.cell_of_block ((HT8.out.bel.block (G + 1) (by omega)).trans M1.out)
                have e0 := hev 0; have e1 := hev 1; have e2 := hev 2
                simp only [List.getElem?_toArray, List.getElem?_cons_succ, List.getElem?_cons_zero] at e0 e1 e2
                have el := Nat.lt_trans (show G + 1 < O by omega) (lt_of_some HT8.out.bO)
                clear hev
                have HSM : Hid (Ls.same ⟨au, av, ax, ay, az, at'⟩ (Ls.lk ⟨1, t, u, v, ax, y, z⟩) = true) := by show _ = _; rw [HLK.out]; simp [Ls.same]
                have HNE : Hid ((⟨au, av, ax, ay, az, at'⟩ : Ls.Lk) ≠ ⟨au, av, ax, y, z, t⟩) := by show _ ≠ _; simp [j4]
                clear j4
                go_wp2_with fail
                refine (rset_any _ _ _ _ _ _ _ _).mono ?_
                rintro e W9 ⟨rfl, hb9⟩
                have HT9 := Lib.hid (HT8.out.up hb9)
                have hO9 : O + 1 < W9.heap.size := lt_of_some HT9.out.bN
                clear hb9 n0 n1 n2 n3 n4 n5 q0 q1 q2 q3 q4 q5 p0 p1 pf e0 e1 e2
                go_wp2_with (first | (at_builtin; (refine wpList_applV _ rfl (.tmp 116) (.tmp 121) (O + 2) A1 c1 rfl ch (by simp [Act.eval]) (HT9.out.ownC.alloc _) (some ⟨W9.heap.size, 0, none⟩) 1 1 [(⟨1, t, au, av, ax, y, z⟩ : Ev)] rfl (by simp [Act.eval]) (RV_new1 W9 ⟨1, t, au, av, ax, y, z⟩) (by omega) (by simp; omega) ?_; intro A7 c7 w7 HO7 HB7 HG7; have HTa := Lib.hid (TL.appC (HT9.out.up (below_new _ _)) HO7.out HB7.out HG7.out); obtain ⟨ch2, Hc2⟩ : ∃ o, Hid (ch ++ [(⟨1, t, au, av, ax, y, z⟩ : Ev)] = o) := ⟨_, rfl⟩; rw [Hc2.out] at HTa ⊢; have m0 := Go.Joins.cell_of_block HTa.out.bN 0; have m1 := Go.Joins.cell_of_block HTa.out.bN 1; have m2 := Go.Joins.cell_of_block HTa.out.bN 2; have m3 := Go.Joins.cell_of_block HTa.out.bN 3; have m4 := Go.Joins.cell_of_block HTa.out.bN 4; have m5 := Go.Joins.cell_of_block HTa.out.bN 5; simp only [List.getElem?_toArray, List.getElem?_cons_succ, List.getElem?_cons_zero] at m0 m1 m2 m3 m4 m5; have b0 := Go.Joins.cell_of_block HTa.out.bO 0; have b1 := Go.Joins.cell_of_block HTa.out.bO 1; have bf := Go.Joins.unfrozen_of_block HTa.out.bO 1; simp only [List.getElem?_toArray, List.getElem?_cons_succ, List.getElem?_cons_zero] at b0 b1; have ml := lt_of_some HTa.out.bN; have bl := lt_of_some HTa.out.bO)) | (at_builtin; (refine wpList_applL _ rfl (.tmp 124) (.tmp 126) (O + 2) A2 c2 rfl out (by simp [Act.eval]) (HTa.out.ownO.alloc _) (some ⟨w7.heap.size, 0, none⟩) 1 1 [(⟨au, av, ax, y, z, t⟩ : Ls.Lk)] rfl (by simp [Act.eval]) (RL_new1 w7 ⟨au, av, ax, y, z, t⟩) (by omega) (by simp; omega) ?_; intro A6 c6 w6 HO6 HB6 HG6; have HTb := Lib.hid (TL.appO (HTa.out.up (below_new _ _)) HO6.out HB6.out HG6.out); obtain ⟨o2, Ho2⟩ : ∃ o, Hid (out ++ [(⟨au, av, ax, y, z, t⟩ : Ls.Lk)] = o) := ⟨_, rfl⟩; rw [Ho2.out] at HTb ⊢; have i1 := Go.Joins.cell_of_block HTb.out.bO 1; have jf := Go.Joins.unfrozen_of_block HTb.out.bO 1; simp only [List.getElem?_toArray, List.getElem?_cons_succ, List.getElem?_cons_zero] at i1; have il := lt_of_some HTb.out.bO)))
                clear HO6 HB6 HG6 i1 jf il HO7 HB7 HG7
                go_roundw
                case rel => exact ⟨j + 1, true, A6, c6, o2, A7, c7, ch2, hlt, by go_num, rfl, rfl, by rw [← Ho2.out, List.length_append, List.length_singleton]; omega, by rw [← Hc2.out, List.length_append, List.length_singleton]; omega, by show _ = _; rw [HM.out, Ls.rem_hit _ _ _ _ rfl HSM.out, HLK.out, if_pos HNE.out, ← Ho2.out, ← Hc2.out]; simp [Ls.setE], HTb.out.store _⟩
                case measure => simp [RowKit.intOf]; omega
            · have g3 : (ax == x) = false := by simpa using j3
              have gg3 : (ax != x) = true := by simpa using j3
              go_wp2_with fail
              rw [hW6.out]
              try simp only [hQ.out]
              clear c0 c1' c2' c3 c4 c5 hbw
              refine wp_region_over (by kernel_rfl) (by kernel_rfl) ?_
              repeat (go_big_quiet_step (fail))
              refine wpQuiet_nil ?_
              rintro _ ⟨zz, rfl⟩
              obtain ⟨W7, hW7⟩ : ∃ W7, Hid (over W6 zz = W7) := ⟨_, rfl⟩
              have HT7 : Hid (TL w3 O Qb n ⟨au, av, x, y, z, t⟩ ⟨au, av, ax, ay, az, at'⟩ (.slice A2 out.length c2) out A2 c2 ch A1 c1 W7) := by show TL _ _ _ _ _ _ _ _ _ _ _ _ _ _; rw [← hW7.out]; exact HT6.out.up (over_below _ zz)
              rw [hW7.out]
              clear HT6 hW6
              have n0 := Go.Joins.cell_of_block HT7.out.bN 0
              have n1 := Go.Joins.cell_of_block HT7.out.bN 1
              have n2 := Go.Joins.cell_of_block HT7.out.bN 2
              have n3 := Go.Joins.cell_of_block HT7.out.bN 3
              have n4 := Go.Joins.cell_of_block HT7.out.bN 4
              have n5 := Go.Joins.cell_of_block HT7.out.bN 5
              simp only [List.getElem?_toArray, List.getElem?_cons_succ, List.getElem?_cons_zero] at n0 n1 n2 n3 n4 n5
              have q0 := Go.Joins.cell_of_block HT7.out.bQ 0
              have q1 := Go.Joins.cell_of_block HT7.out.bQ 1
              have q2 := Go.Joins.cell_of_block HT7.out.bQ 2
              have q3 := Go.Joins.cell_of_block HT7.out.bQ 3
              have q4 := Go.Joins.cell_of_block HT7.out.bQ 4
              have q5 := Go.Joins.cell_of_block HT7.out.bQ 5
              simp only [List.getElem?_toArray, List.getElem?_cons_succ, List.getElem?_cons_zero] at q0 q1 q2 q3 q4 q5
              have nl := lt_of_some HT7.out.bN; have ql := lt_of_some HT7.out.bQ
              go_wp2_with fail
              refine wp_region_over (by kernel_rfl) (by kernel_rfl) ?_
              repeat (go_big_quiet_step (first | (go_at_call 47; exact calls_over (redge_any _ _ _ _ _ _ _))))
              refine wpQuiet_nil ?_
              rintro _ ⟨zz, rfl⟩
              obtain ⟨W8, hW8⟩ : ∃ W8, Hid (over W7 zz = W8) := ⟨_, rfl⟩
              have HT8 : Hid (TL w3 O Qb n ⟨au, av, x, y, z, t⟩ ⟨au, av, ax, ay, az, at'⟩ (.slice A2 out.length c2) out A2 c2 ch A1 c1 W8) := by show TL _ _ _ _ _ _ _ _ _ _ _ _ _ _; rw [← hW8.out]; exact HT7.out.up (over_below _ zz)
              rw [hW8.out]
              clear HT7 hW7 nl ql n0 n1 n2 n3 n4 n5 q0 q1 q2 q3 q4 q5
              have n0 := Go.Joins.cell_of_block HT8.out.bN 0
              have n1 := Go.Joins.cell_of_block HT8.out.bN 1
              have n2 := Go.Joins.cell_of_block HT8.out.bN 2
              have n3 := Go.Joins.cell_of_block HT8.out.bN 3
              have n4 := Go.Joins.cell_of_block HT8.out.bN 4
              have n5 := Go.Joins.cell_of_block HT8.out.bN 5
              simp only [List.getElem?_toArray, List.getElem?_cons_succ, List.getElem?_cons_zero] at n0 n1 n2 n3 n4 n5
              have q0 := Go.Joins.cell_of_block HT8.out.bQ 0
              have q1 := Go.Joins.cell_of_block HT8.out.bQ 1
              have q2 := Go.Joins.cell_of_block HT8.out.bQ 2
              have q3 := Go.Joins.cell_of_block HT8.out.bQ 3
              have q4 := Go.Joins.cell_of_block HT8.out.bQ 4
              have q5 := Go.Joins.cell_of_block HT8.out.bQ 5
              simp only [List.getElem?_toArray, List.getElem?_cons_succ, List.getElem?_cons_zero] at q0 q1 q2 q3 q4 q5
              have p0 := Go.Joins.cell_of_block HT8.out.bO 0; have p1 := Go.Joins.cell_of_block HT8.out.bO 1; have pf := Go.Joins.unfrozen_of_block HT8.out.bO 1
              simp only [List.getElem?_toArray, List.getElem?_cons_succ, List.getElem?_cons_zero] at p0 p1
              have nl := lt_of_some HT8.out.bN; have ql := lt_of_some HT8.out.bQ; have pl := lt_of_some HT8.out.bO
              have hev := Go.Joins.cell_of_block ((HT8.out.bel.block (G + 1) (by omega)).trans M1.out)
              have e0 := hev 0; have e1 := hev 1; have e2 := hev 2
              simp only [List.getElem?_toArray, List.getElem?_cons_succ, List.getElem?_cons_zero] at e0 e1 e2
              have el := Nat.lt_trans (show G + 1 < O by omega) (lt_of_some HT8.out.bO)
              clear hev
              have HSM : Hid (Ls.same ⟨au, av, ax, ay, az, at'⟩ (Ls.lk ⟨1, t, u, v, x, y, z⟩) = true) := by show _ = _; rw [HLK.out]; simp [Ls.same]
              have HNE : Hid ((⟨au, av, ax, ay, az, at'⟩ : Ls.Lk) ≠ ⟨au, av, x, y, z, t⟩) := by show _ ≠ _; simp [j3]
              clear j3
              go_wp2_with fail
              refine (rset_any _ _ _ _ _ _ _ _).mono ?_
              rintro e W9 ⟨rfl, hb9⟩
              have HT9 := Lib.hid (HT8.out.up hb9)
              have hO9 : O + 1 < W9.heap.size := lt_of_some HT9.out.bN
              clear hb9 n0 n1 n2 n3 n4 n5 q0 q1 q2 q3 q4 q5 p0 p1 pf e0 e1 e2
              go_wp2_with (first | (at_builtin; (refine wpList_applV _ rfl (.tmp 116) (.tmp 121) (O + 2) A1 c1 rfl ch (by simp [Act.eval]) (HT9.out.ownC.alloc _) (some ⟨W9.heap.size, 0, none⟩) 1 1 [(⟨1, t, au, av, x, y, z⟩ : Ev)] rfl (by simp [Act.eval]) (RV_new1 W9 ⟨1, t, au, av, x, y, z⟩) (by omega) (by simp; omega) ?_; intro A7 c7 w7 HO7 HB7 HG7; have HTa := Lib.hid (TL.appC (HT9.out.up (below_new _ _)) HO7.out HB7.out HG7.out); obtain ⟨ch2, Hc2⟩ : ∃ o, Hid (ch ++ [(⟨1, t, au, av, x, y, z⟩ : Ev)] = o) := ⟨_, rfl⟩; rw [Hc2.out] at HTa ⊢; have m0 := Go.Joins.cell_of_block HTa.out.bN 0; have m1 := Go.Joins.cell_of_block HTa.out.bN 1; have m2 := Go.Joins.cell_of_block HTa.out.bN 2; have m3 := Go.Joins.cell_of_block HTa.out.bN 3; have m4 := Go.Joins.cell_of_block HTa.out.bN 4; have m5 := Go.Joins.cell_of_block HTa.out.bN 5; simp only [List.getElem?_toArray, List.getElem?_cons_succ, List.getElem?_cons_zero] at m0 m1 m2 m3 m4 m5; have b0 := Go.Joins.cell_of_block HTa.out.bO 0; have b1 := Go.Joins.cell_of_block HTa.out.bO 1; have bf := Go.Joins.unfrozen_of_block HTa.out.bO 1; simp only [List.getElem?_toArray, List.getElem?_cons_succ, List.getElem?_cons_zero] at b0 b1; have ml := lt_of_some HTa.out.bN; have bl := lt_of_some HTa.out.bO)) | (at_builtin; (refine wpList_applL _ rfl (.tmp 124) (.tmp 126) (O + 2) A2 c2 rfl out (by simp [Act.eval]) (HTa.out.ownO.alloc _) (some ⟨w7.heap.size, 0, none⟩) 1 1 [(⟨au, av, x, y, z, t⟩ : Ls.Lk)] rfl (by simp [Act.eval]) (RL_new1 w7 ⟨au, av, x, y, z, t⟩) (by omega) (by simp; omega) ?_; intro A6 c6 w6 HO6 HB6 HG6; have HTb := Lib.hid (TL.appO (HTa.out.up (below_new _ _)) HO6.out HB6.out HG6.out); obtain ⟨o2, Ho2⟩ : ∃ o, Hid (out ++ [(⟨au, av, x, y, z, t⟩ : Ls.Lk)] = o) := ⟨_, rfl⟩; rw [Ho2.out] at HTb ⊢; have i1 := Go.Joins.cell_of_block HTb.out.bO 1; have jf := Go.Joins.unfrozen_of_block HTb.out.bO 1; simp only [List.getElem?_toArray, List.getElem?_cons_succ, List.getElem?_cons_zero] at i1; have il := lt_of_some HTb.out.bO)))
              clear HO6 HB6 HG6 i1 jf il HO7 HB7 HG7
              go_roundw
              case rel => exact ⟨j + 1, true, A6, c6, o2, A7, c7, ch2, hlt, by go_num, rfl, rfl, by rw [← Ho2.out, List.length_append, List.length_singleton]; omega, by rw [← Hc2.out, List.length_append, List.length_singleton]; omega, by show _ = _; rw [HM.out, Ls.rem_hit _ _ _ _ rfl HSM.out, HLK.out, if_pos HNE.out, ← Ho2.out, ← Hc2.out]; simp [Ls.setE], HTb.out.store _⟩
              case measure => simp [RowKit.intOf]; omega
          · have g2 : (av == V) = false := by simpa using hs2
            have HS : Hid (Ls.same ⟨au, av, ax, ay, az, at'⟩ (Ls.lk ⟨1, t, u, v, x, y, z⟩) = false) := by show _ = _; rw [HLK.out]; simp [Ls.same, hs2]
            clear hs2
            go_wp2_with fail
            rw [hW6.out]
            try simp only [hQ.out]
            clear c0 c1' c2' c3 c4 c5 hbw
            refine wp_region_over (by kernel_rfl) (by kernel_rfl) ?_
            repeat (go_big_quiet_step (fail))
            refine wpQuiet_nil ?_
            rintro _ ⟨zz, rfl⟩
            obtain ⟨W7, hW7⟩ : ∃ W7, Hid (over W6 zz = W7) := ⟨_, rfl⟩
            have HT7 : Hid (TL w3 O Qb n ⟨au, V, x, y, z, t⟩ ⟨au, av, ax, ay, az, at'⟩ (.slice A2 out.length c2) out A2 c2 ch A1 c1 W7) := by show TL _ _ _ _ _ _ _ _ _ _ _ _ _ _; rw [← hW7.out]; exact HT6.out.up (over_below _ zz)
            rw [hW7.out]
            clear HT6 hW6
            have n0 := Go.Joins.cell_of_block HT7.out.bN 0
            have n1 := Go.Joins.cell_of_block HT7.out.bN 1
            have n2 := Go.Joins.cell_of_block HT7.out.bN 2
            have n3 := Go.Joins.cell_of_block HT7.out.bN 3
            have n4 := Go.Joins.cell_of_block HT7.out.bN 4
            have n5 := Go.Joins.cell_of_block HT7.out.bN 5
            simp only [List.getElem?_toArray, List.getElem?_cons_succ, List.getElem?_cons_zero] at n0 n1 n2 n3 n4 n5
            have q0 := Go.Joins.cell_of_block HT7.out.bQ 0
            have q1 := Go.Joins.cell_of_block HT7.out.bQ 1
            have q2 := Go.Joins.cell_of_block HT7.out.bQ 2
            have q3 := Go.Joins.cell_of_block HT7.out.bQ 3
            have q4 := Go.Joins.cell_of_block HT7.out.bQ 4
            have q5 := Go.Joins.cell_of_block HT7.out.bQ 5
            simp only [List.getElem?_toArray, List.getElem?_cons_succ, List.getElem?_cons_zero] at q0 q1 q2 q3 q4 q5
            have nl := lt_of_some HT7.out.bN; have ql := lt_of_some HT7.out.bQ
            go_wp2_with fail
            refine wp_region_over (by kernel_rfl) (by kernel_rfl) ?_
            repeat (go_big_quiet_step (first | (go_at_call 47; exact calls_over (redge_any _ _ _ _ _ _ _))))
            refine wpQuiet_nil ?_
            rintro _ ⟨zz, rfl⟩
            obtain ⟨W8, hW8⟩ : ∃ W8, Hid (over W7 zz = W8) := ⟨_, rfl⟩
            have HT8 : Hid (TL w3 O Qb n ⟨au, V, x, y, z, t⟩ ⟨au, av, ax, ay, az, at'⟩ (.slice A2 out.length c2) out A2 c2 ch A1 c1 W8) := by show TL _ _ _ _ _ _ _ _ _ _ _ _ _ _; rw [← hW8.out]; exact HT7.out.up (over_below _ zz)
            rw [hW8.out]
            clear HT7 hW7 nl ql n0 n1 n2 n3 n4 n5 q0 q1 q2 q3 q4 q5
            have n0 := Go.Joins.cell_of_block HT8.out.bN 0
            have n1 := Go.Joins.cell_of_block HT8.out.bN 1
            have n2 := Go.Joins.cell_of_block HT8.out.bN 2
            have n3 := Go.Joins.cell_of_block HT8.out.bN 3
            have n4 := Go.Joins.cell_of_block HT8.out.bN 4
            have n5 := Go.Joins.cell_of_block HT8.out.bN 5
            simp only [List.getElem?_toArray, List.getElem?_cons_succ, List.getElem?_cons_zero] at n0 n1 n2 n3 n4 n5
            have q0 := Go.Joins.cell_of_block HT8.out.bQ 0
            have q1 := Go.Joins.cell_of_block HT8.out.bQ 1
            have q2 := Go.Joins.cell_of_block HT8.out.bQ 2
            have q3 := Go.Joins.cell_of_block HT8.out.bQ 3
            have q4 := Go.Joins.cell_of_block HT8.out.bQ 4
            have q5 := Go.Joins.cell_of_block HT8.out.bQ 5
            simp only [List.getElem?_toArray, List.getElem?_cons_succ, List.getElem?_cons_zero] at q0 q1 q2 q3 q4 q5
            have p0 := Go.Joins.cell_of_block HT8.out.bO 0; have p1 := Go.Joins.cell_of_block HT8.out.bO 1; have pf := Go.Joins.unfrozen_of_block HT8.out.bO 1
            simp only [List.getElem?_toArray, List.getElem?_cons_succ, List.getElem?_cons_zero] at p0 p1
            have nl := lt_of_some HT8.out.bN; have ql := lt_of_some HT8.out.bQ; have pl := lt_of_some HT8.out.bO
            have hev := Go.Joins.cell_of_block ((HT8.out.bel.block (G + 1) (by omega)).trans M1.out)
            have e0 := hev 0; have e1 := hev 1; have e2 := hev 2
            simp only [List.getElem?_toArray, List.getElem?_cons_succ, List.getElem?_cons_zero] at e0 e1 e2
            have el := Nat.lt_trans (show G + 1 < O by omega) (lt_of_some HT8.out.bO)
            clear hev
            go_wp2_with (at_builtin; (refine wpList_applL _ rfl (.tmp 101) (.tmp 103) (O + 2) A2 c2 rfl out (by simp [Act.eval]) (HT8.out.ownO.alloc _) (some ⟨W8.heap.size, 0, none⟩) 1 1 [⟨au, av, ax, ay, az, at'⟩] rfl (by simp [Act.eval]) (RL_new1 W8 ⟨au, av, ax, ay, az, at'⟩) (by omega) (by simp; omega) ?_; intro A6 c6 w6 HO6 HB6 HG6; have HT9 := Lib.hid (TL.appO (HT8.out.up (below_new _ _)) HO6.out HB6.out HG6.out); obtain ⟨o2, Ho2⟩ : ∃ o, Hid (out ++ [(⟨au, av, ax, ay, az, at'⟩ : Ls.Lk)] = o) := ⟨_, rfl⟩; rw [Ho2.out] at HT9 ⊢; have i1 := Go.Joins.cell_of_block HT9.out.bO 1; have jf := Go.Joins.unfrozen_of_block HT9.out.bO 1; simp only [List.getElem?_toArray, List.getElem?_cons_succ, List.getElem?_cons_zero] at i1; have il := lt_of_some HT9.out.bO))
            clear HO6 HB6 HG6 i1 jf il
            go_roundw
            case rel => exact ⟨j + 1, true, A6, c6, o2, A1, c1, ch, hlt, by go_num, rfl, rfl, by rw [← Ho2.out, List.length_append, List.length_singleton]; omega, by omega, by show _ = _; rw [HM.out, Ls.rem_pass _ _ _ _ rfl HS.out (.inl rfl), ← Ho2.out]; simp, HT9.out.store _⟩
            case measure => simp [RowKit.intOf]; omega
        · have g1 : (au == U) = false := by simpa using hs1
          have HS : Hid (Ls.same ⟨au, av, ax, ay, az, at'⟩ (Ls.lk ⟨1, t, u, v, x, y, z⟩) = false) := by show _ = _; rw [HLK.out]; simp [Ls.same, hs1]
          clear hs1
          go_wp2_with fail
          rw [hW6.out]
          try simp only [hQ.out]
          clear c0 c1' c2' c3 c4 c5 hbw
          refine wp_region_over (by kernel_rfl) (by kernel_rfl) ?_
          repeat (go_big_quiet_step (fail))
          refine wpQuiet_nil ?_
          rintro _ ⟨zz, rfl⟩
          obtain ⟨W7, hW7⟩ : ∃ W7, Hid (over W6 zz = W7) := ⟨_, rfl⟩
          have HT7 : Hid (TL w3 O Qb n ⟨U, V, x, y, z, t⟩ ⟨au, av, ax, ay, az, at'⟩ (.slice A2 out.length c2) out A2 c2 ch A1 c1 W7) := by show TL _ _ _ _ _ _ _ _ _ _ _ _ _ _; rw [← hW7.out]; exact HT6.out.up (over_below _ zz)
          rw [hW7.out]
          clear HT6 hW6
          have n0 := Go.Joins.cell_of_block HT7.out.bN 0
          have n1 := Go.Joins.cell_of_block HT7.out.bN 1
          have n2 := Go.Joins.cell_of_block HT7.out.bN 2
          have n3 := Go.Joins.cell_of_block HT7.out.bN 3
          have n4 := Go.Joins.cell_of_block HT7.out.bN 4
          have n5 := Go.Joins.cell_of_block HT7.out.bN 5
          simp only [List.getElem?_toArray, List.getElem?_cons_succ, List.getElem?_cons_zero] at n0 n1 n2 n3 n4 n5
          have q0 := Go.Joins.cell_of_block HT7.out.bQ 0
          have q1 := Go.Joins.cell_of_block HT7.out.bQ 1
          have q2 := Go.Joins.cell_of_block HT7.out.bQ 2
          have q3 := Go.Joins.cell_of_block HT7.out.bQ 3
          have q4 := Go.Joins.cell_of_block HT7.out.bQ 4
          have q5 := Go.Joins.cell_of_block HT7.out.bQ 5
          simp only [List.getElem?_toArray, List.getElem?_cons_succ, List.getElem?_cons_zero] at q0 q1 q2 q3 q4 q5
          have nl := lt_of_some HT7.out.bN; have ql := lt_of_some HT7.out.bQ
          go_wp2_with fail
          refine wp_region_over (by kernel_rfl) (by kernel_rfl) ?_
          repeat (go_big_quiet_step (first | (go_at_call 47; exact calls_over (redge_any _ _ _ _ _ _ _))))
          refine wpQuiet_nil ?_
          rintro _ ⟨zz, rfl⟩
          obtain ⟨W8, hW8⟩ : ∃ W8, Hid (over W7 zz = W8) := ⟨_, rfl⟩
          have HT8 : Hid (TL w3 O Qb n ⟨U, V, x, y, z, t⟩ ⟨au, av, ax, ay, az, at'⟩ (.slice A2 out.length c2) out A2 c2 ch A1 c1 W8) := by show TL _ _ _ _ _ _ _ _ _ _ _ _ _ _; rw [← hW8.out]; exact HT7.out.up (over_below _ zz)
          rw [hW8.out]
          clear HT7 hW7 nl ql n0 n1 n2 n3 n4 n5 q0 q1 q2 q3 q4 q5
          have n0 := Go.Joins.cell_of_block HT8.out.bN 0
          have n1 := Go.Joins.cell_of_block HT8.out.bN 1
          have n2 := Go.Joins.cell_of_block HT8.out.bN 2
          have n3 := Go.Joins.cell_of_block HT8.out.bN 3
          have n4 := Go.Joins.cell_of_block HT8.out.bN 4
          have n5 := Go.Joins.cell_of_block HT8.out.bN 5
          simp only [List.getElem?_toArray, List.getElem?_cons_succ, List.getElem?_cons_zero] at n0 n1 n2 n3 n4 n5
          have q0 := Go.Joins.cell_of_block HT8.out.bQ 0
          have q1 := Go.Joins.cell_of_block HT8.out.bQ 1
          have q2 := Go.Joins.cell_of_block HT8.out.bQ 2
          have q3 := Go.Joins.cell_of_block HT8.out.bQ 3
          have q4 := Go.Joins.cell_of_block HT8.out.bQ 4
          have q5 := Go.Joins.cell_of_block HT8.out.bQ 5
          simp only [List.getElem?_toArray, List.getElem?_cons_succ, List.getElem?_cons_zero] at q0 q1 q2 q3 q4 q5
          have p0 := Go.Joins.cell_of_block HT8.out.bO 0; have p1 := Go.Joins.cell_of_block HT8.out.bO 1; have pf := Go.Joins.unfrozen_of_block HT8.out.bO 1
          simp only [List.getElem?_toArray, List.getElem?_cons_succ, List.getElem?_cons_zero] at p0 p1
          have nl := lt_of_some HT8.out.bN; have ql := lt_of_some HT8.out.bQ; have pl := lt_of_some HT8.out.bO
          have hev := Go.Joins.cell_of_block ((HT8.out.bel.block (G + 1) (by omega)).trans M1.out)
          have e0 := hev 0; have e1 := hev 1; have e2 := hev 2
          simp only [List.getElem?_toArray, List.getElem?_cons_succ, List.getElem?_cons_zero] at e0 e1 e2
          have el := Nat.lt_trans (show G + 1 < O by omega) (lt_of_some HT8.out.bO)
          clear hev
          go_wp2_with (at_builtin; (refine wpList_applL _ rfl (.tmp 101) (.tmp 103) (O + 2) A2 c2 rfl out (by simp [Act.eval]) (HT8.out.ownO.alloc _) (some ⟨W8.heap.size, 0, none⟩) 1 1 [⟨au, av, ax, ay, az, at'⟩] rfl (by simp [Act.eval]) (RL_new1 W8 ⟨au, av, ax, ay, az, at'⟩) (by omega) (by simp; omega) ?_; intro A6 c6 w6 HO6 HB6 HG6; have HT9 := Lib.hid (TL.appO (HT8.out.up (below_new _ _)) HO6.out HB6.out HG6.out); obtain ⟨o2, Ho2⟩ : ∃ o, Hid (out ++ [(⟨au, av, ax, ay, az, at'⟩ : Ls.Lk)] = o) := ⟨_, rfl⟩; rw [Ho2.out] at HT9 ⊢; have i1 := Go.Joins.cell_of_block HT9.out.bO 1; have jf := Go.Joins.unfrozen_of_block HT9.out.bO 1; simp only [List.getElem?_toArray, List.getElem?_cons_succ, List.getElem?_cons_zero] at i1; have il := lt_of_some HT9.out.bO))
          clear HO6 HB6 HG6 i1 jf il
          go_roundw
          case rel => exact ⟨j + 1, true, A6, c6, o2, A1, c1, ch, hlt, by go_num, rfl, rfl, by rw [← Ho2.out, List.length_append, List.length_singleton]; omega, by omega, by show _ = _; rw [HM.out, Ls.rem_pass _ _ _ _ rfl HS.out (.inl rfl), ← Ho2.out]; simp, HT9.out.store _⟩
          case measure => simp [RowKit.intOf]; omega
      | false =>
        obtain ⟨bv, HBV⟩ : ∃ bv, Hid (bef (U, V) (au, av) = bv) := ⟨_, rfl⟩
        have HBE : Hid (Ls.before (Ls.lk ⟨1, t, u, v, x, y, z⟩) ⟨au, av, ax, ay, az, at'⟩ = bv) := by show _ = _; rw [HLK.out, ← HBV.out]; rfl
        cases bv with
        | false =>
          have HBF := Lib.hid HBE.out
          by_cases hs1 : au = U
          · subst hs1
            by_cases hs2 : av = V
            · subst hs2
              by_cases j3 : ax = x
              · subst j3
                by_cases j4 : ay = y
                · subst j4
                  by_cases j5 : az = z
                  · subst j5
                    by_cases j6 : at' = t
                    · subst j6
                      go_wp2_with fail
                      rw [hW6.out]
                      try simp only [hQ.out]
                      clear c0 c1' c2' c3 c4 c5 hbw
                      have n0 := Go.Joins.cell_of_block HT6.out.bN 0
                      have n1 := Go.Joins.cell_of_block HT6.out.bN 1
                      have n2 := Go.Joins.cell_of_block HT6.out.bN 2
                      have n3 := Go.Joins.cell_of_block HT6.out.bN 3
                      have n4 := Go.Joins.cell_of_block HT6.out.bN 4
                      have n5 := Go.Joins.cell_of_block HT6.out.bN 5
                      simp only [List.getElem?_toArray, List.getElem?_cons_succ, List.getElem?_cons_zero] at n0 n1 n2 n3 n4 n5
                      have q0 := Go.Joins.cell_of_block HT6.out.bQ 0
                      have q1 := Go.Joins.cell_of_block HT6.out.bQ 1
                      have q2 := Go.Joins.cell_of_block HT6.out.bQ 2
                      have q3 := Go.Joins.cell_of_block HT6.out.bQ 3
                      have q4 := Go.Joins.cell_of_block HT6.out.bQ 4
                      have q5 := Go.Joins.cell_of_block HT6.out.bQ 5
                      simp only [List.getElem?_toArray, List.getElem?_cons_succ, List.getElem?_cons_zero] at q0 q1 q2 q3 q4 q5
                      have nl := lt_of_some HT6.out.bN; have ql := lt_of_some HT6.out.bQ
                      have C35 : Hid (∀ ax' : More W6, Calls Tryz.prog 46 #[.agg #[.int .i64 au, .int .i64 av], .agg #[.int .i64 au, .int .i64 av]] (over W6 ax') fun e w' => e = .returned (.bool false) ∧ Below (over W6 ax').heap.size (over W6 ax') w') := by
                        intro ax'
                        have h9 := before_any au av au av (over W6 ax')
                        rw [HBV.out] at h9
                        exact h9
                      refine wp_region_over (by kernel_rfl) (by kernel_rfl) ?_
                      repeat (go_big_quiet_step (first | (go_at_call 47; exact calls_over (redge_any _ _ _ _ _ _ _)) | (go_at_call 46; exact calls_over (C35.out _))))
                      refine wpQuiet_nil ?_
                      rintro _ ⟨zz, rfl⟩
                      obtain ⟨W7, hW7⟩ : ∃ W7, Hid (over W6 zz = W7) := ⟨_, rfl⟩
                      have HT7 : Hid (TL w3 O Qb n ⟨au, av, ax, ay, az, at'⟩ ⟨au, av, ax, ay, az, at'⟩ (.slice A2 out.length c2) out A2 c2 ch A1 c1 W7) := by show TL _ _ _ _ _ _ _ _ _ _ _ _ _ _; rw [← hW7.out]; exact HT6.out.up (over_below _ zz)
                      rw [hW7.out]
                      clear HT6 hW6 n0 q0 n1 q1 n2 q2 n3 q3 n4 q4 n5 q5 nl ql C35
                      have n0 := Go.Joins.cell_of_block HT7.out.bN 0
                      have n1 := Go.Joins.cell_of_block HT7.out.bN 1
                      have n2 := Go.Joins.cell_of_block HT7.out.bN 2
                      have n3 := Go.Joins.cell_of_block HT7.out.bN 3
                      have n4 := Go.Joins.cell_of_block HT7.out.bN 4
                      have n5 := Go.Joins.cell_of_block HT7.out.bN 5
                      simp only [List.getElem?_toArray, List.getElem?_cons_succ, List.getElem?_cons_zero] at n0 n1 n2 n3 n4 n5
                      have q0 := Go.Joins.cell_of_block HT7.out.bQ 0
                      have q1 := Go.Joins.cell_of_block HT7.out.bQ 1
                      have q2 := Go.Joins.cell_of_block HT7.out.bQ 2
                      have q3 := Go.Joins.cell_of_block HT7.out.bQ 3
                      have q4 := Go.Joins.cell_of_block HT7.out.bQ 4
                      have q5 := Go.Joins.cell_of_block HT7.out.bQ 5
                      simp only [List.getElem?_toArray, List.getElem?_cons_succ, List.getElem?_cons_zero] at q0 q1 q2 q3 q4 q5
                      have nl := lt_of_some HT7.out.bN; have ql := lt_of_some HT7.out.bQ
                      go_wp2_with fail
                      refine wp_region_over (by kernel_rfl) (by kernel_rfl) ?_
                      repeat (go_big_quiet_step (first | (go_at_call 47; exact calls_over (redge_any _ _ _ _ _ _ _))))
                      refine wpQuiet_nil ?_
                      rintro _ ⟨zz, rfl⟩
                      obtain ⟨W8, hW8⟩ : ∃ W8, Hid (over W7 zz = W8) := ⟨_, rfl⟩
                      have HT8 : Hid (TL w3 O Qb n ⟨au, av, ax, ay, az, at'⟩ ⟨au, av, ax, ay, az, at'⟩ (.slice A2 out.length c2) out A2 c2 ch A1 c1 W8) := by show TL _ _ _ _ _ _ _ _ _ _ _ _ _ _; rw [← hW8.out]; exact HT7.out.up (over_below _ zz)
                      rw [hW8.out]
                      clear HT7 hW7 nl ql n0 n1 n2 n3 n4 n5 q0 q1 q2 q3 q4 q5
                      have n0 := Go.Joins.cell_of_block HT8.out.bN 0
                      have n1 := Go.Joins.cell_of_block HT8.out.bN 1
                      have n2 := Go.Joins.cell_of_block HT8.out.bN 2
                      have n3 := Go.Joins.cell_of_block HT8.out.bN 3
                      have n4 := Go.Joins.cell_of_block HT8.out.bN 4
                      have n5 := Go.Joins.cell_of_block HT8.out.bN 5
                      simp only [List.getElem?_toArray, List.getElem?_cons_succ, List.getElem?_cons_zero] at n0 n1 n2 n3 n4 n5
                      have q0 := Go.Joins.cell_of_block HT8.out.bQ 0
                      have q1 := Go.Joins.cell_of_block HT8.out.bQ 1
                      have q2 := Go.Joins.cell_of_block HT8.out.bQ 2
                      have q3 := Go.Joins.cell_of_block HT8.out.bQ 3
                      have q4 := Go.Joins.cell_of_block HT8.out.bQ 4
                      have q5 := Go.Joins.cell_of_block HT8.out.bQ 5
                      simp only [List.getElem?_toArray, List.getElem?_cons_succ, List.getElem?_cons_zero] at q0 q1 q2 q3 q4 q5
                      have p0 := Go.Joins.cell_of_block HT8.out.bO 0; have p1 := Go.Joins.cell_of_block HT8.out.bO 1; have pf := Go.Joins.unfrozen_of_block HT8.out.bO 1
                      simp only [List.getElem?_toArray, List.getElem?_cons_succ, List.getElem?_cons_zero] at p0 p1
                      have nl := lt_of_some HT8.out.bN; have ql := lt_of_some HT8.out.bQ; have pl := lt_of_some HT8.out.bO
                      have hev := Go.Joins.cell_of_block ((HT8.out.bel.block (G + 1) (by omega)).trans M1.out)
                      have e0 := hev 0; have e1 := hev 1; have e2 := hev 2
                      simp only [List.getElem?_toArray, List.getElem?_cons_succ, List.getElem?_cons_zero] at e0 e1 e2
                      have el := Nat.lt_trans (show G + 1 < O by omega) (lt_of_some HT8.out.bO)
                      clear hev
                      have HSM : Hid (Ls.same ⟨au, av, ax, ay, az, at'⟩ (Ls.lk ⟨1, at', u, v, ax, ay, az⟩) = true) := by show _ = _; rw [HLK.out]; simp [Ls.same]
                      go_wp2_with (at_builtin; (refine wpList_applL _ rfl (.tmp 124) (.tmp 126) (O + 2) A2 c2 rfl out (by simp [Act.eval]) (HT8.out.ownO.alloc _) (some ⟨W8.heap.size, 0, none⟩) 1 1 [(⟨au, av, ax, ay, az, at'⟩ : Ls.Lk)] rfl (by simp [Act.eval]) (RL_new1 W8 ⟨au, av, ax, ay, az, at'⟩) (by omega) (by simp; omega) ?_; intro A6 c6 w6 HO6 HB6 HG6; have HTb := Lib.hid (TL.appO (HT8.out.up (below_new _ _)) HO6.out HB6.out HG6.out); obtain ⟨o2, Ho2⟩ : ∃ o, Hid (out ++ [(⟨au, av, ax, ay, az, at'⟩ : Ls.Lk)] = o) := ⟨_, rfl⟩; rw [Ho2.out] at HTb ⊢; have i1 := Go.Joins.cell_of_block HTb.out.bO 1; have jf := Go.Joins.unfrozen_of_block HTb.out.bO 1; simp only [List.getElem?_toArray, List.getElem?_cons_succ, List.getElem?_cons_zero] at i1; have il := lt_of_some HTb.out.bO))
                      clear HO6 HB6 HG6 i1 jf il
                      go_roundw
                      case rel => exact ⟨j + 1, true, A6, c6, o2, A1, c1, ch, hlt, by go_num, rfl, rfl, by rw [← Ho2.out, List.length_append, List.length_singleton]; omega, by omega, by show _ = _; rw [HM.out, Ls.rem_hit _ _ _ _ rfl HSM.out, HLK.out, if_neg (by simp), ← Ho2.out]; simp, HTb.out.store _⟩
                      case measure => simp [RowKit.intOf]; omega
                    · have g6 : (at' == t) = false := by simpa using j6
                      have gg6 : (at' != t) = true := by simpa using j6
                      go_wp2_with fail
                      rw [hW6.out]
                      try simp only [hQ.out]
                      clear c0 c1' c2' c3 c4 c5 hbw
                      have n0 := Go.Joins.cell_of_block HT6.out.bN 0
                      have n1 := Go.Joins.cell_of_block HT6.out.bN 1
                      have n2 := Go.Joins.cell_of_block HT6.out.bN 2
                      have n3 := Go.Joins.cell_of_block HT6.out.bN 3
                      have n4 := Go.Joins.cell_of_block HT6.out.bN 4
                      have n5 := Go.Joins.cell_of_block HT6.out.bN 5
                      simp only [List.getElem?_toArray, List.getElem?_cons_succ, List.getElem?_cons_zero] at n0 n1 n2 n3 n4 n5
                      have q0 := Go.Joins.cell_of_block HT6.out.bQ 0
                      have q1 := Go.Joins.cell_of_block HT6.out.bQ 1
                      have q2 := Go.Joins.cell_of_block HT6.out.bQ 2
                      have q3 := Go.Joins.cell_of_block HT6.out.bQ 3
                      have q4 := Go.Joins.cell_of_block HT6.out.bQ 4
                      have q5 := Go.Joins.cell_of_block HT6.out.bQ 5
                      simp only [List.getElem?_toArray, List.getElem?_cons_succ, List.getElem?_cons_zero] at q0 q1 q2 q3 q4 q5
                      have nl := lt_of_some HT6.out.bN; have ql := lt_of_some HT6.out.bQ
                      have C35 : Hid (∀ ax' : More W6, Calls Tryz.prog 46 #[.agg #[.int .i64 au, .int .i64 av], .agg #[.int .i64 au, .int .i64 av]] (over W6 ax') fun e w' => e = .returned (.bool false) ∧ Below (over W6 ax').heap.size (over W6 ax') w') := by
                        intro ax'
                        have h9 := before_any au av au av (over W6 ax')
                        rw [HBV.out] at h9
                        exact h9
                      refine wp_region_over (by kernel_rfl) (by kernel_rfl) ?_
                      repeat (go_big_quiet_step (first | (go_at_call 47; exact calls_over (redge_any _ _ _ _ _ _ _)) | (go_at_call 46; exact calls_over (C35.out _))))
                      refine wpQuiet_nil ?_
                      rintro _ ⟨zz, rfl⟩
                      obtain ⟨W7, hW7⟩ : ∃ W7, Hid (over W6 zz = W7) := ⟨_, rfl⟩
                      have HT7 : Hid (TL w3 O Qb n ⟨au, av, ax, ay, az, t⟩ ⟨au, av, ax, ay, az, at'⟩ (.slice A2 out.length c2) out A2 c2 ch A1 c1 W7) := by show TL _ _ _ _ _ _ _ _ _ _ _ _ _ _; rw [← hW7.out]; exact HT6.out.up (over_below _ zz)
                      rw [hW7.out]
                      clear HT6 hW6 n0 q0 n1 q1 n2 q2 n3 q3 n4 q4 n5 q5 nl ql C35
                      have n0 := Go.Joins.cell_of_block HT7.out.bN 0
                      have n1 := Go.Joins.cell_of_block HT7.out.bN 1
                      have n2 := Go.Joins.cell_of_block HT7.out.bN 2
                      have n3 := Go.Joins.cell_of_block HT7.out.bN 3
                      have n4 := Go.Joins.cell_of_block HT7.out.bN 4
                      have n5 := Go.Joins.cell_of_block HT7.out.bN 5
                      simp only [List.getElem?_toArray, List.getElem?_cons_succ, List.getElem?_cons_zero] at n0 n1 n2 n3 n4 n5
                      have q0 := Go.Joins.cell_of_block HT7.out.bQ 0
                      have q1 := Go.Joins.cell_of_block HT7.out.bQ 1
                      have q2 := Go.Joins.cell_of_block HT7.out.bQ 2
                      have q3 := Go.Joins.cell_of_block HT7.out.bQ 3
                      have q4 := Go.Joins.cell_of_block HT7.out.bQ 4
                      have q5 := Go.Joins.cell_of_block HT7.out.bQ 5
                      simp only [List.getElem?_toArray, List.getElem?_cons_succ, List.getElem?_cons_zero] at q0 q1 q2 q3 q4 q5
                      have nl := lt_of_some HT7.out.bN; have ql := lt_of_some HT7.out.bQ
                      go_wp2_with fail
                      refine wp_region_over (by kernel_rfl) (by kernel_rfl) ?_
                      repeat (go_big_quiet_step (first | (go_at_call 47; exact calls_over (redge_any _ _ _ _ _ _ _))))
                      refine wpQuiet_nil ?_
                      rintro _ ⟨zz, rfl⟩
                      obtain ⟨W8, hW8⟩ : ∃ W8, Hid (over W7 zz = W8) := ⟨_, rfl⟩
                      have HT8 : Hid (TL w3 O Qb n ⟨au, av, ax, ay, az, t⟩ ⟨au, av, ax, ay, az, at'⟩ (.slice A2 out.length c2) out A2 c2 ch A1 c1 W8) := by show TL _ _ _ _ _ _ _ _ _ _ _ _ _ _; rw [← hW8.out]; exact HT7.out.up (over_below _ zz)
                      rw [hW8.out]
                      clear HT7 hW7 nl ql n0 n1 n2 n3 n4 n5 q0 q1 q2 q3 q4 q5
                      have n0 := Go.Joins.cell_of_block HT8.out.bN 0
                      have n1 := Go.Joins.cell_of_block HT8.out.bN 1
                      have n2 := Go.Joins.cell_of_block HT8.out.bN 2
                      have n3 := Go.Joins.cell_of_block HT8.out.bN 3
                      have n4 := Go.Joins.cell_of_block HT8.out.bN 4
                      have n5 := Go.Joins.cell_of_block HT8.out.bN 5
                      simp only [List.getElem?_toArray, List.getElem?_cons_succ, List.getElem?_cons_zero] at n0 n1 n2 n3 n4 n5
                      have q0 := Go.Joins.cell_of_block HT8.out.bQ 0
                      have q1 := Go.Joins.cell_of_block HT8.out.bQ 1
                      have q2 := Go.Joins.cell_of_block HT8.out.bQ 2
                      have q3 := Go.Joins.cell_of_block HT8.out.bQ 3
                      have q4 := Go.Joins.cell_of_block HT8.out.bQ 4
                      have q5 := Go.Joins.cell_of_block HT8.out.bQ 5
                      simp only [List.getElem?_toArray, List.getElem?_cons_succ, List.getElem?_cons_zero] at q0 q1 q2 q3 q4 q5
                      have p0 := Go.Joins.cell_of_block HT8.out.bO 0; have p1 := Go.Joins.cell_of_block HT8.out.bO 1; have pf := Go.Joins.unfrozen_of_block HT8.out.bO 1
                      simp only [List.getElem?_toArray, List.getElem?_cons_succ, List.getElem?_cons_zero] at p0 p1
                      have nl := lt_of_some HT8.out.bN; have ql := lt_of_some HT8.out.bQ; have pl := lt_of_some HT8.out.bO
                      have hev := Go.Joins.cell_of_block ((HT8.out.bel.block (G + 1) (by omega)).trans M1.out)
                      have e0 := hev 0; have e1 := hev 1; have e2 := hev 2
                      simp only [List.getElem?_toArray, List.getElem?_cons_succ, List.getElem?_cons_zero] at e0 e1 e2
                      have el := Nat.lt_trans (show G + 1 < O by omega) (lt_of_some HT8.out.bO)
                      clear hev
                      have HSM : Hid (Ls.same ⟨au, av, ax, ay, az, at'⟩ (Ls.lk ⟨1, t, u, v, ax, ay, az⟩) = true) := by show _ = _; rw [HLK.out]; simp [Ls.same]
                      have HNE : Hid ((⟨au, av, ax, ay, az, at'⟩ : Ls.Lk) ≠ ⟨au, av, ax, ay, az, t⟩) := by show _ ≠ _; simp [j6]
                      clear j6
                      go_wp2_with fail
                      refine (rset_any _ _ _ _ _ _ _ _).mono ?_
                      rintro e W9 ⟨rfl, hb9⟩
                      have HT9 := Lib.hid (HT8.out.up hb9)
                      have hO9 : O + 1 < W9.heap.size := lt_of_some HT9.out.bN
                      clear hb9 n0 n1 n2 n3 n4 n5 q0 q1 q2 q3 q4 q5 p0 p1 pf e0 e1 e2
                      go_wp2_with (first | (at_builtin; (refine wpList_applV _ rfl (.tmp 116) (.tmp 121) (O + 2) A1 c1 rfl ch (by simp [Act.eval]) (HT9.out.ownC.alloc _) (some ⟨W9.heap.size, 0, none⟩) 1 1 [(⟨1, t, au, av, ax, ay, az⟩ : Ev)] rfl (by simp [Act.eval]) (RV_new1 W9 ⟨1, t, au, av, ax, ay, az⟩) (by omega) (by simp; omega) ?_; intro A7 c7 w7 HO7 HB7 HG7; have HTa := Lib.hid (TL.appC (HT9.out.up (below_new _ _)) HO7.out HB7.out HG7.out); obtain ⟨ch2, Hc2⟩ : ∃ o, Hid (ch ++ [(⟨1, t, au, av, ax, ay, az⟩ : Ev)] = o) := ⟨_, rfl⟩; rw [Hc2.out] at HTa ⊢; have m0 := Go.Joins.cell_of_block HTa.out.bN 0; have m1 := Go.Joins.cell_of_block HTa.out.bN 1; have m2 := Go.Joins.cell_of_block HTa.out.bN 2; have m3 := Go.Joins.cell_of_block HTa.out.bN 3; have m4 := Go.Joins.cell_of_block HTa.out.bN 4; have m5 := Go.Joins.cell_of_block HTa.out.bN 5; simp only [List.getElem?_toArray, List.getElem?_cons_succ, List.getElem?_cons_zero] at m0 m1 m2 m3 m4 m5; have b0 := Go.Joins.cell_of_block HTa.out.bO 0; have b1 := Go.Joins.cell_of_block HTa.out.bO 1; have bf := Go.Joins.unfrozen_of_block HTa.out.bO 1; simp only [List.getElem?_toArray, List.getElem?_cons_succ, List.getElem?_cons_zero] at b0 b1; have ml := lt_of_some HTa.out.bN; have bl := lt_of_some HTa.out.bO)) | (at_builtin; (refine wpList_applL _ rfl (.tmp 124) (.tmp 126) (O + 2) A2 c2 rfl out (by simp [Act.eval]) (HTa.out.ownO.alloc _) (some ⟨w7.heap.size, 0, none⟩) 1 1 [(⟨au, av, ax, ay, az, t⟩ : Ls.Lk)] rfl (by simp [Act.eval]) (RL_new1 w7 ⟨au, av, ax, ay, az, t⟩) (by omega) (by simp; omega) ?_; intro A6 c6 w6 HO6 HB6 HG6; have HTb := Lib.hid (TL.appO (HTa.out.up (below_new _ _)) HO6.out HB6.out HG6.out); obtain ⟨o2, Ho2⟩ : ∃ o, Hid (out ++ [(⟨au, av, ax, ay, az, t⟩ : Ls.Lk)] = o) := ⟨_, rfl⟩; rw [Ho2.out] at HTb ⊢; have i1 := Go.Joins.cell_of_block HTb.out.bO 1; have jf := Go.Joins.unfrozen_of_block HTb.out.bO 1; simp only [List.getElem?_toArray, List.getElem?_cons_succ, List.getElem?_cons_zero] at i1; have il := lt_of_some HTb.out.bO)))
                      clear HO6 HB6 HG6 i1 jf il HO7 HB7 HG7
                      go_roundw
                      case rel => exact ⟨j + 1, true, A6, c6, o2, A7, c7, ch2, hlt, by go_num, rfl, rfl, by rw [← Ho2.out, List.length_append, List.length_singleton]; omega, by rw [← Hc2.out, List.length_append, List.length_singleton]; omega, by show _ = _; rw [HM.out, Ls.rem_hit _ _ _ _ rfl HSM.out, HLK.out, if_pos HNE.out, ← Ho2.out, ← Hc2.out]; simp [Ls.setE], HTb.out.store _⟩
                      case measure => simp [RowKit.intOf]; omega
                  · have g5 : (az == z) = false := by simpa using j5
                    have gg5 : (az != z) = true := by simpa using j5
                    go_wp2_with fail
                    rw [hW6.out]
                    try simp only [hQ.out]
                    clear c0 c1' c2' c3 c4 c5 hbw
                    have n0 := Go.Joins.cell_of_block HT6.out.bN 0
                    have n1 := Go.Joins.cell_of_block HT6.out.bN 1
                    have n2 := Go.Joins.cell_of_block HT6.out.bN 2
                    have n3 := Go.Joins.cell_of_block HT6.out.bN 3
                    have n4 := Go.Joins.cell_of_block HT6.out.bN 4
                    have n5 := Go.Joins.cell_of_block HT6.out.bN 5
                    simp only [List.getElem?_toArray, List.getElem?_cons_succ, List.getElem?_cons_zero] at n0 n1 n2 n3 n4 n5
                    have q0 := Go.Joins.cell_of_block HT6.out.bQ 0
                    have q1 := Go.Joins.cell_of_block HT6.out.bQ 1
                    have q2 := Go.Joins.cell_of_block HT6.out.bQ 2
                    have q3 := Go.Joins.cell_of_block HT6.out.bQ 3
                    have q4 := Go.Joins.cell_of_block HT6.out.bQ 4
                    have q5 := Go.Joins.cell_of_block HT6.out.bQ 5
                    simp only [List.getElem?_toArray, List.getElem?_cons_succ, List.getElem?_cons_zero] at q0 q1 q2 q3 q4 q5
                    have nl := lt_of_some HT6.out.bN; have ql := lt_of_some HT6.out.bQ
                    have C35 : Hid (∀ ax' : More W6, Calls Tryz.prog 46 #[.agg #[.int .i64 au, .int .i64 av], .agg #[.int .i64 au, .int .i64 av]] (over W6 ax') fun e w' => e = .returned (.bool false) ∧ Below (over W6 ax').heap.size (over W6 ax') w') := by
                      intro ax'
                      have h9 := before_any au av au av (over W6 ax')
                      rw [HBV.out] at h9
                      exact h9
                    refine wp_region_over (by kernel_rfl) (by kernel_rfl) ?_
                    repeat (go_big_quiet_step (first | (go_at_call 47; exact calls_over (redge_any _ _ _ _ _ _ _)) | (go_at_call 46; exact calls_over (C35.out _))))
                    refine wpQuiet_nil ?_
                    rintro _ ⟨zz, rfl⟩
                    obtain ⟨W7, hW7⟩ : ∃ W7, Hid (over W6 zz = W7) := ⟨_, rfl⟩
                    have HT7 : Hid (TL w3 O Qb n ⟨au, av, ax, ay, z, t⟩ ⟨au, av, ax, ay, az, at'⟩ (.slice A2 out.length c2) out A2 c2 ch A1 c1 W7) := by show TL _ _ _ _ _ _ _ _ _ _ _ _ _ _; rw [← hW7.out]; exact HT6.out.up (over_below _ zz)
                    rw [hW7.out]
                    clear HT6 hW6 n0 q0 n1 q1 n2 q2 n3 q3 n4 q4 n5 q5 nl ql C35
                    have n0 := Go.Joins.cell_of_block HT7.out.bN 0
                    have n1 := Go.Joins.cell_of_block HT7.out.bN 1
                    have n2 := Go.Joins.cell_of_block HT7.out.bN 2
                    have n3 := Go.Joins.cell_of_block HT7.out.bN 3
                    have n4 := Go.Joins.cell_of_block HT7.out.bN 4
                    have n5 := Go.Joins.cell_of_block HT7.out.bN 5
                    simp only [List.getElem?_toArray, List.getElem?_cons_succ, List.getElem?_cons_zero] at n0 n1 n2 n3 n4 n5
                    have q0 := Go.Joins.cell_of_block HT7.out.bQ 0
                    have q1 := Go.Joins.cell_of_block HT7.out.bQ 1
                    have q2 := Go.Joins.cell_of_block HT7.out.bQ 2
                    have q3 := Go.Joins.cell_of_block HT7.out.bQ 3
                    have q4 := Go.Joins.cell_of_block HT7.out.bQ 4
                    have q5 := Go.Joins.cell_of_block HT7.out.bQ 5
                    simp only [List.getElem?_toArray, List.getElem?_cons_succ, List.getElem?_cons_zero] at q0 q1 q2 q3 q4 q5
                    have nl := lt_of_some HT7.out.bN; have ql := lt_of_some HT7.out.bQ
                    go_wp2_with fail
                    refine wp_region_over (by kernel_rfl) (by kernel_rfl) ?_
                    repeat (go_big_quiet_step (first | (go_at_call 47; exact calls_over (redge_any _ _ _ _ _ _ _))))
                    refine wpQuiet_nil ?_
                    rintro _ ⟨zz, rfl⟩
                    obtain ⟨W8, hW8⟩ : ∃ W8, Hid (over W7 zz = W8) := ⟨_, rfl⟩
                    have HT8 : Hid (TL w3 O Qb n ⟨au, av, ax, ay, z, t⟩ ⟨au, av, ax, ay, az, at'⟩ (.slice A2 out.length c2) out A2 c2 ch A1 c1 W8) := by show TL _ _ _ _ _ _ _ _ _ _ _ _ _ _; rw [← hW8.out]; exact HT7.out.up (over_below _ zz)
                    rw [hW8.out]
                    clear HT7 hW7 nl ql n0 n1 n2 n3 n4 n5 q0 q1 q2 q3 q4 q5
                    have n0 := Go.Joins.cell_of_block HT8.out.bN 0
                    have n1 := Go.Joins.cell_of_block HT8.out.bN 1
                    have n2 := Go.Joins.cell_of_block HT8.out.bN 2
                    have n3 := Go.Joins.cell_of_block HT8.out.bN 3
                    have n4 := Go.Joins.cell_of_block HT8.out.bN 4
                    have n5 := Go.Joins.cell_of_block HT8.out.bN 5
                    simp only [List.getElem?_toArray, List.getElem?_cons_succ, List.getElem?_cons_zero] at n0 n1 n2 n3 n4 n5
                    have q0 := Go.Joins.cell_of_block HT8.out.bQ 0
                    have q1 := Go.Joins.cell_of_block HT8.out.bQ 1
                    have q2 := Go.Joins.cell_of_block HT8.out.bQ 2
                    have q3 := Go.Joins.cell_of_block HT8.out.bQ 3
                    have q4 := Go.Joins.cell_of_block HT8.out.bQ 4
                    have q5 := Go.Joins.cell_of_block HT8.out.bQ 5
                    simp only [List.getElem?_toArray, List.getElem?_cons_succ, List.getElem?_cons_zero] at q0 q1 q2 q3 q4 q5
                    have p0 := Go.Joins.cell_of_block HT8.out.bO 0; have p1 := Go.Joins.cell_of_block HT8.out.bO 1; have pf := Go.Joins.unfrozen_of_block HT8.out.bO 1
                    simp only [List.getElem?_toArray, List.getElem?_cons_succ, List.getElem?_cons_zero] at p0 p1
                    have nl := lt_of_some HT8.out.bN; have ql := lt_of_some HT8.out.bQ; have pl := lt_of_some HT8.out.bO
                    have hev := Go.Joins.cell_of_block ((HT8.out.bel.block (G + 1) (by omega)).trans M1.out)
                    have e0 := hev 0; have e1 := hev 1; have e2 := hev 2
                    simp only [List.getElem?_toArray, List.getElem?_cons_succ, List.getElem?_cons_zero] at e0 e1 e2
                    have el := Nat.lt_trans (show G + 1 < O by omega) (lt_of_some HT8.out.bO)
                    clear hev
                    have HSM : Hid (Ls.same ⟨au, av, ax, ay, az, at'⟩ (Ls.lk ⟨1, t, u, v, ax, ay, z⟩) = true) := by show _ = _; rw [HLK.out]; simp [Ls.same]
                    have HNE : Hid ((⟨au, av, ax, ay, az, at'⟩ : Ls.Lk) ≠ ⟨au, av, ax, ay, z, t⟩) := by show _ ≠ _; simp [j5]
                    clear j5
                    go_wp2_with fail
                    refine (rset_any _ _ _ _ _ _ _ _).mono ?_
                    rintro e W9 ⟨rfl, hb9⟩
                    have HT9 := Lib.hid (HT8.out.up hb9)
                    have hO9 : O + 1 < W9.heap.size := lt_of_some HT9.out.bN
                    clear hb9 n0 n1 n2 n3 n4 n5 q0 q1 q2 q3 q4 q5 p0 p1 pf e0 e1 e2
                    go_wp2_with (first | (at_builtin; (refine wpList_applV _ rfl (.tmp 116) (.tmp 121) (O + 2) A1 c1 rfl ch (by simp [Act.eval]) (HT9.out.ownC.alloc _) (some ⟨W9.heap.size, 0, none⟩) 1 1 [(⟨1, t, au, av, ax, ay, z⟩ : Ev)] rfl (by simp [Act.eval]) (RV_new1 W9 ⟨1, t, au, av, ax, ay, z⟩) (by omega) (by simp; omega) ?_; intro A7 c7 w7 HO7 HB7 HG7; have HTa := Lib.hid (TL.appC (HT9.out.up (below_new _ _)) HO7.out HB7.out HG7.out); obtain ⟨ch2, Hc2⟩ : ∃ o, Hid (ch ++ [(⟨1, t, au, av, ax, ay, z⟩ : Ev)] = o) := ⟨_, rfl⟩; rw [Hc2.out] at HTa ⊢; have m0 := Go.Joins.cell_of_block HTa.out.bN 0; have m1 := Go.Joins.cell_of_block HTa.out.bN 1; have m2 := Go.Joins.cell_of_block HTa.out.bN 2; have m3 := Go.Joins.cell_of_block HTa.out.bN 3; have m4 := Go.Joins.cell_of_block HTa.out.bN 4; have m5 := Go.Joins.cell_of_block HTa.out.bN 5; simp only [List.getElem?_toArray, List.getElem?_cons_succ, List.getElem?_cons_zero] at m0 m1 m2 m3 m4 m5; have b0 := Go.Joins.cell_of_block HTa.out.bO 0; have b1 := Go.Joins.cell_of_block HTa.out.bO 1; have bf := Go.Joins.unfrozen_of_block HTa.out.bO 1; simp only [List.getElem?_toArray, List.getElem?_cons_succ, List.getElem?_cons_zero] at b0 b1; have ml := lt_of_some HTa.out.bN; have bl := lt_of_some HTa.out.bO)) | (at_builtin; (refine wpList_applL _ rfl (.tmp 124) (.tmp 126) (O + 2) A2 c2 rfl out (by simp [Act.eval]) (HTa.out.ownO.alloc _) (some ⟨w7.heap.size, 0, none⟩) 1 1 [(⟨au, av, ax, ay, z, t⟩ : Ls.Lk)] rfl (by simp [Act.eval]) (RL_new1 w7 ⟨au, av, ax, ay, z, t⟩) (by omega) (by simp; omega) ?_; intro A6 c6 w6 HO6 HB6 HG6; have HTb := Lib.hid (TL.appO (HTa.out.up (below_new _ _)) HO6.out HB6.out HG6.out); obtain ⟨o2, Ho2⟩ : ∃ o, Hid (out ++ [(⟨au, av, ax, ay, z, t⟩ : Ls.Lk)] = o) := ⟨_, rfl⟩; rw [Ho2.out] at HTb ⊢; have i1 := Go.Joins.cell_of_block HTb.out.bO 1; have jf := Go.Joins.unfrozen_of_block HTb.out.bO 1; simp only [List.getElem?_toArray, List.getElem?_cons_succ, List.getElem?_cons_zero] at i1; have il := lt_of_some HTb.out.bO)))
                    clear HO6 HB6 HG6 i1 jf il HO7 HB7 HG7
                    go_roundw
                    case rel => exact ⟨j + 1, true, A6, c6, o2, A7, c7, ch2, hlt, by go_num, rfl, rfl, by rw [← Ho2.out, List.length_append, List.length_singleton]; omega, by rw [← Hc2.out, List.length_append, List.length_singleton]; omega, by show _ = _; rw [HM.out, Ls.rem_hit _ _ _ _ rfl HSM.out, HLK.out, if_pos HNE.out, ← Ho2.out, ← Hc2.out]; simp [Ls.setE], HTb.out.store _⟩
                    case measure => simp [RowKit.intOf]; omega
                · have g4 : (ay == y) = false := by simpa using j4
                  have gg4 : (ay != y) = true := by simpa using j4
                  go_wp2_with fail
                  rw [hW6.out]
                  try simp only [hQ.out]
                  clear c0 c1' c2' c3 c4 c5 hbw
                  have n0 := Go.Joins.cell_of_block HT6.out.bN 0
                  have n1 := Go.Joins.cell_of_block HT6.out.bN 1
                  have n2 := Go.Joins.cell_of_block HT6.out.bN 2
                  have n3 := Go.Joins.cell_of_block HT6.out.bN 3
                  have n4 := Go.Joins.cell_of_block HT6.out.bN 4
                  have n5 := Go.Joins.cell_of_block HT6.out.bN 5
                  simp only [List.getElem?_toArray, List.getElem?_cons_succ, List.getElem?_cons_zero] at n0 n1 n2 n3 n4 n5
                  have q0 := Go.Joins.cell_of_block HT6.out.bQ 0
                  have q1 := Go.Joins.cell_of_block HT6.out.bQ 1
                  have q2 := Go.Joins.cell_of_block HT6.out.bQ 2
                  have q3 := Go.Joins.cell_of_block HT6.out.bQ 3
                  have q4 := Go.Joins.cell_of_block HT6.out.bQ 4
                  have q5 := Go.Joins.cell_of_block HT6.out.bQ 5
                  simp only [List.getElem?_toArray, List.getElem?_cons_succ, List.getElem?_cons_zero] at q0 q1 q2 q3 q4 q5
                  have nl := lt_of_some HT6.out.bN; have ql := lt_of_some HT6.out.bQ
                  have C35 : Hid (∀ ax' : More W6, Calls Tryz.prog 46 #[.agg #[.int .i64 au, .int .i64 av], .agg #[.int .i64 au, .int .i64 av]] (over W6 ax') fun e w' => e = .returned (.bool false) ∧ Below (over W6 ax').heap.size (over W6 ax') w') := by
                    intro ax'
                    have h9 := before_any au av au av (over W6 ax')
                    rw [HBV.out] at h9
                    exact h9
                  refine wp_region_over (by kernel_rfl) (by kernel_rfl) ?_
                  repeat (go_big_quiet_step (first | (go_at_call 47; exact calls_over (redge_any _ _ _ _ _ _ _)) | (go_at_call 46; exact calls_over (C35.out _))))
                  refine wpQuiet_nil ?_
                  rintro _ ⟨zz, rfl⟩
                  obtain ⟨W7, hW7⟩ : ∃ W7, Hid (over W6 zz = W7) := ⟨_, rfl⟩
                  have HT7 : Hid (TL w3 O Qb n ⟨au, av, ax, y, z, t⟩ ⟨au, av, ax, ay, az, at'⟩ (.slice A2 out.length c2) out A2 c2 ch A1 c1 W7) := by show TL _ _ _ _ _ _ _ _ _ _ _ _ _ _; rw [← hW7.out]; exact HT6.out.up (over_below _ zz)
                  rw [hW7.out]
                  clear HT6 hW6 n0 q0 n1 q1 n2 q2 n3 q3 n4 q4 n5 q5 nl ql C35
                  have n0 := Go.Joins.cell_of_block HT7.out.bN 0
                  have n1 := Go.Joins.cell_of_block HT7.out.bN 1
                  have n2 := Go.Joins.cell_of_block HT7.out.bN 2
                  have n3 := Go.Joins.cell_of_block HT7.out.bN 3
                  have n4 := Go.Joins.cell_of_block HT7.out.bN 4
                  have n5 := Go.Joins.cell_of_block HT7.out.bN 5
                  simp only [List.getElem?_toArray, List.getElem?_cons_succ, List.getElem?_cons_zero] at n0 n1 n2 n3 n4 n5
                  have q0 := Go.Joins.cell_of_block HT7.out.bQ 0
                  have q1 := Go.Joins.cell_of_block HT7.out.bQ 1
                  have q2 := Go.Joins.cell_of_block HT7.out.bQ 2
                  have q3 := Go.Joins.cell_of_block HT7.out.bQ 3
                  have q4 := Go.Joins.cell_of_block HT7.out.bQ 4
                  have q5 := Go.Joins.cell_of_block HT7.out.bQ 5
                  simp only [List.getElem?_toArray, List.getElem?_cons_succ, List.getElem?_cons_zero] at q0 q1 q2 q3 q4 q5
                  have nl := lt_of_some HT7.out.bN; have ql := lt_of_some HT7.out.bQ
                  go_wp2_with fail
                  refine wp_region_over (by kernel_rfl) (by kernel_rfl) ?_
                  repeat (go_big_quiet_step (first | (go_at_call 47; exact calls_over (redge_any _ _ _ _ _ _ _))))
                  refine wpQuiet_nil ?_
                  rintro _ ⟨zz, rfl⟩
                  obtain ⟨W8, hW8⟩ : ∃ W8, Hid (over W7 zz = W8) := ⟨_, rfl⟩
                  have HT8 : Hid (TL w3 O Qb n ⟨au, av, ax, y, z, t⟩ ⟨au, av, ax, ay, az, at'⟩ (.slice A2 out.length c2) out A2 c2 ch A1 c1 W8) := by show TL _ _ _ _ _ _ _ _ _ _ _ _ _ _; rw [← hW8.out]; exact HT7.out.up (over_below _ zz)
                  rw [hW8.out]
                  clear HT7 hW7 nl ql n0 n1 n2 n3 n4 n5 q0 q1 q2 q3 q4 q5
                  have n0 := Go.Joins.cell_of_block HT8.out.bN 0
                  have n1 := Go.Joins.cell_of_block HT8.out.bN 1
                  have n2 := Go.Joins.cell_of_block HT8.out.bN 2
                  have n3 := Go.Joins.cell_of_block HT8.out.bN 3
                  have n4 := Go.Joins.cell_of_block HT8.out.bN 4
                  have n5 := Go.Joins.cell_of_block HT8.out.bN 5
                  simp only [List.getElem?_toArray, List.getElem?_cons_succ, List.getElem?_cons_zero] at n0 n1 n2 n3 n4 n5
                  have q0 := Go.Joins.cell_of_block HT8.out.bQ 0
                  have q1 := Go.Joins.cell_of_block HT8.out.bQ 1
                  have q2 := Go.Joins.cell_of_block HT8.out.bQ 2
                  have q3 := Go.Joins.cell_of_block HT8.out.bQ 3
                  have q4 := Go.Joins.cell_of_block HT8.out.bQ 4
                  have q5 := Go.Joins.cell_of_block HT8.out.bQ 5
                  simp only [List.getElem?_toArray, List.getElem?_cons_succ, List.getElem?_cons_zero] at q0 q1 q2 q3 q4 q5
                  have p0 := Go.Joins.cell_of_block HT8.out.bO 0; have p1 := Go.Joins.cell_of_block HT8.out.bO 1; have pf := Go.Joins.unfrozen_of_block HT8.out.bO 1
                  simp only [List.getElem?_toArray, List.getElem?_cons_succ, List.getElem?_cons_zero] at p0 p1
                  have nl := lt_of_some HT8.out.bN; have ql := lt_of_some HT8.out.bQ; have pl := lt_of_some HT8.out.bO
                  have hev := Go.Joins.cell_of_block ((HT8.out.bel.block (G + 1) (by omega)).trans M1.out)
                  have e0 := hev 0; have e1 := hev 1; have e2 := hev 2
                  simp only [List.getElem?_toArray, List.getElem?_cons_succ, List.getElem?_cons_zero] at e0 e1 e2
                  have el := Nat.lt_trans (show G + 1 < O by omega) (lt_of_some HT8.out.bO)
                  clear hev
                  have HSM : Hid (Ls.same ⟨au, av, ax, ay, az, at'⟩ (Ls.lk ⟨1, t, u, v, ax, y, z⟩) = true) := by show _ = _; rw [HLK.out]; simp [Ls.same]
                  have HNE : Hid ((⟨au, av, ax, ay, az, at'⟩ : Ls.Lk) ≠ ⟨au, av, ax, y, z, t⟩) := by show _ ≠ _; simp [j4]
                  clear j4
                  go_wp2_with fail
                  refine (rset_any _ _ _ _ _ _ _ _).mono ?_
                  rintro e W9 ⟨rfl, hb9⟩
                  have HT9 := Lib.hid (HT8.out.up hb9)
                  have hO9 : O + 1 < W9.heap.size := lt_of_some HT9.out.bN
                  clear hb9 n0 n1 n2 n3 n4 n5 q0 q1 q2 q3 q4 q5 p0 p1 pf e0 e1 e2
                  go_wp2_with (first | (at_builtin; (refine wpList_applV _ rfl (.tmp 116) (.tmp 121) (O + 2) A1 c1 rfl ch (by simp [Act.eval]) (HT9.out.ownC.alloc _) (some ⟨W9.heap.size, 0, none⟩) 1 1 [(⟨1, t, au, av, ax, y, z⟩ : Ev)] rfl (by simp [Act.eval]) (RV_new1 W9 ⟨1, t, au, av, ax, y, z⟩) (by omega) (by simp; omega) ?_; intro A7 c7 w7 HO7 HB7 HG7; have HTa := Lib.hid (TL.appC (HT9.out.up (below_new _ _)) HO7.out HB7.out HG7.out); obtain ⟨ch2, Hc2⟩ : ∃ o, Hid (ch ++ [(⟨1, t, au, av, ax, y, z⟩ : Ev)] = o) := ⟨_, rfl⟩; rw [Hc2.out] at HTa ⊢; have m0 := Go.Joins.cell_of_block HTa.out.bN 0; have m1 := Go.Joins.cell_of_block HTa.out.bN 1; have m2 := Go.Joins.cell_of_block HTa.out.bN 2; have m3 := Go.Joins.cell_of_block HTa.out.bN 3; have m4 := Go.Joins.cell_of_block HTa.out.bN 4; have m5 := Go.Joins.cell_of_block HTa.out.bN 5; simp only [List.getElem?_toArray, List.getElem?_cons_succ, List.getElem?_cons_zero] at m0 m1 m2 m3 m4 m5; have b0 := Go.Joins.cell_of_block HTa.out.bO 0; have b1 := Go.Joins.cell_of_block HTa.out.bO 1; have bf := Go.Joins.unfrozen_of_block HTa.out.bO 1; simp only [List.getElem?_toArray, List.getElem?_cons_succ, List.getElem?_cons_zero] at b0 b1; have ml := lt_of_some HTa.out.bN; have bl := lt_of_some HTa.out.bO)) | (at_builtin; (refine wpList_applL _ rfl (.tmp 124) (.tmp 126) (O + 2) A2 c2 rfl out (by simp [Act.eval]) (HTa.out.ownO.alloc _) (some ⟨w7.heap.size, 0, none⟩) 1 1 [(⟨au, av, ax, y, z, t⟩ : Ls.Lk)] rfl (by simp [Act.eval]) (RL_new1 w7 ⟨au, av, ax, y, z, t⟩) (by omega) (by simp; omega) ?_; intro A6 c6 w6 HO6 HB6 HG6; have HTb := Lib.hid (TL.appO (HTa.out.up (below_new _ _)) HO6.out HB6.out HG6.out); obtain ⟨o2, Ho2⟩ : ∃ o, Hid (out ++ [(⟨au, av, ax, y, z, t⟩ : Ls.Lk)] = o) := ⟨_, rfl⟩; rw [Ho2.out] at HTb ⊢; have i1 := Go.Joins.cell_of_block HTb.out.bO 1; have jf := Go.Joins.unfrozen_of_block HTb.out.bO 1; simp only [List.getElem?_toArray, List.getElem?_cons_succ, List.getElem?_cons_zero] at i1; have il := lt_of_some HTb.out.bO)))
                  clear HO6 HB6 HG6 i1 jf il HO7 HB7 HG7
                  go_roundw
                  case rel => exact ⟨j + 1, true, A6, c6, o2, A7, c7, ch2, hlt, by go_num, rfl, rfl, by rw [← Ho2.out, List.length_append, List.length_singleton]; omega, by rw [← Hc2.out, List.length_append, List.length_singleton]; omega, by show _ = _; rw [HM.out, Ls.rem_hit _ _ _ _ rfl HSM.out, HLK.out, if_pos HNE.out, ← Ho2.out, ← Hc2.out]; simp [Ls.setE], HTb.out.store _⟩
                  case measure => simp [RowKit.intOf]; omega
              · have g3 : (ax == x) = false := by simpa using j3
                have gg3 : (ax != x) = true := by simpa using j3
                go_wp2_with fail
                rw [hW6.out]
                try simp only [hQ.out]
                clear c0 c1' c2' c3 c4 c5 hbw
                have n0 := Go.Joins.cell_of_block HT6.out.bN 0
                have n1 := Go.Joins.cell_of_block HT6.out.bN 1
                have n2 := Go.Joins.cell_of_block HT6.out.bN 2
                have n3 := Go.Joins.cell_of_block HT6.out.bN 3
                have n4 := Go.Joins.cell_of_block HT6.out.bN 4
                have n5 := Go.Joins.cell_of_block HT6.out.bN 5
                simp only [List.getElem?_toArray, List.getElem?_cons_succ, List.getElem?_cons_zero] at n0 n1 n2 n3 n4 n5
                have q0 := Go.Joins.cell_of_block HT6.out.bQ 0
                have q1 := Go.Joins.cell_of_block HT6.out.bQ 1
                have q2 := Go.Joins.cell_of_block HT6.out.bQ 2
                have q3 := Go.Joins.cell_of_block HT6.out.bQ 3
                have q4 := Go.Joins.cell_of_block HT6.out.bQ 4
                have q5 := Go.Joins.cell_of_block HT6.out.bQ 5
                simp only [List.getElem?_toArray, List.getElem?_cons_succ, List.getElem?_cons_zero] at q0 q1 q2 q3 q4 q5
                have nl := lt_of_some HT6.out.bN; have ql := lt_of_some HT6.out.bQ
                have C35 : Hid (∀ x' : More W6, Calls Tryz.prog 46 #[.agg #[.int .i64 au, .int .i64 av], .agg #[.int .i64 au, .int .i64 av]] (over W6 x') fun e w' => e = .returned (.bool false) ∧ Below (over W6 x').heap.size (over W6 x') w') := by
                  intro x'
                  have h9 := before_any au av au av (over W6 x')
                  rw [HBV.out] at h9
                  exact h9
                refine wp_region_over (by kernel_rfl) (by kernel_rfl) ?_
                repeat (go_big_quiet_step (first | (go_at_call 47; exact calls_over (redge_any _ _ _ _ _ _ _)) | (go_at_call 46; exact calls_over (C35.out _))))
                refine wpQuiet_nil ?_
                rintro _ ⟨zz, rfl⟩
                obtain ⟨W7, hW7⟩ : ∃ W7, Hid (over W6 zz = W7) := ⟨_, rfl⟩
                have HT7 : Hid (TL w3 O Qb n ⟨au, av, x, y, z, t⟩ ⟨au, av, ax, ay, az, at'⟩ (.slice A2 out.length c2) out A2 c2 ch A1 c1 W7) := by show TL _ _ _ _ _ _ _ _ _ _ _ _ _ _; rw [← hW7.out]; exact HT6.out.up (over_below _ zz)
                rw [hW7.out]
                clear HT6 hW6 n0 q0 n1 q1 n2 q2 n3 q3 n4 q4 n5 q5 nl ql C35
                have n0 := Go.Joins.cell_of_block HT7.out.bN 0
                have n1 := Go.Joins.cell_of_block HT7.out.bN 1
                have n2 := Go.Joins.cell_of_block HT7.out.bN 2
                have n3 := Go.Joins.cell_of_block HT7.out.bN 3
                have n4 := Go.Joins.cell_of_block HT7.out.bN 4
                have n5 := Go.Joins.cell_of_block HT7.out.bN 5
                simp only [List.getElem?_toArray, List.getElem?_cons_succ, List.getElem?_cons_zero] at n0 n1 n2 n3 n4 n5
                have q0 := Go.Joins.cell_of_block HT7.out.bQ 0
                have q1 := Go.Joins.cell_of_block HT7.out.bQ 1
                have q2 := Go.Joins.cell_of_block HT7.out.bQ 2
                have q3 := Go.Joins.cell_of_block HT7.out.bQ 3
                have q4 := Go.Joins.cell_of_block HT7.out.bQ 4
                have q5 := Go.Joins.cell_of_block HT7.out.bQ 5
                simp only [List.getElem?_toArray, List.getElem?_cons_succ, List.getElem?_cons_zero] at q0 q1 q2 q3 q4 q5
                have nl := lt_of_some HT7.out.bN; have ql := lt_of_some HT7.out.bQ
                go_wp2_with fail
                refine wp_region_over (by kernel_rfl) (by kernel_rfl) ?_
                repeat (go_big_quiet_step (first | (go_at_call 47; exact calls_over (redge_any _ _ _ _ _ _ _))))
                refine wpQuiet_nil ?_
                rintro _ ⟨zz, rfl⟩
                obtain ⟨W8, hW8⟩ : ∃ W8, Hid (over W7 zz = W8) := ⟨_, rfl⟩
                have HT8 : Hid (TL w3 O Qb n ⟨au, av, x, y, z, t⟩ ⟨au, av, ax, ay, az, at'⟩ (.slice A2 out.length c2) out A2 c2 ch A1 c1 W8) := by show TL _ _ _ _ _ _ _ _ _ _ _ _ _ _; rw [← hW8.out]; exact HT7.out.up (over_below _ zz)
                rw [hW8.out]
                clear HT7 hW7 nl ql n0 n1 n2 n3 n4 n5 q0 q1 q2 q3 q4 q5
                have n0 := Go.Joins.cell_of_block HT8.out.bN 0
                have n1 := Go.Joins.cell_of_block HT8.out.bN 1
                have n2 := Go.Joins.cell_of_block HT8.out.bN 2
                have n3 := Go.Joins.cell_of_block HT8.out.bN 3
                have n4 := Go.Joins.cell_of_block HT8.out.bN 4
                have n5 := Go.Joins.cell_of_block HT8.out.bN 5
                simp only [List.getElem?_toArray, List.getElem?_cons_succ, List.getElem?_cons_zero] at n0 n1 n2 n3 n4 n5
                have q0 := Go.Joins.cell_of_block HT8.out.bQ 0
                have q1 := Go.Joins.cell_of_block HT8.out.bQ 1
                have q2 := Go.Joins.cell_of_block HT8.out.bQ 2
                have q3 := Go.Joins.cell_of_block HT8.out.bQ 3
                have q4 := Go.Joins.cell_of_block HT8.out.bQ 4
                have q5 := Go.Joins.cell_of_block HT8.out.bQ 5
                simp only [List.getElem?_toArray, List.getElem?_cons_succ, List.getElem?_cons_zero] at q0 q1 q2 q3 q4 q5
                have p0 := Go.Joins.cell_of_block HT8.out.bO 0; have p1 := Go.Joins.cell_of_block HT8.out.bO 1; have pf := Go.Joins.unfrozen_of_block HT8.out.bO 1
                simp only [List.getElem?_toArray, List.getElem?_cons_succ, List.getElem?_cons_zero] at p0 p1
                have nl := lt_of_some HT8.out.bN; have ql := lt_of_some HT8.out.bQ; have pl := lt_of_some HT8.out.bO
                have hev := Go.Joins.cell_of_block ((HT8.out.bel.block (G + 1) (by omega)).trans M1.out)
                have e0 := hev 0; have e1 := hev 1; have e2 := hev 2
                simp only [List.getElem?_toArray, List.getElem?_cons_succ, List.getElem?_cons_zero] at e0 e1 e2
                have el := Nat.lt_trans (show G + 1 < O by omega) (lt_of_some HT8.out.bO)
                clear hev
                have HSM : Hid (Ls.same ⟨au, av, ax, ay, az, at'⟩ (Ls.lk ⟨1, t, u, v, x, y, z⟩) = true) := by show _ = _; rw [HLK.out]; simp [Ls.same]
                have HNE : Hid ((⟨au, av, ax, ay, az, at'⟩ : Ls.Lk) ≠ ⟨au, av, x, y, z, t⟩) := by show _ ≠ _; simp [j3]
                clear j3
                go_wp2_with fail
                refine (rset_any _ _ _ _ _ _ _ _).mono ?_
                rintro e W9 ⟨rfl, hb9⟩
                have HT9 := Lib.hid (HT8.out.up hb9)
                have hO9 : O + 1 < W9.heap.size := lt_of_some HT9.out.bN
                clear hb9 n0 n1 n2 n3 n4 n5 q0 q1 q2 q3 q4 q5 p0 p1 pf e0 e1 e2
                go_wp2_with (first | (at_builtin; (refine wpList_applV _ rfl (.tmp 116) (.tmp 121) (O + 2) A1 c1 rfl ch (by simp [Act.eval]) (HT9.out.ownC.alloc _) (some ⟨W9.heap.size, 0, none⟩) 1 1 [(⟨1, t, au, av, x, y, z⟩ : Ev)] rfl (by simp [Act.eval]) (RV_new1 W9 ⟨1, t, au, av, x, y, z⟩) (by omega) (by simp; omega) ?_; intro A7 c7 w7 HO7 HB7 HG7; have HTa := Lib.hid (TL.appC (HT9.out.up (below_new _ _)) HO7.out HB7.out HG7.out); obtain ⟨ch2, Hc2⟩ : ∃ o, Hid (ch ++ [(⟨1, t, au, av, x, y, z⟩ : Ev)] = o) := ⟨_, rfl⟩; rw [Hc2.out] at HTa ⊢; have m0 := Go.Joins.cell_of_block HTa.out.bN 0; have m1 := Go.Joins.cell_of_block HTa.out.bN 1; have m2 := Go.Joins.cell_of_block HTa.out.bN 2; have m3 := Go.Joins.cell_of_block HTa.out.bN 3; have m4 := Go.Joins.cell_of_block HTa.out.bN 4; have m5 := Go.Joins.cell_of_block HTa.out.bN 5; simp only [List.getElem?_toArray, List.getElem?_cons_succ, List.getElem?_cons_zero] at m0 m1 m2 m3 m4 m5; have b0 := Go.Joins.cell_of_block HTa.out.bO 0; have b1 := Go.Joins.cell_of_block HTa.out.bO 1; have bf := Go.Joins.unfrozen_of_block HTa.out.bO 1; simp only [List.getElem?_toArray, List.getElem?_cons_succ, List.getElem?_cons_zero] at b0 b1; have ml := lt_of_some HTa.out.bN; have bl := lt_of_some HTa.out.bO)) | (at_builtin; (refine wpList_applL _ rfl (.tmp 124) (.tmp 126) (O + 2) A2 c2 rfl out (by simp [Act.eval]) (HTa.out.ownO.alloc _) (some ⟨w7.heap.size, 0, none⟩) 1 1 [(⟨au, av, x, y, z, t⟩ : Ls.Lk)] rfl (by simp [Act.eval]) (RL_new1 w7 ⟨au, av, x, y, z, t⟩) (by omega) (by simp; omega) ?_; intro A6 c6 w6 HO6 HB6 HG6; have HTb := Lib.hid (TL.appO (HTa.out.up (below_new _ _)) HO6.out HB6.out HG6.out); obtain ⟨o2, Ho2⟩ : ∃ o, Hid (out ++ [(⟨au, av, x, y, z, t⟩ : Ls.Lk)] = o) := ⟨_, rfl⟩; rw [Ho2.out] at HTb ⊢; have i1 := Go.Joins.cell_of_block HTb.out.bO 1; have jf := Go.Joins.unfrozen_of_block HTb.out.bO 1; simp only [List.getElem?_toArray, List.getElem?_cons_succ, List.getElem?_cons_zero] at i1; have il := lt_of_some HTb.out.bO)))
                clear HO6 HB6 HG6 i1 jf il HO7 HB7 HG7
                go_roundw
                case rel => exact ⟨j + 1, true, A6, c6, o2, A7, c7, ch2, hlt, by go_num, rfl, rfl, by rw [← Ho2.out, List.length_append, List.length_singleton]; omega, by rw [← Hc2.out, List.length_append, List.length_singleton]; omega, by show _ = _; rw [HM.out, Ls.rem_hit _ _ _ _ rfl HSM.out, HLK.out, if_pos HNE.out, ← Ho2.out, ← Hc2.out]; simp [Ls.setE], HTb.out.store _⟩
                case measure => simp [RowKit.intOf]; omega
            · have g2 : (av == V) = false := by simpa using hs2
              have HS : Hid (Ls.same ⟨au, av, ax, ay, az, at'⟩ (Ls.lk ⟨1, t, u, v, x, y, z⟩) = false) := by show _ = _; rw [HLK.out]; simp [Ls.same, hs2]
              clear hs2
              go_wp2_with fail
              rw [hW6.out]
              try simp only [hQ.out]
              clear c0 c1' c2' c3 c4 c5 hbw
              have n0 := Go.Joins.cell_of_block HT6.out.bN 0
              have n1 := Go.Joins.cell_of_block HT6.out.bN 1
              have n2 := Go.Joins.cell_of_block HT6.out.bN 2
              have n3 := Go.Joins.cell_of_block HT6.out.bN 3
              have n4 := Go.Joins.cell_of_block HT6.out.bN 4
              have n5 := Go.Joins.cell_of_block HT6.out.bN 5
              simp only [List.getElem?_toArray, List.getElem?_cons_succ, List.getElem?_cons_zero] at n0 n1 n2 n3 n4 n5
              have q0 := Go.Joins.cell_of_block HT6.out.bQ 0
              have q1 := Go.Joins.cell_of_block HT6.out.bQ 1
              have q2 := Go.Joins.cell_of_block HT6.out.bQ 2
              have q3 := Go.Joins.cell_of_block HT6.out.bQ 3
              have q4 := Go.Joins.cell_of_block HT6.out.bQ 4
              have q5 := Go.Joins.cell_of_block HT6.out.bQ 5
              simp only [List.getElem?_toArray, List.getElem?_cons_succ, List.getElem?_cons_zero] at q0 q1 q2 q3 q4 q5
              have nl := lt_of_some HT6.out.bN; have ql := lt_of_some HT6.out.bQ
              have C35 : Hid (∀ x' : More W6, Calls Tryz.prog 46 #[.agg #[.int .i64 au, .int .i64 V], .agg #[.int .i64 au, .int .i64 av]] (over W6 x') fun e w' => e = .returned (.bool false) ∧ Below (over W6 x').heap.size (over W6 x') w') := by
                intro x'
                have h9 := before_any au V au av (over W6 x')
                rw [HBV.out] at h9
                exact h9
              refine wp_region_over (by kernel_rfl) (by kernel_rfl) ?_
              repeat (go_big_quiet_step (first | (go_at_call 47; exact calls_over (redge_any _ _ _ _ _ _ _)) | (go_at_call 46; exact calls_over (C35.out _))))
              refine wpQuiet_nil ?_
              rintro _ ⟨zz, rfl⟩
              obtain ⟨W7, hW7⟩ : ∃ W7, Hid (over W6 zz = W7) := ⟨_, rfl⟩
              have HT7 : Hid (TL w3 O Qb n ⟨au, V, x, y, z, t⟩ ⟨au, av, ax, ay, az, at'⟩ (.slice A2 out.length c2) out A2 c2 ch A1 c1 W7) := by show TL _ _ _ _ _ _ _ _ _ _ _ _ _ _; rw [← hW7.out]; exact HT6.out.up (over_below _ zz)
              rw [hW7.out]
              clear HT6 hW6 n0 q0 n1 q1 n2 q2 n3 q3 n4 q4 n5 q5 nl ql C35
              have n0 := Go.Joins.cell_of_block HT7.out.bN 0
              have n1 := Go.Joins.cell_of_block HT7.out.bN 1
              have n2 := Go.Joins.cell_of_block HT7.out.bN 2
              have n3 := Go.Joins.cell_of_block HT7.out.bN 3
              have n4 := Go.Joins.cell_of_block HT7.out.bN 4
              have n5 := Go.Joins.cell_of_block HT7.out.bN 5
              simp only [List.getElem?_toArray, List.getElem?_cons_succ, List.getElem?_cons_zero] at n0 n1 n2 n3 n4 n5
              have q0 := Go.Joins.cell_of_block HT7.out.bQ 0
              have q1 := Go.Joins.cell_of_block HT7.out.bQ 1
              have q2 := Go.Joins.cell_of_block HT7.out.bQ 2
              have q3 := Go.Joins.cell_of_block HT7.out.bQ 3
              have q4 := Go.Joins.cell_of_block HT7.out.bQ 4
              have q5 := Go.Joins.cell_of_block HT7.out.bQ 5
              simp only [List.getElem?_toArray, List.getElem?_cons_succ, List.getElem?_cons_zero] at q0 q1 q2 q3 q4 q5
              have nl := lt_of_some HT7.out.bN; have ql := lt_of_some HT7.out.bQ
              go_wp2_with fail
              refine wp_region_over (by kernel_rfl) (by kernel_rfl) ?_
              repeat (go_big_quiet_step (first | (go_at_call 47; exact calls_over (redge_any _ _ _ _ _ _ _))))
              refine wpQuiet_nil ?_
              rintro _ ⟨zz, rfl⟩
              obtain ⟨W8, hW8⟩ : ∃ W8, Hid (over W7 zz = W8) := ⟨_, rfl⟩
              have HT8 : Hid (TL w3 O Qb n ⟨au, V, x, y, z, t⟩ ⟨au, av, ax, ay, az, at'⟩ (.slice A2 out.length c2) out A2 c2 ch A1 c1 W8) := by show TL _ _ _ _ _ _ _ _ _ _ _ _ _ _; rw [← hW8.out]; exact HT7.out.up (over_below _ zz)
              rw [hW8.out]
              clear HT7 hW7 nl ql n0 n1 n2 n3 n4 n5 q0 q1 q2 q3 q4 q5
              have n0 := Go.Joins.cell_of_block HT8.out.bN 0
              have n1 := Go.Joins.cell_of_block HT8.out.bN 1
              have n2 := Go.Joins.cell_of_block HT8.out.bN 2
              have n3 := Go.Joins.cell_of_block HT8.out.bN 3
              have n4 := Go.Joins.cell_of_block HT8.out.bN 4
              have n5 := Go.Joins.cell_of_block HT8.out.bN 5
              simp only [List.getElem?_toArray, List.getElem?_cons_succ, List.getElem?_cons_zero] at n0 n1 n2 n3 n4 n5
              have q0 := Go.Joins.cell_of_block HT8.out.bQ 0
              have q1 := Go.Joins.cell_of_block HT8.out.bQ 1
              have q2 := Go.Joins.cell_of_block HT8.out.bQ 2
              have q3 := Go.Joins.cell_of_block HT8.out.bQ 3
              have q4 := Go.Joins.cell_of_block HT8.out.bQ 4
              have q5 := Go.Joins.cell_of_block HT8.out.bQ 5
              simp only [List.getElem?_toArray, List.getElem?_cons_succ, List.getElem?_cons_zero] at q0 q1 q2 q3 q4 q5
              have p0 := Go.Joins.cell_of_block HT8.out.bO 0; have p1 := Go.Joins.cell_of_block HT8.out.bO 1; have pf := Go.Joins.unfrozen_of_block HT8.out.bO 1
              simp only [List.getElem?_toArray, List.getElem?_cons_succ, List.getElem?_cons_zero] at p0 p1
              have nl := lt_of_some HT8.out.bN; have ql := lt_of_some HT8.out.bQ; have pl := lt_of_some HT8.out.bO
              have hev := Go.Joins.cell_of_block ((HT8.out.bel.block (G + 1) (by omega)).trans M1.out)
              have e0 := hev 0; have e1 := hev 1; have e2 := hev 2
              simp only [List.getElem?_toArray, List.getElem?_cons_succ, List.getElem?_cons_zero] at e0 e1 e2
              have el := Nat.lt_trans (show G + 1 < O by omega) (lt_of_some HT8.out.bO)
              clear hev
              go_wp2_with (at_builtin; (refine wpList_applL _ rfl (.tmp 101) (.tmp 103) (O + 2) A2 c2 rfl out (by simp [Act.eval]) (HT8.out.ownO.alloc _) (some ⟨W8.heap.size, 0, none⟩) 1 1 [⟨au, av, ax, ay, az, at'⟩] rfl (by simp [Act.eval]) (RL_new1 W8 ⟨au, av, ax, ay, az, at'⟩) (by omega) (by simp; omega) ?_; intro A6 c6 w6 HO6 HB6 HG6; have HT9 := Lib.hid (TL.appO (HT8.out.up (below_new _ _)) HO6.out HB6.out HG6.out); obtain ⟨o2, Ho2⟩ : ∃ o, Hid (out ++ [(⟨au, av, ax, ay, az, at'⟩ : Ls.Lk)] = o) := ⟨_, rfl⟩; rw [Ho2.out] at HT9 ⊢; have i1 := Go.Joins.cell_of_block HT9.out.bO 1; have jf := Go.Joins.unfrozen_of_block HT9.out.bO 1; simp only [List.getElem?_toArray, List.getElem?_cons_succ, List.getElem?_cons_zero] at i1; have il := lt_of_some HT9.out.bO))
              clear HO6 HB6 HG6 i1 jf il
              go_roundw
              case rel => exact ⟨j + 1, false, A6, c6, o2, A1, c1, ch, hlt, by go_num, rfl, rfl, by rw [← Ho2.out, List.length_append, List.length_singleton]; omega, by omega, by show _ = _; rw [HM.out, Ls.rem_pass _ _ _ _ rfl HS.out (.inr HBF.out), ← Ho2.out]; simp, HT9.out.store _⟩
              case measure => simp [RowKit.intOf]; omega
          · have g1 : (au == U) = false := by simpa using hs1
            have HS : Hid (Ls.same ⟨au, av, ax, ay, az, at'⟩ (Ls.lk ⟨1, t, u, v, x, y, z⟩) = false) := by show _ = _; rw [HLK.out]; simp [Ls.same, hs1]
            clear hs1
            go_wp2_with fail
            rw [hW6.out]
            try simp only [hQ.out]
            clear c0 c1' c2' c3 c4 c5 hbw
            have n0 := Go.Joins.cell_of_block HT6.out.bN 0
            have n1 := Go.Joins.cell_of_block HT6.out.bN 1
            have n2 := Go.Joins.cell_of_block HT6.out.bN 2
            have n3 := Go.Joins.cell_of_block HT6.out.bN 3
            have n4 := Go.Joins.cell_of_block HT6.out.bN 4
            have n5 := Go.Joins.cell_of_block HT6.out.bN 5
            simp only [List.getElem?_toArray, List.getElem?_cons_succ, List.getElem?_cons_zero] at n0 n1 n2 n3 n4 n5
            have q0 := Go.Joins.cell_of_block HT6.out.bQ 0
            have q1 := Go.Joins.cell_of_block HT6.out.bQ 1
            have q2 := Go.Joins.cell_of_block HT6.out.bQ 2
            have q3 := Go.Joins.cell_of_block HT6.out.bQ 3
            have q4 := Go.Joins.cell_of_block HT6.out.bQ 4
            have q5 := Go.Joins.cell_of_block HT6.out.bQ 5
            simp only [List.getElem?_toArray, List.getElem?_cons_succ, List.getElem?_cons_zero] at q0 q1 q2 q3 q4 q5
            have nl := lt_of_some HT6.out.bN; have ql := lt_of_some HT6.out.bQ
            have C35 : Hid (∀ x' : More W6, Calls Tryz.prog 46 #[.agg #[.int .i64 U, .int .i64 V], .agg #[.int .i64 au, .int .i64 av]] (over W6 x') fun e w' => e = .returned (.bool false) ∧ Below (over W6 x').heap.size (over W6 x') w') := by
              intro x'
              have h9 := before_any U V au av (over W6 x')
              rw [HBV.out] at h9
              exact h9
            refine wp_region_over (by kernel_rfl) (by kernel_rfl) ?_
            repeat (go_big_quiet_step (first | (go_at_call 47; exact calls_over (redge_any _ _ _ _ _ _ _)) | (go_at_call 46; exact calls_over (C35.out _))))
            refine wpQuiet_nil ?_
            rintro _ ⟨zz, rfl⟩
            obtain ⟨W7, hW7⟩ : ∃ W7, Hid (over W6 zz = W7) := ⟨_, rfl⟩
            have HT7 : Hid (TL w3 O Qb n ⟨U, V, x, y, z, t⟩ ⟨au, av, ax, ay, az, at'⟩ (.slice A2 out.length c2) out A2 c2 ch A1 c1 W7) := by show TL _ _ _ _ _ _ _ _ _ _ _ _ _ _; rw [← hW7.out]; exact HT6.out.up (over_below _ zz)
            rw [hW7.out]
            clear HT6 hW6 n0 q0 n1 q1 n2 q2 n3 q3 n4 q4 n5 q5 nl ql C35
            have n0 := Go.Joins.cell_of_block HT7.out.bN 0
            have n1 := Go.Joins.cell_of_block HT7.out.bN 1
            have n2 := Go.Joins.cell_of_block HT7.out.bN 2
            have n3 := Go.Joins.cell_of_block HT7.out.bN 3
            have n4 := Go.Joins.cell_of_block HT7.out.bN 4
            have n5 := Go.Joins.cell_of_block HT7.out.bN 5
            simp only [List.getElem?_toArray, List.getElem?_cons_succ, List.getElem?_cons_zero] at n0 n1 n2 n3 n4 n5
            have q0 := Go.Joins.cell_of_block HT7.out.bQ 0
            have q1 := Go.Joins.cell_of_block HT7.out.bQ 1
            have q2 := Go.Joins.cell_of_block HT7.out.bQ 2
            have q3 := Go.Joins.cell_of_block HT7.out.bQ 3
            have q4 := Go.Joins.cell_of_block HT7.out.bQ 4
            have q5 := Go.Joins.cell_of_block HT7.out.bQ 5
            simp only [List.getElem?_toArray, List.getElem?_cons_succ, List.getElem?_cons_zero] at q0 q1 q2 q3 q4 q5
            have nl := lt_of_some HT7.out.bN; have ql := lt_of_some HT7.out.bQ
            go_wp2_with fail
            refine wp_region_over (by kernel_rfl) (by kernel_rfl) ?_
            repeat (go_big_quiet_step (first | (go_at_call 47; exact calls_over (redge_any _ _ _ _ _ _ _))))
            refine wpQuiet_nil ?_
            rintro _ ⟨zz, rfl⟩
            obtain ⟨W8, hW8⟩ : ∃ W8, Hid (over W7 zz = W8) := ⟨_, rfl⟩
            have HT8 : Hid (TL w3 O Qb n ⟨U, V, x, y, z, t⟩ ⟨au, av, ax, ay, az, at'⟩ (.slice A2 out.length c2) out A2 c2 ch A1 c1 W8) := by show TL _ _ _ _ _ _ _ _ _ _ _ _ _ _; rw [← hW8.out]; exact HT7.out.up (over_below _ zz)
            rw [hW8.out]
            clear HT7 hW7 nl ql n0 n1 n2 n3 n4 n5 q0 q1 q2 q3 q4 q5
            have n0 := Go.Joins.cell_of_block HT8.out.bN 0
            have n1 := Go.Joins.cell_of_block HT8.out.bN 1
            have n2 := Go.Joins.cell_of_block HT8.out.bN 2
            have n3 := Go.Joins.cell_of_block HT8.out.bN 3
            have n4 := Go.Joins.cell_of_block HT8.out.bN 4
            have n5 := Go.Joins.cell_of_block HT8.out.bN 5
            simp only [List.getElem?_toArray, List.getElem?_cons_succ, List.getElem?_cons_zero] at n0 n1 n2 n3 n4 n5
            have q0 := Go.Joins.cell_of_block HT8.out.bQ 0
            have q1 := Go.Joins.cell_of_block HT8.out.bQ 1
            have q2 := Go.Joins.cell_of_block HT8.out.bQ 2
            have q3 := Go.Joins.cell_of_block HT8.out.bQ 3
            have q4 := Go.Joins.cell_of_block HT8.out.bQ 4
            have q5 := Go.Joins.cell_of_block HT8.out.bQ 5
            simp only [List.getElem?_toArray, List.getElem?_cons_succ, List.getElem?_cons_zero] at q0 q1 q2 q3 q4 q5
            have p0 := Go.Joins.cell_of_block HT8.out.bO 0; have p1 := Go.Joins.cell_of_block HT8.out.bO 1; have pf := Go.Joins.unfrozen_of_block HT8.out.bO 1
            simp only [List.getElem?_toArray, List.getElem?_cons_succ, List.getElem?_cons_zero] at p0 p1
            have nl := lt_of_some HT8.out.bN; have ql := lt_of_some HT8.out.bQ; have pl := lt_of_some HT8.out.bO
            have hev := Go.Joins.cell_of_block ((HT8.out.bel.block (G + 1) (by omega)).trans M1.out)
            have e0 := hev 0; have e1 := hev 1; have e2 := hev 2
            simp only [List.getElem?_toArray, List.getElem?_cons_succ, List.getElem?_cons_zero] at e0 e1 e2
            have el := Nat.lt_trans (show G + 1 < O by omega) (lt_of_some HT8.out.bO)
            clear hev
            go_wp2_with (at_builtin; (refine wpList_applL _ rfl (.tmp 101) (.tmp 103) (O + 2) A2 c2 rfl out (by simp [Act.eval]) (HT8.out.ownO.alloc _) (some ⟨W8.heap.size, 0, none⟩) 1 1 [⟨au, av, ax, ay, az, at'⟩] rfl (by simp [Act.eval]) (RL_new1 W8 ⟨au, av, ax, ay, az, at'⟩) (by omega) (by simp; omega) ?_; intro A6 c6 w6 HO6 HB6 HG6; have HT9 := Lib.hid (TL.appO (HT8.out.up (below_new _ _)) HO6.out HB6.out HG6.out); obtain ⟨o2, Ho2⟩ : ∃ o, Hid (out ++ [(⟨au, av, ax, ay, az, at'⟩ : Ls.Lk)] = o) := ⟨_, rfl⟩; rw [Ho2.out] at HT9 ⊢; have i1 := Go.Joins.cell_of_block HT9.out.bO 1; have jf := Go.Joins.unfrozen_of_block HT9.out.bO 1; simp only [List.getElem?_toArray, List.getElem?_cons_succ, List.getElem?_cons_zero] at i1; have il := lt_of_some HT9.out.bO))
            clear HO6 HB6 HG6 i1 jf il
            go_roundw
            case rel => exact ⟨j + 1, false, A6, c6, o2, A1, c1, ch, hlt, by go_num, rfl, rfl, by rw [← Ho2.out, List.length_append, List.length_singleton]; omega, by omega, by show _ = _; rw [HM.out, Ls.rem_pass _ _ _ _ rfl HS.out (.inr HBF.out), ← Ho2.out]; simp, HT9.out.store _⟩
            case measure => simp [RowKit.intOf]; omega
        | true =>
          have HBT := Lib.hid HBE.out
          by_cases hs1 : au = U
          · subst hs1
            by_cases hs2 : av = V
            · subst hs2
              exact absurd HBV.out (by simp [bef])
            · have g2 : (av == V) = false := by simpa using hs2
              have HS : Hid (Ls.same ⟨au, av, ax, ay, az, at'⟩ (Ls.lk ⟨1, t, u, v, x, y, z⟩) = false) := by show _ = _; rw [HLK.out]; simp [Ls.same, hs2]
              clear hs2
              go_wp2_with fail
              rw [hW6.out]
              try simp only [hQ.out]
              clear c0 c1' c2' c3 c4 c5 hbw
              have n0 := Go.Joins.cell_of_block HT6.out.bN 0
              have n1 := Go.Joins.cell_of_block HT6.out.bN 1
              have n2 := Go.Joins.cell_of_block HT6.out.bN 2
              have n3 := Go.Joins.cell_of_block HT6.out.bN 3
              have n4 := Go.Joins.cell_of_block HT6.out.bN 4
              have n5 := Go.Joins.cell_of_block HT6.out.bN 5
              simp only [List.getElem?_toArray, List.getElem?_cons_succ, List.getElem?_cons_zero] at n0 n1 n2 n3 n4 n5
              have q0 := Go.Joins.cell_of_block HT6.out.bQ 0
              have q1 := Go.Joins.cell_of_block HT6.out.bQ 1
              have q2 := Go.Joins.cell_of_block HT6.out.bQ 2
              have q3 := Go.Joins.cell_of_block HT6.out.bQ 3
              have q4 := Go.Joins.cell_of_block HT6.out.bQ 4
              have q5 := Go.Joins.cell_of_block HT6.out.bQ 5
              simp only [List.getElem?_toArray, List.getElem?_cons_succ, List.getElem?_cons_zero] at q0 q1 q2 q3 q4 q5
              have nl := lt_of_some HT6.out.bN; have ql := lt_of_some HT6.out.bQ
              have C35 : Hid (∀ x' : More W6, Calls Tryz.prog 46 #[.agg #[.int .i64 au, .int .i64 V], .agg #[.int .i64 au, .int .i64 av]] (over W6 x') fun e w' => e = .returned (.bool true) ∧ Below (over W6 x').heap.size (over W6 x') w') := by
                intro x'
                have h9 := before_any au V au av (over W6 x')
                rw [HBV.out] at h9
                exact h9
              refine wp_region_over (by kernel_rfl) (by kernel_rfl) ?_
              repeat (go_big_quiet_step (first | (go_at_call 47; exact calls_over (redge_any _ _ _ _ _ _ _)) | (go_at_call 46; exact calls_over (C35.out _))))
              refine wpQuiet_nil ?_
              rintro _ ⟨zz, rfl⟩
              obtain ⟨W7, hW7⟩ : ∃ W7, Hid (over W6 zz = W7) := ⟨_, rfl⟩
              have HT7 : Hid (TL w3 O Qb n ⟨au, V, x, y, z, t⟩ ⟨au, av, ax, ay, az, at'⟩ (.slice A2 out.length c2) out A2 c2 ch A1 c1 W7) := by show TL _ _ _ _ _ _ _ _ _ _ _ _ _ _; rw [← hW7.out]; exact HT6.out.up (over_below _ zz)
              rw [hW7.out]
              clear HT6 hW6 n0 q0 n1 q1 n2 q2 n3 q3 n4 q4 n5 q5 nl ql C35
              go_wp2_with fail
              have HJ0 : Hid (∀ a : Act, a.tmps.size = 180 → JA w3 O Qb n ⟨au, V, x, y, z, t⟩ ⟨au, av, ax, ay, az, at'⟩ out A2 c2 ch A1 c1 ⟨1, t, au, V, x, y, z⟩ 86 93 (fun _ => false) a (W7.drewN 1)) := fun a ha => JA.start (HT7.out.up (below_drewN _ _)) ha
              have HR1 : Hid (∀ q, (Value.slice A2 out.length c2).ownBlock = some q → q < W7.heap.size) := fun q e => (HT7.out.ownO.lt _ e).2
              have HR2 : Hid (∀ q, (Value.slice A1 ch.length c1).ownBlock = some q → q < W7.heap.size) := fun q e => (HT7.out.ownC.lt _ e).2
              have HM3 : Hid (∀ (q0 : Value) (w5 w6 : World), (∃ vb, q0 = .slice (some ⟨vb, 0, none⟩) 1 1 ∧ W7.heap.size ≤ vb ∧ w5.heap[vb]? = some (.cells #[.int .i64 au, .int .i64 V, .int .i64 x, .int .i64 y, .int .i64 z, .int .i64 t] 62 (0, 0))) → LeR (Value.slice A2 out.length c2).ownBlock (Value.slice A1 ch.length c1).ownBlock w5 w6 → (∃ vb, q0 = .slice (some ⟨vb, 0, none⟩) 1 1 ∧ W7.heap.size ≤ vb ∧ w6.heap[vb]? = some (.cells #[.int .i64 au, .int .i64 V, .int .i64 x, .int .i64 y, .int .i64 z, .int .i64 t] 62 (0, 0)))) := by
                rintro q0 w5 w6 ⟨vb, e, h1, h2⟩ hg
                exact ⟨vb, e, h1, (hg.2 vb (lt_of_some h2) (fun e => by have := HR1.out vb e.symm; omega) (fun e => by have := HR2.out vb e.symm; omega)).trans h2⟩
              have HM10 : Hid (∀ (q0 : Value) (w5 w6 : World), (∃ vb, q0 = .slice (some ⟨vb, 0, none⟩) 1 1 ∧ W7.heap.size ≤ vb ∧ w5.heap[vb]? = some (.cells #[.int .i64 1, .int .i64 t, .int .i64 au, .int .i64 V, .int .i64 x, .int .i64 y, .int .i64 z] 57 (0, 0))) → LeR (Value.slice A2 out.length c2).ownBlock (Value.slice A1 ch.length c1).ownBlock w5 w6 → (∃ vb, q0 = .slice (some ⟨vb, 0, none⟩) 1 1 ∧ W7.heap.size ≤ vb ∧ w6.heap[vb]? = some (.cells #[.int .i64 1, .int .i64 t, .int .i64 au, .int .i64 V, .int .i64 x, .int .i64 y, .int .i64 z] 57 (0, 0)))) := by
                rintro q0 w5 w6 ⟨vb, e, h1, h2⟩ hg
                exact ⟨vb, e, h1, (hg.2 vb (lt_of_some h2) (fun e => by have := HR1.out vb e.symm; omega) (fun e => by have := HR2.out vb e.symm; omega)).trans h2⟩
              have HOS : Hid (O + 2 ≤ W7.heap.size) := by show _ ≤ _; have := lt_of_some HT7.out.bN; omega
              refine wp_region_ac 13 180 (LeR (Value.slice A2 out.length c2).ownBlock (Value.slice A1 ch.length c1).ownBlock) (fun f a wr => JA w3 O Qb n ⟨au, V, x, y, z, t⟩ ⟨au, av, ax, ay, az, at'⟩ out A2 c2 ch A1 c1 ⟨1, t, au, V, x, y, z⟩ 86 93 f a wr) [(fun q0 _ => q0 = .pointer (some ⟨O, 1, none⟩)), (fun q0 _ => q0 = .slice A2 out.length c2), (fun q0 _ => q0 = .agg #[.int .i64 au, .int .i64 V, .int .i64 x, .int .i64 y, .int .i64 z, .int .i64 t]), (fun q0 w5 => (∃ vb, q0 = .slice (some ⟨vb, 0, none⟩) 1 1 ∧ W7.heap.size ≤ vb ∧ w5.heap[vb]? = some (.cells #[.int .i64 au, .int .i64 V, .int .i64 x, .int .i64 y, .int .i64 z, .int .i64 t] 62 (0, 0)))), (fun _ _ => True), (fun q0 _ => q0 = .slice A1 ch.length c1), (fun q0 _ => q0 = .agg #[.int .i64 au, .int .i64 V, .int .i64 x, .int .i64 y, .int .i64 z, .int .i64 t]), (fun q0 _ => q0 = .pointer (some ⟨G + 1, 1, none⟩)), (fun q0 _ => q0 = .int .i64 t), (fun q0 _ => q0 = .agg #[.int .i64 1, .int .i64 t, .int .i64 au, .int .i64 V, .int .i64 x, .int .i64 y, .int .i64 z]), (fun q0 w5 => (∃ vb, q0 = .slice (some ⟨vb, 0, none⟩) 1 1 ∧ W7.heap.size ≤ vb ∧ w5.heap[vb]? = some (.cells #[.int .i64 1, .int .i64 t, .int .i64 au, .int .i64 V, .int .i64 x, .int .i64 y, .int .i64 z] 57 (0, 0)))), (fun _ _ => True), (fun q0 _ => q0 = .pointer (some ⟨O, 1, none⟩))] (by kernel_rfl) (by kernel_rfl) rfl (fun _ _ _ => leR_trans) (leR_below (below_drewN _ _)) (HJ0.out _ rfl) ?_ ?_ ?_
              · intro R hR
                simp only [List.mem_cons, List.not_mem_nil, or_false] at hR
                rcases hR with rfl | rfl | rfl | rfl | rfl | rfl | rfl | rfl | rfl | rfl | rfl | rfl | rfl <;> first | exact fun _ _ _ h _ => h | exact HM3.out | exact HM10.out
              · simp only [List.take_succ_cons, List.take_zero]
                refine ⟨?_, ?_, ?_, ?_, ?_, ?_, ?_, ?_, ?_, ?_, ?_, ?_, ?_, trivial⟩
                · intro a ws f hle hjj hfi hun hdn hag hdep K Q hK
                  have d9 : (a.tmps[9]?).getD undef = .pointer (some ⟨O, 0, none⟩) := eval_get (hag 9 (freeB_spec (by kernel_rfl)))
                  rw [if_pos (show Region.wanted _ _ = true from rfl)]
                  unfold Oper.wp
                  simp [go_sem, d9]
                  exact hK _ _ (leR_refl _ _ _) (hjj.put (by decide) (by decide)) rfl
                · intro a ws f hle hjj hfi hun hdn hag hdep K Q hK
                  have d82 : (a.tmps[82]?).getD undef = .pointer (some ⟨O, 1, none⟩) := eval_get (dep_of hdep 0 82 rfl (by kernel_rfl) rfl rfl)
                  rw [if_pos (show Region.wanted _ _ = true from rfl)]
                  have y1 := Go.Joins.cell_of_block hjj.bO 1
                  simp only [List.getElem?_toArray, List.getElem?_cons_succ, List.getElem?_cons_zero] at y1
                  unfold Oper.wp
                  simp [go_sem, d82, y1]
                  exact hK _ _ (leR_refl _ _ _) (hjj.put (by decide) (by decide)) rfl
                · intro a ws f hle hjj hfi hun hdn hag hdep K Q hK
                  have d11 : (a.tmps[11]?).getD undef = .pointer (some ⟨O + 1, 0, none⟩) := eval_get (hag 11 (freeB_spec (by kernel_rfl)))
                  rw [if_pos (show Region.wanted _ _ = true from rfl)]
                  have yy := Go.Joins.cell_of_block hjj.bN
                  have y0 := yy 0; have y1 := yy 1; have y2 := yy 2; have y3 := yy 3; have y4 := yy 4; have y5 := yy 5
                  simp only [List.getElem?_toArray, List.getElem?_cons_succ, List.getElem?_cons_zero] at y0 y1 y2 y3 y4 y5
                  unfold Oper.wp
                  simp [go_sem, d11, y0, y1, y2, y3, y4, y5]
                  exact hK _ _ (leR_refl _ _ _) (hjj.put (by decide) (by decide)) rfl
                · intro a ws f hle hjj hfi hun hdn hag hdep K Q hK
                  have d84 : (a.tmps[84]?).getD undef = .agg #[.int .i64 au, .int .i64 V, .int .i64 x, .int .i64 y, .int .i64 z, .int .i64 t] := eval_get (dep_of hdep 2 84 rfl (by kernel_rfl) rfl rfl)
                  rw [if_pos (show Region.wanted _ _ = true from rfl)]
                  have hsz := hle.1
                  unfold Oper.wp
                  simp [go_sem, d84]
                  exact hK _ _ (leR_below (below_new _ _)) ((hjj.up (below_new _ _)).put (by decide) (by decide)) ⟨_, rfl, hsz, heap_alloc_new _ _⟩
                · intro a ws f hle hjj hfi hun hdn hag hdep K Q hK
                  have d83 : (a.tmps[83]?).getD undef = .slice A2 out.length c2 := eval_get (dep_of hdep 1 83 rfl (by kernel_rfl) rfl rfl)
                  have d85 : (fun q0 w5 => (∃ vb, q0 = .slice (some ⟨vb, 0, none⟩) 1 1 ∧ W7.heap.size ≤ vb ∧ w5.heap[vb]? = some (.cells #[.int .i64 au, .int .i64 V, .int .i64 x, .int .i64 y, .int .i64 z, .int .i64 t] 62 (0, 0)))) (a.eval (.tmp 85)) ws := dep_of hdep 3 85 rfl (by kernel_rfl) rfl rfl
                  rw [if_pos (show Region.wanted _ _ = true from rfl)]
                  obtain ⟨vb, e3, hv1, hv2⟩ := d85
                  have e1 : a.eval (.tmp 83) = .slice A2 out.length c2 := dep_of hdep 1 83 rfl (by kernel_rfl) rfl rfl
                  refine run_applX encL (by decide) 22 62 _ 48 Tryz.underlying22 infoL rfl (by decide) ws (.tmp 83) (.tmp 85) rfl (O + 2) A2 c2 out e1 (hjj.own4 hfi) (some ⟨vb, 0, none⟩) 1 1 [(⟨au, V, x, y, z, t⟩ : Ls.Lk)] rfl e3 (RL_at1 hv2) (by omega) (by have := hle.1; have := HOS.out; omega) ?_
                  intro A6 c6 w6 HO6 HB6 HG6
                  exact hK _ _ (leR_1 HG6.out) (hjj.app4 hfi (by decide) HO6.out HB6.out HG6.out HQN.out) trivial
                · intro a ws f hle hjj hfi hun hdn hag hdep K Q hK
                  have d10 : (a.tmps[10]?).getD undef = .slice A1 ch.length c1 := eval_get (hag 10 (freeB_spec (by kernel_rfl)))
                  rw [if_pos (show Region.wanted _ _ = true from rfl)]
                  unfold Oper.wp
                  simp [go_sem, d10]
                  exact hK _ _ (leR_refl _ _ _) (hjj.put (by decide) (by decide)) rfl
                · intro a ws f hle hjj hfi hun hdn hag hdep K Q hK
                  have d11 : (a.tmps[11]?).getD undef = .pointer (some ⟨O + 1, 0, none⟩) := eval_get (hag 11 (freeB_spec (by kernel_rfl)))
                  rw [if_pos (show Region.wanted _ _ = true from rfl)]
                  have yy := Go.Joins.cell_of_block hjj.bN
                  have y0 := yy 0; have y1 := yy 1; have y2 := yy 2; have y3 := yy 3; have y4 := yy 4; have y5 := yy 5
                  simp only [List.getElem?_toArray, List.getElem?_cons_succ, List.getElem?_cons_zero] at y0 y1 y2 y3 y4 y5
                  unfold Oper.wp
                  simp [go_sem, d11, y0, y1, y2, y3, y4, y5]
                  exact hK _ _ (leR_refl _ _ _) (hjj.put (by decide) (by decide)) rfl
                · intro a ws f hle hjj hfi hun hdn hag hdep K Q hK
                  have d3 : (a.tmps[3]?).getD undef = .pointer (some ⟨G + 1, 0, none⟩) := eval_get (hag 3 (freeB_spec (by kernel_rfl)))
                  rw [if_pos (show Region.wanted _ _ = true from rfl)]
                  unfold Oper.wp
                  simp [go_sem, d3]
                  exact hK _ _ (leR_refl _ _ _) (hjj.put (by decide) (by decide)) rfl
                · intro a ws f hle hjj hfi hun hdn hag hdep K Q hK
                  have d89 : (a.tmps[89]?).getD undef = .pointer (some ⟨G + 1, 1, none⟩) := eval_get (dep_of hdep 7 89 rfl (by kernel_rfl) rfl rfl)
                  rw [if_pos (show Region.wanted _ _ = true from rfl)]
                  have y1 := Go.Joins.cell_of_block ((hjj.bel.block (G + 1) (by omega)).trans M1.out) 1
                  simp only [List.getElem?_toArray, List.getElem?_cons_succ, List.getElem?_cons_zero] at y1
                  unfold Oper.wp
                  simp [go_sem, d89, y1]
                  exact hK _ _ (leR_refl _ _ _) (hjj.put (by decide) (by decide)) rfl
                · intro a ws f hle hjj hfi hun hdn hag hdep K Q hK
                  have d88 : (a.tmps[88]?).getD undef = .agg #[.int .i64 au, .int .i64 V, .int .i64 x, .int .i64 y, .int .i64 z, .int .i64 t] := eval_get (dep_of hdep 6 88 rfl (by kernel_rfl) rfl rfl)
                  have d90 : (a.tmps[90]?).getD undef = .int .i64 t := eval_get (dep_of hdep 8 90 rfl (by kernel_rfl) rfl rfl)
                  rw [if_pos (show Region.wanted _ _ = true from rfl)]
                  have hcon := rset_any au V x y z t t ws
                  unfold Oper.wp
                  simp [go_sem, d88, d90]
                  refine hcon.mono ?_
                  rintro e w9 ⟨rfl, hb9⟩
                  exact hK _ _ (leR_below hb9) ((hjj.up hb9).put (by decide) (by decide)) rfl
                · intro a ws f hle hjj hfi hun hdn hag hdep K Q hK
                  have d91 : (a.tmps[91]?).getD undef = .agg #[.int .i64 1, .int .i64 t, .int .i64 au, .int .i64 V, .int .i64 x, .int .i64 y, .int .i64 z] := eval_get (dep_of hdep 9 91 rfl (by kernel_rfl) rfl rfl)
                  rw [if_pos (show Region.wanted _ _ = true from rfl)]
                  have hsz := hle.1
                  unfold Oper.wp
                  simp [go_sem, d91]
                  exact hK _ _ (leR_below (below_new _ _)) ((hjj.up (below_new _ _)).put (by decide) (by decide)) ⟨_, rfl, hsz, heap_alloc_new _ _⟩
                · intro a ws f hle hjj hfi hun hdn hag hdep K Q hK
                  have d87 : (a.tmps[87]?).getD undef = .slice A1 ch.length c1 := eval_get (dep_of hdep 5 87 rfl (by kernel_rfl) rfl rfl)
                  have d92 : (fun q0 w5 => (∃ vb, q0 = .slice (some ⟨vb, 0, none⟩) 1 1 ∧ W7.heap.size ≤ vb ∧ w5.heap[vb]? = some (.cells #[.int .i64 1, .int .i64 t, .int .i64 au, .int .i64 V, .int .i64 x, .int .i64 y, .int .i64 z] 57 (0, 0)))) (a.eval (.tmp 92)) ws := dep_of hdep 10 92 rfl (by kernel_rfl) rfl rfl
                  rw [if_pos (show Region.wanted _ _ = true from rfl)]
                  obtain ⟨vb, e3, hv1, hv2⟩ := d92
                  have e1 : a.eval (.tmp 87) = .slice A1 ch.length c1 := dep_of hdep 5 87 rfl (by kernel_rfl) rfl rfl
                  refine run_applX encE (by decide) 40 57 _ 56 Tryz.underlying40 infoV rfl (by decide) ws (.tmp 87) (.tmp 92) rfl (O + 2) A1 c1 ch e1 (hjj.own11 hfi) (some ⟨vb, 0, none⟩) 1 1 [(⟨1, t, au, V, x, y, z⟩ : Ev)] rfl e3 (RV_at1 hv2) (by omega) (by have := hle.1; have := HOS.out; omega) ?_
                  intro A6 c6 w6 HO6 HB6 HG6
                  exact hK _ _ (leR_2 HG6.out) (hjj.app11 hfi (by decide) HO6.out HB6.out HG6.out) trivial
                · intro a ws f hle hjj hfi hun hdn hag hdep K Q hK
                  have d9 : (a.tmps[9]?).getD undef = .pointer (some ⟨O, 0, none⟩) := eval_get (hag 9 (freeB_spec (by kernel_rfl)))
                  rw [if_pos (show Region.wanted _ _ = true from rfl)]
                  unfold Oper.wp
                  simp [go_sem, d9]
                  exact hK _ _ (leR_refl _ _ _) (hjj.put (by decide) (by decide)) rfl
              · intro a ws f hle hjj hft hff hsz hdf hag hend
                have f82 : a.eval (.tmp 82) = .pointer (some ⟨O, 1, none⟩) := end_of hend 0 82 (by decide) rfl rfl rfl
                have f83 : a.eval (.tmp 83) = .slice A2 out.length c2 := end_of hend 1 83 (by decide) rfl rfl rfl
                have f84 : a.eval (.tmp 84) = .agg #[.int .i64 au, .int .i64 V, .int .i64 x, .int .i64 y, .int .i64 z, .int .i64 t] := end_of hend 2 84 (by decide) rfl rfl rfl
                have f87 : a.eval (.tmp 87) = .slice A1 ch.length c1 := end_of hend 5 87 (by decide) rfl rfl rfl
                have f88 : a.eval (.tmp 88) = .agg #[.int .i64 au, .int .i64 V, .int .i64 x, .int .i64 y, .int .i64 z, .int .i64 t] := end_of hend 6 88 (by decide) rfl rfl rfl
                have f89 : a.eval (.tmp 89) = .pointer (some ⟨G + 1, 1, none⟩) := end_of hend 7 89 (by decide) rfl rfl rfl
                have f90 : a.eval (.tmp 90) = .int .i64 t := end_of hend 8 90 (by decide) rfl rfl rfl
                have f91 : a.eval (.tmp 91) = .agg #[.int .i64 1, .int .i64 t, .int .i64 au, .int .i64 V, .int .i64 x, .int .i64 y, .int .i64 z] := end_of hend 9 91 (by decide) rfl rfl rfl
                have f94 : a.eval (.tmp 94) = .pointer (some ⟨O, 1, none⟩) := end_of hend 12 94 (by decide) rfl rfl rfl
                have ea := act_block 82 13 hsz hdf hag [82, 83, 84, 85, 86, 87, 88, 89, 90, 91, 92, 93, 94] (by kernel_rfl) (by kernel_rfl) (of_decide_eq_true (by kernel_rfl))
                obtain ⟨A8, c8, A9, c9, hT, e4, e11⟩ := hjj.fin (hft 4 (by decide)) (hft 11 (by decide))
                clear hag hend hsz hdf
                simp only [List.map_cons, List.map_nil, f82, f83, f84, f87, f88, f89, f90, f91, f94, e4, e11] at ea
                clear f82 f83 f84 f87 f88 f89 f90 f91 f94 e4 e11
                generalize a.eval (.tmp 85) = x85 at ea
                generalize a.eval (.tmp 92) = x92 at ea
                simp only [List.take_succ_cons, List.take_zero, List.drop_succ_cons, List.drop_zero, List.cons_append, List.nil_append] at ea
                subst ea
                obtain ⟨o3, Ho3⟩ : ∃ o, Hid (out ++ [(⟨au, V, x, y, z, t⟩ : Ls.Lk)] = o) := ⟨_, rfl⟩
                obtain ⟨ch3, Hc3⟩ : ∃ o, Hid (ch ++ [(⟨1, t, au, V, x, y, z⟩ : Ev)] = o) := ⟨_, rfl⟩
                rw [Ho3.out, Hc3.out] at hT
                rw [Ho3.out, Hc3.out]
                have HTr := Lib.hid hT
                clear hjj hft hff hle hT HJ0 HR1 HR2 HM3 HM10 HOS
                have p0 := Go.Joins.cell_of_block HTr.out.bO 0; have p1 := Go.Joins.cell_of_block HTr.out.bO 1; have pf := Go.Joins.unfrozen_of_block HTr.out.bO 1
                simp only [List.getElem?_toArray, List.getElem?_cons_succ, List.getElem?_cons_zero] at p0 p1
                have pl := lt_of_some HTr.out.bO
                clear HT7
                obtain ⟨W7', hW7'⟩ : ∃ k, Hid (ws.setCell ⟨O, 1, none⟩ (.slice A8 o3.length c8) = k) := ⟨_, rfl⟩
                have HT7 : Hid (TL w3 O Qb n ⟨au, V, x, y, z, t⟩ ⟨au, av, ax, ay, az, at'⟩ (.slice A8 o3.length c8) o3 A8 c8 ch3 A9 c9 W7') := by show TL _ _ _ _ _ _ _ _ _ _ _ _ _ _; rw [← hW7'.out]; exact HTr.out.store _
                simp only [List.drop_succ_cons, List.drop_zero]
                go_wp2_with fail
                rw [hW7'.out]
                clear p0 p1 pf pl HTr
                have ho3 : o3.length ≤ out.length + 1 := by rw [← Ho3.out]; simp
                have hc3 : ch3.length ≤ ch.length + 1 := by rw [← Hc3.out]; simp
                have n0 := Go.Joins.cell_of_block HT7.out.bN 0
                have n1 := Go.Joins.cell_of_block HT7.out.bN 1
                have n2 := Go.Joins.cell_of_block HT7.out.bN 2
                have n3 := Go.Joins.cell_of_block HT7.out.bN 3
                have n4 := Go.Joins.cell_of_block HT7.out.bN 4
                have n5 := Go.Joins.cell_of_block HT7.out.bN 5
                simp only [List.getElem?_toArray, List.getElem?_cons_succ, List.getElem?_cons_zero] at n0 n1 n2 n3 n4 n5
                have q0 := Go.Joins.cell_of_block HT7.out.bQ 0
                have q1 := Go.Joins.cell_of_block HT7.out.bQ 1
                have q2 := Go.Joins.cell_of_block HT7.out.bQ 2
                have q3 := Go.Joins.cell_of_block HT7.out.bQ 3
                have q4 := Go.Joins.cell_of_block HT7.out.bQ 4
                have q5 := Go.Joins.cell_of_block HT7.out.bQ 5
                simp only [List.getElem?_toArray, List.getElem?_cons_succ, List.getElem?_cons_zero] at q0 q1 q2 q3 q4 q5
                have nl := lt_of_some HT7.out.bN; have ql := lt_of_some HT7.out.bQ
                refine wp_region_over (by kernel_rfl) (by kernel_rfl) ?_
                repeat (go_big_quiet_step (first | (go_at_call 47; exact calls_over (redge_any _ _ _ _ _ _ _))))
                refine wpQuiet_nil ?_
                rintro _ ⟨zz, rfl⟩
                obtain ⟨W8, hW8⟩ : ∃ W8, Hid (over W7' zz = W8) := ⟨_, rfl⟩
                have HT8 : Hid (TL w3 O Qb n ⟨au, V, x, y, z, t⟩ ⟨au, av, ax, ay, az, at'⟩ (.slice A8 o3.length c8) o3 A8 c8 ch3 A9 c9 W8) := by show TL _ _ _ _ _ _ _ _ _ _ _ _ _ _; rw [← hW8.out]; exact HT7.out.up (over_below _ zz)
                rw [hW8.out]
                clear HT7   nl ql n0 n1 n2 n3 n4 n5 q0 q1 q2 q3 q4 q5
                have n0 := Go.Joins.cell_of_block HT8.out.bN 0
                have n1 := Go.Joins.cell_of_block HT8.out.bN 1
                have n2 := Go.Joins.cell_of_block HT8.out.bN 2
                have n3 := Go.Joins.cell_of_block HT8.out.bN 3
                have n4 := Go.Joins.cell_of_block HT8.out.bN 4
                have n5 := Go.Joins.cell_of_block HT8.out.bN 5
                simp only [List.getElem?_toArray, List.getElem?_cons_succ, List.getElem?_cons_zero] at n0 n1 n2 n3 n4 n5
                have q0 := Go.Joins.cell_of_block HT8.out.bQ 0
                have q1 := Go.Joins.cell_of_block HT8.out.bQ 1
                have q2 := Go.Joins.cell_of_block HT8.out.bQ 2
                have q3 := Go.Joins.cell_of_block HT8.out.bQ 3
                have q4 := Go.Joins.cell_of_block HT8.out.bQ 4
                have q5 := Go.Joins.cell_of_block HT8.out.bQ 5
                simp only [List.getElem?_toArray, List.getElem?_cons_succ, List.getElem?_cons_zero] at q0 q1 q2 q3 q4 q5
                have p0 := Go.Joins.cell_of_block HT8.out.bO 0; have p1 := Go.Joins.cell_of_block HT8.out.bO 1; have pf := Go.Joins.unfrozen_of_block HT8.out.bO 1
                simp only [List.getElem?_toArray, List.getElem?_cons_succ, List.getElem?_cons_zero] at p0 p1
                have nl := lt_of_some HT8.out.bN; have ql := lt_of_some HT8.out.bQ; have pl := lt_of_some HT8.out.bO
                have hev := Go.Joins.cell_of_block ((HT8.out.bel.block (G + 1) (by omega)).trans M1.out)
                have e0 := hev 0; have e1 := hev 1; have e2 := hev 2
                simp only [List.getElem?_toArray, List.getElem?_cons_succ, List.getElem?_cons_zero] at e0 e1 e2
                have el := Nat.lt_trans (show G + 1 < O by omega) (lt_of_some HT8.out.bO)
                clear hev
                go_wp2_with (at_builtin; (refine wpList_applL _ rfl (.tmp 101) (.tmp 103) (O + 2) A8 c8 rfl o3 (by simp [Act.eval]) (HT8.out.ownO.alloc _) (some ⟨W8.heap.size, 0, none⟩) 1 1 [⟨au, av, ax, ay, az, at'⟩] rfl (by simp [Act.eval]) (RL_new1 W8 ⟨au, av, ax, ay, az, at'⟩) (by omega) (by simp; omega) ?_; intro A6 c6 w6 HO6 HB6 HG6; have HT9 := Lib.hid (TL.appO (HT8.out.up (below_new _ _)) HO6.out HB6.out HG6.out); obtain ⟨o2, Ho2⟩ : ∃ o, Hid (o3 ++ [(⟨au, av, ax, ay, az, at'⟩ : Ls.Lk)] = o) := ⟨_, rfl⟩; rw [Ho2.out] at HT9 ⊢; have i1 := Go.Joins.cell_of_block HT9.out.bO 1; have jf := Go.Joins.unfrozen_of_block HT9.out.bO 1; simp only [List.getElem?_toArray, List.getElem?_cons_succ, List.getElem?_cons_zero] at i1; have il := lt_of_some HT9.out.bO))
                clear HO6 HB6 HG6 i1 jf il
                go_roundw
                case rel => exact ⟨j + 1, true, A6, c6, o2, A9, c9, ch3, hlt, by go_num, rfl, rfl, by rw [← Ho2.out, ← Ho3.out]; simp; omega, by rw [← Hc3.out]; simp; omega, by show _ = _; rw [HM.out, Ls.rem_now _ _ _ rfl HBT.out, HLK.out, ← Ho2.out, ← Ho3.out, ← Hc3.out]; simp [Ls.setE], HT9.out.store _⟩
                case measure => simp [RowKit.intOf]; omega
          · have g1 : (au == U) = false := by simpa using hs1
            have HS : Hid (Ls.same ⟨au, av, ax, ay, az, at'⟩ (Ls.lk ⟨1, t, u, v, x, y, z⟩) = false) := by show _ = _; rw [HLK.out]; simp [Ls.same, hs1]
            clear hs1
            go_wp2_with fail
            rw [hW6.out]
            try simp only [hQ.out]
            clear c0 c1' c2' c3 c4 c5 hbw
            have n0 := Go.Joins.cell_of_block HT6.out.bN 0
            have n1 := Go.Joins.cell_of_block HT6.out.bN 1
            have n2 := Go.Joins.cell_of_block HT6.out.bN 2
            have n3 := Go.Joins.cell_of_block HT6.out.bN 3
            have n4 := Go.Joins.cell_of_block HT6.out.bN 4
            have n5 := Go.Joins.cell_of_block HT6.out.bN 5
            simp only [List.getElem?_toArray, List.getElem?_cons_succ, List.getElem?_cons_zero] at n0 n1 n2 n3 n4 n5
            have q0 := Go.Joins.cell_of_block HT6.out.bQ 0
            have q1 := Go.Joins.cell_of_block HT6.out.bQ 1
            have q2 := Go.Joins.cell_of_block HT6.out.bQ 2
            have q3 := Go.Joins.cell_of_block HT6.out.bQ 3
            have q4 := Go.Joins.cell_of_block HT6.out.bQ 4
            have q5 := Go.Joins.cell_of_block HT6.out.bQ 5
            simp only [List.getElem?_toArray, List.getElem?_cons_succ, List.getElem?_cons_zero] at q0 q1 q2 q3 q4 q5
            have nl := lt_of_some HT6.out.bN; have ql := lt_of_some HT6.out.bQ
            have C35 : Hid (∀ x' : More W6, Calls Tryz.prog 46 #[.agg #[.int .i64 U, .int .i64 V], .agg #[.int .i64 au, .int .i64 av]] (over W6 x') fun e w' => e = .returned (.bool true) ∧ Below (over W6 x').heap.size (over W6 x') w') := by
              intro x'
              have h9 := before_any U V au av (over W6 x')
              rw [HBV.out] at h9
              exact h9
            refine wp_region_over (by kernel_rfl) (by kernel_rfl) ?_
            repeat (go_big_quiet_step (first | (go_at_call 47; exact calls_over (redge_any _ _ _ _ _ _ _)) | (go_at_call 46; exact calls_over (C35.out _))))
            refine wpQuiet_nil ?_
            rintro _ ⟨zz, rfl⟩
            obtain ⟨W7, hW7⟩ : ∃ W7, Hid (over W6 zz = W7) := ⟨_, rfl⟩
            have HT7 : Hid (TL w3 O Qb n ⟨U, V, x, y, z, t⟩ ⟨au, av, ax, ay, az, at'⟩ (.slice A2 out.length c2) out A2 c2 ch A1 c1 W7) := by show TL _ _ _ _ _ _ _ _ _ _ _ _ _ _; rw [← hW7.out]; exact HT6.out.up (over_below _ zz)
            rw [hW7.out]
            clear HT6 hW6 n0 q0 n1 q1 n2 q2 n3 q3 n4 q4 n5 q5 nl ql C35
            go_wp2_with fail
            have HJ0 : Hid (∀ a : Act, a.tmps.size = 180 → JA w3 O Qb n ⟨U, V, x, y, z, t⟩ ⟨au, av, ax, ay, az, at'⟩ out A2 c2 ch A1 c1 ⟨1, t, U, V, x, y, z⟩ 86 93 (fun _ => false) a (W7.drewN 1)) := fun a ha => JA.start (HT7.out.up (below_drewN _ _)) ha
            have HR1 : Hid (∀ q, (Value.slice A2 out.length c2).ownBlock = some q → q < W7.heap.size) := fun q e => (HT7.out.ownO.lt _ e).2
            have HR2 : Hid (∀ q, (Value.slice A1 ch.length c1).ownBlock = some q → q < W7.heap.size) := fun q e => (HT7.out.ownC.lt _ e).2
            have HM3 : Hid (∀ (q0 : Value) (w5 w6 : World), (∃ vb, q0 = .slice (some ⟨vb, 0, none⟩) 1 1 ∧ W7.heap.size ≤ vb ∧ w5.heap[vb]? = some (.cells #[.int .i64 U, .int .i64 V, .int .i64 x, .int .i64 y, .int .i64 z, .int .i64 t] 62 (0, 0))) → LeR (Value.slice A2 out.length c2).ownBlock (Value.slice A1 ch.length c1).ownBlock w5 w6 → (∃ vb, q0 = .slice (some ⟨vb, 0, none⟩) 1 1 ∧ W7.heap.size ≤ vb ∧ w6.heap[vb]? = some (.cells #[.int .i64 U, .int .i64 V, .int .i64 x, .int .i64 y, .int .i64 z, .int .i64 t] 62 (0, 0)))) := by
              rintro q0 w5 w6 ⟨vb, e, h1, h2⟩ hg
              exact ⟨vb, e, h1, (hg.2 vb (lt_of_some h2) (fun e => by have := HR1.out vb e.symm; omega) (fun e => by have := HR2.out vb e.symm; omega)).trans h2⟩
            have HM10 : Hid (∀ (q0 : Value) (w5 w6 : World), (∃ vb, q0 = .slice (some ⟨vb, 0, none⟩) 1 1 ∧ W7.heap.size ≤ vb ∧ w5.heap[vb]? = some (.cells #[.int .i64 1, .int .i64 t, .int .i64 U, .int .i64 V, .int .i64 x, .int .i64 y, .int .i64 z] 57 (0, 0))) → LeR (Value.slice A2 out.length c2).ownBlock (Value.slice A1 ch.length c1).ownBlock w5 w6 → (∃ vb, q0 = .slice (some ⟨vb, 0, none⟩) 1 1 ∧ W7.heap.size ≤ vb ∧ w6.heap[vb]? = some (.cells #[.int .i64 1, .int .i64 t, .int .i64 U, .int .i64 V, .int .i64 x, .int .i64 y, .int .i64 z] 57 (0, 0)))) := by
              rintro q0 w5 w6 ⟨vb, e, h1, h2⟩ hg
              exact ⟨vb, e, h1, (hg.2 vb (lt_of_some h2) (fun e => by have := HR1.out vb e.symm; omega) (fun e => by have := HR2.out vb e.symm; omega)).trans h2⟩
            have HOS : Hid (O + 2 ≤ W7.heap.size) := by show _ ≤ _; have := lt_of_some HT7.out.bN; omega
            refine wp_region_ac 13 180 (LeR (Value.slice A2 out.length c2).ownBlock (Value.slice A1 ch.length c1).ownBlock) (fun f a wr => JA w3 O Qb n ⟨U, V, x, y, z, t⟩ ⟨au, av, ax, ay, az, at'⟩ out A2 c2 ch A1 c1 ⟨1, t, U, V, x, y, z⟩ 86 93 f a wr) [(fun q0 _ => q0 = .pointer (some ⟨O, 1, none⟩)), (fun q0 _ => q0 = .slice A2 out.length c2), (fun q0 _ => q0 = .agg #[.int .i64 U, .int .i64 V, .int .i64 x, .int .i64 y, .int .i64 z, .int .i64 t]), (fun q0 w5 => (∃ vb, q0 = .slice (some ⟨vb, 0, none⟩) 1 1 ∧ W7.heap.size ≤ vb ∧ w5.heap[vb]? = some (.cells #[.int .i64 U, .int .i64 V, .int .i64 x, .int .i64 y, .int .i64 z, .int .i64 t] 62 (0, 0)))), (fun _ _ => True), (fun q0 _ => q0 = .slice A1 ch.length c1), (fun q0 _ => q0 = .agg #[.int .i64 U, .int .i64 V, .int .i64 x, .int .i64 y, .int .i64 z, .int .i64 t]), (fun q0 _ => q0 = .pointer (some ⟨G + 1, 1, none⟩)), (fun q0 _ => q0 = .int .i64 t), (fun q0 _ => q0 = .agg #[.int .i64 1, .int .i64 t, .int .i64 U, .int .i64 V, .int .i64 x, .int .i64 y, .int .i64 z]), (fun q0 w5 => (∃ vb, q0 = .slice (some ⟨vb, 0, none⟩) 1 1 ∧ W7.heap.size ≤ vb ∧ w5.heap[vb]? = some (.cells #[.int .i64 1, .int .i64 t, .int .i64 U, .int .i64 V, .int .i64 x, .int .i64 y, .int .i64 z] 57 (0, 0)))), (fun _ _ => True), (fun q0 _ => q0 = .pointer (some ⟨O, 1, none⟩))] (by kernel_rfl) (by kernel_rfl) rfl (fun _ _ _ => leR_trans) (leR_below (below_drewN _ _)) (HJ0.out _ rfl) ?_ ?_ ?_
            · intro R hR
              simp only [List.mem_cons, List.not_mem_nil, or_false] at hR
              rcases hR with rfl | rfl | rfl | rfl | rfl | rfl | rfl | rfl | rfl | rfl | rfl | rfl | rfl <;> first | exact fun _ _ _ h _ => h | exact HM3.out | exact HM10.out
            · simp only [List.take_succ_cons, List.take_zero]
              refine ⟨?_, ?_, ?_, ?_, ?_, ?_, ?_, ?_, ?_, ?_, ?_, ?_, ?_, trivial⟩
              · intro a ws f hle hjj hfi hun hdn hag hdep K Q hK
                have d9 : (a.tmps[9]?).getD undef = .pointer (some ⟨O, 0, none⟩) := eval_get (hag 9 (freeB_spec (by kernel_rfl)))
                rw [if_pos (show Region.wanted _ _ = true from rfl)]
                unfold Oper.wp
                simp [go_sem, d9]
                exact hK _ _ (leR_refl _ _ _) (hjj.put (by decide) (by decide)) rfl
              · intro a ws f hle hjj hfi hun hdn hag hdep K Q hK
                have d82 : (a.tmps[82]?).getD undef = .pointer (some ⟨O, 1, none⟩) := eval_get (dep_of hdep 0 82 rfl (by kernel_rfl) rfl rfl)
                rw [if_pos (show Region.wanted _ _ = true from rfl)]
                have y1 := Go.Joins.cell_of_block hjj.bO 1
                simp only [List.getElem?_toArray, List.getElem?_cons_succ, List.getElem?_cons_zero] at y1
                unfold Oper.wp
                simp [go_sem, d82, y1]
                exact hK _ _ (leR_refl _ _ _) (hjj.put (by decide) (by decide)) rfl
              · intro a ws f hle hjj hfi hun hdn hag hdep K Q hK
                have d11 : (a.tmps[11]?).getD undef = .pointer (some ⟨O + 1, 0, none⟩) := eval_get (hag 11 (freeB_spec (by kernel_rfl)))
                rw [if_pos (show Region.wanted _ _ = true from rfl)]
                have yy := Go.Joins.cell_of_block hjj.bN
                have y0 := yy 0; have y1 := yy 1; have y2 := yy 2; have y3 := yy 3; have y4 := yy 4; have y5 := yy 5
                simp only [List.getElem?_toArray, List.getElem?_cons_succ, List.getElem?_cons_zero] at y0 y1 y2 y3 y4 y5
                unfold Oper.wp
                simp [go_sem, d11, y0, y1, y2, y3, y4, y5]
                exact hK _ _ (leR_refl _ _ _) (hjj.put (by decide) (by decide)) rfl
              · intro a ws f hle hjj hfi hun hdn hag hdep K Q hK
                have d84 : (a.tmps[84]?).getD undef = .agg #[.int .i64 U, .int .i64 V, .int .i64 x, .int .i64 y, .int .i64 z, .int .i64 t] := eval_get (dep_of hdep 2 84 rfl (by kernel_rfl) rfl rfl)
                rw [if_pos (show Region.wanted _ _ = true from rfl)]
                have hsz := hle.1
                unfold Oper.wp
                simp [go_sem, d84]
                exact hK _ _ (leR_below (below_new _ _)) ((hjj.up (below_new _ _)).put (by decide) (by decide)) ⟨_, rfl, hsz, heap_alloc_new _ _⟩
              · intro a ws f hle hjj hfi hun hdn hag hdep K Q hK
                have d83 : (a.tmps[83]?).getD undef = .slice A2 out.length c2 := eval_get (dep_of hdep 1 83 rfl (by kernel_rfl) rfl rfl)
                have d85 : (fun q0 w5 => (∃ vb, q0 = .slice (some ⟨vb, 0, none⟩) 1 1 ∧ W7.heap.size ≤ vb ∧ w5.heap[vb]? = some (.cells #[.int .i64 U, .int .i64 V, .int .i64 x, .int .i64 y, .int .i64 z, .int .i64 t] 62 (0, 0)))) (a.eval (.tmp 85)) ws := dep_of hdep 3 85 rfl (by kernel_rfl) rfl rfl
                rw [if_pos (show Region.wanted _ _ = true from rfl)]
                obtain ⟨vb, e3, hv1, hv2⟩ := d85
                have e1 : a.eval (.tmp 83) = .slice A2 out.length c2 := dep_of hdep 1 83 rfl (by kernel_rfl) rfl rfl
                refine run_applX encL (by decide) 22 62 _ 48 Tryz.underlying22 infoL rfl (by decide) ws (.tmp 83) (.tmp 85) rfl (O + 2) A2 c2 out e1 (hjj.own4 hfi) (some ⟨vb, 0, none⟩) 1 1 [(⟨U, V, x, y, z, t⟩ : Ls.Lk)] rfl e3 (RL_at1 hv2) (by omega) (by have := hle.1; have := HOS.out; omega) ?_
                intro A6 c6 w6 HO6 HB6 HG6
                exact hK _ _ (leR_1 HG6.out) (hjj.app4 hfi (by decide) HO6.out HB6.out HG6.out HQN.out) trivial
              · intro a ws f hle hjj hfi hun hdn hag hdep K Q hK
                have d10 : (a.tmps[10]?).getD undef = .slice A1 ch.length c1 := eval_get (hag 10 (freeB_spec (by kernel_rfl)))
                rw [if_pos (show Region.wanted _ _ = true from rfl)]
                unfold Oper.wp
                simp [go_sem, d10]
                exact hK _ _ (leR_refl _ _ _) (hjj.put (by decide) (by decide)) rfl
              · intro a ws f hle hjj hfi hun hdn hag hdep K Q hK
                have d11 : (a.tmps[11]?).getD undef = .pointer (some ⟨O + 1, 0, none⟩) := eval_get (hag 11 (freeB_spec (by kernel_rfl)))
                rw [if_pos (show Region.wanted _ _ = true from rfl)]
                have yy := Go.Joins.cell_of_block hjj.bN
                have y0 := yy 0; have y1 := yy 1; have y2 := yy 2; have y3 := yy 3; have y4 := yy 4; have y5 := yy 5
                simp only [List.getElem?_toArray, List.getElem?_cons_succ, List.getElem?_cons_zero] at y0 y1 y2 y3 y4 y5
                unfold Oper.wp
                simp [go_sem, d11, y0, y1, y2, y3, y4, y5]
                exact hK _ _ (leR_refl _ _ _) (hjj.put (by decide) (by decide)) rfl
              · intro a ws f hle hjj hfi hun hdn hag hdep K Q hK
                have d3 : (a.tmps[3]?).getD undef = .pointer (some ⟨G + 1, 0, none⟩) := eval_get (hag 3 (freeB_spec (by kernel_rfl)))
                rw [if_pos (show Region.wanted _ _ = true from rfl)]
                unfold Oper.wp
                simp [go_sem, d3]
                exact hK _ _ (leR_refl _ _ _) (hjj.put (by decide) (by decide)) rfl
              · intro a ws f hle hjj hfi hun hdn hag hdep K Q hK
                have d89 : (a.tmps[89]?).getD undef = .pointer (some ⟨G + 1, 1, none⟩) := eval_get (dep_of hdep 7 89 rfl (by kernel_rfl) rfl rfl)
                rw [if_pos (show Region.wanted _ _ = true from rfl)]
                have y1 := Go.Joins.cell_of_block ((hjj.bel.block (G + 1) (by omega)).trans M1.out) 1
                simp only [List.getElem?_toArray, List.getElem?_cons_succ, List.getElem?_cons_zero] at y1
                unfold Oper.wp
                simp [go_sem, d89, y1]
                exact hK _ _ (leR_refl _ _ _) (hjj.put (by decide) (by decide)) rfl
              · intro a ws f hle hjj hfi hun hdn hag hdep K Q hK
                have d88 : (a.tmps[88]?).getD undef = .agg #[.int .i64 U, .int .i64 V, .int .i64 x, .int .i64 y, .int .i64 z, .int .i64 t] := eval_get (dep_of hdep 6 88 rfl (by kernel_rfl) rfl rfl)
                have d90 : (a.tmps[90]?).getD undef = .int .i64 t := eval_get (dep_of hdep 8 90 rfl (by kernel_rfl) rfl rfl)
                rw [if_pos (show Region.wanted _ _ = true from rfl)]
                have hcon := rset_any U V x y z t t ws
                unfold Oper.wp
                simp [go_sem, d88, d90]
                refine hcon.mono ?_
                rintro e w9 ⟨rfl, hb9⟩
                exact hK _ _ (leR_below hb9) ((hjj.up hb9).put (by decide) (by decide)) rfl
              · intro a ws f hle hjj hfi hun hdn hag hdep K Q hK
                have d91 : (a.tmps[91]?).getD undef = .agg #[.int .i64 1, .int .i64 t, .int .i64 U, .int .i64 V, .int .i64 x, .int .i64 y, .int .i64 z] := eval_get (dep_of hdep 9 91 rfl (by kernel_rfl) rfl rfl)
                rw [if_pos (show Region.wanted _ _ = true from rfl)]
                have hsz := hle.1
                unfold Oper.wp
                simp [go_sem, d91]
                exact hK _ _ (leR_below (below_new _ _)) ((hjj.up (below_new _ _)).put (by decide) (by decide)) ⟨_, rfl, hsz, heap_alloc_new _ _⟩
              · intro a ws f hle hjj hfi hun hdn hag hdep K Q hK
                have d87 : (a.tmps[87]?).getD undef = .slice A1 ch.length c1 := eval_get (dep_of hdep 5 87 rfl (by kernel_rfl) rfl rfl)
                have d92 : (fun q0 w5 => (∃ vb, q0 = .slice (some ⟨vb, 0, none⟩) 1 1 ∧ W7.heap.size ≤ vb ∧ w5.heap[vb]? = some (.cells #[.int .i64 1, .int .i64 t, .int .i64 U, .int .i64 V, .int .i64 x, .int .i64 y, .int .i64 z] 57 (0, 0)))) (a.eval (.tmp 92)) ws := dep_of hdep 10 92 rfl (by kernel_rfl) rfl rfl
                rw [if_pos (show Region.wanted _ _ = true from rfl)]
                obtain ⟨vb, e3, hv1, hv2⟩ := d92
                have e1 : a.eval (.tmp 87) = .slice A1 ch.length c1 := dep_of hdep 5 87 rfl (by kernel_rfl) rfl rfl
                refine run_applX encE (by decide) 40 57 _ 56 Tryz.underlying40 infoV rfl (by decide) ws (.tmp 87) (.tmp 92) rfl (O + 2) A1 c1 ch e1 (hjj.own11 hfi) (some ⟨vb, 0, none⟩) 1 1 [(⟨1, t, U, V, x, y, z⟩ : Ev)] rfl e3 (RV_at1 hv2) (by omega) (by have := hle.1; have := HOS.out; omega) ?_
                intro A6 c6 w6 HO6 HB6 HG6
                exact hK _ _ (leR_2 HG6.out) (hjj.app11 hfi (by decide) HO6.out HB6.out HG6.out) trivial
              · intro a ws f hle hjj hfi hun hdn hag hdep K Q hK
                have d9 : (a.tmps[9]?).getD undef = .pointer (some ⟨O, 0, none⟩) := eval_get (hag 9 (freeB_spec (by kernel_rfl)))
                rw [if_pos (show Region.wanted _ _ = true from rfl)]
                unfold Oper.wp
                simp [go_sem, d9]
                exact hK _ _ (leR_refl _ _ _) (hjj.put (by decide) (by decide)) rfl
            · intro a ws f hle hjj hft hff hsz hdf hag hend
              have f82 : a.eval (.tmp 82) = .pointer (some ⟨O, 1, none⟩) := end_of hend 0 82 (by decide) rfl rfl rfl
              have f83 : a.eval (.tmp 83) = .slice A2 out.length c2 := end_of hend 1 83 (by decide) rfl rfl rfl
              have f84 : a.eval (.tmp 84) = .agg #[.int .i64 U, .int .i64 V, .int .i64 x, .int .i64 y, .int .i64 z, .int .i64 t] := end_of hend 2 84 (by decide) rfl rfl rfl
              have f87 : a.eval (.tmp 87) = .slice A1 ch.length c1 := end_of hend 5 87 (by decide) rfl rfl rfl
              have f88 : a.eval (.tmp 88) = .agg #[.int .i64 U, .int .i64 V, .int .i64 x, .int .i64 y, .int .i64 z, .int .i64 t] := end_of hend 6 88 (by decide) rfl rfl rfl
              have f89 : a.eval (.tmp 89) = .pointer (some ⟨G + 1, 1, none⟩) := end_of hend 7 89 (by decide) rfl rfl rfl
              have f90 : a.eval (.tmp 90) = .int .i64 t := end_of hend 8 90 (by decide) rfl rfl rfl
              have f91 : a.eval (.tmp 91) = .agg #[.int .i64 1, .int .i64 t, .int .i64 U, .int .i64 V, .int .i64 x, .int .i64 y, .int .i64 z] := end_of hend 9 91 (by decide) rfl rfl rfl
              have f94 : a.eval (.tmp 94) = .pointer (some ⟨O, 1, none⟩) := end_of hend 12 94 (by decide) rfl rfl rfl
              have ea := act_block 82 13 hsz hdf hag [82, 83, 84, 85, 86, 87, 88, 89, 90, 91, 92, 93, 94] (by kernel_rfl) (by kernel_rfl) (of_decide_eq_true (by kernel_rfl))
              obtain ⟨A8, c8, A9, c9, hT, e4, e11⟩ := hjj.fin (hft 4 (by decide)) (hft 11 (by decide))
              clear hag hend hsz hdf
              simp only [List.map_cons, List.map_nil, f82, f83, f84, f87, f88, f89, f90, f91, f94, e4, e11] at ea
              clear f82 f83 f84 f87 f88 f89 f90 f91 f94 e4 e11
              generalize a.eval (.tmp 85) = x85 at ea
              generalize a.eval (.tmp 92) = x92 at ea
              simp only [List.take_succ_cons, List.take_zero, List.drop_succ_cons, List.drop_zero, List.cons_append, List.nil_append] at ea
              subst ea
              obtain ⟨o3, Ho3⟩ : ∃ o, Hid (out ++ [(⟨U, V, x, y, z, t⟩ : Ls.Lk)] = o) := ⟨_, rfl⟩
              obtain ⟨ch3, Hc3⟩ : ∃ o, Hid (ch ++ [(⟨1, t, U, V, x, y, z⟩ : Ev)] = o) := ⟨_, rfl⟩
              rw [Ho3.out, Hc3.out] at hT
              rw [Ho3.out, Hc3.out]
              have HTr := Lib.hid hT
              clear hjj hft hff hle hT HJ0 HR1 HR2 HM3 HM10 HOS
              have p0 := Go.Joins.cell_of_block HTr.out.bO 0; have p1 := Go.Joins.cell_of_block HTr.out.bO 1; have pf := Go.Joins.unfrozen_of_block HTr.out.bO 1
              simp only [List.getElem?_toArray, List.getElem?_cons_succ, List.getElem?_cons_zero] at p0 p1
              have pl := lt_of_some HTr.out.bO
              clear HT7
              obtain ⟨W7', hW7'⟩ : ∃ k, Hid (ws.setCell ⟨O, 1, none⟩ (.slice A8 o3.length c8) = k) := ⟨_, rfl⟩
              have HT7 : Hid (TL w3 O Qb n ⟨U, V, x, y, z, t⟩ ⟨au, av, ax, ay, az, at'⟩ (.slice A8 o3.length c8) o3 A8 c8 ch3 A9 c9 W7') := by show TL _ _ _ _ _ _ _ _ _ _ _ _ _ _; rw [← hW7'.out]; exact HTr.out.store _
              simp only [List.drop_succ_cons, List.drop_zero]
              go_wp2_with fail
              rw [hW7'.out]
              clear p0 p1 pf pl HTr
              have ho3 : o3.length ≤ out.length + 1 := by rw [← Ho3.out]; simp
              have hc3 : ch3.length ≤ ch.length + 1 := by rw [← Hc3.out]; simp
              have n0 := Go.Joins.cell_of_block HT7.out.bN 0
              have n1 := Go.Joins.cell_of_block HT7.out.bN 1
              have n2 := Go.Joins.cell_of_block HT7.out.bN 2
              have n3 := Go.Joins.cell_of_block HT7.out.bN 3
              have n4 := Go.Joins.cell_of_block HT7.out.bN 4
              have n5 := Go.Joins.cell_of_block HT7.out.bN 5
              simp only [List.getElem?_toArray, List.getElem?_cons_succ, List.getElem?_cons_zero] at n0 n1 n2 n3 n4 n5
              have q0 := Go.Joins.cell_of_block HT7.out.bQ 0
              have q1 := Go.Joins.cell_of_block HT7.out.bQ 1
              have q2 := Go.Joins.cell_of_block HT7.out.bQ 2
              have q3 := Go.Joins.cell_of_block HT7.out.bQ 3
              have q4 := Go.Joins.cell_of_block HT7.out.bQ 4
              have q5 := Go.Joins.cell_of_block HT7.out.bQ 5
              simp only [List.getElem?_toArray, List.getElem?_cons_succ, List.getElem?_cons_zero] at q0 q1 q2 q3 q4 q5
              have nl := lt_of_some HT7.out.bN; have ql := lt_of_some HT7.out.bQ
              refine wp_region_over (by kernel_rfl) (by kernel_rfl) ?_
              repeat (go_big_quiet_step (first | (go_at_call 47; exact calls_over (redge_any _ _ _ _ _ _ _))))
              refine wpQuiet_nil ?_
              rintro _ ⟨zz, rfl⟩
              obtain ⟨W8, hW8⟩ : ∃ W8, Hid (over W7' zz = W8) := ⟨_, rfl⟩
              have HT8 : Hid (TL w3 O Qb n ⟨U, V, x, y, z, t⟩ ⟨au, av, ax, ay, az, at'⟩ (.slice A8 o3.length c8) o3 A8 c8 ch3 A9 c9 W8) := by show TL _ _ _ _ _ _ _ _ _ _ _ _ _ _; rw [← hW8.out]; exact HT7.out.up (over_below _ zz)
              rw [hW8.out]
              clear HT7   nl ql n0 n1 n2 n3 n4 n5 q0 q1 q2 q3 q4 q5
              have n0 := Go.Joins.cell_of_block HT8.out.bN 0
              have n1 := Go.Joins.cell_of_block HT8.out.bN 1
              have n2 := Go.Joins.cell_of_block HT8.out.bN 2
              have n3 := Go.Joins.cell_of_block HT8.out.bN 3
              have n4 := Go.Joins.cell_of_block HT8.out.bN 4
              have n5 := Go.Joins.cell_of_block HT8.out.bN 5
              simp only [List.getElem?_toArray, List.getElem?_cons_succ, List.getElem?_cons_zero] at n0 n1 n2 n3 n4 n5
              have q0 := Go.Joins.cell_of_block HT8.out.bQ 0
              have q1 := Go.Joins.cell_of_block HT8.out.bQ 1
              have q2 := Go.Joins.cell_of_block HT8.out.bQ 2
              have q3 := Go.Joins.cell_of_block HT8.out.bQ 3
              have q4 := Go.Joins.cell_of_block HT8.out.bQ 4
              have q5 := Go.Joins.cell_of_block HT8.out.bQ 5
              simp only [List.getElem?_toArray, List.getElem?_cons_succ, List.getElem?_cons_zero] at q0 q1 q2 q3 q4 q5
              have p0 := Go.Joins.cell_of_block HT8.out.bO 0; have p1 := Go.Joins.cell_of_block HT8.out.bO 1; have pf := Go.Joins.unfrozen_of_block HT8.out.bO 1
              simp only [List.getElem?_toArray, List.getElem?_cons_succ, List.getElem?_cons_zero] at p0 p1
              have nl := lt_of_some HT8.out.bN; have ql := lt_of_some HT8.out.bQ; have pl := lt_of_some HT8.out.bO
              have hev := Go.Joins.cell_of_block ((HT8.out.bel.block (G + 1) (by omega)).trans M1.out)
              have e0 := hev 0; have e1 := hev 1; have e2 := hev 2
              simp only [List.getElem?_toArray, List.getElem?_cons_succ, List.getElem?_cons_zero] at e0 e1 e2
              have el := Nat.lt_trans (show G + 1 < O by omega) (lt_of_some HT8.out.bO)
              clear hev
              go_wp2_with (at_builtin; (refine wpList_applL _ rfl (.tmp 101) (.tmp 103) (O + 2) A8 c8 rfl o3 (by simp [Act.eval]) (HT8.out.ownO.alloc _) (some ⟨W8.heap.size, 0, none⟩) 1 1 [⟨au, av, ax, ay, az, at'⟩] rfl (by simp [Act.eval]) (RL_new1 W8 ⟨au, av, ax, ay, az, at'⟩) (by omega) (by simp; omega) ?_; intro A6 c6 w6 HO6 HB6 HG6; have HT9 := Lib.hid (TL.appO (HT8.out.up (below_new _ _)) HO6.out HB6.out HG6.out); obtain ⟨o2, Ho2⟩ : ∃ o, Hid (o3 ++ [(⟨au, av, ax, ay, az, at'⟩ : Ls.Lk)] = o) := ⟨_, rfl⟩; rw [Ho2.out] at HT9 ⊢; have i1 := Go.Joins.cell_of_block HT9.out.bO 1; have jf := Go.Joins.unfrozen_of_block HT9.out.bO 1; simp only [List.getElem?_toArray, List.getElem?_cons_succ, List.getElem?_cons_zero] at i1; have il := lt_of_some HT9.out.bO))
              clear HO6 HB6 HG6 i1 jf il
              go_roundw
              case rel => exact ⟨j + 1, true, A6, c6, o2, A9, c9, ch3, hlt, by go_num, rfl, rfl, by rw [← Ho2.out, ← Ho3.out]; simp; omega, by rw [← Hc3.out]; simp; omega, by show _ = _; rw [HM.out, Ls.rem_now _ _ _ rfl HBT.out, HLK.out, ← Ho2.out, ← Ho3.out, ← Hc3.out]; simp [Ls.setE], HT9.out.store _⟩
              case measure => simp [RowKit.intOf]; omega
    · obtain rfl : j = l.length := by omega
      cases db with
      | true =>
        have HE : Hid (Ls.nextL l ⟨1, t, u, v, x, y, z⟩ = out ∧ Ls.chg l ⟨1, t, u, v, x, y, z⟩ = ch) := by
          have h9 := HM.out
          rw [List.drop_length] at h9
          simp only [Ls.rem, if_true, List.append_nil] at h9
          exact ⟨(Prod.mk.injEq _ _ _ _ ▸ h9).1, (Prod.mk.injEq _ _ _ _ ▸ h9).2⟩
        have p0 := Go.Joins.cell_of_block HT.out.bO 0; have p1 := Go.Joins.cell_of_block HT.out.bO 1
        simp only [List.getElem?_toArray, List.getElem?_cons_succ, List.getElem?_cons_zero] at p0 p1
        have n2 := (HT.out.bel.block (G + 2) (by omega)).trans M2.out
        have r0 := Go.Joins.cell_of_block n2 0; have r1 := Go.Joins.cell_of_block n2 1
        have f0 := Go.Joins.unfrozen_of_block n2 0; have f1 := Go.Joins.unfrozen_of_block n2 1
        simp only [List.getElem?_toArray, List.getElem?_cons_succ, List.getElem?_cons_zero] at r0 r1
        have M2' := Lib.hid n2
        have pl := lt_of_some HT.out.bO
        have rl := lt_of_some n2
        clear n2
        go_wp2
        have hblk := setCell_cells (setCell_cells M2'.out 0 (.int .i64 n)) 1 (.slice A2 out.length c2)
        have hbw : Below w.heap.size w wr := HB1.out.trans ((B3.out.trans (HT.out.bel.mono (by rw [← hO.out]; exact B3.out.size))).mono HB1.out.size)
        have hbel : Below w.heap.size w _ := (hbw.setCell (p := ⟨G + 2, 0, none⟩) (by show w.heap.size ≤ G + 2; rw [hG.out]; omega) (.int .i64 n)).setCell (p := ⟨G + 2, 1, none⟩) (by show w.heap.size ≤ G + 2; rw [hG.out]; omega) (.slice A2 out.length c2)
        have hk : ∀ (v : Value) (q : Nat) (xs : List Value) (T : TypeId) (sz : Nat), wr.ownsRow (O + 2) T sz v q xs → ((wr.setCell ⟨G + 2, 0, none⟩ (.int .i64 n)).setCell ⟨G + 2, 1, none⟩ (.slice A2 out.length c2)).ownsRow (O + 2) T sz v q xs := by
          intro v q xs T sz ho
          have h1 : v.ownBlock ≠ some (G + 2) := fun e => by have := (ho.lt _ e).1; omega
          exact (ho.kept set_grown (.inr h1)).kept set_grown (.inr h1)
        exact ret_state3 (p := 4) (q := 5) (r := 6) Tryz.results28 rfl (G + 2) rfl _ _ rfl rfl hblk ⟨n, out, ch, A2, A1, c2, c1, by rw [HAE.out]; rfl, by rw [HAE.out, if_pos rfl]; exact ⟨rfl, HE.out.1.symm, HE.out.2.symm⟩, RX.of_own (hk _ _ _ _ _ HT.out.ownO), RX.of_own (hk _ _ _ _ _ HT.out.ownC), hbel, TK.of_own (hk _ _ _ _ _ HT.out.ownO)⟩
      | false =>
        go_wp2_with fail
        have HQN : Hid ((Value.slice A2 out.length c2).ownBlock ≠ some (O + 1)) := HT.out.neN
        have HJ0 : Hid (∀ a : Act, a.tmps.size = 180 → JA w3 O (O + 1) n ⟨U, V, x, y, z, t⟩ ⟨U, V, x, y, z, t⟩ out A2 c2 ch A1 c1 ⟨1, t, U, V, x, y, z⟩ 169 176 (fun _ => false) a (wr.drewN 1)) := fun a ha => JA.start (HT.out.up (below_drewN _ _)) ha
        have HR1 : Hid (∀ q, (Value.slice A2 out.length c2).ownBlock = some q → q < wr.heap.size) := fun q e => (HT.out.ownO.lt _ e).2
        have HR2 : Hid (∀ q, (Value.slice A1 ch.length c1).ownBlock = some q → q < wr.heap.size) := fun q e => (HT.out.ownC.lt _ e).2
        have HM3 : Hid (∀ (q0 : Value) (w5 w6 : World), (∃ vb, q0 = .slice (some ⟨vb, 0, none⟩) 1 1 ∧ wr.heap.size ≤ vb ∧ w5.heap[vb]? = some (.cells #[.int .i64 U, .int .i64 V, .int .i64 x, .int .i64 y, .int .i64 z, .int .i64 t] 62 (0, 0))) → LeR (Value.slice A2 out.length c2).ownBlock (Value.slice A1 ch.length c1).ownBlock w5 w6 → (∃ vb, q0 = .slice (some ⟨vb, 0, none⟩) 1 1 ∧ wr.heap.size ≤ vb ∧ w6.heap[vb]? = some (.cells #[.int .i64 U, .int .i64 V, .int .i64 x, .int .i64 y, .int .i64 z, .int .i64 t] 62 (0, 0)))) := by
          rintro q0 w5 w6 ⟨vb, e, h1, h2⟩ hg
          exact ⟨vb, e, h1, (hg.2 vb (lt_of_some h2) (fun e => by have := HR1.out vb e.symm; omega) (fun e => by have := HR2.out vb e.symm; omega)).trans h2⟩
        have HM10 : Hid (∀ (q0 : Value) (w5 w6 : World), (∃ vb, q0 = .slice (some ⟨vb, 0, none⟩) 1 1 ∧ wr.heap.size ≤ vb ∧ w5.heap[vb]? = some (.cells #[.int .i64 1, .int .i64 t, .int .i64 U, .int .i64 V, .int .i64 x, .int .i64 y, .int .i64 z] 57 (0, 0))) → LeR (Value.slice A2 out.length c2).ownBlock (Value.slice A1 ch.length c1).ownBlock w5 w6 → (∃ vb, q0 = .slice (some ⟨vb, 0, none⟩) 1 1 ∧ wr.heap.size ≤ vb ∧ w6.heap[vb]? = some (.cells #[.int .i64 1, .int .i64 t, .int .i64 U, .int .i64 V, .int .i64 x, .int .i64 y, .int .i64 z] 57 (0, 0)))) := by
          rintro q0 w5 w6 ⟨vb, e, h1, h2⟩ hg
          exact ⟨vb, e, h1, (hg.2 vb (lt_of_some h2) (fun e => by have := HR1.out vb e.symm; omega) (fun e => by have := HR2.out vb e.symm; omega)).trans h2⟩
        have HOS : Hid (O + 2 ≤ wr.heap.size) := by show _ ≤ _; have := lt_of_some HT.out.bN; omega
        refine wp_region_ac 13 180 (LeR (Value.slice A2 out.length c2).ownBlock (Value.slice A1 ch.length c1).ownBlock) (fun f a wr => JA w3 O (O + 1) n ⟨U, V, x, y, z, t⟩ ⟨U, V, x, y, z, t⟩ out A2 c2 ch A1 c1 ⟨1, t, U, V, x, y, z⟩ 169 176 f a wr) [(fun q0 _ => q0 = .pointer (some ⟨O, 1, none⟩)), (fun q0 _ => q0 = .slice A2 out.length c2), (fun q0 _ => q0 = .agg #[.int .i64 U, .int .i64 V, .int .i64 x, .int .i64 y, .int .i64 z, .int .i64 t]), (fun q0 w5 => (∃ vb, q0 = .slice (some ⟨vb, 0, none⟩) 1 1 ∧ wr.heap.size ≤ vb ∧ w5.heap[vb]? = some (.cells #[.int .i64 U, .int .i64 V, .int .i64 x, .int .i64 y, .int .i64 z, .int .i64 t] 62 (0, 0)))), (fun _ _ => True), (fun q0 _ => q0 = .slice A1 ch.length c1), (fun q0 _ => q0 = .agg #[.int .i64 U, .int .i64 V, .int .i64 x, .int .i64 y, .int .i64 z, .int .i64 t]), (fun q0 _ => q0 = .pointer (some ⟨G + 1, 1, none⟩)), (fun q0 _ => q0 = .int .i64 t), (fun q0 _ => q0 = .agg #[.int .i64 1, .int .i64 t, .int .i64 U, .int .i64 V, .int .i64 x, .int .i64 y, .int .i64 z]), (fun q0 w5 => (∃ vb, q0 = .slice (some ⟨vb, 0, none⟩) 1 1 ∧ wr.heap.size ≤ vb ∧ w5.heap[vb]? = some (.cells #[.int .i64 1, .int .i64 t, .int .i64 U, .int .i64 V, .int .i64 x, .int .i64 y, .int .i64 z] 57 (0, 0)))), (fun _ _ => True), (fun q0 _ => q0 = .pointer (some ⟨O, 1, none⟩))] (by kernel_rfl) (by kernel_rfl) rfl (fun _ _ _ => leR_trans) (leR_below (below_drewN _ _)) (HJ0.out _ rfl) ?_ ?_ ?_
        · intro R hR
          simp only [List.mem_cons, List.not_mem_nil, or_false] at hR
          rcases hR with rfl | rfl | rfl | rfl | rfl | rfl | rfl | rfl | rfl | rfl | rfl | rfl | rfl <;> first | exact fun _ _ _ h _ => h | exact HM3.out | exact HM10.out
        · simp only [List.take_succ_cons, List.take_zero]
          refine ⟨?_, ?_, ?_, ?_, ?_, ?_, ?_, ?_, ?_, ?_, ?_, ?_, ?_, trivial⟩
          · intro a ws f hle hjj hfi hun hdn hag hdep K Q hK
            have d9 : (a.tmps[9]?).getD undef = .pointer (some ⟨O, 0, none⟩) := eval_get (hag 9 (freeB_spec (by kernel_rfl)))
            rw [if_pos (show Region.wanted _ _ = true from rfl)]
            unfold Oper.wp
            simp [go_sem, d9]
            exact hK _ _ (leR_refl _ _ _) (hjj.put (by decide) (by decide)) rfl
          · intro a ws f hle hjj hfi hun hdn hag hdep K Q hK
            have d165 : (a.tmps[165]?).getD undef = .pointer (some ⟨O, 1, none⟩) := eval_get (dep_of hdep 0 165 rfl (by kernel_rfl) rfl rfl)
            rw [if_pos (show Region.wanted _ _ = true from rfl)]
            have y1 := Go.Joins.cell_of_block hjj.bO 1
            simp only [List.getElem?_toArray, List.getElem?_cons_succ, List.getElem?_cons_zero] at y1
            unfold Oper.wp
            simp [go_sem, d165, y1]
            exact hK _ _ (leR_refl _ _ _) (hjj.put (by decide) (by decide)) rfl
          · intro a ws f hle hjj hfi hun hdn hag hdep K Q hK
            have d11 : (a.tmps[11]?).getD undef = .pointer (some ⟨O + 1, 0, none⟩) := eval_get (hag 11 (freeB_spec (by kernel_rfl)))
            rw [if_pos (show Region.wanted _ _ = true from rfl)]
            have yy := Go.Joins.cell_of_block hjj.bN
            have y0 := yy 0; have y1 := yy 1; have y2 := yy 2; have y3 := yy 3; have y4 := yy 4; have y5 := yy 5
            simp only [List.getElem?_toArray, List.getElem?_cons_succ, List.getElem?_cons_zero] at y0 y1 y2 y3 y4 y5
            unfold Oper.wp
            simp [go_sem, d11, y0, y1, y2, y3, y4, y5]
            exact hK _ _ (leR_refl _ _ _) (hjj.put (by decide) (by decide)) rfl
          · intro a ws f hle hjj hfi hun hdn hag hdep K Q hK
            have d167 : (a.tmps[167]?).getD undef = .agg #[.int .i64 U, .int .i64 V, .int .i64 x, .int .i64 y, .int .i64 z, .int .i64 t] := eval_get (dep_of hdep 2 167 rfl (by kernel_rfl) rfl rfl)
            rw [if_pos (show Region.wanted _ _ = true from rfl)]
            have hsz := hle.1
            unfold Oper.wp
            simp [go_sem, d167]
            exact hK _ _ (leR_below (below_new _ _)) ((hjj.up (below_new _ _)).put (by decide) (by decide)) ⟨_, rfl, hsz, heap_alloc_new _ _⟩
          · intro a ws f hle hjj hfi hun hdn hag hdep K Q hK
            have d166 : (a.tmps[166]?).getD undef = .slice A2 out.length c2 := eval_get (dep_of hdep 1 166 rfl (by kernel_rfl) rfl rfl)
            have d168 : (fun q0 w5 => (∃ vb, q0 = .slice (some ⟨vb, 0, none⟩) 1 1 ∧ wr.heap.size ≤ vb ∧ w5.heap[vb]? = some (.cells #[.int .i64 U, .int .i64 V, .int .i64 x, .int .i64 y, .int .i64 z, .int .i64 t] 62 (0, 0)))) (a.eval (.tmp 168)) ws := dep_of hdep 3 168 rfl (by kernel_rfl) rfl rfl
            rw [if_pos (show Region.wanted _ _ = true from rfl)]
            obtain ⟨vb, e3, hv1, hv2⟩ := d168
            have e1 : a.eval (.tmp 166) = .slice A2 out.length c2 := dep_of hdep 1 166 rfl (by kernel_rfl) rfl rfl
            refine run_applX encL (by decide) 22 62 _ 48 Tryz.underlying22 infoL rfl (by decide) ws (.tmp 166) (.tmp 168) rfl (O + 2) A2 c2 out e1 (hjj.own4 hfi) (some ⟨vb, 0, none⟩) 1 1 [(⟨U, V, x, y, z, t⟩ : Ls.Lk)] rfl e3 (RL_at1 hv2) (by omega) (by have := hle.1; have := HOS.out; omega) ?_
            intro A6 c6 w6 HO6 HB6 HG6
            exact hK _ _ (leR_1 HG6.out) (hjj.app4 hfi (by decide) HO6.out HB6.out HG6.out HQN.out) trivial
          · intro a ws f hle hjj hfi hun hdn hag hdep K Q hK
            have d10 : (a.tmps[10]?).getD undef = .slice A1 ch.length c1 := eval_get (hag 10 (freeB_spec (by kernel_rfl)))
            rw [if_pos (show Region.wanted _ _ = true from rfl)]
            unfold Oper.wp
            simp [go_sem, d10]
            exact hK _ _ (leR_refl _ _ _) (hjj.put (by decide) (by decide)) rfl
          · intro a ws f hle hjj hfi hun hdn hag hdep K Q hK
            have d11 : (a.tmps[11]?).getD undef = .pointer (some ⟨O + 1, 0, none⟩) := eval_get (hag 11 (freeB_spec (by kernel_rfl)))
            rw [if_pos (show Region.wanted _ _ = true from rfl)]
            have yy := Go.Joins.cell_of_block hjj.bN
            have y0 := yy 0; have y1 := yy 1; have y2 := yy 2; have y3 := yy 3; have y4 := yy 4; have y5 := yy 5
            simp only [List.getElem?_toArray, List.getElem?_cons_succ, List.getElem?_cons_zero] at y0 y1 y2 y3 y4 y5
            unfold Oper.wp
            simp [go_sem, d11, y0, y1, y2, y3, y4, y5]
            exact hK _ _ (leR_refl _ _ _) (hjj.put (by decide) (by decide)) rfl
          · intro a ws f hle hjj hfi hun hdn hag hdep K Q hK
            have d3 : (a.tmps[3]?).getD undef = .pointer (some ⟨G + 1, 0, none⟩) := eval_get (hag 3 (freeB_spec (by kernel_rfl)))
            rw [if_pos (show Region.wanted _ _ = true from rfl)]
            unfold Oper.wp
            simp [go_sem, d3]
            exact hK _ _ (leR_refl _ _ _) (hjj.put (by decide) (by decide)) rfl
          · intro a ws f hle hjj hfi hun hdn hag hdep K Q hK
            have d172 : (a.tmps[172]?).getD undef = .pointer (some ⟨G + 1, 1, none⟩) := eval_get (dep_of hdep 7 172 rfl (by kernel_rfl) rfl rfl)
            rw [if_pos (show Region.wanted _ _ = true from rfl)]
            have y1 := Go.Joins.cell_of_block ((hjj.bel.block (G + 1) (by omega)).trans M1.out) 1
            simp only [List.getElem?_toArray, List.getElem?_cons_succ, List.getElem?_cons_zero] at y1
            unfold Oper.wp
            simp [go_sem, d172, y1]
            exact hK _ _ (leR_refl _ _ _) (hjj.put (by decide) (by decide)) rfl
          · intro a ws f hle hjj hfi hun hdn hag hdep K Q hK
            have d171 : (a.tmps[171]?).getD undef = .agg #[.int .i64 U, .int .i64 V, .int .i64 x, .int .i64 y, .int .i64 z, .int .i64 t] := eval_get (dep_of hdep 6 171 rfl (by kernel_rfl) rfl rfl)
            have d173 : (a.tmps[173]?).getD undef = .int .i64 t := eval_get (dep_of hdep 8 173 rfl (by kernel_rfl) rfl rfl)
            rw [if_pos (show Region.wanted _ _ = true from rfl)]
            have hcon := rset_any U V x y z t t ws
            unfold Oper.wp
            simp [go_sem, d171, d173]
            refine hcon.mono ?_
            rintro e w9 ⟨rfl, hb9⟩
            exact hK _ _ (leR_below hb9) ((hjj.up hb9).put (by decide) (by decide)) rfl
          · intro a ws f hle hjj hfi hun hdn hag hdep K Q hK
            have d174 : (a.tmps[174]?).getD undef = .agg #[.int .i64 1, .int .i64 t, .int .i64 U, .int .i64 V, .int .i64 x, .int .i64 y, .int .i64 z] := eval_get (dep_of hdep 9 174 rfl (by kernel_rfl) rfl rfl)
            rw [if_pos (show Region.wanted _ _ = true from rfl)]
            have hsz := hle.1
            unfold Oper.wp
            simp [go_sem, d174]
            exact hK _ _ (leR_below (below_new _ _)) ((hjj.up (below_new _ _)).put (by decide) (by decide)) ⟨_, rfl, hsz, heap_alloc_new _ _⟩
          · intro a ws f hle hjj hfi hun hdn hag hdep K Q hK
            have d170 : (a.tmps[170]?).getD undef = .slice A1 ch.length c1 := eval_get (dep_of hdep 5 170 rfl (by kernel_rfl) rfl rfl)
            have d175 : (fun q0 w5 => (∃ vb, q0 = .slice (some ⟨vb, 0, none⟩) 1 1 ∧ wr.heap.size ≤ vb ∧ w5.heap[vb]? = some (.cells #[.int .i64 1, .int .i64 t, .int .i64 U, .int .i64 V, .int .i64 x, .int .i64 y, .int .i64 z] 57 (0, 0)))) (a.eval (.tmp 175)) ws := dep_of hdep 10 175 rfl (by kernel_rfl) rfl rfl
            rw [if_pos (show Region.wanted _ _ = true from rfl)]
            obtain ⟨vb, e3, hv1, hv2⟩ := d175
            have e1 : a.eval (.tmp 170) = .slice A1 ch.length c1 := dep_of hdep 5 170 rfl (by kernel_rfl) rfl rfl
            refine run_applX encE (by decide) 40 57 _ 56 Tryz.underlying40 infoV rfl (by decide) ws (.tmp 170) (.tmp 175) rfl (O + 2) A1 c1 ch e1 (hjj.own11 hfi) (some ⟨vb, 0, none⟩) 1 1 [(⟨1, t, U, V, x, y, z⟩ : Ev)] rfl e3 (RV_at1 hv2) (by omega) (by have := hle.1; have := HOS.out; omega) ?_
            intro A6 c6 w6 HO6 HB6 HG6
            exact hK _ _ (leR_2 HG6.out) (hjj.app11 hfi (by decide) HO6.out HB6.out HG6.out) trivial
          · intro a ws f hle hjj hfi hun hdn hag hdep K Q hK
            have d9 : (a.tmps[9]?).getD undef = .pointer (some ⟨O, 0, none⟩) := eval_get (hag 9 (freeB_spec (by kernel_rfl)))
            rw [if_pos (show Region.wanted _ _ = true from rfl)]
            unfold Oper.wp
            simp [go_sem, d9]
            exact hK _ _ (leR_refl _ _ _) (hjj.put (by decide) (by decide)) rfl
        · intro a ws f hle hjj hft hff hsz hdf hag hend
          have f165 : a.eval (.tmp 165) = .pointer (some ⟨O, 1, none⟩) := end_of hend 0 165 (by decide) rfl rfl rfl
          have f166 : a.eval (.tmp 166) = .slice A2 out.length c2 := end_of hend 1 166 (by decide) rfl rfl rfl
          have f167 : a.eval (.tmp 167) = .agg #[.int .i64 U, .int .i64 V, .int .i64 x, .int .i64 y, .int .i64 z, .int .i64 t] := end_of hend 2 167 (by decide) rfl rfl rfl
          have f170 : a.eval (.tmp 170) = .slice A1 ch.length c1 := end_of hend 5 170 (by decide) rfl rfl rfl
          have f171 : a.eval (.tmp 171) = .agg #[.int .i64 U, .int .i64 V, .int .i64 x, .int .i64 y, .int .i64 z, .int .i64 t] := end_of hend 6 171 (by decide) rfl rfl rfl
          have f172 : a.eval (.tmp 172) = .pointer (some ⟨G + 1, 1, none⟩) := end_of hend 7 172 (by decide) rfl rfl rfl
          have f173 : a.eval (.tmp 173) = .int .i64 t := end_of hend 8 173 (by decide) rfl rfl rfl
          have f174 : a.eval (.tmp 174) = .agg #[.int .i64 1, .int .i64 t, .int .i64 U, .int .i64 V, .int .i64 x, .int .i64 y, .int .i64 z] := end_of hend 9 174 (by decide) rfl rfl rfl
          have f177 : a.eval (.tmp 177) = .pointer (some ⟨O, 1, none⟩) := end_of hend 12 177 (by decide) rfl rfl rfl
          have ea := act_block 165 13 hsz hdf hag [165, 166, 167, 168, 169, 170, 171, 172, 173, 174, 175, 176, 177] (by kernel_rfl) (by kernel_rfl) (of_decide_eq_true (by kernel_rfl))
          obtain ⟨A8, c8, A9, c9, hT, e4, e11⟩ := hjj.fin (hft 4 (by decide)) (hft 11 (by decide))
          clear hag hend hsz hdf
          simp only [List.map_cons, List.map_nil, f165, f166, f167, f170, f171, f172, f173, f174, f177, e4, e11] at ea
          clear f165 f166 f167 f170 f171 f172 f173 f174 f177 e4 e11
          generalize a.eval (.tmp 168) = x168 at ea
          generalize a.eval (.tmp 175) = x175 at ea
          simp only [List.take_succ_cons, List.take_zero, List.drop_succ_cons, List.drop_zero, List.cons_append, List.nil_append] at ea
          subst ea
          obtain ⟨o3, Ho3⟩ : ∃ o, Hid (out ++ [(⟨U, V, x, y, z, t⟩ : Ls.Lk)] = o) := ⟨_, rfl⟩
          obtain ⟨ch3, Hc3⟩ : ∃ o, Hid (ch ++ [(⟨1, t, U, V, x, y, z⟩ : Ev)] = o) := ⟨_, rfl⟩
          rw [Ho3.out, Hc3.out] at hT
          rw [Ho3.out, Hc3.out]
          have HTr := Lib.hid hT
          clear hjj hft hff hle hT HJ0 HR1 HR2 HM3 HM10 HOS
          have HE : Hid (Ls.nextL l ⟨1, t, u, v, x, y, z⟩ = o3 ∧ Ls.chg l ⟨1, t, u, v, x, y, z⟩ = ch3) := by
            have h9 := HM.out
            rw [List.drop_length] at h9
            rw [show Ls.rem ⟨1, t, u, v, x, y, z⟩ false [] = ([Ls.lk ⟨1, t, u, v, x, y, z⟩], [Ls.setE (Ls.lk ⟨1, t, u, v, x, y, z⟩) t]) from rfl, HLK.out] at h9
            rw [← Ho3.out, ← Hc3.out]
            exact ⟨congrArg Prod.fst h9, congrArg Prod.snd h9⟩
          have p0 := Go.Joins.cell_of_block HTr.out.bO 0; have p1 := Go.Joins.cell_of_block HTr.out.bO 1
          simp only [List.getElem?_toArray, List.getElem?_cons_succ, List.getElem?_cons_zero] at p0 p1
          have pf := Go.Joins.unfrozen_of_block HTr.out.bO 1
          have HTS := Lib.hid (HTr.out.store (.slice A8 o3.length c8))
          have n2 := (HTr.out.bel.block (G + 2) (by omega)).trans M2.out
          have r0 := Go.Joins.cell_of_block n2 0; have r1 := Go.Joins.cell_of_block n2 1
          have f0 := Go.Joins.unfrozen_of_block n2 0; have f1 := Go.Joins.unfrozen_of_block n2 1
          simp only [List.getElem?_toArray, List.getElem?_cons_succ, List.getElem?_cons_zero] at r0 r1
          have M2' := Lib.hid ((HTS.out.bel.block (G + 2) (by omega)).trans M2.out)
          simp only [List.drop_succ_cons, List.drop_zero]
          have pl := lt_of_some HTr.out.bO
          have rl := lt_of_some n2
          clear n2
          go_wp2
          have hblk := setCell_cells (setCell_cells M2'.out 0 (.int .i64 n)) 1 (.slice A8 o3.length c8)
          have hbw : Below w.heap.size w (ws.setCell ⟨O, 1, none⟩ (.slice A8 o3.length c8)) := HB1.out.trans ((B3.out.trans (HTS.out.bel.mono (by rw [← hO.out]; exact B3.out.size))).mono HB1.out.size)
          have hbel : Below w.heap.size w _ := (hbw.setCell (p := ⟨G + 2, 0, none⟩) (by show w.heap.size ≤ G + 2; rw [hG.out]; omega) (.int .i64 n)).setCell (p := ⟨G + 2, 1, none⟩) (by show w.heap.size ≤ G + 2; rw [hG.out]; omega) (.slice A8 o3.length c8)
          have hk : ∀ (v : Value) (q : Nat) (xs : List Value) (T : TypeId) (sz : Nat), (ws.setCell ⟨O, 1, none⟩ (.slice A8 o3.length c8)).ownsRow (O + 2) T sz v q xs → (((ws.setCell ⟨O, 1, none⟩ (.slice A8 o3.length c8)).setCell ⟨G + 2, 0, none⟩ (.int .i64 n)).setCell ⟨G + 2, 1, none⟩ (.slice A8 o3.length c8)).ownsRow (O + 2) T sz v q xs := by
            intro v q xs T sz ho
            have h1 : v.ownBlock ≠ some (G + 2) := fun e => by have := (ho.lt _ e).1; omega
            exact (ho.kept set_grown (.inr h1)).kept set_grown (.inr h1)
          exact ret_state3 (p := 4) (q := 5) (r := 6) Tryz.results28 rfl (G + 2) rfl _ _ rfl rfl hblk ⟨n, o3, ch3, A8, A9, c8, c9, by rw [HAE.out]; rfl, by rw [HAE.out, if_pos rfl]; exact ⟨rfl, HE.out.1.symm, HE.out.2.symm⟩, RX.of_own (hk _ _ _ _ _ HTS.out.ownO), RX.of_own (hk _ _ _ _ _ HTS.out.ownC), hbel, TK.of_own (hk _ _ _ _ _ HTS.out.ownO)⟩
end Go.Proofs.YtfapfkaipdcflaaGreat.K
