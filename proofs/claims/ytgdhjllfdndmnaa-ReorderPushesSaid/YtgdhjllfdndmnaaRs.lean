/-
  The reference's Valid, Open, copied and Same.
-/
import Derived.Test.YtgdhjllfdndmnaaRn
namespace Go.Proofs.Ytgdhjllfdndmnaa
open Go.RowKit Go.Lib

set_option maxHeartbeats 4000000 in
theorem rvalid_any (n L M : Int) (A : Option Addr) (c : Nat) (l : List Ev) (w : World) (h : RV w.heap.size w A c l) (hl : l.length ≤ 65536) :
    Calls Try.prog 20 #[.agg #[.int .i64 n, .int .i64 L, .int .i64 M, .slice A l.length c]] w fun e w' => e = .returned (.bool (decide (Rd.V ⟨n, L, M, l⟩))) ∧ Below w.heap.size w w' := by
  have HV := Lib.hid (valid_eq ⟨n, L, M, l⟩)
  obtain ⟨R, HR⟩ : ∃ R, Hid (decide (Rd.V ⟨n, L, M, l⟩) = R) := ⟨_, rfl⟩
  rw [HR.out] at HV ⊢
  have HN : Hid (R = (numB ⟨n, L, M, l⟩ && decide (l.length ≤ 4096) && evF L (M + 1) l)) := HV.out
  clear HV HR
  have H := Lib.hid h
  clear h
  obtain ⟨g, HG⟩ : ∃ g, Hid (g = w.heap.size) := ⟨_, rfl⟩
  obtain ⟨W1, HW1⟩ : ∃ W1, Hid (W1 = w.alloc (.cells #[.int .i64 n, .int .i64 L, .int .i64 M, .slice A l.length c] 24)) := ⟨_, rfl⟩
  have HBL : Hid (W1.heap[g]? = some (.cells #[.int .i64 n, .int .i64 L, .int .i64 M, .slice A l.length c] 24)) := by show _ = _; rw [HW1.out, HG.out]; exact heap_alloc_new _ _
  have HGL : Hid (g < W1.heap.size) := by show _ < _; rw [HW1.out, HG.out]; simp
  have HB1 : Hid (Below w.heap.size w W1) := by show Below _ _ _; rw [HW1.out]; exact below_new _ _
  have HRE : Hid (RV W1.heap.size W1 A c l) := H.out.up HB1.out
  by_cases hnb : (0 ≤ n ∧ n ≤ 1048576) ∧ (-1 ≤ M ∧ M ≤ L ∧ L ≤ 1048576) ∧ l.length ≤ 4096
  · obtain ⟨⟨i1, i2⟩, ⟨i3, i4, i5⟩, i6⟩ := hnb
    have q1 : decide (n < 0) = false := by rw [decide_eq_false_iff_not]; omega
    have q2 : decide (n > 1048576) = false := by rw [decide_eq_false_iff_not]; omega
    have q3 : decide (M < -1) = false := by rw [decide_eq_false_iff_not]; omega
    have q4 : decide (M > L) = false := by rw [decide_eq_false_iff_not]; omega
    have q5 : decide (L > 1048576) = false := by rw [decide_eq_false_iff_not]; omega
    have q6 : decide ((l.length : Int) > 4096) = false := by rw [decide_eq_false_iff_not]; omega
    replace HN : Hid (R = evF L (M + 1) l) := by
      show _ = _
      rw [HN.out, decide_eq_true i6]
      simp [numB, i1, i2, i3, i4, i5]
    clear i1 i2 i3 i4 i5 i6
    go_enter Try.func20, Try.ntmps20
    go_wp2
    rw [← HW1.out, ← HG.out]
    clear HW1 HG H q1 q2 q3 q4 q5 q6
    go_loopw [39] (fun i wr => ∃ (k : Nat) (ls : Int), i = .int .i64 k ∧ k ≤ l.length ∧ Hid (evF L ls (l.drop k) = R ∧ M + 1 ≤ ls ∧ ((k = 0 ∧ ls = M + 1) ∨ ∃ m a, k = m + 1 ∧ l[m]? = some a ∧ a.time = ls)) ∧ Hid (Below W1.heap.size W1 wr)) (fun i _ => l.length - (RowKit.intOf i).toNat)
    case atStart => exact ⟨0, M + 1, rfl, Nat.zero_le _, ⟨HN.out.symm, Int.le_refl _, .inl ⟨rfl, rfl⟩⟩, Below.refl _ _⟩
    case round =>
      clear HN
      obtain ⟨k, ls, rfl, hk, HE, HB⟩ := hrel
      have HRr := Lib.hid (HRE.out.up HB.out)
      by_cases hlt : k < l.length
      · obtain ⟨b, off, ⟨k1, t1, u1, v1, x1, y1, z1⟩, rfl, hb, ha, c0, c1, c2, c3, c4, c5, c6⟩ := RV.at_ HRr.out hlt
        dsimp only at c0 c1 c2 c3 c4 c5 c6
        have HE2 : Hid ((decide (chkE ⟨k1, t1, u1, v1, x1, y1, z1⟩ = 0) && decide (ls ≤ t1) && decide (t1 ≤ L) && evF L t1 (l.drop (k + 1))) = R) := by
          show _ = _
          rw [← HE.out.1, List.drop_eq_getElem_cons hlt, (List.getElem?_eq_some_iff.1 ha).2]
          rfl
        have HA := Lib.hid ha
        obtain ⟨K2, HK2⟩ : ∃ K2, Hid (wr.heap.size = K2) := ⟨_, rfl⟩
        obtain ⟨W2, HW2⟩ : ∃ W2, Hid (wr.alloc (.cells #[.int .i64 k1, .int .i64 t1, .int .i64 u1, .int .i64 v1, .int .i64 x1, .int .i64 y1, .int .i64 z1] 26) = W2) := ⟨_, rfl⟩
        have HB2 : Hid (Below wr.heap.size wr W2) := by show Below _ _ _; rw [← HW2.out]; exact below_new _ _
        have hK2 : Hid (W2.heap[K2]? = some (.cells #[.int .i64 k1, .int .i64 t1, .int .i64 u1, .int .i64 v1, .int .i64 x1, .int .i64 y1, .int .i64 z1] 26 (0, 0))) := by show _ = _; rw [← HW2.out, ← HK2.out]; exact heap_alloc_new _ _
        have HBx : Hid (Below W1.heap.size W1 W2) := HB.out.trans (HB2.out.mono HB.out.size)
        have C := Lib.hid (fun w => rcheck_anyE k1 t1 u1 v1 x1 y1 z1 w)
        obtain ⟨X, HX⟩ : ∃ X, Hid (chkE ⟨k1, t1, u1, v1, x1, y1, z1⟩ = X) := ⟨_, rfl⟩
        rw [HX.out] at HE2
        simp only [HX.out] at C
        clear ha HX
        go_wp2_with fail
        rw [HW2.out]
        simp only [HK2.out]
        clear c0 c1 c2 c3 c4 c5 c6 hb
        have hK2l := lt_of_some hK2.out
        have hgl : g < W2.heap.size := Nat.lt_of_lt_of_le HGL.out HBx.out.size
        have eC := Go.Joins.cell_of_block hK2.out
        have e0 := eC 0; have e1 := eC 1; have e2 := eC 2; have e3 := eC 3; have e4 := eC 4; have e5 := eC 5; have e6 := eC 6
        have gC := Go.Joins.cell_of_block ((HBx.out.block g HGL.out).trans HBL.out)
        have g1 := gC 1; have g2 := gC 2; have g3 := gC 3
        simp only [List.getElem?_toArray, List.getElem?_cons_succ, List.getElem?_cons_zero] at e0 e1 e2 e3 e4 e5 e6 g1 g2 g3
        clear eC gC
        by_cases hX : X = 0
        · subst hX
          by_cases hM : t1 ≤ M
          · have d1 : decide (t1 ≤ M) = true := by simpa using hM
            have hR : Hid (false = R) := by show _ = _; rw [← HE2.out]; have := HE.out.2.1; simp; omega
            clear hM HE
            refine wp_region_over (by kernel_rfl) (by kernel_rfl) ?_
            repeat (go_big_quiet_step (first | (go_at_call 32; exact calls_over (C.out _))))
            refine wpQuiet_nil ?_
            rintro _ ⟨zz, rfl⟩
            have hbx := Lib.hid (over_below _ zz)
            clear e0 e1 e2 e3 e4 e5 e6 g1 g2 g3
            go_wp2
            go_ret
            exact ⟨ret_bool hR.out, HB1.out.trans ((HBx.out.trans (hbx.out.mono HBx.out.size)).mono HB1.out.size)⟩
          · have d1 : decide (t1 ≤ M) = false := by simpa using hM
            by_cases hL : t1 > L
            · have d2 : decide (t1 > L) = true := by simpa using hL
              have hR : Hid (false = R) := by show _ = _; rw [← HE2.out]; simp; omega
              clear hM hL HE
              refine wp_region_over (by kernel_rfl) (by kernel_rfl) ?_
              repeat (go_big_quiet_step (first | (go_at_call 32; exact calls_over (C.out _))))
              refine wpQuiet_nil ?_
              rintro _ ⟨zz, rfl⟩
              have hbx := Lib.hid (over_below _ zz)
              clear e0 e1 e2 e3 e4 e5 e6 g1 g2 g3
              go_wp2
              go_ret
              exact ⟨ret_bool hR.out, HB1.out.trans ((HBx.out.trans (hbx.out.mono HBx.out.size)).mono HB1.out.size)⟩
            · have d2 : decide (t1 > L) = false := by simpa using hL
              have HE9 := HE.out
              obtain ⟨-, hls, hprev⟩ := HE9
              rcases hprev with ⟨hk0, hls0⟩ | ⟨m, a, hkm, ham, hat⟩
              · subst hk0
                have d3 : decide (((0 : Nat) : Int) > 0) = false := by simp
                have HE3 : Hid (evF L t1 (l.drop (0 + 1)) = R) := by
                  show _ = _
                  rw [← HE2.out, decide_eq_true (show ls ≤ t1 by omega), decide_eq_true (show t1 ≤ L by omega)]
                  simp
                have HT : Hid (M + 1 ≤ t1) := by show _ ≤ _; omega
                clear hM hL HE HE2 hls hls0
                refine wp_region_over (by kernel_rfl) (by kernel_rfl) ?_
                repeat (go_big_quiet_step (first | (go_at_call 32; exact calls_over (C.out _))))
                refine wpQuiet_nil ?_
                rintro _ ⟨zz, rfl⟩
                have hbx := Lib.hid (over_below _ zz)
                clear e0 e1 e2 e3 e4 e5 e6 g1 g2 g3
                go_wp2
                go_roundw
                case rel => exact ⟨1, t1, by go_num, by omega, ⟨HE3.out, HT.out, .inr ⟨0, _, rfl, HA.out, rfl⟩⟩, HBx.out.trans (hbx.out.mono HBx.out.size)⟩
                case measure => simp [RowKit.intOf]; try omega
              · subst hkm
                obtain ⟨b9, o9, ⟨k9, t9, u9, v9, x9, y9, z9⟩, e9, hb9, ha9, p0, p1, p2, p3, p4, p5, p6⟩ := RV.at_ (k := m) (HRE.out.up HBx.out) (by omega)
                injection e9 with e9
                injection e9 with h1 h2
                subst h1; subst h2
                rw [ham] at ha9
                injection ha9 with ha9
                subst ha9
                dsimp only at hat p0 p1 p2 p3 p4 p5 p6
                have d3 : decide (((m + 1 : Nat) : Int) > 0) = true := by rw [decide_eq_true_eq]; omega
                have f1 : IntKind.i64.wrap (((m + 1 : Nat) : Int) - 1) = (m : Int) := by rw [IntWalk.i64_in _ (by omega)]; omega
                by_cases ht : t9 > t1
                · have d4 : decide (t9 > t1) = true := by simpa using ht
                  have hR : Hid (false = R) := by show _ = _; rw [← HE2.out]; simp; omega
                  clear hM hL HE ht ham p0 p2 p3 p4 p5 p6 hls hat HE2
                  refine wp_region_over (by kernel_rfl) (by kernel_rfl) ?_
                  repeat (go_big_quiet_step (first | (go_at_call 32; exact calls_over (C.out _))))
                  refine wpQuiet_nil ?_
                  rintro _ ⟨zz, rfl⟩
                  have hbx := Lib.hid (over_below _ zz)
                  clear e0 e1 e2 e3 e4 e5 e6 g1 g2 g3 p1
                  go_wp2
                  go_ret
                  exact ⟨ret_bool hR.out, HB1.out.trans ((HBx.out.trans (hbx.out.mono HBx.out.size)).mono HB1.out.size)⟩
                · have d4 : decide (t9 > t1) = false := by simpa using ht
                  have HE3 : Hid (evF L t1 (l.drop (m + 1 + 1)) = R) := by
                    show _ = _
                    rw [← HE2.out, decide_eq_true (show ls ≤ t1 by omega), decide_eq_true (show t1 ≤ L by omega)]
                    simp
                  have HT : Hid (M + 1 ≤ t1) := by show _ ≤ _; omega
                  clear hM hL HE ht ham p0 p2 p3 p4 p5 p6 hls hat HE2
                  refine wp_region_over (by kernel_rfl) (by kernel_rfl) ?_
                  repeat (go_big_quiet_step (first | (go_at_call 32; exact calls_over (C.out _))))
                  refine wpQuiet_nil ?_
                  rintro _ ⟨zz, rfl⟩
                  have hbx := Lib.hid (over_below _ zz)
                  clear e0 e1 e2 e3 e4 e5 e6 g1 g2 g3 p1 f1 d3 d4
                  go_wp2
                  go_roundw
                  case rel => exact ⟨m + 1 + 1, t1, by go_num, by omega, ⟨HE3.out, HT.out, .inr ⟨m + 1, _, rfl, HA.out, rfl⟩⟩, HBx.out.trans (hbx.out.mono HBx.out.size)⟩
                  case measure => simp [RowKit.intOf]; try omega
        · have d0 : (X != 0) = true := by simpa using hX
          have hR : Hid (false = R) := by show _ = _; rw [← HE2.out]; simp [hX]
          clear hX HE HE2
          refine wp_region_over (by kernel_rfl) (by kernel_rfl) ?_
          repeat (go_big_quiet_step (first | (go_at_call 32; exact calls_over (C.out _))))
          refine wpQuiet_nil ?_
          rintro _ ⟨zz, rfl⟩
          have hbx := Lib.hid (over_below _ zz)
          clear e0 e1 e2 e3 e4 e5 e6 g1 g2 g3
          go_wp2
          go_ret
          exact ⟨ret_bool hR.out, HB1.out.trans ((HBx.out.trans (hbx.out.mono HBx.out.size)).mono HB1.out.size)⟩
      · obtain rfl : k = l.length := by omega
        have hR : Hid (true = R) := by show _ = _; rw [← HE.out.1, List.drop_length]; rfl
        go_wp2
        go_ret
        exact ⟨ret_bool hR.out, HB1.out.trans (HB.out.mono HB1.out.size)⟩
  · have hR : Hid (R = false) := by
      show _ = _
      rw [HN.out]
      have h9 : ¬ (numB ⟨n, L, M, l⟩ = true ∧ l.length ≤ 4096) := by
        rintro ⟨h1, h2⟩
        simp [numB] at h1
        exact hnb ⟨⟨h1.1.1.1.1, h1.1.1.1.2⟩, ⟨h1.1.1.2, h1.1.2, h1.2⟩, h2⟩
      cases h5 : numB ⟨n, L, M, l⟩ with
      | false => simp
      | true =>
        rw [h5] at h9
        simp at h9
        simp; omega
    clear HN HBL HGL HRE H
    obtain rfl := hR.out
    clear hR
    have hb := Lib.hid (below_new w (.cells #[.int .i64 n, .int .i64 L, .int .i64 M, .slice A l.length c] 24))
    clear HB1 HW1 HG
    go_enter Try.func20, Try.ntmps20
    go_wp2
    all_goals first
      | (exfalso; omega)
      | (go_ret; exact ⟨rfl, hb.out⟩)
end Go.Proofs.Ytgdhjllfdndmnaa
