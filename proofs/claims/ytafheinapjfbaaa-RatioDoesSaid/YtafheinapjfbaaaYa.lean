/- Walks of the reference's Mul. -/
import Derived.Test.YtafheinapjfbaaaXi
import Derived.Test.YtafheinapjfbaaaFm
namespace Go.Proofs.Ytafheinapjfbaaa
open Go.RowKit Go.Lib Go.BigFrame
theorem sgn_zero (s : Bool) : sgn s 0 = 0 := by unfold sgn; cases s <;> rfl
theorem red_of_sgn (s : Bool) (p D : Nat) (N : Int) (h : sgn s p = N) :
    nrN (sgn s (quoN p D)) (quoD p D) = redN N D ∧ nrD (sgn s (quoN p D)) (quoD p D) = redD N D ∧ nrE (sgn s (quoN p D)) (quoD p D) = redE N D := by
  have hp : N.natAbs = p := by rw [← h]; unfold sgn; split <;> omega
  have e : sgn s (quoN p D) = sgn (decide (N < 0)) (quoN p D) := by
    by_cases h0 : p = 0
    · have hq : quoN p D = 0 := by rw [h0]; unfold quoN; simp
      rw [hq, sgn_zero, sgn_zero]
    · have : s = decide (N < 0) := by
        cases s
        · have : ¬ N < 0 := by rw [← h]; unfold sgn; simp
          rw [decide_eq_false this]
        · have : N < 0 := by rw [← h]; unfold sgn; simp; omega
          rw [decide_eq_true this]
      rw [← this]
  unfold redN redD redE
  rw [hp, e]
  exact ⟨rfl, rfl, rfl⟩
set_option maxHeartbeats 1000000 in
theorem rMul_any (n1 d1 n2 d2 : Int) (w : World) (hn1 : -9223372036854775808 ≤ n1) (hn1' : n1 < 9223372036854775808) (hd1 : -9223372036854775808 ≤ d1) (hd1' : d1 < 9223372036854775808)
    (hn2 : -9223372036854775808 ≤ n2) (hn2' : n2 < 9223372036854775808) (hd2 : -9223372036854775808 ≤ d2) (hd2' : d2 < 9223372036854775808) :
    Calls Try.prog 18 #[.agg #[.int .i64 n1, .int .i64 d1], .agg #[.int .i64 n2, .int .i64 d2]] w fun e w' =>
      e = .returned (.tuple #[.agg #[.int .i64 (mulN n1 d1 n2 d2), .int .i64 (mulD n1 d1 n2 d2)], .int .i64 (mulE n1 d1 n2 d2)]) ∧ Below w.heap.size w w' := by
  have cx := fun w => rvalid_any n1 d1 w hn1 hn1' hd1 hd1'
  have cy := fun w => rvalid_any n2 d2 w hn2 hn2' hd2 hd2'
  by_cases hx : Vld n1 d1
  · rw [vldB_true hx] at cx
    by_cases hy : Vld n2 d2
    · rw [vldB_true hy] at cy
      have hxy : Vld n1 d1 ∧ Vld n2 d2 := ⟨hx, hy⟩
      unfold mulN mulD mulE
      rw [if_pos hxy, if_pos hxy, if_pos hxy]
      have b1 := vld_bd hx; have b2 := vld_bd hy
      obtain ⟨k1, rfl, p1⟩ := nat_of_vld hx
      obtain ⟨k2, rfl, p2⟩ := nat_of_vld hy
      have hN : n1.natAbs * n2.natAbs ≤ 1152921504606846976 * 1152921504606846976 := Nat.mul_le_mul b1.1 b2.1
      have hD : k1 * k2 ≤ 1152921504606846976 * 1152921504606846976 := Nat.mul_le_mul (by omega) (by omega)
      have c32 := fun w => reduce_any (sg n1 n2) (n1.natAbs * n2.natAbs) (k1 * k2) w (by omega) (by omega) (Nat.mul_pos p1 p2)
      obtain ⟨f1, f2, f3⟩ := red_of_sgn (sg n1 n2) (n1.natAbs * n2.natAbs) (k1 * k2) (n1 * n2) (sgn_mul n1 n2)
      rw [f1, f2, f3] at c32
      rw [Int.natAbs_natCast, Int.natAbs_natCast]
      have hs : (decide (n1 < 0) == decide (n2 < 0)) = !(sg n1 n2) := by simp [sg]
      have CS1 := Lib.hid (fun w => size_any n1 w hn1 hn1')
      have CS2 := Lib.hid (fun w => size_any n2 w hn2 hn2')
      have CM1 := Lib.hid (fun w => rmul_any n1.natAbs n2.natAbs (by omega) (by omega) w)
      have CM2 := Lib.hid (fun w => rmul_any k1 k2 (by omega) (by omega) w)
      have C32 := Lib.hid c32
      have CX := Lib.hid cx; have CY := Lib.hid cy
      have q1 : k1 ≤ 1152921504606846976 := by omega
      have q2 : k2 ≤ 1152921504606846976 := by omega
      clear c32 cx cy hx hy hxy hn1 hn1' hd1 hd1' hn2 hn2' hd2 hd2' f1 f2 f3 hN hD b1 b2
      generalize sg n1 n2 = s at *
      generalize redN (n1 * n2) (k1 * k2) = r1 at *
      generalize redD (n1 * n2) (k1 * k2) = r2 at *
      generalize redE (n1 * n2) (k1 * k2) = r3 at *
      generalize n1.natAbs * n2.natAbs = pN at *
      generalize k1 * k2 = pD at *
      generalize n1.natAbs = m1 at *
      generalize n2.natAbs = m2 at *
      go_enter Try.func18, Try.ntmps18
      go_wp2_with fail
      refine (CX.out _).mono ?_
      rintro e w1 ⟨rfl, hb⟩
      have hB1 := bnext (w := w) (by go_grown) hb
      have bX : Blk2 w1 w.heap.size 23 (.int .i64 n1) (.int .i64 k1) := ((Blk2.new.alloc _).alloc _).below hb (by simp; omega)
      have bY : Blk2 w1 (w.heap.size + 1) 23 (.int .i64 n2) (.int .i64 k2) := ((Blk2.new' (by simp)).alloc _).below hb (by simp)
      have bR : Blk2 w1 (w.heap.size + 1 + 1) 23 (.int .i64 0) (.int .i64 0) := (Blk2.new' (by simp)).below hb (by simp)
      clear hb
      have cy0 := bY.c0; have cy1 := bY.c1; have zy := bY.lt
      go_wp2_with fail
      refine (CY.out _).mono ?_
      rintro e w2 ⟨rfl, hb⟩
      have hB2 := bnext (w := w) (by go_grown) hb
      have bX2 := bX.below hb bX.lt; have bY2 := bY.below hb bY.lt; have bR2 := bR.below hb bR.lt
      clear hb bX bY bR cy0 cy1 zy hB1
      have cx0 := bX2.c0; have cx1 := bX2.c1; have zx := bX2.lt
      have cy0 := bY2.c0; have cy1 := bY2.c1; have zy := bY2.lt
      go_wp2_with fail
      refine wp_region_over_tail 24 (by kernel_rfl) (by kernel_rfl) ?_
      simp only [List.take_succ_cons, List.take_zero, List.drop_succ_cons, List.drop_zero]
      repeat (go_big_quiet_step (first | (go_at_call 33; first | with_reducible exact calls_over_same (CS1.out _) | with_reducible exact calls_over_same (CS2.out _)) | (go_at_call 37; first | with_reducible exact calls_over (CM1.out _) | with_reducible exact calls_over (CM2.out _)) | (go_at_call 32; exact calls_over (C32.out _))))
      refine wpQuiet_nil ?_
      rintro _ ⟨x1, rfl⟩
      have hb := over_below _ x1
      generalize over _ x1 = w3 at *
      have hB3 := bnext (w := w) (by go_grown) hb
      have bR3 := bR2.below hb bR2.lt
      clear hb x1 bX2 bY2 bR2 cx0 cx1 zx cy0 cy1 zy hB2
      have cr0 := bR3.c0; have cr1 := bR3.c1; have zr := bR3.lt; have fr0 := bR3.f0; have fr1 := bR3.f1
      go_wp2
      exact bodyPost_ret (v := .tuple #[.agg #[.int .i64 r1, .int .i64 r2], .int .i64 r3]) (by simp [results, Try.results18, go_sem, *]) rfl ⟨rfl, by go_grown⟩
    · rw [vldB_false hy] at cy
      have hxy : ¬ (Vld n1 d1 ∧ Vld n2 d2) := fun h => hy h.2
      unfold mulN mulD mulE
      rw [if_neg hxy, if_neg hxy, if_neg hxy]
      have CX := Lib.hid cx; have CY := Lib.hid cy; clear cx cy hx hy hxy hn1 hn1' hd1 hd1' hn2 hn2' hd2 hd2'
      go_enter Try.func18, Try.ntmps18
      go_wp2_with fail
      refine (CX.out _).mono ?_
      rintro e w1 ⟨rfl, hb⟩
      have hB1 := bnext (w := w) (by go_grown) hb
      have bX : Blk2 w1 w.heap.size 23 (.int .i64 n1) (.int .i64 d1) := ((Blk2.new.alloc _).alloc _).below hb (by simp; omega)
      have bY : Blk2 w1 (w.heap.size + 1) 23 (.int .i64 n2) (.int .i64 d2) := ((Blk2.new' (by simp)).alloc _).below hb (by simp)
      have bR : Blk2 w1 (w.heap.size + 1 + 1) 23 (.int .i64 0) (.int .i64 0) := (Blk2.new' (by simp)).below hb (by simp)
      clear hb
      have cy0 := bY.c0; have cy1 := bY.c1; have zy := bY.lt
      go_wp2_with fail
      refine (CY.out _).mono ?_
      rintro e w2 ⟨rfl, hb⟩
      have hB2 := bnext (w := w) (by go_grown) hb
      have bX2 := bX.below hb bX.lt; have bY2 := bY.below hb bY.lt; have bR2 := bR.below hb bR.lt
      clear hb bX bY bR cy0 cy1 zy hB1
      have cr0 := bR2.c0; have cr1 := bR2.c1; have zr := bR2.lt; have fr0 := bR2.f0; have fr1 := bR2.f1
      go_wp2
      exact bodyPost_ret (v := .tuple #[.agg #[.int .i64 0, .int .i64 0], .int .i64 4]) (by simp [results, Try.results18, go_sem, *]) rfl ⟨rfl, by go_grown⟩
  · rw [vldB_false hx] at cx
    have hxy : ¬ (Vld n1 d1 ∧ Vld n2 d2) := fun h => hx h.1
    unfold mulN mulD mulE
    rw [if_neg hxy, if_neg hxy, if_neg hxy]
    have CX := Lib.hid cx; clear cx cy hx hxy hn1 hn1' hd1 hd1' hn2 hn2' hd2 hd2'
    · skip
      go_enter Try.func18, Try.ntmps18
      go_wp2_with fail
      refine (CX.out _).mono ?_
      rintro e w1 ⟨rfl, hb⟩
      have hB1 := bnext (w := w) (by go_grown) hb
      have bX : Blk2 w1 w.heap.size 23 (.int .i64 n1) (.int .i64 d1) := ((Blk2.new.alloc _).alloc _).below hb (by simp; omega)
      have bY : Blk2 w1 (w.heap.size + 1) 23 (.int .i64 n2) (.int .i64 d2) := ((Blk2.new' (by simp)).alloc _).below hb (by simp)
      have bR : Blk2 w1 (w.heap.size + 1 + 1) 23 (.int .i64 0) (.int .i64 0) := (Blk2.new' (by simp)).below hb (by simp)
      clear hb
      have cr0 := bR.c0; have cr1 := bR.c1; have zr := bR.lt; have fr0 := bR.f0; have fr1 := bR.f1
      go_wp2
      exact bodyPost_ret (v := .tuple #[.agg #[.int .i64 0, .int .i64 0], .int .i64 4]) (by simp [results, Try.results18, go_sem, *]) rfl ⟨rfl, by go_grown⟩
end Go.Proofs.Ytafheinapjfbaaa
