/- Walks of the reference's Add. -/
import Derived.Test.YtafheinapjfbaaaYc
namespace Go.Proofs.Ytafheinapjfbaaa
open Go.RowKit Go.Lib Go.BigFrame
/-- Add's answer -/
def addN (n1 d1 n2 d2 : Int) : Int := if Vld n1 d1 ∧ Vld n2 d2 then redN (n1 * d2 + n2 * d1) (d1.natAbs * d2.natAbs) else 0
def addD (n1 d1 n2 d2 : Int) : Int := if Vld n1 d1 ∧ Vld n2 d2 then redD (n1 * d2 + n2 * d1) (d1.natAbs * d2.natAbs) else 0
def addE (n1 d1 n2 d2 : Int) : Int := if Vld n1 d1 ∧ Vld n2 d2 then redE (n1 * d2 + n2 * d1) (d1.natAbs * d2.natAbs) else 4
theorem mul_sgn (n : Int) (k : Nat) : n * (k : Int) = sgn (decide (n < 0)) (n.natAbs * k) := by
  rw [← sgn_mul n (k : Int), Int.natAbs_natCast]
  unfold sg
  rw [show decide ((k : Int) < 0) = false from decide_eq_false (by omega)]
  simp
theorem add_same (n1 n2 : Int) (k1 k2 : Nat) (h : decide (n1 < 0) = decide (n2 < 0)) : sgn (decide (n1 < 0)) (n1.natAbs * k2 + n2.natAbs * k1) = n1 * (k2 : Int) + n2 * (k1 : Int) := by
  rw [mul_sgn n1, mul_sgn n2, ← h]
  unfold sgn; split <;> omega
theorem add_less (n1 n2 : Int) (k1 k2 : Nat) (h : ¬ decide (n1 < 0) = decide (n2 < 0)) (hl : n1.natAbs * k2 < n2.natAbs * k1) : sgn (decide (n2 < 0)) (n2.natAbs * k1 - n1.natAbs * k2) = n1 * (k2 : Int) + n2 * (k1 : Int) := by
  rw [mul_sgn n1, mul_sgn n2]
  generalize n1.natAbs * k2 = A at *
  generalize n2.natAbs * k1 = B at *
  unfold sgn
  cases h1 : decide (n1 < 0) <;> cases h2 : decide (n2 < 0) <;> simp_all <;> omega
theorem add_more (n1 n2 : Int) (k1 k2 : Nat) (h : ¬ decide (n1 < 0) = decide (n2 < 0)) (hl : ¬ n1.natAbs * k2 < n2.natAbs * k1) : sgn (decide (n1 < 0)) (n1.natAbs * k2 - n2.natAbs * k1) = n1 * (k2 : Int) + n2 * (k1 : Int) := by
  rw [mul_sgn n1, mul_sgn n2]
  generalize n1.natAbs * k2 = A at *
  generalize n2.natAbs * k1 = B at *
  unfold sgn
  cases h1 : decide (n1 < 0) <;> cases h2 : decide (n2 < 0) <;> simp_all <;> omega
set_option maxHeartbeats 4000000 in
theorem rAdd_any (n1 d1 n2 d2 : Int) (w : World) (hn1 : -9223372036854775808 ≤ n1) (hn1' : n1 < 9223372036854775808) (hd1 : -9223372036854775808 ≤ d1) (hd1' : d1 < 9223372036854775808)
    (hn2 : -9223372036854775808 ≤ n2) (hn2' : n2 < 9223372036854775808) (hd2 : -9223372036854775808 ≤ d2) (hd2' : d2 < 9223372036854775808) :
    Calls Try.prog 14 #[.agg #[.int .i64 n1, .int .i64 d1], .agg #[.int .i64 n2, .int .i64 d2]] w fun e w' =>
      e = .returned (.tuple #[.agg #[.int .i64 (addN n1 d1 n2 d2), .int .i64 (addD n1 d1 n2 d2)], .int .i64 (addE n1 d1 n2 d2)]) ∧ Below w.heap.size w w' := by
  have cx := fun w => rvalid_any n1 d1 w hn1 hn1' hd1 hd1'
  have cy := fun w => rvalid_any n2 d2 w hn2 hn2' hd2 hd2'
  by_cases hx : Vld n1 d1
  · rw [vldB_true hx] at cx
    by_cases hy : Vld n2 d2
    · rw [vldB_true hy] at cy
      have hxy : Vld n1 d1 ∧ Vld n2 d2 := ⟨hx, hy⟩
      unfold addN addD addE
      rw [if_pos hxy, if_pos hxy, if_pos hxy]
      have b1 := vld_bd hx; have b2 := vld_bd hy
      obtain ⟨k1, rfl, p1⟩ := nat_of_vld hx
      obtain ⟨k2, rfl, p2⟩ := nat_of_vld hy
      have hA : n1.natAbs * k2 ≤ 1152921504606846976 * 1152921504606846976 := Nat.mul_le_mul b1.1 (by omega)
      have hB : n2.natAbs * k1 ≤ 1152921504606846976 * 1152921504606846976 := Nat.mul_le_mul b2.1 (by omega)
      have hD : k1 * k2 ≤ 1152921504606846976 * 1152921504606846976 := Nat.mul_le_mul (by omega) (by omega)
      by_cases hsg : decide (n1 < 0) = decide (n2 < 0)
      · skip
        have c32 := fun w => reduce_any (decide (n1 < 0)) (n1.natAbs * k2 + n2.natAbs * k1) (k1 * k2) w (by omega) (by omega) (Nat.mul_pos p1 p2)
        obtain ⟨f1, f2, f3⟩ := red_of_sgn (decide (n1 < 0)) (n1.natAbs * k2 + n2.natAbs * k1) (k1 * k2) (n1 * (k2 : Int) + n2 * (k1 : Int)) (add_same n1 n2 k1 k2 hsg)
        rw [f1, f2, f3] at c32
        rw [Int.natAbs_natCast, Int.natAbs_natCast]
        have hs : (decide (n1 < 0) == decide (n2 < 0)) = true := by simpa using hsg
        have CS1 := Lib.hid (fun w => size_any n1 w hn1 hn1')
        have CS2 := Lib.hid (fun w => size_any n2 w hn2 hn2')
        have CA := Lib.hid (fun w => rmul_any n1.natAbs k2 (by omega) (by omega) w)
        have CB := Lib.hid (fun w => rmul_any n2.natAbs k1 (by omega) (by omega) w)
        have CD := Lib.hid (fun w => rmul_any k1 k2 (by omega) (by omega) w)
        have CJ := Lib.hid (fun w => radd_any (n1.natAbs * k2) (n2.natAbs * k1) (by omega) w)
        have C32 := Lib.hid c32
        have CX := Lib.hid cx; have CY := Lib.hid cy
        have q1 : k1 ≤ 1152921504606846976 := by omega
        have q2 : k2 ≤ 1152921504606846976 := by omega
        clear c32 cx cy hx hy hxy hn1 hn1' hd1 hd1' hn2 hn2' hd2 hd2' f1 f2 f3 hA hB hD b1 b2 hsg
        generalize redN (n1 * (k2 : Int) + n2 * (k1 : Int)) (k1 * k2) = r1 at *
        generalize redD (n1 * (k2 : Int) + n2 * (k1 : Int)) (k1 * k2) = r2 at *
        generalize redE (n1 * (k2 : Int) + n2 * (k1 : Int)) (k1 * k2) = r3 at *
        generalize n1.natAbs * k2 = pA at *
        generalize n2.natAbs * k1 = pB at *
        generalize k1 * k2 = pD at *
        generalize pA + pB = pS at *
        generalize n1.natAbs = m1 at *
        generalize n2.natAbs = m2 at *
        go_enter Try.func14, Try.ntmps14
        go_wp2_with fail
        refine (CX.out _).mono ?_
        rintro e w1 ⟨rfl, hb⟩
        have hB1 := bnext (w := w) (by go_grown) hb
        have bX : Blk2 w1 w.heap.size 23 (.int .i64 n1) (.int .i64 k1) := ((Blk2.new.alloc _).alloc _).below hb (by simp; omega)
        have bY : Blk2 w1 (w.heap.size + 1) 23 (.int .i64 n2) (.int .i64 k2) := ((Blk2.new' (by simp)).alloc _).below hb (by simp)
        have bR : Blk2 w1 (w.heap.size + 1 + 1) 23 (.int .i64 0) (.int .i64 0) := (Blk2.new' (by simp)).below hb (by simp)
        clear hb
        have cy0 := bY.c0; have cy1 := bY.c1; have zy := bY.lt
        go_wp2_with fail
        refine (CY.out _).mono ?_
        rintro e w2 ⟨rfl, hb⟩
        have hB2 := bnext (w := w) (by go_grown) hb
        have bX2 := bX.below hb bX.lt; have bY2 := bY.below hb bY.lt; have bR2 := bR.below hb bR.lt
        clear hb bX bY bR cy0 cy1 zy hB1
        have cx0 := bX2.c0; have cx1 := bX2.c1; have zx := bX2.lt
        have cy0 := bY2.c0; have cy1 := bY2.c1; have zy := bY2.lt
        go_wp2_with fail
        refine wp_region_float2 14 81 6 7 (.cells #[.int .u64 0, .int .u64 0] 49) (.cells #[.int .u64 0, .int .u64 0] 49) ?afinsame (by kernel_rfl) (by kernel_rfl) ?mk rfl rfl (by decide) (by simp) (fun T hT => ?walk) ?tail
        case mk =>
          intro i o h1 h2 ho
          rcases (show i = 14 ∨ i = 15 by omega) with rfl | rfl
          all_goals
            simp only [List.getElem?_toArray, List.getElem?_cons_succ, List.getElem?_cons_zero, Option.some.injEq] at ho
            subst ho
            exact ⟨rfl, fun a w => by simp [go_sem, ptrTo]⟩
        case walk =>
          simp only [List.take_succ_cons, List.take_zero]
          haveI := hT.some
          repeat (go_big_quiet_step (first | (go_at_call 33; first | with_reducible exact calls_overT_same (CS1.out _) | with_reducible exact calls_overT_same (CS2.out _)) | (go_at_call 37; first | with_reducible exact calls_overT hT (CA.out _) | with_reducible exact calls_overT hT (CB.out _))))
          refine wpQuiet_nil ?_
          rfl
        case tail =>
          intro ga gb w3 hb hs1 hs2 hne hga hgb
          have bG : Blk2 w3 ga 49 (.int .u64 0) (.int .u64 0) := hga
          have bH : Blk2 w3 gb 49 (.int .u64 0) (.int .u64 0) := hgb
          have hB3 := bnext (w := w) (by go_grown) hb
          have bX3 := bX2.below hb bX2.lt; have bY3 := bY2.below hb bY2.lt; have bR3 := bR2.below hb bR2.lt
          have h1 : w.heap.size + 1 + 1 < ga := Nat.lt_of_lt_of_le bR2.lt hs1
          have h2 : w.heap.size + 1 + 1 < gb := Nat.lt_of_lt_of_le bR2.lt hs2
          clear hb hga hgb hs1 hs2 bX2 bY2 bR2 cx0 cx1 cy0 cy1 zx zy hB2
          have cg0 := bG.c0; have cg1 := bG.c1; have zg := bG.lt; have fg0 := bG.f0; have fg1 := bG.f1
          have ch0 := bH.c0; have ch1 := bH.c1; have zh := bH.lt; have fh0 := bH.f0; have fh1 := bH.f1
          have hne' : ¬ gb = ga := fun h => hne h.symm
          unfold ptrTo
          have bX4 := ((((bX3.other (p := ⟨ga, 0, none⟩) (by dsimp only; omega) (.int .u64 (hN pA))).other (p := ⟨ga, 1, none⟩) (by dsimp only; omega) (.int .u64 (lN pA))).other (p := ⟨gb, 0, none⟩) (by dsimp only; omega) (.int .u64 (hN pB))).other (p := ⟨gb, 1, none⟩) (by dsimp only; omega) (.int .u64 (lN pB)))
          have bY4 := ((((bY3.other (p := ⟨ga, 0, none⟩) (by dsimp only; omega) (.int .u64 (hN pA))).other (p := ⟨ga, 1, none⟩) (by dsimp only; omega) (.int .u64 (lN pA))).other (p := ⟨gb, 0, none⟩) (by dsimp only; omega) (.int .u64 (hN pB))).other (p := ⟨gb, 1, none⟩) (by dsimp only; omega) (.int .u64 (lN pB)))
          have bR4 := ((((bR3.other (p := ⟨ga, 0, none⟩) (by dsimp only; omega) (.int .u64 (hN pA))).other (p := ⟨ga, 1, none⟩) (by dsimp only; omega) (.int .u64 (lN pA))).other (p := ⟨gb, 0, none⟩) (by dsimp only; omega) (.int .u64 (hN pB))).other (p := ⟨gb, 1, none⟩) (by dsimp only; omega) (.int .u64 (lN pB)))
          have bG4 := ((((bG.set0 (.int .u64 (hN pA))).set1 (.int .u64 (lN pA))).other (p := ⟨gb, 0, none⟩) (by dsimp only; omega) (.int .u64 (hN pB))).other (p := ⟨gb, 1, none⟩) (by dsimp only; omega) (.int .u64 (lN pB)))
          have bH4 := (((bH.other (p := ⟨ga, 0, none⟩) (by dsimp only; omega) (.int .u64 (hN pA))).other (p := ⟨ga, 1, none⟩) (by dsimp only; omega) (.int .u64 (lN pA))).set0 (.int .u64 (hN pB))).set1 (.int .u64 (lN pB))
          have hB4 := (((hB3.setCell (p := ⟨ga, 0, none⟩) (by dsimp only; omega) (.int .u64 (hN pA))).setCell (p := ⟨ga, 1, none⟩) (by dsimp only; omega) (.int .u64 (lN pA))).setCell (p := ⟨gb, 0, none⟩) (by dsimp only; omega) (.int .u64 (hN pB))).setCell (p := ⟨gb, 1, none⟩) (by dsimp only; omega) (.int .u64 (lN pB))
          have n1' : ¬ w.heap.size = ga := by omega
          have n2' : ¬ ga = w.heap.size := by omega
          have n3' : ¬ w.heap.size + 1 = ga := by omega
          have n4' : ¬ ga = w.heap.size + 1 := by omega
          have n5' : ¬ w.heap.size = gb := by omega
          have n6' : ¬ gb = w.heap.size := by omega
          have n7' : ¬ w.heap.size + 1 = gb := by omega
          have n8' : ¬ gb = w.heap.size + 1 := by omega
          have cx0 := bX3.c0; have cx1 := bX3.c1; have zx := bX3.lt
          have cy0 := bY3.c0; have cy1 := bY3.c1; have zy := bY3.lt
          go_wp2_with fail
          clear n1' n2' n3' n4' n5' n6' n7' n8' cx0 cx1 zx cy0 cy1 zy
          clear cg0 cg1 zg fg0 fg1 ch0 ch1 zh fh0 fh1 bG bH bX3 bY3 bR3 hB3
          generalize (((w3.setCell ⟨ga, 0, none⟩ (.int .u64 (hN pA))).setCell ⟨ga, 1, none⟩ (.int .u64 (lN pA))).setCell ⟨gb, 0, none⟩ (.int .u64 (hN pB))).setCell ⟨gb, 1, none⟩ (.int .u64 (lN pB)) = w4 at *
          refine (CD.out _).mono ?_
          rintro e w5 ⟨rfl, hb⟩
          have hB5 := bnext (w := w) (by go_grown) hb
          have bX5 := bX4.below hb bX4.lt; have bY5 := bY4.below hb bY4.lt; have bR5 := bR4.below hb bR4.lt
          have bG5 := bG4.below hb bG4.lt; have bH5 := bH4.below hb bH4.lt
          clear hb bX4 bY4 bR4 bG4 bH4 hB4
          have bD5 : Blk2 (w5.alloc (.cells #[.int .u64 (hN pD), .int .u64 (lN pD)] 49)) w5.heap.size 49 (.int .u64 (hN pD)) (.int .u64 (lN pD)) :=
            Blk2.new
          have bX6 := bX5.alloc (.cells #[.int .u64 (hN pD), .int .u64 (lN pD)] 49)
          have bY6 := bY5.alloc (.cells #[.int .u64 (hN pD), .int .u64 (lN pD)] 49)
          have bR6 := bR5.alloc (.cells #[.int .u64 (hN pD), .int .u64 (lN pD)] 49)
          have bG6 := bG5.alloc (.cells #[.int .u64 (hN pD), .int .u64 (lN pD)] 49)
          have bH6 := bH5.alloc (.cells #[.int .u64 (hN pD), .int .u64 (lN pD)] 49)
          have hB6 : Below w.heap.size w (w5.alloc (.cells #[.int .u64 (hN pD), .int .u64 (lN pD)] 49)) := by have := bX5.lt; go_grown
          have cx0 := bX5.c0; have zx := bX5.lt; have cy0 := bY5.c0; have zy := bY5.lt
          have cg0 := bG5.c0; have cg1 := bG5.c1; have zg := bG5.lt
          have ch0 := bH5.c0; have ch1 := bH5.c1; have zh := bH5.lt
          have n1' : ¬ w.heap.size = w5.heap.size := by omega
          have n2' : ¬ w5.heap.size = w.heap.size := by omega
          have n3' : ¬ w.heap.size + 1 = w5.heap.size := by omega
          have n4' : ¬ w5.heap.size = w.heap.size + 1 := by omega
          have n5' : ¬ ga = w5.heap.size := by omega
          have n6' : ¬ w5.heap.size = ga := by omega
          have n7' : ¬ gb = w5.heap.size := by omega
          have n8' : ¬ w5.heap.size = gb := by omega
          go_wp2_with fail
          clear n1' n2' n3' n4' n5' n6' n7' n8' cx0 zx cy0 zy cg0 cg1 zg ch0 ch1 zh
          clear bX5 bY5 bR5 bG5 bH5 hB5
          generalize w5.alloc (.cells #[.int .u64 (hN pD), .int .u64 (lN pD)] 49) = w6 at *
          generalize w5.heap.size = gd at *
          have cx0 := bX6.c0; have zx := bX6.lt; have cy0 := bY6.c0; have zy := bY6.lt
          have cg0 := bG6.c0; have cg1 := bG6.c1; have zg := bG6.lt
          have ch0 := bH6.c0; have ch1 := bH6.c1; have zh := bH6.lt
          have cd0 := bD5.c0; have cd1 := bD5.c1; have zd := bD5.lt
          refine wp_region_over_tail 10 (by kernel_rfl) (by kernel_rfl) ?_
          simp only [List.take_succ_cons, List.take_zero, List.drop_succ_cons, List.drop_zero]
          repeat (go_big_quiet_step (first | (go_at_call 38; exact calls_over (CJ.out _)) | (go_at_call 32; exact calls_over (C32.out _))))
          refine wpQuiet_nil ?_
          rintro _ ⟨x1, rfl⟩
          have hb := over_below _ x1
          generalize over _ x1 = w8 at *
          have hB8 := bnext (w := w) (by go_grown) hb
          have bR8 := bR6.below hb bR6.lt
          clear hb x1 bX6 bY6 bR6 bG6 bH6 bD5 hB6 cx0 zx cy0 zy cg0 cg1 zg ch0 ch1 zh cd0 cd1 zd
          have cr0 := bR8.c0; have cr1 := bR8.c1; have zr := bR8.lt; have fr0 := bR8.f0; have fr1 := bR8.f1
          go_wp2
          exact bodyPost_ret (v := .tuple #[.agg #[.int .i64 r1, .int .i64 r2], .int .i64 r3]) (by simp [results, Try.results14, go_sem, *]) rfl ⟨rfl, by go_grown⟩
      by_cases hl : n1.natAbs * k2 < n2.natAbs * k1
      · skip
        have c32 := fun w => reduce_any (decide (n2 < 0)) (n2.natAbs * k1 - n1.natAbs * k2) (k1 * k2) w (by omega) (by omega) (Nat.mul_pos p1 p2)
        obtain ⟨f1, f2, f3⟩ := red_of_sgn (decide (n2 < 0)) (n2.natAbs * k1 - n1.natAbs * k2) (k1 * k2) (n1 * (k2 : Int) + n2 * (k1 : Int)) (add_less n1 n2 k1 k2 hsg hl)
        rw [f1, f2, f3] at c32
        rw [Int.natAbs_natCast, Int.natAbs_natCast]
        have hs : (decide (n1 < 0) == decide (n2 < 0)) = false := by simpa using hsg
        have CS1 := Lib.hid (fun w => size_any n1 w hn1 hn1')
        have CS2 := Lib.hid (fun w => size_any n2 w hn2 hn2')
        have CA := Lib.hid (fun w => rmul_any n1.natAbs k2 (by omega) (by omega) w)
        have CB := Lib.hid (fun w => rmul_any n2.natAbs k1 (by omega) (by omega) w)
        have CD := Lib.hid (fun w => rmul_any k1 k2 (by omega) (by omega) w)
        have CJ := Lib.hid (fun w => subN (n2.natAbs * k1) (hN (n1.natAbs * k2)) (lN (n1.natAbs * k2)) (n1.natAbs * k2) (by omega) (hN_lt _) (lN_lt _) (uw_nat _ (by omega)) (by omega) w)
        have c39 := fun w => lessN (n1.natAbs * k2) (hN (n2.natAbs * k1)) (lN (n2.natAbs * k1)) (n2.natAbs * k1) (by omega) (lN_lt _) (uw_nat _ (by omega)) w
        rw [decide_eq_true hl] at c39
        have C39 := Lib.hid c39; clear c39
        have C32 := Lib.hid c32
        have CX := Lib.hid cx; have CY := Lib.hid cy
        have q1 : k1 ≤ 1152921504606846976 := by omega
        have q2 : k2 ≤ 1152921504606846976 := by omega
        clear c32 cx cy hx hy hxy hn1 hn1' hd1 hd1' hn2 hn2' hd2 hd2' f1 f2 f3 hA hB hD b1 b2 hsg hl
        generalize redN (n1 * (k2 : Int) + n2 * (k1 : Int)) (k1 * k2) = r1 at *
        generalize redD (n1 * (k2 : Int) + n2 * (k1 : Int)) (k1 * k2) = r2 at *
        generalize redE (n1 * (k2 : Int) + n2 * (k1 : Int)) (k1 * k2) = r3 at *
        generalize n1.natAbs * k2 = pA at *
        generalize n2.natAbs * k1 = pB at *
        generalize k1 * k2 = pD at *
        generalize pB - pA = pS at *
        generalize n1.natAbs = m1 at *
        generalize n2.natAbs = m2 at *
        go_enter Try.func14, Try.ntmps14
        go_wp2_with fail
        refine (CX.out _).mono ?_
        rintro e w1 ⟨rfl, hb⟩
        have hB1 := bnext (w := w) (by go_grown) hb
        have bX : Blk2 w1 w.heap.size 23 (.int .i64 n1) (.int .i64 k1) := ((Blk2.new.alloc _).alloc _).below hb (by simp; omega)
        have bY : Blk2 w1 (w.heap.size + 1) 23 (.int .i64 n2) (.int .i64 k2) := ((Blk2.new' (by simp)).alloc _).below hb (by simp)
        have bR : Blk2 w1 (w.heap.size + 1 + 1) 23 (.int .i64 0) (.int .i64 0) := (Blk2.new' (by simp)).below hb (by simp)
        clear hb
        have cy0 := bY.c0; have cy1 := bY.c1; have zy := bY.lt
        go_wp2_with fail
        refine (CY.out _).mono ?_
        rintro e w2 ⟨rfl, hb⟩
        have hB2 := bnext (w := w) (by go_grown) hb
        have bX2 := bX.below hb bX.lt; have bY2 := bY.below hb bY.lt; have bR2 := bR.below hb bR.lt
        clear hb bX bY bR cy0 cy1 zy hB1
        have cx0 := bX2.c0; have cx1 := bX2.c1; have zx := bX2.lt
        have cy0 := bY2.c0; have cy1 := bY2.c1; have zy := bY2.lt
        go_wp2_with fail
        refine wp_region_float2 14 81 6 7 (.cells #[.int .u64 0, .int .u64 0] 49) (.cells #[.int .u64 0, .int .u64 0] 49) ?afinless (by kernel_rfl) (by kernel_rfl) ?mk rfl rfl (by decide) (by simp) (fun T hT => ?walk) ?tail
        case mk =>
          intro i o h1 h2 ho
          rcases (show i = 14 ∨ i = 15 by omega) with rfl | rfl
          all_goals
            simp only [List.getElem?_toArray, List.getElem?_cons_succ, List.getElem?_cons_zero, Option.some.injEq] at ho
            subst ho
            exact ⟨rfl, fun a w => by simp [go_sem, ptrTo]⟩
        case walk =>
          simp only [List.take_succ_cons, List.take_zero]
          haveI := hT.some
          repeat (go_big_quiet_step (first | (go_at_call 33; first | with_reducible exact calls_overT_same (CS1.out _) | with_reducible exact calls_overT_same (CS2.out _)) | (go_at_call 37; first | with_reducible exact calls_overT hT (CA.out _) | with_reducible exact calls_overT hT (CB.out _))))
          refine wpQuiet_nil ?_
          rfl
        case tail =>
          intro ga gb w3 hb hs1 hs2 hne hga hgb
          have bG : Blk2 w3 ga 49 (.int .u64 0) (.int .u64 0) := hga
          have bH : Blk2 w3 gb 49 (.int .u64 0) (.int .u64 0) := hgb
          have hB3 := bnext (w := w) (by go_grown) hb
          have bX3 := bX2.below hb bX2.lt; have bY3 := bY2.below hb bY2.lt; have bR3 := bR2.below hb bR2.lt
          have h1 : w.heap.size + 1 + 1 < ga := Nat.lt_of_lt_of_le bR2.lt hs1
          have h2 : w.heap.size + 1 + 1 < gb := Nat.lt_of_lt_of_le bR2.lt hs2
          clear hb hga hgb hs1 hs2 bX2 bY2 bR2 cx0 cx1 cy0 cy1 zx zy hB2
          have cg0 := bG.c0; have cg1 := bG.c1; have zg := bG.lt; have fg0 := bG.f0; have fg1 := bG.f1
          have ch0 := bH.c0; have ch1 := bH.c1; have zh := bH.lt; have fh0 := bH.f0; have fh1 := bH.f1
          have hne' : ¬ gb = ga := fun h => hne h.symm
          unfold ptrTo
          have bX4 := ((((bX3.other (p := ⟨ga, 0, none⟩) (by dsimp only; omega) (.int .u64 (hN pA))).other (p := ⟨ga, 1, none⟩) (by dsimp only; omega) (.int .u64 (lN pA))).other (p := ⟨gb, 0, none⟩) (by dsimp only; omega) (.int .u64 (hN pB))).other (p := ⟨gb, 1, none⟩) (by dsimp only; omega) (.int .u64 (lN pB)))
          have bY4 := ((((bY3.other (p := ⟨ga, 0, none⟩) (by dsimp only; omega) (.int .u64 (hN pA))).other (p := ⟨ga, 1, none⟩) (by dsimp only; omega) (.int .u64 (lN pA))).other (p := ⟨gb, 0, none⟩) (by dsimp only; omega) (.int .u64 (hN pB))).other (p := ⟨gb, 1, none⟩) (by dsimp only; omega) (.int .u64 (lN pB)))
          have bR4 := ((((bR3.other (p := ⟨ga, 0, none⟩) (by dsimp only; omega) (.int .u64 (hN pA))).other (p := ⟨ga, 1, none⟩) (by dsimp only; omega) (.int .u64 (lN pA))).other (p := ⟨gb, 0, none⟩) (by dsimp only; omega) (.int .u64 (hN pB))).other (p := ⟨gb, 1, none⟩) (by dsimp only; omega) (.int .u64 (lN pB)))
          have bG4 := ((((bG.set0 (.int .u64 (hN pA))).set1 (.int .u64 (lN pA))).other (p := ⟨gb, 0, none⟩) (by dsimp only; omega) (.int .u64 (hN pB))).other (p := ⟨gb, 1, none⟩) (by dsimp only; omega) (.int .u64 (lN pB)))
          have bH4 := (((bH.other (p := ⟨ga, 0, none⟩) (by dsimp only; omega) (.int .u64 (hN pA))).other (p := ⟨ga, 1, none⟩) (by dsimp only; omega) (.int .u64 (lN pA))).set0 (.int .u64 (hN pB))).set1 (.int .u64 (lN pB))
          have hB4 := (((hB3.setCell (p := ⟨ga, 0, none⟩) (by dsimp only; omega) (.int .u64 (hN pA))).setCell (p := ⟨ga, 1, none⟩) (by dsimp only; omega) (.int .u64 (lN pA))).setCell (p := ⟨gb, 0, none⟩) (by dsimp only; omega) (.int .u64 (hN pB))).setCell (p := ⟨gb, 1, none⟩) (by dsimp only; omega) (.int .u64 (lN pB))
          have n1' : ¬ w.heap.size = ga := by omega
          have n2' : ¬ ga = w.heap.size := by omega
          have n3' : ¬ w.heap.size + 1 = ga := by omega
          have n4' : ¬ ga = w.heap.size + 1 := by omega
          have n5' : ¬ w.heap.size = gb := by omega
          have n6' : ¬ gb = w.heap.size := by omega
          have n7' : ¬ w.heap.size + 1 = gb := by omega
          have n8' : ¬ gb = w.heap.size + 1 := by omega
          have cx0 := bX3.c0; have cx1 := bX3.c1; have zx := bX3.lt
          have cy0 := bY3.c0; have cy1 := bY3.c1; have zy := bY3.lt
          go_wp2_with fail
          clear n1' n2' n3' n4' n5' n6' n7' n8' cx0 cx1 zx cy0 cy1 zy
          clear cg0 cg1 zg fg0 fg1 ch0 ch1 zh fh0 fh1 bG bH bX3 bY3 bR3 hB3
          generalize (((w3.setCell ⟨ga, 0, none⟩ (.int .u64 (hN pA))).setCell ⟨ga, 1, none⟩ (.int .u64 (lN pA))).setCell ⟨gb, 0, none⟩ (.int .u64 (hN pB))).setCell ⟨gb, 1, none⟩ (.int .u64 (lN pB)) = w4 at *
          refine (CD.out _).mono ?_
          rintro e w5 ⟨rfl, hb⟩
          have hB5 := bnext (w := w) (by go_grown) hb
          have bX5 := bX4.below hb bX4.lt; have bY5 := bY4.below hb bY4.lt; have bR5 := bR4.below hb bR4.lt
          have bG5 := bG4.below hb bG4.lt; have bH5 := bH4.below hb bH4.lt
          clear hb bX4 bY4 bR4 bG4 bH4 hB4
          have bD5 : Blk2 (w5.alloc (.cells #[.int .u64 (hN pD), .int .u64 (lN pD)] 49)) w5.heap.size 49 (.int .u64 (hN pD)) (.int .u64 (lN pD)) :=
            Blk2.new
          have bX6 := bX5.alloc (.cells #[.int .u64 (hN pD), .int .u64 (lN pD)] 49)
          have bY6 := bY5.alloc (.cells #[.int .u64 (hN pD), .int .u64 (lN pD)] 49)
          have bR6 := bR5.alloc (.cells #[.int .u64 (hN pD), .int .u64 (lN pD)] 49)
          have bG6 := bG5.alloc (.cells #[.int .u64 (hN pD), .int .u64 (lN pD)] 49)
          have bH6 := bH5.alloc (.cells #[.int .u64 (hN pD), .int .u64 (lN pD)] 49)
          have hB6 : Below w.heap.size w (w5.alloc (.cells #[.int .u64 (hN pD), .int .u64 (lN pD)] 49)) := by have := bX5.lt; go_grown
          have cx0 := bX5.c0; have zx := bX5.lt; have cy0 := bY5.c0; have zy := bY5.lt
          have cg0 := bG5.c0; have cg1 := bG5.c1; have zg := bG5.lt
          have ch0 := bH5.c0; have ch1 := bH5.c1; have zh := bH5.lt
          have n1' : ¬ w.heap.size = w5.heap.size := by omega
          have n2' : ¬ w5.heap.size = w.heap.size := by omega
          have n3' : ¬ w.heap.size + 1 = w5.heap.size := by omega
          have n4' : ¬ w5.heap.size = w.heap.size + 1 := by omega
          have n5' : ¬ ga = w5.heap.size := by omega
          have n6' : ¬ w5.heap.size = ga := by omega
          have n7' : ¬ gb = w5.heap.size := by omega
          have n8' : ¬ w5.heap.size = gb := by omega
          go_wp2_with fail
          clear n1' n2' n3' n4' n5' n6' n7' n8' cx0 zx cy0 zy cg0 cg1 zg ch0 ch1 zh
          clear bX5 bY5 bR5 bG5 bH5 hB5
          generalize w5.alloc (.cells #[.int .u64 (hN pD), .int .u64 (lN pD)] 49) = w6 at *
          generalize w5.heap.size = gd at *
          refine (C39.out _).mono ?_
          rintro e w7 ⟨rfl, hb⟩
          have hB7 := bnext (w := w) (by go_grown) hb
          have bX7 := bX6.below hb bX6.lt; have bY7 := bY6.below hb bY6.lt; have bR7 := bR6.below hb bR6.lt
          have bG7 := bG6.below hb bG6.lt; have bH7 := bH6.below hb bH6.lt; have bD7 := bD5.below hb bD5.lt
          clear hb bX6 bY6 bR6 bG6 bH6 bD5 hB6
          have cx0 := bX7.c0; have zx := bX7.lt; have cy0 := bY7.c0; have zy := bY7.lt
          have cg0 := bG7.c0; have cg1 := bG7.c1; have zg := bG7.lt
          have ch0 := bH7.c0; have ch1 := bH7.c1; have zh := bH7.lt
          have cd0 := bD7.c0; have cd1 := bD7.c1; have zd := bD7.lt
          go_wp2_with fail
          refine wp_region_over_tail 10 (by kernel_rfl) (by kernel_rfl) ?_
          simp only [List.take_succ_cons, List.take_zero, List.drop_succ_cons, List.drop_zero]
          repeat (go_big_quiet_step (first | (go_at_call 40; exact calls_over (CJ.out _)) | (go_at_call 32; exact calls_over (C32.out _))))
          refine wpQuiet_nil ?_
          rintro _ ⟨x1, rfl⟩
          have hb := over_below _ x1
          generalize over _ x1 = w8 at *
          have hB8 := bnext (w := w) (by go_grown) hb
          have bR8 := bR7.below hb bR7.lt
          clear hb x1 bX7 bY7 bR7 bG7 bH7 bD7 hB7 cx0 zx cy0 zy cg0 cg1 zg ch0 ch1 zh cd0 cd1 zd
          have cr0 := bR8.c0; have cr1 := bR8.c1; have zr := bR8.lt; have fr0 := bR8.f0; have fr1 := bR8.f1
          go_wp2
          exact bodyPost_ret (v := .tuple #[.agg #[.int .i64 r1, .int .i64 r2], .int .i64 r3]) (by simp [results, Try.results14, go_sem, *]) rfl ⟨rfl, by go_grown⟩
      · skip
        have c32 := fun w => reduce_any (decide (n1 < 0)) (n1.natAbs * k2 - n2.natAbs * k1) (k1 * k2) w (by omega) (by omega) (Nat.mul_pos p1 p2)
        obtain ⟨f1, f2, f3⟩ := red_of_sgn (decide (n1 < 0)) (n1.natAbs * k2 - n2.natAbs * k1) (k1 * k2) (n1 * (k2 : Int) + n2 * (k1 : Int)) (add_more n1 n2 k1 k2 hsg hl)
        rw [f1, f2, f3] at c32
        rw [Int.natAbs_natCast, Int.natAbs_natCast]
        have hs : (decide (n1 < 0) == decide (n2 < 0)) = false := by simpa using hsg
        have CS1 := Lib.hid (fun w => size_any n1 w hn1 hn1')
        have CS2 := Lib.hid (fun w => size_any n2 w hn2 hn2')
        have CA := Lib.hid (fun w => rmul_any n1.natAbs k2 (by omega) (by omega) w)
        have CB := Lib.hid (fun w => rmul_any n2.natAbs k1 (by omega) (by omega) w)
        have CD := Lib.hid (fun w => rmul_any k1 k2 (by omega) (by omega) w)
        have CJ := Lib.hid (fun w => subN (n1.natAbs * k2) (hN (n2.natAbs * k1)) (lN (n2.natAbs * k1)) (n2.natAbs * k1) (by omega) (hN_lt _) (lN_lt _) (uw_nat _ (by omega)) (by omega) w)
        have c39 := fun w => lessN (n1.natAbs * k2) (hN (n2.natAbs * k1)) (lN (n2.natAbs * k1)) (n2.natAbs * k1) (by omega) (lN_lt _) (uw_nat _ (by omega)) w
        rw [decide_eq_false hl] at c39
        have C39 := Lib.hid c39; clear c39
        have C32 := Lib.hid c32
        have CX := Lib.hid cx; have CY := Lib.hid cy
        have q1 : k1 ≤ 1152921504606846976 := by omega
        have q2 : k2 ≤ 1152921504606846976 := by omega
        clear c32 cx cy hx hy hxy hn1 hn1' hd1 hd1' hn2 hn2' hd2 hd2' f1 f2 f3 hA hB hD b1 b2 hsg hl
        generalize redN (n1 * (k2 : Int) + n2 * (k1 : Int)) (k1 * k2) = r1 at *
        generalize redD (n1 * (k2 : Int) + n2 * (k1 : Int)) (k1 * k2) = r2 at *
        generalize redE (n1 * (k2 : Int) + n2 * (k1 : Int)) (k1 * k2) = r3 at *
        generalize n1.natAbs * k2 = pA at *
        generalize n2.natAbs * k1 = pB at *
        generalize k1 * k2 = pD at *
        generalize pA - pB = pS at *
        generalize n1.natAbs = m1 at *
        generalize n2.natAbs = m2 at *
        go_enter Try.func14, Try.ntmps14
        go_wp2_with fail
        refine (CX.out _).mono ?_
        rintro e w1 ⟨rfl, hb⟩
        have hB1 := bnext (w := w) (by go_grown) hb
        have bX : Blk2 w1 w.heap.size 23 (.int .i64 n1) (.int .i64 k1) := ((Blk2.new.alloc _).alloc _).below hb (by simp; omega)
        have bY : Blk2 w1 (w.heap.size + 1) 23 (.int .i64 n2) (.int .i64 k2) := ((Blk2.new' (by simp)).alloc _).below hb (by simp)
        have bR : Blk2 w1 (w.heap.size + 1 + 1) 23 (.int .i64 0) (.int .i64 0) := (Blk2.new' (by simp)).below hb (by simp)
        clear hb
        have cy0 := bY.c0; have cy1 := bY.c1; have zy := bY.lt
        go_wp2_with fail
        refine (CY.out _).mono ?_
        rintro e w2 ⟨rfl, hb⟩
        have hB2 := bnext (w := w) (by go_grown) hb
        have bX2 := bX.below hb bX.lt; have bY2 := bY.below hb bY.lt; have bR2 := bR.below hb bR.lt
        clear hb bX bY bR cy0 cy1 zy hB1
        have cx0 := bX2.c0; have cx1 := bX2.c1; have zx := bX2.lt
        have cy0 := bY2.c0; have cy1 := bY2.c1; have zy := bY2.lt
        go_wp2_with fail
        refine wp_region_float2 14 81 6 7 (.cells #[.int .u64 0, .int .u64 0] 49) (.cells #[.int .u64 0, .int .u64 0] 49) ?afinmore (by kernel_rfl) (by kernel_rfl) ?mk rfl rfl (by decide) (by simp) (fun T hT => ?walk) ?tail
        case mk =>
          intro i o h1 h2 ho
          rcases (show i = 14 ∨ i = 15 by omega) with rfl | rfl
          all_goals
            simp only [List.getElem?_toArray, List.getElem?_cons_succ, List.getElem?_cons_zero, Option.some.injEq] at ho
            subst ho
            exact ⟨rfl, fun a w => by simp [go_sem, ptrTo]⟩
        case walk =>
          simp only [List.take_succ_cons, List.take_zero]
          haveI := hT.some
          repeat (go_big_quiet_step (first | (go_at_call 33; first | with_reducible exact calls_overT_same (CS1.out _) | with_reducible exact calls_overT_same (CS2.out _)) | (go_at_call 37; first | with_reducible exact calls_overT hT (CA.out _) | with_reducible exact calls_overT hT (CB.out _))))
          refine wpQuiet_nil ?_
          rfl
        case tail =>
          intro ga gb w3 hb hs1 hs2 hne hga hgb
          have bG : Blk2 w3 ga 49 (.int .u64 0) (.int .u64 0) := hga
          have bH : Blk2 w3 gb 49 (.int .u64 0) (.int .u64 0) := hgb
          have hB3 := bnext (w := w) (by go_grown) hb
          have bX3 := bX2.below hb bX2.lt; have bY3 := bY2.below hb bY2.lt; have bR3 := bR2.below hb bR2.lt
          have h1 : w.heap.size + 1 + 1 < ga := Nat.lt_of_lt_of_le bR2.lt hs1
          have h2 : w.heap.size + 1 + 1 < gb := Nat.lt_of_lt_of_le bR2.lt hs2
          clear hb hga hgb hs1 hs2 bX2 bY2 bR2 cx0 cx1 cy0 cy1 zx zy hB2
          have cg0 := bG.c0; have cg1 := bG.c1; have zg := bG.lt; have fg0 := bG.f0; have fg1 := bG.f1
          have ch0 := bH.c0; have ch1 := bH.c1; have zh := bH.lt; have fh0 := bH.f0; have fh1 := bH.f1
          have hne' : ¬ gb = ga := fun h => hne h.symm
          unfold ptrTo
          have bX4 := ((((bX3.other (p := ⟨ga, 0, none⟩) (by dsimp only; omega) (.int .u64 (hN pA))).other (p := ⟨ga, 1, none⟩) (by dsimp only; omega) (.int .u64 (lN pA))).other (p := ⟨gb, 0, none⟩) (by dsimp only; omega) (.int .u64 (hN pB))).other (p := ⟨gb, 1, none⟩) (by dsimp only; omega) (.int .u64 (lN pB)))
          have bY4 := ((((bY3.other (p := ⟨ga, 0, none⟩) (by dsimp only; omega) (.int .u64 (hN pA))).other (p := ⟨ga, 1, none⟩) (by dsimp only; omega) (.int .u64 (lN pA))).other (p := ⟨gb, 0, none⟩) (by dsimp only; omega) (.int .u64 (hN pB))).other (p := ⟨gb, 1, none⟩) (by dsimp only; omega) (.int .u64 (lN pB)))
          have bR4 := ((((bR3.other (p := ⟨ga, 0, none⟩) (by dsimp only; omega) (.int .u64 (hN pA))).other (p := ⟨ga, 1, none⟩) (by dsimp only; omega) (.int .u64 (lN pA))).other (p := ⟨gb, 0, none⟩) (by dsimp only; omega) (.int .u64 (hN pB))).other (p := ⟨gb, 1, none⟩) (by dsimp only; omega) (.int .u64 (lN pB)))
          have bG4 := ((((bG.set0 (.int .u64 (hN pA))).set1 (.int .u64 (lN pA))).other (p := ⟨gb, 0, none⟩) (by dsimp only; omega) (.int .u64 (hN pB))).other (p := ⟨gb, 1, none⟩) (by dsimp only; omega) (.int .u64 (lN pB)))
          have bH4 := (((bH.other (p := ⟨ga, 0, none⟩) (by dsimp only; omega) (.int .u64 (hN pA))).other (p := ⟨ga, 1, none⟩) (by dsimp only; omega) (.int .u64 (lN pA))).set0 (.int .u64 (hN pB))).set1 (.int .u64 (lN pB))
          have hB4 := (((hB3.setCell (p := ⟨ga, 0, none⟩) (by dsimp only; omega) (.int .u64 (hN pA))).setCell (p := ⟨ga, 1, none⟩) (by dsimp only; omega) (.int .u64 (lN pA))).setCell (p := ⟨gb, 0, none⟩) (by dsimp only; omega) (.int .u64 (hN pB))).setCell (p := ⟨gb, 1, none⟩) (by dsimp only; omega) (.int .u64 (lN pB))
          have n1' : ¬ w.heap.size = ga := by omega
          have n2' : ¬ ga = w.heap.size := by omega
          have n3' : ¬ w.heap.size + 1 = ga := by omega
          have n4' : ¬ ga = w.heap.size + 1 := by omega
          have n5' : ¬ w.heap.size = gb := by omega
          have n6' : ¬ gb = w.heap.size := by omega
          have n7' : ¬ w.heap.size + 1 = gb := by omega
          have n8' : ¬ gb = w.heap.size + 1 := by omega
          have cx0 := bX3.c0; have cx1 := bX3.c1; have zx := bX3.lt
          have cy0 := bY3.c0; have cy1 := bY3.c1; have zy := bY3.lt
          go_wp2_with fail
          clear n1' n2' n3' n4' n5' n6' n7' n8' cx0 cx1 zx cy0 cy1 zy
          clear cg0 cg1 zg fg0 fg1 ch0 ch1 zh fh0 fh1 bG bH bX3 bY3 bR3 hB3
          generalize (((w3.setCell ⟨ga, 0, none⟩ (.int .u64 (hN pA))).setCell ⟨ga, 1, none⟩ (.int .u64 (lN pA))).setCell ⟨gb, 0, none⟩ (.int .u64 (hN pB))).setCell ⟨gb, 1, none⟩ (.int .u64 (lN pB)) = w4 at *
          refine (CD.out _).mono ?_
          rintro e w5 ⟨rfl, hb⟩
          have hB5 := bnext (w := w) (by go_grown) hb
          have bX5 := bX4.below hb bX4.lt; have bY5 := bY4.below hb bY4.lt; have bR5 := bR4.below hb bR4.lt
          have bG5 := bG4.below hb bG4.lt; have bH5 := bH4.below hb bH4.lt
          clear hb bX4 bY4 bR4 bG4 bH4 hB4
          have bD5 : Blk2 (w5.alloc (.cells #[.int .u64 (hN pD), .int .u64 (lN pD)] 49)) w5.heap.size 49 (.int .u64 (hN pD)) (.int .u64 (lN pD)) :=
            Blk2.new
          have bX6 := bX5.alloc (.cells #[.int .u64 (hN pD), .int .u64 (lN pD)] 49)
          have bY6 := bY5.alloc (.cells #[.int .u64 (hN pD), .int .u64 (lN pD)] 49)
          have bR6 := bR5.alloc (.cells #[.int .u64 (hN pD), .int .u64 (lN pD)] 49)
          have bG6 := bG5.alloc (.cells #[.int .u64 (hN pD), .int .u64 (lN pD)] 49)
          have bH6 := bH5.alloc (.cells #[.int .u64 (hN pD), .int .u64 (lN pD)] 49)
          have hB6 : Below w.heap.size w (w5.alloc (.cells #[.int .u64 (hN pD), .int .u64 (lN pD)] 49)) := by have := bX5.lt; go_grown
          have cx0 := bX5.c0; have zx := bX5.lt; have cy0 := bY5.c0; have zy := bY5.lt
          have cg0 := bG5.c0; have cg1 := bG5.c1; have zg := bG5.lt
          have ch0 := bH5.c0; have ch1 := bH5.c1; have zh := bH5.lt
          have n1' : ¬ w.heap.size = w5.heap.size := by omega
          have n2' : ¬ w5.heap.size = w.heap.size := by omega
          have n3' : ¬ w.heap.size + 1 = w5.heap.size := by omega
          have n4' : ¬ w5.heap.size = w.heap.size + 1 := by omega
          have n5' : ¬ ga = w5.heap.size := by omega
          have n6' : ¬ w5.heap.size = ga := by omega
          have n7' : ¬ gb = w5.heap.size := by omega
          have n8' : ¬ w5.heap.size = gb := by omega
          go_wp2_with fail
          clear n1' n2' n3' n4' n5' n6' n7' n8' cx0 zx cy0 zy cg0 cg1 zg ch0 ch1 zh
          clear bX5 bY5 bR5 bG5 bH5 hB5
          generalize w5.alloc (.cells #[.int .u64 (hN pD), .int .u64 (lN pD)] 49) = w6 at *
          generalize w5.heap.size = gd at *
          refine (C39.out _).mono ?_
          rintro e w7 ⟨rfl, hb⟩
          have hB7 := bnext (w := w) (by go_grown) hb
          have bX7 := bX6.below hb bX6.lt; have bY7 := bY6.below hb bY6.lt; have bR7 := bR6.below hb bR6.lt
          have bG7 := bG6.below hb bG6.lt; have bH7 := bH6.below hb bH6.lt; have bD7 := bD5.below hb bD5.lt
          clear hb bX6 bY6 bR6 bG6 bH6 bD5 hB6
          have cx0 := bX7.c0; have zx := bX7.lt; have cy0 := bY7.c0; have zy := bY7.lt
          have cg0 := bG7.c0; have cg1 := bG7.c1; have zg := bG7.lt
          have ch0 := bH7.c0; have ch1 := bH7.c1; have zh := bH7.lt
          have cd0 := bD7.c0; have cd1 := bD7.c1; have zd := bD7.lt
          go_wp2_with fail
          refine wp_region_over_tail 10 (by kernel_rfl) (by kernel_rfl) ?_
          simp only [List.take_succ_cons, List.take_zero, List.drop_succ_cons, List.drop_zero]
          repeat (go_big_quiet_step (first | (go_at_call 40; exact calls_over (CJ.out _)) | (go_at_call 32; exact calls_over (C32.out _))))
          refine wpQuiet_nil ?_
          rintro _ ⟨x1, rfl⟩
          have hb := over_below _ x1
          generalize over _ x1 = w8 at *
          have hB8 := bnext (w := w) (by go_grown) hb
          have bR8 := bR7.below hb bR7.lt
          clear hb x1 bX7 bY7 bR7 bG7 bH7 bD7 hB7 cx0 zx cy0 zy cg0 cg1 zg ch0 ch1 zh cd0 cd1 zd
          have cr0 := bR8.c0; have cr1 := bR8.c1; have zr := bR8.lt; have fr0 := bR8.f0; have fr1 := bR8.f1
          go_wp2
          exact bodyPost_ret (v := .tuple #[.agg #[.int .i64 r1, .int .i64 r2], .int .i64 r3]) (by simp [results, Try.results14, go_sem, *]) rfl ⟨rfl, by go_grown⟩
    · rw [vldB_false hy] at cy
      have hxy : ¬ (Vld n1 d1 ∧ Vld n2 d2) := fun h => hy h.2
      unfold addN addD addE
      rw [if_neg hxy, if_neg hxy, if_neg hxy]
      have CX := Lib.hid cx; have CY := Lib.hid cy; clear cx cy hx hy hxy hn1 hn1' hd1 hd1' hn2 hn2' hd2 hd2'
      go_enter Try.func14, Try.ntmps14
      go_wp2_with fail
      refine (CX.out _).mono ?_
      rintro e w1 ⟨rfl, hb⟩
      have hB1 := bnext (w := w) (by go_grown) hb
      have bX : Blk2 w1 w.heap.size 23 (.int .i64 n1) (.int .i64 d1) := ((Blk2.new.alloc _).alloc _).below hb (by simp; omega)
      have bY : Blk2 w1 (w.heap.size + 1) 23 (.int .i64 n2) (.int .i64 d2) := ((Blk2.new' (by simp)).alloc _).below hb (by simp)
      have bR : Blk2 w1 (w.heap.size + 1 + 1) 23 (.int .i64 0) (.int .i64 0) := (Blk2.new' (by simp)).below hb (by simp)
      clear hb
      have cy0 := bY.c0; have cy1 := bY.c1; have zy := bY.lt
      go_wp2_with fail
      refine (CY.out _).mono ?_
      rintro e w2 ⟨rfl, hb⟩
      have hB2 := bnext (w := w) (by go_grown) hb
      have bX2 := bX.below hb bX.lt; have bY2 := bY.below hb bY.lt; have bR2 := bR.below hb bR.lt
      clear hb bX bY bR cy0 cy1 zy hB1
      have cr0 := bR2.c0; have cr1 := bR2.c1; have zr := bR2.lt; have fr0 := bR2.f0; have fr1 := bR2.f1
      go_wp2
      exact bodyPost_ret (v := .tuple #[.agg #[.int .i64 0, .int .i64 0], .int .i64 4]) (by simp [results, Try.results14, go_sem, *]) rfl ⟨rfl, by go_grown⟩
  · rw [vldB_false hx] at cx
    have hxy : ¬ (Vld n1 d1 ∧ Vld n2 d2) := fun h => hx h.1
    unfold addN addD addE
    rw [if_neg hxy, if_neg hxy, if_neg hxy]
    have CX := Lib.hid cx; clear cx cy hx hxy hn1 hn1' hd1 hd1' hn2 hn2' hd2 hd2'
    · skip
      go_enter Try.func14, Try.ntmps14
      go_wp2_with fail
      refine (CX.out _).mono ?_
      rintro e w1 ⟨rfl, hb⟩
      have hB1 := bnext (w := w) (by go_grown) hb
      have bX : Blk2 w1 w.heap.size 23 (.int .i64 n1) (.int .i64 d1) := ((Blk2.new.alloc _).alloc _).below hb (by simp; omega)
      have bY : Blk2 w1 (w.heap.size + 1) 23 (.int .i64 n2) (.int .i64 d2) := ((Blk2.new' (by simp)).alloc _).below hb (by simp)
      have bR : Blk2 w1 (w.heap.size + 1 + 1) 23 (.int .i64 0) (.int .i64 0) := (Blk2.new' (by simp)).below hb (by simp)
      clear hb
      have cr0 := bR.c0; have cr1 := bR.c1; have zr := bR.lt; have fr0 := bR.f0; have fr1 := bR.f1
      go_wp2
      exact bodyPost_ret (v := .tuple #[.agg #[.int .i64 0, .int .i64 0], .int .i64 4]) (by simp [results, Try.results14, go_sem, *]) rfl ⟨rfl, by go_grown⟩
end Go.Proofs.Ytafheinapjfbaaa
