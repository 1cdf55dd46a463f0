/- Div of ratio as a function of integers. -/
import Derived.Test.YtafheinapjfbaaaWs
namespace Go.Proofs.Ytafheinapjfbaaa
open Go.RowKit Go.Lib Go.BigFrame
set_option maxHeartbeats 1000000 in
theorem div_any (n1 d1 n2 d2 : Int) (w : World) (hn1 : -9223372036854775808 ≤ n1) (hn1' : n1 < 9223372036854775808) (hd1 : -9223372036854775808 ≤ d1) (hd1' : d1 < 9223372036854775808)
    (hn2 : -9223372036854775808 ≤ n2) (hn2' : n2 < 9223372036854775808) (hd2 : -9223372036854775808 ≤ d2) (hd2' : d2 < 9223372036854775808) :
    Calls Try.prog 19 #[.agg #[.int .i64 n1, .int .i64 d1], .agg #[.int .i64 n2, .int .i64 d2]] w fun e w' =>
      e = .returned (.tuple #[.agg #[.int .i64 (divN n1 d1 n2 d2), .int .i64 (divD n1 d1 n2 d2)], .int .i64 (divE n1 d1 n2 d2)]) ∧ Below w.heap.size w w' := by
  have cx := fun w => valid_any n1 d1 w hn1 hn1' hd1 hd1'
  have cy := fun w => valid_any n2 d2 w hn2 hn2' hd2 hd2'
  by_cases hx : Vld n1 d1
  · rw [vldB_true hx] at cx
    by_cases hy : Vld n2 d2
    · rw [vldB_true hy] at cy
      have hxy : Vld n1 d1 ∧ Vld n2 d2 := ⟨hx, hy⟩
      unfold divN divD divE
      rw [if_pos hxy, if_pos hxy, if_pos hxy]
      by_cases hz : n2 = 0
      · skip
        subst hz
        rw [if_pos rfl, if_pos rfl, if_pos rfl]
        have CX := Lib.hid cx; have CY := Lib.hid cy; clear cx cy hxy hx hy hn1 hn1' hd1 hd1' hn2 hn2' hd2 hd2'
        go_enter Try.func19, Try.ntmps19
        go_wp2_with fail
        refine (CX.out _).mono ?_
        rintro e w1 ⟨rfl, hb⟩
        have hB1 := bnext (w := w) (by go_grown) hb
        have bX : Blk2 w1 w.heap.size 23 (.int .i64 n1) (.int .i64 d1) := ((Blk2.new.alloc _).alloc _).below hb (by simp; omega)
        have bY : Blk2 w1 (w.heap.size + 1) 23 (.int .i64 0) (.int .i64 d2) := ((Blk2.new' (by simp)).alloc _).below hb (by simp)
        have bR : Blk2 w1 (w.heap.size + 1 + 1) 23 (.int .i64 0) (.int .i64 0) := (Blk2.new' (by simp)).below hb (by simp)
        clear hb
        have cy0 := bY.c0; have cy1 := bY.c1; have zy := bY.lt
        go_wp2_with fail
        refine (CY.out _).mono ?_
        rintro e w2 ⟨rfl, hb⟩
        have hB2 := bnext (w := w) (by go_grown) hb
        have bX2 := bX.below hb bX.lt; have bY2 := bY.below hb bY.lt; have bR2 := bR.below hb bR.lt
        clear hb bX bY bR cy0 cy1 zy
        have cx0 := bX2.c0; have cx1 := bX2.c1; have zx := bX2.lt
        have cy0 := bY2.c0; have cy1 := bY2.c1; have zy := bY2.lt
        have cr0 := bR2.c0; have cr1 := bR2.c1; have zr := bR2.lt; have fr0 := bR2.f0; have fr1 := bR2.f1
        go_wp2
        exact bodyPost_ret (v := .tuple #[.agg #[.int .i64 0, .int .i64 0], .int .i64 2]) (by simp [results, Try.results19, go_sem, *]) rfl ⟨rfl, by go_grown⟩
      by_cases hs : n2 < 0
      · skip
        rw [if_neg hz, if_neg hz, if_neg hz, if_pos hs, if_pos hs, if_pos hs]
        have c43 := fun w => prod_ans n1 (-d2) d1 (-n2) hx (by have := hy.2.2.1; have := hy.2.1; omega) (by omega) (by have := hy.1; omega) (by rw [Int.natAbs_neg, Int.natAbs_neg, Nat.gcd_comm]; exact hy.2.2.2) w
        rw [Int.natAbs_neg] at c43
        have C43 := Lib.hid c43; clear c43
        have y1 := hy.2.1; have y2 := hy.2.2.1; have y3 : -1152921504606846976 ≤ n2 := by (have := hy.1; omega)
        generalize redN (n1 * -d2) (d1.natAbs * n2.natAbs) = s1 at *
        generalize redD (n1 * -d2) (d1.natAbs * n2.natAbs) = s2 at *
        generalize redE (n1 * -d2) (d1.natAbs * n2.natAbs) = s3 at *
        have hz0 : (n2 == 0) = false := by simpa using hz
        have CX := Lib.hid cx; have CY := Lib.hid cy; clear cx cy hxy hx hy hn1 hn1' hd1 hd1' hn2 hn2' hd2 hd2' hz
        go_enter Try.func19, Try.ntmps19
        go_wp2_with fail
        refine (CX.out _).mono ?_
        rintro e w1 ⟨rfl, hb⟩
        have hB1 := bnext (w := w) (by go_grown) hb
        have bX : Blk2 w1 w.heap.size 23 (.int .i64 n1) (.int .i64 d1) := ((Blk2.new.alloc _).alloc _).below hb (by simp; omega)
        have bY : Blk2 w1 (w.heap.size + 1) 23 (.int .i64 n2) (.int .i64 d2) := ((Blk2.new' (by simp)).alloc _).below hb (by simp)
        have bR : Blk2 w1 (w.heap.size + 1 + 1) 23 (.int .i64 0) (.int .i64 0) := (Blk2.new' (by simp)).below hb (by simp)
        clear hb
        have cy0 := bY.c0; have cy1 := bY.c1; have zy := bY.lt
        go_wp2_with fail
        refine (CY.out _).mono ?_
        rintro e w2 ⟨rfl, hb⟩
        have hB2 := bnext (w := w) (by go_grown) hb
        have bX2 := bX.below hb bX.lt; have bY2 := bY.below hb bY.lt; have bR2 := bR.below hb bR.lt
        clear hb bX bY bR cy0 cy1 zy
        have cx0 := bX2.c0; have cx1 := bX2.c1; have zx := bX2.lt
        have cy0 := bY2.c0; have cy1 := bY2.c1; have zy := bY2.lt
        go_wp2_with fail
        refine (C43.out _).mono ?_
        rintro e w3 ⟨rfl, hb⟩
        have hB3 := bnext (w := w) (by go_grown) hb
        have bR3 := bR2.below hb bR2.lt
        clear hb bX2 bY2 bR2 cx0 cx1 zx cy0 cy1 zy
        have cr0 := bR3.c0; have cr1 := bR3.c1; have zr := bR3.lt; have fr0 := bR3.f0; have fr1 := bR3.f1
        go_wp2
        exact bodyPost_ret (v := .tuple #[.agg #[.int .i64 s1, .int .i64 s2], .int .i64 s3]) (by simp [results, Try.results19, go_sem, *]) rfl ⟨rfl, by go_grown⟩
      · skip
        rw [if_neg hz, if_neg hz, if_neg hz, if_neg hs, if_neg hs, if_neg hs]
        have C43 := Lib.hid (fun w => prod_ans n1 d2 d1 n2 hx (by have := hy.2.2.1; have := hy.2.1; omega) (by omega) (by have := hy.1; omega) (by rw [Nat.gcd_comm]; exact hy.2.2.2) w)
        generalize redN (n1 * d2) (d1.natAbs * n2.natAbs) = s1 at *
        generalize redD (n1 * d2) (d1.natAbs * n2.natAbs) = s2 at *
        generalize redE (n1 * d2) (d1.natAbs * n2.natAbs) = s3 at *
        have hz0 : (n2 == 0) = false := by simpa using hz
        have CX := Lib.hid cx; have CY := Lib.hid cy; clear cx cy hxy hx hy hn1 hn1' hd1 hd1' hn2 hn2' hd2 hd2' hz
        go_enter Try.func19, Try.ntmps19
        go_wp2_with fail
        refine (CX.out _).mono ?_
        rintro e w1 ⟨rfl, hb⟩
        have hB1 := bnext (w := w) (by go_grown) hb
        have bX : Blk2 w1 w.heap.size 23 (.int .i64 n1) (.int .i64 d1) := ((Blk2.new.alloc _).alloc _).below hb (by simp; omega)
        have bY : Blk2 w1 (w.heap.size + 1) 23 (.int .i64 n2) (.int .i64 d2) := ((Blk2.new' (by simp)).alloc _).below hb (by simp)
        have bR : Blk2 w1 (w.heap.size + 1 + 1) 23 (.int .i64 0) (.int .i64 0) := (Blk2.new' (by simp)).below hb (by simp)
        clear hb
        have cy0 := bY.c0; have cy1 := bY.c1; have zy := bY.lt
        go_wp2_with fail
        refine (CY.out _).mono ?_
        rintro e w2 ⟨rfl, hb⟩
        have hB2 := bnext (w := w) (by go_grown) hb
        have bX2 := bX.below hb bX.lt; have bY2 := bY.below hb bY.lt; have bR2 := bR.below hb bR.lt
        clear hb bX bY bR cy0 cy1 zy
        have cx0 := bX2.c0; have cx1 := bX2.c1; have zx := bX2.lt
        have cy0 := bY2.c0; have cy1 := bY2.c1; have zy := bY2.lt
        go_wp2_with fail
        refine (C43.out _).mono ?_
        rintro e w3 ⟨rfl, hb⟩
        have hB3 := bnext (w := w) (by go_grown) hb
        have bR3 := bR2.below hb bR2.lt
        clear hb bX2 bY2 bR2 cx0 cx1 zx cy0 cy1 zy
        have cr0 := bR3.c0; have cr1 := bR3.c1; have zr := bR3.lt; have fr0 := bR3.f0; have fr1 := bR3.f1
        go_wp2
        exact bodyPost_ret (v := .tuple #[.agg #[.int .i64 s1, .int .i64 s2], .int .i64 s3]) (by simp [results, Try.results19, go_sem, *]) rfl ⟨rfl, by go_grown⟩
    · rw [vldB_false hy] at cy
      have hxy : ¬ (Vld n1 d1 ∧ Vld n2 d2) := fun h => hy h.2
      unfold divN divD divE
      rw [if_neg hxy, if_neg hxy, if_neg hxy]
      have CX := Lib.hid cx; have CY := Lib.hid cy; clear cx cy hx hy hxy hn1 hn1' hd1 hd1' hn2 hn2' hd2 hd2'
      go_enter Try.func19, Try.ntmps19
      go_wp2_with fail
      refine (CX.out _).mono ?_
      rintro e w1 ⟨rfl, hb⟩
      have hB1 := bnext (w := w) (by go_grown) hb
      have bY : Blk2 w1 (w.heap.size + 1) 23 (.int .i64 n2) (.int .i64 d2) := ((Blk2.new' (by simp)).alloc _).below hb (by simp)
      have bR : Blk2 w1 (w.heap.size + 1 + 1) 23 (.int .i64 0) (.int .i64 0) := (Blk2.new' (by simp)).below hb (by simp)
      clear hb
      have cy0 := bY.c0; have cy1 := bY.c1; have zy := bY.lt
      go_wp2_with fail
      refine (CY.out _).mono ?_
      rintro e w2 ⟨rfl, hb⟩
      have hB2 := bnext (w := w) (by go_grown) hb
      have bR2 := bR.below hb bR.lt
      clear hb bY bR cy0 cy1 zy
      have cr0 := bR2.c0; have cr1 := bR2.c1; have zr := bR2.lt; have fr0 := bR2.f0; have fr1 := bR2.f1
      go_wp2
      exact bodyPost_ret (v := .tuple #[.agg #[.int .i64 0, .int .i64 0], .int .i64 4]) (by simp [results, Try.results19, go_sem, *]) rfl ⟨rfl, by go_grown⟩
  · rw [vldB_false hx] at cx
    have hxy : ¬ (Vld n1 d1 ∧ Vld n2 d2) := fun h => hx h.1
    unfold divN divD divE
    rw [if_neg hxy, if_neg hxy, if_neg hxy]
    have CX := Lib.hid cx; clear cx cy hx hxy hn1 hn1' hd1 hd1' hn2 hn2' hd2 hd2'
    go_enter Try.func19, Try.ntmps19
    go_wp2_with fail
    refine (CX.out _).mono ?_
    rintro e w1 ⟨rfl, hb⟩
    have hB1 := bnext (w := w) (by go_grown) hb
    have bR : Blk2 w1 (w.heap.size + 1 + 1) 23 (.int .i64 0) (.int .i64 0) := (Blk2.new' (by simp)).below hb (by simp)
    clear hb
    have cr0 := bR.c0; have cr1 := bR.c1; have zr := bR.lt; have fr0 := bR.f0; have fr1 := bR.f1
    go_wp2
    exact bodyPost_ret (v := .tuple #[.agg #[.int .i64 0, .int .i64 0], .int .i64 4]) (by simp [results, Try.results19, go_sem, *]) rfl ⟨rfl, by go_grown⟩
end Go.Proofs.Ytafheinapjfbaaa
