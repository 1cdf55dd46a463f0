/- Walks of the reference's Sub. -/
import Derived.Test.YtafheinapjfbaaaYd
namespace Go.Proofs.Ytafheinapjfbaaa
open Go.RowKit Go.Lib Go.BigFrame
/-- Sub's answer -/
def difN (n1 d1 n2 d2 : Int) : Int := if Vld n1 d1 ∧ Vld n2 d2 then redN (n1 * d2 + -n2 * d1) (d1.natAbs * d2.natAbs) else 0
def difD (n1 d1 n2 d2 : Int) : Int := if Vld n1 d1 ∧ Vld n2 d2 then redD (n1 * d2 + -n2 * d1) (d1.natAbs * d2.natAbs) else 0
def difE (n1 d1 n2 d2 : Int) : Int := if Vld n1 d1 ∧ Vld n2 d2 then redE (n1 * d2 + -n2 * d1) (d1.natAbs * d2.natAbs) else 4
set_option maxHeartbeats 1000000 in
theorem rSub_any (n1 d1 n2 d2 : Int) (w : World) (hn1 : -9223372036854775808 ≤ n1) (hn1' : n1 < 9223372036854775808) (hd1 : -9223372036854775808 ≤ d1) (hd1' : d1 < 9223372036854775808)
    (hn2 : -9223372036854775808 ≤ n2) (hn2' : n2 < 9223372036854775808) (hd2 : -9223372036854775808 ≤ d2) (hd2' : d2 < 9223372036854775808) :
    Calls Try.prog 16 #[.agg #[.int .i64 n1, .int .i64 d1], .agg #[.int .i64 n2, .int .i64 d2]] w fun e w' =>
      e = .returned (.tuple #[.agg #[.int .i64 (difN n1 d1 n2 d2), .int .i64 (difD n1 d1 n2 d2)], .int .i64 (difE n1 d1 n2 d2)]) ∧ Below w.heap.size w w' := by
  have cx := fun w => rvalid_any n1 d1 w hn1 hn1' hd1 hd1'
  have cy := fun w => rvalid_any n2 d2 w hn2 hn2' hd2 hd2'
  by_cases hx : Vld n1 d1
  · rw [vldB_true hx] at cx
    by_cases hy : Vld n2 d2
    · rw [vldB_true hy] at cy
      have hxy : Vld n1 d1 ∧ Vld n2 d2 := ⟨hx, hy⟩
      unfold difN difD difE
      rw [if_pos hxy, if_pos hxy, if_pos hxy]
      have b1 := vld_bd hx; have b2 := vld_bd hy
      have c14 := fun w => rAdd_any n1 d1 (-n2) d2 w hn1 hn1' hd1 hd1' (by omega) (by omega) hd2 hd2'
      have hy' : Vld (-n2) d2 := by unfold Vld at hy ⊢; rw [Int.natAbs_neg]; exact hy
      unfold addN addD addE at c14
      rw [if_pos ⟨hx, hy'⟩, if_pos ⟨hx, hy'⟩, if_pos ⟨hx, hy'⟩] at c14
      have C14 := Lib.hid c14
      have C42 := Lib.hid (fun w => rneg_any n2 d2 (by omega) (by omega) w)
      have CX := Lib.hid cx; have CY := Lib.hid cy
      clear c14 cx cy hx hy hy' hxy hn1 hn1' hd1 hd1' hn2 hn2' hd2 hd2' b1 b2
      generalize redN (n1 * d2 + -n2 * d1) (d1.natAbs * d2.natAbs) = r1 at *
      generalize redD (n1 * d2 + -n2 * d1) (d1.natAbs * d2.natAbs) = r2 at *
      generalize redE (n1 * d2 + -n2 * d1) (d1.natAbs * d2.natAbs) = r3 at *
      go_enter Try.func16, Try.ntmps16
      go_wp2_with fail
      refine (CX.out _).mono ?_
      rintro e w1 ⟨rfl, hb⟩
      have hB1 := bnext (w := w) (by go_grown) hb
      have bX : Blk2 w1 w.heap.size 23 (.int .i64 n1) (.int .i64 d1) := ((Blk2.new.alloc _).alloc _).below hb (by simp; omega)
      have bY : Blk2 w1 (w.heap.size + 1) 23 (.int .i64 n2) (.int .i64 d2) := ((Blk2.new' (by simp)).alloc _).below hb (by simp)
      have bR : Blk2 w1 (w.heap.size + 1 + 1) 23 (.int .i64 0) (.int .i64 0) := (Blk2.new' (by simp)).below hb (by simp)
      clear hb
      have cy0 := bY.c0; have cy1 := bY.c1; have zy := bY.lt
      go_wp2_with fail
      refine (CY.out _).mono ?_
      rintro e w2 ⟨rfl, hb⟩
      have hB2 := bnext (w := w) (by go_grown) hb
      have bX2 := bX.below hb bX.lt; have bY2 := bY.below hb bY.lt; have bR2 := bR.below hb bR.lt
      clear hb bX bY bR cy0 cy1 zy hB1
      have cx0 := bX2.c0; have cx1 := bX2.c1; have zx := bX2.lt
      have cy0 := bY2.c0; have cy1 := bY2.c1; have zy := bY2.lt
      go_wp2_with fail
      refine wp_region_over_tail 6 (by kernel_rfl) (by kernel_rfl) ?_
      simp only [List.take_succ_cons, List.take_zero, List.drop_succ_cons, List.drop_zero]
      repeat (go_big_quiet_step (first | (go_at_call 42; exact calls_over (C42.out _)) | (go_at_call 14; exact calls_over (C14.out _))))
      refine wpQuiet_nil ?_
      rintro _ ⟨x1, rfl⟩
      have hb := over_below _ x1
      generalize over _ x1 = w3 at *
      have hB3 := bnext (w := w) (by go_grown) hb
      have bR3 := bR2.below hb bR2.lt
      clear hb x1 bX2 bY2 bR2 cx0 cx1 zx cy0 cy1 zy hB2
      have cr0 := bR3.c0; have cr1 := bR3.c1; have zr := bR3.lt; have fr0 := bR3.f0; have fr1 := bR3.f1
      go_wp2
      exact bodyPost_ret (v := .tuple #[.agg #[.int .i64 r1, .int .i64 r2], .int .i64 r3]) (by simp [results, Try.results16, go_sem, *]) rfl ⟨rfl, by go_grown⟩
    · rw [vldB_false hy] at cy
      have hxy : ¬ (Vld n1 d1 ∧ Vld n2 d2) := fun h => hy h.2
      unfold difN difD difE
      rw [if_neg hxy, if_neg hxy, if_neg hxy]
      have CX := Lib.hid cx; have CY := Lib.hid cy; clear cx cy hx hy hxy hn1 hn1' hd1 hd1' hn2 hn2' hd2 hd2'
      go_enter Try.func16, Try.ntmps16
      go_wp2_with fail
      refine (CX.out _).mono ?_
      rintro e w1 ⟨rfl, hb⟩
      have hB1 := bnext (w := w) (by go_grown) hb
      have bX : Blk2 w1 w.heap.size 23 (.int .i64 n1) (.int .i64 d1) := ((Blk2.new.alloc _).alloc _).below hb (by simp; omega)
      have bY : Blk2 w1 (w.heap.size + 1) 23 (.int .i64 n2) (.int .i64 d2) := ((Blk2.new' (by simp)).alloc _).below hb (by simp)
      have bR : Blk2 w1 (w.heap.size + 1 + 1) 23 (.int .i64 0) (.int .i64 0) := (Blk2.new' (by simp)).below hb (by simp)
      clear hb
      have cy0 := bY.c0; have cy1 := bY.c1; have zy := bY.lt
      go_wp2_with fail
      refine (CY.out _).mono ?_
      rintro e w2 ⟨rfl, hb⟩
      have hB2 := bnext (w := w) (by go_grown) hb
      have bX2 := bX.below hb bX.lt; have bY2 := bY.below hb bY.lt; have bR2 := bR.below hb bR.lt
      clear hb bX bY bR cy0 cy1 zy hB1
      have cr0 := bR2.c0; have cr1 := bR2.c1; have zr := bR2.lt; have fr0 := bR2.f0; have fr1 := bR2.f1
      go_wp2
      exact bodyPost_ret (v := .tuple #[.agg #[.int .i64 0, .int .i64 0], .int .i64 4]) (by simp [results, Try.results16, go_sem, *]) rfl ⟨rfl, by go_grown⟩
  · rw [vldB_false hx] at cx
    have hxy : ¬ (Vld n1 d1 ∧ Vld n2 d2) := fun h => hx h.1
    unfold difN difD difE
    rw [if_neg hxy, if_neg hxy, if_neg hxy]
    have CX := Lib.hid cx; clear cx cy hx hxy hn1 hn1' hd1 hd1' hn2 hn2' hd2 hd2'
    · skip
      go_enter Try.func16, Try.ntmps16
      go_wp2_with fail
      refine (CX.out _).mono ?_
      rintro e w1 ⟨rfl, hb⟩
      have hB1 := bnext (w := w) (by go_grown) hb
      have bX : Blk2 w1 w.heap.size 23 (.int .i64 n1) (.int .i64 d1) := ((Blk2.new.alloc _).alloc _).below hb (by simp; omega)
      have bY : Blk2 w1 (w.heap.size + 1) 23 (.int .i64 n2) (.int .i64 d2) := ((Blk2.new' (by simp)).alloc _).below hb (by simp)
      have bR : Blk2 w1 (w.heap.size + 1 + 1) 23 (.int .i64 0) (.int .i64 0) := (Blk2.new' (by simp)).below hb (by simp)
      clear hb
      have cr0 := bR.c0; have cr1 := bR.c1; have zr := bR.lt; have fr0 := bR.f0; have fr1 := bR.f1
      go_wp2
      exact bodyPost_ret (v := .tuple #[.agg #[.int .i64 0, .int .i64 0], .int .i64 4]) (by simp [results, Try.results16, go_sem, *]) rfl ⟨rfl, by go_grown⟩
end Go.Proofs.Ytafheinapjfbaaa
