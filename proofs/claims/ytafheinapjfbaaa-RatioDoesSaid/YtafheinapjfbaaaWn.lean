/- The walk of awake, and of the law RatioMakes. -/
import Derived.Test.YtafheinapjfbaaaWl
namespace Go.Proofs.Ytafheinapjfbaaa
open Go.RowKit Go.Lib Go.BigFrame
theorem aw1 : mkN 6 (-4) = -3 := by decide +kernel
theorem aw2 : mkD 6 (-4) = 2 := by decide +kernel
theorem aw3 : mkE 6 (-4) = 0 := by decide +kernel
theorem aw4 : flr (-3) 2 = -2 := by decide +kernel
theorem aw5 : vldB (-3) 2 = true := by decide +kernel
set_option maxHeartbeats 400000 in
theorem awake_any (w : World) : Calls Try.prog 12 #[] w fun e w' => e = .returned (.bool true) ∧ Below w.heap.size w w' := by
  have c8 := fun w => make_any 6 (-4) w (by omega) (by omega) (by omega) (by omega)
  rw [aw1, aw2, aw3] at c8
  have c23 := fun w => floor_any (-3) 2 w (by omega) (by omega) (by omega) (by omega)
  rw [aw4] at c23
  have c10 := fun w => valid_any (-3) 2 w (by omega) (by omega) (by omega) (by omega)
  rw [aw5] at c10
  have C8 := Lib.hid c8; have C23 := Lib.hid c23; have C10 := Lib.hid c10; clear c8 c23 c10
  go_enter Try.func12, Try.ntmps12
  go_wp2_with fail
  refine (C8.out _).mono ?_
  rintro e w1 ⟨rfl, hb⟩
  have hB1 := bnext (w := w) (by go_grown) hb
  have zs1 := hB1.size
  clear hb
  go_wp2_with fail
  refine (C23.out _).mono ?_
  rintro e w2 ⟨rfl, hb⟩
  have hB2 := bnext (w := w) (by go_grown) hb
  have zs2 := hB2.size
  have bR : Blk2 w2 w1.heap.size 23 (.int .i64 (-3)) (.int .i64 2) := Blk2.new.below hb (by simp)
  clear hb
  have cn0 := bR.c0; have cn1 := bR.c1; have zn := bR.lt
  clear bR
  go_wp2_with fail
  refine (C10.out _).mono ?_
  rintro e w3 ⟨rfl, hb⟩
  have hB3 := bnext (w := w) (by go_grown) hb
  clear hb
  go_wp2
  go_ret
  exact ⟨rfl, by go_grown⟩
set_option maxHeartbeats 1000000 in
theorem law1_any (n d a b : Int) (w : World) (hn1 : -9223372036854775808 ≤ n) (hn2 : n < 9223372036854775808) (hd1 : -9223372036854775808 ≤ d) (hd2 : d < 9223372036854775808)
    (ha1 : -9223372036854775808 ≤ a) (ha2 : a < 9223372036854775808) (hb1 : -9223372036854775808 ≤ b) (hb2 : b < 9223372036854775808) :
    Calls Try.prog 3 #[.agg #[.int .i64 n, .int .i64 d], .int .i64 a, .int .i64 b] w fun e w' => e = .returned (.bool true) ∧ Below w.heap.size w w' := by
  have C8 := Lib.hid (fun w => make_any a b w ha1 ha2 hb1 hb2)
  have C9 := Lib.hid (fun w => rmake_any a b w ha1 ha2 hb1 hb2)
  have C10 := Lib.hid (fun w => valid_any n d w hn1 hn2 hd1 hd2)
  have C11 := Lib.hid (fun w => rvalid_any n d w hn1 hn2 hd1 hd2)
  clear ha1 ha2 hb1 hb2 hn1 hn2 hd1 hd2
  generalize mkN a b = r1 at *
  generalize mkD a b = r2 at *
  generalize mkE a b = r3 at *
  generalize vldB n d = v at *
  go_enter Try.func3, Try.ntmps3
  go_wp2_with fail
  refine (C8.out _).mono ?_
  rintro e w1 ⟨rfl, hb⟩
  have hB1 := bnext (w := w) (by go_grown) hb
  have zs1 := hB1.size
  have bR : Blk2 w1 w.heap.size 23 (.int .i64 n) (.int .i64 d) := Blk2.new.below hb (by simp)
  clear hb
  go_wp2_with fail
  refine (C9.out _).mono ?_
  rintro e w2 ⟨rfl, hb⟩
  have hB2 := bnext (w := w) (by go_grown) hb
  have zs2 := hB2.size
  have bR2 := (bR.alloc _).below hb (bR.alloc _).lt
  have bX : Blk2 w2 w1.heap.size 23 (.int .i64 r1) (.int .i64 r2) := Blk2.new.below hb (by simp)
  clear hb bR
  have cn0 := bR2.c0; have cn1 := bR2.c1; have zn := bR2.lt
  have cx0 := bX.c0; have cx1 := bX.c1; have zx := bX.lt
  clear bR2 bX
  go_wp2_with fail
  refine wp_region_over (by kernel_rfl) (by kernel_rfl) ?_
  repeat (go_big_quiet_step (first | (go_at_call 10; exact calls_over (C10.out _)) | (go_at_call 11; exact calls_over (C11.out _)) | (go_at_call 12; exact calls_over (awake_any _))))
  refine wpQuiet_nil ?_
  rintro _ ⟨x, rfl⟩
  have hB := bnext (w := w) (by go_grown) (over_below _ x)
  go_wp2
  go_ret
  exact ⟨rfl, by go_grown⟩
end Go.Proofs.Ytafheinapjfbaaa
