/- The walk of the law RatioLimits. -/
import Derived.Test.YtincfllhmfidoaaWv
namespace Go.Proofs.Ytincfllhmfidoaa
open Go.RowKit Go.Lib Go.BigFrame
theorem emod_nat (a : Int) (k : Nat) (hk : 0 < k) : ∃ x : Nat, a % (k : Int) = x ∧ x < k := by
  have h1 := Int.emod_nonneg a (b := (k : Int)) (by omega)
  have h2 := Int.emod_lt_of_pos a (b := (k : Int)) (by omega)
  exact ⟨(a % k).toNat, by omega, by omega⟩
theorem mod_at (a : Int) (k x : Nat) (hk : 1 ≤ k) (hk2 : k ≤ 100000) (hx : a % (k : Int) = x) (w : World) : Calls Try.prog 26 #[.int .i64 a, .int .i64 (k : Int)] w fun e w' => e = .returned (.int .i64 x) ∧ w' = w := by
  have := mod_any a k w (by omega) (by omega)
  rwa [hx] at this
theorem mod_at_small {a : Int} {k x : Nat} (h : a % (k : Int) = x) (hk : 0 < k) : x < k := by
  have h2 := Int.emod_lt_of_pos a (b := (k : Int)) (by omega)
  omega
theorem mk_bd (a b : Int) : (-1152921504606846976 ≤ mkN a b ∧ mkN a b ≤ 1152921504606846976) ∧ (-1152921504606846976 ≤ mkD a b ∧ mkD a b ≤ 1152921504606846976) := by
  unfold mkN mkD nrN nrD
  constructor <;> split <;> try omega
  all_goals split <;> omega
set_option maxHeartbeats 1000000 in
theorem law5_any (a b k : Int) (w : World) (ha1 : -9223372036854775808 ≤ a) (ha2 : a < 9223372036854775808) (hb1 : -9223372036854775808 ≤ b) (hb2 : b < 9223372036854775808)
    (hk1 : -9223372036854775808 ≤ k) (hk2 : k < 9223372036854775808) :
    Calls Try.prog 7 #[.int .i64 a, .int .i64 b, .int .i64 k] w fun e w' => e = .returned (.bool true) ∧ Below w.heap.size w w' := by
  obtain ⟨x, hx, hx'⟩ := emod_nat a 1000 (by omega)
  obtain ⟨y, hy, hy'⟩ := emod_nat b 1000 (by omega)
  obtain ⟨z, hz, hz'⟩ := emod_nat k 100000 (by omega)
  have CMx := Lib.hid (mod_at a 1000 x (by omega) (by omega) hx)
  have CMy := Lib.hid (mod_at b 1000 y (by omega) (by omega) hy)
  have CMz := Lib.hid (mod_at k 100000 z (by omega) (by omega) hz)
  obtain ⟨big, hbig⟩ : ∃ big : Nat, (1152921504606846976 : Int) - z = big := ⟨1152921504606846976 - z, by omega⟩
  obtain ⟨l1, l2, l3, l4, l5, l6, l7, l8, l9⟩ := limits (1 + x) (1 + y) big (by omega) (by omega) (by omega) (by omega) (by omega) (by omega)
  have ex : ((1 + x : Nat) : Int) = 1 + (x : Int) := by omega
  have ey : ((1 + y : Nat) : Int) = 1 + (y : Int) := by omega
  have o1 := mk_bd (big : Int) 1
  have o2 := mk_bd (2 + ((1 + x : Nat) : Int)) 1
  have o3 := mk_bd (big : Int) ((1 + x : Nat) : Int)
  have o4 := mk_bd ((1 + y : Nat) : Int) (big : Int)
  have cX := fun w => make_any big (1 + x : Nat) w (by omega) (by omega) (by omega) (by omega)
  have cY := fun w => make_any (1 + y : Nat) big w (by omega) (by omega) (by omega) (by omega)
  have cP := fun w => mul_any (mkN big (1 + x : Nat)) (mkD big (1 + x : Nat)) (mkN (1 + y : Nat) big) (mkD (1 + y : Nat) big) w (by omega) (by omega) (by omega) (by omega) (by omega) (by omega) (by omega) (by omega)
  have cQ := fun w => div_any (mkN big (1 + x : Nat)) (mkD big (1 + x : Nat)) (mkN big (1 + x : Nat)) (mkD big (1 + x : Nat)) w (by omega) (by omega) (by omega) (by omega) (by omega) (by omega) (by omega) (by omega)
  have cO1 := fun w => of_any big 1 w (by omega) (by omega) (by omega) (by omega)
  have cO2 := fun w => of_any (2 + (1 + x : Nat)) 1 w (by omega) (by omega) (by omega) (by omega)
  have cO3 := fun w => of_any (1 + y : Nat) (1 + x : Nat) w (by omega) (by omega) (by omega) (by omega)
  have cL := fun w => mul_any (mkN big 1) (mkD big 1) (mkN (2 + (1 + x : Nat)) 1) (mkD (2 + (1 + x : Nat)) 1) w (by omega) (by omega) (by omega) (by omega) (by omega) (by omega) (by omega) (by omega)
  rw [l1] at cX; rw [l2] at cY; rw [l3, l4, l5] at cP; rw [l6, l7, l8] at cQ; rw [l9] at cL
  clear l1 l2 l3 l4 l5 l6 l7 l8 l9 o1 o2 o3 o4
  rw [ex] at cX cP cQ cO2 cO3 cL
  rw [ey] at cY cP cO3
  generalize mkN big (1 + (x : Int)) = x1 at *
  generalize mkD big (1 + (x : Int)) = x2 at *
  generalize mkN (1 + (y : Int)) big = y1 at *
  generalize mkD (1 + (y : Int)) big = y2 at *
  generalize mkN (1 + (y : Int)) (1 + (x : Int)) = z1 at *
  generalize mkD (1 + (y : Int)) (1 + (x : Int)) = z2 at *
  generalize mkN big 1 = u1 at *
  generalize mkD big 1 = u2 at *
  generalize mkN (2 + (1 + (x : Int))) 1 = t1 at *
  generalize mkD (2 + (1 + (x : Int))) 1 = t2 at *
  generalize mulN u1 u2 t1 t2 = s1 at *
  generalize mulD u1 u2 t1 t2 = s2 at *
  have CX := Lib.hid cX; have CY := Lib.hid cY; have CP := Lib.hid cP; have CQ := Lib.hid cQ; have CL := Lib.hid cL
  have C1 := Lib.hid cO1; have C2 := Lib.hid cO2; have C3 := Lib.hid cO3
  clear cX cY cP cQ cL cO1 cO2 cO3 hx hy hz ex ey ha1 ha2 hb1 hb2 hk1 hk2
  have HBig := Lib.hid hbig
  have hzz : z ≤ 99999 := by omega
  clear hbig hz'
  go_enter Try.func7, Try.ntmps7
  go_wp2_with fail
  refine (CMx.out _).mono ?_
  rintro e w' ⟨rfl, hww⟩; obtain rfl : w = w' := hww.symm
  go_wp2_with fail
  refine (CMy.out _).mono ?_
  rintro e w' ⟨rfl, hww⟩; obtain rfl : w = w' := hww.symm
  go_wp2_with fail
  refine (CMz.out _).mono ?_
  rintro e w' ⟨rfl, hww⟩; obtain rfl : w = w' := hww.symm
  go_wp2_with fail
  rw [HBig.out]
  refine (CX.out _).mono ?_
  rintro e w1 ⟨rfl, hb⟩
  have hB1 := bnext (w := w) (by go_grown) hb
  have zs1 := hB1.size
  clear hb
  go_wp2_with fail
  refine (CY.out _).mono ?_
  rintro e w2 ⟨rfl, hb⟩
  have hB2 := bnext (w := w) (by go_grown) hb
  have bX : Blk2 w2 w1.heap.size 23 (.int .i64 x1) (.int .i64 x2) := Blk2.new.below hb (by simp)
  have zs2 := hB2.size
  clear hb
  have cx0 := bX.c0; have cx1 := bX.c1; have zx := bX.lt
  go_wp2_with fail
  refine (CP.out _).mono ?_
  rintro e w3 ⟨rfl, hb⟩
  have hB3 := bnext (w := w) (by go_grown) hb
  have bX3 := (bX.alloc _).below hb (bX.alloc _).lt
  have zs3 := hB3.size
  clear hb bX cx0 cx1 zx
  have cx0 := bX3.c0; have cx1 := bX3.c1; have zx := bX3.lt
  go_wp2_with fail
  refine (CQ.out _).mono ?_
  rintro e w4 ⟨rfl, hb⟩
  have hB4 := bnext (w := w) (by go_grown) hb
  have bZ : Blk2 w4 w3.heap.size 23 (.int .i64 z1) (.int .i64 z2) := Blk2.new.below hb (by simp)
  have zs4 := hB4.size
  clear hb bX3 cx0 cx1 zx
  have cz0 := bZ.c0; have cz1 := bZ.c1; have zz := bZ.lt
  go_wp2_with fail
  refine (C1.out _).mono ?_
  rintro e w5 ⟨rfl, hb⟩
  have hB5 := bnext (w := w) (by go_grown) hb
  have bZ5 := (bZ.alloc _).below hb (bZ.alloc _).lt
  have bV : Blk2 w5 w4.heap.size 23 (.int .i64 1) (.int .i64 1) := Blk2.new.below hb (by simp)
  have zs5 := hB5.size
  clear hb bZ cz0 cz1 zz
  go_wp2_with fail
  refine (C2.out _).mono ?_
  rintro e w6 ⟨rfl, hb⟩
  have hB6 := bnext (w := w) (by go_grown) hb
  have bZ6 := bZ5.below hb bZ5.lt
  have bV6 := bV.below hb bV.lt
  have zs6 := hB6.size
  clear hb bZ5 bV
  go_wp2_with fail
  refine (CL.out _).mono ?_
  rintro e w7 ⟨rfl, hb⟩
  have hB7 := bnext (w := w) (by go_grown) hb
  have bZ7 := bZ6.below hb bZ6.lt
  have bV7 := bV6.below hb bV6.lt
  have zs7 := hB7.size
  clear hb bZ6 bV6
  have cz0 := bZ7.c0; have cz1 := bZ7.c1; have zz := bZ7.lt
  have cv0 := bV7.c0; have cv1 := bV7.c1; have zv := bV7.lt
  go_wp2_with fail
  refine wp_region_over (by kernel_rfl) (by kernel_rfl) ?_
  repeat (go_big_quiet_step (first | (go_at_call 27; exact calls_over (C3.out _)) | (go_at_call 12; exact calls_over (awake_any _))))
  refine wpQuiet_nil ?_
  rintro _ ⟨xx, rfl⟩
  have hB := bnext (w := w) (by go_grown) (over_below _ xx)
  go_wp2
  go_ret
  exact ⟨rfl, by go_grown⟩
end Go.Proofs.Ytincfllhmfidoaa
