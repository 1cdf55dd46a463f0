/- Walks of joined. -/
import Derived.Test.YtafheinapjfbaaaXb
namespace Go.Proofs.Ytafheinapjfbaaa
open Go.RowKit Go.Lib Go.BigFrame
set_option maxHeartbeats 600000 in
theorem joined_plus (n1 n2 : Int) (d1 d2 : Nat) (w : World) (hx : Vld n1 d1) (hy : Vld n2 d2) (s u v c t : Nat) (num a : Int) (q1 q2 r2 : Nat)
    (hs : s = Nat.gcd d1 d2) (hu : u = d1 / s) (hv : v = d2 / s) (hnum : num = n1 * v + n2 * u) (hc : c = Nat.gcd (num.natAbs % s) s) (ht : t = d2 / c) (ha : a = num.tdiv c)
    (hD1 : D64 (hN num.natAbs % s) (lN num.natAbs) s q1 (num.natAbs % s)) (hq2 : q2 = ((hN num.natAbs % c) * 18446744073709551616 + lN num.natAbs) / c) (hq2' : q2 < 18446744073709551616)
    (hD2 : D64 (hN num.natAbs % c) (lN num.natAbs) c q2 r2) :
    Calls Try.prog 35 #[.agg #[.int .i64 n1, .int .i64 d1], .agg #[.int .i64 n2, .int .i64 d2], .func (.func 36) #[] #[]] w fun e w' =>
      e = .returned (.tuple #[.agg #[.int .i64 (nrN a (u * t)), .int .i64 (nrD a (u * t))], .int .i64 (nrE a (u * t))]) ∧ Below w.heap.size w w' := by
  obtain ⟨hn1, hd1, hd1', _⟩ := id hx
  obtain ⟨hn2, hd2, hd2', _⟩ := id hy
  have hs0 : 1 ≤ s := by rw [hs]; exact Nat.gcd_pos_of_pos_right _ (by omega)
  have hs1 : s ≤ 1152921504606846976 := by rw [hs]; exact Nat.le_trans (Nat.gcd_le_right _ (by omega)) (by omega)
  have hc0 : 1 ≤ c := by rw [hc]; exact Nat.gcd_pos_of_pos_right _ hs0
  have hc1 : c ≤ 1152921504606846976 := by rw [hc]; exact Nat.le_trans (Nat.gcd_le_right _ hs0) hs1
  have hu1 : u ≤ 1152921504606846976 := by rw [hu]; exact Nat.le_trans (Nat.div_le_self _ _) (by omega)
  have hv1 : v ≤ 1152921504606846976 := by rw [hv]; exact Nat.le_trans (Nat.div_le_self _ _) (by omega)
  have ht1 : t ≤ 1152921504606846976 := by rw [ht]; exact Nat.le_trans (Nat.div_le_self _ _) (by omega)
  have pa : (n1 * (v : Int)).natAbs ≤ 1152921504606846976 * 1152921504606846976 := by rw [Int.natAbs_mul]; exact Nat.mul_le_mul hn1 (by omega)
  have pb : (n2 * (u : Int)).natAbs ≤ 1152921504606846976 * 1152921504606846976 := by rw [Int.natAbs_mul]; exact Nat.mul_le_mul hn2 (by omega)
  have pn : num.natAbs ≤ 2658455991569831745807614120560689152 := by
    rw [hnum]; generalize n1 * (v : Int) = x at *; generalize n2 * (u : Int) = y at *; omega
  have ba : a.natAbs ≤ 2658455991569831745807614120560689152 := by rw [ha, Int.natAbs_tdiv]; exact Nat.le_trans (Nat.div_le_self _ _) pn
  have hsw := sw_hilo num (by omega) (by omega)
  have hswa := sw_hilo a (by omega) (by omega)
  have CX : Hid (∀ w, Calls Try.prog 10 #[.agg #[.int .i64 n1, .int .i64 d1]] w fun e w' => e = .returned (.bool true) ∧ Below w.heap.size w w') := by
    refine Lib.hid fun w => ?_; have := valid_any n1 d1 w (by omega) (by omega) (by omega) (by omega); rwa [vldB_true hx] at this
  have CY : Hid (∀ w, Calls Try.prog 10 #[.agg #[.int .i64 n2, .int .i64 d2]] w fun e w' => e = .returned (.bool true) ∧ Below w.heap.size w w') := by
    refine Lib.hid fun w => ?_; have := valid_any n2 d2 w (by omega) (by omega) (by omega) (by omega); rwa [vldB_true hy] at this
  have Cd1 : Hid (∀ w, Calls Try.prog 28 #[.int .i64 (d1 : Int)] w fun e w' => e = .returned (.int .u64 (d1 : Int)) ∧ w' = w) := by
    refine Lib.hid fun w => ?_; have := mag_any d1 w (by omega) (by omega); rwa [Int.natAbs_natCast] at this
  have Cd2 : Hid (∀ w, Calls Try.prog 28 #[.int .i64 (d2 : Int)] w fun e w' => e = .returned (.int .u64 (d2 : Int)) ∧ w' = w) := by
    refine Lib.hid fun w => ?_; have := mag_any d2 w (by omega) (by omega); rwa [Int.natAbs_natCast] at this
  have Cs : Hid (∀ w, Calls Try.prog 29 #[.int .u64 (d1 : Int), .int .u64 (d2 : Int)] w fun e w' => e = .returned (.int .u64 (s : Int)) ∧ ∃ n, w' = w.drewN n) := by
    rw [hs]; exact Lib.hid fun w => cd_any _ _ w (by omega) (by omega)
  have CK : Hid (∀ w, Calls Try.prog 44 #[.agg #[.int .i64 n1, .int .i64 u], .agg #[.int .i64 n2, .int .i64 v], .func (.func 36) #[] #[]] w fun e w' =>
      e = .returned (.agg #[.int .u64 (hiOf num : Nat), .int .u64 (loOf num : Nat)]) ∧ Below w.heap.size w w') := by
    rw [hnum]; exact Lib.hid fun w => cross_plus n1 u n2 v w (by omega) (by omega) (by omega) (by omega) (by omega) (by omega) (by omega) (by omega)
  have CR : Hid (∀ w, Calls Try.prog 48 #[.agg #[.int .u64 (hiOf num : Nat), .int .u64 (loOf num : Nat)], .int .u64 s] w fun e w' => e = .returned (.int .u64 (num.natAbs % s : Nat)) ∧ Below w.heap.size w w') := by
    refine Lib.hid fun w => ?_
    have := remainder_any (hiOf num) (loOf num) s q1 (hi_lt _) (lo_lt _) hs0 (by rw [hsw]; exact hD1) w
    rwa [hsw] at this
  have Cc : Hid (∀ w, Calls Try.prog 29 #[.int .u64 (num.natAbs % s : Nat), .int .u64 (s : Int)] w fun e w' => e = .returned (.int .u64 (c : Int)) ∧ ∃ n, w' = w.drewN n) := by
    rw [hc]; exact Lib.hid fun w => cd_any _ _ w (by have := Nat.mod_lt num.natAbs hs0; omega) (by omega)
  have CT' : Hid (∀ w, Calls Try.prog 49 #[.int .i64 u, .int .i64 t] w fun e w' => e = .returned (.agg #[.int .u64 (hiOf ((u : Int) * t) : Nat), .int .u64 (loOf ((u : Int) * t) : Nat)]) ∧ Below w.heap.size w w') :=
    Lib.hid fun w => times_any u t w (by omega) (by omega) (by omega) (by omega)
  have CQ : Hid (∀ w, Calls Try.prog 50 #[.agg #[.int .u64 (hiOf num : Nat), .int .u64 (loOf num : Nat)], .int .u64 c] w fun e w' => e = .returned (.agg #[.int .u64 (hiOf a : Nat), .int .u64 (loOf a : Nat)]) ∧ Below w.heap.size w w') := by
    refine Lib.hid fun w => ?_
    have := quotient_any (hiOf num) (loOf num) c q2 r2 (hi_lt _) (lo_lt _) hc0 (by rw [hsw]; exact hq2) hq2' (by rw [hsw]; exact hD2) w
    rwa [hsw, ← ha] at this
  have p2 : ((u : Int) * (t : Int)).natAbs ≤ 1152921504606846976 * 1152921504606846976 := by rw [Int.natAbs_mul]; exact Nat.mul_le_mul (by omega) (by omega)
  have c30 := fun w => narrowed_any (hiOf a) (loOf a) (hiOf ((u : Int) * (t : Int))) (loOf ((u : Int) * (t : Int))) w (hi_lt _) (lo_lt _) (hi_lt _) (lo_lt _)
  rw [hswa, sw_hilo _ (bd_of_abs _ p2).1 (bd_of_abs _ p2).2] at c30
  have C30 := Lib.hid c30; clear c30 p2
  have e1 : ((d1 : Int) / (s : Int)) = (u : Int) := by rw [hu]; exact (Int.natCast_ediv d1 s).symm
  have e2 : ((d2 : Int) / (s : Int)) = (v : Int) := by rw [hv]; exact (Int.natCast_ediv d2 s).symm
  have e3 : ((d2 : Int) / (c : Int)) = (t : Int) := by rw [ht]; exact (Int.natCast_ediv d2 c).symm
  have E1 : Hid (wrap64 ((d1 : Int) / (s : Int)) = (u : Int)) := by rw [e1]; exact Lib.hid (IntWalk.wrap64_in _ ⟨by omega, by omega⟩)
  have E2 : Hid (wrap64 ((d2 : Int) / (s : Int)) = (v : Int)) := by rw [e2]; exact Lib.hid (IntWalk.wrap64_in _ ⟨by omega, by omega⟩)
  have E3 : Hid (wrap64 ((d2 : Int) / (c : Int)) = (t : Int)) := by rw [e3]; exact Lib.hid (IntWalk.wrap64_in _ ⟨by omega, by omega⟩)
  clear e1 e2 e3 hs hu hv hnum hc ht ha hD1 hD2 hq2 hq2' pa pb pn ba hsw hswa hx hy
  generalize nrN a ((u : Int) * (t : Int)) = s1 at *
  generalize nrD a ((u : Int) * (t : Int)) = s2 at *
  generalize nrE a ((u : Int) * (t : Int)) = s3 at *
  generalize hiOf ((u : Int) * (t : Int)) = dh at *
  generalize loOf ((u : Int) * (t : Int)) = dl at *
  generalize hiOf a = ah at *
  generalize loOf a = al at *
  generalize hiOf num = nh at *
  generalize loOf num = nl at *
  generalize num.natAbs % s = rr at *
  go_enter Try.func35, Try.ntmps35
  go_wp2_with fail
  refine (CX.out _).mono ?_
  rintro e w1 ⟨rfl, hb⟩
  have hB1 := bnext (w := w) (by go_grown) hb
  have bX : Blk2 w1 w.heap.size 23 (.int .i64 n1) (.int .i64 d1) := ((Blk2.new.alloc _).alloc _).below hb (by simp; omega)
  have bY : Blk2 w1 (w.heap.size + 1) 23 (.int .i64 n2) (.int .i64 d2) := ((Blk2.new' (by simp)).alloc _).below hb (by simp)
  have bR : Blk2 w1 (w.heap.size + 1 + 1) 23 (.int .i64 0) (.int .i64 0) := (Blk2.new' (by simp)).below hb (by simp)
  clear hb
  have cy0 := bY.c0; have cy1 := bY.c1; have zy := bY.lt
  go_wp2_with fail
  refine (CY.out _).mono ?_
  rintro e w2 ⟨rfl, hb⟩
  have hB2 := bnext (w := w) (by go_grown) hb
  have bX2 := bX.below hb bX.lt; have bY2 := bY.below hb bY.lt; have bR2 := bR.below hb bR.lt
  clear hb bX bY bR cy0 cy1 zy hB1
  have cx0 := bX2.c0; have cx1 := bX2.c1; have zx := bX2.lt
  have cy0 := bY2.c0; have cy1 := bY2.c1; have zy := bY2.lt
  go_wp2_with fail
  refine wp_region_over (by kernel_rfl) (by kernel_rfl) ?_
  repeat (go_big_quiet_step (first | (go_at_call 28; first | with_reducible exact calls_over_same (Cd1.out _) | with_reducible exact calls_over_same (Cd2.out _)) | (go_at_call 29; exact calls_over_drew (Cs.out _))))
  refine wpQuiet_nil ?_
  rintro _ ⟨x1, rfl⟩
  have hb := over_below _ x1
  generalize over _ x1 = w3 at *
  have hB3 := bnext (w := w) (by go_grown) hb
  have bX3 := bX2.below hb bX2.lt; have bY3 := bY2.below hb bY2.lt; have bR3 := bR2.below hb bR2.lt
  clear hb x1 bX2 bY2 bR2 cx0 cx1 zx cy0 cy1 zy hB2
  have cx0 := bX3.c0; have cx1 := bX3.c1; have zx := bX3.lt
  have cy0 := bY3.c0; have cy1 := bY3.c1; have zy := bY3.lt
  go_wp2_with fail
  refine wp_region_over (by kernel_rfl) (by kernel_rfl) ?_
  repeat (go_big_quiet_step (fail))
  refine wpQuiet_nil ?_
  rintro _ ⟨x1, rfl⟩
  have hb := over_below _ x1
  generalize over _ x1 = w4 at *
  have hB4 := bnext (w := w) (by go_grown) hb
  have bX4 := bX3.below hb bX3.lt; have bY4 := bY3.below hb bY3.lt; have bR4 := bR3.below hb bR3.lt
  clear hb x1 bX3 bY3 bR3 cx0 cx1 zx cy0 cy1 zy hB3
  have cx0 := bX4.c0; have cx1 := bX4.c1; have zx := bX4.lt
  have cy0 := bY4.c0; have cy1 := bY4.c1; have zy := bY4.lt
  rw [E1.out, E2.out]
  go_wp2_with fail
  refine (CK.out _).mono ?_
  rintro e w5 ⟨rfl, hb⟩
  have hB5 := bnext (w := w) (by go_grown) hb
  have bY5 := bY4.below hb bY4.lt; have bR5 := bR4.below hb bR4.lt
  have zs5 := hB5.size
  clear hb bX4 bY4 bR4 cx0 cx1 zx cy0 cy1 zy hB4
  go_wp2_with fail
  refine (CR.out _).mono ?_
  rintro e w6 ⟨rfl, hb⟩
  have hB6 := bnext (w := w) (by go_grown) hb
  have bY6 := (bY5.alloc _).below hb (bY5.alloc _).lt; have bR6 := (bR5.alloc _).below hb (bR5.alloc _).lt
  have bN6 : Blk2 w6 w5.heap.size 45 (.int .u64 nh) (.int .u64 nl) := Blk2.new.below hb (by simp)
  have o5 : w.heap.size + 1 + 1 < w5.heap.size := bR5.lt
  clear hb bY5 bR5 hB5 zs5
  go_wp2_with fail
  refine (Cc.out _).mono ?_
  rintro e w7 ⟨rfl, kk, hww⟩
  have hB7 : Below w.heap.size w w7 := by rw [hww]; exact below_drewN hB6 kk
  have bY7 : Blk2 w7 _ _ _ _ := hww ▸ bY6.drewN kk
  have bR7 : Blk2 w7 _ _ _ _ := hww ▸ bR6.drewN kk
  have bN7 : Blk2 w7 _ _ _ _ := hww ▸ bN6.drewN kk
  clear hww hB6 bY6 bR6 bN6
  have cy0 := bY7.c0; have cy1 := bY7.c1; have zy := bY7.lt
  have e3 := E3.out
  go_wp2_with fail
  refine (CT'.out _).mono ?_
  rintro e w8 ⟨rfl, hb⟩
  have hB8 := bnext (w := w) (by go_grown) hb
  have bR8 := bR7.below hb bR7.lt; have bN8 := bN7.below hb bN7.lt
  clear hb bY7 bR7 bN7 cy0 cy1 zy hB7 e3
  have bR9 := bR8.alloc (.cells #[.int .u64 dh, .int .u64 dl] 45)
  have bN9 := bN8.alloc (.cells #[.int .u64 dh, .int .u64 dl] 45)
  have zs8 := hB8.size
  have o8 := bN8.lt
  have bD9 : Blk2 (w8.alloc (.cells #[.int .u64 dh, .int .u64 dl] 45)) w8.heap.size 45 (.int .u64 dh) (.int .u64 dl) := Blk2.new
  have hB9 : Below w.heap.size w (w8.alloc (.cells #[.int .u64 dh, .int .u64 dl] 45)) := by go_grown
  go_wp2_with fail
  generalize w8.alloc (.cells #[.int .u64 dh, .int .u64 dl] 45) = w9 at *
  generalize w8.heap.size = g8 at *
  generalize w5.heap.size = g5 at *
  clear zs8 o8 hB8 bR8 bN8
  have cn0 := bN9.c0; have cn1 := bN9.c1; have zn := bN9.lt
  have cd0 := bD9.c0; have cd1 := bD9.c1; have zd := bD9.lt
  refine wp_region_over_tail 7 (by kernel_rfl) (by kernel_rfl) ?_
  simp only [List.take_succ_cons, List.take_zero, List.drop_succ_cons, List.drop_zero]
  repeat (go_big_quiet_step (first | (go_at_call 50; exact calls_over (CQ.out _)) | (go_at_call 30; exact calls_over (C30.out _))))
  refine wpQuiet_nil ?_
  rintro _ ⟨x1, rfl⟩
  have hb := over_below _ x1
  generalize over _ x1 = wA at *
  have hBA := bnext (w := w) (by go_grown) hb
  have bRA := bR9.below hb bR9.lt
  clear hb x1 bR9 bN9 bD9 cn0 cn1 zn cd0 cd1 zd hB9
  have cr0 := bRA.c0; have cr1 := bRA.c1; have zr := bRA.lt; have fr0 := bRA.f0; have fr1 := bRA.f1
  go_wp2
  exact bodyPost_ret (v := .tuple #[.agg #[.int .i64 s1, .int .i64 s2], .int .i64 s3]) (by simp [results, Try.results35, go_sem, *]) rfl ⟨rfl, by go_grown⟩
end Go.Proofs.Ytafheinapjfbaaa
