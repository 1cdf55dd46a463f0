/- Walks: product, Mul, Div of ratio. -/
import Derived.Test.YtafheinapjfbaaaWp
import Derived.Test.YtafheinapjfbaaaFl
namespace Go.Proofs.Ytafheinapjfbaaa
open Go.RowKit Go.Lib Go.BigFrame
/-- the fraction N / D in lowest terms, or ErrLimit -/
def redN (N : Int) (D : Nat) : Int := nrN (sgn (decide (N < 0)) (quoN N.natAbs D)) (quoD N.natAbs D)
def redD (N : Int) (D : Nat) : Int := nrD (sgn (decide (N < 0)) (quoN N.natAbs D)) (quoD N.natAbs D)
def redE (N : Int) (D : Nat) : Int := nrE (sgn (decide (N < 0)) (quoN N.natAbs D)) (quoD N.natAbs D)
theorem sgn_abs (N : Int) : sgn (decide (N < 0)) N.natAbs = N := by
  unfold sgn; by_cases h : N < 0
  · rw [decide_eq_true h]; simp; omega
  · rw [decide_eq_false h]; simp; omega
theorem bd_of_abs (z : Int) (h : z.natAbs ≤ 1152921504606846976 * 1152921504606846976) : -170141183460469231731687303715884105728 ≤ z ∧ z < 170141183460469231731687303715884105728 := by omega
set_option maxHeartbeats 1000000 in
theorem product_any (n1 n2 : Int) (d1 d2 : Nat) (w : World) (hn1 : n1.natAbs ≤ 1152921504606846976) (hn2 : n2.natAbs ≤ 1152921504606846976) (hd1 : 1 ≤ d1) (hd2 : 1 ≤ d2) (hd1' : d1 ≤ 1152921504606846976) (hd2' : d2 ≤ 1152921504606846976)
    (f r u v : Nat) (a b : Int) (hf : f = Nat.gcd n1.natAbs d2) (hr : r = Nat.gcd n2.natAbs d1) (hu : u = d1 / r) (hv : v = d2 / f) (ha : a = n1.tdiv f) (hb : b = n2.tdiv r) :
    Calls Try.prog 43 #[.agg #[.int .i64 n1, .int .i64 d1], .agg #[.int .i64 n2, .int .i64 d2]] w fun e w' =>
      e = .returned (.tuple #[.agg #[.int .i64 (nrN (a * b) (u * v)), .int .i64 (nrD (a * b) (u * v))], .int .i64 (nrE (a * b) (u * v))]) ∧ Below w.heap.size w w' := by
  have hf0 : 1 ≤ f := by rw [hf]; exact Nat.gcd_pos_of_pos_right _ hd2
  have hr0 : 1 ≤ r := by rw [hr]; exact Nat.gcd_pos_of_pos_right _ hd1
  have hf1 : f ≤ 1152921504606846976 := by rw [hf]; exact Nat.le_trans (Nat.gcd_le_right _ hd2) hd2'
  have hr1 : r ≤ 1152921504606846976 := by rw [hr]; exact Nat.le_trans (Nat.gcd_le_right _ hd1) hd1'
  have Cn1 := Lib.hid (fun w => mag_any n1 w (by omega) (by omega))
  have Cn2 := Lib.hid (fun w => mag_any n2 w (by omega) (by omega))
  have Cd1 : Hid (∀ w, Calls Try.prog 28 #[.int .i64 (d1 : Int)] w fun e w' => e = .returned (.int .u64 (d1 : Int)) ∧ w' = w) := by
    refine Lib.hid fun w => ?_; have := mag_any d1 w (by omega) (by omega); rwa [Int.natAbs_natCast] at this
  have Cd2 : Hid (∀ w, Calls Try.prog 28 #[.int .i64 (d2 : Int)] w fun e w' => e = .returned (.int .u64 (d2 : Int)) ∧ w' = w) := by
    refine Lib.hid fun w => ?_; have := mag_any d2 w (by omega) (by omega); rwa [Int.natAbs_natCast] at this
  have Cf : Hid (∀ w, Calls Try.prog 29 #[.int .u64 (n1.natAbs : Int), .int .u64 (d2 : Int)] w fun e w' => e = .returned (.int .u64 (f : Int)) ∧ ∃ n, w' = w.drewN n) := by
    rw [hf]; exact Lib.hid fun w => cd_any _ _ w (by omega) (by omega)
  have Cr : Hid (∀ w, Calls Try.prog 29 #[.int .u64 (n2.natAbs : Int), .int .u64 (d1 : Int)] w fun e w' => e = .returned (.int .u64 (r : Int)) ∧ ∃ n, w' = w.drewN n) := by
    rw [hr]; exact Lib.hid fun w => cd_any _ _ w (by omega) (by omega)
  have t1 : a.natAbs ≤ 1152921504606846976 := by rw [ha, Int.natAbs_tdiv]; exact Nat.le_trans (Nat.div_le_self _ _) hn1
  have t2 : b.natAbs ≤ 1152921504606846976 := by rw [hb, Int.natAbs_tdiv]; exact Nat.le_trans (Nat.div_le_self _ _) hn2
  have t3 : u ≤ 1152921504606846976 := by rw [hu]; exact Nat.le_trans (Nat.div_le_self _ _) hd1'
  have t4 : v ≤ 1152921504606846976 := by rw [hv]; exact Nat.le_trans (Nat.div_le_self _ _) hd2'
  have CN := Lib.hid (fun w => times_any a b w (by omega) (by omega) (by omega) (by omega))
  have CD := Lib.hid (fun w => times_any u v w (by omega) (by omega) (by omega) (by omega))
  have p1 : (a * b).natAbs ≤ 1152921504606846976 * 1152921504606846976 := by rw [Int.natAbs_mul]; exact Nat.mul_le_mul t1 t2
  have p2 : ((u : Int) * (v : Int)).natAbs ≤ 1152921504606846976 * 1152921504606846976 := by rw [Int.natAbs_mul]; exact Nat.mul_le_mul (by omega) (by omega)
  have c30 := fun w => narrowed_any (hiOf (a * b)) (loOf (a * b)) (hiOf ((u : Int) * (v : Int))) (loOf ((u : Int) * (v : Int))) w (hi_lt _) (lo_lt _) (hi_lt _) (lo_lt _)
  rw [sw_hilo _ (bd_of_abs _ p1).1 (bd_of_abs _ p1).2, sw_hilo _ (bd_of_abs _ p2).1 (bd_of_abs _ p2).2] at c30
  have C30 := Lib.hid c30; clear c30 p1 p2
  have q1 : n1.tdiv (f : Int) = a := ha.symm
  have q2 : n2.tdiv (r : Int) = b := hb.symm
  have q3 : ((d1 : Int) / (r : Int)) = (u : Int) := by rw [hu]; exact (Int.natCast_ediv d1 r).symm
  have q4 : ((d2 : Int) / (f : Int)) = (v : Int) := by rw [hv]; exact (Int.natCast_ediv d2 f).symm
  have Q1 := Lib.hid q1; have Q2 := Lib.hid q2; have Q3 := Lib.hid q3; have Q4 := Lib.hid q4; clear q1 q2 q3 q4 hf hr ha hb hu hv
  generalize nrN (a * b) ((u : Int) * (v : Int)) = s1 at *
  generalize nrD (a * b) ((u : Int) * (v : Int)) = s2 at *
  generalize nrE (a * b) ((u : Int) * (v : Int)) = s3 at *
  generalize hiOf (a * b) = ph at *
  generalize loOf (a * b) = pl at *
  generalize hiOf ((u : Int) * (v : Int)) = qh at *
  generalize loOf ((u : Int) * (v : Int)) = ql at *
  go_enter Try.func43, Try.ntmps43
  go_wp2_with fail
  refine wp_region_over (by kernel_rfl) (by kernel_rfl) ?_
  repeat (go_big_quiet_step (first | (go_at_call 28; first | with_reducible exact calls_over_same (Cn1.out _) | with_reducible exact calls_over_same (Cd2.out _)) | (go_at_call 29; exact calls_over_drew (Cf.out _))))
  refine wpQuiet_nil ?_
  rintro _ ⟨x1, rfl⟩
  have hb := over_below _ x1
  generalize over _ x1 = w1 at *
  have hB1 := bnext (w := w) (by go_grown) hb
  have bX : Blk2 w1 w.heap.size 23 (.int .i64 n1) (.int .i64 d1) := ((Blk2.new.alloc _).alloc _).below hb (by simp; omega)
  have bY : Blk2 w1 (w.heap.size + 1) 23 (.int .i64 n2) (.int .i64 d2) := ((Blk2.new' (by simp)).alloc _).below hb (by simp)
  have bR : Blk2 w1 (w.heap.size + 1 + 1) 23 (.int .i64 0) (.int .i64 0) := (Blk2.new' (by simp)).below hb (by simp)
  clear hb x1
  have cx0 := bX.c0; have cx1 := bX.c1; have zx := bX.lt
  have cy0 := bY.c0; have cy1 := bY.c1; have zy := bY.lt
  go_wp2_with fail
  refine wp_region_over (by kernel_rfl) (by kernel_rfl) ?_
  repeat (go_big_quiet_step (first | (go_at_call 28; first | with_reducible exact calls_over_same (Cn2.out _) | with_reducible exact calls_over_same (Cd1.out _)) | (go_at_call 29; exact calls_over_drew (Cr.out _))))
  refine wpQuiet_nil ?_
  rintro _ ⟨x2, rfl⟩
  have hb := over_below _ x2
  generalize over _ x2 = w2 at *
  have hB2 := bnext (w := w) (by go_grown) hb
  have bX2 := bX.below hb bX.lt; have bY2 := bY.below hb bY.lt; have bR2 := bR.below hb bR.lt
  clear hb x2 bX bY bR cx0 cx1 cy0 cy1 zx zy
  have cx0 := bX2.c0; have cx1 := bX2.c1; have zx := bX2.lt
  have cy0 := bY2.c0; have cy1 := bY2.c1; have zy := bY2.lt
  go_wp2_with fail
  have q1 := Q1.out; have q2 := Q2.out
  refine wp_region_float1 10 52 9 (.cells #[.int .u64 0, .int .u64 0] 45) ?afin (by kernel_rfl) (by kernel_rfl) ?mk rfl (by simp) (fun T hT => ?walk) ?tail
  case mk =>
    intro i o h1 h2 ho
    obtain rfl : i = 10 := by omega
    simp only [List.getElem?_toArray, List.getElem?_cons_succ, List.getElem?_cons_zero, Option.some.injEq] at ho
    subst ho
    exact ⟨rfl, fun a w => by simp [go_sem, ptrTo]⟩
  case walk =>
    simp only [List.take_succ_cons, List.take_zero]
    haveI := hT.some
    repeat (go_big_quiet_step ((go_at_call 49; exact calls_overT hT (CN.out _))))
    refine wpQuiet_nil ?_
    rfl
  case tail =>
    intro g w3 hb hgs hg
    have bG : Blk2 w3 g 45 (.int .u64 0) (.int .u64 0) := hg
    have hB3 := bnext (w := w) (by go_grown) hb
    have bX3 := bX2.below hb bX2.lt; have bY3 := bY2.below hb bY2.lt; have bR3 := bR2.below hb bR2.lt
    have hgw : w.heap.size + 1 + 1 < g := Nat.lt_of_lt_of_le bR2.lt hgs
    clear hb hg hgs bX2 bY2 bR2 cx0 cx1 cy0 cy1 zx zy hB1 hB2 q1 q2
    have cg0 := bG.c0; have cg1 := bG.c1; have zg := bG.lt; have fg0 := bG.f0; have fg1 := bG.f1
    unfold ptrTo
    go_wp2_with fail
    have bG4 := (bG.set0 (.int .u64 ph)).set1 (.int .u64 pl)
    have bX4 := (bX3.other (p := ⟨g, 0, none⟩) (by dsimp only; omega) (.int .u64 ph)).other (p := ⟨g, 1, none⟩) (by dsimp only; omega) (.int .u64 pl)
    have bY4 := (bY3.other (p := ⟨g, 0, none⟩) (by dsimp only; omega) (.int .u64 ph)).other (p := ⟨g, 1, none⟩) (by dsimp only; omega) (.int .u64 pl)
    have bR4 := (bR3.other (p := ⟨g, 0, none⟩) (by dsimp only; omega) (.int .u64 ph)).other (p := ⟨g, 1, none⟩) (by dsimp only; omega) (.int .u64 pl)
    have hB4 := (hB3.setCell (p := ⟨g, 0, none⟩) (by dsimp only; omega) (.int .u64 ph)).setCell (p := ⟨g, 1, none⟩) (by dsimp only; omega) (.int .u64 pl)
    clear cg0 cg1 zg fg0 fg1 bG bX3 bY3 bR3 hB3
    generalize (w3.setCell ⟨g, 0, none⟩ (.int .u64 ph)).setCell ⟨g, 1, none⟩ (.int .u64 pl) = w4 at *
    have cx0 := bX4.c0; have cx1 := bX4.c1; have zx := bX4.lt
    have cy0 := bY4.c0; have cy1 := bY4.c1; have zy := bY4.lt
    have q3 := Q3.out; have q4 := Q4.out
    refine wp_region_float1 10 52 10 (.cells #[.int .u64 0, .int .u64 0] 45) ?afin2 (by kernel_rfl) (by kernel_rfl) ?mk rfl (by simp) (fun T hT => ?walk) ?tail
    case mk =>
      intro i o h1 h2 ho
      obtain rfl : i = 10 := by omega
      simp only [List.getElem?_toArray, List.getElem?_cons_succ, List.getElem?_cons_zero, Option.some.injEq] at ho
      subst ho
      exact ⟨rfl, fun a w => by simp [go_sem, ptrTo]⟩
    case walk =>
      simp only [List.take_succ_cons, List.take_zero]
      haveI := hT.some
      repeat (go_big_quiet_step ((go_at_call 49; exact calls_overT hT (CD.out _))))
      refine wpQuiet_nil ?_
      rfl
    case tail =>
      intro g' w5 hb hgs hg
      have bH : Blk2 w5 g' 45 (.int .u64 0) (.int .u64 0) := hg
      have hB5 := bnext (w := w) (by go_grown) hb
      have bR5 := bR4.below hb bR4.lt; have bG5 := bG4.below hb bG4.lt
      have hgg : g < g' := Nat.lt_of_lt_of_le bG4.lt hgs
      clear hb hg hgs bX4 bY4 bR4 bG4 cx0 cx1 cy0 cy1 zx zy hB4 q3 q4
      have cg0 := bG5.c0; have cg1 := bG5.c1; have zg := bG5.lt
      have ch0 := bH.c0; have ch1 := bH.c1; have zh := bH.lt; have fh0 := bH.f0; have fh1 := bH.f1
      have hne : ¬ g = g' := by omega
      have hne' : ¬ g' = g := by omega
      have hne2 : ¬ w.heap.size + 1 + 1 = g' := by omega
      have hne3 : ¬ g' = w.heap.size + 1 + 1 := by omega
      unfold ptrTo
      go_wp2_with fail
      refine (C30.out _).mono ?_
      rintro e w6 ⟨rfl, hb⟩
      have hB6 := bnext (w := w) (by go_grown) hb
      have bR6 := ((bR5.other (p := ⟨g', 0, none⟩) (by dsimp only; omega) (.int .u64 qh)).other (p := ⟨g', 1, none⟩) (by dsimp only; omega) (.int .u64 ql)).below hb ((bR5.other (p := ⟨g', 0, none⟩) (by dsimp only; omega) (.int .u64 qh)).other (p := ⟨g', 1, none⟩) (by dsimp only; omega) (.int .u64 ql)).lt
      clear hb bR5 bG5 bH cg0 cg1 zg ch0 ch1 zh fh0 fh1
      have cr0 := bR6.c0; have cr1 := bR6.c1; have zr := bR6.lt; have fr0 := bR6.f0; have fr1 := bR6.f1
      go_wp2
      exact bodyPost_ret (v := .tuple #[.agg #[.int .i64 s1, .int .i64 s2], .int .i64 s3]) (by simp [results, Try.results43, go_sem, *]) rfl ⟨rfl, by go_grown⟩
end Go.Proofs.Ytafheinapjfbaaa
