/- Make, Floor as functions of integers; awake. -/
import Derived.Test.YtafheinapjfbaaaWk
namespace Go.Proofs.Ytafheinapjfbaaa
open Go.RowKit Go.Lib Go.BigFrame
def sg (a b : Int) : Bool := !(decide (a < 0) == decide (b < 0))
/-- Make's answer -/
def mkN (a b : Int) : Int := if b = 0 then 0 else nrN (sgn (sg a b) (quoN a.natAbs b.natAbs)) (quoD a.natAbs b.natAbs)
def mkD (a b : Int) : Int := if b = 0 then 0 else nrD (sgn (sg a b) (quoN a.natAbs b.natAbs)) (quoD a.natAbs b.natAbs)
def mkE (a b : Int) : Int := if b = 0 then 2 else nrE (sgn (sg a b) (quoN a.natAbs b.natAbs)) (quoD a.natAbs b.natAbs)
theorem make_any (a b : Int) (w : World) (ha1 : -9223372036854775808 ≤ a) (ha2 : a < 9223372036854775808) (hb1 : -9223372036854775808 ≤ b) (hb2 : b < 9223372036854775808) :
    Calls Try.prog 8 #[.int .i64 a, .int .i64 b] w fun e w' => e = .returned (.tuple #[.agg #[.int .i64 (mkN a b), .int .i64 (mkD a b)], .int .i64 (mkE a b)]) ∧ Below w.heap.size w w' := by
  unfold mkN mkD mkE
  by_cases hb : b = 0
  · subst hb; exact make_zero a w
  · simp only [if_neg hb]; exact make_nz a b w ha1 ha2 hb1 hb2 hb (sg a b) (by simp [sg])
theorem rmake_any (a b : Int) (w : World) (ha1 : -9223372036854775808 ≤ a) (ha2 : a < 9223372036854775808) (hb1 : -9223372036854775808 ≤ b) (hb2 : b < 9223372036854775808) :
    Calls Try.prog 9 #[.int .i64 a, .int .i64 b] w fun e w' => e = .returned (.tuple #[.agg #[.int .i64 (mkN a b), .int .i64 (mkD a b)], .int .i64 (mkE a b)]) ∧ Below w.heap.size w w' := by
  unfold mkN mkD mkE
  by_cases hb : b = 0
  · subst hb; exact rmake_zero a w
  · simp only [if_neg hb]; exact rmake_nz a b w ha1 ha2 hb1 hb2 hb (sg a b) (by simp [sg])
/-- Floor's answer -/
def flr (n d : Int) : Int := if Vld n d then n / d else 0
theorem tdiv_bounds (n d : Int) (h1 : -1152921504606846976 ≤ n) (h2 : n ≤ 1152921504606846976) : -1152921504606846976 ≤ n.tdiv d ∧ n.tdiv d ≤ 1152921504606846976 := by
  have h : (n.tdiv d).natAbs ≤ n.natAbs := by rw [Int.natAbs_tdiv]; exact Nat.div_le_self _ _
  omega
theorem floor_cases (n d : Int) (hd : 1 ≤ d) : (n.tmod d < 0 → n.tdiv d - 1 = n / d) ∧ (¬ n.tmod d < 0 → n.tdiv d = n / d) := by
  have h1 := Int.mul_tdiv_add_tmod n d
  have h2 := Int.tmod_lt_of_pos n (b := d) (by omega)
  constructor
  · intro h
    have h3 : -d < n.tmod d := Int.lt_tmod_of_pos n (by omega)
    have : n / d = n.tdiv d - 1 := by
      have e : n = (n.tmod d + d) + d * (n.tdiv d - 1) := by rw [Int.mul_sub]; omega
      rw [e, Int.add_mul_ediv_left _ _ (by omega), Int.ediv_eq_zero_of_lt (by omega) (by omega)]
      rw [← e]; omega
    omega
  · intro h
    have : n / d = n.tdiv d := by
      have e : n = n.tmod d + d * n.tdiv d := by omega
      rw [e, Int.add_mul_ediv_left _ _ (by omega), Int.ediv_eq_zero_of_lt (by omega) (by omega)]
      rw [← e]; omega
    omega
set_option maxHeartbeats 400000 in
theorem floor_no (n d : Int) (w : World) (hn1 : -9223372036854775808 ≤ n) (hn2 : n < 9223372036854775808) (hd1 : -9223372036854775808 ≤ d) (hd2 : d < 9223372036854775808) (hv : vldB n d = false) :
    Calls Try.prog 23 #[.agg #[.int .i64 n, .int .i64 d]] w fun e w' => e = .returned (.int .i64 0) ∧ Below w.heap.size w w' := by
  have c := fun w => valid_any n d w hn1 hn2 hd1 hd2
  rw [hv] at c
  have C := Lib.hid c; clear c hv
  go_enter Try.func23, Try.ntmps23
  go_wp2_with fail
  refine (C.out _).mono ?_
  rintro e w1 ⟨rfl, hb⟩
  have hB1 := bnext (w := w) (by go_grown) hb
  clear hb
  go_wp2
  go_ret
  exact ⟨rfl, by go_grown⟩
set_option maxHeartbeats 400000 in
theorem floor_yes (n d : Int) (w : World) (hn1 : -1152921504606846976 ≤ n) (hn2 : n ≤ 1152921504606846976) (hd1 : 1 ≤ d) (hd2 : d ≤ 1152921504606846976) (hv : vldB n d = true) :
    Calls Try.prog 23 #[.agg #[.int .i64 n, .int .i64 d]] w fun e w' => e = .returned (.int .i64 (n / d)) ∧ Below w.heap.size w w' := by
  have c := fun w => valid_any n d w (by omega) (by omega) (by omega) (by omega)
  rw [hv] at c
  have C := Lib.hid c; clear c hv
  have hq := tdiv_bounds n d hn1 hn2
  have hq1 := hq.1
  have hq2 := hq.2
  have hm := floor_cases n d hd1
  have HM := Lib.hid hm; clear hm hq
  by_cases hr : n.tmod d < 0
  · go_enter Try.func23, Try.ntmps23
    go_wp2_with fail
    refine (C.out _).mono ?_
    rintro e w1 ⟨rfl, hb⟩
    have hB1 := bnext (w := w) (by go_grown) hb
    have bR : Blk2 w1 w.heap.size 23 (.int .i64 n) (.int .i64 d) := Blk2.new.below hb (by simp)
    clear hb
    have cn0 := bR.c0; have cn1 := bR.c1
    clear bR
    go_wp2
    go_ret
    exact ⟨ret_int (HM.out.1 hr), by go_grown⟩
  · go_enter Try.func23, Try.ntmps23
    go_wp2_with fail
    refine (C.out _).mono ?_
    rintro e w1 ⟨rfl, hb⟩
    have hB1 := bnext (w := w) (by go_grown) hb
    have bR : Blk2 w1 w.heap.size 23 (.int .i64 n) (.int .i64 d) := Blk2.new.below hb (by simp)
    clear hb
    have cn0 := bR.c0; have cn1 := bR.c1
    clear bR
    go_wp2
    go_ret
    exact ⟨ret_int (HM.out.2 hr), by go_grown⟩
theorem floor_any (n d : Int) (w : World) (hn1 : -9223372036854775808 ≤ n) (hn2 : n < 9223372036854775808) (hd1 : -9223372036854775808 ≤ d) (hd2 : d < 9223372036854775808) :
    Calls Try.prog 23 #[.agg #[.int .i64 n, .int .i64 d]] w fun e w' => e = .returned (.int .i64 (flr n d)) ∧ Below w.heap.size w w' := by
  unfold flr
  by_cases hv : Vld n d
  · rw [if_pos hv]
    exact floor_yes n d w (by have := hv.1; omega) (by have := hv.1; omega) hv.2.1 hv.2.2.1 (vldB_true hv)
  · rw [if_neg hv]
    exact floor_no n d w hn1 hn2 hd1 hd2 (vldB_false hv)
set_option maxHeartbeats 400000 in
theorem rfloor_no (n d : Int) (w : World) (hn1 : -9223372036854775808 ≤ n) (hn2 : n < 9223372036854775808) (hd1 : -9223372036854775808 ≤ d) (hd2 : d < 9223372036854775808) (hv : vldB n d = false) :
    Calls Try.prog 24 #[.agg #[.int .i64 n, .int .i64 d]] w fun e w' => e = .returned (.int .i64 0) ∧ Below w.heap.size w w' := by
  have c := fun w => rvalid_any n d w hn1 hn2 hd1 hd2
  rw [hv] at c
  have C := Lib.hid c; clear c hv
  go_enter Try.func24, Try.ntmps24
  go_wp2_with fail
  refine (C.out _).mono ?_
  rintro e w1 ⟨rfl, hb⟩
  have hB1 := bnext (w := w) (by go_grown) hb
  clear hb
  go_wp2
  go_ret
  exact ⟨rfl, by go_grown⟩
set_option maxHeartbeats 400000 in
theorem rfloor_yes (n d : Int) (w : World) (hn1 : -1152921504606846976 ≤ n) (hn2 : n ≤ 1152921504606846976) (hd1 : 1 ≤ d) (hd2 : d ≤ 1152921504606846976) (hv : vldB n d = true) :
    Calls Try.prog 24 #[.agg #[.int .i64 n, .int .i64 d]] w fun e w' => e = .returned (.int .i64 (n / d)) ∧ Below w.heap.size w w' := by
  have c := fun w => rvalid_any n d w (by omega) (by omega) (by omega) (by omega)
  rw [hv] at c
  have C := Lib.hid c; clear c hv
  have hq := tdiv_bounds n d hn1 hn2
  have hq1 := hq.1
  have hq2 := hq.2
  have hm := floor_cases n d hd1
  have HM := Lib.hid hm; clear hm hq
  by_cases hr : n.tmod d < 0
  · go_enter Try.func24, Try.ntmps24
    go_wp2_with fail
    refine (C.out _).mono ?_
    rintro e w1 ⟨rfl, hb⟩
    have hB1 := bnext (w := w) (by go_grown) hb
    have bR : Blk2 w1 w.heap.size 23 (.int .i64 n) (.int .i64 d) := Blk2.new.below hb (by simp)
    clear hb
    have cn0 := bR.c0; have cn1 := bR.c1
    clear bR
    go_wp2
    go_ret
    exact ⟨ret_int (HM.out.1 hr), by go_grown⟩
  · go_enter Try.func24, Try.ntmps24
    go_wp2_with fail
    refine (C.out _).mono ?_
    rintro e w1 ⟨rfl, hb⟩
    have hB1 := bnext (w := w) (by go_grown) hb
    have bR : Blk2 w1 w.heap.size 23 (.int .i64 n) (.int .i64 d) := Blk2.new.below hb (by simp)
    clear hb
    have cn0 := bR.c0; have cn1 := bR.c1
    clear bR
    go_wp2
    go_ret
    exact ⟨ret_int (HM.out.2 hr), by go_grown⟩
theorem rfloor_any (n d : Int) (w : World) (hn1 : -9223372036854775808 ≤ n) (hn2 : n < 9223372036854775808) (hd1 : -9223372036854775808 ≤ d) (hd2 : d < 9223372036854775808) :
    Calls Try.prog 24 #[.agg #[.int .i64 n, .int .i64 d]] w fun e w' => e = .returned (.int .i64 (flr n d)) ∧ Below w.heap.size w w' := by
  unfold flr
  by_cases hv : Vld n d
  · rw [if_pos hv]
    exact rfloor_yes n d w (by have := hv.1; omega) (by have := hv.1; omega) hv.2.1 hv.2.2.1 (vldB_true hv)
  · rw [if_neg hv]
    exact rfloor_no n d w hn1 hn2 hd1 hd2 (vldB_false hv)

end Go.Proofs.Ytafheinapjfbaaa
