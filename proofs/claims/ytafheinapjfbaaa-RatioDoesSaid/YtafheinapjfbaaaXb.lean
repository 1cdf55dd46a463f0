/- Walks of crosswise and sign. -/
import Derived.Test.YtafheinapjfbaaaXa
namespace Go.Proofs.Ytafheinapjfbaaa
open Go.RowKit Go.Lib Go.BigFrame
theorem hi_plus (a b : Int) : hiOf (uw (hiOf a) (loOf a) + uw (hiOf b) (loOf b)) = hiOf (a + b) := by unfold uw hiOf loOf; omega
theorem lo_plus (a b : Int) : loOf (uw (hiOf a) (loOf a) + uw (hiOf b) (loOf b)) = loOf (a + b) := by unfold uw hiOf loOf; omega
theorem hi_minus (a b : Int) : hiOf (uw (hiOf a) (loOf a) - uw (hiOf b) (loOf b)) = hiOf (a - b) := by unfold uw hiOf loOf; omega
theorem lo_minus (a b : Int) : loOf (uw (hiOf a) (loOf a) - uw (hiOf b) (loOf b)) = loOf (a - b) := by unfold uw hiOf loOf; omega
set_option maxHeartbeats 1000000 in
theorem cross_plus (n1 d1 n2 d2 : Int) (w : World) (hn1 : -9223372036854775808 ≤ n1) (hn1' : n1 < 9223372036854775808) (hd1 : -9223372036854775808 ≤ d1) (hd1' : d1 < 9223372036854775808)
    (hn2 : -9223372036854775808 ≤ n2) (hn2' : n2 < 9223372036854775808) (hd2 : -9223372036854775808 ≤ d2) (hd2' : d2 < 9223372036854775808) :
    Calls Try.prog 44 #[.agg #[.int .i64 n1, .int .i64 d1], .agg #[.int .i64 n2, .int .i64 d2], .func (.func 36) #[] #[]] w fun e w' =>
      e = .returned (.agg #[.int .u64 (hiOf (n1 * d2 + n2 * d1) : Nat), .int .u64 (loOf (n1 * d2 + n2 * d1) : Nat)]) ∧ Below w.heap.size w w' := by
  have CA := Lib.hid (fun w => times_any n1 d2 w hn1 hn1' hd2 hd2')
  have CB := Lib.hid (fun w => times_any n2 d1 w hn2 hn2' hd1 hd1')
  have c := fun w => plus_any (hiOf (n1 * d2)) (loOf (n1 * d2)) (hiOf (n2 * d1)) (loOf (n2 * d1)) (lo_lt _) (lo_lt _) w
  rw [hi_plus, lo_plus] at c
  have C := Lib.hid c
  clear c hn1 hn1' hd1 hd1' hn2 hn2' hd2 hd2'
  generalize hiOf (n1 * d2 + n2 * d1) = rh at *
  generalize loOf (n1 * d2 + n2 * d1) = rl at *
  generalize hiOf (n1 * d2) = ah at *
  generalize loOf (n1 * d2) = al at *
  generalize hiOf (n2 * d1) = bh at *
  generalize loOf (n2 * d1) = bl at *
  go_enter Try.func44, Try.ntmps44
  go_wp2_with fail
  refine wp_region_over_tail 14 (by kernel_rfl) (by kernel_rfl) ?_
  simp only [List.take_succ_cons, List.take_zero, List.drop_succ_cons, List.drop_zero]
  repeat (go_big_quiet_step (first | (go_at_call 49; first | with_reducible exact calls_over (CA.out _) | with_reducible exact calls_over (CB.out _)) | (go_at_call 36; exact calls_over (C.out _))))
  refine wpQuiet_nil ?_
  rintro _ ⟨x, rfl⟩
  have hB := bnext (w := w) (by go_grown) (over_below _ x)
  have bR : Blk2 (over _ x) (w.heap.size + 1 + 1) 45 (.int .u64 0) (.int .u64 0) := (Blk2.new' (by simp)).below (over_below _ x) (by simp)
  generalize over _ x = w1 at *
  have cr0 := bR.c0; have cr1 := bR.c1; have zr := bR.lt; have fr0 := bR.f0; have fr1 := bR.f1
  go_wp2
  exact bodyPost_ret (v := .agg #[.int .u64 rh, .int .u64 rl]) (by simp [results, Try.results44, go_sem, *]) rfl ⟨rfl, by go_grown⟩
set_option maxHeartbeats 1000000 in
theorem cross_minus (n1 d1 n2 d2 : Int) (w : World) (hn1 : -9223372036854775808 ≤ n1) (hn1' : n1 < 9223372036854775808) (hd1 : -9223372036854775808 ≤ d1) (hd1' : d1 < 9223372036854775808)
    (hn2 : -9223372036854775808 ≤ n2) (hn2' : n2 < 9223372036854775808) (hd2 : -9223372036854775808 ≤ d2) (hd2' : d2 < 9223372036854775808) :
    Calls Try.prog 44 #[.agg #[.int .i64 n1, .int .i64 d1], .agg #[.int .i64 n2, .int .i64 d2], .func (.func 41) #[] #[]] w fun e w' =>
      e = .returned (.agg #[.int .u64 (hiOf (n1 * d2 - n2 * d1) : Nat), .int .u64 (loOf (n1 * d2 - n2 * d1) : Nat)]) ∧ Below w.heap.size w w' := by
  have CA := Lib.hid (fun w => times_any n1 d2 w hn1 hn1' hd2 hd2')
  have CB := Lib.hid (fun w => times_any n2 d1 w hn2 hn2' hd1 hd1')
  have c := fun w => minus_any (hiOf (n1 * d2)) (loOf (n1 * d2)) (hiOf (n2 * d1)) (loOf (n2 * d1)) (hi_lt _) (hi_lt _) (lo_lt _) (lo_lt _) w
  rw [hi_minus, lo_minus] at c
  have C := Lib.hid c
  clear c hn1 hn1' hd1 hd1' hn2 hn2' hd2 hd2'
  generalize hiOf (n1 * d2 - n2 * d1) = rh at *
  generalize loOf (n1 * d2 - n2 * d1) = rl at *
  generalize hiOf (n1 * d2) = ah at *
  generalize loOf (n1 * d2) = al at *
  generalize hiOf (n2 * d1) = bh at *
  generalize loOf (n2 * d1) = bl at *
  go_enter Try.func44, Try.ntmps44
  go_wp2_with fail
  refine wp_region_over_tail 14 (by kernel_rfl) (by kernel_rfl) ?_
  simp only [List.take_succ_cons, List.take_zero, List.drop_succ_cons, List.drop_zero]
  repeat (go_big_quiet_step (first | (go_at_call 49; first | with_reducible exact calls_over (CA.out _) | with_reducible exact calls_over (CB.out _)) | (go_at_call 41; exact calls_over (C.out _))))
  refine wpQuiet_nil ?_
  rintro _ ⟨x, rfl⟩
  have hB := bnext (w := w) (by go_grown) (over_below _ x)
  have bR : Blk2 (over _ x) (w.heap.size + 1 + 1) 45 (.int .u64 0) (.int .u64 0) := (Blk2.new' (by simp)).below (over_below _ x) (by simp)
  generalize over _ x = w1 at *
  have cr0 := bR.c0; have cr1 := bR.c1; have zr := bR.lt; have fr0 := bR.f0; have fr1 := bR.f1
  go_wp2
  exact bodyPost_ret (v := .agg #[.int .u64 rh, .int .u64 rl]) (by simp [results, Try.results44, go_sem, *]) rfl ⟨rfl, by go_grown⟩

/-- the sign of a number of two words -/
def sgnI (z : Int) : Int := if z < 0 then -1 else if z = 0 then 0 else 1
theorem sw_eq_zero (h l : Nat) (h1 : h < 18446744073709551616) (h2 : l < 18446744073709551616) : sw h l = 0 ↔ h = 0 ∧ l = 0 := by
  unfold sw uw; split <;> omega
set_option maxHeartbeats 1000000 in
theorem sign_any (h l : Nat) (w : World) (h1 : h < 18446744073709551616) (h2 : l < 18446744073709551616) :
    Calls Try.prog 45 #[.agg #[.int .u64 h, .int .u64 l]] w fun e w' => e = .returned (.int .i64 (sgnI (sw h l))) ∧ Below w.heap.size w w' := by
  have c := fun w => isneg_any h l w h1 h2
  by_cases hs : sw h l < 0
  · rw [decide_eq_true hs] at c
    have e : sgnI (sw h l) = -1 := if_pos hs
    rw [e]
    have C := Lib.hid c; clear c hs e
    go_enter Try.func45, Try.ntmps45
    go_wp2_with fail
    refine (C.out _).mono ?_
    rintro e w1 ⟨rfl, hb⟩
    have hB1 := bnext (w := w) (by go_grown) hb
    clear hb
    go_wp2
    go_ret
    exact ⟨rfl, by go_grown⟩
  · rw [decide_eq_false hs] at c
    by_cases hz : sw h l = 0
    · have e : sgnI (sw h l) = 0 := by unfold sgnI; rw [if_neg hs, if_pos hz]
      rw [e]
      obtain ⟨rfl, rfl⟩ := (sw_eq_zero h l h1 h2).1 hz
      have C := Lib.hid c; clear c hs e hz
      go_enter Try.func45, Try.ntmps45
      go_wp2_with fail
      refine (C.out _).mono ?_
      rintro e w1 ⟨rfl, hb⟩
      have hB1 := bnext (w := w) (by go_grown) hb
      have bX : Blk2 w1 w.heap.size 45 (.int .u64 0) (.int .u64 0) := Blk2.new.below hb (by simp)
      clear hb
      have cx0 := bX.c0; have cx1 := bX.c1; have zx := bX.lt
      go_wp2
      go_ret
      exact ⟨rfl, by go_grown⟩
    · have e : sgnI (sw h l) = 1 := by unfold sgnI; rw [if_neg hs, if_neg hz]
      rw [e]
      have hnz : ((h : Int) == 0) = false ∨ ((h : Int) == 0) = true ∧ ((l : Int) == 0) = false := by
        by_cases h0 : h = 0
        · refine Or.inr ⟨by rw [h0]; rfl, ?_⟩
          rw [beq_eq_false_iff_ne]
          intro hl
          exact hz ((sw_eq_zero h l h1 h2).2 ⟨h0, by omega⟩)
        · exact Or.inl (by rw [beq_eq_false_iff_ne]; omega)
      have C := Lib.hid c; clear c hs e hz h1 h2
      rcases hnz with g1 | ⟨g1, g2⟩
      all_goals
        go_enter Try.func45, Try.ntmps45
        go_wp2_with fail
        refine (C.out _).mono ?_
        rintro e w1 ⟨rfl, hb⟩
        have hB1 := bnext (w := w) (by go_grown) hb
        have bX : Blk2 w1 w.heap.size 45 (.int .u64 h) (.int .u64 l) := Blk2.new.below hb (by simp)
        clear hb
        have cx0 := bX.c0; have cx1 := bX.c1; have zx := bX.lt
        go_wp2
        go_ret
        exact ⟨rfl, by go_grown⟩
end Go.Proofs.Ytafheinapjfbaaa
