/- The walk of the reference's reduce. -/
import Derived.Test.YtafheinapjfbaaaWi
namespace Go.Proofs.Ytafheinapjfbaaa
open Go.RowKit Go.Lib Go.BigFrame
theorem nz_words (n : Nat) (h : n < 340282366920938463463374607431768211456) (hp : 0 < n) : ((hN n : Int) == 0) = false ∨ ((hN n : Int) == 0) = true ∧ ((lN n : Int) == 0) = false := by
  by_cases h' : hN n = 0
  · refine Or.inr ⟨by rw [h']; rfl, ?_⟩
    rw [beq_eq_false_iff_ne]
    unfold hN at h'; unfold lN; omega
  · exact Or.inl (by rw [beq_eq_false_iff_ne]; omega)
theorem words_small (n : Nat) (h : n ≤ 1152921504606846976) : hN n = 0 ∧ lN n = n := by unfold hN lN; omega
theorem quo_zero (D : Nat) (h : 0 < D) : quoN 0 D = 0 ∧ quoD 0 D = 1 := by unfold quoN quoD; simp [Nat.div_self h]
theorem nr_ok (s : Bool) (n d : Nat) (h1 : n ≤ 1152921504606846976) (h2 : d ≤ 1152921504606846976) : nrN (sgn s n) d = sgn s n ∧ nrD (sgn s n) d = d ∧ nrE (sgn s n) d = 0 := by
  have : (sgn s n).natAbs ≤ 1152921504606846976 ∧ ((d : Nat) : Int).natAbs ≤ 1152921504606846976 := by unfold sgn; split <;> omega
  exact ⟨if_pos this, if_pos this, if_pos this⟩
theorem nr_no (s : Bool) (n d : Nat) (h : ¬ (n ≤ 1152921504606846976 ∧ d ≤ 1152921504606846976)) : nrN (sgn s n) d = 0 ∧ nrD (sgn s n) d = 0 ∧ nrE (sgn s n) d = 3 := by
  have : ¬ ((sgn s n).natAbs ≤ 1152921504606846976 ∧ ((d : Nat) : Int).natAbs ≤ 1152921504606846976) := by unfold sgn; split <;> omega
  exact ⟨if_neg this, if_neg this, if_neg this⟩
set_option maxHeartbeats 1000000 in
theorem reduce_zero (s : Bool) (D : Nat) (w : World) :
    Calls Try.prog 32 #[.bool s, .agg #[.int .u64 (hN 0), .int .u64 (lN 0)], .agg #[.int .u64 (hN D), .int .u64 (lN D)]] w fun e w' =>
      e = .returned (.tuple #[.agg #[.int .i64 0, .int .i64 1], .int .i64 0]) ∧ Below w.heap.size w w' := by
  rw [show hN 0 = 0 from rfl, show lN 0 = 0 from rfl]
  go_enter Try.func32, Try.ntmps32
  go_wp2
  exact bodyPost_ret (v := .tuple #[.agg #[.int .i64 0, .int .i64 1], .int .i64 0]) (by simp [results, Try.results32, go_sem, *]) rfl ⟨rfl, by go_grown⟩
set_option maxHeartbeats 1000000 in
theorem reduce_ok (s : Bool) (N D : Nat) (w : World) (hN1 : N < 340282366920938463463374607431768211456) (hD1 : D < 170141183460469231731687303715884105728) (hp : 0 < D) (hp2 : 0 < N)
    (n d : Nat) (hn : quoN N D = n) (hd : quoD N D = d) (hn1 : n ≤ 1152921504606846976) (hd1 : d ≤ 1152921504606846976) :
    Calls Try.prog 32 #[.bool s, .agg #[.int .u64 (hN N), .int .u64 (lN N)], .agg #[.int .u64 (hN D), .int .u64 (lN D)]] w fun e w' =>
      e = .returned (.tuple #[.agg #[.int .i64 (sgn s n), .int .i64 d], .int .i64 0]) ∧ Below w.heap.size w w' := by
  have hD2 : D < 340282366920938463463374607431768211456 := by omega
  have hg : 0 < Nat.gcd N D := Nat.gcd_pos_of_pos_right _ hp
  have hg2 : Nat.gcd N D ≤ D := Nat.gcd_le_right _ hp
  have hg3 : Nat.gcd N D < 170141183460469231731687303715884105728 := by omega
  have c34 := fun w => gcd_any N D w hN1 hD1
  have cN := fun w => divN_any N (Nat.gcd N D) hN1 hg3 hg w
  have cD := fun w => divN_any D (Nat.gcd N D) hD2 hg3 hg w
  rw [show N / Nat.gcd N D = n from hn, (words_small n hn1).1, (words_small n hn1).2] at cN
  rw [show D / Nat.gcd N D = d from hd, (words_small d hd1).1, (words_small d hd1).2] at cD
  generalize Nat.gcd N D = g at *
  have hnz := nz_words N hN1 hp2
  have C34 := Lib.hid c34; clear c34
  have CN := Lib.hid cN; have CD := Lib.hid cD; clear cN cD hn hd hg hg2 hg3 hN1 hD1 hD2
  rcases hnz with hc0 | ⟨hc0, hc1⟩
  all_goals
    cases s
    all_goals
      go_enter Try.func32, Try.ntmps32
      go_wp2_with fail
      refine (C34.out _).mono ?_
      rintro e w1 ⟨rfl, hb⟩
      have hB1 := bnext (w := w) (by go_grown) hb
      have bN : Blk2 w1 w.heap.size 49 (.int .u64 (hN N)) (.int .u64 (lN N)) := ((Blk2.new.alloc _).alloc _).below hb (by simp; omega)
      have bD : Blk2 w1 (w.heap.size + 1) 49 (.int .u64 (hN D)) (.int .u64 (lN D)) := ((Blk2.new' (by simp)).alloc _).below hb (by simp)
      have bR : Blk2 w1 (w.heap.size + 1 + 1) 23 (.int .i64 0) (.int .i64 0) := (Blk2.new' (by simp)).below hb (by simp)
      clear hb
      have cn0 := bN.c0; have cn1 := bN.c1; have zn := bN.lt
      go_wp2_with fail
      refine (CN.out _).mono ?_
      rintro e w2 ⟨rfl, hb⟩
      have hB2 := bnext (w := w) (by go_grown) hb
      have bD2 := (bD.alloc _).below hb (bD.alloc _).lt
      have bR2 := (bR.alloc _).below hb (bR.alloc _).lt
      have bG2 : Blk2 w2 w1.heap.size 49 (.int .u64 (hN g)) (.int .u64 (lN g)) := Blk2.new.below hb (by simp)
      clear hb bD bR bN cn0 cn1 zn
      have cn0 := bD2.c0; have cn1 := bD2.c1; have zn := bD2.lt; have cg0 := bG2.c0; have cg1 := bG2.c1; have zg := bG2.lt
      have zna : w.heap.size < w2.heap.size := by omega
      go_wp2_with fail
      refine (CD.out _).mono ?_
      rintro e w3 ⟨rfl, hb⟩
      have hB3 := bnext (w := w) (by go_grown) hb
      have bR3 := ((bR2.alloc _).alloc _).below hb ((bR2.alloc _).alloc _).lt
      have bX : Blk2 w3 w2.heap.size 49 (.int .u64 0) (.int .u64 n) := (Blk2.new.alloc _).below hb (by simp; omega)
      clear hb bD2 bR2 bG2 cn0 cn1 zn cg0 cg1 zg zna
      have cn0 := bX.c0; have cn1 := bX.c1; have zn := bX.lt
      have cr0 := bR3.c0; have cr1 := bR3.c1; have zr := bR3.lt; have fr0 := bR3.f0; have fr1 := bR3.f1
      have zra : w.heap.size < w3.heap.size := by omega
      have zrb : w.heap.size + 1 < w3.heap.size := by omega
      clear bX bR3
      go_wp2
      first
        | exact bodyPost_ret (v := .tuple #[.agg #[.int .i64 (n : Int), .int .i64 d], .int .i64 0]) (by simp [results, Try.results32, go_sem, *]) rfl ⟨rfl, by go_grown⟩
        | exact bodyPost_ret (v := .tuple #[.agg #[.int .i64 (-(n : Int)), .int .i64 d], .int .i64 0]) (by simp [results, Try.results32, go_sem, *]) rfl ⟨rfl, by go_grown⟩

theorem big_cases (n d : Nat) (hn : n < 340282366920938463463374607431768211456) (hd : d < 340282366920938463463374607431768211456) (h : ¬ (n ≤ 1152921504606846976 ∧ d ≤ 1152921504606846976)) :
    0 < hN n ∨ (hN n = 0 ∧ 0 < hN d) ∨ (hN n = 0 ∧ hN d = 0 ∧ 1152921504606846976 < lN n) ∨ (hN n = 0 ∧ hN d = 0 ∧ lN n ≤ 1152921504606846976 ∧ 1152921504606846976 < lN d) := by
  unfold hN lN; omega
set_option maxHeartbeats 1000000 in
theorem reduce_no (s : Bool) (N D : Nat) (w : World) (hN1 : N < 340282366920938463463374607431768211456) (hD1 : D < 170141183460469231731687303715884105728) (hp : 0 < D) (hp2 : 0 < N)
    (n d : Nat) (hn : quoN N D = n) (hd : quoD N D = d) (hbig : ¬ (n ≤ 1152921504606846976 ∧ d ≤ 1152921504606846976)) :
    Calls Try.prog 32 #[.bool s, .agg #[.int .u64 (hN N), .int .u64 (lN N)], .agg #[.int .u64 (hN D), .int .u64 (lN D)]] w fun e w' =>
      e = .returned (.tuple #[.agg #[.int .i64 0, .int .i64 0], .int .i64 3]) ∧ Below w.heap.size w w' := by
  have hD2 : D < 340282366920938463463374607431768211456 := by omega
  have hg : 0 < Nat.gcd N D := Nat.gcd_pos_of_pos_right _ hp
  have hg2 : Nat.gcd N D ≤ D := Nat.gcd_le_right _ hp
  have hg3 : Nat.gcd N D < 170141183460469231731687303715884105728 := by omega
  have hcs := big_cases n d (by have := quoN_le N D; omega) (by have := quoD_le N D; omega) hbig
  have c34 := fun w => gcd_any N D w hN1 hD1
  have cN := fun w => divN_any N (Nat.gcd N D) hN1 hg3 hg w
  have cD := fun w => divN_any D (Nat.gcd N D) hD2 hg3 hg w
  rw [show N / Nat.gcd N D = n from hn] at cN
  rw [show D / Nat.gcd N D = d from hd] at cD
  generalize Nat.gcd N D = g at *
  generalize hN n = p at *
  generalize lN n = q at *
  generalize hN d = p' at *
  generalize lN d = q' at *
  have hnz := nz_words N hN1 hp2
  have C34 := Lib.hid c34; clear c34
  have CN := Lib.hid cN; have CD := Lib.hid cD; clear cN cD hn hd hg hg2 hg3 hN1 hD1 hD2 hbig
  rcases hnz with hc0 | ⟨hc0, hc1⟩
  all_goals
    rcases hcs with hq | ⟨rfl, hq⟩ | ⟨rfl, rfl, hq⟩ | ⟨rfl, rfl, hq2, hq⟩
    all_goals
      go_enter Try.func32, Try.ntmps32
      go_wp2_with fail
      refine (C34.out _).mono ?_
      rintro e w1 ⟨rfl, hb⟩
      have hB1 := bnext (w := w) (by go_grown) hb
      have bN : Blk2 w1 w.heap.size 49 (.int .u64 (hN N)) (.int .u64 (lN N)) := ((Blk2.new.alloc _).alloc _).below hb (by simp; omega)
      have bD : Blk2 w1 (w.heap.size + 1) 49 (.int .u64 (hN D)) (.int .u64 (lN D)) := ((Blk2.new' (by simp)).alloc _).below hb (by simp)
      have bR : Blk2 w1 (w.heap.size + 1 + 1) 23 (.int .i64 0) (.int .i64 0) := (Blk2.new' (by simp)).below hb (by simp)
      clear hb
      have cn0 := bN.c0; have cn1 := bN.c1; have zn := bN.lt
      go_wp2_with fail
      refine (CN.out _).mono ?_
      rintro e w2 ⟨rfl, hb⟩
      have hB2 := bnext (w := w) (by go_grown) hb
      have bD2 := (bD.alloc _).below hb (bD.alloc _).lt
      have bR2 := (bR.alloc _).below hb (bR.alloc _).lt
      have bG2 : Blk2 w2 w1.heap.size 49 (.int .u64 (hN g)) (.int .u64 (lN g)) := Blk2.new.below hb (by simp)
      clear hb bD bR bN cn0 cn1 zn
      have cn0 := bD2.c0; have cn1 := bD2.c1; have zn := bD2.lt; have cg0 := bG2.c0; have cg1 := bG2.c1; have zg := bG2.lt
      have zna : w.heap.size < w2.heap.size := by omega
      go_wp2_with fail
      refine (CD.out _).mono ?_
      rintro e w3 ⟨rfl, hb⟩
      have hB3 := bnext (w := w) (by go_grown) hb
      have bR3 := ((bR2.alloc _).alloc _).below hb ((bR2.alloc _).alloc _).lt
      have bX : Blk2 w3 w2.heap.size 49 _ _ := (Blk2.new.alloc _).below hb (by simp; omega)
      clear hb bD2 bR2 bG2 cn0 cn1 zn cg0 cg1 zg zna
      have cn0 := bX.c0; have cn1 := bX.c1; have zn := bX.lt
      have cr0 := bR3.c0; have cr1 := bR3.c1; have zr := bR3.lt; have fr0 := bR3.f0; have fr1 := bR3.f1
      have zra : w.heap.size < w3.heap.size := by omega
      have zrb : w.heap.size + 1 < w3.heap.size := by omega
      clear bX bR3
      go_wp2
      exact bodyPost_ret (v := .tuple #[.agg #[.int .i64 0, .int .i64 0], .int .i64 3]) (by simp [results, Try.results32, go_sem, *]) rfl ⟨rfl, by go_grown⟩
end Go.Proofs.Ytafheinapjfbaaa
