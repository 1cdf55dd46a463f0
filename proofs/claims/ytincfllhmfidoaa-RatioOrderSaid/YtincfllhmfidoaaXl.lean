/- Walks of the law RatioOrder, way by way. -/
import Derived.Test.YtincfllhmfidoaaXi
namespace Go.Proofs.Ytincfllhmfidoaa
open Go.RowKit Go.Lib Go.BigFrame
set_option maxRecDepth 100000 in
set_option maxHeartbeats 2000000 in
theorem order_map (a b c d e f a1 a2 b1 b2 c1 c2 s1 s2 t1 t2 n P Q L : Int) (w : World) (hA : (∀ w, Calls Try.prog 25 #[.int .i64 a, .int .i64 b] w fun e w' => e = .returned (.agg #[.int .i64 a1, .int .i64 a2]) ∧ Below w.heap.size w w')) (hB : (∀ w, Calls Try.prog 25 #[.int .i64 c, .int .i64 d] w fun e w' => e = .returned (.agg #[.int .i64 b1, .int .i64 b2]) ∧ Below w.heap.size w w')) (hC : (∀ w, Calls Try.prog 25 #[.int .i64 e, .int .i64 f] w fun e w' => e = .returned (.agg #[.int .i64 c1, .int .i64 c2]) ∧ Below w.heap.size w w'))
    (hS : (∀ w, Calls Try.prog 13 #[.agg #[.int .i64 a1, .int .i64 a2], .agg #[.int .i64 c1, .int .i64 c2]] w fun e w' => e = .returned (.tuple #[.agg #[.int .i64 s1, .int .i64 s2], .int .i64 0]) ∧ Below w.heap.size w w')) (hT : (∀ w, Calls Try.prog 13 #[.agg #[.int .i64 b1, .int .i64 b2], .agg #[.int .i64 c1, .int .i64 c2]] w fun e w' => e = .returned (.tuple #[.agg #[.int .i64 t1, .int .i64 t2], .int .i64 0]) ∧ Below w.heap.size w w'))
    (hXY : (∀ w, Calls Try.prog 21 #[.agg #[.int .i64 a1, .int .i64 a2], .agg #[.int .i64 b1, .int .i64 b2]] w fun e w' => e = .returned (.int .i64 (-1)) ∧ Below w.heap.size w w')) (hYX : (∀ w, Calls Try.prog 21 #[.agg #[.int .i64 b1, .int .i64 b2], .agg #[.int .i64 a1, .int .i64 a2]] w fun e w' => e = .returned (.int .i64 1) ∧ Below w.heap.size w w')) (hST : (∀ w, Calls Try.prog 21 #[.agg #[.int .i64 s1, .int .i64 s2], .agg #[.int .i64 t1, .int .i64 t2]] w fun e w' => e = .returned (.int .i64 (-1)) ∧ Below w.heap.size w w'))
    (hF : (∀ w, Calls Try.prog 23 #[.agg #[.int .i64 a1, .int .i64 a2]] w fun e w' => e = .returned (.int .i64 n) ∧ Below w.heap.size w w')) (hn1 : -20 ≤ n) (hn2 : n ≤ 20) (hP : wrap64 (n * a2) = P) (hQ : wrap64 ((n + 1) * a2) = Q) (hPa : decide (P ≤ a1) = true) (hQa : decide (a1 < Q) = true)
    (hYZ : (∀ w, Calls Try.prog 21 #[.agg #[.int .i64 b1, .int .i64 b2], .agg #[.int .i64 c1, .int .i64 c2]] w fun e w' => e = .returned (.int .i64 L) ∧ Below w.heap.size w w')) (hL : 0 < L) (hne : (a1 == b1) = false) :
    Calls Try.prog 6 #[.int .i64 a, .int .i64 b, .int .i64 c, .int .i64 d, .int .i64 e, .int .i64 f] w fun e w' => e = .returned (.bool true) ∧ Below w.heap.size w w' := by
  have CA := Lib.hid hA; clear hA
  have CB := Lib.hid hB; clear hB
  have CC := Lib.hid hC; clear hC
  have CS := Lib.hid hS; clear hS
  have CT := Lib.hid hT; clear hT
  have CXY := Lib.hid hXY; clear hXY
  have CYX := Lib.hid hYX; clear hYX
  have CST := Lib.hid hST; clear hST
  have CF := Lib.hid hF; clear hF
  have CYZ := Lib.hid hYZ; clear hYZ
  go_enter Try.func6, Try.ntmps6
  go_wp2_with fail
  refine (CA.out _).mono ?_
  rintro e w1 ⟨rfl, hb⟩
  have hB1 := bnext (w := w) (by go_grown) hb
  have zs1 := hB1.size
  clear hb
  go_wp2_with fail
  refine (CB.out _).mono ?_
  rintro e w2 ⟨rfl, hb⟩
  have hB2 := bnext (w := w) (by go_grown) hb
  have zs2 := hB2.size
  clear hb
  go_wp2_with fail
  refine (CC.out _).mono ?_
  rintro e w3 ⟨rfl, hb⟩
  have hB3 := bnext (w := w) (by go_grown) hb
  have zs3 := hB3.size
  clear hb
  go_wp2_with fail
  refine (CS.out _).mono ?_
  rintro e w4 ⟨rfl, hb⟩
  have hB4 := bnext (w := w) (by go_grown) hb
  have zs4 := hB4.size
  have bx4 : Blk2 w4 w3.heap.size 23 (.int .i64 a1) (.int .i64 a2) := ((Blk2.new.alloc _).alloc _).below hb (by simp; omega)
  have by4 : Blk2 w4 (w3.heap.size + 1) 23 (.int .i64 b1) (.int .i64 b2) := ((Blk2.new' (by simp)).alloc _).below hb (by simp)
  have bz4 : Blk2 w4 (w3.heap.size + 1 + 1) 23 (.int .i64 c1) (.int .i64 c2) := (Blk2.new' (by simp)).below hb (by simp)
  clear hb
  have hy0 := by4.c0; have hy1 := by4.c1; have hyz := by4.lt
  have hz0 := bz4.c0; have hz1 := bz4.c1; have hzz := bz4.lt
  have hxz := bx4.lt
  go_wp2_with fail
  refine (CT.out _).mono ?_
  rintro e w5 ⟨rfl, hb⟩
  have hB5 := bnext (w := w) (by go_grown) hb
  have zs5 := hB5.size
  have bx5 := (bx4.alloc _).below hb (bx4.alloc _).lt
  have by5 := (by4.alloc _).below hb (by4.alloc _).lt
  have bz5 := (bz4.alloc _).below hb (bz4.alloc _).lt
  have bs5 : Blk2 w5 w4.heap.size 23 (.int .i64 s1) (.int .i64 s2) := Blk2.new.below hb (by simp)
  clear hb bx4 by4 bz4 hy0 hy1 hyz hz0 hz1 hzz hxz
  have bx6 := bx5.alloc (.cells #[.int .i64 t1, .int .i64 t2] 23)
  have by6 := by5.alloc (.cells #[.int .i64 t1, .int .i64 t2] 23)
  have bz6 := bz5.alloc (.cells #[.int .i64 t1, .int .i64 t2] 23)
  have bs6 := bs5.alloc (.cells #[.int .i64 t1, .int .i64 t2] 23)
  have bt6 : Blk2 (w5.alloc (.cells #[.int .i64 t1, .int .i64 t2] 23)) w5.heap.size 23 (.int .i64 t1) (.int .i64 t2) := Blk2.new
  have hB6 : Below w.heap.size w (w5.alloc (.cells #[.int .i64 t1, .int .i64 t2] 23)) := by go_grown
  go_wp2_with fail
  generalize w5.alloc (.cells #[.int .i64 t1, .int .i64 t2] 23) = w6 at *
  generalize w5.heap.size = g5 at *
  generalize w4.heap.size = g4 at *
  generalize w3.heap.size = g3 at *
  clear bx5 by5 bz5 bs5 hB5 hB4 hB3 hB2 hB1 zs1 zs2 zs3 zs4 zs5
  have hx0 := bx6.c0; have hx1 := bx6.c1; have hxz := bx6.lt
  have hy0 := by6.c0; have hy1 := by6.c1; have hyz := by6.lt
  have hs0 := bs6.c0; have hs1 := bs6.c1; have hsz := bs6.lt
  have ht0 := bt6.c0; have ht1 := bt6.c1; have htz := bt6.lt
  refine wp_region_over (by kernel_rfl) (by kernel_rfl) ?_
  repeat (go_big_quiet_step ((go_at_call 21; first | with_reducible exact calls_over (CXY.out _) | with_reducible exact calls_over (CYX.out _) | with_reducible exact calls_over (CST.out _))))
  refine wpQuiet_nil ?_
  rintro _ ⟨xx, rfl⟩
  have hb := over_below _ xx
  generalize over _ xx = w7 at *
  have hB7 := bnext (w := w) (by go_grown) hb
  have bx7 := bx6.below hb bx6.lt; have by7 := by6.below hb by6.lt; have bz7 := bz6.below hb bz6.lt
  clear hb xx bx6 by6 bz6 bs6 bt6 hx0 hx1 hxz hy0 hy1 hyz hs0 hs1 hsz ht0 ht1 htz hB6
  have hx0 := bx7.c0; have hx1 := bx7.c1; have hxz := bx7.lt
  go_wp2_with fail
  refine (CF.out _).mono ?_
  rintro e w8 ⟨rfl, hb⟩
  have hB8 := bnext (w := w) (by go_grown) hb
  have bx8 := bx7.below hb bx7.lt; have by8 := by7.below hb by7.lt; have bz8 := bz7.below hb bz7.lt
  clear hb bx7 by7 bz7 hx0 hx1 hxz hB7
  have hx0 := bx8.c0; have hx1 := bx8.c1; have hxz := bx8.lt
  have hy0 := by8.c0; have hy1 := by8.c1; have hyz := by8.lt
  go_wp2_with fail
  refine (CXY.out _).mono ?_
  rintro e w9 ⟨rfl, hb⟩
  have hB9 := bnext (w := w) (by go_grown) hb
  have bx9 := bx8.below hb bx8.lt; have by9 := by8.below hb by8.lt; have bz9 := bz8.below hb bz8.lt
  clear hb bx8 by8 bz8 hx0 hx1 hxz hy0 hy1 hyz hB8
  have hy0 := by9.c0; have hy1 := by9.c1; have hyz := by9.lt
  have hz0 := bz9.c0; have hz1 := bz9.c1; have hzz := bz9.lt
  go_wp2_with fail
  refine (CYZ.out _).mono ?_
  rintro e w10 ⟨rfl, hb⟩
  have hB10 := bnext (w := w) (by go_grown) hb
  have bx10 := bx9.below hb bx9.lt; have bz10 := bz9.below hb bz9.lt
  clear hb bx9 by9 bz9 hy0 hy1 hyz hz0 hz1 hzz hB9
  go_wp2_with fail
  refine (awake_any _).mono ?_
  rintro e wZ ⟨rfl, hb⟩
  have hBZ := bnext (w := w) (by go_grown) hb
  clear hb
  go_wp2
  go_ret
  exact ⟨rfl, by go_grown⟩
set_option maxRecDepth 100000 in
set_option maxHeartbeats 2000000 in
theorem order_man (a b c d e f a1 a2 b1 b2 c1 c2 s1 s2 t1 t2 n P Q L M : Int) (w : World) (hA : (∀ w, Calls Try.prog 25 #[.int .i64 a, .int .i64 b] w fun e w' => e = .returned (.agg #[.int .i64 a1, .int .i64 a2]) ∧ Below w.heap.size w w')) (hB : (∀ w, Calls Try.prog 25 #[.int .i64 c, .int .i64 d] w fun e w' => e = .returned (.agg #[.int .i64 b1, .int .i64 b2]) ∧ Below w.heap.size w w')) (hC : (∀ w, Calls Try.prog 25 #[.int .i64 e, .int .i64 f] w fun e w' => e = .returned (.agg #[.int .i64 c1, .int .i64 c2]) ∧ Below w.heap.size w w'))
    (hS : (∀ w, Calls Try.prog 13 #[.agg #[.int .i64 a1, .int .i64 a2], .agg #[.int .i64 c1, .int .i64 c2]] w fun e w' => e = .returned (.tuple #[.agg #[.int .i64 s1, .int .i64 s2], .int .i64 0]) ∧ Below w.heap.size w w')) (hT : (∀ w, Calls Try.prog 13 #[.agg #[.int .i64 b1, .int .i64 b2], .agg #[.int .i64 c1, .int .i64 c2]] w fun e w' => e = .returned (.tuple #[.agg #[.int .i64 t1, .int .i64 t2], .int .i64 0]) ∧ Below w.heap.size w w'))
    (hXY : (∀ w, Calls Try.prog 21 #[.agg #[.int .i64 a1, .int .i64 a2], .agg #[.int .i64 b1, .int .i64 b2]] w fun e w' => e = .returned (.int .i64 (-1)) ∧ Below w.heap.size w w')) (hYX : (∀ w, Calls Try.prog 21 #[.agg #[.int .i64 b1, .int .i64 b2], .agg #[.int .i64 a1, .int .i64 a2]] w fun e w' => e = .returned (.int .i64 1) ∧ Below w.heap.size w w')) (hST : (∀ w, Calls Try.prog 21 #[.agg #[.int .i64 s1, .int .i64 s2], .agg #[.int .i64 t1, .int .i64 t2]] w fun e w' => e = .returned (.int .i64 (-1)) ∧ Below w.heap.size w w'))
    (hF : (∀ w, Calls Try.prog 23 #[.agg #[.int .i64 a1, .int .i64 a2]] w fun e w' => e = .returned (.int .i64 n) ∧ Below w.heap.size w w')) (hn1 : -20 ≤ n) (hn2 : n ≤ 20) (hP : wrap64 (n * a2) = P) (hQ : wrap64 ((n + 1) * a2) = Q) (hPa : decide (P ≤ a1) = true) (hQa : decide (a1 < Q) = true)
    (hYZ : (∀ w, Calls Try.prog 21 #[.agg #[.int .i64 b1, .int .i64 b2], .agg #[.int .i64 c1, .int .i64 c2]] w fun e w' => e = .returned (.int .i64 L) ∧ Below w.heap.size w w')) (hL : L ≤ 0) (hXZ : (∀ w, Calls Try.prog 21 #[.agg #[.int .i64 a1, .int .i64 a2], .agg #[.int .i64 c1, .int .i64 c2]] w fun e w' => e = .returned (.int .i64 M) ∧ Below w.heap.size w w')) (hM : M ≤ 0) (hne : (a1 == b1) = false) :
    Calls Try.prog 6 #[.int .i64 a, .int .i64 b, .int .i64 c, .int .i64 d, .int .i64 e, .int .i64 f] w fun e w' => e = .returned (.bool true) ∧ Below w.heap.size w w' := by
  have CA := Lib.hid hA; clear hA
  have CB := Lib.hid hB; clear hB
  have CC := Lib.hid hC; clear hC
  have CS := Lib.hid hS; clear hS
  have CT := Lib.hid hT; clear hT
  have CXY := Lib.hid hXY; clear hXY
  have CYX := Lib.hid hYX; clear hYX
  have CST := Lib.hid hST; clear hST
  have CF := Lib.hid hF; clear hF
  have CYZ := Lib.hid hYZ; clear hYZ
  have CXZ := Lib.hid hXZ; clear hXZ
  go_enter Try.func6, Try.ntmps6
  go_wp2_with fail
  refine (CA.out _).mono ?_
  rintro e w1 ⟨rfl, hb⟩
  have hB1 := bnext (w := w) (by go_grown) hb
  have zs1 := hB1.size
  clear hb
  go_wp2_with fail
  refine (CB.out _).mono ?_
  rintro e w2 ⟨rfl, hb⟩
  have hB2 := bnext (w := w) (by go_grown) hb
  have zs2 := hB2.size
  clear hb
  go_wp2_with fail
  refine (CC.out _).mono ?_
  rintro e w3 ⟨rfl, hb⟩
  have hB3 := bnext (w := w) (by go_grown) hb
  have zs3 := hB3.size
  clear hb
  go_wp2_with fail
  refine (CS.out _).mono ?_
  rintro e w4 ⟨rfl, hb⟩
  have hB4 := bnext (w := w) (by go_grown) hb
  have zs4 := hB4.size
  have bx4 : Blk2 w4 w3.heap.size 23 (.int .i64 a1) (.int .i64 a2) := ((Blk2.new.alloc _).alloc _).below hb (by simp; omega)
  have by4 : Blk2 w4 (w3.heap.size + 1) 23 (.int .i64 b1) (.int .i64 b2) := ((Blk2.new' (by simp)).alloc _).below hb (by simp)
  have bz4 : Blk2 w4 (w3.heap.size + 1 + 1) 23 (.int .i64 c1) (.int .i64 c2) := (Blk2.new' (by simp)).below hb (by simp)
  clear hb
  have hy0 := by4.c0; have hy1 := by4.c1; have hyz := by4.lt
  have hz0 := bz4.c0; have hz1 := bz4.c1; have hzz := bz4.lt
  have hxz := bx4.lt
  go_wp2_with fail
  refine (CT.out _).mono ?_
  rintro e w5 ⟨rfl, hb⟩
  have hB5 := bnext (w := w) (by go_grown) hb
  have zs5 := hB5.size
  have bx5 := (bx4.alloc _).below hb (bx4.alloc _).lt
  have by5 := (by4.alloc _).below hb (by4.alloc _).lt
  have bz5 := (bz4.alloc _).below hb (bz4.alloc _).lt
  have bs5 : Blk2 w5 w4.heap.size 23 (.int .i64 s1) (.int .i64 s2) := Blk2.new.below hb (by simp)
  clear hb bx4 by4 bz4 hy0 hy1 hyz hz0 hz1 hzz hxz
  have bx6 := bx5.alloc (.cells #[.int .i64 t1, .int .i64 t2] 23)
  have by6 := by5.alloc (.cells #[.int .i64 t1, .int .i64 t2] 23)
  have bz6 := bz5.alloc (.cells #[.int .i64 t1, .int .i64 t2] 23)
  have bs6 := bs5.alloc (.cells #[.int .i64 t1, .int .i64 t2] 23)
  have bt6 : Blk2 (w5.alloc (.cells #[.int .i64 t1, .int .i64 t2] 23)) w5.heap.size 23 (.int .i64 t1) (.int .i64 t2) := Blk2.new
  have hB6 : Below w.heap.size w (w5.alloc (.cells #[.int .i64 t1, .int .i64 t2] 23)) := by go_grown
  go_wp2_with fail
  generalize w5.alloc (.cells #[.int .i64 t1, .int .i64 t2] 23) = w6 at *
  generalize w5.heap.size = g5 at *
  generalize w4.heap.size = g4 at *
  generalize w3.heap.size = g3 at *
  clear bx5 by5 bz5 bs5 hB5 hB4 hB3 hB2 hB1 zs1 zs2 zs3 zs4 zs5
  have hx0 := bx6.c0; have hx1 := bx6.c1; have hxz := bx6.lt
  have hy0 := by6.c0; have hy1 := by6.c1; have hyz := by6.lt
  have hs0 := bs6.c0; have hs1 := bs6.c1; have hsz := bs6.lt
  have ht0 := bt6.c0; have ht1 := bt6.c1; have htz := bt6.lt
  refine wp_region_over (by kernel_rfl) (by kernel_rfl) ?_
  repeat (go_big_quiet_step ((go_at_call 21; first | with_reducible exact calls_over (CXY.out _) | with_reducible exact calls_over (CYX.out _) | with_reducible exact calls_over (CST.out _))))
  refine wpQuiet_nil ?_
  rintro _ ⟨xx, rfl⟩
  have hb := over_below _ xx
  generalize over _ xx = w7 at *
  have hB7 := bnext (w := w) (by go_grown) hb
  have bx7 := bx6.below hb bx6.lt; have by7 := by6.below hb by6.lt; have bz7 := bz6.below hb bz6.lt
  clear hb xx bx6 by6 bz6 bs6 bt6 hx0 hx1 hxz hy0 hy1 hyz hs0 hs1 hsz ht0 ht1 htz hB6
  have hx0 := bx7.c0; have hx1 := bx7.c1; have hxz := bx7.lt
  go_wp2_with fail
  refine (CF.out _).mono ?_
  rintro e w8 ⟨rfl, hb⟩
  have hB8 := bnext (w := w) (by go_grown) hb
  have bx8 := bx7.below hb bx7.lt; have by8 := by7.below hb by7.lt; have bz8 := bz7.below hb bz7.lt
  clear hb bx7 by7 bz7 hx0 hx1 hxz hB7
  have hx0 := bx8.c0; have hx1 := bx8.c1; have hxz := bx8.lt
  have hy0 := by8.c0; have hy1 := by8.c1; have hyz := by8.lt
  go_wp2_with fail
  refine (CXY.out _).mono ?_
  rintro e w9 ⟨rfl, hb⟩
  have hB9 := bnext (w := w) (by go_grown) hb
  have bx9 := bx8.below hb bx8.lt; have by9 := by8.below hb by8.lt; have bz9 := bz8.below hb bz8.lt
  clear hb bx8 by8 bz8 hx0 hx1 hxz hy0 hy1 hyz hB8
  have hy0 := by9.c0; have hy1 := by9.c1; have hyz := by9.lt
  have hz0 := bz9.c0; have hz1 := bz9.c1; have hzz := bz9.lt
  go_wp2_with fail
  refine (CYZ.out _).mono ?_
  rintro e w10 ⟨rfl, hb⟩
  have hB10 := bnext (w := w) (by go_grown) hb
  have bx10 := bx9.below hb bx9.lt; have bz10 := bz9.below hb bz9.lt
  clear hb bx9 by9 bz9 hy0 hy1 hyz hz0 hz1 hzz hB9
  have hx0 := bx10.c0; have hx1 := bx10.c1; have hxz := bx10.lt
  have hz0 := bz10.c0; have hz1 := bz10.c1; have hzz := bz10.lt
  go_wp2_with fail
  refine (CXZ.out _).mono ?_
  rintro e w11 ⟨rfl, hb⟩
  have hB11 := bnext (w := w) (by go_grown) hb
  clear hb
  go_wp2_with fail
  refine (awake_any _).mono ?_
  rintro e wZ ⟨rfl, hb⟩
  have hBZ := bnext (w := w) (by go_grown) hb
  clear hb
  go_wp2
  go_ret
  exact ⟨rfl, by go_grown⟩
end Go.Proofs.Ytincfllhmfidoaa
