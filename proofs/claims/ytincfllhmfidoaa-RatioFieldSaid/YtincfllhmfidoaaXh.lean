/- The walk of the law RatioField. -/
import Derived.Test.YtincfllhmfidoaaXg
namespace Go.Proofs.Ytincfllhmfidoaa
open Go.RowKit Go.Lib Go.BigFrame
set_option maxRecDepth 100000 in
set_option maxHeartbeats 2000000 in
theorem law3_any (a b c d e f : Int) (w : World) (_ha1 : -9223372036854775808 ≤ a) (_ha2 : a < 9223372036854775808) (_hb1 : -9223372036854775808 ≤ b) (_hb2 : b < 9223372036854775808)
    (_hc1 : -9223372036854775808 ≤ c) (_hc2 : c < 9223372036854775808) (_hd1 : -9223372036854775808 ≤ d) (_hd2 : d < 9223372036854775808)
    (_he1 : -9223372036854775808 ≤ e) (_he2 : e < 9223372036854775808) (_hf1 : -9223372036854775808 ≤ f) (_hf2 : f < 9223372036854775808) :
    Calls Try.prog 5 #[.int .i64 a, .int .i64 b, .int .i64 c, .int .i64 d, .int .i64 e, .int .i64 f] w fun e w' => e = .returned (.bool true) ∧ Below w.heap.size w w' := by
  obtain ⟨a1, a2, va, a20, a12, ca⟩ := small_any a b
  obtain ⟨b1, b2, vb, b20, b12, cb⟩ := small_any c d
  obtain ⟨c1, c2, vc, c20, c12, cc⟩ := small_any e f
  obtain ⟨s1, s2, u1, u2, p1, p2, q1, q2, k1, k2, k3, k4, k5, k6, k7, k8, k9⟩ := field_nums a1 a2 b1 b2 c1 c2 va vb vc a20 b20 c20 a12 b12 c12
  have CA := Lib.hid ca; have CB := Lib.hid cb; have CC := Lib.hid cc
  have C1 := Lib.hid k1; have C2 := Lib.hid k2; have C3 := Lib.hid k3; have C4 := Lib.hid k4; have C5 := Lib.hid k5; have C6 := Lib.hid k6; have C7 := Lib.hid k7; have C8 := Lib.hid k8; have C9 := Lib.hid k9
  clear ca cb cc k1 k2 k3 k4 k5 k6 k7 k8 k9 va vb vc a20 b20 c20 a12 b12 c12 _ha1 _ha2 _hb1 _hb2 _hc1 _hc2 _hd1 _hd2 _he1 _he2 _hf1 _hf2
  go_enter Try.func5, Try.ntmps5
  go_wp2_with fail
  refine (CA.out _).mono ?_
  rintro e w1 ⟨rfl, hb⟩
  have hB1 := bnext (w := w) (by go_grown) hb
  have zs1 := hB1.size
  clear hb
  go_wp2_with fail
  refine (CB.out _).mono ?_
  rintro e w2 ⟨rfl, hb⟩
  have hB2 := bnext (w := w) (by go_grown) hb
  have zs2 := hB2.size
  clear hb
  go_wp2_with fail
  refine (CC.out _).mono ?_
  rintro e w3 ⟨rfl, hb⟩
  have hB3 := bnext (w := w) (by go_grown) hb
  have zs3 := hB3.size
  clear hb
  go_wp2_with fail
  refine (C1.out _).mono ?_
  rintro e w4 ⟨rfl, hb⟩
  have hB4 := bnext (w := w) (by go_grown) hb
  have zs4 := hB4.size
  have bx4 : Blk2 w4 w3.heap.size 23 (.int .i64 a1) (.int .i64 a2) := ((Blk2.new.alloc _).alloc _).below hb (by simp; omega)
  have by4 : Blk2 w4 (w3.heap.size + 1) 23 (.int .i64 b1) (.int .i64 b2) := ((Blk2.new' (by simp)).alloc _).below hb (by simp)
  have bz4 : Blk2 w4 (w3.heap.size + 1 + 1) 23 (.int .i64 c1) (.int .i64 c2) := (Blk2.new' (by simp)).below hb (by simp)
  clear hb
  have hx0 := bx4.c0; have hx1 := bx4.c1; have hxz := bx4.lt
  have hy0 := by4.c0; have hy1 := by4.c1; have hyz := by4.lt
  go_wp2_with fail
  refine (C2.out _).mono ?_
  rintro e w5 ⟨rfl, hb⟩
  have hB5 := bnext (w := w) (by go_grown) hb
  have zs5 := hB5.size
  have bx5 := (bx4.alloc _).below hb (bx4.alloc _).lt
  have by5 := (by4.alloc _).below hb (by4.alloc _).lt
  have bz5 := (bz4.alloc _).below hb (bz4.alloc _).lt
  have bs5 : Blk2 w5 w4.heap.size 23 (.int .i64 s1) (.int .i64 s2) := Blk2.new.below hb (by simp)
  clear hb bx4 by4 bz4 hx0 hx1 hxz hy0 hy1 hyz
  have hs0 := bs5.c0; have hs1 := bs5.c1; have hsz := bs5.lt
  have hz0 := bz5.c0; have hz1 := bz5.c1; have hzz := bz5.lt
  go_wp2_with fail
  refine (C3.out _).mono ?_
  rintro e w6 ⟨rfl, hb⟩
  have hB6 := bnext (w := w) (by go_grown) hb
  have zs6 := hB6.size
  have bx6 := (bx5.alloc _).below hb (bx5.alloc _).lt
  have by6 := (by5.alloc _).below hb (by5.alloc _).lt
  have bz6 := (bz5.alloc _).below hb (bz5.alloc _).lt
  have bs6 := (bs5.alloc _).below hb (bs5.alloc _).lt
  have bt6 : Blk2 w6 w5.heap.size 23 (.int .i64 s1) (.int .i64 s2) := Blk2.new.below hb (by simp)
  clear hb bx5 by5 bz5 bs5 hz0 hz1 hzz hs0 hs1 hsz
  have hx0 := bx6.c0; have hx1 := bx6.c1; have hxz := bx6.lt
  have hz0 := bz6.c0; have hz1 := bz6.c1; have hzz := bz6.lt
  go_wp2_with fail
  refine (C4.out _).mono ?_
  rintro e w7 ⟨rfl, hb⟩
  have hB7 := bnext (w := w) (by go_grown) hb
  have zs7 := hB7.size
  have bx7 := (bx6.alloc _).below hb (bx6.alloc _).lt
  have by7 := (by6.alloc _).below hb (by6.alloc _).lt
  have bz7 := (bz6.alloc _).below hb (bz6.alloc _).lt
  have bs7 := (bs6.alloc _).below hb (bs6.alloc _).lt
  have bt7 := (bt6.alloc _).below hb (bt6.alloc _).lt
  have bu7 : Blk2 w7 w6.heap.size 23 (.int .i64 u1) (.int .i64 u2) := Blk2.new.below hb (by simp)
  clear hb bx6 by6 bz6 bs6 bt6 hx0 hx1 hxz hz0 hz1 hzz
  have hy0 := by7.c0; have hy1 := by7.c1; have hyz := by7.lt
  have hz0 := bz7.c0; have hz1 := bz7.c1; have hzz := bz7.lt
  go_wp2_with fail
  refine (C5.out _).mono ?_
  rintro e w8 ⟨rfl, hb⟩
  have hB8 := bnext (w := w) (by go_grown) hb
  have zs8 := hB8.size
  have bx8 := (bx7.alloc _).below hb (bx7.alloc _).lt
  have by8 := (by7.alloc _).below hb (by7.alloc _).lt
  have bz8 := (bz7.alloc _).below hb (bz7.alloc _).lt
  have bs8 := (bs7.alloc _).below hb (bs7.alloc _).lt
  have bt8 := (bt7.alloc _).below hb (bt7.alloc _).lt
  have bu8 := (bu7.alloc _).below hb (bu7.alloc _).lt
  have bp8 : Blk2 w8 w7.heap.size 23 (.int .i64 p1) (.int .i64 p2) := Blk2.new.below hb (by simp)
  clear hb bx7 by7 bz7 bs7 bt7 bu7 hy0 hy1 hyz hz0 hz1 hzz
  have hp0 := bp8.c0; have hp1 := bp8.c1; have hpz := bp8.lt
  go_wp2_with fail
  refine (C6.out _).mono ?_
  rintro e w9 ⟨rfl, hb⟩
  have hB9 := bnext (w := w) (by go_grown) hb
  have zs9 := hB9.size
  have bx9 := (bx8.alloc _).below hb (bx8.alloc _).lt
  have by9 := (by8.alloc _).below hb (by8.alloc _).lt
  have bz9 := (bz8.alloc _).below hb (bz8.alloc _).lt
  have bs9 := (bs8.alloc _).below hb (bs8.alloc _).lt
  have bt9 := (bt8.alloc _).below hb (bt8.alloc _).lt
  have bu9 := (bu8.alloc _).below hb (bu8.alloc _).lt
  have bp9 := (bp8.alloc _).below hb (bp8.alloc _).lt
  have bq9 : Blk2 w9 w8.heap.size 23 (.int .i64 q1) (.int .i64 q2) := Blk2.new.below hb (by simp)
  clear hb bx8 by8 bz8 bs8 bt8 bu8 bp8 hp0 hp1 hpz
  have hs0 := bs9.c0; have hs1 := bs9.c1; have hsz := bs9.lt
  have hy0 := by9.c0; have hy1 := by9.c1; have hyz := by9.lt
  go_wp2_with fail
  refine (C7.out _).mono ?_
  rintro e w10 ⟨rfl, hb⟩
  have hB10 := bnext (w := w) (by go_grown) hb
  have zs10 := hB10.size
  have bx10 := (bx9.alloc _).below hb (bx9.alloc _).lt
  have bz10 := (bz9.alloc _).below hb (bz9.alloc _).lt
  have bs10 := (bs9.alloc _).below hb (bs9.alloc _).lt
  have bt10 := (bt9.alloc _).below hb (bt9.alloc _).lt
  have bu10 := (bu9.alloc _).below hb (bu9.alloc _).lt
  have bp10 := (bp9.alloc _).below hb (bp9.alloc _).lt
  have bv10 : Blk2 w10 w9.heap.size 23 (.int .i64 u1) (.int .i64 u2) := Blk2.new.below hb (by simp)
  clear hb bx9 by9 bz9 bs9 bt9 bu9 bp9 bq9 hy0 hy1 hyz hs0 hs1 hsz
  have hx0 := bx10.c0; have hx1 := bx10.c1; have hxz := bx10.lt
  have hs0 := bs10.c0; have hs1 := bs10.c1; have hsz := bs10.lt
  have ht0 := bt10.c0; have ht1 := bt10.c1; have htz := bt10.lt
  have hu0 := bu10.c0; have hu1 := bu10.c1; have huz := bu10.lt
  have hv0 := bv10.c0; have hv1 := bv10.c1; have hvz := bv10.lt
  have hp0 := bp10.c0; have hp1 := bp10.c1; have hpz := bp10.lt
  have hz0 := bz10.c0; have hz1 := bz10.c1; have hzz := bz10.lt
  by_cases h0 : c1 = 0
  · have C := Lib.hid (C9.out h0)
    subst h0
    go_wp2_with fail
    refine (C.out _).mono ?_
    rintro e w11 ⟨rfl, hb⟩
    have hB11 := bnext (w := w) (by go_grown) hb
    have zs11 := hB11.size
    have bz11 := (bz10.alloc _).below hb (bz10.alloc _).lt
    clear hb
    have gz0 := bz11.c0; have gz1 := bz11.c1; have gzz := bz11.lt
    go_wp2_with fail
    refine (awake_any _).mono ?_
    rintro e w12 ⟨rfl, hb⟩
    have hB12 := bnext (w := w) (by go_grown) hb
    clear hb
    go_wp2
    go_ret
    exact ⟨rfl, by go_grown⟩
  · have C := Lib.hid (C8.out h0)
    have hc0 : (c1 == 0) = false := by simpa using h0
    clear h0
    go_wp2_with fail
    refine (C.out _).mono ?_
    rintro e w11 ⟨rfl, hb⟩
    have hB11 := bnext (w := w) (by go_grown) hb
    have zs11 := hB11.size
    have bz11 := (bz10.alloc _).below hb (bz10.alloc _).lt
    have bx11 := (bx10.alloc _).below hb (bx10.alloc _).lt
    clear hb
    have gz0 := bz11.c0; have gz1 := bz11.c1; have gzz := bz11.lt
    have gx0 := bx11.c0; have gx1 := bx11.c1; have gxz := bx11.lt
    go_wp2_with fail
    refine (awake_any _).mono ?_
    rintro e w12 ⟨rfl, hb⟩
    have hB12 := bnext (w := w) (by go_grown) hb
    clear hb
    go_wp2
    go_ret
    exact ⟨rfl, by go_grown⟩
end Go.Proofs.Ytincfllhmfidoaa
