/- The law RatioDoes, walked. -/
import Derived.Test.YtafheinapjfbaaaYg
import Derived.Test.YtafheinapjfbaaaZf
import Derived.Lib.SmallJoins
namespace Go.Proofs.Ytafheinapjfbaaa
open Go.RowKit Go.Lib Go.BigFrame
theorem mk_bd' (a b : Int) : (-1152921504606846976 ≤ mkN a b ∧ mkN a b ≤ 1152921504606846976) ∧ (-1152921504606846976 ≤ mkD a b ∧ mkD a b ≤ 1152921504606846976) := by
  unfold mkN mkD nrN nrD
  constructor <;> split <;> try omega
  all_goals split <;> omega
theorem split_mod (h l y M : Nat) : (h * M + l) % y = ((h % y) * M + l) % y := by
  rw [Nat.add_mod (h * M), Nat.mul_mod h M, Nat.add_mod (h % y * M), Nat.mul_mod (h % y) M, Nat.mod_mod]
/-- Div64 for every number that comes up -/
theorem divFor_all (m : Nat) (hm : m ≤ 2658455991569831745807614120560689152) : DivFor m := by
  intro y hy hy2
  have hm2 : m / 18446744073709551616 < 18446744073709551616 := Nat.lt_of_le_of_lt (Nat.div_le_div_right hm) (by decide)
  clear hm
  have hl : lN m < 18446744073709551616 := by unfold lN; omega
  have hmod : m % y = ((hN m % y) * 18446744073709551616 + lN m) % y := by
    have e : m = hN m * 18446744073709551616 + lN m := by unfold hN lN; omega
    have e4 := split_mod (hN m) (lN m) y 18446744073709551616
    rw [← e] at e4
    exact e4
  rw [hmod]
  by_cases h0 : hN m % y = 0
  · rw [h0, Nat.zero_mul, Nat.zero_add]
    exact d64_small _ y hy hl (by omega)
  · exact fun w => d64_high _ _ y h0 (Nat.mod_lt _ hy) (by omega) hl w

def Blk4 (w : World) (g : Nat) (t : TypeId) (x y z u : Value) : Prop := w.heap[g]? = some (.cells #[x, y, z, u] t (0, 0))
namespace Blk4
variable {w w' : World} {g : Nat} {t : TypeId} {x y z u : Value}
theorem lt (h : Blk4 w g t x y z u) : g < w.heap.size := by
  rcases Nat.lt_or_ge g w.heap.size with hlt | hge
  · exact hlt
  · unfold Blk4 at h; rw [Array.getElem?_eq_none hge] at h; cases h
theorem c0 (h : Blk4 w g t x y z u) : w.cell? ⟨g, 0, none⟩ = some x := by unfold Blk4 at h; simp [World.cell?, h]
theorem c1 (h : Blk4 w g t x y z u) : w.cell? ⟨g, 1, none⟩ = some y := by unfold Blk4 at h; simp [World.cell?, h]
theorem c2 (h : Blk4 w g t x y z u) : w.cell? ⟨g, 2, none⟩ = some z := by unfold Blk4 at h; simp [World.cell?, h]
theorem c3 (h : Blk4 w g t x y z u) : w.cell? ⟨g, 3, none⟩ = some u := by unfold Blk4 at h; simp [World.cell?, h]
theorem new : Blk4 (w.alloc (.cells #[x, y, z, u] t)) w.heap.size t x y z u := heap_alloc_new w _
theorem alloc (h : Blk4 w g t x y z u) (o : Obj) : Blk4 (w.alloc o) g t x y z u := (Below.heap_alloc w o g h.lt).trans h
theorem below {B : Nat} (h : Blk4 w g t x y z u) (hb : Below B w w') (hg : g < B) : Blk4 w' g t x y z u := (hb.block g hg).trans h
end Blk4
set_option maxRecDepth 100000 in
set_option maxHeartbeats 2000000 in
theorem law4_any (n d a b c f : Int) (w : World) (hn1 : -9223372036854775808 ≤ n) (hn2 : n < 9223372036854775808) (hd1 : -9223372036854775808 ≤ d) (hd2 : d < 9223372036854775808)
    (ha1 : -9223372036854775808 ≤ a) (ha2 : a < 9223372036854775808) (hb1 : -9223372036854775808 ≤ b) (hb2 : b < 9223372036854775808)
    (hc1 : -9223372036854775808 ≤ c) (hc2 : c < 9223372036854775808) (hf1 : -9223372036854775808 ≤ f) (hf2 : f < 9223372036854775808) :
    Calls Try.prog 4 #[.agg #[.int .i64 n, .int .i64 d], .int .i64 a, .int .i64 b, .int .i64 c, .int .i64 f] w fun e w' => e = .returned (.bool true) ∧ Below w.heap.size w w' := by
  have C1 := Lib.hid (fun w => rmake_any a b w ha1 ha2 hb1 hb2)
  have C2 := Lib.hid (fun w => rmake_any c f w hc1 hc2 hf1 hf2)
  obtain ⟨⟨x1, x2⟩, x3, x4⟩ := mk_bd' a b
  obtain ⟨⟨y1, y2⟩, y3, y4⟩ := mk_bd' c f
  have BX := Lib.hid (show (-9223372036854775808 ≤ mkN a b ∧ mkN a b < 9223372036854775808) ∧ (-9223372036854775808 ≤ mkD a b ∧ mkD a b < 9223372036854775808) from ⟨⟨by omega, by omega⟩, by omega, by omega⟩)
  have BY := Lib.hid (show (-9223372036854775808 ≤ mkN c f ∧ mkN c f < 9223372036854775808) ∧ (-9223372036854775808 ≤ mkD c f ∧ mkD c f < 9223372036854775808) from ⟨⟨by omega, by omega⟩, by omega, by omega⟩)
  have BR := Lib.hid (show (-9223372036854775808 ≤ n ∧ n < 9223372036854775808) ∧ (-9223372036854775808 ≤ d ∧ d < 9223372036854775808) from ⟨⟨hn1, hn2⟩, hd1, hd2⟩)
  clear ha1 ha2 hb1 hb2 hn1 hn2 hd1 hd2 hc1 hc2 hf1 hf2 x1 x2 x3 x4 y1 y2 y3 y4
  generalize mkN a b = r1 at *
  generalize mkD a b = r2 at *
  generalize mkE a b = r3 at *
  generalize mkN c f = s1 at *
  generalize mkD c f = s2 at *
  generalize mkE c f = s3 at *
  go_enter Try.func4, Try.ntmps4
  go_wp2_with fail
  refine (C1.out _).mono ?_
  rintro e w1 ⟨rfl, hb⟩
  have hB1 := bnext (w := w) (by go_grown) hb
  have zs1 := hB1.size
  have bR1 : Blk2 w1 w.heap.size 23 (.int .i64 n) (.int .i64 d) := Blk2.new.below hb (by simp)
  clear hb
  go_wp2_with fail
  refine (C2.out _).mono ?_
  rintro e w2 ⟨rfl, hb⟩
  have hB2 := bnext (w := w) (by go_grown) hb
  have zs2 := hB2.size
  have bR2 := (bR1.alloc _).below hb (bR1.alloc _).lt
  have bX2 : Blk2 w2 w1.heap.size 23 (.int .i64 r1) (.int .i64 r2) := Blk2.new.below hb (by simp)
  clear hb bR1
  have hR0 := bR2.c0; have hR1 := bR2.c1; have hRz := bR2.lt
  have hX0 := bX2.c0; have hX1 := bX2.c1; have hXz := bX2.lt
  clear bR2 bX2
  go_wp2
  obtain ⟨g, HG⟩ : ∃ g, Hid (g = w2.heap.size + 1) := ⟨_, rfl⟩
  obtain ⟨W4, HW4⟩ : ∃ W4, Hid (W4 = (w2.alloc (Obj.cells #[Value.int IntKind.i64 s1, Value.int IntKind.i64 s2] 23)).alloc (Obj.cells #[.int .i64 r1, .int .i64 r2, .int .i64 s1, .int .i64 s2, .int .i64 s1, .int .i64 s2, .int .i64 r1, .int .i64 r2, .int .i64 n, .int .i64 d, .int .i64 s1, .int .i64 s2, .int .i64 r1, .int .i64 r2, .int .i64 n, .int .i64 d] 30)) := ⟨_, rfl⟩
  have HB : Hid (Below w.heap.size w W4) := by
    show Below _ _ _
    rw [HW4.out]; go_grown
  have HBL : Hid (W4.heap[g]? = some (.cells #[.int .i64 r1, .int .i64 r2, .int .i64 s1, .int .i64 s2, .int .i64 s1, .int .i64 s2, .int .i64 r1, .int .i64 r2, .int .i64 n, .int .i64 d, .int .i64 s1, .int .i64 s2, .int .i64 r1, .int .i64 r2, .int .i64 n, .int .i64 d] 30)) := by
    show _ = _
    rw [HW4.out, HG.out]; have := heap_alloc_new (w2.alloc (Obj.cells #[Value.int IntKind.i64 s1, Value.int IntKind.i64 s2] 23)) (Obj.cells #[.int .i64 r1, .int .i64 r2, .int .i64 s1, .int .i64 s2, .int .i64 s1, .int .i64 s2, .int .i64 r1, .int .i64 r2, .int .i64 n, .int .i64 d, .int .i64 s1, .int .i64 s2, .int .i64 r1, .int .i64 r2, .int .i64 n, .int .i64 d] 30); simpa using this
  have HGL : Hid (g < W4.heap.size) := by show _ < _; rw [HW4.out, HG.out]; simp
  rw [← HW4.out, ← HG.out]
  clear HW4 HG hR0 hR1 hRz hX0 hX1 hXz hB1 hB2 zs1 zs2
  go_loopw [59] (fun i wr => ∃ k : Nat, k ≤ 4 ∧ i = .int .i64 k ∧ Hid (Below W4.heap.size W4 wr)) (fun i _ => 4 - (RowKit.intOf i).toNat)
  case atStart => exact ⟨0, by omega, rfl, Below.refl _ _⟩
  case round =>
    obtain ⟨k, hk, rfl, HBR⟩ := hrel
    by_cases hlt : k < 4
    · have pk : ∃ p q u v : Int, Hid ((-9223372036854775808 ≤ p ∧ p < 9223372036854775808) ∧ (-9223372036854775808 ≤ q ∧ q < 9223372036854775808)) ∧ Hid ((-9223372036854775808 ≤ u ∧ u < 9223372036854775808) ∧ (-9223372036854775808 ≤ v ∧ v < 9223372036854775808)) ∧
          wr.cell? ⟨g, k * 4, none⟩ = some (.int .i64 p) ∧ wr.cell? ⟨g, k * 4 + 1, none⟩ = some (.int .i64 q) ∧ wr.cell? ⟨g, k * 4 + 2, none⟩ = some (.int .i64 u) ∧ wr.cell? ⟨g, k * 4 + 3, none⟩ = some (.int .i64 v) := by
        have hbl : wr.heap[g]? = some (.cells #[.int .i64 r1, .int .i64 r2, .int .i64 s1, .int .i64 s2, .int .i64 s1, .int .i64 s2, .int .i64 r1, .int .i64 r2, .int .i64 n, .int .i64 d, .int .i64 s1, .int .i64 s2, .int .i64 r1, .int .i64 r2, .int .i64 n, .int .i64 d] 30) := (HBR.out.block g HGL.out).trans HBL.out
        have hc := fun i => Go.Joins.cell_of_block hbl i
        rcases (by omega : k = 0 ∨ k = 1 ∨ k = 2 ∨ k = 3) with rfl | rfl | rfl | rfl
        · exact ⟨r1, r2, s1, s2, BX, BY, hc 0, hc 1, hc 2, hc 3⟩
        · exact ⟨s1, s2, r1, r2, BY, BX, hc 4, hc 5, hc 6, hc 7⟩
        · exact ⟨n, d, s1, s2, BR, BY, hc 8, hc 9, hc 10, hc 11⟩
        · exact ⟨r1, r2, n, d, BX, BR, hc 12, hc 13, hc 14, hc 15⟩
      obtain ⟨p, q, u, v, BP, BU, hs0, hs1, hs2, hs3⟩ := pk
      obtain ⟨⟨p1, p2⟩, q1, q2⟩ := BP.out
      obtain ⟨⟨u1, u2⟩, v1, v2⟩ := BU.out
      have K1 := Lib.hid (fun w => add_tot divFor_all p q u v w p1 p2 q1 q2 u1 u2 v1 v2)
      have K2 := Lib.hid (fun w => rAdd_any p q u v w p1 p2 q1 q2 u1 u2 v1 v2)
      have K3 := Lib.hid (fun w => sub_tot divFor_all p q u v w p1 p2 q1 q2 u1 u2 v1 v2)
      have K4 := Lib.hid (fun w => rSub_any p q u v w p1 p2 q1 q2 u1 u2 v1 v2)
      have K5 := Lib.hid (fun w => mul_any p q u v w p1 p2 q1 q2 u1 u2 v1 v2)
      have K6 := Lib.hid (fun w => rMul_any p q u v w p1 p2 q1 q2 u1 u2 v1 v2)
      have K7 := Lib.hid (fun w => div_any p q u v w p1 p2 q1 q2 u1 u2 v1 v2)
      have K8 := Lib.hid (fun w => rDiv_any p q u v w p1 p2 q1 q2 u1 u2 v1 v2)
      have K9 := Lib.hid (fun w => cmp_tot p q u v w p1 p2 q1 q2 u1 u2 v1 v2)
      have K10 := Lib.hid (fun w => rCmp_any p q u v w p1 p2 q1 q2 u1 u2 v1 v2)
      have K11 := Lib.hid (fun w => floor_any p q w p1 p2 q1 q2)
      have K12 := Lib.hid (fun w => rfloor_any p q w p1 p2 q1 q2)
      clear p1 p2 q1 q2 u1 u2 v1 v2 BP BU BX BY BR C1 C2
      generalize addN p q u v = AN at *
      generalize addD p q u v = AD at *
      generalize addE p q u v = AE at *
      generalize difN p q u v = SN at *
      generalize difD p q u v = SD at *
      generalize difE p q u v = SE at *
      generalize mulN p q u v = MN at *
      generalize mulD p q u v = MD at *
      generalize mulE p q u v = ME at *
      generalize divN p q u v = DN at *
      generalize divD p q u v = DD at *
      generalize divE p q u v = DE at *
      generalize cmpI p q u v = CI at *
      generalize flr p q = FL at *
      go_wp2_with fail
      refine (K1.out _).mono ?_
      rintro e v1 ⟨rfl, hb⟩
      have hB1 := bnext (w := wr) (by go_grown) hb
      have zs1 := hB1.size
      have bb1 : Blk4 v1 wr.heap.size 30 (.int .i64 p) (.int .i64 q) (.int .i64 u) (.int .i64 v) := Blk4.new.below hb (by simp)
      clear hb hs0 hs1 hs2 hs3
      have h0 := bb1.c0; have h1 := bb1.c1; have h2 := bb1.c2; have h3 := bb1.c3; have hz := bb1.lt
      go_wp2_with fail
      refine (K2.out _).mono ?_
      rintro e v2 ⟨rfl, hb⟩
      have hB2 := bnext (w := wr) (by go_grown) hb
      have zs2 := hB2.size
      have bb2 := (bb1.alloc _).below hb (bb1.alloc _).lt
      have n1_2 : Blk2 v2 v1.heap.size 23 (.int .i64 AN) (.int .i64 AD) := Blk2.new.below hb (by simp)
      clear hb bb1 h0 h1 h2 h3 hz hB1 
      have h0 := bb2.c0; have h1 := bb2.c1; have h2 := bb2.c2; have h3 := bb2.c3; have hz := bb2.lt
      go_wp2_with fail
      refine (K3.out _).mono ?_
      rintro e v3 ⟨rfl, hb⟩
      have hB3 := bnext (w := wr) (by go_grown) hb
      have zs3 := hB3.size
      have bb3 := (bb2.alloc _).below hb (bb2.alloc _).lt
      have n1_3 := (n1_2.alloc _).below hb (n1_2.alloc _).lt
      have n2_3 : Blk2 v3 v2.heap.size 23 (.int .i64 AN) (.int .i64 AD) := Blk2.new.below hb (by simp)
      clear hb bb2 h0 h1 h2 h3 hz hB2 n1_2
      have h0 := bb3.c0; have h1 := bb3.c1; have h2 := bb3.c2; have h3 := bb3.c3; have hz := bb3.lt
      go_wp2_with fail
      refine (K4.out _).mono ?_
      rintro e v4 ⟨rfl, hb⟩
      have hB4 := bnext (w := wr) (by go_grown) hb
      have zs4 := hB4.size
      have bb4 := (bb3.alloc _).below hb (bb3.alloc _).lt
      have n1_4 := (n1_3.alloc _).below hb (n1_3.alloc _).lt
      have n2_4 := (n2_3.alloc _).below hb (n2_3.alloc _).lt
      have n3_4 : Blk2 v4 v3.heap.size 23 (.int .i64 SN) (.int .i64 SD) := Blk2.new.below hb (by simp)
      clear hb bb3 h0 h1 h2 h3 hz hB3 n1_3 n2_3
      have h0 := bb4.c0; have h1 := bb4.c1; have h2 := bb4.c2; have h3 := bb4.c3; have hz := bb4.lt
      go_wp2_with fail
      refine (K5.out _).mono ?_
      rintro e v5 ⟨rfl, hb⟩
      have hB5 := bnext (w := wr) (by go_grown) hb
      have zs5 := hB5.size
      have bb5 := (bb4.alloc _).below hb (bb4.alloc _).lt
      have n1_5 := (n1_4.alloc _).below hb (n1_4.alloc _).lt
      have n2_5 := (n2_4.alloc _).below hb (n2_4.alloc _).lt
      have n3_5 := (n3_4.alloc _).below hb (n3_4.alloc _).lt
      have n4_5 : Blk2 v5 v4.heap.size 23 (.int .i64 SN) (.int .i64 SD) := Blk2.new.below hb (by simp)
      clear hb bb4 h0 h1 h2 h3 hz hB4 n1_4 n2_4 n3_4
      have h0 := bb5.c0; have h1 := bb5.c1; have h2 := bb5.c2; have h3 := bb5.c3; have hz := bb5.lt
      go_wp2_with fail
      refine (K6.out _).mono ?_
      rintro e v6 ⟨rfl, hb⟩
      have hB6 := bnext (w := wr) (by go_grown) hb
      have zs6 := hB6.size
      have bb6 := (bb5.alloc _).below hb (bb5.alloc _).lt
      have n1_6 := (n1_5.alloc _).below hb (n1_5.alloc _).lt
      have n2_6 := (n2_5.alloc _).below hb (n2_5.alloc _).lt
      have n3_6 := (n3_5.alloc _).below hb (n3_5.alloc _).lt
      have n4_6 := (n4_5.alloc _).below hb (n4_5.alloc _).lt
      have n5_6 : Blk2 v6 v5.heap.size 23 (.int .i64 MN) (.int .i64 MD) := Blk2.new.below hb (by simp)
      clear hb bb5 h0 h1 h2 h3 hz hB5 n1_5 n2_5 n3_5 n4_5
      have h0 := bb6.c0; have h1 := bb6.c1; have h2 := bb6.c2; have h3 := bb6.c3; have hz := bb6.lt
      go_wp2_with fail
      refine (K7.out _).mono ?_
      rintro e v7 ⟨rfl, hb⟩
      have hB7 := bnext (w := wr) (by go_grown) hb
      have zs7 := hB7.size
      have bb7 := (bb6.alloc _).below hb (bb6.alloc _).lt
      have n1_7 := (n1_6.alloc _).below hb (n1_6.alloc _).lt
      have n2_7 := (n2_6.alloc _).below hb (n2_6.alloc _).lt
      have n3_7 := (n3_6.alloc _).below hb (n3_6.alloc _).lt
      have n4_7 := (n4_6.alloc _).below hb (n4_6.alloc _).lt
      have n5_7 := (n5_6.alloc _).below hb (n5_6.alloc _).lt
      have n6_7 : Blk2 v7 v6.heap.size 23 (.int .i64 MN) (.int .i64 MD) := Blk2.new.below hb (by simp)
      clear hb bb6 h0 h1 h2 h3 hz hB6 n1_6 n2_6 n3_6 n4_6 n5_6
      have h0 := bb7.c0; have h1 := bb7.c1; have h2 := bb7.c2; have h3 := bb7.c3; have hz := bb7.lt
      go_wp2_with fail
      refine (K8.out _).mono ?_
      rintro e v8 ⟨rfl, hb⟩
      have hB8 := bnext (w := wr) (by go_grown) hb
      have zs8 := hB8.size
      have bb8 := (bb7.alloc _).below hb (bb7.alloc _).lt
      have n1_8 := (n1_7.alloc _).below hb (n1_7.alloc _).lt
      have n2_8 := (n2_7.alloc _).below hb (n2_7.alloc _).lt
      have n3_8 := (n3_7.alloc _).below hb (n3_7.alloc _).lt
      have n4_8 := (n4_7.alloc _).below hb (n4_7.alloc _).lt
      have n5_8 := (n5_7.alloc _).below hb (n5_7.alloc _).lt
      have n6_8 := (n6_7.alloc _).below hb (n6_7.alloc _).lt
      have n7_8 : Blk2 v8 v7.heap.size 23 (.int .i64 DN) (.int .i64 DD) := Blk2.new.below hb (by simp)
      clear hb bb7 h0 h1 h2 h3 hz hB7 n1_7 n2_7 n3_7 n4_7 n5_7 n6_7
      have h0 := bb8.c0; have h1 := bb8.c1; have h2 := bb8.c2; have h3 := bb8.c3; have hz := bb8.lt
      have g10 := n1_8.c0; have g11 := n1_8.c1; have g1z := n1_8.lt
      have g20 := n2_8.c0; have g21 := n2_8.c1; have g2z := n2_8.lt
      have g30 := n3_8.c0; have g31 := n3_8.c1; have g3z := n3_8.lt
      have g40 := n4_8.c0; have g41 := n4_8.c1; have g4z := n4_8.lt
      have g50 := n5_8.c0; have g51 := n5_8.c1; have g5z := n5_8.lt
      have g60 := n6_8.c0; have g61 := n6_8.c1; have g6z := n6_8.lt
      have g70 := n7_8.c0; have g71 := n7_8.c1; have g7z := n7_8.lt
      clear n1_8 n2_8 n3_8 n4_8 n5_8 n6_8 n7_8 bb8
      go_wp2_with fail
      refine wp_region_over (by kernel_rfl) (by kernel_rfl) ?_
      repeat (go_big_quiet_step (first | (go_at_call 21; exact calls_over (K9.out _)) | (go_at_call 22; exact calls_over (K10.out _)) | (go_at_call 23; exact calls_over (K11.out _)) | (go_at_call 24; exact calls_over (K12.out _))))
      refine wpQuiet_nil ?_
      rintro _ ⟨x, rfl⟩
      have hBx := Lib.hid (bnext (w := wr) (by go_grown) (over_below _ x))
      go_wp2
      go_roundw
      case rel => exact ⟨k + 1, by omega, by go_num, HBR.out.trans (hBx.out.mono HBR.out.size)⟩
      case measure => simp [RowKit.intOf]; omega
    · have HF := Lib.hid (HB.out.trans (HBR.out.mono HB.out.size))
      clear HB HBL HGL HBR C1 C2
      go_wp2_with fail
      refine (awake_any _).mono ?_
      rintro e v1 ⟨rfl, hb⟩
      have HF2 := Lib.hid (HF.out.trans (hb.mono HF.out.size))
      clear hb
      go_wp2
      go_ret
      exact ⟨rfl, HF2.out⟩
end Go.Proofs.Ytafheinapjfbaaa
