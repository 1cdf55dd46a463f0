/- Walks of ratio.Make. -/
import Derived.Test.YtioohmhllajifaaWd
import Derived.Test.YtioohmhllajifaaQt
namespace Go.Proofs.Ytioohmhllajifaa
open Go.RowKit Go.Lib Go.BigFrame
def quoN (a b : Nat) : Nat := a / Nat.gcd a b
def quoD (a b : Nat) : Nat := b / Nat.gcd a b
theorem quo_i (a b : Nat) : ((a : Int) / ((Nat.gcd a b : Nat) : Int)) = ((quoN a b : Nat) : Int) := by unfold quoN; omega
theorem quo_d (a b : Nat) : ((b : Int) / ((Nat.gcd a b : Nat) : Int)) = ((quoD a b : Nat) : Int) := by unfold quoD; omega
theorem quoN_le (a b : Nat) : quoN a b ≤ a := Nat.div_le_self _ _
theorem quoD_le (a b : Nat) : quoD a b ≤ b := Nat.div_le_self _ _
theorem sw_neg_small (q : Nat) (h : q ≤ 9223372036854775808) : sw (hiOf (- uw 0 q)) (loOf (- uw 0 q)) = - (q : Int) := by
  rw [uw_zero]; exact sw_hilo _ (by omega) (by omega)
set_option maxHeartbeats 400000 in
theorem make_zero (a : Int) (w : World) :
    Calls Try.prog 50 #[.int .i64 a, .int .i64 0] w fun e w' => e = .returned (.tuple #[.agg #[.int .i64 0, .int .i64 0], .int .i64 2]) ∧ Below w.heap.size w w' := by
  go_enter Try.func50, Try.ntmps50
  go_wp2
  exact bodyPost_ret (v := .tuple #[.agg #[.int .i64 0, .int .i64 0], .int .i64 2]) (by simp [results, Try.results50, go_sem, *]) rfl ⟨rfl, by go_grown⟩
theorem below_drewW {B : Nat} {a w : World} (h : Below B a w) (n : Nat) : Below B a (w.drewN n) := ⟨h.os, h.tape, h.output, h.size, h.block⟩
/-- the numerator with its sign -/
def sgn (s : Bool) (p : Nat) : Int := if s then - (p : Int) else p
set_option maxHeartbeats 1000000 in
theorem make_nz (a b : Int) (w : World) (ha1 : -9223372036854775808 ≤ a) (ha2 : a < 9223372036854775808) (hb1 : -9223372036854775808 ≤ b) (hb2 : b < 9223372036854775808) (h2 : b ≠ 0) (s : Bool) (hs : (decide (a < 0) == decide (b < 0)) = !s) :
    Calls Try.prog 50 #[.int .i64 a, .int .i64 b] w fun e w' =>
      e = .returned (.tuple #[.agg #[.int .i64 (nrN (sgn s (quoN a.natAbs b.natAbs)) (quoD a.natAbs b.natAbs)), .int .i64 (nrD (sgn s (quoN a.natAbs b.natAbs)) (quoD a.natAbs b.natAbs))], .int .i64 (nrE (sgn s (quoN a.natAbs b.natAbs)) (quoD a.natAbs b.natAbs))]) ∧ Below w.heap.size w w' := by
  have cA := fun w => mag_any a w ha1 ha2
  have cB := fun w => mag_any b w hb1 hb2
  have hp : 1 ≤ b.natAbs := by omega
  have hx : a.natAbs ≤ 9223372036854775808 := by omega
  have hy : b.natAbs ≤ 9223372036854775808 := by omega
  have hb0 : (b == 0) = false := by simpa using h2
  clear h2
  generalize hxa : a.natAbs = x at *
  generalize hyb : b.natAbs = y at *
  have cG := fun w => cd_any x y w (by omega) (by omega)
  have hg : 1 ≤ Nat.gcd x y := Nat.gcd_pos_of_pos_right _ hp
  have hg2 : Nat.gcd x y ≤ y := Nat.gcd_le_right _ hp
  have q1 := quo_i x y; have q2 := quo_d x y
  have l1 := quoN_le x y; have l2 := quoD_le x y
  obtain ⟨h, l, hh, hl, hw, c31⟩ : ∃ h l : Nat, h < 18446744073709551616 ∧ l < 18446744073709551616 ∧ sw h l = sgn s (quoN x y) ∧ ∀ w, Calls Try.prog 64 #[.agg #[.int .u64 0, .int .u64 (quoN x y : Nat)], .bool s] w fun e w' => e = .returned (.agg #[.int .u64 h, .int .u64 l]) ∧ Below w.heap.size w w' := by
    cases s
    · exact ⟨0, quoN x y, by omega, by omega, sw_zero _, fun w => sign_f 0 (quoN x y) w⟩
    · exact ⟨_, _, hi_lt _, lo_lt _, sw_neg_small _ (by omega), fun w => sign_t 0 (quoN x y) w (by omega) (by omega)⟩
  have c30 := fun w => narrowed_any h l 0 (quoD x y) w hh hl (by omega) (by omega)
  rw [hw, sw_zero] at c30
  have H := Lib.hid (And.intro hxa hyb); clear hxa hyb hw
  have CA := Lib.hid cA; clear cA
  have CB := Lib.hid cB; clear cB
  have CG := Lib.hid cG; clear cG
  have C31 := Lib.hid c31; clear c31
  have C30 := Lib.hid c30; clear c30
  have Q1 := Lib.hid q1; have Q2 := Lib.hid q2; clear q1 q2
  generalize nrN (sgn s (quoN x y)) (quoD x y) = r1 at *
  generalize nrD (sgn s (quoN x y)) (quoD x y) = r2 at *
  generalize nrE (sgn s (quoN x y)) (quoD x y) = r3 at *
  generalize quoN x y = p at *
  generalize quoD x y = r at *
  generalize Nat.gcd x y = g at *
  go_enter Try.func50, Try.ntmps50
  go_wp2_with fail
  refine (CA.out _).mono ?_
  rintro e w' ⟨rfl, rfl⟩
  go_wp2_with fail
  refine (CB.out _).mono ?_
  rintro e w' ⟨rfl, rfl⟩
  go_wp2_with fail
  refine (CG.out _).mono ?_
  rintro e w' ⟨rfl, n, rfl⟩
  go_wp2_with fail
  clear hs hb0 hh hl ha1 ha2 hb1 hb2
  refine wp_region_over_tail 13 (by kernel_rfl) (by kernel_rfl) ?_
  simp only [List.take_succ_cons, List.take_zero, List.drop_succ_cons, List.drop_zero]
  have q1 := Q1.out; have q2 := Q2.out
  repeat (go_big_quiet_step (first | (go_at_call 64; exact calls_over (C31.out _)) | (go_at_call 63; exact calls_over (C30.out _))))
  refine wpQuiet_nil ?_
  rintro _ ⟨x, rfl⟩
  have hB := bnext (w := w) (below_drewW (by go_grown) n) (over_below _ x)
  have hz : w.heap.size < (over _ x).heap.size := Nat.lt_of_lt_of_le (by simp) (over_size _ x)
  go_wp2
  exact bodyPost_ret (v := .tuple #[.agg #[.int .i64 r1, .int .i64 r2], .int .i64 r3]) (by simp [results, Try.results50, go_sem, *]) rfl ⟨rfl, by go_grown⟩
end Go.Proofs.Ytioohmhllajifaa
