/- Add and Sub of ratio. -/
import Derived.Test.YtafheinapjfbaaaXd
namespace Go.Proofs.Ytafheinapjfbaaa
open Go.RowKit Go.Lib Go.BigFrame
/-- Div64 serves for the number m -/
def DivFor (m : Nat) : Prop := ∀ y, 0 < y → y ≤ 1152921504606846976 → D64 (hN m % y) (lN m) y (((hN m % y) * 18446744073709551616 + lN m) / y) (m % y)
theorem divFor_small (m : Nat) (h : m < 18446744073709551616) : DivFor m := by
  intro y hy hy2
  have e1 : hN m = 0 := by unfold hN; omega
  have e2 : lN m = m := by unfold lN; omega
  rw [e1, e2, Nat.zero_mod, Nat.zero_mul, Nat.zero_add]
  exact d64_small m y hy h (by omega)
theorem join_red (N num : Int) (D s c u t : Nat) (hs : 0 < s) (h1 : N.natAbs / Nat.gcd N.natAbs D = num.natAbs / c) (h2 : D / Nat.gcd N.natAbs D = u * t) (h3 : N = s * num) :
    num.tdiv c = sgn (decide (N < 0)) (quoN N.natAbs D) ∧ u * t = quoD N.natAbs D := by
  refine ⟨?_, h2.symm⟩
  have e : decide (N < 0) = decide (num < 0) := by rw [h3, Int.mul_comm, sign_mul_pos _ _ hs]
  rw [e, ← sgn_tdiv]
  unfold quoN
  rw [h1]
set_option maxHeartbeats 600000 in
theorem add_valid (n1 n2 : Int) (d1 d2 : Nat) (w : World) (hx : Vld n1 d1) (hy : Vld n2 d2) (hdf : ∀ m, m ≤ (n1 * (d2 : Nat) + n2 * (d1 : Nat) : Int).natAbs → DivFor m) :
    Calls Try.prog 13 #[.agg #[.int .i64 n1, .int .i64 d1], .agg #[.int .i64 n2, .int .i64 d2]] w fun e w' =>
      e = .returned (.tuple #[.agg #[.int .i64 (redN (n1 * (d2 : Nat) + n2 * (d1 : Nat) : Int) (d1 * d2)), .int .i64 (redD (n1 * (d2 : Nat) + n2 * (d1 : Nat) : Int) (d1 * d2))], .int .i64 (redE (n1 * (d2 : Nat) + n2 * (d1 : Nat) : Int) (d1 * d2))]) ∧ Below w.heap.size w w' := by
  have hx1 := hx.2.1; have hy1 := hy.2.1
  have hgx := hx.2.2.2; have hgy := hy.2.2.2
  rw [Int.natAbs_natCast] at hgx hgy
  obtain ⟨s, hs⟩ : ∃ s, s = Nat.gcd d1 d2 := ⟨_, rfl⟩
  obtain ⟨num, hnum⟩ : ∃ num : Int, num = n1 * (d2 / s : Nat) + n2 * (d1 / s : Nat) := ⟨_, rfl⟩
  obtain ⟨c, hc⟩ : ∃ c, c = Nat.gcd (num.natAbs % s) s := ⟨_, rfl⟩
  obtain ⟨k1, k2, k3, k4, k5, k6, k7⟩ := join_gcd n1 n2 d1 d2 (by omega) (by omega) hgx (hgy) num s c hs hnum hc
  have hle : num.natAbs ≤ (n1 * (d2 : Nat) + n2 * (d1 : Nat) : Int).natAbs := by
    rw [k3, Int.natAbs_mul, Int.natAbs_natCast]; exact Nat.le_mul_of_pos_left _ k4
  have hdn := hdf _ hle
  have hsb : s ≤ 1152921504606846976 := by rw [hs]; exact Nat.le_trans (Nat.gcd_le_right _ (by omega)) (by have := hy.2.2.1; omega)
  have hcb : c ≤ 1152921504606846976 := by rw [hc]; exact Nat.le_trans (Nat.gcd_le_right _ k4) hsb
  have hqb : num.natAbs / c < 340282366920938463463374607431768211456 ∧ ((hN num.natAbs % c) * 18446744073709551616 + lN num.natAbs) / c < 18446744073709551616 := by
    have h1 := Nat.mod_lt (hN num.natAbs) k5
    have h2 := lN_lt num.natAbs
    refine ⟨?_, (Nat.div_lt_iff_lt_mul k5).2 ?_⟩
    · refine Nat.lt_of_le_of_lt (Nat.le_trans (Nat.div_le_self _ _) hle) ?_
      have a1 : (n1 * (d2 : Int)).natAbs ≤ 1152921504606846976 * 1152921504606846976 := by rw [Int.natAbs_mul]; exact Nat.mul_le_mul hx.1 (by have := hy.2.2.1; omega)
      have a2 : (n2 * (d1 : Int)).natAbs ≤ 1152921504606846976 * 1152921504606846976 := by rw [Int.natAbs_mul]; exact Nat.mul_le_mul hy.1 (by have := hx.2.2.1; omega)
      generalize n1 * (d2 : Int) = x at *
      generalize n2 * (d1 : Int) = y at *
      omega
    · generalize hN num.natAbs % c = x at *
      generalize lN num.natAbs = y at *
      omega
  have this := fun w => joined_plus n1 n2 d1 d2 w hx hy s (d1 / s) (d2 / s) c (d2 / c) num (num.tdiv c) _ _ _ hs rfl rfl (by rw [hnum]) hc rfl rfl (hdn s k4 hsb) rfl hqb.2 (hdn c k5 hcb)
  obtain ⟨j1, j2⟩ := join_red (n1 * (d2 : Nat) + n2 * (d1 : Nat) : Int) num (d1 * d2) s c (d1 / s) (d2 / c) k4 k1 k2 k3
  rw [j1, ← Int.natCast_mul, j2] at this
  have C35 := Lib.hid this
  clear this
  have goal' : ∀ r1 r2 r3 : Int, (∀ w, Calls Try.prog 35 #[.agg #[.int .i64 n1, .int .i64 d1], .agg #[.int .i64 n2, .int .i64 d2], .func (.func 36) #[] #[]] w fun e w' => e = .returned (.tuple #[.agg #[.int .i64 r1, .int .i64 r2], .int .i64 r3]) ∧ Below w.heap.size w w') →
      Calls Try.prog 13 #[.agg #[.int .i64 n1, .int .i64 d1], .agg #[.int .i64 n2, .int .i64 d2]] w fun e w' => e = .returned (.tuple #[.agg #[.int .i64 r1, .int .i64 r2], .int .i64 r3]) ∧ Below w.heap.size w w' := by
    intro r1 r2 r3 hC
    have C := Lib.hid hC
    clear hC C35 j1 j2 hqb hcb hsb hdn hle k1 k2 k3 k4 k5 k6 k7 hdf hx hy hx1 hy1 hgx hgy hs hnum hc
    go_enter Try.func13, Try.ntmps13
    go_wp2_with fail
    refine (C.out _).mono ?_
    rintro e w1 ⟨rfl, hb⟩
    have hB1 := bnext (w := w) (by go_grown) hb
    have bR : Blk2 w1 (w.heap.size + 1 + 1) 23 (.int .i64 0) (.int .i64 0) := (Blk2.new' (by simp)).below hb (by simp)
    clear hb
    have cr0 := bR.c0; have cr1 := bR.c1; have zr := bR.lt; have fr0 := bR.f0; have fr1 := bR.f1
    go_wp2
    exact bodyPost_ret (v := .tuple #[.agg #[.int .i64 r1, .int .i64 r2], .int .i64 r3]) (by simp [results, Try.results13, go_sem, *]) rfl ⟨rfl, by go_grown⟩
  exact goal' _ _ _ C35.out
set_option maxHeartbeats 600000 in
theorem sub_valid (n1 n2 : Int) (d1 d2 : Nat) (w : World) (hx : Vld n1 d1) (hy : Vld n2 d2) (hdf : ∀ m, m ≤ (n1 * (d2 : Nat) + (-n2) * (d1 : Nat) : Int).natAbs → DivFor m) :
    Calls Try.prog 15 #[.agg #[.int .i64 n1, .int .i64 d1], .agg #[.int .i64 n2, .int .i64 d2]] w fun e w' =>
      e = .returned (.tuple #[.agg #[.int .i64 (redN (n1 * (d2 : Nat) + (-n2) * (d1 : Nat) : Int) (d1 * d2)), .int .i64 (redD (n1 * (d2 : Nat) + (-n2) * (d1 : Nat) : Int) (d1 * d2))], .int .i64 (redE (n1 * (d2 : Nat) + (-n2) * (d1 : Nat) : Int) (d1 * d2))]) ∧ Below w.heap.size w w' := by
  have hx1 := hx.2.1; have hy1 := hy.2.1
  have hgx := hx.2.2.2; have hgy := hy.2.2.2
  rw [Int.natAbs_natCast] at hgx hgy
  obtain ⟨s, hs⟩ : ∃ s, s = Nat.gcd d1 d2 := ⟨_, rfl⟩
  obtain ⟨num, hnum⟩ : ∃ num : Int, num = n1 * (d2 / s : Nat) + (-n2) * (d1 / s : Nat) := ⟨_, rfl⟩
  obtain ⟨c, hc⟩ : ∃ c, c = Nat.gcd (num.natAbs % s) s := ⟨_, rfl⟩
  obtain ⟨k1, k2, k3, k4, k5, k6, k7⟩ := join_gcd n1 (-n2) d1 d2 (by omega) (by omega) hgx (by rw [Int.natAbs_neg]; exact hgy) num s c hs hnum hc
  have hle : num.natAbs ≤ (n1 * (d2 : Nat) + (-n2) * (d1 : Nat) : Int).natAbs := by
    rw [k3, Int.natAbs_mul, Int.natAbs_natCast]; exact Nat.le_mul_of_pos_left _ k4
  have hdn := hdf _ hle
  have hsb : s ≤ 1152921504606846976 := by rw [hs]; exact Nat.le_trans (Nat.gcd_le_right _ (by omega)) (by have := hy.2.2.1; omega)
  have hcb : c ≤ 1152921504606846976 := by rw [hc]; exact Nat.le_trans (Nat.gcd_le_right _ k4) hsb
  have hqb : num.natAbs / c < 340282366920938463463374607431768211456 ∧ ((hN num.natAbs % c) * 18446744073709551616 + lN num.natAbs) / c < 18446744073709551616 := by
    have h1 := Nat.mod_lt (hN num.natAbs) k5
    have h2 := lN_lt num.natAbs
    refine ⟨?_, (Nat.div_lt_iff_lt_mul k5).2 ?_⟩
    · refine Nat.lt_of_le_of_lt (Nat.le_trans (Nat.div_le_self _ _) hle) ?_
      have a1 : (n1 * (d2 : Int)).natAbs ≤ 1152921504606846976 * 1152921504606846976 := by rw [Int.natAbs_mul]; exact Nat.mul_le_mul hx.1 (by have := hy.2.2.1; omega)
      have a2 : ((-n2) * (d1 : Int)).natAbs ≤ 1152921504606846976 * 1152921504606846976 := by rw [Int.natAbs_mul, Int.natAbs_neg]; exact Nat.mul_le_mul hy.1 (by have := hx.2.2.1; omega)
      generalize n1 * (d2 : Int) = x at *
      generalize (-n2) * (d1 : Int) = y at *
      omega
    · generalize hN num.natAbs % c = x at *
      generalize lN num.natAbs = y at *
      omega
  have this := fun w => joined_minus n1 n2 d1 d2 w hx hy s (d1 / s) (d2 / s) c (d2 / c) num (num.tdiv c) _ _ _ hs rfl rfl (by rw [hnum]; rw [Int.neg_mul]; rfl) hc rfl rfl (hdn s k4 hsb) rfl hqb.2 (hdn c k5 hcb)
  obtain ⟨j1, j2⟩ := join_red (n1 * (d2 : Nat) + (-n2) * (d1 : Nat) : Int) num (d1 * d2) s c (d1 / s) (d2 / c) k4 k1 k2 k3
  rw [j1, ← Int.natCast_mul, j2] at this
  have C35 := Lib.hid this
  clear this
  have goal' : ∀ r1 r2 r3 : Int, (∀ w, Calls Try.prog 35 #[.agg #[.int .i64 n1, .int .i64 d1], .agg #[.int .i64 n2, .int .i64 d2], .func (.func 41) #[] #[]] w fun e w' => e = .returned (.tuple #[.agg #[.int .i64 r1, .int .i64 r2], .int .i64 r3]) ∧ Below w.heap.size w w') →
      Calls Try.prog 15 #[.agg #[.int .i64 n1, .int .i64 d1], .agg #[.int .i64 n2, .int .i64 d2]] w fun e w' => e = .returned (.tuple #[.agg #[.int .i64 r1, .int .i64 r2], .int .i64 r3]) ∧ Below w.heap.size w w' := by
    intro r1 r2 r3 hC
    have C := Lib.hid hC
    clear hC C35 j1 j2 hqb hcb hsb hdn hle k1 k2 k3 k4 k5 k6 k7 hdf hx hy hx1 hy1 hgx hgy hs hnum hc
    go_enter Try.func15, Try.ntmps15
    go_wp2_with fail
    refine (C.out _).mono ?_
    rintro e w1 ⟨rfl, hb⟩
    have hB1 := bnext (w := w) (by go_grown) hb
    have bR : Blk2 w1 (w.heap.size + 1 + 1) 23 (.int .i64 0) (.int .i64 0) := (Blk2.new' (by simp)).below hb (by simp)
    clear hb
    have cr0 := bR.c0; have cr1 := bR.c1; have zr := bR.lt; have fr0 := bR.f0; have fr1 := bR.f1
    go_wp2
    exact bodyPost_ret (v := .tuple #[.agg #[.int .i64 r1, .int .i64 r2], .int .i64 r3]) (by simp [results, Try.results15, go_sem, *]) rfl ⟨rfl, by go_grown⟩
  exact goal' _ _ _ C35.out
end Go.Proofs.Ytafheinapjfbaaa
