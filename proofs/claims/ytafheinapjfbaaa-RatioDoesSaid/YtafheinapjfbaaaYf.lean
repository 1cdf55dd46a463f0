/- Walks of the reference's Cmp. -/
import Derived.Test.YtafheinapjfbaaaYe
namespace Go.Proofs.Ytafheinapjfbaaa
open Go.RowKit Go.Lib Go.BigFrame
/-- Cmp's answer -/
def cmpI (n1 d1 n2 d2 : Int) : Int := if Vld n1 d1 ∧ Vld n2 d2 then sgnI (n1 * d2 - n2 * d1) else 0
theorem words_ne (a b : Nat) (ha : a < 340282366920938463463374607431768211456) (hb : b < 340282366920938463463374607431768211456) (h : a ≠ b) (h1 : ((hN a : Nat) : Int) = ((hN b : Nat) : Int)) (h2 : ((lN a : Nat) : Int) = ((lN b : Nat) : Int)) : False := by
  unfold hN lN at *; omega
theorem cmp_neg (n1 n2 : Int) (k1 k2 : Nat) (h : decide (n1 < 0) = decide (n2 < 0)) (hn : n1 < 0) : sgnI (n1 * (k2 : Int) - n2 * (k1 : Int)) = sgnI (((n2.natAbs * k1 : Nat) : Int) - ((n1.natAbs * k2 : Nat) : Int)) := by
  rw [mul_sgn n1, mul_sgn n2, ← h, decide_eq_true hn]
  unfold sgn
  congr 1
  simp only [if_true]; omega
theorem cmp_pos (n1 n2 : Int) (k1 k2 : Nat) (h : decide (n1 < 0) = decide (n2 < 0)) (hn : ¬ n1 < 0) : sgnI (n1 * (k2 : Int) - n2 * (k1 : Int)) = sgnI (((n1.natAbs * k2 : Nat) : Int) - ((n2.natAbs * k1 : Nat) : Int)) := by
  rw [mul_sgn n1, mul_sgn n2, ← h, decide_eq_false hn]
  unfold sgn
  simp
theorem cmp_dn (n1 n2 : Int) (k1 k2 : Nat) (p1 : 1 ≤ k1) (p2 : 1 ≤ k2) (h1 : n1 < 0) (h2 : ¬ n2 < 0) : sgnI (n1 * (k2 : Int) - n2 * (k1 : Int)) = -1 := by
  have e1 : n1 * (k2 : Int) < 0 := Int.mul_neg_of_neg_of_pos h1 (by omega)
  have e2 : 0 ≤ n2 * (k1 : Int) := Int.mul_nonneg (by omega) (by omega)
  unfold sgnI; rw [if_pos (by omega)]
theorem cmp_up (n1 n2 : Int) (k1 k2 : Nat) (p1 : 1 ≤ k1) (p2 : 1 ≤ k2) (h1 : ¬ n1 < 0) (h2 : n2 < 0) : sgnI (n1 * (k2 : Int) - n2 * (k1 : Int)) = 1 := by
  have e1 : n2 * (k1 : Int) < 0 := Int.mul_neg_of_neg_of_pos h2 (by omega)
  have e2 : 0 ≤ n1 * (k2 : Int) := Int.mul_nonneg (by omega) (by omega)
  unfold sgnI; rw [if_neg (by omega), if_neg (by omega)]
theorem wpList_hide {P : Program} {ops : Array Oper} {Q : Exit → Act → World → Prop} {l : List Oper} {a : Act} {w : World} (A : Act) (W : World) (hQ : Q .normal A W) (h : ∀ K : Exit → Act → World → Prop, K .normal A W → wpList P ops K l a w) : wpList P ops Q l a w := h Q hQ
set_option maxHeartbeats 2000000 in
theorem rCmp_neg_lt (n1 n2 : Int) (k1 k2 : Nat) (w : World) (hx : Vld n1 k1) (hy : Vld n2 k2) (hsg : decide (n1 < 0) = decide (n2 < 0)) (hn : n1 < 0) (h3 : n2.natAbs * k1 < n1.natAbs * k2) :
    Calls Try.prog 22 #[.agg #[.int .i64 n1, .int .i64 k1], .agg #[.int .i64 n2, .int .i64 k2]] w fun e w' => e = .returned (.int .i64 (sgnI (n1 * (k2 : Int) - n2 * (k1 : Int)))) ∧ Below w.heap.size w w' := by
  have b1 := vld_bd hx; have b2 := vld_bd hy
  have hn1 : -9223372036854775808 ≤ n1 := by omega
  have hn1' : n1 < 9223372036854775808 := by omega
  have hn2 : -9223372036854775808 ≤ n2 := by omega
  have hn2' : n2 < 9223372036854775808 := by omega
  have cx := fun w => rvalid_any n1 k1 w hn1 hn1' (by omega) (by omega)
  have cy := fun w => rvalid_any n2 k2 w hn2 hn2' (by omega) (by omega)
  rw [vldB_true hx] at cx
  rw [vldB_true hy] at cy
  have hA : n1.natAbs * k2 ≤ 1152921504606846976 * 1152921504606846976 := Nat.mul_le_mul b1.1 (by omega)
  have hB : n2.natAbs * k1 ≤ 1152921504606846976 * 1152921504606846976 := Nat.mul_le_mul b2.1 (by omega)
  have hs' : decide (n1 < 0) = true := decide_eq_true hn
  have hs2 : decide (n2 < 0) = true := hsg ▸ hs'
  have CS1 := Lib.hid (fun w => size_any n1 w hn1 hn1')
  have CS2 := Lib.hid (fun w => size_any n2 w hn2 hn2')
  have CA := Lib.hid (fun w => rmul_any n1.natAbs k2 (by omega) (by omega) w)
  have CB := Lib.hid (fun w => rmul_any n2.natAbs k1 (by omega) (by omega) w)
  have CX := Lib.hid cx; have CY := Lib.hid cy
  have q1 : k1 ≤ 1152921504606846976 := by omega
  have q2 : k2 ≤ 1152921504606846976 := by omega
  have hr := cmp_neg n1 n2 k1 k2 hsg hn
  clear cx cy hx hy hn1 hn1' hn2 hn2' b1 b2
  generalize n1.natAbs * k2 = pA at *
  generalize n2.natAbs * k1 = pB at *
  generalize n1.natAbs = m1 at *
  generalize n2.natAbs = m2 at *
  rw [hr]
  have c39 := fun w => lessN pB (hN pA) (lN pA) pA (by omega) (lN_lt _) (uw_nat _ (by omega)) w
  rw [show sgnI ((pB : Int) - pA) = -1 by unfold sgnI; rw [if_pos (by omega)]]
  rw [decide_eq_true h3] at c39
  have C39 := Lib.hid c39; clear c39 hA hB hr hsg hn h3
  go_enter Try.func22, Try.ntmps22
  go_wp2_with fail
  refine (CX.out _).mono ?_
  rintro e w1 ⟨rfl, hb⟩
  have hB1 := bnext (w := w) (by go_grown) hb
  have bX : Blk2 w1 w.heap.size 23 (.int .i64 n1) (.int .i64 k1) := (Blk2.new.alloc _).below hb (by simp; omega)
  have bY : Blk2 w1 (w.heap.size + 1) 23 (.int .i64 n2) (.int .i64 k2) := (Blk2.new' (by simp)).below hb (by simp)
  clear hb
  have cy0 := bY.c0; have cy1 := bY.c1; have zy := bY.lt
  go_wp2_with fail
  refine (CY.out _).mono ?_
  rintro e w2 ⟨rfl, hb⟩
  have hB2 := bnext (w := w) (by go_grown) hb
  have bX2 := bX.below hb bX.lt; have bY2 := bY.below hb bY.lt
  clear hb bX bY cy0 cy1 zy hB1
  have cx0 := bX2.c0; have cx1 := bX2.c1; have zx := bX2.lt
  have cy0 := bY2.c0; have cy1 := bY2.c1; have zy := bY2.lt
  go_wp2_with fail
  refine wp_region_float2 14 52 5 6 (.cells #[.int .u64 0, .int .u64 0] 49) (.cells #[.int .u64 0, .int .u64 0] 49) ?afinnlt (by kernel_rfl) (by kernel_rfl) ?mk rfl rfl (by decide) (by simp) (fun T hT => ?walk) ?tail
  case mk =>
    intro i o h1 h2 ho
    rcases (show i = 14 ∨ i = 15 by omega) with rfl | rfl
    all_goals
      simp only [List.getElem?_toArray, List.getElem?_cons_succ, List.getElem?_cons_zero, Option.some.injEq] at ho
      subst ho
      exact ⟨rfl, fun a w => by simp [go_sem, ptrTo]⟩
  case walk =>
    simp only [List.take_succ_cons, List.take_zero]
    haveI := hT.some
    repeat (go_big_quiet_step (first | (go_at_call 33; first | with_reducible exact calls_overT_same (CS1.out _) | with_reducible exact calls_overT_same (CS2.out _)) | (go_at_call 37; first | with_reducible exact calls_overT hT (CA.out _) | with_reducible exact calls_overT hT (CB.out _))))
    refine wpQuiet_nil ?_
    rfl
  case tail =>
    intro ga gb w3 hb hs1 hs2 hne hga hgb
    have bG : Blk2 w3 ga 49 (.int .u64 0) (.int .u64 0) := hga
    have bH : Blk2 w3 gb 49 (.int .u64 0) (.int .u64 0) := hgb
    have hB3 := bnext (w := w) (by go_grown) hb
    have bX3 := bX2.below hb bX2.lt; have bY3 := bY2.below hb bY2.lt
    have h1 : w.heap.size + 1 < ga := Nat.lt_of_lt_of_le bY2.lt hs1
    have h2 : w.heap.size + 1 < gb := Nat.lt_of_lt_of_le bY2.lt hs2
    clear hb hga hgb hs1 hs2 bX2 bY2 cx0 cx1 cy0 cy1 zx zy hB2
    have cg0 := bG.c0; have cg1 := bG.c1; have zg := bG.lt; have fg0 := bG.f0; have fg1 := bG.f1
    have ch0 := bH.c0; have ch1 := bH.c1; have zh := bH.lt; have fh0 := bH.f0; have fh1 := bH.f1
    have hne' : ¬ gb = ga := fun h => hne h.symm
    unfold ptrTo
    have bX4 := ((((bX3.other (p := ⟨ga, 0, none⟩) (by dsimp only; omega) (.int .u64 (hN pA))).other (p := ⟨ga, 1, none⟩) (by dsimp only; omega) (.int .u64 (lN pA))).other (p := ⟨gb, 0, none⟩) (by dsimp only; omega) (.int .u64 (hN pB))).other (p := ⟨gb, 1, none⟩) (by dsimp only; omega) (.int .u64 (lN pB)))
    have bY4 := ((((bY3.other (p := ⟨ga, 0, none⟩) (by dsimp only; omega) (.int .u64 (hN pA))).other (p := ⟨ga, 1, none⟩) (by dsimp only; omega) (.int .u64 (lN pA))).other (p := ⟨gb, 0, none⟩) (by dsimp only; omega) (.int .u64 (hN pB))).other (p := ⟨gb, 1, none⟩) (by dsimp only; omega) (.int .u64 (lN pB)))
    have bG4 := ((((bG.set0 (.int .u64 (hN pA))).set1 (.int .u64 (lN pA))).other (p := ⟨gb, 0, none⟩) (by dsimp only; omega) (.int .u64 (hN pB))).other (p := ⟨gb, 1, none⟩) (by dsimp only; omega) (.int .u64 (lN pB)))
    have bH4 := (((bH.other (p := ⟨ga, 0, none⟩) (by dsimp only; omega) (.int .u64 (hN pA))).other (p := ⟨ga, 1, none⟩) (by dsimp only; omega) (.int .u64 (lN pA))).set0 (.int .u64 (hN pB))).set1 (.int .u64 (lN pB))
    have hB4 := (((hB3.setCell (p := ⟨ga, 0, none⟩) (by dsimp only; omega) (.int .u64 (hN pA))).setCell (p := ⟨ga, 1, none⟩) (by dsimp only; omega) (.int .u64 (lN pA))).setCell (p := ⟨gb, 0, none⟩) (by dsimp only; omega) (.int .u64 (hN pB))).setCell (p := ⟨gb, 1, none⟩) (by dsimp only; omega) (.int .u64 (lN pB))
    refine wpList_hide ?Anlt ?Wnlt ?q (fun K hK => ?st)
    case st =>
      go_wp2_with fail
      exact hK
    case q =>
      clear cg0 cg1 zg fg0 fg1 ch0 ch1 zh fh0 fh1 bG bH bX3 bY3 hB3
      generalize (((w3.setCell ⟨ga, 0, none⟩ (.int .u64 (hN pA))).setCell ⟨ga, 1, none⟩ (.int .u64 (lN pA))).setCell ⟨gb, 0, none⟩ (.int .u64 (hN pB))).setCell ⟨gb, 1, none⟩ (.int .u64 (lN pB)) = w4 at *
      have cx0 := bX4.c0; have zx := bX4.lt
      have cg0 := bG4.c0; have cg1 := bG4.c1; have zg := bG4.lt; have fg0 := bG4.f0; have fg1 := bG4.f1
      have ch0 := bH4.c0; have ch1 := bH4.c1; have zh := bH4.lt; have fh0 := bH4.f0; have fh1 := bH4.f1
      go_wp2_with fail
      have bG5 := ((((bG4.set0 (.int .u64 (hN pB))).set1 (.int .u64 (lN pB))).other (p := ⟨gb, 0, none⟩) (by dsimp only; omega) (.int .u64 (hN pA))).other (p := ⟨gb, 1, none⟩) (by dsimp only; omega) (.int .u64 (lN pA)))
      have bH5 := (((bH4.other (p := ⟨ga, 0, none⟩) (by dsimp only; omega) (.int .u64 (hN pB))).other (p := ⟨ga, 1, none⟩) (by dsimp only; omega) (.int .u64 (lN pB))).set0 (.int .u64 (hN pA))).set1 (.int .u64 (lN pA))
      have hB5 := (((hB4.setCell (p := ⟨ga, 0, none⟩) (by dsimp only; omega) (.int .u64 (hN pB))).setCell (p := ⟨ga, 1, none⟩) (by dsimp only; omega) (.int .u64 (lN pB))).setCell (p := ⟨gb, 0, none⟩) (by dsimp only; omega) (.int .u64 (hN pA))).setCell (p := ⟨gb, 1, none⟩) (by dsimp only; omega) (.int .u64 (lN pA))
      clear bG4 bH4 hB4 bX4 bY4 cx0 zx cg0 cg1 zg fg0 fg1 ch0 ch1 zh fh0 fh1
      refine (C39.out _).mono ?_
      rintro e w7 ⟨rfl, hb⟩
      have hB7 := bnext (w := w) (by go_grown) hb
      have bG7 := bG5.below hb bG5.lt; have bH7 := bH5.below hb bH5.lt
      clear hb bG5 bH5 hB5
      have cg0 := bG7.c0; have cg1 := bG7.c1; have zg := bG7.lt
      have ch0 := bH7.c0; have ch1 := bH7.c1; have zh := bH7.lt
      go_wp2
      exact bodyPost_ret (v := .int .i64 (-1)) (by simp [results, Try.results22, go_sem, *]) rfl ⟨rfl, by go_grown⟩
set_option maxHeartbeats 2000000 in
theorem rCmp_neg_eq (n1 n2 : Int) (k1 k2 : Nat) (w : World) (hx : Vld n1 k1) (hy : Vld n2 k2) (hsg : decide (n1 < 0) = decide (n2 < 0)) (hn : n1 < 0) (h3 : n2.natAbs * k1 = n1.natAbs * k2) :
    Calls Try.prog 22 #[.agg #[.int .i64 n1, .int .i64 k1], .agg #[.int .i64 n2, .int .i64 k2]] w fun e w' => e = .returned (.int .i64 (sgnI (n1 * (k2 : Int) - n2 * (k1 : Int)))) ∧ Below w.heap.size w w' := by
  have b1 := vld_bd hx; have b2 := vld_bd hy
  have hn1 : -9223372036854775808 ≤ n1 := by omega
  have hn1' : n1 < 9223372036854775808 := by omega
  have hn2 : -9223372036854775808 ≤ n2 := by omega
  have hn2' : n2 < 9223372036854775808 := by omega
  have cx := fun w => rvalid_any n1 k1 w hn1 hn1' (by omega) (by omega)
  have cy := fun w => rvalid_any n2 k2 w hn2 hn2' (by omega) (by omega)
  rw [vldB_true hx] at cx
  rw [vldB_true hy] at cy
  have hA : n1.natAbs * k2 ≤ 1152921504606846976 * 1152921504606846976 := Nat.mul_le_mul b1.1 (by omega)
  have hB : n2.natAbs * k1 ≤ 1152921504606846976 * 1152921504606846976 := Nat.mul_le_mul b2.1 (by omega)
  have hs' : decide (n1 < 0) = true := decide_eq_true hn
  have hs2 : decide (n2 < 0) = true := hsg ▸ hs'
  have CS1 := Lib.hid (fun w => size_any n1 w hn1 hn1')
  have CS2 := Lib.hid (fun w => size_any n2 w hn2 hn2')
  have CA := Lib.hid (fun w => rmul_any n1.natAbs k2 (by omega) (by omega) w)
  have CB := Lib.hid (fun w => rmul_any n2.natAbs k1 (by omega) (by omega) w)
  have CX := Lib.hid cx; have CY := Lib.hid cy
  have q1 : k1 ≤ 1152921504606846976 := by omega
  have q2 : k2 ≤ 1152921504606846976 := by omega
  have hr := cmp_neg n1 n2 k1 k2 hsg hn
  clear cx cy hx hy hn1 hn1' hn2 hn2' b1 b2
  generalize n1.natAbs * k2 = pA at *
  generalize n2.natAbs * k1 = pB at *
  generalize n1.natAbs = m1 at *
  generalize n2.natAbs = m2 at *
  rw [hr]
  have c39 := fun w => lessN pB (hN pA) (lN pA) pA (by omega) (lN_lt _) (uw_nat _ (by omega)) w
  obtain rfl : pA = pB := by omega
  rw [show sgnI ((pA : Int) - pA) = 0 by unfold sgnI; rw [if_neg (by omega), if_pos (by omega)]]
  rw [decide_eq_false (by omega)] at c39
  have C39 := Lib.hid c39; clear c39 hA hB hr hsg hn h3
  go_enter Try.func22, Try.ntmps22
  go_wp2_with fail
  refine (CX.out _).mono ?_
  rintro e w1 ⟨rfl, hb⟩
  have hB1 := bnext (w := w) (by go_grown) hb
  have bX : Blk2 w1 w.heap.size 23 (.int .i64 n1) (.int .i64 k1) := (Blk2.new.alloc _).below hb (by simp; omega)
  have bY : Blk2 w1 (w.heap.size + 1) 23 (.int .i64 n2) (.int .i64 k2) := (Blk2.new' (by simp)).below hb (by simp)
  clear hb
  have cy0 := bY.c0; have cy1 := bY.c1; have zy := bY.lt
  go_wp2_with fail
  refine (CY.out _).mono ?_
  rintro e w2 ⟨rfl, hb⟩
  have hB2 := bnext (w := w) (by go_grown) hb
  have bX2 := bX.below hb bX.lt; have bY2 := bY.below hb bY.lt
  clear hb bX bY cy0 cy1 zy hB1
  have cx0 := bX2.c0; have cx1 := bX2.c1; have zx := bX2.lt
  have cy0 := bY2.c0; have cy1 := bY2.c1; have zy := bY2.lt
  go_wp2_with fail
  refine wp_region_float2 14 52 5 6 (.cells #[.int .u64 0, .int .u64 0] 49) (.cells #[.int .u64 0, .int .u64 0] 49) ?afinneq (by kernel_rfl) (by kernel_rfl) ?mk rfl rfl (by decide) (by simp) (fun T hT => ?walk) ?tail
  case mk =>
    intro i o h1 h2 ho
    rcases (show i = 14 ∨ i = 15 by omega) with rfl | rfl
    all_goals
      simp only [List.getElem?_toArray, List.getElem?_cons_succ, List.getElem?_cons_zero, Option.some.injEq] at ho
      subst ho
      exact ⟨rfl, fun a w => by simp [go_sem, ptrTo]⟩
  case walk =>
    simp only [List.take_succ_cons, List.take_zero]
    haveI := hT.some
    repeat (go_big_quiet_step (first | (go_at_call 33; first | with_reducible exact calls_overT_same (CS1.out _) | with_reducible exact calls_overT_same (CS2.out _)) | (go_at_call 37; first | with_reducible exact calls_overT hT (CA.out _) | with_reducible exact calls_overT hT (CB.out _))))
    refine wpQuiet_nil ?_
    rfl
  case tail =>
    intro ga gb w3 hb hs1 hs2 hne hga hgb
    have bG : Blk2 w3 ga 49 (.int .u64 0) (.int .u64 0) := hga
    have bH : Blk2 w3 gb 49 (.int .u64 0) (.int .u64 0) := hgb
    have hB3 := bnext (w := w) (by go_grown) hb
    have bX3 := bX2.below hb bX2.lt; have bY3 := bY2.below hb bY2.lt
    have h1 : w.heap.size + 1 < ga := Nat.lt_of_lt_of_le bY2.lt hs1
    have h2 : w.heap.size + 1 < gb := Nat.lt_of_lt_of_le bY2.lt hs2
    clear hb hga hgb hs1 hs2 bX2 bY2 cx0 cx1 cy0 cy1 zx zy hB2
    have cg0 := bG.c0; have cg1 := bG.c1; have zg := bG.lt; have fg0 := bG.f0; have fg1 := bG.f1
    have ch0 := bH.c0; have ch1 := bH.c1; have zh := bH.lt; have fh0 := bH.f0; have fh1 := bH.f1
    have hne' : ¬ gb = ga := fun h => hne h.symm
    unfold ptrTo
    have bX4 := ((((bX3.other (p := ⟨ga, 0, none⟩) (by dsimp only; omega) (.int .u64 (hN pA))).other (p := ⟨ga, 1, none⟩) (by dsimp only; omega) (.int .u64 (lN pA))).other (p := ⟨gb, 0, none⟩) (by dsimp only; omega) (.int .u64 (hN pA))).other (p := ⟨gb, 1, none⟩) (by dsimp only; omega) (.int .u64 (lN pA)))
    have bY4 := ((((bY3.other (p := ⟨ga, 0, none⟩) (by dsimp only; omega) (.int .u64 (hN pA))).other (p := ⟨ga, 1, none⟩) (by dsimp only; omega) (.int .u64 (lN pA))).other (p := ⟨gb, 0, none⟩) (by dsimp only; omega) (.int .u64 (hN pA))).other (p := ⟨gb, 1, none⟩) (by dsimp only; omega) (.int .u64 (lN pA)))
    have bG4 := ((((bG.set0 (.int .u64 (hN pA))).set1 (.int .u64 (lN pA))).other (p := ⟨gb, 0, none⟩) (by dsimp only; omega) (.int .u64 (hN pA))).other (p := ⟨gb, 1, none⟩) (by dsimp only; omega) (.int .u64 (lN pA)))
    have bH4 := (((bH.other (p := ⟨ga, 0, none⟩) (by dsimp only; omega) (.int .u64 (hN pA))).other (p := ⟨ga, 1, none⟩) (by dsimp only; omega) (.int .u64 (lN pA))).set0 (.int .u64 (hN pA))).set1 (.int .u64 (lN pA))
    have hB4 := (((hB3.setCell (p := ⟨ga, 0, none⟩) (by dsimp only; omega) (.int .u64 (hN pA))).setCell (p := ⟨ga, 1, none⟩) (by dsimp only; omega) (.int .u64 (lN pA))).setCell (p := ⟨gb, 0, none⟩) (by dsimp only; omega) (.int .u64 (hN pA))).setCell (p := ⟨gb, 1, none⟩) (by dsimp only; omega) (.int .u64 (lN pA))
    refine wpList_hide ?Aneq ?Wneq ?q (fun K hK => ?st)
    case st =>
      go_wp2_with fail
      exact hK
    case q =>
      clear cg0 cg1 zg fg0 fg1 ch0 ch1 zh fh0 fh1 bG bH bX3 bY3 hB3
      generalize (((w3.setCell ⟨ga, 0, none⟩ (.int .u64 (hN pA))).setCell ⟨ga, 1, none⟩ (.int .u64 (lN pA))).setCell ⟨gb, 0, none⟩ (.int .u64 (hN pA))).setCell ⟨gb, 1, none⟩ (.int .u64 (lN pA)) = w4 at *
      have cx0 := bX4.c0; have zx := bX4.lt
      have cg0 := bG4.c0; have cg1 := bG4.c1; have zg := bG4.lt; have fg0 := bG4.f0; have fg1 := bG4.f1
      have ch0 := bH4.c0; have ch1 := bH4.c1; have zh := bH4.lt; have fh0 := bH4.f0; have fh1 := bH4.f1
      go_wp2_with fail
      have bG5 := ((((bG4.set0 (.int .u64 (hN pA))).set1 (.int .u64 (lN pA))).other (p := ⟨gb, 0, none⟩) (by dsimp only; omega) (.int .u64 (hN pA))).other (p := ⟨gb, 1, none⟩) (by dsimp only; omega) (.int .u64 (lN pA)))
      have bH5 := (((bH4.other (p := ⟨ga, 0, none⟩) (by dsimp only; omega) (.int .u64 (hN pA))).other (p := ⟨ga, 1, none⟩) (by dsimp only; omega) (.int .u64 (lN pA))).set0 (.int .u64 (hN pA))).set1 (.int .u64 (lN pA))
      have hB5 := (((hB4.setCell (p := ⟨ga, 0, none⟩) (by dsimp only; omega) (.int .u64 (hN pA))).setCell (p := ⟨ga, 1, none⟩) (by dsimp only; omega) (.int .u64 (lN pA))).setCell (p := ⟨gb, 0, none⟩) (by dsimp only; omega) (.int .u64 (hN pA))).setCell (p := ⟨gb, 1, none⟩) (by dsimp only; omega) (.int .u64 (lN pA))
      clear bG4 bH4 hB4 bX4 bY4 cx0 zx cg0 cg1 zg fg0 fg1 ch0 ch1 zh fh0 fh1
      refine (C39.out _).mono ?_
      rintro e w7 ⟨rfl, hb⟩
      have hB7 := bnext (w := w) (by go_grown) hb
      have bG7 := bG5.below hb bG5.lt; have bH7 := bH5.below hb bH5.lt
      clear hb bG5 bH5 hB5
      have cg0 := bG7.c0; have cg1 := bG7.c1; have zg := bG7.lt
      have ch0 := bH7.c0; have ch1 := bH7.c1; have zh := bH7.lt
      go_wp2
      exact bodyPost_ret (v := .int .i64 (0)) (by simp [results, Try.results22, go_sem, *]) rfl ⟨rfl, by go_grown⟩
set_option maxHeartbeats 2000000 in
theorem rCmp_neg_gt (n1 n2 : Int) (k1 k2 : Nat) (w : World) (hx : Vld n1 k1) (hy : Vld n2 k2) (hsg : decide (n1 < 0) = decide (n2 < 0)) (hn : n1 < 0) (h3 : n1.natAbs * k2 < n2.natAbs * k1) :
    Calls Try.prog 22 #[.agg #[.int .i64 n1, .int .i64 k1], .agg #[.int .i64 n2, .int .i64 k2]] w fun e w' => e = .returned (.int .i64 (sgnI (n1 * (k2 : Int) - n2 * (k1 : Int)))) ∧ Below w.heap.size w w' := by
  have b1 := vld_bd hx; have b2 := vld_bd hy
  have hn1 : -9223372036854775808 ≤ n1 := by omega
  have hn1' : n1 < 9223372036854775808 := by omega
  have hn2 : -9223372036854775808 ≤ n2 := by omega
  have hn2' : n2 < 9223372036854775808 := by omega
  have cx := fun w => rvalid_any n1 k1 w hn1 hn1' (by omega) (by omega)
  have cy := fun w => rvalid_any n2 k2 w hn2 hn2' (by omega) (by omega)
  rw [vldB_true hx] at cx
  rw [vldB_true hy] at cy
  have hA : n1.natAbs * k2 ≤ 1152921504606846976 * 1152921504606846976 := Nat.mul_le_mul b1.1 (by omega)
  have hB : n2.natAbs * k1 ≤ 1152921504606846976 * 1152921504606846976 := Nat.mul_le_mul b2.1 (by omega)
  have hs' : decide (n1 < 0) = true := decide_eq_true hn
  have hs2 : decide (n2 < 0) = true := hsg ▸ hs'
  have CS1 := Lib.hid (fun w => size_any n1 w hn1 hn1')
  have CS2 := Lib.hid (fun w => size_any n2 w hn2 hn2')
  have CA := Lib.hid (fun w => rmul_any n1.natAbs k2 (by omega) (by omega) w)
  have CB := Lib.hid (fun w => rmul_any n2.natAbs k1 (by omega) (by omega) w)
  have CX := Lib.hid cx; have CY := Lib.hid cy
  have q1 : k1 ≤ 1152921504606846976 := by omega
  have q2 : k2 ≤ 1152921504606846976 := by omega
  have hr := cmp_neg n1 n2 k1 k2 hsg hn
  clear cx cy hx hy hn1 hn1' hn2 hn2' b1 b2
  generalize n1.natAbs * k2 = pA at *
  generalize n2.natAbs * k1 = pB at *
  generalize n1.natAbs = m1 at *
  generalize n2.natAbs = m2 at *
  rw [hr]
  have c39 := fun w => lessN pB (hN pA) (lN pA) pA (by omega) (lN_lt _) (uw_nat _ (by omega)) w
  rw [show sgnI ((pB : Int) - pA) = 1 by unfold sgnI; rw [if_neg (by omega), if_neg (by omega)]]
  rw [decide_eq_false (by omega)] at c39
  have HW := Lib.hid (words_ne pB pA (by omega) (by omega) (by omega))
  have C39 := Lib.hid c39; clear c39 hA hB hr hsg hn h3
  go_enter Try.func22, Try.ntmps22
  go_wp2_with fail
  refine (CX.out _).mono ?_
  rintro e w1 ⟨rfl, hb⟩
  have hB1 := bnext (w := w) (by go_grown) hb
  have bX : Blk2 w1 w.heap.size 23 (.int .i64 n1) (.int .i64 k1) := (Blk2.new.alloc _).below hb (by simp; omega)
  have bY : Blk2 w1 (w.heap.size + 1) 23 (.int .i64 n2) (.int .i64 k2) := (Blk2.new' (by simp)).below hb (by simp)
  clear hb
  have cy0 := bY.c0; have cy1 := bY.c1; have zy := bY.lt
  go_wp2_with fail
  refine (CY.out _).mono ?_
  rintro e w2 ⟨rfl, hb⟩
  have hB2 := bnext (w := w) (by go_grown) hb
  have bX2 := bX.below hb bX.lt; have bY2 := bY.below hb bY.lt
  clear hb bX bY cy0 cy1 zy hB1
  have cx0 := bX2.c0; have cx1 := bX2.c1; have zx := bX2.lt
  have cy0 := bY2.c0; have cy1 := bY2.c1; have zy := bY2.lt
  go_wp2_with fail
  refine wp_region_float2 14 52 5 6 (.cells #[.int .u64 0, .int .u64 0] 49) (.cells #[.int .u64 0, .int .u64 0] 49) ?afinngt (by kernel_rfl) (by kernel_rfl) ?mk rfl rfl (by decide) (by simp) (fun T hT => ?walk) ?tail
  case mk =>
    intro i o h1 h2 ho
    rcases (show i = 14 ∨ i = 15 by omega) with rfl | rfl
    all_goals
      simp only [List.getElem?_toArray, List.getElem?_cons_succ, List.getElem?_cons_zero, Option.some.injEq] at ho
      subst ho
      exact ⟨rfl, fun a w => by simp [go_sem, ptrTo]⟩
  case walk =>
    simp only [List.take_succ_cons, List.take_zero]
    haveI := hT.some
    repeat (go_big_quiet_step (first | (go_at_call 33; first | with_reducible exact calls_overT_same (CS1.out _) | with_reducible exact calls_overT_same (CS2.out _)) | (go_at_call 37; first | with_reducible exact calls_overT hT (CA.out _) | with_reducible exact calls_overT hT (CB.out _))))
    refine wpQuiet_nil ?_
    rfl
  case tail =>
    intro ga gb w3 hb hs1 hs2 hne hga hgb
    have bG : Blk2 w3 ga 49 (.int .u64 0) (.int .u64 0) := hga
    have bH : Blk2 w3 gb 49 (.int .u64 0) (.int .u64 0) := hgb
    have hB3 := bnext (w := w) (by go_grown) hb
    have bX3 := bX2.below hb bX2.lt; have bY3 := bY2.below hb bY2.lt
    have h1 : w.heap.size + 1 < ga := Nat.lt_of_lt_of_le bY2.lt hs1
    have h2 : w.heap.size + 1 < gb := Nat.lt_of_lt_of_le bY2.lt hs2
    clear hb hga hgb hs1 hs2 bX2 bY2 cx0 cx1 cy0 cy1 zx zy hB2
    have cg0 := bG.c0; have cg1 := bG.c1; have zg := bG.lt; have fg0 := bG.f0; have fg1 := bG.f1
    have ch0 := bH.c0; have ch1 := bH.c1; have zh := bH.lt; have fh0 := bH.f0; have fh1 := bH.f1
    have hne' : ¬ gb = ga := fun h => hne h.symm
    unfold ptrTo
    have bX4 := ((((bX3.other (p := ⟨ga, 0, none⟩) (by dsimp only; omega) (.int .u64 (hN pA))).other (p := ⟨ga, 1, none⟩) (by dsimp only; omega) (.int .u64 (lN pA))).other (p := ⟨gb, 0, none⟩) (by dsimp only; omega) (.int .u64 (hN pB))).other (p := ⟨gb, 1, none⟩) (by dsimp only; omega) (.int .u64 (lN pB)))
    have bY4 := ((((bY3.other (p := ⟨ga, 0, none⟩) (by dsimp only; omega) (.int .u64 (hN pA))).other (p := ⟨ga, 1, none⟩) (by dsimp only; omega) (.int .u64 (lN pA))).other (p := ⟨gb, 0, none⟩) (by dsimp only; omega) (.int .u64 (hN pB))).other (p := ⟨gb, 1, none⟩) (by dsimp only; omega) (.int .u64 (lN pB)))
    have bG4 := ((((bG.set0 (.int .u64 (hN pA))).set1 (.int .u64 (lN pA))).other (p := ⟨gb, 0, none⟩) (by dsimp only; omega) (.int .u64 (hN pB))).other (p := ⟨gb, 1, none⟩) (by dsimp only; omega) (.int .u64 (lN pB)))
    have bH4 := (((bH.other (p := ⟨ga, 0, none⟩) (by dsimp only; omega) (.int .u64 (hN pA))).other (p := ⟨ga, 1, none⟩) (by dsimp only; omega) (.int .u64 (lN pA))).set0 (.int .u64 (hN pB))).set1 (.int .u64 (lN pB))
    have hB4 := (((hB3.setCell (p := ⟨ga, 0, none⟩) (by dsimp only; omega) (.int .u64 (hN pA))).setCell (p := ⟨ga, 1, none⟩) (by dsimp only; omega) (.int .u64 (lN pA))).setCell (p := ⟨gb, 0, none⟩) (by dsimp only; omega) (.int .u64 (hN pB))).setCell (p := ⟨gb, 1, none⟩) (by dsimp only; omega) (.int .u64 (lN pB))
    refine wpList_hide ?Angt ?Wngt ?q (fun K hK => ?st)
    case st =>
      go_wp2_with fail
      exact hK
    case q =>
      clear cg0 cg1 zg fg0 fg1 ch0 ch1 zh fh0 fh1 bG bH bX3 bY3 hB3
      generalize (((w3.setCell ⟨ga, 0, none⟩ (.int .u64 (hN pA))).setCell ⟨ga, 1, none⟩ (.int .u64 (lN pA))).setCell ⟨gb, 0, none⟩ (.int .u64 (hN pB))).setCell ⟨gb, 1, none⟩ (.int .u64 (lN pB)) = w4 at *
      have cx0 := bX4.c0; have zx := bX4.lt
      have cg0 := bG4.c0; have cg1 := bG4.c1; have zg := bG4.lt; have fg0 := bG4.f0; have fg1 := bG4.f1
      have ch0 := bH4.c0; have ch1 := bH4.c1; have zh := bH4.lt; have fh0 := bH4.f0; have fh1 := bH4.f1
      go_wp2_with fail
      have bG5 := ((((bG4.set0 (.int .u64 (hN pB))).set1 (.int .u64 (lN pB))).other (p := ⟨gb, 0, none⟩) (by dsimp only; omega) (.int .u64 (hN pA))).other (p := ⟨gb, 1, none⟩) (by dsimp only; omega) (.int .u64 (lN pA)))
      have bH5 := (((bH4.other (p := ⟨ga, 0, none⟩) (by dsimp only; omega) (.int .u64 (hN pB))).other (p := ⟨ga, 1, none⟩) (by dsimp only; omega) (.int .u64 (lN pB))).set0 (.int .u64 (hN pA))).set1 (.int .u64 (lN pA))
      have hB5 := (((hB4.setCell (p := ⟨ga, 0, none⟩) (by dsimp only; omega) (.int .u64 (hN pB))).setCell (p := ⟨ga, 1, none⟩) (by dsimp only; omega) (.int .u64 (lN pB))).setCell (p := ⟨gb, 0, none⟩) (by dsimp only; omega) (.int .u64 (hN pA))).setCell (p := ⟨gb, 1, none⟩) (by dsimp only; omega) (.int .u64 (lN pA))
      clear bG4 bH4 hB4 bX4 bY4 cx0 zx cg0 cg1 zg fg0 fg1 ch0 ch1 zh fh0 fh1
      refine (C39.out _).mono ?_
      rintro e w7 ⟨rfl, hb⟩
      have hB7 := bnext (w := w) (by go_grown) hb
      have bG7 := bG5.below hb bG5.lt; have bH7 := bH5.below hb bH5.lt
      clear hb bG5 bH5 hB5
      have cg0 := bG7.c0; have cg1 := bG7.c1; have zg := bG7.lt
      have ch0 := bH7.c0; have ch1 := bH7.c1; have zh := bH7.lt
      go_wp2
      all_goals first | exact (HW.out (by assumption) (by assumption)).elim | exact bodyPost_ret (v := .int .i64 (1)) (by simp [results, Try.results22, go_sem, *]) rfl ⟨rfl, by go_grown⟩
set_option maxHeartbeats 2000000 in
theorem rCmp_pos_lt (n1 n2 : Int) (k1 k2 : Nat) (w : World) (hx : Vld n1 k1) (hy : Vld n2 k2) (hsg : decide (n1 < 0) = decide (n2 < 0)) (hn : ¬ n1 < 0) (h3 : n1.natAbs * k2 < n2.natAbs * k1) :
    Calls Try.prog 22 #[.agg #[.int .i64 n1, .int .i64 k1], .agg #[.int .i64 n2, .int .i64 k2]] w fun e w' => e = .returned (.int .i64 (sgnI (n1 * (k2 : Int) - n2 * (k1 : Int)))) ∧ Below w.heap.size w w' := by
  have b1 := vld_bd hx; have b2 := vld_bd hy
  have hn1 : -9223372036854775808 ≤ n1 := by omega
  have hn1' : n1 < 9223372036854775808 := by omega
  have hn2 : -9223372036854775808 ≤ n2 := by omega
  have hn2' : n2 < 9223372036854775808 := by omega
  have cx := fun w => rvalid_any n1 k1 w hn1 hn1' (by omega) (by omega)
  have cy := fun w => rvalid_any n2 k2 w hn2 hn2' (by omega) (by omega)
  rw [vldB_true hx] at cx
  rw [vldB_true hy] at cy
  have hA : n1.natAbs * k2 ≤ 1152921504606846976 * 1152921504606846976 := Nat.mul_le_mul b1.1 (by omega)
  have hB : n2.natAbs * k1 ≤ 1152921504606846976 * 1152921504606846976 := Nat.mul_le_mul b2.1 (by omega)
  have hs' : decide (n1 < 0) = false := decide_eq_false hn
  have hs2 : decide (n2 < 0) = false := hsg ▸ hs'
  have CS1 := Lib.hid (fun w => size_any n1 w hn1 hn1')
  have CS2 := Lib.hid (fun w => size_any n2 w hn2 hn2')
  have CA := Lib.hid (fun w => rmul_any n1.natAbs k2 (by omega) (by omega) w)
  have CB := Lib.hid (fun w => rmul_any n2.natAbs k1 (by omega) (by omega) w)
  have CX := Lib.hid cx; have CY := Lib.hid cy
  have q1 : k1 ≤ 1152921504606846976 := by omega
  have q2 : k2 ≤ 1152921504606846976 := by omega
  have hr := cmp_pos n1 n2 k1 k2 hsg hn
  clear cx cy hx hy hn1 hn1' hn2 hn2' b1 b2
  generalize n1.natAbs * k2 = pA at *
  generalize n2.natAbs * k1 = pB at *
  generalize n1.natAbs = m1 at *
  generalize n2.natAbs = m2 at *
  rw [hr]
  have c39 := fun w => lessN pA (hN pB) (lN pB) pB (by omega) (lN_lt _) (uw_nat _ (by omega)) w
  rw [show sgnI ((pA : Int) - pB) = -1 by unfold sgnI; rw [if_pos (by omega)]]
  rw [decide_eq_true h3] at c39
  have C39 := Lib.hid c39; clear c39 hA hB hr hsg hn h3
  go_enter Try.func22, Try.ntmps22
  go_wp2_with fail
  refine (CX.out _).mono ?_
  rintro e w1 ⟨rfl, hb⟩
  have hB1 := bnext (w := w) (by go_grown) hb
  have bX : Blk2 w1 w.heap.size 23 (.int .i64 n1) (.int .i64 k1) := (Blk2.new.alloc _).below hb (by simp; omega)
  have bY : Blk2 w1 (w.heap.size + 1) 23 (.int .i64 n2) (.int .i64 k2) := (Blk2.new' (by simp)).below hb (by simp)
  clear hb
  have cy0 := bY.c0; have cy1 := bY.c1; have zy := bY.lt
  go_wp2_with fail
  refine (CY.out _).mono ?_
  rintro e w2 ⟨rfl, hb⟩
  have hB2 := bnext (w := w) (by go_grown) hb
  have bX2 := bX.below hb bX.lt; have bY2 := bY.below hb bY.lt
  clear hb bX bY cy0 cy1 zy hB1
  have cx0 := bX2.c0; have cx1 := bX2.c1; have zx := bX2.lt
  have cy0 := bY2.c0; have cy1 := bY2.c1; have zy := bY2.lt
  go_wp2_with fail
  refine wp_region_float2 14 52 5 6 (.cells #[.int .u64 0, .int .u64 0] 49) (.cells #[.int .u64 0, .int .u64 0] 49) ?afinplt (by kernel_rfl) (by kernel_rfl) ?mk rfl rfl (by decide) (by simp) (fun T hT => ?walk) ?tail
  case mk =>
    intro i o h1 h2 ho
    rcases (show i = 14 ∨ i = 15 by omega) with rfl | rfl
    all_goals
      simp only [List.getElem?_toArray, List.getElem?_cons_succ, List.getElem?_cons_zero, Option.some.injEq] at ho
      subst ho
      exact ⟨rfl, fun a w => by simp [go_sem, ptrTo]⟩
  case walk =>
    simp only [List.take_succ_cons, List.take_zero]
    haveI := hT.some
    repeat (go_big_quiet_step (first | (go_at_call 33; first | with_reducible exact calls_overT_same (CS1.out _) | with_reducible exact calls_overT_same (CS2.out _)) | (go_at_call 37; first | with_reducible exact calls_overT hT (CA.out _) | with_reducible exact calls_overT hT (CB.out _))))
    refine wpQuiet_nil ?_
    rfl
  case tail =>
    intro ga gb w3 hb hs1 hs2 hne hga hgb
    have bG : Blk2 w3 ga 49 (.int .u64 0) (.int .u64 0) := hga
    have bH : Blk2 w3 gb 49 (.int .u64 0) (.int .u64 0) := hgb
    have hB3 := bnext (w := w) (by go_grown) hb
    have bX3 := bX2.below hb bX2.lt; have bY3 := bY2.below hb bY2.lt
    have h1 : w.heap.size + 1 < ga := Nat.lt_of_lt_of_le bY2.lt hs1
    have h2 : w.heap.size + 1 < gb := Nat.lt_of_lt_of_le bY2.lt hs2
    clear hb hga hgb hs1 hs2 bX2 bY2 cx0 cx1 cy0 cy1 zx zy hB2
    have cg0 := bG.c0; have cg1 := bG.c1; have zg := bG.lt; have fg0 := bG.f0; have fg1 := bG.f1
    have ch0 := bH.c0; have ch1 := bH.c1; have zh := bH.lt; have fh0 := bH.f0; have fh1 := bH.f1
    have hne' : ¬ gb = ga := fun h => hne h.symm
    unfold ptrTo
    have bX4 := ((((bX3.other (p := ⟨ga, 0, none⟩) (by dsimp only; omega) (.int .u64 (hN pA))).other (p := ⟨ga, 1, none⟩) (by dsimp only; omega) (.int .u64 (lN pA))).other (p := ⟨gb, 0, none⟩) (by dsimp only; omega) (.int .u64 (hN pB))).other (p := ⟨gb, 1, none⟩) (by dsimp only; omega) (.int .u64 (lN pB)))
    have bY4 := ((((bY3.other (p := ⟨ga, 0, none⟩) (by dsimp only; omega) (.int .u64 (hN pA))).other (p := ⟨ga, 1, none⟩) (by dsimp only; omega) (.int .u64 (lN pA))).other (p := ⟨gb, 0, none⟩) (by dsimp only; omega) (.int .u64 (hN pB))).other (p := ⟨gb, 1, none⟩) (by dsimp only; omega) (.int .u64 (lN pB)))
    have bG4 := ((((bG.set0 (.int .u64 (hN pA))).set1 (.int .u64 (lN pA))).other (p := ⟨gb, 0, none⟩) (by dsimp only; omega) (.int .u64 (hN pB))).other (p := ⟨gb, 1, none⟩) (by dsimp only; omega) (.int .u64 (lN pB)))
    have bH4 := (((bH.other (p := ⟨ga, 0, none⟩) (by dsimp only; omega) (.int .u64 (hN pA))).other (p := ⟨ga, 1, none⟩) (by dsimp only; omega) (.int .u64 (lN pA))).set0 (.int .u64 (hN pB))).set1 (.int .u64 (lN pB))
    have hB4 := (((hB3.setCell (p := ⟨ga, 0, none⟩) (by dsimp only; omega) (.int .u64 (hN pA))).setCell (p := ⟨ga, 1, none⟩) (by dsimp only; omega) (.int .u64 (lN pA))).setCell (p := ⟨gb, 0, none⟩) (by dsimp only; omega) (.int .u64 (hN pB))).setCell (p := ⟨gb, 1, none⟩) (by dsimp only; omega) (.int .u64 (lN pB))
    refine wpList_hide ?Aplt ?Wplt ?q (fun K hK => ?st)
    case st =>
      go_wp2_with fail
      exact hK
    case q =>
      clear cg0 cg1 zg fg0 fg1 ch0 ch1 zh fh0 fh1 bG bH bX3 bY3 hB3
      generalize (((w3.setCell ⟨ga, 0, none⟩ (.int .u64 (hN pA))).setCell ⟨ga, 1, none⟩ (.int .u64 (lN pA))).setCell ⟨gb, 0, none⟩ (.int .u64 (hN pB))).setCell ⟨gb, 1, none⟩ (.int .u64 (lN pB)) = w4 at *
      have cx0 := bX4.c0; have zx := bX4.lt
      have cg0 := bG4.c0; have cg1 := bG4.c1; have zg := bG4.lt; have fg0 := bG4.f0; have fg1 := bG4.f1
      have ch0 := bH4.c0; have ch1 := bH4.c1; have zh := bH4.lt; have fh0 := bH4.f0; have fh1 := bH4.f1
      go_wp2_with fail
      clear bX4 bY4 cx0 zx cg0 cg1 zg fg0 fg1 ch0 ch1 zh fh0 fh1
      refine (C39.out _).mono ?_
      rintro e w7 ⟨rfl, hb⟩
      have hB7 := bnext (w := w) (by go_grown) hb
      have bG7 := bG4.below hb bG4.lt; have bH7 := bH4.below hb bH4.lt
      clear hb bG4 bH4 hB4
      have cg0 := bG7.c0; have cg1 := bG7.c1; have zg := bG7.lt
      have ch0 := bH7.c0; have ch1 := bH7.c1; have zh := bH7.lt
      go_wp2
      exact bodyPost_ret (v := .int .i64 (-1)) (by simp [results, Try.results22, go_sem, *]) rfl ⟨rfl, by go_grown⟩
set_option maxHeartbeats 2000000 in
theorem rCmp_pos_eq (n1 n2 : Int) (k1 k2 : Nat) (w : World) (hx : Vld n1 k1) (hy : Vld n2 k2) (hsg : decide (n1 < 0) = decide (n2 < 0)) (hn : ¬ n1 < 0) (h3 : n1.natAbs * k2 = n2.natAbs * k1) :
    Calls Try.prog 22 #[.agg #[.int .i64 n1, .int .i64 k1], .agg #[.int .i64 n2, .int .i64 k2]] w fun e w' => e = .returned (.int .i64 (sgnI (n1 * (k2 : Int) - n2 * (k1 : Int)))) ∧ Below w.heap.size w w' := by
  have b1 := vld_bd hx; have b2 := vld_bd hy
  have hn1 : -9223372036854775808 ≤ n1 := by omega
  have hn1' : n1 < 9223372036854775808 := by omega
  have hn2 : -9223372036854775808 ≤ n2 := by omega
  have hn2' : n2 < 9223372036854775808 := by omega
  have cx := fun w => rvalid_any n1 k1 w hn1 hn1' (by omega) (by omega)
  have cy := fun w => rvalid_any n2 k2 w hn2 hn2' (by omega) (by omega)
  rw [vldB_true hx] at cx
  rw [vldB_true hy] at cy
  have hA : n1.natAbs * k2 ≤ 1152921504606846976 * 1152921504606846976 := Nat.mul_le_mul b1.1 (by omega)
  have hB : n2.natAbs * k1 ≤ 1152921504606846976 * 1152921504606846976 := Nat.mul_le_mul b2.1 (by omega)
  have hs' : decide (n1 < 0) = false := decide_eq_false hn
  have hs2 : decide (n2 < 0) = false := hsg ▸ hs'
  have CS1 := Lib.hid (fun w => size_any n1 w hn1 hn1')
  have CS2 := Lib.hid (fun w => size_any n2 w hn2 hn2')
  have CA := Lib.hid (fun w => rmul_any n1.natAbs k2 (by omega) (by omega) w)
  have CB := Lib.hid (fun w => rmul_any n2.natAbs k1 (by omega) (by omega) w)
  have CX := Lib.hid cx; have CY := Lib.hid cy
  have q1 : k1 ≤ 1152921504606846976 := by omega
  have q2 : k2 ≤ 1152921504606846976 := by omega
  have hr := cmp_pos n1 n2 k1 k2 hsg hn
  clear cx cy hx hy hn1 hn1' hn2 hn2' b1 b2
  generalize n1.natAbs * k2 = pA at *
  generalize n2.natAbs * k1 = pB at *
  generalize n1.natAbs = m1 at *
  generalize n2.natAbs = m2 at *
  rw [hr]
  have c39 := fun w => lessN pA (hN pB) (lN pB) pB (by omega) (lN_lt _) (uw_nat _ (by omega)) w
  obtain rfl : pA = pB := by omega
  rw [show sgnI ((pA : Int) - pA) = 0 by unfold sgnI; rw [if_neg (by omega), if_pos (by omega)]]
  rw [decide_eq_false (by omega)] at c39
  have C39 := Lib.hid c39; clear c39 hA hB hr hsg hn h3
  go_enter Try.func22, Try.ntmps22
  go_wp2_with fail
  refine (CX.out _).mono ?_
  rintro e w1 ⟨rfl, hb⟩
  have hB1 := bnext (w := w) (by go_grown) hb
  have bX : Blk2 w1 w.heap.size 23 (.int .i64 n1) (.int .i64 k1) := (Blk2.new.alloc _).below hb (by simp; omega)
  have bY : Blk2 w1 (w.heap.size + 1) 23 (.int .i64 n2) (.int .i64 k2) := (Blk2.new' (by simp)).below hb (by simp)
  clear hb
  have cy0 := bY.c0; have cy1 := bY.c1; have zy := bY.lt
  go_wp2_with fail
  refine (CY.out _).mono ?_
  rintro e w2 ⟨rfl, hb⟩
  have hB2 := bnext (w := w) (by go_grown) hb
  have bX2 := bX.below hb bX.lt; have bY2 := bY.below hb bY.lt
  clear hb bX bY cy0 cy1 zy hB1
  have cx0 := bX2.c0; have cx1 := bX2.c1; have zx := bX2.lt
  have cy0 := bY2.c0; have cy1 := bY2.c1; have zy := bY2.lt
  go_wp2_with fail
  refine wp_region_float2 14 52 5 6 (.cells #[.int .u64 0, .int .u64 0] 49) (.cells #[.int .u64 0, .int .u64 0] 49) ?afinpeq (by kernel_rfl) (by kernel_rfl) ?mk rfl rfl (by decide) (by simp) (fun T hT => ?walk) ?tail
  case mk =>
    intro i o h1 h2 ho
    rcases (show i = 14 ∨ i = 15 by omega) with rfl | rfl
    all_goals
      simp only [List.getElem?_toArray, List.getElem?_cons_succ, List.getElem?_cons_zero, Option.some.injEq] at ho
      subst ho
      exact ⟨rfl, fun a w => by simp [go_sem, ptrTo]⟩
  case walk =>
    simp only [List.take_succ_cons, List.take_zero]
    haveI := hT.some
    repeat (go_big_quiet_step (first | (go_at_call 33; first | with_reducible exact calls_overT_same (CS1.out _) | with_reducible exact calls_overT_same (CS2.out _)) | (go_at_call 37; first | with_reducible exact calls_overT hT (CA.out _) | with_reducible exact calls_overT hT (CB.out _))))
    refine wpQuiet_nil ?_
    rfl
  case tail =>
    intro ga gb w3 hb hs1 hs2 hne hga hgb
    have bG : Blk2 w3 ga 49 (.int .u64 0) (.int .u64 0) := hga
    have bH : Blk2 w3 gb 49 (.int .u64 0) (.int .u64 0) := hgb
    have hB3 := bnext (w := w) (by go_grown) hb
    have bX3 := bX2.below hb bX2.lt; have bY3 := bY2.below hb bY2.lt
    have h1 : w.heap.size + 1 < ga := Nat.lt_of_lt_of_le bY2.lt hs1
    have h2 : w.heap.size + 1 < gb := Nat.lt_of_lt_of_le bY2.lt hs2
    clear hb hga hgb hs1 hs2 bX2 bY2 cx0 cx1 cy0 cy1 zx zy hB2
    have cg0 := bG.c0; have cg1 := bG.c1; have zg := bG.lt; have fg0 := bG.f0; have fg1 := bG.f1
    have ch0 := bH.c0; have ch1 := bH.c1; have zh := bH.lt; have fh0 := bH.f0; have fh1 := bH.f1
    have hne' : ¬ gb = ga := fun h => hne h.symm
    unfold ptrTo
    have bX4 := ((((bX3.other (p := ⟨ga, 0, none⟩) (by dsimp only; omega) (.int .u64 (hN pA))).other (p := ⟨ga, 1, none⟩) (by dsimp only; omega) (.int .u64 (lN pA))).other (p := ⟨gb, 0, none⟩) (by dsimp only; omega) (.int .u64 (hN pA))).other (p := ⟨gb, 1, none⟩) (by dsimp only; omega) (.int .u64 (lN pA)))
    have bY4 := ((((bY3.other (p := ⟨ga, 0, none⟩) (by dsimp only; omega) (.int .u64 (hN pA))).other (p := ⟨ga, 1, none⟩) (by dsimp only; omega) (.int .u64 (lN pA))).other (p := ⟨gb, 0, none⟩) (by dsimp only; omega) (.int .u64 (hN pA))).other (p := ⟨gb, 1, none⟩) (by dsimp only; omega) (.int .u64 (lN pA)))
    have bG4 := ((((bG.set0 (.int .u64 (hN pA))).set1 (.int .u64 (lN pA))).other (p := ⟨gb, 0, none⟩) (by dsimp only; omega) (.int .u64 (hN pA))).other (p := ⟨gb, 1, none⟩) (by dsimp only; omega) (.int .u64 (lN pA)))
    have bH4 := (((bH.other (p := ⟨ga, 0, none⟩) (by dsimp only; omega) (.int .u64 (hN pA))).other (p := ⟨ga, 1, none⟩) (by dsimp only; omega) (.int .u64 (lN pA))).set0 (.int .u64 (hN pA))).set1 (.int .u64 (lN pA))
    have hB4 := (((hB3.setCell (p := ⟨ga, 0, none⟩) (by dsimp only; omega) (.int .u64 (hN pA))).setCell (p := ⟨ga, 1, none⟩) (by dsimp only; omega) (.int .u64 (lN pA))).setCell (p := ⟨gb, 0, none⟩) (by dsimp only; omega) (.int .u64 (hN pA))).setCell (p := ⟨gb, 1, none⟩) (by dsimp only; omega) (.int .u64 (lN pA))
    refine wpList_hide ?Apeq ?Wpeq ?q (fun K hK => ?st)
    case st =>
      go_wp2_with fail
      exact hK
    case q =>
      clear cg0 cg1 zg fg0 fg1 ch0 ch1 zh fh0 fh1 bG bH bX3 bY3 hB3
      generalize (((w3.setCell ⟨ga, 0, none⟩ (.int .u64 (hN pA))).setCell ⟨ga, 1, none⟩ (.int .u64 (lN pA))).setCell ⟨gb, 0, none⟩ (.int .u64 (hN pA))).setCell ⟨gb, 1, none⟩ (.int .u64 (lN pA)) = w4 at *
      have cx0 := bX4.c0; have zx := bX4.lt
      have cg0 := bG4.c0; have cg1 := bG4.c1; have zg := bG4.lt; have fg0 := bG4.f0; have fg1 := bG4.f1
      have ch0 := bH4.c0; have ch1 := bH4.c1; have zh := bH4.lt; have fh0 := bH4.f0; have fh1 := bH4.f1
      go_wp2_with fail
      clear bX4 bY4 cx0 zx cg0 cg1 zg fg0 fg1 ch0 ch1 zh fh0 fh1
      refine (C39.out _).mono ?_
      rintro e w7 ⟨rfl, hb⟩
      have hB7 := bnext (w := w) (by go_grown) hb
      have bG7 := bG4.below hb bG4.lt; have bH7 := bH4.below hb bH4.lt
      clear hb bG4 bH4 hB4
      have cg0 := bG7.c0; have cg1 := bG7.c1; have zg := bG7.lt
      have ch0 := bH7.c0; have ch1 := bH7.c1; have zh := bH7.lt
      go_wp2
      exact bodyPost_ret (v := .int .i64 (0)) (by simp [results, Try.results22, go_sem, *]) rfl ⟨rfl, by go_grown⟩
set_option maxHeartbeats 2000000 in
theorem rCmp_pos_gt (n1 n2 : Int) (k1 k2 : Nat) (w : World) (hx : Vld n1 k1) (hy : Vld n2 k2) (hsg : decide (n1 < 0) = decide (n2 < 0)) (hn : ¬ n1 < 0) (h3 : n2.natAbs * k1 < n1.natAbs * k2) :
    Calls Try.prog 22 #[.agg #[.int .i64 n1, .int .i64 k1], .agg #[.int .i64 n2, .int .i64 k2]] w fun e w' => e = .returned (.int .i64 (sgnI (n1 * (k2 : Int) - n2 * (k1 : Int)))) ∧ Below w.heap.size w w' := by
  have b1 := vld_bd hx; have b2 := vld_bd hy
  have hn1 : -9223372036854775808 ≤ n1 := by omega
  have hn1' : n1 < 9223372036854775808 := by omega
  have hn2 : -9223372036854775808 ≤ n2 := by omega
  have hn2' : n2 < 9223372036854775808 := by omega
  have cx := fun w => rvalid_any n1 k1 w hn1 hn1' (by omega) (by omega)
  have cy := fun w => rvalid_any n2 k2 w hn2 hn2' (by omega) (by omega)
  rw [vldB_true hx] at cx
  rw [vldB_true hy] at cy
  have hA : n1.natAbs * k2 ≤ 1152921504606846976 * 1152921504606846976 := Nat.mul_le_mul b1.1 (by omega)
  have hB : n2.natAbs * k1 ≤ 1152921504606846976 * 1152921504606846976 := Nat.mul_le_mul b2.1 (by omega)
  have hs' : decide (n1 < 0) = false := decide_eq_false hn
  have hs2 : decide (n2 < 0) = false := hsg ▸ hs'
  have CS1 := Lib.hid (fun w => size_any n1 w hn1 hn1')
  have CS2 := Lib.hid (fun w => size_any n2 w hn2 hn2')
  have CA := Lib.hid (fun w => rmul_any n1.natAbs k2 (by omega) (by omega) w)
  have CB := Lib.hid (fun w => rmul_any n2.natAbs k1 (by omega) (by omega) w)
  have CX := Lib.hid cx; have CY := Lib.hid cy
  have q1 : k1 ≤ 1152921504606846976 := by omega
  have q2 : k2 ≤ 1152921504606846976 := by omega
  have hr := cmp_pos n1 n2 k1 k2 hsg hn
  clear cx cy hx hy hn1 hn1' hn2 hn2' b1 b2
  generalize n1.natAbs * k2 = pA at *
  generalize n2.natAbs * k1 = pB at *
  generalize n1.natAbs = m1 at *
  generalize n2.natAbs = m2 at *
  rw [hr]
  have c39 := fun w => lessN pA (hN pB) (lN pB) pB (by omega) (lN_lt _) (uw_nat _ (by omega)) w
  rw [show sgnI ((pA : Int) - pB) = 1 by unfold sgnI; rw [if_neg (by omega), if_neg (by omega)]]
  rw [decide_eq_false (by omega)] at c39
  have HW := Lib.hid (words_ne pA pB (by omega) (by omega) (by omega))
  have C39 := Lib.hid c39; clear c39 hA hB hr hsg hn h3
  go_enter Try.func22, Try.ntmps22
  go_wp2_with fail
  refine (CX.out _).mono ?_
  rintro e w1 ⟨rfl, hb⟩
  have hB1 := bnext (w := w) (by go_grown) hb
  have bX : Blk2 w1 w.heap.size 23 (.int .i64 n1) (.int .i64 k1) := (Blk2.new.alloc _).below hb (by simp; omega)
  have bY : Blk2 w1 (w.heap.size + 1) 23 (.int .i64 n2) (.int .i64 k2) := (Blk2.new' (by simp)).below hb (by simp)
  clear hb
  have cy0 := bY.c0; have cy1 := bY.c1; have zy := bY.lt
  go_wp2_with fail
  refine (CY.out _).mono ?_
  rintro e w2 ⟨rfl, hb⟩
  have hB2 := bnext (w := w) (by go_grown) hb
  have bX2 := bX.below hb bX.lt; have bY2 := bY.below hb bY.lt
  clear hb bX bY cy0 cy1 zy hB1
  have cx0 := bX2.c0; have cx1 := bX2.c1; have zx := bX2.lt
  have cy0 := bY2.c0; have cy1 := bY2.c1; have zy := bY2.lt
  go_wp2_with fail
  refine wp_region_float2 14 52 5 6 (.cells #[.int .u64 0, .int .u64 0] 49) (.cells #[.int .u64 0, .int .u64 0] 49) ?afinpgt (by kernel_rfl) (by kernel_rfl) ?mk rfl rfl (by decide) (by simp) (fun T hT => ?walk) ?tail
  case mk =>
    intro i o h1 h2 ho
    rcases (show i = 14 ∨ i = 15 by omega) with rfl | rfl
    all_goals
      simp only [List.getElem?_toArray, List.getElem?_cons_succ, List.getElem?_cons_zero, Option.some.injEq] at ho
      subst ho
      exact ⟨rfl, fun a w => by simp [go_sem, ptrTo]⟩
  case walk =>
    simp only [List.take_succ_cons, List.take_zero]
    haveI := hT.some
    repeat (go_big_quiet_step (first | (go_at_call 33; first | with_reducible exact calls_overT_same (CS1.out _) | with_reducible exact calls_overT_same (CS2.out _)) | (go_at_call 37; first | with_reducible exact calls_overT hT (CA.out _) | with_reducible exact calls_overT hT (CB.out _))))
    refine wpQuiet_nil ?_
    rfl
  case tail =>
    intro ga gb w3 hb hs1 hs2 hne hga hgb
    have bG : Blk2 w3 ga 49 (.int .u64 0) (.int .u64 0) := hga
    have bH : Blk2 w3 gb 49 (.int .u64 0) (.int .u64 0) := hgb
    have hB3 := bnext (w := w) (by go_grown) hb
    have bX3 := bX2.below hb bX2.lt; have bY3 := bY2.below hb bY2.lt
    have h1 : w.heap.size + 1 < ga := Nat.lt_of_lt_of_le bY2.lt hs1
    have h2 : w.heap.size + 1 < gb := Nat.lt_of_lt_of_le bY2.lt hs2
    clear hb hga hgb hs1 hs2 bX2 bY2 cx0 cx1 cy0 cy1 zx zy hB2
    have cg0 := bG.c0; have cg1 := bG.c1; have zg := bG.lt; have fg0 := bG.f0; have fg1 := bG.f1
    have ch0 := bH.c0; have ch1 := bH.c1; have zh := bH.lt; have fh0 := bH.f0; have fh1 := bH.f1
    have hne' : ¬ gb = ga := fun h => hne h.symm
    unfold ptrTo
    have bX4 := ((((bX3.other (p := ⟨ga, 0, none⟩) (by dsimp only; omega) (.int .u64 (hN pA))).other (p := ⟨ga, 1, none⟩) (by dsimp only; omega) (.int .u64 (lN pA))).other (p := ⟨gb, 0, none⟩) (by dsimp only; omega) (.int .u64 (hN pB))).other (p := ⟨gb, 1, none⟩) (by dsimp only; omega) (.int .u64 (lN pB)))
    have bY4 := ((((bY3.other (p := ⟨ga, 0, none⟩) (by dsimp only; omega) (.int .u64 (hN pA))).other (p := ⟨ga, 1, none⟩) (by dsimp only; omega) (.int .u64 (lN pA))).other (p := ⟨gb, 0, none⟩) (by dsimp only; omega) (.int .u64 (hN pB))).other (p := ⟨gb, 1, none⟩) (by dsimp only; omega) (.int .u64 (lN pB)))
    have bG4 := ((((bG.set0 (.int .u64 (hN pA))).set1 (.int .u64 (lN pA))).other (p := ⟨gb, 0, none⟩) (by dsimp only; omega) (.int .u64 (hN pB))).other (p := ⟨gb, 1, none⟩) (by dsimp only; omega) (.int .u64 (lN pB)))
    have bH4 := (((bH.other (p := ⟨ga, 0, none⟩) (by dsimp only; omega) (.int .u64 (hN pA))).other (p := ⟨ga, 1, none⟩) (by dsimp only; omega) (.int .u64 (lN pA))).set0 (.int .u64 (hN pB))).set1 (.int .u64 (lN pB))
    have hB4 := (((hB3.setCell (p := ⟨ga, 0, none⟩) (by dsimp only; omega) (.int .u64 (hN pA))).setCell (p := ⟨ga, 1, none⟩) (by dsimp only; omega) (.int .u64 (lN pA))).setCell (p := ⟨gb, 0, none⟩) (by dsimp only; omega) (.int .u64 (hN pB))).setCell (p := ⟨gb, 1, none⟩) (by dsimp only; omega) (.int .u64 (lN pB))
    refine wpList_hide ?Apgt ?Wpgt ?q (fun K hK => ?st)
    case st =>
      go_wp2_with fail
      exact hK
    case q =>
      clear cg0 cg1 zg fg0 fg1 ch0 ch1 zh fh0 fh1 bG bH bX3 bY3 hB3
      generalize (((w3.setCell ⟨ga, 0, none⟩ (.int .u64 (hN pA))).setCell ⟨ga, 1, none⟩ (.int .u64 (lN pA))).setCell ⟨gb, 0, none⟩ (.int .u64 (hN pB))).setCell ⟨gb, 1, none⟩ (.int .u64 (lN pB)) = w4 at *
      have cx0 := bX4.c0; have zx := bX4.lt
      have cg0 := bG4.c0; have cg1 := bG4.c1; have zg := bG4.lt; have fg0 := bG4.f0; have fg1 := bG4.f1
      have ch0 := bH4.c0; have ch1 := bH4.c1; have zh := bH4.lt; have fh0 := bH4.f0; have fh1 := bH4.f1
      go_wp2_with fail
      clear bX4 bY4 cx0 zx cg0 cg1 zg fg0 fg1 ch0 ch1 zh fh0 fh1
      refine (C39.out _).mono ?_
      rintro e w7 ⟨rfl, hb⟩
      have hB7 := bnext (w := w) (by go_grown) hb
      have bG7 := bG4.below hb bG4.lt; have bH7 := bH4.below hb bH4.lt
      clear hb bG4 bH4 hB4
      have cg0 := bG7.c0; have cg1 := bG7.c1; have zg := bG7.lt
      have ch0 := bH7.c0; have ch1 := bH7.c1; have zh := bH7.lt
      go_wp2
      all_goals first | exact (HW.out (by assumption) (by assumption)).elim | exact bodyPost_ret (v := .int .i64 (1)) (by simp [results, Try.results22, go_sem, *]) rfl ⟨rfl, by go_grown⟩
set_option maxHeartbeats 4000000 in
theorem rCmp_any (n1 d1 n2 d2 : Int) (w : World) (hn1 : -9223372036854775808 ≤ n1) (hn1' : n1 < 9223372036854775808) (hd1 : -9223372036854775808 ≤ d1) (hd1' : d1 < 9223372036854775808)
    (hn2 : -9223372036854775808 ≤ n2) (hn2' : n2 < 9223372036854775808) (hd2 : -9223372036854775808 ≤ d2) (hd2' : d2 < 9223372036854775808) :
    Calls Try.prog 22 #[.agg #[.int .i64 n1, .int .i64 d1], .agg #[.int .i64 n2, .int .i64 d2]] w fun e w' => e = .returned (.int .i64 (cmpI n1 d1 n2 d2)) ∧ Below w.heap.size w w' := by
  have cx := fun w => rvalid_any n1 d1 w hn1 hn1' hd1 hd1'
  have cy := fun w => rvalid_any n2 d2 w hn2 hn2' hd2 hd2'
  by_cases hx : Vld n1 d1
  · rw [vldB_true hx] at cx
    by_cases hy : Vld n2 d2
    · rw [vldB_true hy] at cy
      have hxy : Vld n1 d1 ∧ Vld n2 d2 := ⟨hx, hy⟩
      unfold cmpI
      rw [if_pos hxy]
      have b1 := vld_bd hx; have b2 := vld_bd hy
      obtain ⟨k1, rfl, p1⟩ := nat_of_vld hx
      obtain ⟨k2, rfl, p2⟩ := nat_of_vld hy
      by_cases hsg : decide (n1 < 0) = decide (n2 < 0)
      · by_cases hn : n1 < 0
        · rcases Nat.lt_trichotomy (n2.natAbs * k1) (n1.natAbs * k2) with h3 | h3 | h3
          · exact rCmp_neg_lt n1 n2 k1 k2 w hx hy hsg hn h3
          · exact rCmp_neg_eq n1 n2 k1 k2 w hx hy hsg hn h3
          · exact rCmp_neg_gt n1 n2 k1 k2 w hx hy hsg hn h3
        · rcases Nat.lt_trichotomy (n1.natAbs * k2) (n2.natAbs * k1) with h3 | h3 | h3
          · exact rCmp_pos_lt n1 n2 k1 k2 w hx hy hsg hn h3
          · exact rCmp_pos_eq n1 n2 k1 k2 w hx hy hsg hn h3
          · exact rCmp_pos_gt n1 n2 k1 k2 w hx hy hsg hn h3
      by_cases hn : n1 < 0
      · have hn2 : ¬ n2 < 0 := by intro h; exact hsg (by rw [decide_eq_true hn, decide_eq_true h])
        rw [cmp_dn n1 n2 k1 k2 p1 p2 hn hn2]
        have hs' : decide (n1 < 0) = true := decide_eq_true hn
        have hs2 : decide (n2 < 0) = false := decide_eq_false hn2
        have CX := Lib.hid cx; have CY := Lib.hid cy
        clear cx cy hx hy hxy hn1 hn1' hd1 hd1' hn2' hd2 hd2' b1 b2 p1 p2 hsg hn hn2
        go_enter Try.func22, Try.ntmps22
        go_wp2_with fail
        refine (CX.out _).mono ?_
        rintro e w1 ⟨rfl, hb⟩
        have hB1 := bnext (w := w) (by go_grown) hb
        have bX : Blk2 w1 w.heap.size 23 (.int .i64 n1) (.int .i64 k1) := (Blk2.new.alloc _).below hb (by simp; omega)
        have bY : Blk2 w1 (w.heap.size + 1) 23 (.int .i64 n2) (.int .i64 k2) := (Blk2.new' (by simp)).below hb (by simp)
        clear hb
        have cy0 := bY.c0; have cy1 := bY.c1; have zy := bY.lt
        go_wp2_with fail
        refine (CY.out _).mono ?_
        rintro e w2 ⟨rfl, hb⟩
        have hB2 := bnext (w := w) (by go_grown) hb
        have bX2 := bX.below hb bX.lt; have bY2 := bY.below hb bY.lt
        clear hb bX bY cy0 cy1 zy hB1
        have cx0 := bX2.c0; have cx1 := bX2.c1; have zx := bX2.lt
        have cy0 := bY2.c0; have cy1 := bY2.c1; have zy := bY2.lt
        go_wp2
        exact bodyPost_ret (v := .int .i64 (-1)) (by simp [results, Try.results22, go_sem, *]) rfl ⟨rfl, by go_grown⟩
      · have hn2 : n2 < 0 := by
          by_cases h : n2 < 0
          · exact h
          · exact absurd (by rw [decide_eq_false hn, decide_eq_false h]) hsg
        rw [cmp_up n1 n2 k1 k2 p1 p2 hn hn2]
        have hs' : decide (n1 < 0) = false := decide_eq_false hn
        have hs2 : decide (n2 < 0) = true := decide_eq_true hn2
        have CX := Lib.hid cx; have CY := Lib.hid cy
        clear cx cy hx hy hxy hn1 hn1' hd1 hd1' hn2' hd2 hd2' b1 b2 p1 p2 hsg hn hn2
        go_enter Try.func22, Try.ntmps22
        go_wp2_with fail
        refine (CX.out _).mono ?_
        rintro e w1 ⟨rfl, hb⟩
        have hB1 := bnext (w := w) (by go_grown) hb
        have bX : Blk2 w1 w.heap.size 23 (.int .i64 n1) (.int .i64 k1) := (Blk2.new.alloc _).below hb (by simp; omega)
        have bY : Blk2 w1 (w.heap.size + 1) 23 (.int .i64 n2) (.int .i64 k2) := (Blk2.new' (by simp)).below hb (by simp)
        clear hb
        have cy0 := bY.c0; have cy1 := bY.c1; have zy := bY.lt
        go_wp2_with fail
        refine (CY.out _).mono ?_
        rintro e w2 ⟨rfl, hb⟩
        have hB2 := bnext (w := w) (by go_grown) hb
        have bX2 := bX.below hb bX.lt; have bY2 := bY.below hb bY.lt
        clear hb bX bY cy0 cy1 zy hB1
        have cx0 := bX2.c0; have cx1 := bX2.c1; have zx := bX2.lt
        have cy0 := bY2.c0; have cy1 := bY2.c1; have zy := bY2.lt
        go_wp2
        exact bodyPost_ret (v := .int .i64 (1)) (by simp [results, Try.results22, go_sem, *]) rfl ⟨rfl, by go_grown⟩
    · rw [vldB_false hy] at cy
      have hxy : ¬ (Vld n1 d1 ∧ Vld n2 d2) := fun h => hy h.2
      unfold cmpI
      rw [if_neg hxy]
      have CX := Lib.hid cx; have CY := Lib.hid cy; clear cx cy hx hy hxy hn1 hn1' hd1 hd1' hn2 hn2' hd2 hd2'
      go_enter Try.func22, Try.ntmps22
      go_wp2_with fail
      refine (CX.out _).mono ?_
      rintro e w1 ⟨rfl, hb⟩
      have hB1 := bnext (w := w) (by go_grown) hb
      have bX : Blk2 w1 w.heap.size 23 (.int .i64 n1) (.int .i64 d1) := (Blk2.new.alloc _).below hb (by simp; omega)
      have bY : Blk2 w1 (w.heap.size + 1) 23 (.int .i64 n2) (.int .i64 d2) := (Blk2.new' (by simp)).below hb (by simp)
      clear hb
      have cy0 := bY.c0; have cy1 := bY.c1; have zy := bY.lt
      go_wp2_with fail
      refine (CY.out _).mono ?_
      rintro e w2 ⟨rfl, hb⟩
      have hB2 := bnext (w := w) (by go_grown) hb
      have bX2 := bX.below hb bX.lt; have bY2 := bY.below hb bY.lt
      clear hb bX bY cy0 cy1 zy hB1
      go_wp2
      exact bodyPost_ret (v := .int .i64 (0)) (by simp [results, Try.results22, go_sem, *]) rfl ⟨rfl, by go_grown⟩
  · rw [vldB_false hx] at cx
    have hxy : ¬ (Vld n1 d1 ∧ Vld n2 d2) := fun h => hx h.1
    unfold cmpI
    rw [if_neg hxy]
    have CX := Lib.hid cx; clear cx cy hx hxy hn1 hn1' hd1 hd1' hn2 hn2' hd2 hd2'
    · skip
      go_enter Try.func22, Try.ntmps22
      go_wp2_with fail
      refine (CX.out _).mono ?_
      rintro e w1 ⟨rfl, hb⟩
      have hB1 := bnext (w := w) (by go_grown) hb
      have bX : Blk2 w1 w.heap.size 23 (.int .i64 n1) (.int .i64 d1) := (Blk2.new.alloc _).below hb (by simp; omega)
      have bY : Blk2 w1 (w.heap.size + 1) 23 (.int .i64 n2) (.int .i64 d2) := (Blk2.new' (by simp)).below hb (by simp)
      clear hb
      go_wp2
      exact bodyPost_ret (v := .int .i64 (0)) (by simp [results, Try.results22, go_sem, *]) rfl ⟨rfl, by go_grown⟩
end Go.Proofs.Ytafheinapjfbaaa
