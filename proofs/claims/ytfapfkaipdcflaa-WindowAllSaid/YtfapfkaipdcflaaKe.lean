/-
  The order of links; the check of one link; Check of package links.
-/
import Derived.Test.YtfapfkaipdcflaaKd
namespace Go.Proofs.Ytfapfkaipdcflaa.K
open Go.RowKit Go.Lib Go.Sort

theorem bcellE {B : Nat} {W w1 : World} (hb : Below B W w1) : ∀ b o, b < B → w1.cell? ⟨b, o, none⟩ = W.cell? ⟨b, o, none⟩ := fun b o h => hb.cell (p := ⟨b, o, none⟩) h
namespace Ls
open Go.Proofs.Ytfapfkaipdcflaa.Ls
/-- the order of links, as a number -/
def cmpL (a b : Lk) : Int := orL [Lib.compareInt a.u b.u, Lib.compareInt a.v b.v]
theorem cmpL_neg (a b : Lk) : (cmpL a b < 0) ↔ before a b = true := by
  unfold cmpL before
  simp only [orL, Bool.or_eq_true, Bool.and_eq_true, decide_eq_true_eq]
  rcases Int.lt_trichotomy a.u b.u with h | h | h
  · simp [compareInt_lt _ _ h, h]
  · rw [h, compareInt_eq]
    rcases Int.lt_trichotomy a.v b.v with g | g | g
    · simp [compareInt_lt _ _ g, g]
    · rw [g, compareInt_eq]; simp
    · simp [compareInt_gt _ _ g]; omega
  · simp [compareInt_gt _ _ h]; omega
theorem cmpL_zero (a b : Lk) : (cmpL a b = 0) ↔ same a b = true := by
  unfold cmpL same
  simp only [orL, Bool.and_eq_true, decide_eq_true_eq]
  rcases Int.lt_trichotomy a.u b.u with h | h | h
  · simp [compareInt_lt _ _ h]; omega
  · rw [h, compareInt_eq]
    rcases Int.lt_trichotomy a.v b.v with g | g | g
    · simp [compareInt_lt _ _ g]; omega
    · rw [g, compareInt_eq]; simp
    · simp [compareInt_gt _ _ g]; omega
  · simp [compareInt_gt _ _ h]; omega
end Ls
set_option maxHeartbeats 1000000 in
theorem cmpL_any (u v x y z t u' v' x' y' z' t' : Int) (w : World) : Calls Try.prog 72 #[.agg #[.int .i64 u, .int .i64 v, .int .i64 x, .int .i64 y, .int .i64 z, .int .i64 t], .agg #[.int .i64 u', .int .i64 v', .int .i64 x', .int .i64 y', .int .i64 z', .int .i64 t']] w fun e w' => e = .returned (.int .i64 (Ls.cmpL ⟨u, v, x, y, z, t⟩ ⟨u', v', x', y', z', t'⟩)) ∧ Below w.heap.size w w' := by
  have HR := Lib.hid (show Ls.cmpL ⟨u, v, x, y, z, t⟩ ⟨u', v', x', y', z', t'⟩ = orL [Lib.compareInt u u', Lib.compareInt v v'] from rfl)
  have C1 := Lib.hid (fun W => cmpC u u' W)
  have C2 := Lib.hid (fun W => cmpC v v' W)
  generalize Lib.compareInt u u' = p at HR C1
  generalize Lib.compareInt v v' = q at HR C2
  go_enter Try.func72, Try.ntmps72
  go_wp2
  refine wp_region_drew_tail 10 (by kernel_rfl) (by kernel_rfl) ?_
  simp only [List.take_succ_cons, List.take_zero, List.drop_succ_cons, List.drop_zero]
  repeat (go_big_quiet_step (first | (go_at_call 43; first | with_reducible exact Calls.quiet_of_same (C1.out _) | with_reducible exact Calls.quiet_of_same (C2.out _))))
  refine wpQuiet_nil ?_
  rintro _ ⟨k, rfl⟩
  have C51 : Hid (∀ (W : World) (g : Nat), W.heap.size = g → Calls Try.prog 42 #[.slice (some ⟨g, 0, none⟩) 2 2] (W.alloc (.cells #[.int .i64 p, .int .i64 q] 3)) fun e w' => e = .returned (.int .i64 (orL [p, q])) ∧ W.alloc (.cells #[.int .i64 p, .int .i64 q] 3) = w') := by
    intro W g hg
    subst hg
    exact or_any _ 2 [p, q] _ (RD_newL W [p, q] 3) (by simp)
  go_wp2_with fail
  refine (C51.out _ _ (by simp)).mono ?_
  rintro e w' ⟨rfl, rfl⟩
  rw [← HR.out]
  go_wp2
  go_ret
  exact ⟨rfl, ((new_two w _ _).2.2.2.trans ((below_drewN _ k).mono (by simp; omega))).alloc (by simp [World.drewN]; omega) _⟩
/-- the two checks of the event that sets a link, as the check of the link -/
theorem chk_two (n u v x y z t : Int) (h0 : 0 ≤ u) (h1 : u < v) (h2 : v < n) (hn : n ≤ 64) : orL [chkE ⟨1, 0, u, v, x, y, z⟩, chkE ⟨1, t, u, v, x, y, z⟩] = Ls.chkLk n ⟨u, v, x, y, z, t⟩ := by
  have hnod : ∀ t, nodesB ⟨1, t, u, v, x, y, z⟩ = true := by intro t; simp [nodesB, okN]; omega
  have hat : ∀ t, attrB ⟨1, t, u, v, x, y, z⟩ = attrB ⟨1, 0, 0, 0, x, y, z⟩ := fun t => by simp [attrB]
  unfold Ls.chkLk
  rw [if_neg (by show ¬ (u < 0 ∨ v ≤ u ∨ n ≤ v); omega)]
  have e0 : chkE ⟨1, 0, u, v, x, y, z⟩ = if attrB ⟨1, 0, 0, 0, x, y, z⟩ = false then 1 else 0 := by
    unfold chkE
    rw [if_neg (by simp), if_neg (by simp), if_neg (by rw [hnod]; decide), hat]
  have e1 : chkE ⟨1, t, u, v, x, y, z⟩ = if t < 0 ∨ 1048576 < t then 9 else if attrB ⟨1, 0, 0, 0, x, y, z⟩ = false then 1 else 0 := by
    unfold chkE
    rw [if_neg (by simp)]
    simp only [hnod, hat]
    simp
  rw [e0, e1]
  show orL _ = if attrB ⟨1, 0, 0, 0, x, y, z⟩ = false then 1 else if t < 0 ∨ 1048576 < t then 9 else 0
  cases attrB ⟨1, 0, 0, 0, x, y, z⟩ <;> by_cases ht : t < 0 ∨ 1048576 < t <;> simp [orL, ht]
set_option maxHeartbeats 2000000 in
set_option maxRecDepth 100000 in
theorem checkLink_any (n u v x y z t : Int) (hn : n ≤ 64) (w : World) : Calls Try.prog 71 #[.int .i64 n, .agg #[.int .i64 u, .int .i64 v, .int .i64 x, .int .i64 y, .int .i64 z, .int .i64 t]] w fun e w' => e = .returned (.int .i64 (Ls.chkLk n ⟨u, v, x, y, z, t⟩)) ∧ Below w.heap.size w w' := by
  by_cases hbad : u < 0 ∨ v ≤ u ∨ n ≤ v
  · have HR := Lib.hid (show Ls.chkLk n ⟨u, v, x, y, z, t⟩ = 6 by unfold Ls.chkLk; rw [if_pos hbad])
    have HB := Lib.hid (below_new w (.cells #[.int .i64 u, .int .i64 v, .int .i64 x, .int .i64 y, .int .i64 z, .int .i64 t] 57))
    rcases (by omega : u < 0 ∨ (0 ≤ u ∧ v ≤ u) ∨ (0 ≤ u ∧ u < v ∧ n ≤ v)) with h1 | ⟨h1, h2⟩ | ⟨h1, h2, h3⟩
    all_goals
      clear hbad
      go_enter Try.func71, Try.ntmps71
      go_wp2
      go_ret
      exact ⟨ret_int HR.out.symm, HB.out⟩
  · have h1 : 0 ≤ u := by omega
    have h2 : u < v := by omega
    have h3 : v < n := by omega
    have HR := Lib.hid (chk_two n u v x y z t h1 h2 h3 hn)
    clear hbad
    have C0 := Lib.hid (fun w => check_anyE 1 0 u v x y z w)
    have C1 := Lib.hid (fun w => check_anyE 1 t u v x y z w)
    generalize chkE ⟨1, 0, u, v, x, y, z⟩ = p at HR C0
    generalize chkE ⟨1, t, u, v, x, y, z⟩ = q at HR C1
    have CS := Lib.hid (fun w => setOf_any u v x y z t w)
    go_enter Try.func71, Try.ntmps71
    go_wp2_with fail
    refine (CS.out _).mono ?_
    rintro e w1 ⟨rfl, hb⟩
    have HB := Lib.hid ((below_new w _).trans (hb.mono (by simp)))
    clear hb
    go_wp2
    have HC : Hid (Below w.heap.size w ((w1.alloc (.cells #[.int .i64 1, .int .i64 t, .int .i64 u, .int .i64 v, .int .i64 x, .int .i64 y, .int .i64 z] 40)).alloc (.cells #[.int .i64 1, .int .i64 0, .int .i64 u, .int .i64 v, .int .i64 x, .int .i64 y, .int .i64 z] 40))) := (HB.out.alloc HB.out.size _).alloc (by have := HB.out.size; simp; omega) _
    refine wp_region_over_tail 4 (by kernel_rfl) (by kernel_rfl) ?_
    simp only [List.take_succ_cons, List.take_zero, List.drop_succ_cons, List.drop_zero]
    repeat (go_big_quiet_step (first | (go_at_call 24; first | with_reducible exact calls_over (C0.out _) | with_reducible exact calls_over (C1.out _))))
    refine wpQuiet_nil ?_
    rintro _ ⟨xx, rfl⟩
    have hbx := Lib.hid (over_below _ xx)
    generalize over _ xx = wx at hbx ⊢
    go_wp2_with fail
    have C51 := orE_any _ 2 [p, q] _ (RD_newL wx [p, q] 28) (by simp)
    refine C51.mono ?_
    rintro e w' ⟨rfl, rfl⟩
    rw [HR.out]
    go_wp2
    go_ret
    exact ⟨rfl, (HC.out.trans (hbx.out.mono HC.out.size)).alloc (by have := HC.out.size; have := hbx.out.size; omega) _⟩
end Go.Proofs.Ytfapfkaipdcflaa.K
