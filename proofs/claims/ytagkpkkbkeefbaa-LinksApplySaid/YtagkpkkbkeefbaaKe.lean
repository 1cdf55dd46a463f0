/-
  The order of links; the check of one link; Check of package links.
-/
import Derived.Test.YtagkpkkbkeefbaaKd
import Derived.Test.YtagkpkkbkeefbaaGn
namespace Go.Proofs.Ytagkpkkbkeefbaa
open Go.RowKit Go.Lib Go.Sort

theorem bcellE {B : Nat} {W w1 : World} (hb : Below B W w1) : ∀ b o, b < B → w1.cell? ⟨b, o, none⟩ = W.cell? ⟨b, o, none⟩ := fun b o h => hb.cell (p := ⟨b, o, none⟩) h
namespace Ls
/-- the order of links, as a number -/
def cmpL (a b : Lk) : Int := orL [Lib.compareInt a.u b.u, Lib.compareInt a.v b.v]
theorem cmpL_neg (a b : Lk) : (cmpL a b < 0) ↔ before a b = true := by
  unfold cmpL before
  simp only [orL, Bool.or_eq_true, Bool.and_eq_true, decide_eq_true_eq]
  rcases Int.lt_trichotomy a.u b.u with h | h | h
  · simp [compareInt_lt _ _ h, h]
  · rw [h, compareInt_eq]
    rcases Int.lt_trichotomy a.v b.v with g | g | g
    · simp [compareInt_lt _ _ g, g]
    · rw [g, compareInt_eq]; simp
    · simp [compareInt_gt _ _ g]; omega
  · simp [compareInt_gt _ _ h]; omega
theorem cmpL_zero (a b : Lk) : (cmpL a b = 0) ↔ same a b = true := by
  unfold cmpL same
  simp only [orL, Bool.and_eq_true, decide_eq_true_eq]
  rcases Int.lt_trichotomy a.u b.u with h | h | h
  · simp [compareInt_lt _ _ h]; omega
  · rw [h, compareInt_eq]
    rcases Int.lt_trichotomy a.v b.v with g | g | g
    · simp [compareInt_lt _ _ g]; omega
    · rw [g, compareInt_eq]; simp
    · simp [compareInt_gt _ _ g]; omega
  · simp [compareInt_gt _ _ h]; omega
end Ls
set_option maxHeartbeats 1000000 in
theorem cmpL_any (u v x y z t u' v' x' y' z' t' : Int) (w : World) : Calls Try.prog 33 #[.agg #[.int .i64 u, .int .i64 v, .int .i64 x, .int .i64 y, .int .i64 z, .int .i64 t], .agg #[.int .i64 u', .int .i64 v', .int .i64 x', .int .i64 y', .int .i64 z', .int .i64 t']] w fun e w' => e = .returned (.int .i64 (Ls.cmpL ⟨u, v, x, y, z, t⟩ ⟨u', v', x', y', z', t'⟩)) ∧ Below w.heap.size w w' := by
  have HR := Lib.hid (show Ls.cmpL ⟨u, v, x, y, z, t⟩ ⟨u', v', x', y', z', t'⟩ = orL [Lib.compareInt u u', Lib.compareInt v v'] from rfl)
  have C1 := Lib.hid (fun W => Try.cmp_Compare_int u u' W)
  have C2 := Lib.hid (fun W => Try.cmp_Compare_int v v' W)
  generalize Lib.compareInt u u' = p at HR C1
  generalize Lib.compareInt v v' = q at HR C2
  go_enter Try.func33, Try.ntmps33
  go_wp2
  refine wp_region_drew_tail 10 (by kernel_rfl) (by kernel_rfl) ?_
  simp only [List.take_succ_cons, List.take_zero, List.drop_succ_cons, List.drop_zero]
  repeat (go_big_quiet_step (first | (go_at_call 53; first | with_reducible exact Calls.quiet_of_same (C1.out _) | with_reducible exact Calls.quiet_of_same (C2.out _))))
  refine wpQuiet_nil ?_
  rintro _ ⟨k, rfl⟩
  have C51 : Hid (∀ (W : World) (g : Nat), W.heap.size = g → Calls Try.prog 52 #[.slice (some ⟨g, 0, none⟩) 2 2] (W.alloc (.cells #[.int .i64 p, .int .i64 q] 3)) fun e w' => e = .returned (.int .i64 (orL [p, q])) ∧ W.alloc (.cells #[.int .i64 p, .int .i64 q] 3) = w') := by
    intro W g hg
    subst hg
    exact or_any _ 2 [p, q] _ (RD_new2 W p q) (by simp)
  go_wp2_with fail
  refine (C51.out _ _ (by simp)).mono ?_
  rintro e w' ⟨rfl, rfl⟩
  rw [← HR.out]
  go_wp2
  go_ret
  exact ⟨rfl, ((new_two w _ _).2.2.2.trans ((below_drewN _ k).mono (by simp; omega))).alloc (by simp [World.drewN]; omega) _⟩
theorem orE_any (A : Option Addr) (c : Nat) (l : List Int) (w : World) (h : RD w A c l) (hl : l.length ≤ 65536) :
    Calls Try.prog 50 #[.slice A l.length c] w fun e w' => e = .returned (.int .i64 (orL l)) ∧ w = w' := by
  go_enter Try.func50, Try.ntmps50
  go_wp2
  go_loop [8] (fun i => ∃ k : Nat, k ≤ l.length ∧ i = .int .i64 k ∧ Hid (orL l = orL (l.drop k))) (fun i => l.length - (RowKit.intOf i).toNat)
  case atStart => exact ⟨0, Nat.zero_le _, rfl, rfl⟩
  case round =>
    obtain ⟨k, hk, rfl, HN⟩ := hrel
    by_cases hlt : k < l.length
    · obtain ⟨ad, y, rfl, hb, hy, hcell⟩ := h.let_ hlt
      have HD : Hid (l.drop k = y :: l.drop (k + 1)) := by
        show _ = _
        obtain ⟨hk, rfl⟩ := List.getElem?_eq_some_iff.1 hy
        exact List.drop_eq_getElem_cons hk
      clear hy
      by_cases he : y = 0
      · have hd : (y != 0) = false := by simpa using he
        have HR : Hid (orL l = orL (l.drop (k + 1))) := by show _ = _; rw [HN.out, HD.out, orL, if_pos he]
        subst he
        go_wp2
        go_round
        case rel => exact ⟨k + 1, by omega, by go_num, HR.out⟩
        case measure => simp [RowKit.intOf]; omega
      · have hd : (y != 0) = true := by simpa using he
        have HR : Hid (orL l = y) := by show _ = _; rw [HN.out, HD.out, orL, if_neg he]
        clear he
        go_wp2
        go_ret
        exact ⟨ret_int HR.out.symm, rfl⟩
    · have HR : Hid (orL l = 0) := by show _ = _; rw [HN.out, List.drop_eq_nil_of_le (by omega)]; rfl
      go_wp2
      go_ret
      exact ⟨ret_int HR.out.symm, rfl⟩
theorem RD_newT (W : World) (p q : Int) (T : TypeId) : RD (W.alloc (.cells #[.int .i64 p, .int .i64 q] T)) (some ⟨W.heap.size, 0, none⟩) 2 [p, q] := by
  refine ⟨Nat.le_refl _, rfl, fun _ => ⟨_, rfl, by simp, fun j x hx => ?_⟩⟩
  have := (Go.Joins.cell_of_block (w := W.alloc (.cells #[.int .i64 p, .int .i64 q] T)) (heap_alloc_new W _) j)
  rw [show ((⟨W.heap.size, 0, none⟩ : Addr).add j) = ⟨W.heap.size, j, none⟩ by unfold Addr.add; split <;> simp_all]
  rw [this]; simpa [vals] using hx
/-- the two checks of the event that sets a link, as the check of the link -/
theorem chk_two (n u v x y z t : Int) (h0 : 0 ≤ u) (h1 : u < v) (h2 : v < n) (hn : n ≤ 64) : orL [chkE ⟨1, 0, u, v, x, y, z⟩, chkE ⟨1, t, u, v, x, y, z⟩] = Ls.chkLk n ⟨u, v, x, y, z, t⟩ := by
  have hnod : ∀ t, nodesB ⟨1, t, u, v, x, y, z⟩ = true := by intro t; simp [nodesB, okN]; omega
  have hat : ∀ t, attrB ⟨1, t, u, v, x, y, z⟩ = attrB ⟨1, 0, 0, 0, x, y, z⟩ := fun t => by simp [attrB]
  unfold Ls.chkLk
  rw [if_neg (by show ¬ (u < 0 ∨ v ≤ u ∨ n ≤ v); omega)]
  have e0 : chkE ⟨1, 0, u, v, x, y, z⟩ = if attrB ⟨1, 0, 0, 0, x, y, z⟩ = false then 1 else 0 := by
    unfold chkE
    rw [if_neg (by simp), if_neg (by simp), if_neg (by rw [hnod]; decide), hat]
  have e1 : chkE ⟨1, t, u, v, x, y, z⟩ = if t < 0 ∨ 1048576 < t then 9 else if attrB ⟨1, 0, 0, 0, x, y, z⟩ = false then 1 else 0 := by
    unfold chkE
    rw [if_neg (by simp)]
    simp only [hnod, hat]
    simp
  rw [e0, e1]
  show orL _ = if attrB ⟨1, 0, 0, 0, x, y, z⟩ = false then 1 else if t < 0 ∨ 1048576 < t then 9 else 0
  cases attrB ⟨1, 0, 0, 0, x, y, z⟩ <;> by_cases ht : t < 0 ∨ 1048576 < t <;> simp [orL, ht]
set_option maxHeartbeats 2000000 in
set_option maxRecDepth 100000 in
theorem checkLink_any (n u v x y z t : Int) (hn : n ≤ 64) (w : World) : Calls Try.prog 32 #[.int .i64 n, .agg #[.int .i64 u, .int .i64 v, .int .i64 x, .int .i64 y, .int .i64 z, .int .i64 t]] w fun e w' => e = .returned (.int .i64 (Ls.chkLk n ⟨u, v, x, y, z, t⟩)) ∧ Below w.heap.size w w' := by
  by_cases hbad : u < 0 ∨ v ≤ u ∨ n ≤ v
  · have HR := Lib.hid (show Ls.chkLk n ⟨u, v, x, y, z, t⟩ = 6 by unfold Ls.chkLk; rw [if_pos hbad])
    have HB := Lib.hid (below_new w (.cells #[.int .i64 u, .int .i64 v, .int .i64 x, .int .i64 y, .int .i64 z, .int .i64 t] 62))
    rcases (by omega : u < 0 ∨ (0 ≤ u ∧ v ≤ u) ∨ (0 ≤ u ∧ u < v ∧ n ≤ v)) with h1 | ⟨h1, h2⟩ | ⟨h1, h2, h3⟩
    all_goals
      clear hbad
      go_enter Try.func32, Try.ntmps32
      go_wp2
      go_ret
      exact ⟨ret_int HR.out.symm, HB.out⟩
  · have h1 : 0 ≤ u := by omega
    have h2 : u < v := by omega
    have h3 : v < n := by omega
    have HR := Lib.hid (chk_two n u v x y z t h1 h2 h3 hn)
    clear hbad
    have C0 := Lib.hid (fun w => check_anyE 1 0 u v x y z w)
    have C1 := Lib.hid (fun w => check_anyE 1 t u v x y z w)
    generalize chkE ⟨1, 0, u, v, x, y, z⟩ = p at HR C0
    generalize chkE ⟨1, t, u, v, x, y, z⟩ = q at HR C1
    have CS := Lib.hid (fun w => setOf_any u v x y z t w)
    go_enter Try.func32, Try.ntmps32
    go_wp2_with fail
    refine (CS.out _).mono ?_
    rintro e w1 ⟨rfl, hb⟩
    have HB := Lib.hid ((below_new w _).trans (hb.mono (by simp)))
    clear hb
    go_wp2
    have HC : Hid (Below w.heap.size w ((w1.alloc (.cells #[.int .i64 1, .int .i64 t, .int .i64 u, .int .i64 v, .int .i64 x, .int .i64 y, .int .i64 z] 26)).alloc (.cells #[.int .i64 1, .int .i64 0, .int .i64 u, .int .i64 v, .int .i64 x, .int .i64 y, .int .i64 z] 26))) := (HB.out.alloc HB.out.size _).alloc (by have := HB.out.size; simp; omega) _
    refine wp_region_over_tail 4 (by kernel_rfl) (by kernel_rfl) ?_
    simp only [List.take_succ_cons, List.take_zero, List.drop_succ_cons, List.drop_zero]
    repeat (go_big_quiet_step (first | (go_at_call 51; first | with_reducible exact calls_over (C0.out _) | with_reducible exact calls_over (C1.out _))))
    refine wpQuiet_nil ?_
    rintro _ ⟨xx, rfl⟩
    have hbx := Lib.hid (over_below _ xx)
    generalize over _ xx = wx at hbx ⊢
    go_wp2_with fail
    have C51 := orE_any _ 2 [p, q] _ (RD_newT wx p q 36) (by simp)
    refine C51.mono ?_
    rintro e w' ⟨rfl, rfl⟩
    rw [HR.out]
    go_wp2
    go_ret
    exact ⟨rfl, (HC.out.trans (hbx.out.mono HC.out.size)).alloc (by have := HC.out.size; have := hbx.out.size; omega) _⟩
end Go.Proofs.Ytagkpkkbkeefbaa
