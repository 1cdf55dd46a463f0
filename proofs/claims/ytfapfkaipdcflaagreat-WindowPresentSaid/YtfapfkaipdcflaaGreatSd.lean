/-
  Comparisons: cmp.Compare, cmp.Or; the order of links by age, that of events by edge.
-/
import Derived.Test.YtfapfkaipdcflaaGreatRb
import Derived.Test.YtfapfkaipdcflaaGreatIn
import Derived.Deep.Draws
import Derived.Sort.Grow
import Derived.Lib.Small
namespace Go.Proofs.YtfapfkaipdcflaaGreat
open Go.RowKit Go.Lib Go.Sort

theorem ret_int {a b : Int} (h : a = b) : Ending.returned (.int .i64 a) = .returned (.int .i64 b) := by rw [h]
theorem nanC (x : Int) (w : World) : Calls Tryz.prog 92 #[.int .i64 x] w fun e w' => e = .returned (.bool false) ∧ w = w' := by
  have h : (x != x) = false := by simp
  go_enter Tryz.func92, Tryz.ntmps92
  go_wp2
  go_ret
  exact ⟨rfl, rfl⟩
theorem cmpC (x y : Int) (w : World) : Calls Tryz.prog 76 #[.int .i64 x, .int .i64 y] w fun e w' => e = .returned (.int .i64 (Lib.compareInt x y)) ∧ w' = w := by
  obtain ⟨R, HR⟩ : ∃ R, Hid (Lib.compareInt x y = R) := ⟨_, rfl⟩
  rw [HR.out]
  go_enter Tryz.func76, Tryz.ntmps76
  go_wp2_with (go_at_call 92; refine (nanC _ _).mono ?_; rintro e w' ⟨rfl, rfl⟩)
  all_goals (go_ret; refine ⟨ret_intN ?_, rfl⟩; rw [← HR.out]; clear HR; simp_all [Lib.compareInt]; try omega)
theorem compareInt_lt (a b : Int) (h : a < b) : Lib.compareInt a b = -1 := by simp [Lib.compareInt, h]
theorem compareInt_eq (a : Int) : Lib.compareInt a a = 0 := by simp [Lib.compareInt]
theorem compareInt_gt (a b : Int) (h : b < a) : Lib.compareInt a b = 1 := by
  unfold Lib.compareInt
  rw [if_neg (by omega), if_pos h]
/-- the first number that is not 0 -/
def orL : List Int → Int
  | [] => 0
  | x :: l => if x = 0 then orL l else x
theorem or_any (A : Option Addr) (c : Nat) (l : List Int) (w : World) (h : RD w A c l) (hl : l.length ≤ 65536) :
    Calls Tryz.prog 75 #[.slice A l.length c] w fun e w' => e = .returned (.int .i64 (orL l)) ∧ w = w' := by
  go_enter Tryz.func75, Tryz.ntmps75
  go_wp2
  go_loop [8] (fun i => ∃ k : Nat, k ≤ l.length ∧ i = .int .i64 k ∧ Hid (orL l = orL (l.drop k))) (fun i => l.length - (RowKit.intOf i).toNat)
  case atStart => exact ⟨0, Nat.zero_le _, rfl, rfl⟩
  case round =>
    obtain ⟨k, hk, rfl, HN⟩ := hrel
    by_cases hlt : k < l.length
    · obtain ⟨ad, y, rfl, hb, hy, hcell⟩ := h.let_ hlt
      have HD : Hid (l.drop k = y :: l.drop (k + 1)) := by
        show _ = _
        obtain ⟨hk, rfl⟩ := List.getElem?_eq_some_iff.1 hy
        exact List.drop_eq_getElem_cons hk
      clear hy
      by_cases he : y = 0
      · have hd : (y != 0) = false := by simpa using he
        have HR : Hid (orL l = orL (l.drop (k + 1))) := by show _ = _; rw [HN.out, HD.out, orL, if_pos he]
        subst he
        go_wp2
        go_round
        case rel => exact ⟨k + 1, by omega, by go_num, HR.out⟩
        case measure => simp [RowKit.intOf]; omega
      · have hd : (y != 0) = true := by simpa using he
        have HR : Hid (orL l = y) := by show _ = _; rw [HN.out, HD.out, orL, if_neg he]
        clear he
        go_wp2
        go_ret
        exact ⟨ret_int HR.out.symm, rfl⟩
    · have HR : Hid (orL l = 0) := by show _ = _; rw [HN.out, List.drop_eq_nil_of_le (by omega)]; rfl
      go_wp2
      go_ret
      exact ⟨ret_int HR.out.symm, rfl⟩

theorem orE_any (A : Option Addr) (c : Nat) (l : List Int) (w : World) (h : RD w A c l) (hl : l.length ≤ 65536) :
    Calls Tryz.prog 34 #[.slice A l.length c] w fun e w' => e = .returned (.int .i64 (orL l)) ∧ w = w' := by
  go_enter Tryz.func34, Tryz.ntmps34
  go_wp2
  go_loop [8] (fun i => ∃ k : Nat, k ≤ l.length ∧ i = .int .i64 k ∧ Hid (orL l = orL (l.drop k))) (fun i => l.length - (RowKit.intOf i).toNat)
  case atStart => exact ⟨0, Nat.zero_le _, rfl, rfl⟩
  case round =>
    obtain ⟨k, hk, rfl, HN⟩ := hrel
    by_cases hlt : k < l.length
    · obtain ⟨ad, y, rfl, hb, hy, hcell⟩ := h.let_ hlt
      have HD : Hid (l.drop k = y :: l.drop (k + 1)) := by
        show _ = _
        obtain ⟨hk, rfl⟩ := List.getElem?_eq_some_iff.1 hy
        exact List.drop_eq_getElem_cons hk
      clear hy
      by_cases he : y = 0
      · have hd : (y != 0) = false := by simpa using he
        have HR : Hid (orL l = orL (l.drop (k + 1))) := by show _ = _; rw [HN.out, HD.out, orL, if_pos he]
        subst he
        go_wp2
        go_round
        case rel => exact ⟨k + 1, by omega, by go_num, HR.out⟩
        case measure => simp [RowKit.intOf]; omega
      · have hd : (y != 0) = true := by simpa using he
        have HR : Hid (orL l = y) := by show _ = _; rw [HN.out, HD.out, orL, if_neg he]
        clear he
        go_wp2
        go_ret
        exact ⟨ret_int HR.out.symm, rfl⟩
    · have HR : Hid (orL l = 0) := by show _ = _; rw [HN.out, List.drop_eq_nil_of_le (by omega)]; rfl
      go_wp2
      go_ret
      exact ⟨ret_int HR.out.symm, rfl⟩
theorem RD_newL (W : World) (l : List Int) (T : TypeId) : RD (W.alloc (.cells (vals l).toArray T)) (some ⟨W.heap.size, 0, none⟩) l.length l := by
  refine ⟨Nat.le_refl _, by simp [vals], fun _ => ⟨_, rfl, by simp, fun j x hx => ?_⟩⟩
  have := (Go.Joins.cell_of_block (w := W.alloc (.cells (vals l).toArray T)) (heap_alloc_new W _) j)
  rw [show ((⟨W.heap.size, 0, none⟩ : Addr).add j) = ⟨W.heap.size, j, none⟩ by unfold Addr.add; split <;> simp_all]
  rw [this]; simpa using hx
variable {P : Program}
theorem wp_region_drew_tail {id : Nat} {Q : Exit → Act → World → Prop} {a : Act} {w : World} {l : List Oper} (n : Nat) (hm : P.follows .mixedOrders = true) (hB : Region.lexTailB .any l.toArray n = true)
    (h : wpQuiet P l.toArray (fun w' => ∃ k : Nat, w' = w.drewN k) (fun a' => ∀ w', (∃ k : Nat, w' = w.drewN k) → wpList P l.toArray Q (l.drop n) a' w') (l.take n) a) : (Code.region id l.toArray true).wp P Q a w :=
  wp_region_quiet_tail (C := fun w' => ∃ k : Nat, w' = w.drewN k) n hm hB ⟨1, rfl⟩ h


/-- the order of links by age: by time, then by edge -/
def cmpA (a b : Ls.Lk) : Int := orL [Lib.compareInt a.time b.time, Lib.compareInt a.u b.u, Lib.compareInt a.v b.v]
/-- the order of events by edge -/
def cmpV (a b : Ev) : Int := orL [Lib.compareInt a.u b.u, Lib.compareInt a.v b.v]
set_option maxHeartbeats 1000000 in
theorem cmpA_grow (u v x y z t u' v' x' y' z' t' : Int) (w : World) : Calls Tryz.prog 59 #[.agg #[.int .i64 u, .int .i64 v, .int .i64 x, .int .i64 y, .int .i64 z, .int .i64 t], .agg #[.int .i64 u', .int .i64 v', .int .i64 x', .int .i64 y', .int .i64 z', .int .i64 t']] w fun e w' => e = .returned (.int .i64 (cmpA ⟨u, v, x, y, z, t⟩ ⟨u', v', x', y', z', t'⟩)) ∧ ∃ q os, w' = grow (w.drewN q) os := by
  have HR := Lib.hid (show cmpA ⟨u, v, x, y, z, t⟩ ⟨u', v', x', y', z', t'⟩ = orL [Lib.compareInt t t', Lib.compareInt u u', Lib.compareInt v v'] from rfl)
  have C1 := Lib.hid (fun W => cmpC t t' W)
  have C2 := Lib.hid (fun W => cmpC u u' W)
  have C3 := Lib.hid (fun W => cmpC v v' W)
  generalize Lib.compareInt t t' = p at HR C1
  generalize Lib.compareInt u u' = q at HR C2
  generalize Lib.compareInt v v' = r at HR C3
  go_enter Tryz.func59, Tryz.ntmps59
  go_wp2
  refine wp_region_drew_tail 15 (by kernel_rfl) (by kernel_rfl) ?_
  simp only [List.take_succ_cons, List.take_zero, List.drop_succ_cons, List.drop_zero]
  repeat (go_big_quiet_step (first | (go_at_call 76; first | with_reducible exact Calls.quiet_of_same (C1.out _) | with_reducible exact Calls.quiet_of_same (C2.out _) | with_reducible exact Calls.quiet_of_same (C3.out _))))
  refine wpQuiet_nil ?_
  rintro _ ⟨k, rfl⟩
  have C51 : Hid (∀ (W : World) (g : Nat), W.heap.size = g → Calls Tryz.prog 75 #[.slice (some ⟨g, 0, none⟩) 3 3] (W.alloc (.cells #[.int .i64 p, .int .i64 q, .int .i64 r] 3)) fun e w' => e = .returned (.int .i64 (orL [p, q, r])) ∧ W.alloc (.cells #[.int .i64 p, .int .i64 q, .int .i64 r] 3) = w') := by
    intro W g hg
    subst hg
    exact or_any _ 3 [p, q, r] _ (RD_newL W [p, q, r] 3) (by simp)
  go_wp2_with fail
  refine (C51.out _ _ (by simp)).mono ?_
  rintro e w' ⟨rfl, rfl⟩
  rw [← HR.out]
  go_wp2
  go_ret
  exact ⟨rfl, k, #[.cells #[.int .i64 u, .int .i64 v, .int .i64 x, .int .i64 y, .int .i64 z, .int .i64 t] 62, .cells #[.int .i64 u', .int .i64 v', .int .i64 x', .int .i64 y', .int .i64 z', .int .i64 t'] 62, .cells #[.int .i64 p, .int .i64 q, .int .i64 r] 3], by
    simp only [alloc_eq_grow]
    show grow (grow (grow (w.drewN k) _) _) _ = _
    rw [grow_grow, grow_grow]; rfl⟩
set_option maxHeartbeats 1000000 in
theorem cmpV_grow (j s u v x y z j' s' u' v' x' y' z' : Int) (w : World) : Calls Tryz.prog 62 #[.agg #[.int .i64 j, .int .i64 s, .int .i64 u, .int .i64 v, .int .i64 x, .int .i64 y, .int .i64 z], .agg #[.int .i64 j', .int .i64 s', .int .i64 u', .int .i64 v', .int .i64 x', .int .i64 y', .int .i64 z']] w fun e w' => e = .returned (.int .i64 (cmpV ⟨j, s, u, v, x, y, z⟩ ⟨j', s', u', v', x', y', z'⟩)) ∧ ∃ q os, w' = grow (w.drewN q) os := by
  have HR := Lib.hid (show cmpV ⟨j, s, u, v, x, y, z⟩ ⟨j', s', u', v', x', y', z'⟩ = orL [Lib.compareInt u u', Lib.compareInt v v'] from rfl)
  have C1 := Lib.hid (fun W => cmpC u u' W)
  have C2 := Lib.hid (fun W => cmpC v v' W)
  generalize Lib.compareInt u u' = p at HR C1
  generalize Lib.compareInt v v' = q at HR C2
  go_enter Tryz.func62, Tryz.ntmps62
  go_wp2
  refine wp_region_drew_tail 10 (by kernel_rfl) (by kernel_rfl) ?_
  simp only [List.take_succ_cons, List.take_zero, List.drop_succ_cons, List.drop_zero]
  repeat (go_big_quiet_step (first | (go_at_call 76; first | with_reducible exact Calls.quiet_of_same (C1.out _) | with_reducible exact Calls.quiet_of_same (C2.out _))))
  refine wpQuiet_nil ?_
  rintro _ ⟨k, rfl⟩
  have C51 : Hid (∀ (W : World) (g : Nat), W.heap.size = g → Calls Tryz.prog 75 #[.slice (some ⟨g, 0, none⟩) 2 2] (W.alloc (.cells #[.int .i64 p, .int .i64 q] 3)) fun e w' => e = .returned (.int .i64 (orL [p, q])) ∧ W.alloc (.cells #[.int .i64 p, .int .i64 q] 3) = w') := by
    intro W g hg
    subst hg
    exact or_any _ 2 [p, q] _ (RD_newL W [p, q] 3) (by simp)
  go_wp2_with fail
  refine (C51.out _ _ (by simp)).mono ?_
  rintro e w' ⟨rfl, rfl⟩
  rw [← HR.out]
  go_wp2
  go_ret
  exact ⟨rfl, k, #[.cells #[.int .i64 j, .int .i64 s, .int .i64 u, .int .i64 v, .int .i64 x, .int .i64 y, .int .i64 z] 57, .cells #[.int .i64 j', .int .i64 s', .int .i64 u', .int .i64 v', .int .i64 x', .int .i64 y', .int .i64 z'] 57, .cells #[.int .i64 p, .int .i64 q] 3], by
    simp only [alloc_eq_grow]
    show grow (grow (grow (w.drewN k) _) _) _ = _
    rw [grow_grow, grow_grow]; rfl⟩
theorem below_growN (w : World) (q : Nat) (os : Array Obj) : Below w.heap.size w (grow (w.drewN q) os) :=
  ⟨rfl, rfl, rfl, by simp [grow], fun i hi => by simp [grow, Array.getElem?_append_left hi]⟩
end Go.Proofs.YtfapfkaipdcflaaGreat
