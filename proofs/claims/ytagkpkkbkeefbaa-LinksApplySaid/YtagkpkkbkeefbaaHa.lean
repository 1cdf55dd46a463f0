/-
  The small functions of package graph: numbers and edges; cmp.Or.
-/
import Derived.Test.YtagkpkkbkeefbaaGn
import Derived.Deep.Draws
import Derived.Sort.Grow
namespace Go.Proofs.Ytagkpkkbkeefbaa
open Go.RowKit Go.Lib Go.Sort

def cntB (n : Int) : Bool := decide (0 ≤ n) && decide (n ≤ 64)
theorem cnt_any (n : Int) (w : World) : Calls Try.prog 61 #[.int .i64 n] w fun e w' => e = .returned (.bool (cntB n)) ∧ w = w' := by
  by_cases h1 : 0 ≤ n
  · by_cases h2 : n ≤ 64
    · have HR := Lib.hid (show cntB n = true by simp [cntB, h1, h2])
      go_enter Try.func61, Try.ntmps61
      go_wp2
      go_ret
      exact ⟨ret_bool HR.out.symm, rfl⟩
    · have HR := Lib.hid (show cntB n = false by simp [cntB, h2])
      go_enter Try.func61, Try.ntmps61
      go_wp2
      go_ret
      exact ⟨ret_bool HR.out.symm, rfl⟩
  · have HR := Lib.hid (show cntB n = false by simp [cntB, h1])
    go_enter Try.func61, Try.ntmps61
    go_wp2
    go_ret
    exact ⟨ret_bool HR.out.symm, rfl⟩

def nodB (n v : Int) : Bool := decide (0 ≤ v) && decide (v < n)
theorem nod_any (n v : Int) (w : World) : Calls Try.prog 73 #[.int .i64 n, .int .i64 v] w fun e w' => e = .returned (.bool (nodB n v)) ∧ w = w' := by
  by_cases h1 : 0 ≤ v
  · by_cases h2 : v < n
    · have HR := Lib.hid (show nodB n v = true by simp [nodB, h1, h2])
      go_enter Try.func73, Try.ntmps73
      go_wp2
      go_ret
      exact ⟨ret_bool HR.out.symm, rfl⟩
    · have HR := Lib.hid (show nodB n v = false by simp [nodB, h2])
      go_enter Try.func73, Try.ntmps73
      go_wp2
      go_ret
      exact ⟨ret_bool HR.out.symm, rfl⟩
  · have HR := Lib.hid (show nodB n v = false by simp [nodB, h1])
    go_enter Try.func73, Try.ntmps73
    go_wp2
    go_ret
    exact ⟨ret_bool HR.out.symm, rfl⟩

theorem endsB_nod (n u v : Int) : endsB n u v = (!decide (u = v) && nodB n u && nodB n v) := by
  unfold endsB nodB
  by_cases h1 : 0 ≤ u <;> by_cases h2 : 0 ≤ v <;> by_cases h3 : u < n <;> by_cases h4 : v < n <;> by_cases h5 : u = v <;> simp [h1, h2, h3, h4, h5]
theorem joined_any (n u v : Int) (w : World) : Calls Try.prog 62 #[.int .i64 n, .int .i64 u, .int .i64 v] w fun e w' => e = .returned (.bool (endsB n u v)) ∧ w = w' := by
  have HE := Lib.hid (endsB_nod n u v)
  have CU := nod_any n u
  have CV := nod_any n v
  generalize nodB n u = p at HE CU
  generalize nodB n v = q at HE CV
  by_cases h : u = v
  · have HR := Lib.hid (show endsB n u v = false by rw [HE.out]; simp [h])
    have hd : (u != v) = false := by simp [h]
    clear h HE CU CV
    go_enter Try.func62, Try.ntmps62
    go_wp2
    go_ret
    exact ⟨ret_bool HR.out.symm, rfl⟩
  · have hd : (u != v) = true := by simp [h]
    have H := Lib.hid h
    cases p
    · have HR := Lib.hid (show endsB n u v = false by rw [HE.out]; simp)
      clear h HE CV
      have HC := Lib.hid CU
      clear CU
      go_enter Try.func62, Try.ntmps62
      go_wp2_with (go_at_call 73; refine (HC.out _).mono ?_; rintro e w' ⟨rfl, rfl⟩)
      go_ret
      exact ⟨ret_bool HR.out.symm, rfl⟩
    · have HR := Lib.hid (show endsB n u v = q by rw [HE.out]; simp [h])
      clear h HE
      have HC := Lib.hid CU
      have HD := Lib.hid CV
      clear CU CV
      go_enter Try.func62, Try.ntmps62
      go_wp2_with fail
      refine (HC.out _).mono ?_
      rintro e w' ⟨rfl, rfl⟩
      go_wp2_with fail
      refine (HD.out _).mono ?_
      rintro e w' ⟨rfl, rfl⟩
      go_wp2
      all_goals
        go_ret
        exact ⟨ret_bool HR.out.symm, rfl⟩

theorem between_any (u v : Int) (w : World) : Calls Try.prog 63 #[.int .i64 u, .int .i64 v] w fun e w' => e = .returned (.agg #[.int .i64 (min u v), .int .i64 (max u v)]) ∧ Below w.heap.size w w' := by
  go_enter Try.func63, Try.ntmps63
  go_wp2
  all_goals exact bodyPost_ret (v := .agg #[.int .i64 (min u v), .int .i64 (max u v)]) (by simp [results, Try.results63, go_sem] <;> omega) rfl ⟨rfl, (Below.refl _ _).alloc (Nat.le_refl _) _⟩

/-- the first number that is not 0 -/
def orL : List Int → Int
  | [] => 0
  | x :: l => if x = 0 then orL l else x
theorem or_any (A : Option Addr) (c : Nat) (l : List Int) (w : World) (h : RD w A c l) (hl : l.length ≤ 65536) :
    Calls Try.prog 52 #[.slice A l.length c] w fun e w' => e = .returned (.int .i64 (orL l)) ∧ w = w' := by
  go_enter Try.func52, Try.ntmps52
  go_wp2
  go_loop [8] (fun i => ∃ k : Nat, k ≤ l.length ∧ i = .int .i64 k ∧ Hid (orL l = orL (l.drop k))) (fun i => l.length - (RowKit.intOf i).toNat)
  case atStart => exact ⟨0, Nat.zero_le _, rfl, rfl⟩
  case round =>
    obtain ⟨k, hk, rfl, HN⟩ := hrel
    by_cases hlt : k < l.length
    · obtain ⟨ad, y, rfl, hb, hy, hcell⟩ := h.let_ hlt
      have HD : Hid (l.drop k = y :: l.drop (k + 1)) := by
        show _ = _
        obtain ⟨hk, rfl⟩ := List.getElem?_eq_some_iff.1 hy
        exact List.drop_eq_getElem_cons hk
      clear hy
      by_cases he : y = 0
      · have hd : (y != 0) = false := by simpa using he
        have HR : Hid (orL l = orL (l.drop (k + 1))) := by show _ = _; rw [HN.out, HD.out, orL, if_pos he]
        subst he
        go_wp2
        go_round
        case rel => exact ⟨k + 1, by omega, by go_num, HR.out⟩
        case measure => simp [RowKit.intOf]; omega
      · have hd : (y != 0) = true := by simpa using he
        have HR : Hid (orL l = y) := by show _ = _; rw [HN.out, HD.out, orL, if_neg he]
        clear he
        go_wp2
        go_ret
        exact ⟨ret_int HR.out.symm, rfl⟩
    · have HR : Hid (orL l = 0) := by show _ = _; rw [HN.out, List.drop_eq_nil_of_le (by omega)]; rfl
      go_wp2
      go_ret
      exact ⟨ret_int HR.out.symm, rfl⟩

theorem RD_new2 (W : World) (p q : Int) : RD (W.alloc (.cells #[.int .i64 p, .int .i64 q] 3)) (some ⟨W.heap.size, 0, none⟩) 2 [p, q] := by
  refine ⟨Nat.le_refl _, rfl, fun _ => ⟨_, rfl, by simp, fun j x hx => ?_⟩⟩
  have := (Go.Joins.cell_of_block (w := W.alloc (.cells #[.int .i64 p, .int .i64 q] 3)) (heap_alloc_new W _) j)
  rw [show ((⟨W.heap.size, 0, none⟩ : Addr).add j) = ⟨W.heap.size, j, none⟩ by unfold Addr.add; split <;> simp_all]
  rw [this]; simpa [vals] using hx

variable {P : Program}
theorem wp_region_drew_tail {id : Nat} {Q : Exit → Act → World → Prop} {a : Act} {w : World} {l : List Oper} (n : Nat) (hm : P.follows .mixedOrders = true) (hB : Region.lexTailB .any l.toArray n = true)
    (h : wpQuiet P l.toArray (fun w' => ∃ k : Nat, w' = w.drewN k) (fun a' => ∀ w', (∃ k : Nat, w' = w.drewN k) → wpList P l.toArray Q (l.drop n) a' w') (l.take n) a) : (Code.region id l.toArray true).wp P Q a w :=
  wp_region_quiet_tail (C := fun w' => ∃ k : Nat, w' = w.drewN k) n hm hB ⟨1, rfl⟩ h

/-- the order of edges -/
def cmpE (a b : Ed) : Int := orL [Lib.compareInt a.1 b.1, Lib.compareInt a.2 b.2]
set_option maxHeartbeats 1000000 in
theorem cmpE_grow (u v x y : Int) (w : World) : Calls Try.prog 65 #[.agg #[.int .i64 u, .int .i64 v], .agg #[.int .i64 x, .int .i64 y]] w fun e w' => e = .returned (.int .i64 (cmpE (u, v) (x, y))) ∧ ∃ q os, w' = grow (w.drewN q) os := by
  have HR := Lib.hid (show cmpE (u, v) (x, y) = orL [Lib.compareInt u x, Lib.compareInt v y] from rfl)
  have C1 := Lib.hid (fun W => Try.cmp_Compare_int u x W)
  have C2 := Lib.hid (fun W => Try.cmp_Compare_int v y W)
  generalize Lib.compareInt u x = p at HR C1
  generalize Lib.compareInt v y = q at HR C2
  go_enter Try.func65, Try.ntmps65
  go_wp2
  refine wp_region_drew_tail 10 (by kernel_rfl) (by kernel_rfl) ?_
  simp only [List.take_succ_cons, List.take_zero, List.drop_succ_cons, List.drop_zero]
  repeat (go_big_quiet_step (first | (go_at_call 53; first | with_reducible exact Calls.quiet_of_same (C1.out _) | with_reducible exact Calls.quiet_of_same (C2.out _))))
  refine wpQuiet_nil ?_
  rintro _ ⟨k, rfl⟩
  have C51 : Hid (∀ (W : World) (g : Nat), W.heap.size = g → Calls Try.prog 52 #[.slice (some ⟨g, 0, none⟩) 2 2] (W.alloc (.cells #[.int .i64 p, .int .i64 q] 3)) fun e w' => e = .returned (.int .i64 (orL [p, q])) ∧ W.alloc (.cells #[.int .i64 p, .int .i64 q] 3) = w') := by
    intro W g hg
    subst hg
    exact or_any _ 2 [p, q] _ (RD_new2 W p q) (by simp)
  go_wp2_with fail
  refine (C51.out _ _ (by simp)).mono ?_
  rintro e w' ⟨rfl, rfl⟩
  rw [← HR.out]
  go_wp2
  go_ret
  exact ⟨rfl, k, #[.cells #[.int .i64 u, .int .i64 v] 69, .cells #[.int .i64 x, .int .i64 y] 69, .cells #[.int .i64 p, .int .i64 q] 3], by
    simp only [alloc_eq_grow]
    show grow (grow (grow (w.drewN k) _) _) _ = _
    rw [grow_grow, grow_grow]; rfl⟩
end Go.Proofs.Ytagkpkkbkeefbaa
