/-
  The order of lists, equality, the fronts of two lists.
-/
import Derived.Test.YtioohmhllajifaaNc
namespace Go.Proofs.Ytioohmhllajifaa
open Go.RowKit

theorem cm_step (a b : List Int) (x y : Int) (k : Nat) (h1 : a[k]? = some x) (h2 : b[k]? = some y) :
    Ns.cm (a.drop k) (b.drop k) = if x < y then -1 else if y < x then 1 else Ns.cm (a.drop (k + 1)) (b.drop (k + 1)) := by
  rw [drop_at a x k h1, drop_at b y k h2]; rfl
theorem cm_left (a b : List Int) (k : Nat) (h1 : k < a.length) (h2 : b.length ≤ k) : Ns.cm (a.drop k) (b.drop k) = 1 := by
  rw [List.drop_eq_getElem_cons h1, List.drop_eq_nil_of_le h2]; rfl
theorem cm_end (a b : List Int) (k : Nat) (h1 : a.length ≤ k) : Ns.cm (a.drop k) (b.drop k) = if k < b.length then -1 else 0 := by
  rw [List.drop_eq_nil_of_le h1]
  split
  · next h => rw [List.drop_eq_getElem_cons h]; rfl
  · next h => rw [List.drop_eq_nil_of_le (by omega)]; rfl
theorem cm_len (a b : List Int) (k : Nat) (hk : k ≤ a.length) (h1 : a.length ≤ k) (_hkb : k ≤ b.length) : Ns.cm (a.drop k) (b.drop k) = if a.length < b.length then -1 else 0 := by
  rw [cm_end a b k h1, show k = a.length by omega]

theorem compareInt_lt (x y : Int) (h : x < y) : Lib.compareInt x y = -1 := by simp [Lib.compareInt, h]
theorem compareInt_gt (x y : Int) (h : y < x) : Lib.compareInt x y = 1 := by simp [Lib.compareInt, h, show ¬ x < y by omega]
theorem compareInt_eq (x : Int) : Lib.compareInt x x = 0 := by simp [Lib.compareInt]



theorem draws2 (w : World) (a b : Nat) : ∃ m, (w.drewN a).drewN b = w.drewN m := ⟨_, World.drewN_drewN _ _ _⟩
theorem draws3 (w : World) (a b c : Nat) : ∃ m, ((w.drewN a).drewN b).drewN c = w.drewN m := ⟨_, by rw [World.drewN_drewN, World.drewN_drewN]⟩

theorem below_drewN (w : World) (n : Nat) : Below w.heap.size w (w.drewN n) := ⟨rfl, rfl, rfl, Nat.le_refl _, fun _ _ => rfl⟩
def eqB (a b : List Int) : Bool := decide (a = b)
theorem eqB_len (a b : List Int) (h : a.length ≠ b.length) : eqB a b = false := by
  simp only [eqB, decide_eq_false_iff_not]; rintro rfl; exact h rfl
theorem eqB_cm (a b : List Int) : (Ns.cm a b == 0) = eqB a b := by
  rw [Bool.eq_iff_iff]; simp [eqB, Ns.cm_zero]


/-- the first elements of two sets that are not both empty -/
def fr : List Int → List Int → Int
  | [], _ => 1
  | _, [] => -1
  | x :: _, y :: _ => Lib.compareInt x y
set_option maxHeartbeats 400000 in
theorem fronts_any (A B : Option Addr) (c d : Nat) (a b : List Int) (w : World) (h : RD w A c a) (h' : RD w B d b) (hl : a.length ≤ 65536) (hl' : b.length ≤ 65536) :
    Calls Try.prog 88 #[.slice A a.length c, .slice B b.length d] w fun e w' => e = .returned (.int .i64 (fr a b)) ∧ ∃ n, w' = w.drewN n := by
  cases a with
  | nil =>
    go_enter Try.func88, Try.ntmps88
    go_wp2
    go_ret
    exact ⟨rfl, 0, rfl⟩
  | cons x a =>
    cases b with
    | nil =>
      go_enter Try.func88, Try.ntmps88
      go_wp2
      go_ret
      exact ⟨rfl, 0, rfl⟩
    | cons y b =>
      obtain ⟨ad, x', rfl, hb, hx, hcell⟩ := h.let_ (k := 0) (by simp)
      obtain ⟨ad', y', rfl, hb', hy, hcell'⟩ := h'.let_ (k := 0) (by simp)
      obtain rfl : x = x' := by simpa using hx
      obtain rfl : y = y' := by simpa using hy
      have hc0 : w.cell? ad = some (.int .i64 x) := hcell
      have hc0' : w.cell? ad' = some (.int .i64 y) := hcell'
      clear hcell hcell' hx hy
      go_enter Try.func88, Try.ntmps88
      go_wp2
      go_quiet ((go_at_call 52; exact Calls.quiet_of_same (Try.cmp_Compare_int x y _)))
      go_wp2
      go_ret
      exact ⟨rfl, _, rfl⟩
end Go.Proofs.Ytioohmhllajifaa
