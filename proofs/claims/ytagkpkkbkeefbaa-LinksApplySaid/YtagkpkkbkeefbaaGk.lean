/-
  The reference's with: an edge goes into a list of edges.
-/
import Derived.Test.YtagkpkkbkeefbaaGj
namespace Go.Proofs.Ytagkpkkbkeefbaa
open Go.RowKit Go.Lib

/-- an edge put into a list of edges, as the reference does -/
def insE (e : Ed) : List Ed → List Ed
  | [] => [e]
  | x :: l => if bef x e = true then x :: insE e l else if x = e then x :: l else e :: x :: l
theorem insE_step (l : List Ed) (x y : Ed) (k : Nat) (h : l[k]? = some y) (hlt : bef y x = true) : l.take k ++ insE x (l.drop k) = l.take (k + 1) ++ insE x (l.drop (k + 1)) := by
  rw [drop_at_e l y k h, take_succ_e l y k h, List.append_assoc]
  congr 1
  show (if bef y x = true then _ else _) = _
  rw [if_pos hlt]; rfl
theorem insE_end (l : List Ed) (x : Ed) (k : Nat) (h : l.length ≤ k) : l.take k ++ insE x (l.drop k) = l.take k ++ [x] ++ l.drop k := by
  rw [List.drop_eq_nil_of_le h]; simp [insE]
theorem insE_same (l : List Ed) (x : Ed) (k : Nat) (h : l[k]? = some x) (hb : bef x x = false) : l.take k ++ insE x (l.drop k) = l := by
  rw [drop_at_e l x k h]
  show _ ++ (if bef x x = true then _ else if x = x then x :: l.drop (k + 1) else _) = _
  rw [if_neg (by simp [hb]), if_pos rfl, ← drop_at_e l x k h, List.take_append_drop]
theorem insE_here (l : List Ed) (x y : Ed) (k : Nat) (h : l[k]? = some y) (hb : bef y x = false) (hne : y ≠ x) : l.take k ++ insE x (l.drop k) = l.take k ++ [x] ++ l.drop k := by
  rw [drop_at_e l y k h]
  show _ ++ (if bef y x = true then _ else if y = x then _ else _) = _
  rw [if_neg (by simp [hb]), if_neg hne]; simp
theorem insE_len (e : Ed) (l : List Ed) : (insE e l).length ≤ l.length + 1 := by
  induction l with
  | nil => simp [insE]
  | cons x l ih => simp only [insE]; split <;> (try split) <;> simp <;> omega
/-- what a function that makes a list of edges answers -/
def GivesE (w : World) (A0 : Option Addr) (c0 : Nat) (l0 l : List Ed) (e : Ending) (w' : World) : Prop :=
  ∃ A c, e = .returned (.slice A l.length c) ∧ ((A = A0 ∧ c = c0 ∧ l = l0) ∨ w'.ownsRow w.heap.size 69 2 (.slice A l.length c) l.length (ev l)) ∧ Below w.heap.size w w'
theorem RE_nil' (B : Nat) (w : World) (A : Option Addr) (c : Nat) (l : List Ed) (h : l.length = 0) : RE B w A c l := by
  obtain rfl := List.eq_nil_of_length_eq_zero h
  exact RE.nil_ _ _ _ _






end Go.Proofs.Ytagkpkkbkeefbaa
