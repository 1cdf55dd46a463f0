/-
  The reference's Inside and Of.
-/
import Derived.Test.YtagkpkkbkeefbaaGk
namespace Go.Proofs.Ytagkpkkbkeefbaa
open Go.RowKit Go.Lib

/-- what a function that makes a graph answers, where its list is only read behind it -/
def GivesR (w : World) (n : Int) (l : List Ed) (err : Int) (e : Ending) (w' : World) : Prop :=
  ∃ A c, e = .returned (.tuple #[.agg #[.int .i64 n, .slice A l.length c], .int .i64 err]) ∧ RE w'.heap.size w' A c l ∧ Below w.heap.size w w'
theorem GivesG.r {w w' : World} {n : Int} {l : List Ed} {err : Int} {e : Ending} (h : GivesG w n l err e w') : GivesR w n l err e w' := by
  obtain ⟨A, c, h1, h2, h3⟩ := h
  exact ⟨A, c, h1, RE.of_own h2, h3⟩

/-- the edges inside of a set, or none -/
def insL (n : Int) (l : List Ed) (S : List Int) : List Ed := if chk n l = 0 then ind l S else []

def ofl (l : List Ed) : List Ed := l.foldl (fun s e => insE (edg e.1 e.2) s) []
def allE (n : Int) (l : List Ed) : Bool := l.all fun e => endsB n e.1 e.2
def ofe (n : Int) (l : List Ed) : Int := if n < 0 ∨ 64 < n then 1 else if allE n l = true then 0 else 6
theorem ofl_succ (l : List Ed) (x y : Int) (k : Nat) (h : l[k]? = some (x, y)) : ofl (l.take (k + 1)) = insE (min x y, max x y) (ofl (l.take k)) := by
  rw [take_succ_e l _ k h]; unfold ofl; rw [List.foldl_append]; rfl
theorem allE_succ (n : Int) (l : List Ed) (x y : Int) (k : Nat) (h : l[k]? = some (x, y)) (h1 : allE n (l.take k) = true) (h2 : endsB n x y = true) : allE n (l.take (k + 1)) = true := by
  rw [take_succ_e l _ k h]; unfold allE at *; rw [List.all_append, h1]; simp [h2]
theorem allE_no (n : Int) (l : List Ed) (x y : Int) (k : Nat) (h : l[k]? = some (x, y)) (h2 : endsB n x y = false) : allE n l = false := by
  cases hq : allE n l with
  | false => rfl
  | true =>
    have := List.all_eq_true.mp hq (x, y) (List.mem_of_getElem? h)
    rw [h2] at this; cases this
end Go.Proofs.Ytagkpkkbkeefbaa
