/-
  The reference's Induced and Inside.
-/
import Derived.Test.YtagkpkkbkeefbaaGn
namespace Go.Proofs.Ytagkpkkbkeefbaa
open Go.RowKit Go.Lib

/-- the state while a graph is made in a local variable (block g7), the result's cell being block g4 -/
structure IS (w : World) (g4 g7 : Nat) (n : Int) (A2 : Option Addr) (c2 : Nat) (ks : List Ed) (wr : World) : Prop where
  b4 : wr.heap[g4]? = some (.cells #[.int .i64 0, .slice none 0 0] 54)
  b7 : wr.heap[g7]? = some (.cells #[.int .i64 n, .slice A2 ks.length c2] 54)
  own : wr.ownsRow (g7 + 1) 69 2 (.slice A2 ks.length c2) ks.length (ev ks)
  bel : Below w.heap.size w wr
  l4 : w.heap.size ≤ g4
  l7 : g4 < g7
section
variable {w : World} {g4 g7 : Nat} {n : Int} {A2 : Option Addr} {c2 : Nat} {ks : List Ed} {wr : World}
theorem IS.lt (h : IS w g4 g7 n A2 c2 ks wr) : g7 < wr.heap.size := lt_of_some h.b7
theorem IS.alloc (h : IS w g4 g7 n A2 c2 ks wr) (o : Obj) : IS w g4 g7 n A2 c2 ks (wr.alloc o) :=
  ⟨(Below.heap_alloc wr o _ (lt_of_some h.b4)).trans h.b4, (Below.heap_alloc wr o _ h.lt).trans h.b7, h.own.alloc o, h.bel.alloc h.bel.size o, h.l4, h.l7⟩
theorem IS.c1 (h : IS w g4 g7 n A2 c2 ks wr) : wr.cell? ⟨g7, 1, none⟩ = some (.slice A2 ks.length c2) := Go.Joins.cell_of_block h.b7 1
theorem IS.c0 (h : IS w g4 g7 n A2 c2 ks wr) : wr.cell? ⟨g7, 0, none⟩ = some (.int .i64 n) := Go.Joins.cell_of_block h.b7 0
theorem IS.push {A3 : Option Addr} {c3 : Nat} {ks' : List Ed} {w3 : World} (h : IS w g4 g7 n A2 c2 ks wr) (ho : w3.ownsRow (g7 + 1) 69 2 (.slice A3 ks'.length c3) ks'.length (ev ks')) (hb : Below (g7 + 1) wr w3) :
    IS w g4 g7 n A3 c3 ks' (w3.setCell ⟨g7, 1, none⟩ (.slice A3 ks'.length c3)) := by
  have h4 := h.l4
  have h7 := h.l7
  have b7 : w3.heap[g7]? = some (.cells #[.int .i64 n, .slice A2 ks.length c2] 54) := (hb.block g7 (by omega)).trans h.b7
  have hw : Below w.heap.size w w3 := h.bel.trans ⟨hb.os, hb.tape, hb.output, hb.size, fun k hk => hb.block k (by omega)⟩
  refine ⟨(setCell_only _ (by omega)).trans ((hb.block _ (by omega)).trans h.b4), (setCell_two b7).2, ho.kept set_grown (.inr fun e => by have := (ho.lt _ e).1; omega), hw.setCell (by show w.heap.size ≤ g7; omega) _, h4, h7⟩
/-- behind the result's stores -/
theorem IS.fin (h : IS w g4 g7 n A2 c2 ks wr) (i j : Nat) (x y : Value) : ((wr.setCell ⟨g4, i, none⟩ x).setCell ⟨g4, j, none⟩ y).ownsRow (g4 + 1) 69 2 (.slice A2 ks.length c2) ks.length (ev ks) ∧ Below w.heap.size w ((wr.setCell ⟨g4, i, none⟩ x).setCell ⟨g4, j, none⟩ y) := by
  have h4 := h.l4
  have h7 := h.l7
  have o1 := h.own.kept (w' := wr.setCell ⟨g4, i, none⟩ x) set_grown (.inr fun e => by have := (h.own.lt _ e).1; omega)
  have o2 := o1.kept (w' := (wr.setCell ⟨g4, i, none⟩ x).setCell ⟨g4, j, none⟩ y) set_grown (.inr fun e => by have := (o1.lt _ e).1; omega)
  exact ⟨Go.Joins.ownsRow_le o2 (by omega), (h.bel.setCell h4 _).setCell h4 _⟩
end

def ins2 (S : List Int) (e : Ed) : Bool := hasB S e.1 && hasB S e.2
def ind (l : List Ed) (S : List Int) : List Ed := l.filter (ins2 S)
theorem filtE (p : Ed → Bool) (l : List Ed) (y : Ed) (k : Nat) (h : l[k]? = some y) : (l.take (k + 1)).filter p = (l.take k).filter p ++ (if p y then [y] else []) := by
  rw [take_succ_e l y k h, List.filter_append]; cases hp : p y <;> simp [hp]
/-- what a function that makes a graph answers: the graph and the error -/
def GivesG (w : World) (n : Int) (l : List Ed) (err : Int) (e : Ending) (w' : World) : Prop :=
  ∃ A c, e = .returned (.tuple #[.agg #[.int .i64 n, .slice A l.length c], .int .i64 err]) ∧ w'.ownsRow w.heap.size 69 2 (.slice A l.length c) l.length (ev l) ∧ Below w.heap.size w w'

end Go.Proofs.Ytagkpkkbkeefbaa
