/-
  What the laws of graphs keep known: the deck and a graph in its box; a graph in a box.
-/
import Derived.Test.YtioohmhllajifaaGreatHg
import Derived.Test.YtioohmhllajifaaGreatGi
import Derived.Test.YtioohmhllajifaaGreatGs
namespace Go.Proofs.YtioohmhllajifaaGreat
open Go.RowKit Go.Lib

/-- the law's state: the deck in block g, a graph in the box g4 -/
structure LS (w : World) (g g4 : Nat) (A : Option Addr) (c : Nat) (L : List Int) (n : Int) (A1 : Option Addr) (c1 : Nat) (l : List Ed) (wr : World) : Prop where
  dk : ∃ m, Dk w.heap.size wr g A c L m
  b4 : wr.heap[g4]? = some (.cells #[.int .i64 n, .slice A1 l.length c1] 28)
  own : wr.ownsRow (g + 1) 53 2 (.slice A1 l.length c1) l.length (ev l)
  bel : Below w.heap.size w wr
  lg : w.heap.size ≤ g
  l4 : g < g4
section
variable {w : World} {g g4 : Nat} {A A1 : Option Addr} {c c1 : Nat} {L : List Int} {n : Int} {l : List Ed} {wr w' : World}
theorem LS.go (h : LS w g g4 A c L n A1 c1 l wr) (hb : Below wr.heap.size wr w') : LS w g g4 A c L n A1 c1 l w' := by
  obtain ⟨m, hd⟩ := h.dk
  exact ⟨⟨m, hd.go hb⟩, (hb.block _ (lt_of_some h.b4)).trans h.b4, own_up h.own hb, h.bel.trans (hb.mono h.bel.size), h.lg, h.l4⟩
theorem LS.next {m : Nat} (h : LS w g g4 A c L n A1 c1 l wr) (hd : Dk w.heap.size w' g A c L m) (hg : wr.grownBy w' (some g)) : LS w g g4 A c L n A1 c1 l w' := by
  have h4 := h.l4
  refine ⟨⟨m, hd⟩, (hg.block _ (lt_of_some h.b4) (fun e => by injection e with e; omega)).trans h.b4, own_kept h.own hg (by omega), h.bel.grown hg h.bel.size (fun k hk => by injection hk with hk; have := h.lg; omega), h.lg, h4⟩
theorem LS.set (h : LS w g g4 A c L n A1 c1 l wr) {k : Nat} (i : Nat) (x : Value) (h4 : g4 < k) (hne : (Value.slice A1 l.length c1).ownBlock ≠ some k) : LS w g g4 A c L n A1 c1 l (wr.setCell ⟨k, i, none⟩ x) := by
  obtain ⟨m, hd⟩ := h.dk
  have hg4 := h.l4
  have hlg := h.lg
  exact ⟨⟨m, dk_other hd set_grown (by omega)⟩, (setCell_only _ (by omega)).trans h.b4, h.own.kept set_grown (.inr hne), h.bel.setCell (p := ⟨k, i, none⟩) (by show w.heap.size ≤ k; omega) x, h.lg, h.l4⟩
theorem LS.ne (h : LS w g g4 A c L n A1 c1 l wr) : (Value.slice A1 l.length c1).ownBlock ≠ some wr.heap.size := fun e => by have := (h.own.lt _ e).2; omega
theorem LS.lt (h : LS w g g4 A c L n A1 c1 l wr) : g4 < wr.heap.size := lt_of_some h.b4
theorem LS.c0 (h : LS w g g4 A c L n A1 c1 l wr) : wr.cell? ⟨g4, 0, none⟩ = some (.int .i64 n) := Go.Joins.cell_of_block h.b4 0
theorem LS.c1' (h : LS w g g4 A c L n A1 c1 l wr) : wr.cell? ⟨g4, 1, none⟩ = some (.slice A1 l.length c1) := Go.Joins.cell_of_block h.b4 1
theorem LS.re (h : LS w g g4 A c L n A1 c1 l wr) : RE wr.heap.size wr A1 c1 l := RE.of_own h.own
theorem LS.start {m : Nat} {w1 w2 : World} (hg : w.heap.size ≤ g) (hg1 : g < w1.heap.size) (hb : Below w.heap.size w w1) (hd : Dk w.heap.size w2 g A c L m) (hgr : w1.grownBy w2 (some g)) (ho : w2.ownsRow (w1.heap.size + 1) 53 2 (.slice A1 l.length c1) l.length (ev l)) :
    LS w g w2.heap.size A c L n A1 c1 l (w2.alloc (.cells #[.int .i64 n, .slice A1 l.length c1] 28)) := by
  have hs := hgr.size
  have hbel : Below w.heap.size w w2 := hb.grown hgr hb.size (fun k hk => by injection hk with hk; omega)
  have ha : Below w2.heap.size w2 (w2.alloc (.cells #[.int .i64 n, .slice A1 l.length c1] 28)) := (Below.refl _ _).alloc (Nat.le_refl _) _
  exact ⟨⟨m, hd.go ha⟩, heap_alloc_new _ _, own_up (Go.Joins.ownsRow_le ho (by omega)) ha, hbel.alloc hbel.size _, hg, by omega⟩
end

section
variable {w : World} {g g4 : Nat} {A A1 : Option Addr} {c c1 : Nat} {L : List Int} {n : Int} {l : List Ed} {wr w' : World}
/-- behind Spoilt: its answer is stored into the graph's box -/
theorem LS.spoil {n2 : Int} {A2 : Option Addr} {c2 m : Nat} {l2 : List Ed} (h : LS w g g4 A c L n A1 c1 l wr) (ho : w'.ownsRow (wr.heap.size + 2) 53 2 (.slice A2 l2.length c2) l2.length (ev l2))
    (hd : Dk w.heap.size w' g A c L m) (hg : wr.grownBy w' (some g)) : LS w g g4 A c L n2 A2 c2 l2 ((w'.setCell ⟨g4, 0, none⟩ (.int .i64 n2)).setCell ⟨g4, 1, none⟩ (.slice A2 l2.length c2)) := by
  have h4 := h.l4
  have hlg := h.lg
  have hlt := h.lt
  have hs := hg.size
  have o0 := Go.Joins.ownsRow_le ho (show g + 1 ≤ wr.heap.size + 2 by omega)
  have hne : (Value.slice A2 l2.length c2).ownBlock ≠ some g4 := fun e => by have := (ho.lt _ e).1; omega
  have b := (hg.block _ hlt (fun e => by injection e with e; omega)).trans h.b4
  have b2 := (setCell_two (setCell_two b (v := .int .i64 n2)).1 (v := .slice A2 l2.length c2)).2
  have o1 := o0.kept (w' := w'.setCell ⟨g4, 0, none⟩ (.int .i64 n2)) set_grown (.inr hne)
  have o2 := o1.kept (w' := (w'.setCell ⟨g4, 0, none⟩ (.int .i64 n2)).setCell ⟨g4, 1, none⟩ (.slice A2 l2.length c2)) set_grown (.inr hne)
  have hbel : Below w.heap.size w w' := h.bel.grown hg h.bel.size (fun k hk => by injection hk with hk; omega)
  exact ⟨⟨m, dk_other (dk_other hd set_grown (by omega)) set_grown (by omega)⟩, b2, o2, (hbel.setCell (p := ⟨g4, 0, none⟩) (by show w.heap.size ≤ g4; omega) _).setCell (p := ⟨g4, 1, none⟩) (by show w.heap.size ≤ g4; omega) _, h.lg, h.l4⟩
end

/-- a graph that stands in a box, its list below the heap's size -/
structure BX (k : Nat) (n : Int) (A : Option Addr) (c : Nat) (l : List Ed) (wr : World) : Prop where
  b : wr.heap[k]? = some (.cells #[.int .i64 n, .slice A l.length c] 28)
  re : RE wr.heap.size wr A c l
section
variable {k : Nat} {n : Int} {A : Option Addr} {c : Nat} {l : List Ed} {wr w' : World}
theorem BX.go (h : BX k n A c l wr) (hb : Below wr.heap.size wr w') : BX k n A c l w' := ⟨(hb.block _ (lt_of_some h.b)).trans h.b, h.re.up hb⟩
theorem BX.new (h : RE wr.heap.size wr A c l) (n : Int) : BX wr.heap.size n A c l (wr.alloc (.cells #[.int .i64 n, .slice A l.length c] 28)) := ⟨heap_alloc_new _ _, (h.alloc _).more (by simp)⟩
theorem BX.c0 (h : BX k n A c l wr) : wr.cell? ⟨k, 0, none⟩ = some (.int .i64 n) := Go.Joins.cell_of_block h.b 0
theorem BX.c1 (h : BX k n A c l wr) : wr.cell? ⟨k, 1, none⟩ = some (.slice A l.length c) := Go.Joins.cell_of_block h.b 1
theorem BX.lt (h : BX k n A c l wr) : k < wr.heap.size := lt_of_some h.b
end
theorem alloc_new (w : World) (o : Obj) : Below w.heap.size w (w.alloc o) := (Below.refl _ _).alloc (Nat.le_refl _) _
theorem len_insE_le (e : Ed) (l : List Ed) : (insE e l).length ≤ l.length + 1 := by
  induction l with
  | nil => simp [insE]
  | cons x r ih =>
    simp only [insE]
    split
    · simp only [List.length_cons]; omega
    · split
      · simp
      · simp
theorem inM_valid {n : Int} {l : List Ed} (h : chk n l = 0) : inM 64 l := by
  obtain ⟨h1, h2, h3, _⟩ := (chk_zero n l).1 h
  intro z hz
  have := h3 z hz
  omega
theorem sameG_self (n : Int) (l : List Ed) : sameG n n l l = true := by simp [sameG, eqE]

end Go.Proofs.YtioohmhllajifaaGreat
