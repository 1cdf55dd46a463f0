/-
  What stays known in the maker's Spoilt.
-/
import Derived.Test.YtioohmhllajifaaGreatGq
import Derived.Test.YtioohmhllajifaaGreatGr
namespace Go.Proofs.YtioohmhllajifaaGreat
open Go.RowKit Go.Lib

/-- Spoilt's state: its graph's box, its result's cell, a list of edges of its own, the deck -/
structure SS (base g : Nat) (A : Option Addr) (c : Nat) (L : List Int) (w : World) (n : Int) (A2 : Option Addr) (c2 : Nat) (ks : List Ed) (m : Nat) (wr : World) : Prop where
  b3 : wr.heap[w.heap.size]? = some (.cells #[.int .i64 n, .slice A2 ks.length c2] 28)
  b4 : wr.heap[w.heap.size + 1]? = some (.cells #[.int .i64 0, .slice none 0 0] 28)
  own : wr.ownsRow (w.heap.size + 2) 53 2 (.slice A2 ks.length c2) ks.length (ev ks)
  dk : Dk base wr g A c L m
  gr : w.grownBy wr (some g)
  lg : g < w.heap.size
section
variable {base g : Nat} {A : Option Addr} {c : Nat} {L : List Int} {w : World} {n : Int} {A2 : Option Addr} {c2 : Nat} {ks : List Ed} {m : Nat} {wr : World}
theorem SS.l3 (h : SS base g A c L w n A2 c2 ks m wr) : w.heap.size < wr.heap.size := lt_of_some h.b3
theorem SS.l4 (h : SS base g A c L w n A2 c2 ks m wr) : w.heap.size + 1 < wr.heap.size := lt_of_some h.b4
theorem SS.c0 (h : SS base g A c L w n A2 c2 ks m wr) : wr.cell? ⟨w.heap.size, 0, none⟩ = some (.int .i64 n) := Go.Joins.cell_of_block h.b3 0
theorem SS.c1 (h : SS base g A c L w n A2 c2 ks m wr) : wr.cell? ⟨w.heap.size, 1, none⟩ = some (.slice A2 ks.length c2) := Go.Joins.cell_of_block h.b3 1
theorem SS.f0 (h : SS base g A c L w n A2 c2 ks m wr) : wr.frozen? ⟨w.heap.size, 0, none⟩ = false := Go.Joins.unfrozen_of_block h.b3 0
theorem SS.f1 (h : SS base g A c L w n A2 c2 ks m wr) : wr.frozen? ⟨w.heap.size, 1, none⟩ = false := Go.Joins.unfrozen_of_block h.b3 1
theorem SS.r0 (h : SS base g A c L w n A2 c2 ks m wr) : wr.cell? ⟨w.heap.size + 1, 0, none⟩ = some (.int .i64 0) := Go.Joins.cell_of_block h.b4 0
theorem SS.r1 (h : SS base g A c L w n A2 c2 ks m wr) : wr.cell? ⟨w.heap.size + 1, 1, none⟩ = some (.slice none 0 0) := Go.Joins.cell_of_block h.b4 1
theorem SS.q0 (h : SS base g A c L w n A2 c2 ks m wr) : wr.frozen? ⟨w.heap.size + 1, 0, none⟩ = false := Go.Joins.unfrozen_of_block h.b4 0
theorem SS.q1 (h : SS base g A c L w n A2 c2 ks m wr) : wr.frozen? ⟨w.heap.size + 1, 1, none⟩ = false := Go.Joins.unfrozen_of_block h.b4 1
theorem SS.next {m1 : Nat} {w1 : World} (h : SS base g A c L w n A2 c2 ks m wr) (hd : Dk base w1 g A c L m1) (hg : wr.grownBy w1 (some g)) : SS base g A c L w n A2 c2 ks m1 w1 :=
  ⟨(hg.block _ h.l3 (fun e => by injection e with e; have := h.lg; omega)).trans h.b3, (hg.block _ h.l4 (fun e => by injection e with e; have := h.lg; omega)).trans h.b4,
   own_kept h.own hg (by have := h.lg; omega), hd, grown_trans h.gr hg, h.lg⟩
theorem SS.setN (h : SS base g A c L w n A2 c2 ks m wr) (n' : Int) : SS base g A c L w n' A2 c2 ks m (wr.setCell ⟨w.heap.size, 0, none⟩ (.int .i64 n')) :=
  ⟨(setCell_two h.b3).1, (setCell_only _ (by omega)).trans h.b4, h.own.kept set_grown (.inr fun e => by have := (h.own.lt _ e).1; omega), dk_other h.dk set_grown h.lg, grown_other h.gr set_grown (Nat.le_refl _), h.lg⟩
theorem SS.setL {A3 : Option Addr} {c3 : Nat} {ls : List Ed} {w3 : World} (h : SS base g A c L w n A2 c2 ks m wr) (ho : w3.ownsRow (w.heap.size + 2) 53 2 (.slice A3 ls.length c3) ls.length (ev ls)) (hb : Below (w.heap.size + 2) wr w3) :
    SS base g A c L w n A3 c3 ls m (w3.setCell ⟨w.heap.size, 1, none⟩ (.slice A3 ls.length c3)) := by
  have hl := h.lg
  have b3 := (hb.block w.heap.size (by omega)).trans h.b3
  have b4 := (hb.block (w.heap.size + 1) (by omega)).trans h.b4
  exact ⟨(setCell_two b3).2, (setCell_only _ (by omega)).trans b4, ho.kept set_grown (.inr fun e => by have := (ho.lt _ e).1; omega), dk_other (h.dk.goB hb (by omega)) set_grown hl, grown_other (grown_below h.gr hb (by omega)) set_grown (Nat.le_refl _), hl⟩
/-- a store into the list -/
theorem SS.el {b i : Nat} {v : Value} {ls : List Ed} (h : SS base g A c L w n (some ⟨b, 0, none⟩) c2 ks m wr) (hb : w.heap.size + 2 ≤ b) (hls : ls.length = ks.length)
    (ho : (wr.setCell ⟨b, i, none⟩ v).ownsRow (w.heap.size + 2) 53 2 (.slice (some ⟨b, 0, none⟩) ls.length c2) ls.length (ev ls)) : SS base g A c L w n (some ⟨b, 0, none⟩) c2 ls m (wr.setCell ⟨b, i, none⟩ v) := by
  have hl := h.lg
  exact ⟨by rw [hls]; exact (setCell_only _ (by omega)).trans h.b3, (setCell_only _ (by omega)).trans h.b4, ho, dk_other h.dk set_grown (by omega), grown_other h.gr set_grown (by omega), hl⟩
theorem SS.el0 {b k : Nat} {x y : Int} (h : SS base g A c L w n (some ⟨b, 0, none⟩) c2 ks m wr) (hb : w.heap.size + 2 ≤ b) (hk : ks[k]? = some (x, y)) (z : Int) :
    SS base g A c L w n (some ⟨b, 0, none⟩) c2 (ks.set k (z, y)) m (wr.setCell ⟨b, k * 2, none⟩ (.int .i64 z)) := h.el hb (by simp) (own_set0 h.own hk z)
theorem SS.el1 {b k : Nat} {x y : Int} (h : SS base g A c L w n (some ⟨b, 0, none⟩) c2 ks m wr) (hb : w.heap.size + 2 ≤ b) (hk : ks[k]? = some (x, y)) (z : Int) :
    SS base g A c L w n (some ⟨b, 0, none⟩) c2 (ks.set k (x, z)) m (wr.setCell ⟨b, k * 2 + 1, none⟩ (.int .i64 z)) := h.el hb (by simp) (own_set1 h.own hk z)
/-- behind the result's stores -/
theorem SS.fin (h : SS base g A c L w n A2 c2 ks m wr) (x y : Value) : ((wr.setCell ⟨w.heap.size + 1, 0, none⟩ x).setCell ⟨w.heap.size + 1, 1, none⟩ y).cell? ⟨w.heap.size + 1, 0, none⟩ = some x ∧
    ((wr.setCell ⟨w.heap.size + 1, 0, none⟩ x).setCell ⟨w.heap.size + 1, 1, none⟩ y).cell? ⟨w.heap.size + 1, 1, none⟩ = some y ∧
    ((wr.setCell ⟨w.heap.size + 1, 0, none⟩ x).setCell ⟨w.heap.size + 1, 1, none⟩ y).ownsRow (w.heap.size + 2) 53 2 (.slice A2 ks.length c2) ks.length (ev ks) ∧
    Dk base ((wr.setCell ⟨w.heap.size + 1, 0, none⟩ x).setCell ⟨w.heap.size + 1, 1, none⟩ y) g A c L m ∧ w.grownBy ((wr.setCell ⟨w.heap.size + 1, 0, none⟩ x).setCell ⟨w.heap.size + 1, 1, none⟩ y) (some g) := by
  have hl := h.lg
  have hb4 := (setCell_two (setCell_two h.b4 (v := x)).1 (v := y)).2
  have o1 := h.own.kept (w' := wr.setCell ⟨w.heap.size + 1, 0, none⟩ x) set_grown (.inr fun e => by have := (h.own.lt _ e).1; omega)
  have o2 := o1.kept (w' := (wr.setCell ⟨w.heap.size + 1, 0, none⟩ x).setCell ⟨w.heap.size + 1, 1, none⟩ y) set_grown (.inr fun e => by have := (o1.lt _ e).1; omega)
  exact ⟨Go.Joins.cell_of_block hb4 0, Go.Joins.cell_of_block hb4 1, o2, dk_other (dk_other h.dk set_grown (by omega)) set_grown (by omega), grown_other (grown_other h.gr set_grown (by omega)) set_grown (by omega)⟩
end

/-- all numbers of a list of edges lie within M of nothing -/
def inM (M : Int) (l : List Ed) : Prop := ∀ z ∈ l, -M ≤ z.1 ∧ z.1 ≤ M ∧ -M ≤ z.2 ∧ z.2 ≤ M
theorem inM.mono {M M' : Int} {l : List Ed} (h : inM M l) (hM : M ≤ M') : inM M' l := fun z hz => by have := h z hz; omega
theorem inM.at_ {M : Int} {l : List Ed} (h : inM M l) {k : Nat} {x y : Int} (hk : l[k]? = some (x, y)) : -M ≤ x ∧ x ≤ M ∧ -M ≤ y ∧ y ≤ M := h _ (List.mem_of_getElem? hk)
theorem inM.set_ {M : Int} {l : List Ed} (h : inM M l) (k : Nat) {x y : Int} (hx : -M ≤ x ∧ x ≤ M ∧ -M ≤ y ∧ y ≤ M) : inM M (l.set k (x, y)) := by
  intro z hz
  rcases List.mem_or_eq_of_mem_set hz with h1 | h1
  · exact h z h1
  · subst h1; exact hx
theorem inM.push {M : Int} {l : List Ed} (h : inM M l) {x y : Int} (hx : -M ≤ x ∧ x ≤ M ∧ -M ≤ y ∧ y ≤ M) : inM M (l ++ [(x, y)]) := by
  intro z hz
  rcases List.mem_append.1 hz with h1 | h1
  · exact h z h1
  · rw [List.mem_singleton] at h1; subst h1; exact hx
/-- what Spoilt answers: a graph whose list is its own, its numbers not far off -/
def SpoiltP (base g : Nat) (A : Option Addr) (c : Nat) (L : List Int) (n M : Int) (len : Nat) (w : World) (e : Ending) (w' : World) : Prop :=
  ∃ (n' : Int) (l : List Ed) (A1 : Option Addr) (c1 m : Nat), e = .returned (.agg #[.int .i64 n', .slice A1 l.length c1]) ∧ (n' = n ∨ -2 ≤ n' ∧ n' ≤ 67) ∧ l.length ≤ len + 1 ∧ inM (M + 2) l ∧
    w'.ownsRow (w.heap.size + 2) 53 2 (.slice A1 l.length c1) l.length (ev l) ∧ Dk base w' g A c L m ∧ w.grownBy w' (some g)
end Go.Proofs.YtioohmhllajifaaGreat
