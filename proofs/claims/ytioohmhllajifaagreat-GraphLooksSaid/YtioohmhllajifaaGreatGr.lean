/-
  A store into a list of edges that is owned (for the maker's Spoilt).
-/
import Derived.Test.YtioohmhllajifaaGreatGa
import Derived.Laws.OwnMore
namespace Go.Proofs.YtioohmhllajifaaGreat
open Go.RowKit Go.Lib

theorem ev_cons (e : Ed) (l : List Ed) : ev (e :: l) = .int .i64 e.1 :: .int .i64 e.2 :: ev l := rfl
theorem ev_set0 (l : List Ed) (k : Nat) (x y z : Int) (h : l[k]? = some (x, y)) : (ev l).set (k * 2) (.int .i64 z) = ev (l.set k (z, y)) := by
  induction l generalizing k with
  | nil => simp at h
  | cons e l ih =>
    cases k with
    | zero =>
      simp at h; subst h; rfl
    | succ k =>
      have h' : l[k]? = some (x, y) := by simpa using h
      rw [List.set_cons_succ, ev_cons, ev_cons, ← ih k h', show (k + 1) * 2 = k * 2 + 1 + 1 by omega]
      rfl
theorem ev_set1 (l : List Ed) (k : Nat) (x y z : Int) (h : l[k]? = some (x, y)) : (ev l).set (k * 2 + 1) (.int .i64 z) = ev (l.set k (x, z)) := by
  induction l generalizing k with
  | nil => simp at h
  | cons e l ih =>
    cases k with
    | zero =>
      simp at h; subst h; rfl
    | succ k =>
      have h' : l[k]? = some (x, y) := by simpa using h
      rw [List.set_cons_succ, ev_cons, ev_cons, ← ih k h', show (k + 1) * 2 + 1 = k * 2 + 1 + 1 + 1 by omega]
      rfl
section
variable {w : World} {base b c : Nat} {l : List Ed} {A : Option Addr}
theorem own_spotE (h : w.ownsRow base 53 2 (.slice A l.length c) l.length (ev l)) (h0 : 0 < l.length) : ∃ b, A = some ⟨b, 0, none⟩ ∧ base ≤ b ∧ b < w.heap.size := by
  rcases h.2 with ⟨_, e1⟩ | ⟨g, cap, cur, e0, hg, hh, _⟩
  · omega
  · injection e0 with e0 e1 e2
    exact ⟨g, e0, hg, (Array.getElem?_eq_some_iff.1 hh).1⟩
theorem own_cells (h : w.ownsRow base 53 2 (.slice (some ⟨b, 0, none⟩) l.length c) l.length (ev l)) {k : Nat} {x y : Int} (hk : l[k]? = some (x, y)) :
    w.cell? ⟨b, k * 2, none⟩ = some (.int .i64 x) ∧ w.cell? ⟨b, k * 2 + 1, none⟩ = some (.int .i64 y) ∧ w.frozen? ⟨b, k * 2, none⟩ = false ∧ w.frozen? ⟨b, k * 2 + 1, none⟩ = false := by
  have hl : k < l.length := (List.getElem?_eq_some_iff.mp hk).1
  obtain ⟨h1, h2⟩ := ev_at l k _ hk
  exact ⟨(h.cellAt _ (by omega)).trans h1, (h.cellAt _ (by omega)).trans h2, h.frozenAt _, h.frozenAt _⟩
theorem own_set0 (h : w.ownsRow base 53 2 (.slice (some ⟨b, 0, none⟩) l.length c) l.length (ev l)) {k : Nat} {x y : Int} (hk : l[k]? = some (x, y)) (z : Int) :
    (w.setCell ⟨b, k * 2, none⟩ (.int .i64 z)).ownsRow base 53 2 (.slice (some ⟨b, 0, none⟩) (l.set k (z, y)).length c) (l.set k (z, y)).length (ev (l.set k (z, y))) := by
  have := (h.stored (k * 2) (.int .i64 z)).1
  rw [ev_set0 l k x y z hk] at this
  rw [List.length_set]; exact this
theorem own_set1 (h : w.ownsRow base 53 2 (.slice (some ⟨b, 0, none⟩) l.length c) l.length (ev l)) {k : Nat} {x y : Int} (hk : l[k]? = some (x, y)) (z : Int) :
    (w.setCell ⟨b, k * 2 + 1, none⟩ (.int .i64 z)).ownsRow base 53 2 (.slice (some ⟨b, 0, none⟩) (l.set k (x, z)).length c) (l.set k (x, z)).length (ev (l.set k (x, z))) := by
  have := (h.stored (k * 2 + 1) (.int .i64 z)).1
  rw [ev_set1 l k x y z hk] at this
  rw [List.length_set]; exact this
end
end Go.Proofs.YtioohmhllajifaaGreat
