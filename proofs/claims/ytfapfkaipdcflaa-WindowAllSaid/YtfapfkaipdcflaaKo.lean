/-
  Apply of package links.
-/
import Derived.Test.YtfapfkaipdcflaaKn
namespace Go.Proofs.Ytfapfkaipdcflaa.K
open Go.RowKit Go.Lib

namespace Ls
open Go.Proofs.Ytfapfkaipdcflaa.Ls
/-- the error of an event for a state of n nodes -/
def chkEv (n : Int) (e : Ev) : Int := if chkE e ≠ 0 then chkE e else if n ≤ e.u ∨ n ≤ e.v then 6 else 0
/-- the error of Apply -/
def apE (n : Int) (l : List Lk) (e : Ev) : Int := if chkS n l ≠ 0 then chkS n l else chkEv n e
theorem chkEv_good (n : Int) (e : Ev) : chkEv n e = 0 ↔ Go.Proofs.Ytfapfkaipdcflaa.Ls.Good n e := by
  unfold chkEv Go.Proofs.Ytfapfkaipdcflaa.Ls.Good
  by_cases h : chkE e = 0
  · rw [if_neg (by simpa using h)]
    split
    · next h1 => simp; omega
    · next h1 => simp [h]; omega
  · rw [if_pos h]; simp [h]
theorem apE_zero (n : Int) (l : List Lk) (e : Ev) : apE n l e = 0 ↔ V n l ∧ Go.Proofs.Ytfapfkaipdcflaa.Ls.Good n e := by
  unfold apE
  by_cases h : chkS n l = 0
  · rw [if_neg (by simpa using h), chkEv_good, ← chkS_zero]; simp [h]
  · rw [if_pos h, ← chkS_zero]; simp [h]
end Ls
theorem new_three (w : World) (o1 o2 o3 : Obj) (W : World) (hW : ((w.alloc o1).alloc o2).alloc o3 = W) : W.heap[w.heap.size]? = some o1 ∧ W.heap[w.heap.size + 1]? = some o2 ∧ W.heap[w.heap.size + 2]? = some o3 ∧ W.heap.size = w.heap.size + 3 ∧ Below w.heap.size w W := by
  subst hW
  obtain ⟨a, b, c, d⟩ := new_two w o1 o2
  have e : (((w.alloc o1).alloc o2).alloc o3).heap.size = w.heap.size + 3 := by simp
  refine ⟨(Below.heap_alloc _ _ _ (by omega)).trans a, (Below.heap_alloc _ _ _ (by omega)).trans b, ?_, e, d.trans ((below_new _ _).mono (by omega))⟩
  have := heap_alloc_new ((w.alloc o1).alloc o2) o3
  rwa [c] at this
/-- a state, a value and an error that are returned -/
theorem ret_state3 {fn : Func} {R : Ending → World → Prop} {a : Act} {w : World} {p q r : Nat} (hres : fn.results = #[.cell p 59, .tmp q, .tmp r]) (hd : a.defers = []) (g : Nat) (hp : a.tmps.getD p undef = .pointer (some ⟨g, 0, none⟩)) (x y : Value) (hq : a.tmps.getD q undef = x) (hr : a.tmps.getD r undef = y)
    {v0 v1 : Value} (hb : w.heap[g]? = some (.cells #[v0, v1] 59 (0, 0))) (h : R (.returned (.tuple #[.agg #[v0, v1], x, y])) w) : bodyPost Try.prog fn R .ret a w := by
  have hc := Go.Joins.cell_of_block hb
  have y0 := hc 0; have y1 := hc 1
  simp only [List.getElem?_toArray, List.getElem?_cons_succ, List.getElem?_cons_zero] at y0 y1
  have hp' : (a.tmps[p]?).getD undef = .pointer (some ⟨g, 0, none⟩) := by simpa using hp
  have hq' : (a.tmps[q]?).getD undef = x := by simpa using hq
  have hr' : (a.tmps[r]?).getD undef = y := by simpa using hr
  refine bodyPost_ret (v := .tuple #[.agg #[v0, v1], x, y]) ?_ hd h
  clear hp hq hr h hd hb hc
  simp [results, hres, go_sem, hp', hq', hr', y0, y1]
/-- what Apply answers -/
def ApplyP (n : Int) (l : List Ls.Lk) (e : Ev) (w : World) (en : Ending) (w' : World) : Prop :=
  ∃ (n' : Int) (l' : List Ls.Lk) (ev : List Ev) (A' A1 : Option Addr) (c' c1 : Nat), en = .returned (.tuple #[.agg #[.int .i64 n', .slice A' l'.length c'], .slice A1 ev.length c1, .int .i64 (Ls.apE n l e)]) ∧
    (if Ls.apE n l e = 0 then n' = n ∧ l' = Ls.nextL l e ∧ ev = Ls.chg l e else n' = 0 ∧ l' = [] ∧ ev = []) ∧ RL w'.heap.size w' A' c' l' ∧ RV w'.heap.size w' A1 c1 ev ∧ Below w.heap.size w w'
end Go.Proofs.Ytfapfkaipdcflaa.K
