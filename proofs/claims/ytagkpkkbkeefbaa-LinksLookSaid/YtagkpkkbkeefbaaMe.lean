/-
  Plain mathematics of the edges of links.
-/
import Derived.Test.YtagkpkkbkeefbaaMd
namespace Go.Proofs.Ytagkpkkbkeefbaa
open Go.RowKit Go.Lib

namespace Ls
/-- the edges of links -/
def edges (l : List Lk) : List Ed := l.map fun x => (x.u, x.v)
theorem len_edges (l : List Lk) : (edges l).length = l.length := by simp [edges]
theorem edges_take (l : List Lk) (k : Nat) (x : Lk) (h : l[k]? = some x) : edges (l.take (k + 1)) = edges (l.take k) ++ [(x.u, x.v)] := by
  unfold edges
  rw [take_at l k x h, List.map_append]
  rfl
theorem edges_asc {l : List Lk} (h : Asc l) : AscE (edges l) := by
  unfold edges AscE
  rw [List.pairwise_map]
  exact h.imp fun hab => hab
theorem edges_edg {n : Int} {l : List Lk} (hV : V n l) : ((edges l).map fun e => edg e.1 e.2) = edges l := by
  unfold edges
  rw [List.map_map]
  apply List.map_congr_left
  intro x hx
  have := valid_lt hV x hx
  show edg x.u x.v = (x.u, x.v)
  unfold edg
  rw [show min x.u x.v = x.u by omega, show max x.u x.v = x.v by omega]
theorem ofl_edges {n : Int} {l : List Lk} (hV : V n l) : ofl (edges l) = edges l :=
  ascE_unique _ _ (asc_ofl _) (edges_asc hV.2.2.1) fun z => by rw [mem_ofl, edges_edg hV]
theorem ofe_edges {n : Int} {l : List Lk} (hV : V n l) : ofe n (edges l) = 0 := by
  unfold ofe
  rw [if_neg (by have := hV.1; have := hV.2.1; omega), if_pos ?_]
  unfold allE edges
  rw [List.all_map, List.all_eq_true]
  intro x hx
  obtain ⟨h1, h2, h3, -⟩ := chkLk_parts (hV.2.2.2 x hx)
  have := hV.2.1
  show endsB n x.u x.v = true
  simp [endsB]
  omega
end Ls
end Go.Proofs.Ytagkpkkbkeefbaa
