/-
  A list of its own with one event put in another's place.
-/
import Derived.Test.YtnohmgmpabckkaaDoorUd
namespace Go.Proofs.YtnohmgmpabckkaaDoor
open Go.RowKit Go.Lib

/-- seven stores -/
def put7 (w : World) (g o : Nat) (e : Ev) : World :=
  ((((((w.setCell ⟨g, o, none⟩ (.int .i64 e.kind)).setCell ⟨g, o + 1, none⟩ (.int .i64 e.time)).setCell ⟨g, o + 2, none⟩ (.int .i64 e.u)).setCell ⟨g, o + 3, none⟩ (.int .i64 e.v)).setCell ⟨g, o + 4, none⟩ (.int .i64 e.weight)).setCell ⟨g, o + 5, none⟩ (.int .i64 e.label)).setCell ⟨g, o + 6, none⟩ (.int .i64 e.sign)
theorem put7_below {B g : Nat} (w0 w : World) (o : Nat) (e : Ev) (h : Below B w0 w) (hg : B ≤ g) : Below B w0 (put7 w g o e) :=
  (((((((h.setCell (p := ⟨g, o, none⟩) hg _).setCell (p := ⟨g, o + 1, none⟩) hg _).setCell (p := ⟨g, o + 2, none⟩) hg _).setCell (p := ⟨g, o + 3, none⟩) hg _).setCell (p := ⟨g, o + 4, none⟩) hg _).setCell (p := ⟨g, o + 5, none⟩) hg _).setCell (p := ⟨g, o + 6, none⟩) hg _)
theorem put7_size (w : World) (g o : Nat) (e : Ev) : (put7 w g o e).heap.size = w.heap.size := by simp [put7, World.setCell]
theorem put7_other (w : World) (g o : Nat) (e : Ev) (k : Nat) (hk : k ≠ g) : (put7 w g o e).heap[k]? = w.heap[k]? := by
  unfold put7
  rw [Below.heap_setCell _ _ _ k (by show k ≠ g; exact hk), Below.heap_setCell _ _ _ k (by show k ≠ g; exact hk), Below.heap_setCell _ _ _ k (by show k ≠ g; exact hk), Below.heap_setCell _ _ _ k (by show k ≠ g; exact hk), Below.heap_setCell _ _ _ k (by show k ≠ g; exact hk), Below.heap_setCell _ _ _ k (by show k ≠ g; exact hk), Below.heap_setCell _ _ _ k (by show k ≠ g; exact hk)]
theorem set_grown (w : World) (g j : Nat) (v : Value) : w.grownBy (w.setCell ⟨g, j, none⟩ v) (some g) :=
  ⟨rfl, rfl, rfl, by simp [World.setCell], fun k _ hk => Below.heap_setCell w ⟨g, j, none⟩ v k (fun e => hk (by rw [e]))⟩
theorem put7_grown (w : World) (g o : Nat) (e : Ev) : w.grownBy (put7 w g o e) (some g) :=
  grown_trans (grown_trans (grown_trans (grown_trans (grown_trans (grown_trans (set_grown _ _ _ _) (set_grown _ _ _ _)) (set_grown _ _ _ _)) (set_grown _ _ _ _)) (set_grown _ _ _ _)) (set_grown _ _ _ _)) (set_grown _ _ _ _)
theorem put7_blk (w : World) (g o : Nat) (e : Ev) (cur : Array Value) (h : w.heap[g]? = some (.cells cur 23 (0, 0))) (ho : o + 7 ≤ cur.size) :
    ∃ cur' : Array Value, (put7 w g o e).heap[g]? = some (.cells cur' 23 (0, 0)) ∧ ∀ j, cur'[j]? = if o ≤ j ∧ j < o + 7 then e.cells[j - o]? else cur[j]? := by
  have step : ∀ (w : World) (cs : Array Value) (j : Nat) (v : Value), w.heap[g]? = some (.cells cs 23 (0, 0)) → (w.setCell ⟨g, j, none⟩ v).heap[g]? = some (.cells (cs.setIfInBounds j v) 23 (0, 0)) := by
    intro w cs j v hw
    simp [World.setCell, Array.getElem?_modify, hw]
  refine ⟨_, step _ _ _ _ (step _ _ _ _ (step _ _ _ _ (step _ _ _ _ (step _ _ _ _ (step _ _ _ _ (step _ _ _ _ h)))))), fun j => ?_⟩
  simp only [Array.getElem?_setIfInBounds, Array.size_setIfInBounds]
  by_cases hj : o ≤ j ∧ j < o + 7
  · rw [if_pos hj]
    obtain ⟨r, hr⟩ : ∃ r, j = o + r := ⟨j - o, by omega⟩
    subst hr
    have hr7 : r < 7 := by omega
    rw [Nat.add_sub_cancel_left]
    obtain h | h | h | h | h | h | h : r = 0 ∨ r = 1 ∨ r = 2 ∨ r = 3 ∨ r = 4 ∨ r = 5 ∨ r = 6 := by omega
    all_goals subst h
    all_goals simp [Ev.cells]
    all_goals omega
  · rw [if_neg hj]
    rw [if_neg (by omega), if_neg (by omega), if_neg (by omega), if_neg (by omega), if_neg (by omega), if_neg (by omega), if_neg (by omega)]
theorem own_set {w : World} {base c : Nat} {A : Option Addr} {l : List Ev} (h : w.ownsRow base 23 7 (.slice A l.length c) l.length (cl Ev.cells l)) (i : Nat) (hi : i < l.length) (e : Ev) :
    ∃ g, A = some ⟨g, 0, none⟩ ∧ base ≤ g ∧ g < w.heap.size ∧ (∀ j, w.frozen? ⟨g, j, none⟩ = false) ∧ RE w.heap.size (put7 w g (i * 7) e) A c (l.set i e) := by
  obtain ⟨hx, h | ⟨g, cap, cur, hv, hb, hg, hn, hm, hs, ht⟩⟩ := h
  · omega
  · injection hv with h1 h2 h3
    subst h1; subst h3
    have hgs := (Array.getElem?_eq_some_iff.1 hg).1
    refine ⟨g, rfl, hb, hgs, Go.Joins.unfrozen_of_block hg, by rw [List.length_set]; exact hn, ?_⟩
    obtain ⟨cur', hb', hc'⟩ := put7_blk w g (i * 7) e cur hg (by rw [hs]; omega)
    have hcell := Go.Joins.cell_of_block hb'
    refine ⟨by rw [cl_len encE, List.length_set], fun _ => ⟨⟨g, 0, none⟩, rfl, hgs, fun j u hu => ?_⟩⟩
    have hj : j < l.length * 7 := by have := (List.getElem?_eq_some_iff.1 hu).1; rw [cl_len encE, List.length_set] at this; exact this
    have hadd : (⟨g, 0, none⟩ : Addr).add j = ⟨g, j, none⟩ := by
      simp [Addr.add]
      exact fun e => e.symm
    rw [hadd, hcell j]
    have hcj := hc' j
    clear hc' hcell hb' hg hgs hb hm hx
    obtain ⟨q, r, rfl, hr⟩ : ∃ q r, j = q * 7 + r ∧ r < 7 := ⟨j / 7, j % 7, by omega, by omega⟩
    have hq : q < l.length := by omega
    rw [hcj]
    by_cases hqi : q = i
    · subst hqi
      rw [if_pos ⟨by omega, by omega⟩, Nat.add_sub_cancel_left]
      have := cl_at encE (l.set q e) q e (by simp [hq]) r hr
      rw [hu] at this
      exact this.symm
    · rw [if_neg (by omega)]
      have h1 := cl_at encE (l.set i e) q l[q] (by rw [List.getElem?_set_ne (Ne.symm hqi)]; exact List.getElem?_eq_getElem hq) r hr
      have h2 := cl_at encE l q l[q] (List.getElem?_eq_getElem hq) r hr
      rw [hu] at h1
      rw [← ht, List.getElem?_take_of_lt hj, ← h1] at h2
      simpa using h2
end Go.Proofs.YtnohmgmpabckkaaDoor
