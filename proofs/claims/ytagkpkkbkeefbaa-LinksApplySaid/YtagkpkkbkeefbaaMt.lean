/-
  A state and an event among the parameters, opened.
-/
import Derived.Test.YtagkpkkbkeefbaaMs
import Derived.ProofKit
import Derived.OpenShut
import Derived.ChangeSame
import Derived.Lib.SmallJoins
import Derived.Deep.Slices
namespace Go.Proofs.Ytagkpkkbkeefbaa
open Go.ChangeShapes Go.WideShapes Go.ChangeAt Go.RowKit Go.Joins

def numV : Value → Int
  | .int _ n => n
  | _ => 0
theorem cellsOfI : Try.prog.cellsOf 3 = 1 := by kernel_rfl
theorem cellsOfL : Try.prog.cellsOf 62 = 6 := by kernel_rfl
theorem cellsOfS : Try.prog.cellsOf 24 = 2 := by kernel_rfl
set_option maxRecDepth 100000 in
theorem open_event {H : Type} {enc : TypeId × Value → H} {W : World} {base : Nat} {v : Value} {d : DataW H} {p : List MemPlace} (hv : Value.okWide Try.prog W .any base 26 v)
    (h : DataW.Trod enc Try.prog W 0 (fun _ => true) true 26 v d p) : ∃ k t u v' x y z : Int, v = .agg #[.int .i64 k, .int .i64 t, .int .i64 u, .int .i64 v', .int .i64 x, .int .i64 y, .int .i64 z] := by
  obtain ⟨cs, rfl, hsz⟩ := okWide_struct Try.underlying26 hv
  have hC : Try.prog.cellsOf 26 = 7 := by kernel_rfl
  obtain ⟨fuel, hf⟩ := h
  obtain ⟨xs, n, _, _, hl, hlen, hfs⟩ := DataW.trod_struct Try.underlying26 hf
  have hlen : xs.length = 7 := hlen
  obtain ⟨l, rfl⟩ : ∃ l : List Value, cs = l.toArray := ⟨cs.toList, by simp⟩
  have hl7 : l.length = 7 := by rw [← hC, ← hsz]; simp
  have field : ∀ (i : Nat) (f : Field), i < 7 → (Value.agg l.toArray).cells.toList = l → DataW.trod enc Try.prog W 0 (fun _ => true) true n f.type (((Value.agg l.toArray).cells.toList.drop f.offset).take (Try.prog.cellsOf f.type)) = xs[i]? → f.type = 3 → f.offset = i → ∃ z : Int, l[i]? = some (.int .i64 z) := by
    intro i f hi e0 hE h2 h3
    rw [h2, h3, cellsOfI, List.getElem?_eq_getElem (by omega)] at hE
    obtain ⟨z, e1, _, _⟩ := DataW.trod_int Try.underlying3 hE
    refine ⟨z, ?_⟩
    rw [e0] at e1
    have h0 : ((l.drop i).take 1)[0]? = some (.int .i64 z) := by rw [e1]; rfl
    simpa using h0
  have ee : (Value.agg l.toArray).cells.toList = l := by simp [Value.cells]
  obtain ⟨k, h0⟩ := field 0 _ (by decide) ee (hfs 0 _ rfl) rfl rfl
  obtain ⟨t, h1⟩ := field 1 _ (by decide) ee (hfs 1 _ rfl) rfl rfl
  obtain ⟨u, h2⟩ := field 2 _ (by decide) ee (hfs 2 _ rfl) rfl rfl
  obtain ⟨w', h3⟩ := field 3 _ (by decide) ee (hfs 3 _ rfl) rfl rfl
  obtain ⟨x, h4⟩ := field 4 _ (by decide) ee (hfs 4 _ rfl) rfl rfl
  obtain ⟨y, h5⟩ := field 5 _ (by decide) ee (hfs 5 _ rfl) rfl rfl
  obtain ⟨z, h6⟩ := field 6 _ (by decide) ee (hfs 6 _ rfl) rfl rfl
  refine ⟨k, t, u, w', x, y, z, ?_⟩
  clear field hfs hf hl hsz hv ee
  match l, hl7 with
  | [a0, a1, a2, a3, a4, a5, a6], _ =>
    simp at h0 h1 h2 h3 h4 h5 h6
    subst h0 h1 h2 h3 h4 h5 h6
    rfl
theorem link_cells {H : Type} {enc : TypeId × Value → H} {W : World} {n : Nat} {cs : List Value} {x : DataW H × List MemPlace} (hc : cs.length = 6) (h : DataW.trod enc Try.prog W 0 (fun _ => true) true n 62 cs = some x) :
    ∃ e : Ls.Lk, cs = e.cells := by
  obtain ⟨xs, m, _, _, hl, hlen, hfs⟩ := DataW.trod_struct Try.underlying62 h
  have hlen : xs.length = 6 := hlen
  have field : ∀ (i : Nat) (f : Field), i < 6 → DataW.trod enc Try.prog W 0 (fun _ => true) true m f.type ((cs.drop f.offset).take (Try.prog.cellsOf f.type)) = xs[i]? → f.type = 3 → f.offset = i → ∃ z : Int, cs[i]? = some (.int .i64 z) := by
    intro i f hi hE h2 h3
    rw [h2, h3, cellsOfI, List.getElem?_eq_getElem (by omega)] at hE
    obtain ⟨z, e1, _, _⟩ := DataW.trod_int Try.underlying3 hE
    refine ⟨z, ?_⟩
    have h0 : ((cs.drop i).take 1)[0]? = some (.int .i64 z) := by rw [e1]; rfl
    simpa using h0
  obtain ⟨u, h0⟩ := field 0 _ (by decide) (hfs 0 _ rfl) rfl rfl
  obtain ⟨v, h1⟩ := field 1 _ (by decide) (hfs 1 _ rfl) rfl rfl
  obtain ⟨x1, h2⟩ := field 2 _ (by decide) (hfs 2 _ rfl) rfl rfl
  obtain ⟨y, h3⟩ := field 3 _ (by decide) (hfs 3 _ rfl) rfl rfl
  obtain ⟨z, h4⟩ := field 4 _ (by decide) (hfs 4 _ rfl) rfl rfl
  obtain ⟨t, h5⟩ := field 5 _ (by decide) (hfs 5 _ rfl) rfl rfl
  refine ⟨⟨u, v, x1, y, z, t⟩, ?_⟩
  clear field hfs h hl hlen
  match cs, hc with
  | [a0, a1, a2, a3, a4, a5], _ =>
    simp at h0 h1 h2 h3 h4 h5
    subst h0 h1 h2 h3 h4 h5
    rfl
set_option maxRecDepth 100000 in
theorem open_state {H : Type} {enc : TypeId × Value → H} {W : World} {base : Nat} {v : Value} {d : DataW H} {p : List MemPlace} (hv : Value.okWide Try.prog W .any base 24 v)
    (h : DataW.Trod enc Try.prog W 0 (fun _ => true) true 24 v d p) (hlt : ∀ x ∈ p, x.block < W.heap.size) :
    ∃ (n : Int) (A : Option Addr) (c : Nat) (l : List Ls.Lk), v = .agg #[.int .i64 n, .slice A l.length c] ∧ RL W.heap.size W A c l := by
  obtain ⟨v0, v1, y0, y1, n, rfl, rfl, rfl, h0, h1⟩ := Go.Joins.open_agg2 Try.underlying24 (by kernel_rfl) cellsOfS hv h
  obtain ⟨k, e0, -, -⟩ := DataW.trod_int Try.underlying3 h0
  obtain rfl : v0 = .int .i64 k := by simpa using e0
  rcases Go.Deep.open_slice Try.underlying22 h1 with ⟨hcs, -⟩ | ⟨a, len, cap, m, n, D, Pl, hcs, -, hl, -, hmm, rfl, hel⟩
  · obtain rfl : v1 = .slice none 0 0 := by simpa using hcs
    exact ⟨k, none, 0, [], rfl, RX.nil_ _ _ _ _⟩
  · obtain rfl : v1 = .slice (some a) len cap := by simpa using hcs
    simp only [if_true] at hmm
    subst hmm
    have each : ∀ i, i < m → ∃ e : Ls.Lk, ∀ r, r < 6 → W.cell? (a.add (i * 6 + r)) = e.cells[r]? := by
      intro i hi
      obtain ⟨cs', g1, g2⟩ := hel i hi
      rw [cellsOfL] at g1
      obtain ⟨-, hlen, hcell⟩ := World.cells?_some g1
      obtain ⟨e, rfl⟩ := link_cells hlen g2
      refine ⟨e, fun r hr => ?_⟩
      have := hcell r hr
      rw [Addr.add_add] at this
      exact this
    haveI : Inhabited Ls.Lk := ⟨⟨0, 0, 0, 0, 0, 0⟩⟩
    obtain ⟨V, hV⟩ := Go.Deep.choose_lt each
    obtain ⟨l, Hl⟩ : ∃ l, l = (List.range len).map V := ⟨_, rfl⟩
    have hll : l.length = len := by rw [Hl]; simp
    have hat : ∀ i, i < len → l[i]? = some (V i) := fun i hi => by rw [Hl]; simp [hi]
    refine ⟨k, some a, m, l, by rw [hll], by rw [hll]; exact hl, by rw [cl_len encL], fun hpos => ⟨a, rfl, ?_, fun j x hx => ?_⟩⟩
    · refine hlt (.cell a.block a.off) ?_
      rw [hll] at hpos
      exact List.mem_append_right _ (List.mem_append_left _ (MemPlace.mem_row.2 ⟨0, by rw [cellsOfL]; omega, by simp⟩))
    · have hj : j < len * 6 := by
        have := (List.getElem?_eq_some_iff.1 hx).1
        rw [cl_len encL, hll] at this; omega
      obtain ⟨q, r, rfl, hr⟩ : ∃ q r, j = q * 6 + r ∧ r < 6 := ⟨j / 6, j % 6, by omega, by omega⟩
      have hq : q < len := by omega
      have h5 := cl_at encL l q (V q) (hat q hq) r hr
      rw [hx] at h5
      rw [hV q (by omega) r hr]
      exact h5.symm
end Go.Proofs.Ytagkpkkbkeefbaa
