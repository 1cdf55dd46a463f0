/-
  A buffer and an event among the parameters, opened.
-/
import Derived.Test.YtgdhjllfdndmnaaRy
import Derived.ProofKit
import Derived.OpenShut
import Derived.ChangeSame
import Derived.Lib.SmallJoins
import Derived.Deep.Slices
namespace Go.Proofs.Ytgdhjllfdndmnaa
open Go.ChangeShapes Go.WideShapes Go.ChangeAt Go.RowKit Go.Joins

theorem cellsOfI : Try.prog.cellsOf 3 = 1 := by kernel_rfl
theorem cellsOfE : Try.prog.cellsOf 26 = 7 := by kernel_rfl
theorem cellsOfB : Try.prog.cellsOf 24 = 4 := by kernel_rfl
set_option maxRecDepth 100000 in
theorem open_event {H : Type} {enc : TypeId × Value → H} {W : World} {base : Nat} {v : Value} {d : DataW H} {p : List MemPlace} (hv : Value.okWide Try.prog W .any base 26 v)
    (h : DataW.Trod enc Try.prog W 0 (fun _ => true) true 26 v d p) : ∃ k t u v' x y z : Int, v = .agg #[.int .i64 k, .int .i64 t, .int .i64 u, .int .i64 v', .int .i64 x, .int .i64 y, .int .i64 z] := by
  obtain ⟨cs, rfl, hsz⟩ := okWide_struct Try.underlying26 hv
  have hC : Try.prog.cellsOf 26 = 7 := by kernel_rfl
  obtain ⟨fuel, hf⟩ := h
  obtain ⟨xs, n, _, _, hl, hlen, hfs⟩ := DataW.trod_struct Try.underlying26 hf
  have hlen : xs.length = 7 := hlen
  obtain ⟨l, rfl⟩ : ∃ l : List Value, cs = l.toArray := ⟨cs.toList, by simp⟩
  have hl7 : l.length = 7 := by rw [← hC, ← hsz]; simp
  have field : ∀ (i : Nat) (f : Field), i < 7 → (Value.agg l.toArray).cells.toList = l → DataW.trod enc Try.prog W 0 (fun _ => true) true n f.type (((Value.agg l.toArray).cells.toList.drop f.offset).take (Try.prog.cellsOf f.type)) = xs[i]? → f.type = 3 → f.offset = i → ∃ z : Int, l[i]? = some (.int .i64 z) := by
    intro i f hi e0 hE h2 h3
    rw [h2, h3, cellsOfI, List.getElem?_eq_getElem (by omega)] at hE
    obtain ⟨z, e1, _, _⟩ := DataW.trod_int Try.underlying3 hE
    refine ⟨z, ?_⟩
    rw [e0] at e1
    have h0 : ((l.drop i).take 1)[0]? = some (.int .i64 z) := by rw [e1]; rfl
    simpa using h0
  have ee : (Value.agg l.toArray).cells.toList = l := by simp [Value.cells]
  obtain ⟨k, h0⟩ := field 0 _ (by decide) ee (hfs 0 _ rfl) rfl rfl
  obtain ⟨t, h1⟩ := field 1 _ (by decide) ee (hfs 1 _ rfl) rfl rfl
  obtain ⟨u, h2⟩ := field 2 _ (by decide) ee (hfs 2 _ rfl) rfl rfl
  obtain ⟨w', h3⟩ := field 3 _ (by decide) ee (hfs 3 _ rfl) rfl rfl
  obtain ⟨x, h4⟩ := field 4 _ (by decide) ee (hfs 4 _ rfl) rfl rfl
  obtain ⟨y, h5⟩ := field 5 _ (by decide) ee (hfs 5 _ rfl) rfl rfl
  obtain ⟨z, h6⟩ := field 6 _ (by decide) ee (hfs 6 _ rfl) rfl rfl
  refine ⟨k, t, u, w', x, y, z, ?_⟩
  clear field hfs hf hl hsz hv ee
  match l, hl7 with
  | [a0, a1, a2, a3, a4, a5, a6], _ =>
    simp at h0 h1 h2 h3 h4 h5 h6
    subst h0 h1 h2 h3 h4 h5 h6
    rfl
theorem event_cells {H : Type} {enc : TypeId × Value → H} {W : World} {n : Nat} {cs : List Value} {x : DataW H × List MemPlace} (hc : cs.length = 7) (h : DataW.trod enc Try.prog W 0 (fun _ => true) true n 26 cs = some x) :
    ∃ e : Ev, cs = e.cells := by
  obtain ⟨xs, m, _, _, hl, hlen, hfs⟩ := DataW.trod_struct Try.underlying26 h
  have hlen : xs.length = 7 := hlen
  have field : ∀ (i : Nat) (f : Field), i < 7 → DataW.trod enc Try.prog W 0 (fun _ => true) true m f.type ((cs.drop f.offset).take (Try.prog.cellsOf f.type)) = xs[i]? → f.type = 3 → f.offset = i → ∃ z : Int, cs[i]? = some (.int .i64 z) := by
    intro i f hi hE h2 h3
    rw [h2, h3, cellsOfI, List.getElem?_eq_getElem (by omega)] at hE
    obtain ⟨z, e1, _, _⟩ := DataW.trod_int Try.underlying3 hE
    refine ⟨z, ?_⟩
    have h0 : ((cs.drop i).take 1)[0]? = some (.int .i64 z) := by rw [e1]; rfl
    simpa using h0
  obtain ⟨k, h0⟩ := field 0 _ (by decide) (hfs 0 _ rfl) rfl rfl
  obtain ⟨t, h1⟩ := field 1 _ (by decide) (hfs 1 _ rfl) rfl rfl
  obtain ⟨u, h2⟩ := field 2 _ (by decide) (hfs 2 _ rfl) rfl rfl
  obtain ⟨v, h3⟩ := field 3 _ (by decide) (hfs 3 _ rfl) rfl rfl
  obtain ⟨x1, h4⟩ := field 4 _ (by decide) (hfs 4 _ rfl) rfl rfl
  obtain ⟨y, h5⟩ := field 5 _ (by decide) (hfs 5 _ rfl) rfl rfl
  obtain ⟨z, h6⟩ := field 6 _ (by decide) (hfs 6 _ rfl) rfl rfl
  refine ⟨⟨k, t, u, v, x1, y, z⟩, ?_⟩
  clear field hfs h hl hlen
  match cs, hc with
  | [a0, a1, a2, a3, a4, a5, a6], _ =>
    simp at h0 h1 h2 h3 h4 h5 h6
    subst h0 h1 h2 h3 h4 h5 h6
    rfl
set_option maxRecDepth 100000 in
theorem open_buffer {H : Type} {enc : TypeId × Value → H} {W : World} {base : Nat} {v : Value} {d : DataW H} {p : List MemPlace} (hv : Value.okWide Try.prog W .any base 24 v)
    (h : DataW.Trod enc Try.prog W 0 (fun _ => true) true 24 v d p) (hlt : ∀ x ∈ p, x.block < W.heap.size) :
    ∃ (n L M : Int) (A : Option Addr) (c : Nat) (l : List Ev), v = .agg #[.int .i64 n, .int .i64 L, .int .i64 M, .slice A l.length c] ∧ RV W.heap.size W A c l := by
  obtain ⟨v0, v1, v2, v3, y0, y1, y2, y3, n, rfl, rfl, rfl, h0, h1, h2, h3⟩ := Go.Joins.open_agg4 Try.underlying24 (by kernel_rfl) cellsOfB hv h
  obtain ⟨k0, e0, -, -⟩ := DataW.trod_int Try.underlying3 h0
  obtain rfl : v0 = .int .i64 k0 := by simpa using e0
  obtain ⟨k1, e1, -, -⟩ := DataW.trod_int Try.underlying3 h1
  obtain rfl : v1 = .int .i64 k1 := by simpa using e1
  obtain ⟨k2, e2, -, -⟩ := DataW.trod_int Try.underlying3 h2
  obtain rfl : v2 = .int .i64 k2 := by simpa using e2
  rcases Go.Deep.open_slice Try.underlying22 h3 with ⟨hcs, -⟩ | ⟨a, len, cap, m, n, D, Pl, hcs, -, hl, -, hmm, rfl, hel⟩
  · obtain rfl : v3 = .slice none 0 0 := by simpa using hcs
    exact ⟨k0, k1, k2, none, 0, [], rfl, RX.nil_ _ _ _ _⟩
  · obtain rfl : v3 = .slice (some a) len cap := by simpa using hcs
    simp only [if_true] at hmm
    subst hmm
    have each : ∀ i, i < m → ∃ e : Ev, ∀ r, r < 7 → W.cell? (a.add (i * 7 + r)) = e.cells[r]? := by
      intro i hi
      obtain ⟨cs', g1, g2⟩ := hel i hi
      rw [cellsOfE] at g1
      obtain ⟨-, hlen, hcell⟩ := World.cells?_some g1
      obtain ⟨e, rfl⟩ := event_cells hlen g2
      refine ⟨e, fun r hr => ?_⟩
      have := hcell r hr
      rw [Addr.add_add] at this
      exact this
    haveI : Inhabited Ev := ⟨⟨0, 0, 0, 0, 0, 0, 0⟩⟩
    obtain ⟨V, hV⟩ := Go.Deep.choose_lt each
    obtain ⟨l, Hl⟩ : ∃ l, l = (List.range len).map V := ⟨_, rfl⟩
    have hll : l.length = len := by rw [Hl]; simp
    have hat : ∀ i, i < len → l[i]? = some (V i) := fun i hi => by rw [Hl]; simp [hi]
    refine ⟨k0, k1, k2, some a, m, l, by rw [hll], by rw [hll]; exact hl, by rw [cl_len encE], fun hpos => ⟨a, rfl, ?_, fun j x hx => ?_⟩⟩
    · refine hlt (.cell a.block a.off) ?_
      rw [hll] at hpos
      exact List.mem_append_right _ (List.mem_append_right _ (List.mem_append_right _ (List.mem_append_left _ (MemPlace.mem_row.2 ⟨0, by rw [cellsOfE]; omega, by simp⟩))))
    · have hj : j < len * 7 := by
        have := (List.getElem?_eq_some_iff.1 hx).1
        rw [cl_len encE, hll] at this; omega
      obtain ⟨q, r, rfl, hr⟩ : ∃ q r, j = q * 7 + r ∧ r < 7 := ⟨j / 7, j % 7, by omega, by omega⟩
      have hq : q < len := by omega
      have h5 := cl_at encE l q (V q) (hat q hq) r hr
      rw [hx] at h5
      rw [hV q (by omega) r hr]
      exact h5.symm
end Go.Proofs.Ytgdhjllfdndmnaa
