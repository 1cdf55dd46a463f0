/-
  An event among the parameters, opened.
-/
import Derived.Test.YtnohmgmpabckkaaDoorUf
import Derived.Test.YtnohmgmpabckkaaDoorVy
namespace Go.Proofs.YtnohmgmpabckkaaDoor
open Go.ChangeShapes Go.WideShapes Go.ChangeAt Go.RowKit Go.Joins

set_option maxRecDepth 100000 in
theorem open_event {H : Type} {enc : TypeId × Value → H} {W : World} {base : Nat} {v : Value} {d : DataW H} {p : List MemPlace} (hv : Value.okWide Tryd.prog W .any base 23 v)
    (h : DataW.Trod enc Tryd.prog W 0 (fun _ => true) true 23 v d p) : ∃ e : Ev, v = .agg #[.int .i64 e.kind, .int .i64 e.time, .int .i64 e.u, .int .i64 e.v, .int .i64 e.weight, .int .i64 e.label, .int .i64 e.sign] := by
  obtain ⟨cs, rfl, hsz⟩ := okWide_struct Tryd.underlying23 hv
  have hC : Tryd.prog.cellsOf 23 = 7 := by kernel_rfl
  obtain ⟨fuel, hf⟩ := h
  obtain ⟨xs, n, _, _, hl, hlen, hfs⟩ := DataW.trod_struct Tryd.underlying23 hf
  have hlen : xs.length = 7 := hlen
  obtain ⟨l, rfl⟩ : ∃ l : List Value, cs = l.toArray := ⟨cs.toList, by simp⟩
  have hl7 : l.length = 7 := by rw [← hC, ← hsz]; simp
  have field : ∀ (i : Nat) (f : Field), i < 7 → (#[{ name := "Kind", type := 3, offset := 0, embedded := false, tag := "", pkgPath := "", byteOffset := 0 }, { name := "Time", type := 3, offset := 1, embedded := false, tag := "", pkgPath := "", byteOffset := 8 },
        { name := "U", type := 3, offset := 2, embedded := false, tag := "", pkgPath := "", byteOffset := 16 }, { name := "V", type := 3, offset := 3, embedded := false, tag := "", pkgPath := "", byteOffset := 24 },
        { name := "Weight", type := 3, offset := 4, embedded := false, tag := "", pkgPath := "", byteOffset := 32 }, { name := "Label", type := 3, offset := 5, embedded := false, tag := "", pkgPath := "", byteOffset := 40 },
        { name := "Sign", type := 3, offset := 6, embedded := false, tag := "", pkgPath := "", byteOffset := 48 }] : Array Field)[i]? = some f → f.type = 3 → f.offset = i → ∃ z : Int, l[i]? = some (.int .i64 z) := by
    intro i f hi h1 h2 h3
    have hE := hfs i f h1
    rw [h2, h3, cells3, List.getElem?_eq_getElem (by omega)] at hE
    obtain ⟨z, e1, _, _⟩ := DataW.trod_int Tryd.underlying3 hE
    refine ⟨z, ?_⟩
    have e0 : (Value.agg l.toArray).cells.toList = l := by simp [Value.cells]
    rw [e0] at e1
    have h0 : ((l.drop i).take 1)[0]? = some (.int .i64 z) := by rw [e1]; rfl
    simpa using h0
  obtain ⟨k, h0⟩ := field 0 _ (by decide) rfl rfl rfl
  obtain ⟨t, h1⟩ := field 1 _ (by decide) rfl rfl rfl
  obtain ⟨u, h2⟩ := field 2 _ (by decide) rfl rfl rfl
  obtain ⟨w', h3⟩ := field 3 _ (by decide) rfl rfl rfl
  obtain ⟨x, h4⟩ := field 4 _ (by decide) rfl rfl rfl
  obtain ⟨y, h5⟩ := field 5 _ (by decide) rfl rfl rfl
  obtain ⟨z, h6⟩ := field 6 _ (by decide) rfl rfl rfl
  refine ⟨⟨k, t, u, w', x, y, z⟩, ?_⟩
  clear field hfs hf hl hsz hv
  match l, hl7 with
  | [a0, a1, a2, a3, a4, a5, a6], _ =>
    simp at h0 h1 h2 h3 h4 h5 h6
    subst h0 h1 h2 h3 h4 h5 h6
    rfl
end Go.Proofs.YtnohmgmpabckkaaDoor
