/-
  The example of the chapter.
-/
import Derived.Test.YtgdhjllfdndmnaaRm
namespace Go.Proofs.Ytgdhjllfdndmnaa
open Go.RowKit Go.Lib

theorem ret_event {fn : Func} {R : Ending → World → Prop} {a : Act} {w : World} {p : Nat} (hres : fn.results = #[.cell p 26]) (hd : a.defers = []) (g : Nat) (hp : a.tmps.getD p undef = .pointer (some ⟨g, 0, none⟩))
    {v0 v1 v2 v3 v4 v5 v6 : Value} (hb : w.heap[g]? = some (.cells #[v0, v1, v2, v3, v4, v5, v6] 26 (0, 0))) (h : R (.returned (.agg #[v0, v1, v2, v3, v4, v5, v6])) w) : bodyPost Try.prog fn R .ret a w :=
  ret_struct1 hres hd g hp hb h
set_option maxHeartbeats 1000000 in
theorem cut_any (t : Int) (w : World) : Calls Try.prog 25 #[.int .i64 t] w fun e w' => e = .returned (.agg #[.int .i64 2, .int .i64 t, .int .i64 0, .int .i64 1, .int .i64 0, .int .i64 0, .int .i64 0]) ∧ Below w.heap.size w w' := by
  go_enter Try.func25, Try.ntmps25
  go_wp2
  exact ret_event (p := 2) Try.results25 rfl w.heap.size rfl (heap_alloc_new _ _) ⟨rfl, below_new _ _⟩
def cutE (t : Int) : Ev := ⟨2, t, 0, 1, 0, 0, 0⟩
theorem awake_sort : sortF 2 [cutE 5, cutE 3, cutE 6, cutE 2] = ([cutE 3, cutE 5, cutE 6], 1, 0) := by decide +kernel
set_option maxHeartbeats 1000000 in
set_option maxRecDepth 100000 in
theorem awake_any (w : World) : Calls Try.prog 7 #[] w fun e w' => e = .returned (.bool true) ∧ Below w.heap.size w w' := by
  go_enter Try.func7, Try.ntmps7
  go_wp2_with fail
  refine (cut_any 5 _).mono ?_
  rintro e w1 ⟨rfl, hb1⟩
  have HB1 := Lib.hid hb1
  clear hb1
  go_wp2_with fail
  refine (cut_any 3 _).mono ?_
  rintro e w2 ⟨rfl, hb⟩
  have HB2 := Lib.hid (HB1.out.trans (hb.mono HB1.out.size))
  clear hb HB1
  go_wp2_with fail
  refine (cut_any 6 _).mono ?_
  rintro e w3 ⟨rfl, hb⟩
  have HB3 := Lib.hid (HB2.out.trans (hb.mono HB2.out.size))
  clear hb HB2
  go_wp2_with fail
  refine (cut_any 2 _).mono ?_
  rintro e w4 ⟨rfl, hb⟩
  have HB4 := Lib.hid (HB3.out.trans (hb.mono HB3.out.size))
  clear hb HB3
  have CS := Lib.hid (sort_any 2 (some ⟨w4.heap.size, 0, none⟩) 4 [cutE 5, cutE 3, cutE 6, cutE 2] _ (RX_new encE w4 [cutE 5, cutE 3, cutE 6, cutE 2] 26) (by simp))
  go_wp2_with fail
  refine CS.out.mono ?_
  rintro e w5 ⟨r, n, er, A, c, rfl, hs, hr, hb⟩
  rw [awake_sort] at hs
  injection hs with h1 h2
  injection h2 with h2 h3
  subst h1; subst h2; subst h3
  have HB5 : Hid (Below w.heap.size w w5) := HB4.out.trans (((below_new _ _).trans (hb.mono (by simp))).mono HB4.out.size)
  obtain ⟨b0, o0, a0, rfl, hb0, ha0, c0, c1, c2, c3, c4, c5, c6⟩ := RV.at_ (k := 0) hr (by simp)
  obtain ⟨b1, o1, a1, e1, hb1, ha1, d0, d1, d2, d3, d4, d5, d6⟩ := RV.at_ (k := 2) hr (by simp)
  injection e1 with e1
  injection e1 with e1 e2
  subst e1; subst e2
  simp at ha0 ha1
  subst ha0; subst ha1
  simp only [cutE, Nat.zero_mul, Nat.add_zero] at c1 d1
  clear c0 c2 c3 c4 c5 c6 d0 d2 d3 d4 d5 d6 hb hr CS
  go_wp2
  go_ret
  exact ⟨rfl, HB5.out⟩
end Go.Proofs.Ytgdhjllfdndmnaa
