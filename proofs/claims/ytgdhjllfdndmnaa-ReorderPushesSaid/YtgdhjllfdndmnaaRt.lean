/-
  The reference's Open, copied and Same.
-/
import Derived.Test.YtgdhjllfdndmnaaRs
namespace Go.Proofs.Ytgdhjllfdndmnaa
open Go.RowKit Go.Lib

set_option maxHeartbeats 1000000 in
theorem ropen_any (n : Int) (w : World) : Calls Try.prog 12 #[.int .i64 n] w fun e w' => e = .returned (.tuple #[.agg #[.int .i64 (openB n).bound, .int .i64 (openB n).latest, .int .i64 (openB n).mark, .slice none 0 0], .int .i64 (openE n)]) ∧ Below w.heap.size w w' := by
  by_cases h : 0 ≤ n ∧ n ≤ 1048576
  · have hok : okB n = true := by simp [okB]; omega
    have e1 : openB n = ⟨n, -1, -1, []⟩ := by rw [openB, if_pos hok]; rfl
    have e2 : openE n = 0 := by rw [openE, if_pos hok]
    rw [e1, e2]
    have q1 : decide (n < 0) = false := by rw [decide_eq_false_iff_not]; omega
    have q2 : decide (n > 1048576) = false := by rw [decide_eq_false_iff_not]; omega
    clear h hok e1 e2
    go_enter Try.func12, Try.ntmps12
    go_wp2
    exact ret_buf2 (p := 2) (r := 3) Try.results12 rfl w.heap.size rfl _ rfl (heap_alloc_new _ _) ⟨rfl, below_new _ _⟩
  · have hok : okB n = false := by simp [okB]; omega
    have e1 : openB n = ⟨0, 0, 0, []⟩ := by rw [openB, if_neg (by rw [hok]; decide)]
    have e2 : openE n = 1 := by rw [openE, if_neg (by rw [hok]; decide)]
    rw [e1, e2]
    rcases (by omega : n < 0 ∨ (0 ≤ n ∧ n > 1048576)) with h1 | ⟨h0, h1⟩
    · have q1 : decide (n < 0) = true := by rw [decide_eq_true_eq]; omega
      clear h hok e1 e2
      go_enter Try.func12, Try.ntmps12
      go_wp2
      exact ret_buf2 (p := 2) (r := 3) Try.results12 rfl w.heap.size rfl _ rfl (heap_alloc_new _ _) ⟨rfl, below_new _ _⟩
    · have q1 : decide (n < 0) = false := by rw [decide_eq_false_iff_not]; omega
      have q2 : decide (n > 1048576) = true := by rw [decide_eq_true_eq]; omega
      clear h hok e1 e2
      go_enter Try.func12, Try.ntmps12
      go_wp2
      exact ret_buf2 (p := 2) (r := 3) Try.results12 rfl w.heap.size rfl _ rfl (heap_alloc_new _ _) ⟨rfl, below_new _ _⟩
theorem ret_buf1 {fn : Func} {R : Ending → World → Prop} {a : Act} {w : World} {p : Nat} (hres : fn.results = #[.cell p 24]) (hd : a.defers = []) (g : Nat) (hp : a.tmps.getD p undef = .pointer (some ⟨g, 0, none⟩))
    {v0 v1 v2 v3 : Value} (hb : w.heap[g]? = some (.cells #[v0, v1, v2, v3] 24 (0, 0))) (h : R (.returned (.agg #[v0, v1, v2, v3])) w) : bodyPost Try.prog fn R .ret a w := by
  have hc := Go.Joins.cell_of_block hb
  have y0 := hc 0; have y1 := hc 1; have y2 := hc 2; have y3 := hc 3
  simp only [List.getElem?_toArray, List.getElem?_cons_succ, List.getElem?_cons_zero] at y0 y1 y2 y3
  have hp' : (a.tmps[p]?).getD undef = .pointer (some ⟨g, 0, none⟩) := by simpa using hp
  refine bodyPost_ret (v := .agg #[v0, v1, v2, v3]) ?_ hd h
  clear hp h hd hb hc
  simp [results, hres, go_sem, hp', y0, y1, y2, y3]
theorem two_boxes {w w6 : World} {a0 a1 a2 a3 b0 b1 b2 b3 : Value} {T U : TypeId} {B : Nat} (hb : Below B ((w.alloc (.cells #[a0, a1, a2, a3] T)).alloc (.cells #[b0, b1, b2, b3] U)) w6) (hB : B = w.heap.size + 2) :
    (w6.heap[w.heap.size]? = some (.cells #[a0, a1, a2, a3] T (0, 0)) ∧ w6.heap[w.heap.size + 1]? = some (.cells #[b0, b1, b2, b3] U (0, 0)) ∧ w.heap.size + 2 ≤ w6.heap.size) ∧
    w6.cell? ⟨w.heap.size, 0, none⟩ = some a0 ∧ w6.cell? ⟨w.heap.size, 1, none⟩ = some a1 ∧ w6.cell? ⟨w.heap.size, 2, none⟩ = some a2 ∧ w6.cell? ⟨w.heap.size, 3, none⟩ = some a3 ∧ w6.frozen? ⟨w.heap.size, 3, none⟩ = false ∧
    w6.frozen? ⟨w.heap.size + 1, 0, none⟩ = false ∧ w6.frozen? ⟨w.heap.size + 1, 1, none⟩ = false ∧ w6.frozen? ⟨w.heap.size + 1, 2, none⟩ = false ∧ w6.frozen? ⟨w.heap.size + 1, 3, none⟩ = false ∧
    w6.cell? ⟨w.heap.size + 1, 0, none⟩ = some b0 ∧ w6.cell? ⟨w.heap.size + 1, 1, none⟩ = some b1 ∧ w6.cell? ⟨w.heap.size + 1, 2, none⟩ = some b2 ∧ w6.cell? ⟨w.heap.size + 1, 3, none⟩ = some b3 := by
  subst hB
  obtain ⟨h0, h1, h2, -⟩ := new_two w (.cells #[a0, a1, a2, a3] T) (.cells #[b0, b1, b2, b3] U)
  have k0 := (hb.block w.heap.size (by omega)).trans h0
  have k1 := (hb.block (w.heap.size + 1) (by omega)).trans h1
  have hs := hb.size
  rw [h2] at hs
  exact ⟨⟨k0, k1, hs⟩, Go.Joins.cell_of_block k0 0, Go.Joins.cell_of_block k0 1, Go.Joins.cell_of_block k0 2, Go.Joins.cell_of_block k0 3, Go.Joins.unfrozen_of_block k0 3, Go.Joins.unfrozen_of_block k1 0, Go.Joins.unfrozen_of_block k1 1, Go.Joins.unfrozen_of_block k1 2, Go.Joins.unfrozen_of_block k1 3, Go.Joins.cell_of_block k1 0, Go.Joins.cell_of_block k1 1, Go.Joins.cell_of_block k1 2, Go.Joins.cell_of_block k1 3⟩
set_option maxHeartbeats 1000000 in
set_option maxRecDepth 100000 in
theorem copied_any (n L M : Int) (A : Option Addr) (c : Nat) (l : List Ev) (w : World) (h : RV w.heap.size w A c l) (hl : l.length ≤ 65536) :
    Calls Try.prog 31 #[.agg #[.int .i64 n, .int .i64 L, .int .i64 M, .slice A l.length c]] w fun e w' => ∃ A1 c1, e = .returned (.agg #[.int .i64 n, .int .i64 L, .int .i64 M, .slice A1 l.length c1]) ∧ OW w.heap.size w' A1 c1 l ∧ Below w.heap.size w w' := by
  have hn2 := new_two w (.cells #[.int .i64 n, .int .i64 L, .int .i64 M, .slice A l.length c] 24) (.cells #[.int .i64 0, .int .i64 0, .int .i64 0, .slice none 0 0] 24)
  have HB1 := Lib.hid hn2.2.2.2
  have HS1 := Lib.hid hn2.2.2.1
  have H1 := Lib.hid (h.up hn2.2.2.2)
  have HO : Hid (((w.alloc (.cells #[.int .i64 n, .int .i64 L, .int .i64 M, .slice A l.length c] 24)).alloc (.cells #[.int .i64 0, .int .i64 0, .int .i64 0, .slice none 0 0] 24)).ownsRow (w.heap.size + 2) 26 7 (.slice none ([] : List Ev).length 0) ([] : List Ev).length (cl Ev.cells [])) := World.ownsRow_nil _ _ _ _
  have HSZ : Hid (w.heap.size + 2 ≤ ((w.alloc (.cells #[.int .i64 n, .int .i64 L, .int .i64 M, .slice A l.length c] 24)).alloc (.cells #[.int .i64 0, .int .i64 0, .int .i64 0, .slice none 0 0] 24)).heap.size) := by show _ ≤ _; rw [hn2.2.2.1]; exact Nat.le_refl _
  have hne : ¬ w.heap.size = w.heap.size + 1 := by omega
  have hne2 : ¬ w.heap.size + 1 = w.heap.size := by omega
  clear hn2 h
  go_enter Try.func31, Try.ntmps31
  go_wp2_with (at_builtin; (refine wpList_applV _ rfl (.const (.slice none 0 0)) (.tmp 4) (w.heap.size + 2) none 0 rfl [] (by simp [Act.eval]) HO.out A c l.length l rfl (by simp [Act.eval]) H1.out (by simp; omega) HSZ.out ?_; intro A6 c6 w6 HO6 HB6 HG6; obtain ⟨hbx, a0, a1, a2, a3, az3, y0, y1, y2, y3, b0, b1, b2, b3⟩ := two_boxes HB6.out rfl; have HBX := Lib.hid hbx; clear hbx))
  have hblk0 : ((w6.setCell ⟨w.heap.size, 3, none⟩ (.slice A6 l.length c6))).heap[w.heap.size + 1]? = some (.cells #[.int .i64 0, .int .i64 0, .int .i64 0, .slice none 0 0] 24 (0, 0)) := (Below.heap_setCell _ _ _ _ (by show w.heap.size + 1 ≠ w.heap.size; omega)).trans HBX.out.2.1
  have hblk := set4_blk hblk0 (.int .i64 n) (.int .i64 L) (.int .i64 M) (.slice A6 l.length c6)
  have hT : Below w.heap.size w _ := below_set4 (g := w.heap.size + 1) ((HB1.out.trans (below_le HB6.out (by omega))).setCell (p := ⟨w.heap.size, 3, none⟩) (Nat.le_refl _) (.slice A6 l.length c6)) (by omega) (.int .i64 n) (.int .i64 L) (.int .i64 M) (.slice A6 l.length c6)
  simp only [List.nil_append] at HO6
  have hO : OW w.heap.size ((((((w6.setCell ⟨w.heap.size, 3, none⟩ (.slice A6 l.length c6)).setCell ⟨w.heap.size + 1, 0, none⟩ (.int .i64 n)).setCell ⟨w.heap.size + 1, 1, none⟩ (.int .i64 L)).setCell ⟨w.heap.size + 1, 2, none⟩ (.int .i64 M)).setCell ⟨w.heap.size + 1, 3, none⟩ (.slice A6 l.length c6))) A6 c6 l := by
    have h6 : OW (w.heap.size + 2) w6 A6 c6 l := OW.of_own HO6.out
    have h7 : OW (w.heap.size + 2) (w6.setCell ⟨w.heap.size, 3, none⟩ (.slice A6 l.length c6)) A6 c6 l := h6.kept (r := some w.heap.size) (Tw.set (i := 3)).grownP (fun q hq e => by injection e with e; have := (h6.lt q hq).1; omega)
    exact (ow_box hblk0 _ _ _ _ h7).lo (by omega)
  exact ret_buf1 (p := 2) Try.results31 rfl (w.heap.size + 1) rfl hblk ⟨A6, c6, rfl, hO, hT⟩
/-- two buffers with the same numbers and the same events -/
theorem sameB_any (n L M : Int) (A1 A2 : Option Addr) (c1 c2 : Nat) (l : List Ev) (w : World) (h1 : RV w.heap.size w A1 c1 l) (h2 : RV w.heap.size w A2 c2 l) (hl : l.length ≤ 1000000) :
    Calls Try.prog 13 #[.agg #[.int .i64 n, .int .i64 L, .int .i64 M, .slice A1 l.length c1], .agg #[.int .i64 n, .int .i64 L, .int .i64 M, .slice A2 l.length c2]] w fun e w' => e = .returned (.bool true) ∧ Below w.heap.size w w' := by
  have hn2 := new_two w (.cells #[.int .i64 n, .int .i64 L, .int .i64 M, .slice A1 l.length c1] 24) (.cells #[.int .i64 n, .int .i64 L, .int .i64 M, .slice A2 l.length c2] 24)
  have HB1 := Lib.hid hn2.2.2.2
  have CS := Lib.hid (same_any A1 A2 c1 c2 l _ (h1.up hn2.2.2.2) (h2.up hn2.2.2.2) hl)
  clear hn2 h1 h2
  go_enter Try.func13, Try.ntmps13
  go_wp2_with fail
  refine CS.out.mono ?_
  rintro e w2 ⟨rfl, hb⟩
  have HB2 := Lib.hid (HB1.out.trans (hb.mono HB1.out.size))
  clear hb CS
  go_wp2
  go_ret
  exact ⟨rfl, HB2.out⟩
end Go.Proofs.Ytgdhjllfdndmnaa
