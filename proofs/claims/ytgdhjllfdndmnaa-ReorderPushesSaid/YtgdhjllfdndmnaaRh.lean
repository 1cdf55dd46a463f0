/-
  The queue of a buffer, and the errors of an event.
-/
import Derived.Test.YtgdhjllfdndmnaaRg
namespace Go.Proofs.Ytgdhjllfdndmnaa
open Go.RowKit Go.Lib

theorem ret_queue {fn : Func} {R : Ending → World → Prop} {a : Act} {w : World} {p : Nat} (hres : fn.results = #[.cell p 53]) (hd : a.defers = []) (g : Nat) (hp : a.tmps.getD p undef = .pointer (some ⟨g, 0, none⟩))
    {v0 v1 v2 v3 : Value} (hb : w.heap[g]? = some (.cells #[v0, v1, v2, v3] 53 (0, 0))) (h : R (.returned (.agg #[v0, v1, v2, v3])) w) : bodyPost Try.prog fn R .ret a w := by
  have hc := Go.Joins.cell_of_block hb
  have y0 := hc 0; have y1 := hc 1; have y2 := hc 2; have y3 := hc 3
  simp only [List.getElem?_toArray, List.getElem?_cons_succ, List.getElem?_cons_zero] at y0 y1 y2 y3
  have hp' : (a.tmps[p]?).getD undef = .pointer (some ⟨g, 0, none⟩) := by simpa using hp
  refine bodyPost_ret (v := .agg #[v0, v1, v2, v3]) ?_ hd h
  clear hp h hd hb hc
  simp [results, hres, go_sem, hp', y0, y1, y2, y3]
/-- a buffer, a value and an error that are returned -/
theorem ret_buf3 {fn : Func} {R : Ending → World → Prop} {a : Act} {w : World} {p q r : Nat} (hres : fn.results = #[.cell p 24, .tmp q, .tmp r]) (hd : a.defers = []) (g : Nat) (hp : a.tmps.getD p undef = .pointer (some ⟨g, 0, none⟩)) (x y : Value) (hq : a.tmps.getD q undef = x) (hr : a.tmps.getD r undef = y)
    {v0 v1 v2 v3 : Value} (hb : w.heap[g]? = some (.cells #[v0, v1, v2, v3] 24 (0, 0))) (h : R (.returned (.tuple #[.agg #[v0, v1, v2, v3], x, y])) w) : bodyPost Try.prog fn R .ret a w := by
  have hc := Go.Joins.cell_of_block hb
  have y0 := hc 0; have y1 := hc 1; have y2 := hc 2; have y3 := hc 3
  simp only [List.getElem?_toArray, List.getElem?_cons_succ, List.getElem?_cons_zero] at y0 y1 y2 y3
  have hp' : (a.tmps[p]?).getD undef = .pointer (some ⟨g, 0, none⟩) := by simpa using hp
  have hq' : (a.tmps[q]?).getD undef = x := by simpa using hq
  have hr' : (a.tmps[r]?).getD undef = y := by simpa using hr
  refine bodyPost_ret (v := .tuple #[.agg #[v0, v1, v2, v3], x, y]) ?_ hd h
  clear hp hq hr h hd hb hc
  simp [results, hres, go_sem, hp', hq', hr', y0, y1, y2, y3]
theorem ret_buf2 {fn : Func} {R : Ending → World → Prop} {a : Act} {w : World} {p r : Nat} (hres : fn.results = #[.cell p 24, .tmp r]) (hd : a.defers = []) (g : Nat) (hp : a.tmps.getD p undef = .pointer (some ⟨g, 0, none⟩)) (y : Value) (hr : a.tmps.getD r undef = y)
    {v0 v1 v2 v3 : Value} (hb : w.heap[g]? = some (.cells #[v0, v1, v2, v3] 24 (0, 0))) (h : R (.returned (.tuple #[.agg #[v0, v1, v2, v3], y])) w) : bodyPost Try.prog fn R .ret a w := by
  have hc := Go.Joins.cell_of_block hb
  have y0 := hc 0; have y1 := hc 1; have y2 := hc 2; have y3 := hc 3
  simp only [List.getElem?_toArray, List.getElem?_cons_succ, List.getElem?_cons_zero] at y0 y1 y2 y3
  have hp' : (a.tmps[p]?).getD undef = .pointer (some ⟨g, 0, none⟩) := by simpa using hp
  have hr' : (a.tmps[r]?).getD undef = y := by simpa using hr
  refine bodyPost_ret (v := .tuple #[.agg #[v0, v1, v2, v3], y]) ?_ hd h
  clear hp hr h hd hb hc
  simp [results, hres, go_sem, hp', hr', y0, y1, y2, y3]
theorem set4_blk {w : World} {g : Nat} {a0 a1 a2 a3 : Value} {T : TypeId} (h : w.heap[g]? = some (.cells #[a0, a1, a2, a3] T (0, 0))) (v0 v1 v2 v3 : Value) :
    ((((w.setCell ⟨g, 0, none⟩ v0).setCell ⟨g, 1, none⟩ v1).setCell ⟨g, 2, none⟩ v2).setCell ⟨g, 3, none⟩ v3).heap[g]? = some (.cells #[v0, v1, v2, v3] T (0, 0)) := by
  have := setCell_cells (setCell_cells (setCell_cells (setCell_cells h 0 v0) 1 v1) 2 v2) 3 v3
  rw [this]; rfl
theorem below_set4 {B g : Nat} {w w' : World} (h : Below B w w') (hg : B ≤ g) (v0 v1 v2 v3 : Value) : Below B w ((((w'.setCell ⟨g, 0, none⟩ v0).setCell ⟨g, 1, none⟩ v1).setCell ⟨g, 2, none⟩ v2).setCell ⟨g, 3, none⟩ v3) :=
  (((h.setCell (p := ⟨g, 0, none⟩) hg _).setCell (p := ⟨g, 1, none⟩) hg _).setCell (p := ⟨g, 2, none⟩) hg _).setCell (p := ⟨g, 3, none⟩) hg _
/-- the errors of an event, for a valid buffer -/
def chkQ (b : Rd.Bf) (e : Ev) : Int := if chkE e ≠ 0 then chkE e else if e.time ≤ b.mark then 10 else if 4096 ≤ b.wait.length then 3 else 0
theorem pushE_eq (b : Rd.Bf) (e : Ev) : Rd.pushE b e = if ¬ Rd.V b then 4 else chkQ b e := rfl
set_option maxHeartbeats 1000000 in
theorem check_any (base P : Nat) (A : Option Addr) (c : Nat) (n L M : Int) (l : List Ev) (k s u v x y z : Int) (w : World) (h : QB base P A c ⟨n, L, M, l⟩ w) :
    Calls Try.prog 28 #[.pointer (some ⟨P, 0, none⟩), .agg #[.int .i64 k, .int .i64 s, .int .i64 u, .int .i64 v, .int .i64 x, .int .i64 y, .int .i64 z]] w fun e w' => e = .returned (.int .i64 (chkQ ⟨n, L, M, l⟩ ⟨k, s, u, v, x, y, z⟩)) ∧ Below w.heap.size w w' := by
  obtain ⟨R, HR⟩ : ∃ R, Hid (chkQ ⟨n, L, M, l⟩ ⟨k, s, u, v, x, y, z⟩ = R) := ⟨_, rfl⟩
  rw [HR.out]
  have H1 := Lib.hid (h.go (below_new w (.cells #[.int .i64 k, .int .i64 s, .int .i64 u, .int .i64 v, .int .i64 x, .int .i64 y, .int .i64 z] 26)))
  have C := Lib.hid (fun w => check_anyE k s u v x y z w)
  have HRR : Hid (R = if chkE ⟨k, s, u, v, x, y, z⟩ ≠ 0 then chkE ⟨k, s, u, v, x, y, z⟩ else if s ≤ M then 10 else if 4096 ≤ l.length then 3 else 0) := HR.out.symm
  obtain ⟨X, HX⟩ : ∃ X, Hid (chkE ⟨k, s, u, v, x, y, z⟩ = X) := ⟨_, rfl⟩
  rw [HX.out] at HRR
  simp only [HX.out] at C
  clear HR HX h
  go_enter Try.func28, Try.ntmps28
  go_wp2_with fail
  refine (C.out _).mono ?_
  rintro e w2 ⟨rfl, hb2⟩
  have HB2 := Lib.hid (below_viaE hb2)
  obtain ⟨b0, b1, b2, b3, b4, b5, b6⟩ := box7 hb2
  have H2 := Lib.hid (H1.out.go hb2)
  obtain ⟨q0, q1, q2, q3⟩ := H2.out.cells
  dsimp only at q0 q1 q2 q3
  clear hb2 C b0 b2 b3 b4 b5 b6 q0 q1
  by_cases hX : X = 0
  · subst hX
    go_wp2_with fail
    go_quiet (fail)
    clear b1
    by_cases hM : s ≤ M
    · have d1 : decide (s ≤ M) = true := by simpa using hM
      obtain rfl : R = 10 := by rw [HRR.out, if_neg (by simp), if_pos hM]
      go_wp2
      go_ret
      exact ⟨rfl, HB2.out.trans ((below_drewN _ _).mono HB2.out.size)⟩
    · have d1 : decide (s ≤ M) = false := by simpa using hM
      by_cases hl : 4096 ≤ l.length
      · have d2 : decide ((l.length : Int) ≥ 4096) = true := by rw [decide_eq_true_eq]; omega
        obtain rfl : R = 3 := by rw [HRR.out, if_neg (by simp), if_neg hM, if_pos hl]
        go_wp2
        go_ret
        exact ⟨rfl, HB2.out.trans ((below_drewN _ _).mono HB2.out.size)⟩
      · have d2 : decide ((l.length : Int) ≥ 4096) = false := by rw [decide_eq_false_iff_not]; omega
        obtain rfl : R = 0 := by rw [HRR.out, if_neg (by simp), if_neg hM, if_neg hl]
        go_wp2
        go_ret
        exact ⟨rfl, HB2.out.trans ((below_drewN _ _).mono HB2.out.size)⟩
  · have d0 : (X != 0) = true := by simpa using hX
    obtain rfl : R = X := by rw [HRR.out, if_pos hX]
    go_wp2
    go_ret
    exact ⟨rfl, HB2.out⟩
set_option maxHeartbeats 1000000 in
theorem queueOf_any (n L M : Int) (A : Option Addr) (c : Nat) (l : List Ev) (w : World) (h : RV w.heap.size w A c l) (hl : l.length ≤ 65536) :
    Calls Try.prog 27 #[.agg #[.int .i64 n, .int .i64 L, .int .i64 M, .slice A l.length c]] w fun e w' => ∃ A1 c1, e = .returned (.agg #[.int .i64 n, .int .i64 L, .int .i64 M, .slice A1 l.length c1]) ∧ OW w.heap.size w' A1 c1 l ∧ Below w.heap.size w w' := by
  obtain ⟨W1, HW1⟩ : ∃ W1, Hid (W1 = (w.alloc (.cells #[.int .i64 n, .int .i64 L, .int .i64 M, .slice A l.length c] 24)).alloc (.cells #[.int .i64 0, .int .i64 0, .int .i64 0, .slice none 0 0] 53)) := ⟨_, rfl⟩
  obtain ⟨G, HGG⟩ : ∃ G, Hid (G = w.heap.size) := ⟨_, rfl⟩
  have HB1 : Hid (Below w.heap.size w W1) := by show Below _ _ _; rw [HW1.out]; exact (below_new _ _).trans ((below_new _ _).mono (by simp))
  have h0 : Hid (W1.heap[G]? = some (.cells #[.int .i64 n, .int .i64 L, .int .i64 M, .slice A l.length c] 24)) := by show _ = _; rw [HW1.out, HGG.out]; exact (Below.heap_alloc _ _ _ (by simp)).trans (heap_alloc_new _ _)
  have h1 : Hid (W1.heap[G + 1]? = some (.cells #[.int .i64 0, .int .i64 0, .int .i64 0, .slice none 0 0] 53)) := by
    show _ = _
    have := heap_alloc_new (w.alloc (.cells #[.int .i64 n, .int .i64 L, .int .i64 M, .slice A l.length c] 24)) (.cells #[.int .i64 0, .int .i64 0, .int .i64 0, .slice none 0 0] 53)
    rw [HW1.out, HGG.out]
    simpa using this
  have hs1 : Hid (W1.heap.size = G + 2) := by show _ = _; rw [HW1.out, HGG.out]; simp
  have C := Lib.hid (clone_any A c l W1 (h.up HB1.out) hl)
  clear h hl
  go_enter Try.func27, Try.ntmps27
  go_wp2_with fail
  rw [← HW1.out, ← HGG.out]
  refine C.out.mono ?_
  rintro e w2 ⟨A1, c1, rfl, ho, hb⟩
  have HO := Lib.hid ho
  have HB2 := Lib.hid hb
  have k0 := (hb.block G (by rw [hs1.out]; omega)).trans h0.out
  have k1 := (hb.block (G + 1) (by rw [hs1.out]; omega)).trans h1.out
  have K0 := Lib.hid k0; have K1 := Lib.hid k1
  have hs2 : Hid (G + 2 ≤ w2.heap.size) := by show _ ≤ _; rw [← hs1.out]; exact hb.size
  have c0 := Go.Joins.cell_of_block k0; have c1' := Go.Joins.cell_of_block k1
  have f0 := Go.Joins.unfrozen_of_block k0; have f1 := Go.Joins.unfrozen_of_block k1
  have a0 := c0 0; have a1 := c0 1; have a2 := c0 2; have a3 := c0 3
  have b0 := c1' 0; have b1 := c1' 1; have b2 := c1' 2; have b3 := c1' 3
  have z3 := f0 3
  have y0 := f1 0; have y1 := f1 1; have y2 := f1 2; have y3 := f1 3
  simp only [List.getElem?_toArray, List.getElem?_cons_succ, List.getElem?_cons_zero] at a0 a1 a2 a3 b0 b1 b2 b3
  have hne : ¬ G = G + 1 := by omega
  have hne2 : ¬ G + 1 = G := by omega
  clear ho hb C k0 k1 c0 c1' f0 f1
  go_wp2
  have K1' : (w2.setCell ⟨G, 3, none⟩ (.slice A1 l.length c1)).heap[G + 1]? = some (.cells #[.int .i64 0, .int .i64 0, .int .i64 0, .slice none 0 0] 53) := (Below.heap_setCell _ _ _ _ (by show G + 1 ≠ G; omega)).trans K1.out
  have hblk := set4_blk K1' (.int .i64 n) (.int .i64 L) (.int .i64 M) (.slice A1 l.length c1)
  have hT : Below G w2 _ := below_set4 (g := G + 1) ((Below.refl G w2).setCell (p := ⟨G, 3, none⟩) (Nat.le_refl _) (.slice A1 l.length c1)) (by omega) (.int .i64 n) (.int .i64 L) (.int .i64 M) (.slice A1 l.length c1)
  have hO : OW w.heap.size ((((((w2.setCell ⟨G, 3, none⟩ (.slice A1 l.length c1)).setCell ⟨G + 1, 0, none⟩ (.int .i64 n)).setCell ⟨G + 1, 1, none⟩ (.int .i64 L)).setCell ⟨G + 1, 2, none⟩ (.int .i64 M)).setCell ⟨G + 1, 3, none⟩ (.slice A1 l.length c1))) A1 c1 l := by
    have e1 : ∀ q, bk A1 c1 = some q → q ≠ G ∧ q ≠ G + 1 := fun q hq => by have := (HO.out.lt q hq).1; rw [hs1.out] at this; omega
    have st : ∀ (W : World) (g i : Nat) (v : Value), OW W1.heap.size W A1 c1 l → (g = G ∨ g = G + 1) → OW W1.heap.size (W.setCell ⟨g, i, none⟩ v) A1 c1 l := fun W g i v h hg => h.kept (r := some g) (Tw.set (i := i)).grownP (fun q hq e => by injection e with e; have := e1 q hq; omega)
    have := st _ (G + 1) 3 (.slice A1 l.length c1) (st _ (G + 1) 2 (.int .i64 M) (st _ (G + 1) 1 (.int .i64 L) (st _ (G + 1) 0 (.int .i64 n) (st _ G 3 (.slice A1 l.length c1) HO.out (.inl rfl)) (.inr rfl)) (.inr rfl)) (.inr rfl)) (.inr rfl)
    exact ⟨this.1, this.2.1, this.2.2.imp id (fun ⟨g, o, cur, h1, h2, h3⟩ => ⟨g, o, cur, h1, Nat.le_trans HB1.out.size h2, h3⟩)⟩
  exact ret_queue (p := 2) Try.results27 rfl (G + 1) rfl hblk ⟨A1, c1, rfl, hO, by rw [← HGG.out]; exact (below_le (HB1.out.trans (HB2.out.mono HB1.out.size)) (by rw [HGG.out]; exact Nat.le_refl _)).trans hT⟩
end Go.Proofs.Ytgdhjllfdndmnaa
