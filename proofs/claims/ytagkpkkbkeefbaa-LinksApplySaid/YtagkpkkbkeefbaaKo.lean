/-
  Apply of package links.
-/
import Derived.Test.YtagkpkkbkeefbaaKn
namespace Go.Proofs.Ytagkpkkbkeefbaa
open Go.RowKit Go.Lib

namespace Ls
/-- the error of an event for a state of n nodes -/
def chkEv (n : Int) (e : Ev) : Int := if chkE e ≠ 0 then chkE e else if n ≤ e.u ∨ n ≤ e.v then 6 else 0
/-- the error of Apply -/
def apE (n : Int) (l : List Lk) (e : Ev) : Int := if chkS n l ≠ 0 then chkS n l else chkEv n e
theorem chkEv_good (n : Int) (e : Ev) : chkEv n e = 0 ↔ Good n e := by
  unfold chkEv Good
  by_cases h : chkE e = 0
  · rw [if_neg (by simpa using h)]
    split
    · next h1 => simp; omega
    · next h1 => simp [h]; omega
  · rw [if_pos h]; simp [h]
theorem apE_zero (n : Int) (l : List Lk) (e : Ev) : apE n l e = 0 ↔ V n l ∧ Good n e := by
  unfold apE
  by_cases h : chkS n l = 0
  · rw [if_neg (by simpa using h), chkEv_good, ← chkS_zero]; simp [h]
  · rw [if_pos h, ← chkS_zero]; simp [h]
end Ls
theorem new_three (w : World) (o1 o2 o3 : Obj) (W : World) (hW : ((w.alloc o1).alloc o2).alloc o3 = W) : W.heap[w.heap.size]? = some o1 ∧ W.heap[w.heap.size + 1]? = some o2 ∧ W.heap[w.heap.size + 2]? = some o3 ∧ W.heap.size = w.heap.size + 3 ∧ Below w.heap.size w W := by
  subst hW
  obtain ⟨a, b, c, d⟩ := new_two w o1 o2
  have e : (((w.alloc o1).alloc o2).alloc o3).heap.size = w.heap.size + 3 := by simp
  refine ⟨(Below.heap_alloc _ _ _ (by omega)).trans a, (Below.heap_alloc _ _ _ (by omega)).trans b, ?_, e, d.trans ((below_new _ _).mono (by omega))⟩
  have := heap_alloc_new ((w.alloc o1).alloc o2) o3
  rwa [c] at this
/-- a state, a value and an error that are returned -/
theorem ret_state3 {fn : Func} {R : Ending → World → Prop} {a : Act} {w : World} {p q r : Nat} (hres : fn.results = #[.cell p 24, .tmp q, .tmp r]) (hd : a.defers = []) (g : Nat) (hp : a.tmps.getD p undef = .pointer (some ⟨g, 0, none⟩)) (x y : Value) (hq : a.tmps.getD q undef = x) (hr : a.tmps.getD r undef = y)
    {v0 v1 : Value} (hb : w.heap[g]? = some (.cells #[v0, v1] 24 (0, 0))) (h : R (.returned (.tuple #[.agg #[v0, v1], x, y])) w) : bodyPost Try.prog fn R .ret a w := by
  have hc := Go.Joins.cell_of_block hb
  have y0 := hc 0; have y1 := hc 1
  simp only [List.getElem?_toArray, List.getElem?_cons_succ, List.getElem?_cons_zero] at y0 y1
  have hp' : (a.tmps[p]?).getD undef = .pointer (some ⟨g, 0, none⟩) := by simpa using hp
  have hq' : (a.tmps[q]?).getD undef = x := by simpa using hq
  have hr' : (a.tmps[r]?).getD undef = y := by simpa using hr
  refine bodyPost_ret (v := .tuple #[.agg #[v0, v1], x, y]) ?_ hd h
  clear hp hq hr h hd hb hc
  simp [results, hres, go_sem, hp', hq', hr', y0, y1]
/-- what Apply answers -/
def ApplyP (n : Int) (l : List Ls.Lk) (e : Ev) (w : World) (en : Ending) (w' : World) : Prop :=
  ∃ (n' : Int) (l' : List Ls.Lk) (ev : List Ev) (A' A1 : Option Addr) (c' c1 : Nat), en = .returned (.tuple #[.agg #[.int .i64 n', .slice A' l'.length c'], .slice A1 ev.length c1, .int .i64 (Ls.apE n l e)]) ∧
    (if Ls.apE n l e = 0 then n' = n ∧ l' = Ls.nextL l e ∧ ev = Ls.chg l e else n' = 0 ∧ l' = [] ∧ ev = []) ∧ RL w'.heap.size w' A' c' l' ∧ RV w'.heap.size w' A1 c1 ev ∧ Below w.heap.size w w'
set_option maxHeartbeats 8000000 in
set_option maxRecDepth 100000 in
theorem lapply_any (n : Int) (A : Option Addr) (c : Nat) (l : List Ls.Lk) (k t u v x y z : Int) (w : World) (h : RL w.heap.size w A c l) (hl : l.length ≤ 60000) :
    Calls Try.prog 15 #[.agg #[.int .i64 n, .slice A l.length c], .agg #[.int .i64 k, .int .i64 t, .int .i64 u, .int .i64 v, .int .i64 x, .int .i64 y, .int .i64 z]] w (ApplyP n l ⟨k, t, u, v, x, y, z⟩ w) := by
  obtain ⟨W1, hW1⟩ : ∃ W1, ((w.alloc (.cells #[.int .i64 n, .slice A l.length c] 24)).alloc (.cells #[.int .i64 k, .int .i64 t, .int .i64 u, .int .i64 v, .int .i64 x, .int .i64 y, .int .i64 z] 26)).alloc (.cells #[.int .i64 0, .slice none 0 0] 24) = W1 := ⟨_, rfl⟩
  obtain ⟨n0, n1, n2, n3, n4⟩ := new_three w _ _ _ W1 hW1
  obtain ⟨G, hG⟩ : ∃ G, Hid (w.heap.size = G) := ⟨_, rfl⟩
  have HW1 := Lib.hid hW1
  have HB1 := Lib.hid n4
  have H1 := Lib.hid (h.up n4)
  rw [hG.out] at n0 n1 n2 n3
  have N0 := Lib.hid n0; have N1 := Lib.hid n1; have N2 := Lib.hid n2; have N3 := Lib.hid n3
  have C13 := Lib.hid (lcheck_any n A c l W1 H1.out (by omega))
  have s0 := Go.Joins.cell_of_block n0 0; have s1 := Go.Joins.cell_of_block n0 1
  simp only [List.getElem?_toArray, List.getElem?_cons_succ, List.getElem?_cons_zero] at s0 s1
  clear h hW1 n4 n0 n1 n2
  obtain ⟨R, HR⟩ : ∃ R, Hid (Ls.chkS n l = R) := ⟨_, rfl⟩
  simp only [HR.out] at C13
  go_enter Try.func15, Try.ntmps15
  go_wp2_with fail
  rw [HW1.out]
  simp only [hG.out]
  refine C13.out.mono ?_
  rintro e w2 ⟨rfl, hb2⟩
  have B2 := Lib.hid hb2
  clear hb2 C13 s0 s1
  by_cases hR : R = 0
  · subst hR
    have HV := Lib.hid ((Ls.chkS_zero n l).1 HR.out)
    have n0 := (B2.out.block G (by rw [N3.out]; omega)).trans N0.out
    have s0 := Go.Joins.cell_of_block n0 0; have s1 := Go.Joins.cell_of_block n0 1
    have n1 := (B2.out.block (G + 1) (by rw [N3.out]; omega)).trans N1.out
    have hev := Go.Joins.cell_of_block n1
    have e0 := hev 0; have e1 := hev 1; have e2 := hev 2; have e3 := hev 3; have e4 := hev 4; have e5 := hev 5; have e6 := hev 6
    simp only [List.getElem?_toArray, List.getElem?_cons_succ, List.getElem?_cons_zero] at s0 s1 e0 e1 e2 e3 e4 e5 e6
    have hs2 : G + 3 ≤ w2.heap.size := by have := B2.out.size; rw [N3.out] at this; exact this
    have C37 := Lib.hid (checkEvent_any n k t u v x y z w2)
    obtain ⟨R2, HR2⟩ : ∃ R2, Hid (Ls.chkEv n ⟨k, t, u, v, x, y, z⟩ = R2) := ⟨_, rfl⟩
    have HAE : Hid (Ls.apE n l ⟨k, t, u, v, x, y, z⟩ = R2) := by show _ = _; rw [Ls.apE, HR.out, if_neg (by decide), HR2.out]
    rw [show (if chkE ⟨k, t, u, v, x, y, z⟩ ≠ 0 then chkE ⟨k, t, u, v, x, y, z⟩ else if n ≤ u ∨ n ≤ v then 6 else 0) = R2 from HR2.out] at C37
    clear hev n0 n1
    go_wp2_with fail
    refine C37.out.mono ?_
    rintro e w3 ⟨rfl, hb3⟩
    have B3 := Lib.hid (B2.out.trans (hb3.mono B2.out.size))
    have B23 := Lib.hid hb3
    clear hb3 C37 s0 s1 e0 e1 e2 e3 e4 e5 e6
    by_cases hR2 : R2 = 0
    · subst hR2
      have HGD := Lib.hid ((Ls.chkEv_good n ⟨k, t, u, v, x, y, z⟩).1 HR2.out)
      have n0 := (B3.out.block G (by rw [N3.out]; omega)).trans N0.out
      have s1 := Go.Joins.cell_of_block n0 1
      simp only [List.getElem?_toArray, List.getElem?_cons_succ, List.getElem?_cons_zero] at s1
      have hs3 : G + 3 ≤ w3.heap.size := Nat.le_trans hs2 B23.out.size
      have M0 := Lib.hid n0
      clear n0
      have C38 := Lib.hid (clone_any A c l w3 (H1.out.up B3.out) (by omega))
      go_wp2_with fail
      refine C38.out.mono ?_
      rintro e w4 ⟨A4, c4, rfl, ho4, hb4⟩
      have B4 := Lib.hid hb4
      have hs4 : w3.heap.size ≤ w4.heap.size := hb4.size
      have HPS : Hid (PS w3.heap.size w4.heap.size A4 c4 l (w4.alloc (.cells #[.slice A4 l.length c4] 78))) := ⟨heap_alloc_new _ _, own_up ho4 (below_new _ _), hs4⟩
      have CA := Lib.hid (apply_any w3.heap.size w4.heap.size A4 c4 l k t u v x y z (by have := (Ls.good_kind HGD.out).1; simpa using this) _ HPS.out HV.out.2.2.1 (by omega) (by simp; omega))
      have BP : Hid (Below w3.heap.size w3 (w4.alloc (.cells #[.slice A4 l.length c4] 78))) := hb4.trans ((below_new _ _).mono hs4)
      clear ho4 hb4 C38 s1
      have n1 := (BP.out.block (G + 1) (by omega)).trans ((B3.out.block (G + 1) (by rw [N3.out]; omega)).trans N1.out)
      obtain ⟨P, hP⟩ : ∃ P, Hid (w4.heap.size = P) := ⟨_, rfl⟩
      have hPG : G + 3 ≤ P := by rw [← hP.out]; omega
      have hev := Go.Joins.cell_of_block n1
      have e0 := hev 0; have e1 := hev 1; have e2 := hev 2; have e3 := hev 3; have e4 := hev 4; have e5 := hev 5; have e6 := hev 6
      simp only [List.getElem?_toArray, List.getElem?_cons_succ, List.getElem?_cons_zero] at e0 e1 e2 e3 e4 e5 e6
      rw [hP.out] at HPS CA
      clear hev n1
      obtain ⟨W5, hW5⟩ : ∃ W5, Hid (w4.alloc (.cells #[.slice A4 l.length c4] 78) = W5) := ⟨_, rfl⟩
      go_wp2_with fail
      simp only [hP.out]
      refine CA.out.mono ?_
      rintro e w6 ⟨A6, A7, c6, c7, rfl, ho7, hps6, hb6⟩
      have B6 : Hid (Below w3.heap.size w3 w6) := BP.out.trans hb6
      have H6 := Lib.hid hps6
      have HO7 := Lib.hid ho7
      have B06 : Hid (Below w.heap.size w w6) := HB1.out.trans ((B3.out.trans (B6.out.mono (by have := B3.out.size; omega))).mono HB1.out.size)
      obtain ⟨m, HM⟩ : ∃ m, Hid ((Ls.nextL l ⟨k, t, u, v, x, y, z⟩).length = m) := ⟨_, rfl⟩
      obtain ⟨m2, HM2⟩ : ∃ m2, Hid ((Ls.chg l ⟨k, t, u, v, x, y, z⟩).length = m2) := ⟨_, rfl⟩
      have p0 := hps6.c0
      rw [HM.out] at p0
      rw [HM2.out]
      have z0 := (B6.out.block G (by omega)).trans M0.out
      have z1 := Go.Joins.cell_of_block z0 0
      simp only [List.getElem?_toArray, List.getElem?_cons_zero] at z1
      have n2 := (B6.out.block (G + 2) (by omega)).trans ((B3.out.block (G + 2) (by rw [N3.out]; omega)).trans N2.out)
      have r0 := Go.Joins.cell_of_block n2 0; have r1 := Go.Joins.cell_of_block n2 1
      have f0 := Go.Joins.unfrozen_of_block n2 0; have f1 := Go.Joins.unfrozen_of_block n2 1
      simp only [List.getElem?_toArray, List.getElem?_cons_succ, List.getElem?_cons_zero] at r0 r1
      have M2 := Lib.hid n2
      clear n2 z0 hps6 ho7 hb6 CA e0 e1 e2 e3 e4 e5 e6 hW5
      go_wp2
      have hblk := setCell_cells (setCell_cells M2.out 0 (.int .i64 n)) 1 (.slice A6 m c6)
      have hbel : Below w.heap.size w _ := (B06.out.setCell (p := ⟨G + 2, 0, none⟩) (by show w.heap.size ≤ G + 2; rw [hG.out]; omega) (.int .i64 n)).setCell (p := ⟨G + 2, 1, none⟩) (by show w.heap.size ≤ G + 2; rw [hG.out]; omega) (.slice A6 m c6)
      have hk : ∀ (v : Value) (q : Nat) (xs : List Value) (T : TypeId) (sz : Nat), w6.ownsRow w3.heap.size T sz v q xs → ((w6.setCell ⟨G + 2, 0, none⟩ (.int .i64 n)).setCell ⟨G + 2, 1, none⟩ (.slice A6 m c6)).ownsRow w3.heap.size T sz v q xs := by
        intro v q xs T sz ho
        have h1 : v.ownBlock ≠ some (G + 2) := fun e => by have := (ho.lt _ e).1; omega
        exact (ho.kept set_grown (.inr h1)).kept set_grown (.inr h1)
      exact ret_state3 (p := 4) (q := 5) (r := 6) Try.results15 rfl (G + 2) rfl _ _ rfl rfl hblk ⟨n, Ls.nextL l ⟨k, t, u, v, x, y, z⟩, Ls.chg l ⟨k, t, u, v, x, y, z⟩, A6, A7, c6, c7, by rw [HAE.out, HM.out, HM2.out]; rfl, by rw [HAE.out, if_pos rfl]; exact ⟨rfl, rfl, rfl⟩, RX.of_own (hk _ _ _ _ _ H6.out.own), RX.of_own (hk _ _ _ _ _ HO7.out), hbel⟩
    · have hd : (R2 != 0) = true := by simpa using hR2
      have hd' : (R2 == 0) = false := by simpa using hR2
      have n2 := (B3.out.block (G + 2) (by rw [N3.out]; omega)).trans N2.out
      have r0 := Go.Joins.cell_of_block n2 0; have r1 := Go.Joins.cell_of_block n2 1
      have f0 := Go.Joins.unfrozen_of_block n2 0; have f1 := Go.Joins.unfrozen_of_block n2 1
      simp only [List.getElem?_toArray, List.getElem?_cons_succ, List.getElem?_cons_zero] at r0 r1
      have M2 := Lib.hid n2
      have H2 := Lib.hid hR2
      clear n2 hR2
      go_wp2
      have hblk := setCell_cells (setCell_cells M2.out 0 (.int .i64 0)) 1 (.slice none 0 0)
      have hbel : Below w.heap.size w _ := ((HB1.out.trans (B3.out.mono HB1.out.size)).setCell (p := ⟨G + 2, 0, none⟩) (by show w.heap.size ≤ G + 2; rw [hG.out]; omega) (.int .i64 0)).setCell (p := ⟨G + 2, 1, none⟩) (by show w.heap.size ≤ G + 2; rw [hG.out]; omega) (.slice none 0 0)
      exact ret_state3 (p := 4) (q := 5) (r := 6) Try.results15 rfl (G + 2) rfl _ _ rfl rfl hblk ⟨0, [], [], none, none, 0, 0, by rw [HAE.out]; rfl, by rw [HAE.out, if_neg H2.out]; exact ⟨rfl, rfl, rfl⟩, RX.nil_ _ _ _ _, RX.nil_ _ _ _ _, hbel⟩
  · have HAE : Hid (Ls.apE n l ⟨k, t, u, v, x, y, z⟩ = R) := by show _ = _; rw [Ls.apE, HR.out, if_pos hR]
    have hd : (R != 0) = true := by simpa using hR
    have hd' : (R == 0) = false := by simpa using hR
    have n2 := (B2.out.block (G + 2) (by rw [N3.out]; omega)).trans N2.out
    have r0 := Go.Joins.cell_of_block n2 0; have r1 := Go.Joins.cell_of_block n2 1
    have f0 := Go.Joins.unfrozen_of_block n2 0; have f1 := Go.Joins.unfrozen_of_block n2 1
    simp only [List.getElem?_toArray, List.getElem?_cons_succ, List.getElem?_cons_zero] at r0 r1
    have M2 := Lib.hid n2
    have H2 := Lib.hid hR
    clear n2 hR
    go_wp2
    have hblk := setCell_cells (setCell_cells M2.out 0 (.int .i64 0)) 1 (.slice none 0 0)
    have hbel : Below w.heap.size w _ := ((HB1.out.trans (B2.out.mono HB1.out.size)).setCell (p := ⟨G + 2, 0, none⟩) (by show w.heap.size ≤ G + 2; rw [hG.out]; omega) (.int .i64 0)).setCell (p := ⟨G + 2, 1, none⟩) (by show w.heap.size ≤ G + 2; rw [hG.out]; omega) (.slice none 0 0)
    exact ret_state3 (p := 4) (q := 5) (r := 6) Try.results15 rfl (G + 2) rfl _ _ rfl rfl hblk ⟨0, [], [], none, none, 0, 0, by rw [HAE.out]; rfl, by rw [HAE.out, if_neg H2.out]; exact ⟨rfl, rfl, rfl⟩, RX.nil_ _ _ _ _, RX.nil_ _ _ _ _, hbel⟩
end Go.Proofs.Ytagkpkkbkeefbaa
