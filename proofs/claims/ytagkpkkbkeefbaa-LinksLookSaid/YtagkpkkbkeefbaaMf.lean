/-
  Graph of package links.
-/
import Derived.Test.YtagkpkkbkeefbaaMe
import Derived.Test.YtagkpkkbkeefbaaHw
namespace Go.Proofs.Ytagkpkkbkeefbaa
open Go.RowKit Go.Lib

theorem ret_graph2 {fn : Func} {R : Ending → World → Prop} {a : Act} {w : World} {p q : Nat} (hres : fn.results = #[.cell p 54, .tmp q]) (hd : a.defers = []) (g : Nat) (hp : a.tmps.getD p undef = .pointer (some ⟨g, 0, none⟩)) (x : Value) (hq : a.tmps.getD q undef = x)
    {v0 v1 : Value} (hb : w.heap[g]? = some (.cells #[v0, v1] 54 (0, 0))) (h : R (.returned (.tuple #[.agg #[v0, v1], x])) w) : bodyPost Try.prog fn R .ret a w := by
  have hc := Go.Joins.cell_of_block hb
  have y0 := hc 0; have y1 := hc 1
  simp only [List.getElem?_toArray, List.getElem?_cons_succ, List.getElem?_cons_zero] at y0 y1
  have hp' : (a.tmps[p]?).getD undef = .pointer (some ⟨g, 0, none⟩) := by simpa using hp
  have hq' : (a.tmps[q]?).getD undef = x := by simpa using hq
  refine bodyPost_ret (v := .tuple #[.agg #[v0, v1], x]) ?_ hd h
  clear hp hq h hd hb hc
  simp [results, hres, go_sem, hp', hq', y0, y1]
/-- what Graph answers -/
def GraphPL (n : Int) (l : List Ls.Lk) (w : World) (en : Ending) (w' : World) : Prop :=
  ∃ (n' : Int) (es : List Ed) (A' : Option Addr) (c' : Nat), en = .returned (.tuple #[.agg #[.int .i64 n', .slice A' es.length c'], .int .i64 (Ls.chkS n l)]) ∧
    (if Ls.chkS n l = 0 then n' = n ∧ es = Ls.edges l else n' = 0 ∧ es = []) ∧ RE w'.heap.size w' A' c' es ∧ Below w.heap.size w w'
set_option maxHeartbeats 1000000 in
set_option maxRecDepth 100000 in
theorem lgraph_any (n : Int) (A : Option Addr) (c : Nat) (l : List Ls.Lk) (w : World) (h : RL w.heap.size w A c l) (hl : l.length ≤ 60000) :
    Calls Try.prog 26 #[.agg #[.int .i64 n, .slice A l.length c]] w (GraphPL n l w) := by
  obtain ⟨W1, hW1⟩ : ∃ W1, ((w.alloc (.cells #[.int .i64 n, .slice A l.length c] 24)).alloc (.cells #[.int .i64 0, .slice none 0 0] 54)) = W1 := ⟨_, rfl⟩
  obtain ⟨n0, n1, n3, n4⟩ := new_two w (.cells #[.int .i64 n, .slice A l.length c] 24) (.cells #[.int .i64 0, .slice none 0 0] 54)
  rw [hW1] at n0 n1 n3 n4
  obtain ⟨G, hG⟩ : ∃ G, Hid (w.heap.size = G) := ⟨_, rfl⟩
  have HW1 := Lib.hid hW1
  have HB1 := Lib.hid n4
  have H1 := Lib.hid (h.up n4)
  rw [hG.out] at n0 n1 n3
  have N0 := Lib.hid n0; have N1 := Lib.hid n1; have N3 := Lib.hid n3
  have C13 := Lib.hid (lcheck_any n A c l W1 H1.out (by omega))
  have s0 := Go.Joins.cell_of_block n0 0; have s1 := Go.Joins.cell_of_block n0 1
  simp only [List.getElem?_toArray, List.getElem?_cons_succ, List.getElem?_cons_zero] at s0 s1
  clear h hW1 n4 n0 n1
  obtain ⟨R, HR⟩ : ∃ R, Hid (Ls.chkS n l = R) := ⟨_, rfl⟩
  simp only [HR.out] at C13
  go_enter Try.func26, Try.ntmps26
  go_wp2_with fail
  rw [HW1.out]
  simp only [hG.out]
  refine C13.out.mono ?_
  rintro e w2 ⟨rfl, hb2⟩
  have B2 := Lib.hid hb2
  clear hb2 C13 s0 s1
  have hs2 : G + 2 ≤ w2.heap.size := by have := B2.out.size; rw [N3.out] at this; exact this
  by_cases hR : R = 0
  · subst hR
    have HV := Lib.hid ((Ls.chkS_zero n l).1 HR.out)
    have M0 : Hid (w2.heap[G]? = some (.cells #[.int .i64 n, .slice A l.length c] 24)) := (B2.out.block G (by rw [N3.out]; omega)).trans N0.out
    have M1 : Hid (w2.heap[G + 1]? = some (.cells #[.int .i64 0, .slice none 0 0] 54)) := (B2.out.block (G + 1) (by rw [N3.out]; omega)).trans N1.out
    have H2 := Lib.hid (H1.out.up B2.out)
    have BW : Hid (Below w.heap.size w w2) := HB1.out.trans (B2.out.mono HB1.out.size)
    have z0 := Go.Joins.cell_of_block M0.out 0; have z1 := Go.Joins.cell_of_block M0.out 1
    simp only [List.getElem?_toArray, List.getElem?_cons_succ, List.getElem?_cons_zero] at z0 z1
    have hG2 : G < w2.heap.size := by omega
    obtain ⟨i0, hi0, hz0, hz1, hz2⟩ := info_parts ed_info
    have HI0 := Lib.hid hi0
    have HZ0 := Lib.hid hz0
    have HZ1 := Lib.hid hz1
    have HZ2 := Lib.hid hz2
    clear hi0 hz0 hz1 hz2
    go_wp2_with (at_make; refine wpList_make_own _ rfl (.const (.int .i64 0)) (.tmp 16) 52 rfl w2.heap.size 69 i0 _ 2 Try.underlying52 HI0.out HZ0.out HZ1.out .i64 .i64 l.length l.length rfl rfl rfl (by rw [HZ2.out]; omega) (by simp only [maxLen]; omega) (by simp) ?_; intro w3 ho3 hg3; have HO3 := Lib.hid ho3; have HG3 := Lib.hid hg3; have z1' := Go.Joins.cell_of_block ((hg3.block G hG2 (fun e => by cases e)).trans M0.out) 1; simp only [List.getElem?_toArray, List.getElem?_cons_succ, List.getElem?_cons_zero] at z1'; have hG3 : G < w3.heap.size := Nat.lt_of_lt_of_le hG2 hg3.size; clear ho3 hg3)
    have HB3 : Hid (Below w2.heap.size w2 w3) := (Below.refl _ _).grown HG3.out (Nat.le_refl _) (fun k hk => by cases hk)
    clear z0 z1 z1' HI0 HZ0 HZ1 HZ2 HG3
    go_loopw [5, 21] (fun s i wr => ∃ (k : Nat) (A2 : Option Addr) (c2 : Nat), k ≤ l.length ∧ i = .int .i64 k ∧ s = .slice A2 (Ls.edges (l.take k)).length c2 ∧ Hid (wr.ownsRow w2.heap.size 69 2 (.slice A2 (Ls.edges (l.take k)).length c2) (Ls.edges (l.take k)).length (ev (Ls.edges (l.take k)))) ∧ Hid (Below w2.heap.size w2 wr)) (fun _ i _ => l.length - (RowKit.intOf i).toNat)
    case atStart => exact ⟨0, some ⟨w2.heap.size, 0, none⟩, l.length, Nat.zero_le _, rfl, rfl, by show World.ownsRow _ _ _ _ _ _ _; have := HO3.out; simpa [ev, Ls.edges] using this, HB3.out⟩
    case round =>
      obtain ⟨k, A2, c2, hk, rfl, rfl, HO, HB⟩ := hrel
      have HLEN : Hid ((Ls.edges (l.take k)).length = k) := by show _ = _; rw [Ls.len_edges, List.length_take]; omega
      have hws : w2.heap.size ≤ wr.heap.size := HB.out.size
      by_cases hlt : k < l.length
      · obtain ⟨b, off, ⟨u, v, x, y, z, t⟩, rfl, hb, hx, c0, c1, c2', c3, c4, c5⟩ := RL.at_ (k := k) (H2.out.go HB.out) hlt
        dsimp only at c0 c1 c2' c3 c4 c5
        have hbw : b < wr.heap.size := Nat.lt_of_lt_of_le hb hws
        have HE := Lib.hid (Ls.edges_take l k _ hx)
        clear hx
        go_wp2_with (at_builtin; (refine wpList_applE _ rfl (.tmp 25) (.tmp 31) rfl w2.heap.size A2 c2 (Ls.edges (l.take k)) (by simp [Act.eval]) ((HO.out.alloc _).alloc _) (some ⟨wr.heap.size + 1, 0, none⟩) 1 1 [(u, v)] rfl (by simp [Act.eval]) (by have := RE_newB (wr.alloc (.cells #[.int .i64 u, .int .i64 v, .int .i64 x, .int .i64 y, .int .i64 z, .int .i64 t] 62)) u v; simpa using this) (by rw [HLEN.out]; omega) (by simp; omega) ?_; intro A6 c6 w6 HO6 HB6))
        have HB7 : Hid (Below w2.heap.size w2 w6) := HB.out.trans ((((Below.refl _ _).alloc hws _).alloc (by simp; omega) _).trans HB6.out)
        clear HB6 c0 c1 c2' c3 c4 c5
        go_wp2
        go_roundw
        case rel => exact ⟨k + 1, A6, c6, by omega, by go_num, by rw [HE.out, List.length_append]; rfl, by show World.ownsRow _ _ _ _ _ _ _; rw [HE.out]; exact HO6.out, HB7.out⟩
        case measure => simp [RowKit.intOf]; omega
      · obtain rfl : k = l.length := by omega
        have hO := HO.out
        rw [List.take_length] at hO ⊢
        have HRE : Hid (RE wr.heap.size wr A2 c2 (Ls.edges l)) := RE.of_own hO
        have CG := Lib.hid (gof_any n A2 c2 (Ls.edges l) wr HRE.out (by rw [Ls.len_edges]; omega))
        rw [Ls.ofe_edges HV.out, Ls.ofl_edges HV.out, if_pos rfl, if_pos rfl] at CG
        clear hO
        have z0 := Go.Joins.cell_of_block ((HB.out.block G hG2).trans M0.out) 0
        simp only [List.getElem?_toArray, List.getElem?_cons_zero] at z0
        have hGw : G < wr.heap.size := by omega
        go_wp2_with fail
        refine CG.out.mono ?_
        rintro e w6 ⟨A6, c6, rfl, ho6, hb6⟩
        have HO6 := Lib.hid ho6
        have HB6 := Lib.hid hb6
        have b1 := (hb6.block (G + 1) (by omega)).trans ((HB.out.block (G + 1) (by omega)).trans M1.out)
        clear ho6 hb6 CG z0
        have r0 := Go.Joins.cell_of_block b1 0; have r1 := Go.Joins.cell_of_block b1 1
        have f0 := Go.Joins.unfrozen_of_block b1 0; have f1 := Go.Joins.unfrozen_of_block b1 1
        simp only [List.getElem?_toArray, List.getElem?_cons_succ, List.getElem?_cons_zero] at r0 r1
        have hg6 : G + 1 < w6.heap.size := lt_of_some b1
        have HBL := Lib.hid b1
        obtain ⟨m, HM⟩ : ∃ m, Hid ((Ls.edges l).length = m) := ⟨_, rfl⟩
        rw [HM.out]
        clear b1
        go_wp2
        have hblk := setCell_cells (setCell_cells HBL.out 0 (.int .i64 n)) 1 (.slice A6 m c6)
        have hGw1 : w.heap.size ≤ G + 1 := by rw [hG.out]; omega
        have hbel : Below w.heap.size w _ := (((BW.out.trans (HB.out.mono BW.out.size)).trans (HB6.out.mono (Nat.le_trans BW.out.size hws))).setCell (p := ⟨G + 1, 0, none⟩) hGw1 (.int .i64 n)).setCell (p := ⟨G + 1, 1, none⟩) hGw1 (.slice A6 m c6)
        have hne : (Value.slice A6 (Ls.edges l).length c6).ownBlock ≠ some (G + 1) := fun e => by have := (HO6.out.lt _ e).1; omega
        have hown := (HO6.out.kept (w' := w6.setCell ⟨G + 1, 0, none⟩ (.int .i64 n)) set_grown (.inr hne)).kept (w' := (w6.setCell ⟨G + 1, 0, none⟩ (.int .i64 n)).setCell ⟨G + 1, 1, none⟩ (.slice A6 m c6)) set_grown (.inr hne)
        exact ret_graph2 (p := 2) (q := 3) Try.results26 rfl (G + 1) rfl _ rfl hblk ⟨n, Ls.edges l, A6, c6, by rw [HR.out, HM.out]; rfl, by rw [HR.out, if_pos rfl]; exact ⟨rfl, rfl⟩, RE.of_own hown, hbel⟩
  · have hd : (R != 0) = true := by simpa using hR
    have hd' : (R == 0) = false := by simpa using hR
    have n2 := (B2.out.block (G + 1) (by rw [N3.out]; omega)).trans N1.out
    have r0 := Go.Joins.cell_of_block n2 0; have r1 := Go.Joins.cell_of_block n2 1
    have f0 := Go.Joins.unfrozen_of_block n2 0; have f1 := Go.Joins.unfrozen_of_block n2 1
    simp only [List.getElem?_toArray, List.getElem?_cons_succ, List.getElem?_cons_zero] at r0 r1
    have M2 := Lib.hid n2
    have H2 := Lib.hid hR
    clear n2 hR
    go_wp2
    have hblk := setCell_cells (setCell_cells M2.out 0 (.int .i64 0)) 1 (.slice none 0 0)
    have hbel : Below w.heap.size w _ := ((HB1.out.trans (B2.out.mono HB1.out.size)).setCell (p := ⟨G + 1, 0, none⟩) (by show w.heap.size ≤ G + 1; rw [hG.out]; omega) (.int .i64 0)).setCell (p := ⟨G + 1, 1, none⟩) (by show w.heap.size ≤ G + 1; rw [hG.out]; omega) (.slice none 0 0)
    exact ret_graph2 (p := 2) (q := 3) Try.results26 rfl (G + 1) rfl _ rfl hblk ⟨0, [], none, 0, by rw [HR.out]; rfl, by rw [HR.out, if_neg H2.out]; exact ⟨rfl, rfl⟩, RE.nil_ _ _ _ _, hbel⟩
end Go.Proofs.Ytagkpkkbkeefbaa
