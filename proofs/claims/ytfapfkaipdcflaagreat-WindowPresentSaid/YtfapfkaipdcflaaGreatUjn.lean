/-
  Joined texts: Uj, Uk, Un.
-/
import Derived.Test.YtfapfkaipdcflaaGreatSv
import Derived.Test.YtfapfkaipdcflaaGreatSw
import Derived.ProofKit
import Derived.OpenShut
import Derived.ChangeSame
import Derived.Lib.SmallJoins
import Derived.Deep.Slices
/-
  The maker's Window; a window with something changed.
-/
namespace Go.Proofs.YtfapfkaipdcflaaGreat
open Go.RowKit Go.Lib

theorem ret_win1 {fn : Func} {R : Ending → World → Prop} {a : Act} {w : World} {p : Nat} (hres : fn.results = #[.cell p 26]) (hd : a.defers = []) (g : Nat) (hp : a.tmps.getD p undef = .pointer (some ⟨g, 0, none⟩))
    {v0 v1 v2 : Value} (hb : w.heap[g]? = some (.cells #[v0, v1, v2] 26 (0, 0))) (h : R (.returned (.agg #[v0, v1, v2])) w) : bodyPost Tryz.prog fn R .ret a w := by
  have hc := Go.Joins.cell_of_block hb
  have y0 := hc 0; have y1 := hc 1; have y2 := hc 2
  simp only [List.getElem?_toArray, List.getElem?_cons_succ, List.getElem?_cons_zero] at y0 y1 y2
  have hp' : (a.tmps[p]?).getD undef = .pointer (some ⟨g, 0, none⟩) := by simpa using hp
  refine bodyPost_ret (v := .agg #[v0, v1, v2]) ?_ hd h
  clear hp h hd hb hc
  simp [results, hres, go_sem, hp', y0, y1, y2]
theorem set3_blkW {w : World} {g : Nat} {a b c : Value} (h : w.heap[g]? = some (.cells #[a, b, c] 26 (0, 0))) (x y z : Value) : (((w.setCell ⟨g, 0, none⟩ x).setCell ⟨g, 1, none⟩ y).setCell ⟨g, 2, none⟩ z).heap[g]? = some (.cells #[x, y, z] 26 (0, 0)) :=
  setCell_cells (setCell_cells (setCell_cells h 0 x) 1 y) 2 z
theorem below_set3 {B : Nat} {w : World} {g : Nat} (hg : B ≤ g) (x y z : Value) : Below B w (((w.setCell ⟨g, 0, none⟩ x).setCell ⟨g, 1, none⟩ y).setCell ⟨g, 2, none⟩ z) :=
  (((Below.refl _ _).setCell (p := ⟨g, 0, none⟩) hg _).setCell (p := ⟨g, 1, none⟩) hg _).setCell (p := ⟨g, 2, none⟩) hg _
/-- what Window answers: a valid window, and the deck goes on -/
def WinP (base g : Nat) (A : Option Addr) (c : Nat) (L : List Int) (w : World) (en : Ending) (w' : World) : Prop :=
  ∃ (k W M : Int) (m : Nat), en = .returned (.agg #[.int .i64 k, .int .i64 W, .int .i64 M]) ∧ (1 ≤ k ∧ k ≤ 3) ∧ Dk base w' g A c L m ∧ w.grownBy w' (some g)
set_option maxHeartbeats 4000000 in
set_option maxRecDepth 100000 in
theorem window_any (base g : Nat) (A : Option Addr) (c : Nat) (L : List Int) (m : Nat) (w : World) (D : Dk base w g A c L m) (hL : L.length ≤ 17592186044416) :
    Calls Tryz.prog 10 #[.pointer (some ⟨g, 0, none⟩)] w (WinP base g A c L w) := by
  have HD0 := Lib.hid D
  have hgw : g < w.heap.size := D.lt
  clear D
  go_enter Tryz.func10, Tryz.ntmps10
  go_wp2_with fail
  refine (next_any base g A c L _ 3 _ (HD0.out.go (below_new _ _)) hL (by decide)).mono ?_
  rintro e w1 ⟨r, m1, rfl, hr1, hr2, D1, g1⟩
  have HD1 := Lib.hid D1
  have HB6 := Lib.hid ((g1.block w.heap.size (by simp) (by simp; omega)).trans (heap_alloc_new _ _))
  have HG1 : Hid (w.grownBy w1 (some g)) := grown_trans (grown_below (grown_refl w g) (below_new _ _) (Nat.le_refl _)) g1
  clear D1 g1 HD0
  have hr : r = 0 ∨ r = 1 ∨ r = 2 := by omega
  clear hr1 hr2
  rcases hr with rfl | rfl | rfl
  · have pa := Go.Joins.cell_of_block HB6.out
    have za := Go.Joins.unfrozen_of_block HB6.out
    have ac0 := pa 0; have ac1 := pa 1; have ac2 := pa 2
    have af0 := za 0; have af1 := za 1; have af2 := za 2
    simp only [List.getElem?_toArray, List.getElem?_cons_succ, List.getElem?_cons_zero] at ac0 ac1 ac2
    have hl6 := lt_of_some HB6.out
    clear pa za
    go_wp2
    exact ret_win1 (p := 2) Tryz.results10 rfl w.heap.size rfl (set3_blkW HB6.out _ _ _) ⟨1, 0, 0, m1, rfl, by decide, HD1.out.goB (below_set3 (Nat.le_refl w.heap.size) _ _ _) hgw, grown_below HG1.out (below_set3 (Nat.le_refl w.heap.size) _ _ _) (Nat.le_refl _)⟩
  · go_wp2_with fail
    refine (next_any base g A c L _ 9 _ HD1.out hL (by decide)).mono ?_
    rintro e w2 ⟨x, m2, rfl, hx1, hx2, D2, g2⟩
    have HD2 := Lib.hid D2
    have HB2 := Lib.hid ((g2.block w.heap.size (lt_of_some HB6.out) (by simp; omega)).trans HB6.out)
    have HG2 := Lib.hid (grown_trans HG1.out g2)
    have f1 : IntKind.i64.wrap (1 + x) = 1 + x := IntWalk.i64_in _ (by omega)
    have pa := Go.Joins.cell_of_block HB2.out
    have za := Go.Joins.unfrozen_of_block HB2.out
    have ac0 := pa 0; have ac1 := pa 1; have ac2 := pa 2
    have af0 := za 0; have af1 := za 1; have af2 := za 2
    simp only [List.getElem?_toArray, List.getElem?_cons_succ, List.getElem?_cons_zero] at ac0 ac1 ac2
    have hl6 := lt_of_some HB2.out
    clear pa za D2 g2 HD1 HG1 HB6 hx1 hx2
    go_wp2
    exact ret_win1 (p := 2) Tryz.results10 rfl w.heap.size rfl (set3_blkW HB2.out _ _ _) ⟨2, 1 + x, 0, m2, rfl, by decide, HD2.out.goB (below_set3 (Nat.le_refl w.heap.size) _ _ _) hgw, grown_below HG2.out (below_set3 (Nat.le_refl w.heap.size) _ _ _) (Nat.le_refl _)⟩
  · go_wp2_with fail
    refine (next_any base g A c L _ 7 _ HD1.out hL (by decide)).mono ?_
    rintro e w2 ⟨x, m2, rfl, hx1, hx2, D2, g2⟩
    have HD2 := Lib.hid D2
    have HB2 := Lib.hid ((g2.block w.heap.size (lt_of_some HB6.out) (by simp; omega)).trans HB6.out)
    have HG2 := Lib.hid (grown_trans HG1.out g2)
    have pa := Go.Joins.cell_of_block HB2.out
    have za := Go.Joins.unfrozen_of_block HB2.out
    have ac0 := pa 0; have ac1 := pa 1; have ac2 := pa 2
    have af0 := za 0; have af1 := za 1; have af2 := za 2
    simp only [List.getElem?_toArray, List.getElem?_cons_succ, List.getElem?_cons_zero] at ac0 ac1 ac2
    have hl6 := lt_of_some HB2.out
    clear pa za D2 g2 HD1 HG1 HB6 hx1 hx2
    go_wp2
    exact ret_win1 (p := 2) Tryz.results10 rfl w.heap.size rfl (set3_blkW HB2.out _ _ _) ⟨3, 0, x, m2, rfl, by decide, HD2.out.goB (below_set3 (Nat.le_refl w.heap.size) _ _ _) hgw, grown_below HG2.out (below_set3 (Nat.le_refl w.heap.size) _ _ _) (Nat.le_refl _)⟩
end Go.Proofs.YtfapfkaipdcflaaGreat

/-
  A window with something changed.
-/
namespace Go.Proofs.YtfapfkaipdcflaaGreat
open Go.RowKit Go.Lib

/-- what odd answers: some window, and the deck goes on -/
def OddW (base g : Nat) (A : Option Addr) (c : Nat) (L : List Int) (w : World) (en : Ending) (w' : World) : Prop :=
  ∃ (k W M : Int) (m : Nat), en = .returned (.agg #[.int .i64 k, .int .i64 W, .int .i64 M]) ∧ (Lit.int .i64 k).wf = true ∧ Dk base w' g A c L m ∧ w.grownBy w' (some g)
set_option maxHeartbeats 4000000 in
set_option maxRecDepth 100000 in
theorem oddw_any (base g : Nat) (A : Option Addr) (c : Nat) (L : List Int) (m : Nat) (k W M : Int) (hk : (Lit.int .i64 k).wf = true) (w : World) (D : Dk base w g A c L m) (hL : L.length ≤ 17592186044416) :
    Calls Tryz.prog 11 #[.pointer (some ⟨g, 0, none⟩), .agg #[.int .i64 k, .int .i64 W, .int .i64 M]] w (OddW base g A c L w) := by
  obtain ⟨W2, HW2⟩ : ∃ W2, Hid (W2 = (w.alloc (.cells #[.int .i64 k, .int .i64 W, .int .i64 M] 26)).alloc (.cells #[.int .i64 0, .int .i64 0, .int .i64 0] 26)) := ⟨_, rfl⟩
  obtain ⟨G, HG⟩ : ∃ G, Hid (w.heap.size = G) := ⟨_, rfl⟩
  have HGG : Hid (G ≤ w.heap.size ∧ w.heap.size ≤ G) := by show _ ∧ _; rw [HG.out]; exact ⟨Nat.le_refl _, Nat.le_refl _⟩
  have hgw : g < w.heap.size := D.lt
  have hgG : g < G := by rw [← HG.out]; exact hgw
  have n0 : W2.heap[G]? = some (.cells #[.int .i64 k, .int .i64 W, .int .i64 M] 26 (0, 0)) := by
    rw [HW2.out, ← HG.out, heap_alloc_old _ _ (by simp)]; exact heap_alloc_new _ _
  have n1 : W2.heap[G + 1]? = some (.cells #[.int .i64 0, .int .i64 0, .int .i64 0] 26 (0, 0)) := by
    rw [HW2.out, ← HG.out]
    have := heap_alloc_new (w.alloc (.cells #[.int .i64 k, .int .i64 W, .int .i64 M] 26)) (.cells #[.int .i64 0, .int .i64 0, .int .i64 0] 26)
    simpa using this
  have N0 := Lib.hid n0; have N1 := Lib.hid n1
  have hb2 : Below w.heap.size w W2 := by rw [HW2.out]; exact (below_new _ _).trans ((below_new _ _).mono (by simp))
  have HB2 : Hid (w.grownBy W2 (some g)) := grown_below (grown_refl w g) hb2 (Nat.le_refl _)
  have HD2 := Lib.hid (D.go hb2)
  clear D n0 n1 hb2
  have CN := Lib.hid (next_any base g A c L _ 4 W2 HD2.out hL (by decide))
  rw [HW2.out] at CN
  go_enter Tryz.func11, Tryz.ntmps11
  go_wp2_with fail
  refine CN.out.mono ?_
  rw [← HW2.out]
  rintro e w1 ⟨r, m1, rfl, hr1, hr2, D1, g1⟩
  have HD1 := Lib.hid D1
  have h0 : w1.heap[G]? = _ := (g1.block G (lt_of_some N0.out) (by simp; omega)).trans N0.out
  have h1 : w1.heap[G + 1]? = _ := (g1.block (G + 1) (lt_of_some N1.out) (by simp; omega)).trans N1.out
  have P0 := Lib.hid h0; have P1 := Lib.hid h1
  have HG1 := Lib.hid (grown_trans HB2.out g1)
  clear D1 g1 HD2 HB2 N0 N1 h0 h1 CN
  simp only [HG.out]
  have hr : r = 0 ∨ r = 1 ∨ r = 2 ∨ r = 3 := by omega
  clear hr1 hr2
  rcases hr with rfl | rfl | rfl | rfl
  · go_wp2_with fail
    refine (next_any base g A c L _ 6 _ HD1.out hL (by decide)).mono ?_
    rintro e w2 ⟨x, m2, rfl, hx1, hx2, D2, g2⟩
    have HD2 := Lib.hid D2
    have P2 := Lib.hid ((g2.block G (lt_of_some P0.out) (by simp; omega)).trans P0.out)
    have P3 := Lib.hid ((g2.block (G + 1) (lt_of_some P1.out) (by simp; omega)).trans P1.out)
    have HG2 := Lib.hid (grown_trans HG1.out g2)
    have f1 : IntKind.i64.wrap (x - 1) = x - 1 := IntWalk.i64_in _ (by omega)
    have HX : Hid (0 ≤ x ∧ x ≤ 5) := by show _ ∧ _; omega
    clear D2 g2 HD1 HG1 P0 P1 hx1 hx2
    have pa := Go.Joins.cell_of_block P2.out
    have za := Go.Joins.unfrozen_of_block P2.out
    have ac0 := pa 0; have ac1 := pa 1; have ac2 := pa 2
    have af0 := za 0; have af1 := za 1; have af2 := za 2
    have pb := Go.Joins.cell_of_block P3.out
    have zb := Go.Joins.unfrozen_of_block P3.out
    have bc0 := pb 0; have bc1 := pb 1; have bc2 := pb 2
    have bf0 := zb 0; have bf1 := zb 1; have bf2 := zb 2
    simp only [List.getElem?_toArray, List.getElem?_cons_succ, List.getElem?_cons_zero] at ac0 ac1 ac2 bc0 bc1 bc2
    have hl0 := lt_of_some P2.out; have hl1 := lt_of_some P3.out
    clear pa za pb zb
    go_wp2
    obtain ⟨W5, HW5⟩ : ∃ W5, Hid (W5 = w2.setCell ⟨G, 0, none⟩ (.int .i64 (x - 1))) := ⟨_, rfl⟩
    have hb5 : Below w.heap.size w2 W5 := by rw [HW5.out]; exact (Below.refl _ _).setCell (p := ⟨G, 0, none⟩) HGG.out.2 _
    have hb6 : W5.heap[G + 1]? = some (.cells #[.int .i64 0, .int .i64 0, .int .i64 0] 26 (0, 0)) := by rw [HW5.out]; exact (Below.heap_setCell _ ⟨G, 0, none⟩ _ (G + 1) (by show G + 1 ≠ G; omega)).trans P3.out
    rw [← HW5.out]
    exact ret_win1 (p := 4) Tryz.results11 rfl (G + 1) rfl (set3_blkW hb6 _ _ _) ⟨x - 1, W, M, m2, rfl, (by have h := HX.out; have h2 : x = 0 ∨ x = 1 ∨ x = 2 ∨ x = 3 ∨ x = 4 ∨ x = 5 := (by omega); rcases h2 with rfl | rfl | rfl | rfl | rfl | rfl <;> decide), (HD2.out.goB hb5 hgw).goB (below_set3 (Nat.le_succ_of_le HGG.out.2) _ _ _) hgw, grown_below (grown_below HG2.out hb5 (Nat.le_refl _)) (below_set3 (Nat.le_succ_of_le HGG.out.2) _ _ _) (Nat.le_refl _)⟩
  · obtain ⟨W3, HW3⟩ : ∃ W3, Hid (W3 = w1.alloc (.cells #[.int .i64 (-1), .int .i64 0, .int .i64 1048576, .int .i64 1048577] 3)) := ⟨_, rfl⟩
    have hb3 : Below w1.heap.size w1 W3 := by rw [HW3.out]; exact below_new _ _
    have HT : Hid (W3.heap[w1.heap.size]? = some (.cells #[.int .i64 (-1), .int .i64 0, .int .i64 1048576, .int .i64 1048577] 3 (0, 0))) := by show _ = _; rw [HW3.out]; exact heap_alloc_new _ _
    have HD3 := Lib.hid (HD1.out.go hb3)
    have HG3 := Lib.hid (grown_below HG1.out hb3 HG1.out.size)
    have Q0 := Lib.hid ((hb3.block _ (lt_of_some P0.out)).trans P0.out)
    have Q1 := Lib.hid ((hb3.block _ (lt_of_some P1.out)).trans P1.out)
    have hG1 : G < w1.heap.size := lt_of_some P0.out
    have hGn : w1.heap.size ≠ g := by omega
    obtain ⟨T, HTT⟩ : ∃ T, Hid (w1.heap.size = T) := ⟨_, rfl⟩
    have CN := Lib.hid (next_any base g A c L _ 4 W3 HD3.out hL (by decide))
    rw [HW3.out] at CN
    rw [HTT.out] at HT hGn
    clear hb3
    go_wp2_with fail
    refine CN.out.mono ?_
    rw [← HW3.out]
    rintro e w2 ⟨x, m2, rfl, hx1, hx2, D2, g2⟩
    have HD2 := Lib.hid D2
    have P2 := Lib.hid ((g2.block G (lt_of_some Q0.out) (by simp; omega)).trans Q0.out)
    have P3 := Lib.hid ((g2.block (G + 1) (lt_of_some Q1.out) (by simp; omega)).trans Q1.out)
    have PT := Lib.hid ((g2.block T (lt_of_some HT.out) (by simp; omega)).trans HT.out)
    have HG2 := Lib.hid (grown_trans HG3.out g2)
    have hx : x = 0 ∨ x = 1 ∨ x = 2 ∨ x = 3 := by omega
    simp only [HTT.out]
    clear D2 g2 HD1 HG1 P0 P1 hx1 hx2 HD3 HG3 Q0 Q1 HT CN hG1 hGn
    have pt := Go.Joins.cell_of_block PT.out
    have tc0 := pt 0; have tc1 := pt 1; have tc2 := pt 2; have tc3 := pt 3
    simp only [List.getElem?_toArray, List.getElem?_cons_succ, List.getElem?_cons_zero] at tc0 tc1 tc2 tc3
    have hlT := lt_of_some PT.out
    clear pt
    rcases hx with rfl | rfl | rfl | rfl
    · have pa := Go.Joins.cell_of_block P2.out
      have za := Go.Joins.unfrozen_of_block P2.out
      have ac0 := pa 0; have ac1 := pa 1; have ac2 := pa 2
      have af0 := za 0; have af1 := za 1; have af2 := za 2
      have pb := Go.Joins.cell_of_block P3.out
      have zb := Go.Joins.unfrozen_of_block P3.out
      have bc0 := pb 0; have bc1 := pb 1; have bc2 := pb 2
      have bf0 := zb 0; have bf1 := zb 1; have bf2 := zb 2
      simp only [List.getElem?_toArray, List.getElem?_cons_succ, List.getElem?_cons_zero] at ac0 ac1 ac2 bc0 bc1 bc2
      have hl0 := lt_of_some P2.out; have hl1 := lt_of_some P3.out
      clear pa za pb zb
      go_wp2
      obtain ⟨W5, HW5⟩ : ∃ W5, Hid (W5 = w2.setCell ⟨G, 1, none⟩ (.int .i64 (-1))) := ⟨_, rfl⟩
      have hb5 : Below w.heap.size w2 W5 := by rw [HW5.out]; exact (Below.refl _ _).setCell (p := ⟨G, 1, none⟩) HGG.out.2 _
      have hb6 : W5.heap[G + 1]? = some (.cells #[.int .i64 0, .int .i64 0, .int .i64 0] 26 (0, 0)) := by rw [HW5.out]; exact (Below.heap_setCell _ ⟨G, 1, none⟩ _ (G + 1) (by show G + 1 ≠ G; omega)).trans P3.out
      rw [← HW5.out]
      exact ret_win1 (p := 4) Tryz.results11 rfl (G + 1) rfl (set3_blkW hb6 _ _ _) ⟨k, -1, M, m2, rfl, hk, (HD2.out.goB hb5 hgw).goB (below_set3 (Nat.le_succ_of_le HGG.out.2) _ _ _) hgw, grown_below (grown_below HG2.out hb5 (Nat.le_refl _)) (below_set3 (Nat.le_succ_of_le HGG.out.2) _ _ _) (Nat.le_refl _)⟩
    · have pa := Go.Joins.cell_of_block P2.out
      have za := Go.Joins.unfrozen_of_block P2.out
      have ac0 := pa 0; have ac1 := pa 1; have ac2 := pa 2
      have af0 := za 0; have af1 := za 1; have af2 := za 2
      have pb := Go.Joins.cell_of_block P3.out
      have zb := Go.Joins.unfrozen_of_block P3.out
      have bc0 := pb 0; have bc1 := pb 1; have bc2 := pb 2
      have bf0 := zb 0; have bf1 := zb 1; have bf2 := zb 2
      simp only [List.getElem?_toArray, List.getElem?_cons_succ, List.getElem?_cons_zero] at ac0 ac1 ac2 bc0 bc1 bc2
      have hl0 := lt_of_some P2.out; have hl1 := lt_of_some P3.out
      clear pa za pb zb
      go_wp2
      obtain ⟨W5, HW5⟩ : ∃ W5, Hid (W5 = w2.setCell ⟨G, 1, none⟩ (.int .i64 0)) := ⟨_, rfl⟩
      have hb5 : Below w.heap.size w2 W5 := by rw [HW5.out]; exact (Below.refl _ _).setCell (p := ⟨G, 1, none⟩) HGG.out.2 _
      have hb6 : W5.heap[G + 1]? = some (.cells #[.int .i64 0, .int .i64 0, .int .i64 0] 26 (0, 0)) := by rw [HW5.out]; exact (Below.heap_setCell _ ⟨G, 1, none⟩ _ (G + 1) (by show G + 1 ≠ G; omega)).trans P3.out
      rw [← HW5.out]
      exact ret_win1 (p := 4) Tryz.results11 rfl (G + 1) rfl (set3_blkW hb6 _ _ _) ⟨k, 0, M, m2, rfl, hk, (HD2.out.goB hb5 hgw).goB (below_set3 (Nat.le_succ_of_le HGG.out.2) _ _ _) hgw, grown_below (grown_below HG2.out hb5 (Nat.le_refl _)) (below_set3 (Nat.le_succ_of_le HGG.out.2) _ _ _) (Nat.le_refl _)⟩
    · have pa := Go.Joins.cell_of_block P2.out
      have za := Go.Joins.unfrozen_of_block P2.out
      have ac0 := pa 0; have ac1 := pa 1; have ac2 := pa 2
      have af0 := za 0; have af1 := za 1; have af2 := za 2
      have pb := Go.Joins.cell_of_block P3.out
      have zb := Go.Joins.unfrozen_of_block P3.out
      have bc0 := pb 0; have bc1 := pb 1; have bc2 := pb 2
      have bf0 := zb 0; have bf1 := zb 1; have bf2 := zb 2
      simp only [List.getElem?_toArray, List.getElem?_cons_succ, List.getElem?_cons_zero] at ac0 ac1 ac2 bc0 bc1 bc2
      have hl0 := lt_of_some P2.out; have hl1 := lt_of_some P3.out
      clear pa za pb zb
      go_wp2
      obtain ⟨W5, HW5⟩ : ∃ W5, Hid (W5 = w2.setCell ⟨G, 1, none⟩ (.int .i64 1048576)) := ⟨_, rfl⟩
      have hb5 : Below w.heap.size w2 W5 := by rw [HW5.out]; exact (Below.refl _ _).setCell (p := ⟨G, 1, none⟩) HGG.out.2 _
      have hb6 : W5.heap[G + 1]? = some (.cells #[.int .i64 0, .int .i64 0, .int .i64 0] 26 (0, 0)) := by rw [HW5.out]; exact (Below.heap_setCell _ ⟨G, 1, none⟩ _ (G + 1) (by show G + 1 ≠ G; omega)).trans P3.out
      rw [← HW5.out]
      exact ret_win1 (p := 4) Tryz.results11 rfl (G + 1) rfl (set3_blkW hb6 _ _ _) ⟨k, 1048576, M, m2, rfl, hk, (HD2.out.goB hb5 hgw).goB (below_set3 (Nat.le_succ_of_le HGG.out.2) _ _ _) hgw, grown_below (grown_below HG2.out hb5 (Nat.le_refl _)) (below_set3 (Nat.le_succ_of_le HGG.out.2) _ _ _) (Nat.le_refl _)⟩
    · have pa := Go.Joins.cell_of_block P2.out
      have za := Go.Joins.unfrozen_of_block P2.out
      have ac0 := pa 0; have ac1 := pa 1; have ac2 := pa 2
      have af0 := za 0; have af1 := za 1; have af2 := za 2
      have pb := Go.Joins.cell_of_block P3.out
      have zb := Go.Joins.unfrozen_of_block P3.out
      have bc0 := pb 0; have bc1 := pb 1; have bc2 := pb 2
      have bf0 := zb 0; have bf1 := zb 1; have bf2 := zb 2
      simp only [List.getElem?_toArray, List.getElem?_cons_succ, List.getElem?_cons_zero] at ac0 ac1 ac2 bc0 bc1 bc2
      have hl0 := lt_of_some P2.out; have hl1 := lt_of_some P3.out
      clear pa za pb zb
      go_wp2
      obtain ⟨W5, HW5⟩ : ∃ W5, Hid (W5 = w2.setCell ⟨G, 1, none⟩ (.int .i64 1048577)) := ⟨_, rfl⟩
      have hb5 : Below w.heap.size w2 W5 := by rw [HW5.out]; exact (Below.refl _ _).setCell (p := ⟨G, 1, none⟩) HGG.out.2 _
      have hb6 : W5.heap[G + 1]? = some (.cells #[.int .i64 0, .int .i64 0, .int .i64 0] 26 (0, 0)) := by rw [HW5.out]; exact (Below.heap_setCell _ ⟨G, 1, none⟩ _ (G + 1) (by show G + 1 ≠ G; omega)).trans P3.out
      rw [← HW5.out]
      exact ret_win1 (p := 4) Tryz.results11 rfl (G + 1) rfl (set3_blkW hb6 _ _ _) ⟨k, 1048577, M, m2, rfl, hk, (HD2.out.goB hb5 hgw).goB (below_set3 (Nat.le_succ_of_le HGG.out.2) _ _ _) hgw, grown_below (grown_below HG2.out hb5 (Nat.le_refl _)) (below_set3 (Nat.le_succ_of_le HGG.out.2) _ _ _) (Nat.le_refl _)⟩
  · obtain ⟨W3, HW3⟩ : ∃ W3, Hid (W3 = w1.alloc (.cells #[.int .i64 (-1), .int .i64 0, .int .i64 2016, .int .i64 2017] 3)) := ⟨_, rfl⟩
    have hb3 : Below w1.heap.size w1 W3 := by rw [HW3.out]; exact below_new _ _
    have HT : Hid (W3.heap[w1.heap.size]? = some (.cells #[.int .i64 (-1), .int .i64 0, .int .i64 2016, .int .i64 2017] 3 (0, 0))) := by show _ = _; rw [HW3.out]; exact heap_alloc_new _ _
    have HD3 := Lib.hid (HD1.out.go hb3)
    have HG3 := Lib.hid (grown_below HG1.out hb3 HG1.out.size)
    have Q0 := Lib.hid ((hb3.block _ (lt_of_some P0.out)).trans P0.out)
    have Q1 := Lib.hid ((hb3.block _ (lt_of_some P1.out)).trans P1.out)
    have hG1 : G < w1.heap.size := lt_of_some P0.out
    have hGn : w1.heap.size ≠ g := by omega
    obtain ⟨T, HTT⟩ : ∃ T, Hid (w1.heap.size = T) := ⟨_, rfl⟩
    have CN := Lib.hid (next_any base g A c L _ 4 W3 HD3.out hL (by decide))
    rw [HW3.out] at CN
    rw [HTT.out] at HT hGn
    clear hb3
    go_wp2_with fail
    refine CN.out.mono ?_
    rw [← HW3.out]
    rintro e w2 ⟨x, m2, rfl, hx1, hx2, D2, g2⟩
    have HD2 := Lib.hid D2
    have P2 := Lib.hid ((g2.block G (lt_of_some Q0.out) (by simp; omega)).trans Q0.out)
    have P3 := Lib.hid ((g2.block (G + 1) (lt_of_some Q1.out) (by simp; omega)).trans Q1.out)
    have PT := Lib.hid ((g2.block T (lt_of_some HT.out) (by simp; omega)).trans HT.out)
    have HG2 := Lib.hid (grown_trans HG3.out g2)
    have hx : x = 0 ∨ x = 1 ∨ x = 2 ∨ x = 3 := by omega
    simp only [HTT.out]
    clear D2 g2 HD1 HG1 P0 P1 hx1 hx2 HD3 HG3 Q0 Q1 HT CN hG1 hGn
    have pt := Go.Joins.cell_of_block PT.out
    have tc0 := pt 0; have tc1 := pt 1; have tc2 := pt 2; have tc3 := pt 3
    simp only [List.getElem?_toArray, List.getElem?_cons_succ, List.getElem?_cons_zero] at tc0 tc1 tc2 tc3
    have hlT := lt_of_some PT.out
    clear pt
    rcases hx with rfl | rfl | rfl | rfl
    · have pa := Go.Joins.cell_of_block P2.out
      have za := Go.Joins.unfrozen_of_block P2.out
      have ac0 := pa 0; have ac1 := pa 1; have ac2 := pa 2
      have af0 := za 0; have af1 := za 1; have af2 := za 2
      have pb := Go.Joins.cell_of_block P3.out
      have zb := Go.Joins.unfrozen_of_block P3.out
      have bc0 := pb 0; have bc1 := pb 1; have bc2 := pb 2
      have bf0 := zb 0; have bf1 := zb 1; have bf2 := zb 2
      simp only [List.getElem?_toArray, List.getElem?_cons_succ, List.getElem?_cons_zero] at ac0 ac1 ac2 bc0 bc1 bc2
      have hl0 := lt_of_some P2.out; have hl1 := lt_of_some P3.out
      clear pa za pb zb
      go_wp2
      obtain ⟨W5, HW5⟩ : ∃ W5, Hid (W5 = w2.setCell ⟨G, 2, none⟩ (.int .i64 (-1))) := ⟨_, rfl⟩
      have hb5 : Below w.heap.size w2 W5 := by rw [HW5.out]; exact (Below.refl _ _).setCell (p := ⟨G, 2, none⟩) HGG.out.2 _
      have hb6 : W5.heap[G + 1]? = some (.cells #[.int .i64 0, .int .i64 0, .int .i64 0] 26 (0, 0)) := by rw [HW5.out]; exact (Below.heap_setCell _ ⟨G, 2, none⟩ _ (G + 1) (by show G + 1 ≠ G; omega)).trans P3.out
      rw [← HW5.out]
      exact ret_win1 (p := 4) Tryz.results11 rfl (G + 1) rfl (set3_blkW hb6 _ _ _) ⟨k, W, -1, m2, rfl, hk, (HD2.out.goB hb5 hgw).goB (below_set3 (Nat.le_succ_of_le HGG.out.2) _ _ _) hgw, grown_below (grown_below HG2.out hb5 (Nat.le_refl _)) (below_set3 (Nat.le_succ_of_le HGG.out.2) _ _ _) (Nat.le_refl _)⟩
    · have pa := Go.Joins.cell_of_block P2.out
      have za := Go.Joins.unfrozen_of_block P2.out
      have ac0 := pa 0; have ac1 := pa 1; have ac2 := pa 2
      have af0 := za 0; have af1 := za 1; have af2 := za 2
      have pb := Go.Joins.cell_of_block P3.out
      have zb := Go.Joins.unfrozen_of_block P3.out
      have bc0 := pb 0; have bc1 := pb 1; have bc2 := pb 2
      have bf0 := zb 0; have bf1 := zb 1; have bf2 := zb 2
      simp only [List.getElem?_toArray, List.getElem?_cons_succ, List.getElem?_cons_zero] at ac0 ac1 ac2 bc0 bc1 bc2
      have hl0 := lt_of_some P2.out; have hl1 := lt_of_some P3.out
      clear pa za pb zb
      go_wp2
      obtain ⟨W5, HW5⟩ : ∃ W5, Hid (W5 = w2.setCell ⟨G, 2, none⟩ (.int .i64 0)) := ⟨_, rfl⟩
      have hb5 : Below w.heap.size w2 W5 := by rw [HW5.out]; exact (Below.refl _ _).setCell (p := ⟨G, 2, none⟩) HGG.out.2 _
      have hb6 : W5.heap[G + 1]? = some (.cells #[.int .i64 0, .int .i64 0, .int .i64 0] 26 (0, 0)) := by rw [HW5.out]; exact (Below.heap_setCell _ ⟨G, 2, none⟩ _ (G + 1) (by show G + 1 ≠ G; omega)).trans P3.out
      rw [← HW5.out]
      exact ret_win1 (p := 4) Tryz.results11 rfl (G + 1) rfl (set3_blkW hb6 _ _ _) ⟨k, W, 0, m2, rfl, hk, (HD2.out.goB hb5 hgw).goB (below_set3 (Nat.le_succ_of_le HGG.out.2) _ _ _) hgw, grown_below (grown_below HG2.out hb5 (Nat.le_refl _)) (below_set3 (Nat.le_succ_of_le HGG.out.2) _ _ _) (Nat.le_refl _)⟩
    · have pa := Go.Joins.cell_of_block P2.out
      have za := Go.Joins.unfrozen_of_block P2.out
      have ac0 := pa 0; have ac1 := pa 1; have ac2 := pa 2
      have af0 := za 0; have af1 := za 1; have af2 := za 2
      have pb := Go.Joins.cell_of_block P3.out
      have zb := Go.Joins.unfrozen_of_block P3.out
      have bc0 := pb 0; have bc1 := pb 1; have bc2 := pb 2
      have bf0 := zb 0; have bf1 := zb 1; have bf2 := zb 2
      simp only [List.getElem?_toArray, List.getElem?_cons_succ, List.getElem?_cons_zero] at ac0 ac1 ac2 bc0 bc1 bc2
      have hl0 := lt_of_some P2.out; have hl1 := lt_of_some P3.out
      clear pa za pb zb
      go_wp2
      obtain ⟨W5, HW5⟩ : ∃ W5, Hid (W5 = w2.setCell ⟨G, 2, none⟩ (.int .i64 2016)) := ⟨_, rfl⟩
      have hb5 : Below w.heap.size w2 W5 := by rw [HW5.out]; exact (Below.refl _ _).setCell (p := ⟨G, 2, none⟩) HGG.out.2 _
      have hb6 : W5.heap[G + 1]? = some (.cells #[.int .i64 0, .int .i64 0, .int .i64 0] 26 (0, 0)) := by rw [HW5.out]; exact (Below.heap_setCell _ ⟨G, 2, none⟩ _ (G + 1) (by show G + 1 ≠ G; omega)).trans P3.out
      rw [← HW5.out]
      exact ret_win1 (p := 4) Tryz.results11 rfl (G + 1) rfl (set3_blkW hb6 _ _ _) ⟨k, W, 2016, m2, rfl, hk, (HD2.out.goB hb5 hgw).goB (below_set3 (Nat.le_succ_of_le HGG.out.2) _ _ _) hgw, grown_below (grown_below HG2.out hb5 (Nat.le_refl _)) (below_set3 (Nat.le_succ_of_le HGG.out.2) _ _ _) (Nat.le_refl _)⟩
    · have pa := Go.Joins.cell_of_block P2.out
      have za := Go.Joins.unfrozen_of_block P2.out
      have ac0 := pa 0; have ac1 := pa 1; have ac2 := pa 2
      have af0 := za 0; have af1 := za 1; have af2 := za 2
      have pb := Go.Joins.cell_of_block P3.out
      have zb := Go.Joins.unfrozen_of_block P3.out
      have bc0 := pb 0; have bc1 := pb 1; have bc2 := pb 2
      have bf0 := zb 0; have bf1 := zb 1; have bf2 := zb 2
      simp only [List.getElem?_toArray, List.getElem?_cons_succ, List.getElem?_cons_zero] at ac0 ac1 ac2 bc0 bc1 bc2
      have hl0 := lt_of_some P2.out; have hl1 := lt_of_some P3.out
      clear pa za pb zb
      go_wp2
      obtain ⟨W5, HW5⟩ : ∃ W5, Hid (W5 = w2.setCell ⟨G, 2, none⟩ (.int .i64 2017)) := ⟨_, rfl⟩
      have hb5 : Below w.heap.size w2 W5 := by rw [HW5.out]; exact (Below.refl _ _).setCell (p := ⟨G, 2, none⟩) HGG.out.2 _
      have hb6 : W5.heap[G + 1]? = some (.cells #[.int .i64 0, .int .i64 0, .int .i64 0] 26 (0, 0)) := by rw [HW5.out]; exact (Below.heap_setCell _ ⟨G, 2, none⟩ _ (G + 1) (by show G + 1 ≠ G; omega)).trans P3.out
      rw [← HW5.out]
      exact ret_win1 (p := 4) Tryz.results11 rfl (G + 1) rfl (set3_blkW hb6 _ _ _) ⟨k, W, 2017, m2, rfl, hk, (HD2.out.goB hb5 hgw).goB (below_set3 (Nat.le_succ_of_le HGG.out.2) _ _ _) hgw, grown_below (grown_below HG2.out hb5 (Nat.le_refl _)) (below_set3 (Nat.le_succ_of_le HGG.out.2) _ _ _) (Nat.le_refl _)⟩
  · have pa := Go.Joins.cell_of_block P0.out
    have za := Go.Joins.unfrozen_of_block P0.out
    have ac0 := pa 0; have ac1 := pa 1; have ac2 := pa 2
    have af0 := za 0; have af1 := za 1; have af2 := za 2
    have pb := Go.Joins.cell_of_block P1.out
    have zb := Go.Joins.unfrozen_of_block P1.out
    have bc0 := pb 0; have bc1 := pb 1; have bc2 := pb 2
    have bf0 := zb 0; have bf1 := zb 1; have bf2 := zb 2
    simp only [List.getElem?_toArray, List.getElem?_cons_succ, List.getElem?_cons_zero] at ac0 ac1 ac2 bc0 bc1 bc2
    have hl0 := lt_of_some P0.out; have hl1 := lt_of_some P1.out
    clear pa za pb zb
    go_wp2
    exact ret_win1 (p := 4) Tryz.results11 rfl (G + 1) rfl (set3_blkW P1.out _ _ _) ⟨k, W, M, m1, rfl, hk, HD1.out.goB (below_set3 (Nat.le_succ_of_le HGG.out.2) _ _ _) hgw, grown_below HG1.out (below_set3 (Nat.le_succ_of_le HGG.out.2) _ _ _) (Nat.le_refl _)⟩
end Go.Proofs.YtfapfkaipdcflaaGreat

/-
  A state, a list of events and a window among the parameters, opened.
-/
namespace Go.Proofs.YtfapfkaipdcflaaGreat
open Go.ChangeShapes Go.WideShapes Go.ChangeAt Go.RowKit Go.Joins

theorem cellsOfI : Tryz.prog.cellsOf 3 = 1 := by kernel_rfl
theorem cellsOfL : Tryz.prog.cellsOf 62 = 6 := by kernel_rfl
theorem cellsOfS : Tryz.prog.cellsOf 24 = 2 := by kernel_rfl
theorem cellsOfE : Tryz.prog.cellsOf 57 = 7 := by kernel_rfl
theorem cellsOfW : Tryz.prog.cellsOf 26 = 3 := by kernel_rfl
set_option maxRecDepth 100000 in
theorem open_window {H : Type} {enc : TypeId × Value → H} {W : World} {base : Nat} {v : Value} {d : DataW H} {p : List MemPlace} (hv : Value.okWide Tryz.prog W .any base 26 v)
    (h : DataW.Trod enc Tryz.prog W 0 (fun _ => true) true 26 v d p) : ∃ k x m : Int, v = .agg #[.int .i64 k, .int .i64 x, .int .i64 m] ∧ (Lit.int .i64 k).wf = true := by
  obtain ⟨v0, v1, v2, y0, y1, y2, n, rfl, rfl, rfl, h0, h1, h2⟩ := Go.Joins.open_agg3 Tryz.underlying26 (by kernel_rfl) cellsOfW hv h
  obtain ⟨k0, e0, -, w0⟩ := DataW.trod_int Tryz.underlying3 h0
  obtain rfl : v0 = .int .i64 k0 := by simpa using e0
  obtain ⟨k1, e1, -, -⟩ := DataW.trod_int Tryz.underlying3 h1
  obtain rfl : v1 = .int .i64 k1 := by simpa using e1
  obtain ⟨k2, e2, -, -⟩ := DataW.trod_int Tryz.underlying3 h2
  obtain rfl : v2 = .int .i64 k2 := by simpa using e2
  exact ⟨k0, k1, k2, rfl, w0⟩
theorem link_cells {H : Type} {enc : TypeId × Value → H} {W : World} {n : Nat} {cs : List Value} {x : DataW H × List MemPlace} (hc : cs.length = 6) (h : DataW.trod enc Tryz.prog W 0 (fun _ => true) true n 62 cs = some x) :
    ∃ e : Ls.Lk, cs = e.cells := by
  obtain ⟨xs, m, _, _, hl, hlen, hfs⟩ := DataW.trod_struct Tryz.underlying62 h
  have hlen : xs.length = 6 := hlen
  have field : ∀ (i : Nat) (f : Field), i < 6 → DataW.trod enc Tryz.prog W 0 (fun _ => true) true m f.type ((cs.drop f.offset).take (Tryz.prog.cellsOf f.type)) = xs[i]? → f.type = 3 → f.offset = i → ∃ z : Int, cs[i]? = some (.int .i64 z) := by
    intro i f hi hE h2 h3
    rw [h2, h3, cellsOfI, List.getElem?_eq_getElem (by omega)] at hE
    obtain ⟨z, e1, _, _⟩ := DataW.trod_int Tryz.underlying3 hE
    refine ⟨z, ?_⟩
    have h0 : ((cs.drop i).take 1)[0]? = some (.int .i64 z) := by rw [e1]; rfl
    simpa using h0
  obtain ⟨u, h0⟩ := field 0 _ (by decide) (hfs 0 _ rfl) rfl rfl
  obtain ⟨v, h1⟩ := field 1 _ (by decide) (hfs 1 _ rfl) rfl rfl
  obtain ⟨x1, h2⟩ := field 2 _ (by decide) (hfs 2 _ rfl) rfl rfl
  obtain ⟨y, h3⟩ := field 3 _ (by decide) (hfs 3 _ rfl) rfl rfl
  obtain ⟨z, h4⟩ := field 4 _ (by decide) (hfs 4 _ rfl) rfl rfl
  obtain ⟨t, h5⟩ := field 5 _ (by decide) (hfs 5 _ rfl) rfl rfl
  refine ⟨⟨u, v, x1, y, z, t⟩, ?_⟩
  clear field hfs h hl hlen
  match cs, hc with
  | [a0, a1, a2, a3, a4, a5], _ =>
    simp at h0 h1 h2 h3 h4 h5
    subst h0 h1 h2 h3 h4 h5
    rfl
set_option maxRecDepth 100000 in
theorem open_state {H : Type} {enc : TypeId × Value → H} {W : World} {base : Nat} {v : Value} {d : DataW H} {p : List MemPlace} (hv : Value.okWide Tryz.prog W .any base 24 v)
    (h : DataW.Trod enc Tryz.prog W 0 (fun _ => true) true 24 v d p) (hlt : ∀ x ∈ p, x.block < W.heap.size) :
    ∃ (n : Int) (A : Option Addr) (c : Nat) (l : List Ls.Lk), v = .agg #[.int .i64 n, .slice A l.length c] ∧ RL W.heap.size W A c l := by
  obtain ⟨v0, v1, y0, y1, n, rfl, rfl, rfl, h0, h1⟩ := Go.Joins.open_agg2 Tryz.underlying24 (by kernel_rfl) cellsOfS hv h
  obtain ⟨k, e0, -, -⟩ := DataW.trod_int Tryz.underlying3 h0
  obtain rfl : v0 = .int .i64 k := by simpa using e0
  rcases Go.Deep.open_slice Tryz.underlying22 h1 with ⟨hcs, -⟩ | ⟨a, len, cap, m, n, D, Pl, hcs, -, hl, -, hmm, rfl, hel⟩
  · obtain rfl : v1 = .slice none 0 0 := by simpa using hcs
    exact ⟨k, none, 0, [], rfl, RX.nil_ _ _ _ _⟩
  · obtain rfl : v1 = .slice (some a) len cap := by simpa using hcs
    simp only [if_true] at hmm
    subst hmm
    have each : ∀ i, i < m → ∃ e : Ls.Lk, ∀ r, r < 6 → W.cell? (a.add (i * 6 + r)) = e.cells[r]? := by
      intro i hi
      obtain ⟨cs', g1, g2⟩ := hel i hi
      rw [cellsOfL] at g1
      obtain ⟨-, hlen, hcell⟩ := World.cells?_some g1
      obtain ⟨e, rfl⟩ := link_cells hlen g2
      refine ⟨e, fun r hr => ?_⟩
      have := hcell r hr
      rw [Addr.add_add] at this
      exact this
    haveI : Inhabited Ls.Lk := ⟨⟨0, 0, 0, 0, 0, 0⟩⟩
    obtain ⟨V, hV⟩ := Go.Deep.choose_lt each
    obtain ⟨l, Hl⟩ : ∃ l, l = (List.range len).map V := ⟨_, rfl⟩
    have hll : l.length = len := by rw [Hl]; simp
    have hat : ∀ i, i < len → l[i]? = some (V i) := fun i hi => by rw [Hl]; simp [hi]
    refine ⟨k, some a, m, l, by rw [hll], by rw [hll]; exact hl, by rw [cl_len encL], fun hpos => ⟨a, rfl, ?_, fun j x hx => ?_⟩⟩
    · refine hlt (.cell a.block a.off) ?_
      rw [hll] at hpos
      exact List.mem_append_right _ (List.mem_append_left _ (MemPlace.mem_row.2 ⟨0, by rw [cellsOfL]; omega, by simp⟩))
    · have hj : j < len * 6 := by
        have := (List.getElem?_eq_some_iff.1 hx).1
        rw [cl_len encL, hll] at this; omega
      obtain ⟨q, r, rfl, hr⟩ : ∃ q r, j = q * 6 + r ∧ r < 6 := ⟨j / 6, j % 6, by omega, by omega⟩
      have hq : q < len := by omega
      have h5 := cl_at encL l q (V q) (hat q hq) r hr
      rw [hx] at h5
      rw [hV q (by omega) r hr]
      exact h5.symm
theorem event_cells {H : Type} {enc : TypeId × Value → H} {W : World} {n : Nat} {cs : List Value} {x : DataW H × List MemPlace} (hc : cs.length = 7) (h : DataW.trod enc Tryz.prog W 0 (fun _ => true) true n 57 cs = some x) :
    ∃ e : Ev, cs = e.cells := by
  obtain ⟨xs, m, _, _, hl, hlen, hfs⟩ := DataW.trod_struct Tryz.underlying57 h
  have hlen : xs.length = 7 := hlen
  have field : ∀ (i : Nat) (f : Field), i < 7 → DataW.trod enc Tryz.prog W 0 (fun _ => true) true m f.type ((cs.drop f.offset).take (Tryz.prog.cellsOf f.type)) = xs[i]? → f.type = 3 → f.offset = i → ∃ z : Int, cs[i]? = some (.int .i64 z) := by
    intro i f hi hE h2 h3
    rw [h2, h3, cellsOfI, List.getElem?_eq_getElem (by omega)] at hE
    obtain ⟨z, e1, _, _⟩ := DataW.trod_int Tryz.underlying3 hE
    refine ⟨z, ?_⟩
    have h0 : ((cs.drop i).take 1)[0]? = some (.int .i64 z) := by rw [e1]; rfl
    simpa using h0
  obtain ⟨k, h0⟩ := field 0 _ (by decide) (hfs 0 _ rfl) rfl rfl
  obtain ⟨t, h1⟩ := field 1 _ (by decide) (hfs 1 _ rfl) rfl rfl
  obtain ⟨u, h2⟩ := field 2 _ (by decide) (hfs 2 _ rfl) rfl rfl
  obtain ⟨v, h3⟩ := field 3 _ (by decide) (hfs 3 _ rfl) rfl rfl
  obtain ⟨x1, h4⟩ := field 4 _ (by decide) (hfs 4 _ rfl) rfl rfl
  obtain ⟨y, h5⟩ := field 5 _ (by decide) (hfs 5 _ rfl) rfl rfl
  obtain ⟨z, h6⟩ := field 6 _ (by decide) (hfs 6 _ rfl) rfl rfl
  refine ⟨⟨k, t, u, v, x1, y, z⟩, ?_⟩
  clear field hfs h hl hlen
  match cs, hc with
  | [a0, a1, a2, a3, a4, a5, a6], _ =>
    simp at h0 h1 h2 h3 h4 h5 h6
    subst h0 h1 h2 h3 h4 h5 h6
    rfl
set_option maxRecDepth 100000 in
theorem open_events {H : Type} {enc : TypeId × Value → H} {W : World} {base : Nat} {v : Value} {d : DataW H} {p : List MemPlace} (hv : Value.okWide Tryz.prog W .any base 40 v)
    (h : DataW.Trod enc Tryz.prog W 0 (fun _ => true) true 40 v d p) (hlt : ∀ x ∈ p, x.block < W.heap.size) :
    ∃ (A : Option Addr) (c : Nat) (l : List Ev), v = .slice A l.length c ∧ RV W.heap.size W A c l := by
  obtain ⟨a0, len, cap0, rfl⟩ := okWide_slice Tryz.underlying40 hv
  obtain ⟨fuel, hf⟩ := h
  rcases Go.Deep.open_slice Tryz.underlying40 hf with ⟨hcs, -⟩ | ⟨a, len', cap, m, n, D, Pl, hcs, -, hl, -, hmm, hx0, hel⟩
  · simp [Value.cells] at hcs
    obtain ⟨rfl, rfl, rfl⟩ := hcs
    exact ⟨none, 0, [], rfl, RX.nil_ _ _ _ _⟩
  · simp [Value.cells] at hcs
    obtain ⟨rfl, rfl, rfl⟩ := hcs
    simp only [if_true] at hmm
    subst hmm
    simp only [Prod.mk.injEq] at hx0
    obtain ⟨rfl, rfl⟩ := hx0
    have each : ∀ i, i < m → ∃ e : Ev, ∀ r, r < 7 → W.cell? (a.add (i * 7 + r)) = e.cells[r]? := by
      intro i hi
      obtain ⟨cs', g1, g2⟩ := hel i hi
      rw [cellsOfE] at g1
      obtain ⟨-, hlen, hcell⟩ := World.cells?_some g1
      obtain ⟨e, rfl⟩ := event_cells hlen g2
      refine ⟨e, fun r hr => ?_⟩
      have := hcell r hr
      rw [Addr.add_add] at this
      exact this
    haveI : Inhabited Ev := ⟨⟨0, 0, 0, 0, 0, 0, 0⟩⟩
    obtain ⟨V, hV⟩ := Go.Deep.choose_lt each
    obtain ⟨l, Hl⟩ : ∃ l, l = (List.range len).map V := ⟨_, rfl⟩
    have hll : l.length = len := by rw [Hl]; simp
    have hat : ∀ i, i < len → l[i]? = some (V i) := fun i hi => by rw [Hl]; simp [hi]
    refine ⟨some a, m, l, by rw [hll], by rw [hll]; exact hl, by rw [cl_len encE], fun hpos => ⟨a, rfl, ?_, fun j x hx => ?_⟩⟩
    · refine hlt (.cell a.block a.off) ?_
      rw [hll] at hpos
      exact List.mem_append_left _ (MemPlace.mem_row.2 ⟨0, by rw [cellsOfE]; omega, by simp⟩)
    · have hj : j < len * 7 := by
        have := (List.getElem?_eq_some_iff.1 hx).1
        rw [cl_len encE, hll] at this; omega
      obtain ⟨q, r, rfl, hr⟩ : ∃ q r, j = q * 7 + r ∧ r < 7 := ⟨j / 7, j % 7, by omega, by omega⟩
      have hq : q < len := by omega
      have h5 := cl_at encE l q (V q) (hat q hq) r hr
      rw [hx] at h5
      rw [hV q (by omega) r hr]
      exact h5.symm
end Go.Proofs.YtfapfkaipdcflaaGreat
