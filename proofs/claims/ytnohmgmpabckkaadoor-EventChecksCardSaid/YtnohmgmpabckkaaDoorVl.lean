/-
  Reading an event out of words.
-/
import Derived.Test.YtnohmgmpabckkaaDoorVm
namespace Go.Proofs.YtnohmgmpabckkaaDoor
open Go.RowKit Go.Lib

set_option maxHeartbeats 4000000 in
set_option maxRecDepth 100000 in
theorem readSet_any (A : Option Addr) (c : Nat) (t u v x y z : Int) (ht : 0 ≤ t ∧ t ≤ 1048576) (hu : 0 ≤ u ∧ u < 64) (hv : 0 ≤ v ∧ v < 64) (hx : 0 ≤ x ∧ x ≤ 1000) (hy : 0 ≤ y ∧ y ≤ 15) (hz : z = 1 ∨ z = -1) (w : World)
    (h : RSt w.heap.size w A c [mk (Lib.itoa t), mk (Lib.itoa u), mk (Lib.itoa v), mk (Lib.itoa x), mk (Lib.itoa y), mk (if z = -1 then [45] else [43])]) :
    Calls Tryd.prog 64 #[.slice A 6 c] w fun e w' => e = .returned (.tuple #[.agg #[.int .i64 1, .int .i64 t, .int .i64 u, .int .i64 v, .int .i64 x, .int .i64 y, .int .i64 z], .bool true]) ∧ Below w.heap.size w w' := by
  have hc6 : 6 ≤ c := h.1
  obtain ⟨Z, HZ⟩ : ∃ Z, Hid (mk (if z = -1 then [45] else [43]) = Z) := ⟨_, rfl⟩
  rw [HZ.out] at h
  have C5 := Lib.hid (fun W (h : RSt W.heap.size W A c [mk (Lib.itoa t), mk (Lib.itoa u), mk (Lib.itoa v), mk (Lib.itoa x), mk (Lib.itoa y)]) => rn5 A c t u v x y ht hu hv hx hy W h)
  have CZ := Lib.hid (fun W => HZ.out ▸ readSign_any z W hz)
  have H5 := Lib.hid (show RSt w.heap.size w A c [mk (Lib.itoa t), mk (Lib.itoa u), mk (Lib.itoa v), mk (Lib.itoa x), mk (Lib.itoa y)] from RX.front encS h (k := 5) (by simp))
  obtain ⟨b, off, a, rfl, hb, ha, h5⟩ := RSt.at_ h (k := 5) (by simp)
  simp only [List.getElem?_cons_succ, List.getElem?_cons_zero, Option.some.injEq] at ha
  subst ha
  have H5' := Lib.hid h5
  clear ht hu hv hx hy hz h h5
  go_enter Tryd.func64, Tryd.ntmps64
  go_wp2_with fail
  refine (C5.out _ (RX.up H5.out (below_new _ _))).mono ?_
  rintro e w2 ⟨rfl, hb2⟩
  have h5 := ((below_via hb2).cell (p := ⟨b, off + 5, none⟩) hb).trans H5'.out
  obtain ⟨y0, y1, y2, y3, y4, y5, y6⟩ := box7 hb2
  have hf := box7f hb2
  have f0 := hf 0; have f1 := hf 1; have f2 := hf 2; have f3 := hf 3; have f4 := hf 4; have f5 := hf 5; have f6 := hf 6
  have hs2 : w.heap.size < w2.heap.size := by have := hb2.size; simp at this; omega
  have HB2 := Lib.hid (below_via hb2)
  have HBL := Lib.hid ((hb2.block w.heap.size (by simp)).trans (heap_alloc_new _ _))
  have hbs : b < w2.heap.size := by omega
  clear hb2 hf H5 H5' C5
  go_wp2_with (go_at_call 78; refine (CZ.out _).mono ?_; rintro e w' ⟨rfl, rfl⟩)
  have hblk := set7_blk w2 w.heap.size _ _ _ _ _ _ _ HBL.out (.int .i64 1) (.int .i64 t) (.int .i64 u) (.int .i64 v) (.int .i64 x) (.int .i64 y) (.int .i64 z)
  have hbel := below_set7 HB2.out (Nat.le_refl _) (.int .i64 1) (.int .i64 t) (.int .i64 u) (.int .i64 v) (.int .i64 x) (.int .i64 y) (.int .i64 z)
  generalize (((((((w2.setCell ⟨w.heap.size, 0, none⟩ (.int .i64 1)).setCell ⟨w.heap.size, 1, none⟩ (.int .i64 t)).setCell ⟨w.heap.size, 2, none⟩ (.int .i64 u)).setCell ⟨w.heap.size, 3, none⟩ (.int .i64 v)).setCell ⟨w.heap.size, 4, none⟩ (.int .i64 x)).setCell ⟨w.heap.size, 5, none⟩ (.int .i64 y)).setCell ⟨w.heap.size, 6, none⟩ (.int .i64 z)) = W at hblk hbel ⊢
  have hWs : w.heap.size < W.heap.size := (Array.getElem?_eq_some_iff.1 hblk).1
  exact ret_struct (p := 2) (u := 3) Tryd.results64 rfl w.heap.size rfl (.bool true) rfl ((heap_alloc_old _ _ hWs).trans hblk) ⟨rfl, hbel.alloc (Nat.le_of_lt hWs) _⟩
end Go.Proofs.YtnohmgmpabckkaaDoor
