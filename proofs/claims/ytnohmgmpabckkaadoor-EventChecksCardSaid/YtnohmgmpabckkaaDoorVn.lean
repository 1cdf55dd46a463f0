/-
  readEvent.
-/
import Derived.Test.YtnohmgmpabckkaaDoorVl
namespace Go.Proofs.YtnohmgmpabckkaaDoor
open Go.RowKit Go.Lib

set_option maxHeartbeats 2000000 in
set_option maxRecDepth 100000 in
theorem readEvent1_any (A : Option Addr) (c : Nat) (t u v x y z : Int) (ht : 0 ≤ t ∧ t ≤ 1048576) (hu : 0 ≤ u ∧ u < 64) (hv : 0 ≤ v ∧ v < 64) (hx : 0 ≤ x ∧ x ≤ 1000) (hy : 0 ≤ y ∧ y ≤ 15) (hz : z = 1 ∨ z = -1) (w : World) (K : KW w)
    (h : RSt w.heap.size w A c [mk (Lib.itoa t), mk (Lib.itoa u), mk (Lib.itoa v), mk (Lib.itoa x), mk (Lib.itoa y), mk (if z = -1 then [45] else [43])]) :
    Calls Tryd.prog 50 #[.string ⟨#[115, 101, 116]⟩, .slice A 6 c] w fun e w' => e = .returned (.tuple #[.agg #[.int .i64 1, .int .i64 t, .int .i64 u, .int .i64 v, .int .i64 x, .int .i64 y, .int .i64 z], .bool true]) ∧ Below w.heap.size w w' := by
  have CR := Lib.hid (fun W (h : RSt W.heap.size W A c [mk (Lib.itoa t), mk (Lib.itoa u), mk (Lib.itoa v), mk (Lib.itoa x), mk (Lib.itoa y), mk (if z = -1 then [45] else [43])]) => readSet_any A c t u v x y z ht hu hv hx hy hz W h)
  have H := Lib.hid h
  have k1 := K.k1; have k2 := K.k2; have k3 := K.k3
  have hsz : 0 < w.heap.size := by have := K.sz; omega
  clear h ht hu hv hx hy hz K
  have q1 : ((⟨#[115, 101, 116]⟩ : ByteArray) == ⟨#[115, 101, 116]⟩) = true := by decide
  go_enter Tryd.func50, Tryd.ntmps50
  go_wp2_with fail
  refine (CR.out _ (RX.up H.out (below_new _ _))).mono ?_
  rintro e w2 ⟨rfl, hb2⟩
  obtain ⟨y0, y1, y2, y3, y4, y5, y6⟩ := box7 hb2
  have hf := box7f hb2
  have f0 := hf 0; have f1 := hf 1; have f2 := hf 2; have f3 := hf 3; have f4 := hf 4; have f5 := hf 5; have f6 := hf 6
  have hs2 : w.heap.size < w2.heap.size := by have := hb2.size; simp at this; omega
  have HB2 := Lib.hid (below_via hb2)
  have HBL := Lib.hid ((hb2.block w.heap.size (by simp)).trans (heap_alloc_new _ _))
  clear hb2 hf H CR k1 k2 k3 q1
  go_wp2
  have hblk := set7_blk w2 w.heap.size _ _ _ _ _ _ _ HBL.out (.int .i64 1) (.int .i64 t) (.int .i64 u) (.int .i64 v) (.int .i64 x) (.int .i64 y) (.int .i64 z)
  have hbel := below_set7 HB2.out (Nat.le_refl _) (.int .i64 1) (.int .i64 t) (.int .i64 u) (.int .i64 v) (.int .i64 x) (.int .i64 y) (.int .i64 z)
  generalize (((((((w2.setCell ⟨w.heap.size, 0, none⟩ (.int .i64 1)).setCell ⟨w.heap.size, 1, none⟩ (.int .i64 t)).setCell ⟨w.heap.size, 2, none⟩ (.int .i64 u)).setCell ⟨w.heap.size, 3, none⟩ (.int .i64 v)).setCell ⟨w.heap.size, 4, none⟩ (.int .i64 x)).setCell ⟨w.heap.size, 5, none⟩ (.int .i64 y)).setCell ⟨w.heap.size, 6, none⟩ (.int .i64 z)) = W at hblk hbel ⊢
  have hWs : w.heap.size < W.heap.size := (Array.getElem?_eq_some_iff.1 hblk).1
  exact ret_struct (p := 4) (u := 5) Tryd.results50 rfl w.heap.size rfl (.bool true) rfl hblk ⟨rfl, hbel⟩
set_option maxHeartbeats 2000000 in
set_option maxRecDepth 100000 in
theorem readEvent2_any (A : Option Addr) (c : Nat) (t u v : Int) (ht : 0 ≤ t ∧ t ≤ 1048576) (hu : 0 ≤ u ∧ u < 64) (hv : 0 ≤ v ∧ v < 64) (w : World) (K : KW w)
    (h : RSt w.heap.size w A c [mk (Lib.itoa t), mk (Lib.itoa u), mk (Lib.itoa v)]) :
    Calls Tryd.prog 50 #[.string ⟨#[99, 117, 116]⟩, .slice A 3 c] w fun e w' => e = .returned (.tuple #[.agg #[.int .i64 2, .int .i64 t, .int .i64 u, .int .i64 v, .int .i64 0, .int .i64 0, .int .i64 0], .bool true]) ∧ Below w.heap.size w w' := by
  have CR := Lib.hid (fun W (h : RSt W.heap.size W A c [mk (Lib.itoa t), mk (Lib.itoa u), mk (Lib.itoa v)]) => rn3 A c t u v ht hu hv W h)
  have H := Lib.hid h
  have k1 := K.k1; have k2 := K.k2; have k3 := K.k3
  have hsz : 0 < w.heap.size := by have := K.sz; omega
  clear h ht hu hv K
  have q1 : ((⟨#[99, 117, 116]⟩ : ByteArray) == ⟨#[115, 101, 116]⟩) = false := by decide
  have q2 : ((⟨#[99, 117, 116]⟩ : ByteArray) == ⟨#[99, 117, 116]⟩) = true := by decide
  go_enter Tryd.func50, Tryd.ntmps50
  go_wp2_with fail
  refine (CR.out _ (RX.up H.out (below_new _ _))).mono ?_
  rintro e w2 ⟨rfl, hb2⟩
  obtain ⟨y0, y1, y2, y3, y4, y5, y6⟩ := box7 hb2
  have hf := box7f hb2
  have f0 := hf 0; have f1 := hf 1; have f2 := hf 2; have f3 := hf 3; have f4 := hf 4; have f5 := hf 5; have f6 := hf 6
  have hs2 : w.heap.size < w2.heap.size := by have := hb2.size; simp at this; omega
  have HB2 := Lib.hid (below_via hb2)
  have HBL := Lib.hid ((hb2.block w.heap.size (by simp)).trans (heap_alloc_new _ _))
  clear hb2 hf H CR k1 k2 k3 q1 q2
  go_wp2
  have hblk := set7_blk w2 w.heap.size _ _ _ _ _ _ _ HBL.out (.int .i64 2) (.int .i64 t) (.int .i64 u) (.int .i64 v) (.int .i64 0) (.int .i64 0) (.int .i64 0)
  have hbel := below_set7 HB2.out (Nat.le_refl _) (.int .i64 2) (.int .i64 t) (.int .i64 u) (.int .i64 v) (.int .i64 0) (.int .i64 0) (.int .i64 0)
  generalize (((((((w2.setCell ⟨w.heap.size, 0, none⟩ (.int .i64 2)).setCell ⟨w.heap.size, 1, none⟩ (.int .i64 t)).setCell ⟨w.heap.size, 2, none⟩ (.int .i64 u)).setCell ⟨w.heap.size, 3, none⟩ (.int .i64 v)).setCell ⟨w.heap.size, 4, none⟩ (.int .i64 0)).setCell ⟨w.heap.size, 5, none⟩ (.int .i64 0)).setCell ⟨w.heap.size, 6, none⟩ (.int .i64 0)) = W at hblk hbel ⊢
  have hWs : w.heap.size < W.heap.size := (Array.getElem?_eq_some_iff.1 hblk).1
  exact ret_struct (p := 4) (u := 5) Tryd.results50 rfl w.heap.size rfl (.bool true) rfl ((heap_alloc_old _ _ hWs).trans hblk) ⟨rfl, hbel.alloc (Nat.le_of_lt hWs) _⟩
set_option maxHeartbeats 2000000 in
set_option maxRecDepth 100000 in
theorem readEvent3_any (A : Option Addr) (c : Nat) (t u : Int) (ht : 0 ≤ t ∧ t ≤ 1048576) (hu : 0 ≤ u ∧ u < 64) (w : World) (K : KW w)
    (h : RSt w.heap.size w A c [mk (Lib.itoa t), mk (Lib.itoa u)]) :
    Calls Tryd.prog 50 #[.string ⟨#[108, 101, 97, 118, 101]⟩, .slice A 2 c] w fun e w' => e = .returned (.tuple #[.agg #[.int .i64 3, .int .i64 t, .int .i64 u, .int .i64 0, .int .i64 0, .int .i64 0, .int .i64 0], .bool true]) ∧ Below w.heap.size w w' := by
  have CR := Lib.hid (fun W (h : RSt W.heap.size W A c [mk (Lib.itoa t), mk (Lib.itoa u)]) => rn2 A c t u ht hu W h)
  have H := Lib.hid h
  have k1 := K.k1; have k2 := K.k2; have k3 := K.k3
  have hsz : 0 < w.heap.size := by have := K.sz; omega
  clear h ht hu K
  have q1 : ((⟨#[108, 101, 97, 118, 101]⟩ : ByteArray) == ⟨#[115, 101, 116]⟩) = false := by decide
  have q2 : ((⟨#[108, 101, 97, 118, 101]⟩ : ByteArray) == ⟨#[99, 117, 116]⟩) = false := by decide
  have q3 : ((⟨#[108, 101, 97, 118, 101]⟩ : ByteArray) == ⟨#[108, 101, 97, 118, 101]⟩) = true := by decide
  go_enter Tryd.func50, Tryd.ntmps50
  go_wp2_with fail
  refine (CR.out _ (RX.up H.out (below_new _ _))).mono ?_
  rintro e w2 ⟨rfl, hb2⟩
  obtain ⟨y0, y1, y2, y3, y4, y5, y6⟩ := box7 hb2
  have hf := box7f hb2
  have f0 := hf 0; have f1 := hf 1; have f2 := hf 2; have f3 := hf 3; have f4 := hf 4; have f5 := hf 5; have f6 := hf 6
  have hs2 : w.heap.size < w2.heap.size := by have := hb2.size; simp at this; omega
  have HB2 := Lib.hid (below_via hb2)
  have HBL := Lib.hid ((hb2.block w.heap.size (by simp)).trans (heap_alloc_new _ _))
  clear hb2 hf H CR k1 k2 k3 q1 q2 q3
  go_wp2
  have hblk := set7_blk w2 w.heap.size _ _ _ _ _ _ _ HBL.out (.int .i64 3) (.int .i64 t) (.int .i64 u) (.int .i64 0) (.int .i64 0) (.int .i64 0) (.int .i64 0)
  have hbel := below_set7 HB2.out (Nat.le_refl _) (.int .i64 3) (.int .i64 t) (.int .i64 u) (.int .i64 0) (.int .i64 0) (.int .i64 0) (.int .i64 0)
  generalize (((((((w2.setCell ⟨w.heap.size, 0, none⟩ (.int .i64 3)).setCell ⟨w.heap.size, 1, none⟩ (.int .i64 t)).setCell ⟨w.heap.size, 2, none⟩ (.int .i64 u)).setCell ⟨w.heap.size, 3, none⟩ (.int .i64 0)).setCell ⟨w.heap.size, 4, none⟩ (.int .i64 0)).setCell ⟨w.heap.size, 5, none⟩ (.int .i64 0)).setCell ⟨w.heap.size, 6, none⟩ (.int .i64 0)) = W at hblk hbel ⊢
  have hWs : w.heap.size < W.heap.size := (Array.getElem?_eq_some_iff.1 hblk).1
  exact ret_struct (p := 4) (u := 5) Tryd.results50 rfl w.heap.size rfl (.bool true) rfl ((heap_alloc_old _ _ hWs).trans hblk) ⟨rfl, hbel.alloc (Nat.le_of_lt hWs) _⟩
end Go.Proofs.YtnohmgmpabckkaaDoor
