/-
  The examples of the chapter answer true.
-/
import Derived.Test.YtjagjlgboheoeaaNh
namespace Go.Proofs.Ytjagjlgboheoeaa
open Go.RowKit Go.Lib

theorem rd_new (w : World) (l : List Int) : RD (w.alloc (.cells (vals l).toArray 3)) (some ⟨w.heap.size, 0, none⟩) l.length l := by
  refine ⟨Nat.le_refl _, by simp [vals], fun _ => ⟨_, rfl, by simp, fun j u hu => ?_⟩⟩
  have := (Go.Joins.cell_of_block (w := w.alloc (.cells (vals l).toArray 3)) (heap_alloc_new w _) j)
  rw [show ((⟨w.heap.size, 0, none⟩ : Addr).add j) = ⟨w.heap.size, j, none⟩ by unfold Addr.add; split <;> simp_all]
  rw [this]; simpa using hu
theorem below_new (w : World) (o : Obj) : Below w.heap.size w (w.alloc o) := (Below.refl _ _).alloc (Nat.le_refl _) o

set_option maxHeartbeats 400000 in
theorem awake_any (w : World) : Calls Try.prog 7 #[] w fun e w' => e = .returned (.bool true) ∧ Below w.heap.size w w' := by
  have c1 : Calls Try.prog 12 #[.slice (some ⟨w.heap.size, 0, none⟩) 3 3] (w.alloc (.cells #[.int .i64 3, .int .i64 1, .int .i64 3] 3)) (Gives (w.alloc (.cells #[.int .i64 3, .int .i64 1, .int .i64 3] 3)) [1, 3]) := by
    have := of_any (some ⟨w.heap.size, 0, none⟩) 3 [3, 1, 3] _ (rd_new w [3, 1, 3]) (by decide)
    rw [show Ns.norm [3, 1, 3] = [1, 3] by decide] at this
    exact this
  have C1 := Lib.hid c1
  clear c1
  go_enter Try.func7, Try.ntmps7
  go_wp2_with fail
  refine C1.out.mono ?_
  rintro e w1 ⟨A1, c1, rfl, h1, hb1⟩
  have H1 := Lib.hid h1
  have HB1 := Lib.hid ((below_new w _).trans (hb1.mono (by simp)))
  clear h1 hb1 C1
  have c2 := same_any A1 (some ⟨w1.heap.size, 0, none⟩) c1 2 [1, 3] [1, 3] (w1.alloc (.cells #[.int .i64 1, .int .i64 3] 3)) (H1.out.alloc _) (rd_new w1 [1, 3]) (by decide) (by decide)
  rw [show eqB [1, 3] [1, 3] = true by decide] at c2
  have C2 := Lib.hid c2
  clear c2
  go_wp2_with fail
  refine C2.out.mono ?_
  rintro e w2 ⟨rfl, hb2⟩
  have HB2 := Lib.hid ((below_new w1 _).trans (hb2.mono (by simp)))
  clear hb2 C2
  have c3 := cmp_any (some ⟨w2.heap.size, 0, none⟩) (some ⟨w2.heap.size + 1, 0, none⟩) 2 3 [0, 5] [0, 5, 6] ((w2.alloc (.cells #[.int .i64 0, .int .i64 5] 3)).alloc (.cells #[.int .i64 0, .int .i64 5, .int .i64 6] 3)) ((rd_new w2 [0, 5]).alloc _)
    (by have := rd_new (w2.alloc (.cells #[.int .i64 0, .int .i64 5] 3)) [0, 5, 6]; simpa [vals] using this) (by decide) (by decide)
  rw [show Ns.cm [0, 5] [0, 5, 6] = -1 by decide] at c3
  have C3 := Lib.hid c3
  clear c3
  go_wp2_with fail
  refine C3.out.mono ?_
  rintro e w3 ⟨rfl, rfl⟩
  have HB3 := Lib.hid (((below_new w2 (.cells #[.int .i64 0, .int .i64 5] 3)).trans ((below_new _ (.cells #[.int .i64 0, .int .i64 5, .int .i64 6] 3)).mono (by simp))))
  clear C3
  obtain ⟨w4, HW4⟩ : ∃ w4, Hid (w4 = ((w2.alloc (.cells #[.int .i64 0, .int .i64 5] 3)).alloc (.cells #[.int .i64 0, .int .i64 5, .int .i64 6] 3))) := ⟨_, rfl⟩
  rw [← HW4.out] at HB3 ⊢
  have h4 : RD w4 A1 c1 [1, 3] := (H1.out.go HB2.out).go HB3.out
  have c4 := valid_any A1 c1 [1, 3] 4 w4 h4 (by decide)
  rw [show valid [1, 3] 4 = true by decide] at c4
  have c5 := has_any A1 c1 [1, 3] 3 w4 h4 (by decide)
  rw [show hasB [1, 3] 3 = true by decide] at c5
  have C4 := Lib.hid c4
  have C5 := Lib.hid c5
  clear c4 c5 h4
  go_wp2_with fail
  refine C4.out.mono ?_
  rintro e w5 ⟨rfl, rfl⟩
  go_wp2_with fail
  refine C5.out.mono ?_
  rintro e w6 ⟨rfl, rfl⟩
  go_wp2
  go_ret
  exact ⟨rfl, HB1.out.trans ((HB2.out.trans (HB3.out.mono HB2.out.size)).mono HB1.out.size)⟩
end Go.Proofs.Ytjagjlgboheoeaa
