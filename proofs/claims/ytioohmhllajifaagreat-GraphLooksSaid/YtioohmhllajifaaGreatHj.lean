/-
  The law's awake.
-/
import Derived.Test.YtioohmhllajifaaGreatHi
import Derived.Test.YtioohmhllajifaaGreatHe
namespace Go.Proofs.YtioohmhllajifaaGreat
open Go.RowKit Go.Lib

theorem RE_block {w : World} {b : Nat} {l : List Ed} {t : TypeId} {B : Nat} (h : w.heap[b]? = some (.cells (ev l).toArray t)) (hb : b < B) : RE B w (some ⟨b, 0, none⟩) l.length l := by
  refine ⟨Nat.le_refl _, len_ev l, fun _ => ⟨_, rfl, hb, fun j x hx => ?_⟩⟩
  have := Go.Joins.cell_of_block (w := w) h j
  rw [show ((⟨b, 0, none⟩ : Addr).add j) = ⟨b, j, none⟩ by unfold Addr.add; split <;> simp_all]
  rw [this]; simpa using hx
theorem RD_block {w : World} {b : Nat} {l : List Int} {t : TypeId} (h : w.heap[b]? = some (.cells (vals l).toArray t)) : RD w (some ⟨b, 0, none⟩) l.length l := by
  refine ⟨Nat.le_refl _, by rw [len_vals]; omega, fun _ => ⟨_, rfl, lt_of_some h, fun j x hx => ?_⟩⟩
  have := Go.Joins.cell_of_block (w := w) h j
  rw [show ((⟨b, 0, none⟩ : Addr).add j) = ⟨b, j, none⟩ by unfold Addr.add; split <;> simp_all]
  rw [this]; simpa using hx

theorem aw_e : ofe 3 [(2, 1), (0, 1), (1, 2)] = 0 := by decide
theorem aw_l : ofl [(2, 1), (0, 1), (1, 2)] = [(0, 1), (1, 2)] := by decide
theorem aw_n : denN 3 [(0, 1), (1, 2)] [0, 1, 2] = 2 := by decide
theorem aw_d : denD 3 [(0, 1), (1, 2)] [0, 1, 2] = 3 := by decide
theorem aw_c : chk 3 [(0, 1), (1, 2)] = 0 := by decide

set_option maxHeartbeats 2000000 in
theorem awake3_any (w : World) : Calls Tryz.prog 4 #[] w fun e w' => e = .returned (.bool true) ∧ Below w.heap.size w w' := by
  have C15 : Hid (∀ (W : World) (g : Nat), W.heap.size = g → Calls Tryz.prog 26 #[.int .i64 3, .slice (some ⟨g, 0, none⟩) 3 3] (W.alloc (.cells #[.int .i64 2, .int .i64 1, .int .i64 0, .int .i64 1, .int .i64 1, .int .i64 2] 53)) (GivesG (W.alloc (.cells #[.int .i64 2, .int .i64 1, .int .i64 0, .int .i64 1, .int .i64 1, .int .i64 2] 53)) 3 [(0, 1), (1, 2)] 0)) := by
    intro W g hg
    subst hg
    have h := gof_any 3 (some ⟨W.heap.size, 0, none⟩) 3 [(2, 1), (0, 1), (1, 2)] (W.alloc (.cells #[.int .i64 2, .int .i64 1, .int .i64 0, .int .i64 1, .int .i64 1, .int .i64 2] 53)) (RE_block (l := [(2, 1), (0, 1), (1, 2)]) (heap_alloc_new W _) (by simp)) (by simp)
    rw [aw_e, aw_l] at h
    exact h
  have C29 : Hid (∀ (W : World) (g : Nat) (A : Option Addr) (c : Nat), RE W.heap.size W A c [(0, 1), (1, 2)] → W.heap.size = g → Calls Tryz.prog 21 #[.agg #[.int .i64 3, .slice A 2 c], .slice (some ⟨g, 0, none⟩) 3 3] (W.alloc (.cells #[.int .i64 0, .int .i64 1, .int .i64 2] 3)) fun e w' => e = .returned (.tuple #[.agg #[.int .i64 2, .int .i64 3], .int .i64 0]) ∧ Below W.heap.size W w') := by
    intro W g A c hre hg
    subst hg
    have h := gden_any 3 A (some ⟨W.heap.size, 0, none⟩) c 3 [(0, 1), (1, 2)] [0, 1, 2] (W.alloc (.cells #[.int .i64 0, .int .i64 1, .int .i64 2] 3)) (hre.alloc _ |>.more (by simp)) (RD_block (l := [0, 1, 2]) (heap_alloc_new W _)) (by simp) (by simp)
    rw [aw_n, aw_d, aw_c] at h
    exact h.mono fun _ _ ⟨h1, h2⟩ => ⟨h1, ((Below.refl _ _).alloc (Nat.le_refl _) _).trans (h2.mono (by simp))⟩
  have C12 : Hid (∀ (W : World) (A : Option Addr) (c : Nat), RE W.heap.size W A c [(0, 1), (1, 2)] → Calls Tryz.prog 27 #[.agg #[.int .i64 3, .slice A 2 c]] W fun e w' => e = .returned (.int .i64 0) ∧ Below W.heap.size W w') := by
    intro W A c hre
    have h := gcheck_any 3 A c [(0, 1), (1, 2)] W hre (by simp)
    rw [aw_c] at h
    exact h
  go_enter Tryz.func4, Tryz.ntmps4
  go_wp2_with fail
  refine (C15.out _ _ rfl).mono ?_
  rintro e w1 ⟨A, c, rfl, ho, hb⟩
  have HB1 : Hid (Below w.heap.size w w1) := ((Below.refl _ _).alloc (Nat.le_refl _) _).trans (hb.mono (by simp))
  have HRE := Lib.hid (RE.of_own ho)
  clear ho hb C15
  obtain ⟨W2, HW2⟩ : ∃ W2, Hid (W2 = w1.alloc (.cells #[.int .i64 3, .slice A 2 c] 28)) := ⟨_, rfl⟩
  have hbl2 : W2.heap[w1.heap.size]? = some (.cells #[.int .i64 3, .slice A 2 c] 28) := by rw [HW2.out]; exact heap_alloc_new _ _
  have HRE2 : Hid (RE W2.heap.size W2 A c [(0, 1), (1, 2)]) := by show RE _ _ _ _ _; rw [HW2.out]; exact (HRE.out.alloc _).more (by simp)
  have HB2 : Hid (Below w.heap.size w W2) := by show Below _ _ _; rw [HW2.out]; exact HB1.out.alloc HB1.out.size _
  have HBL2 := Lib.hid hbl2
  clear hbl2 HB1 HRE
  go_wp2_with fail
  rw [← HW2.out]
  refine (C29.out W2 _ A c HRE2.out (by rw [HW2.out]; simp)).mono ?_
  rintro e w3 ⟨rfl, hb⟩
  have a0 := Go.Joins.cell_of_block ((hb.block _ (lt_of_some HBL2.out)).trans HBL2.out) 0; have a1 := Go.Joins.cell_of_block ((hb.block _ (lt_of_some HBL2.out)).trans HBL2.out) 1
  have al := lt_of_some ((hb.block _ (lt_of_some HBL2.out)).trans HBL2.out)
  simp at a0 a1
  have HRE3 := Lib.hid (HRE2.out.up hb)
  have HB3 := Lib.hid (HB2.out.trans (hb.mono HB2.out.size))
  have CC := Lib.hid (C12.out (w3.alloc (.cells #[.int .i64 2, .int .i64 3] 45)) A c ((HRE3.out.alloc _).more (by simp)))
  clear hb C29 C12 HRE2 HB2 HBL2 HW2
  go_wp2_with (go_at_call 27; refine CC.out.mono ?_; rintro e w4 ⟨rfl, hb4⟩)
  go_ret
  exact ⟨rfl, (HB3.out.alloc HB3.out.size _).trans (hb4.mono (by have := HB3.out.size; simp; omega))⟩
end Go.Proofs.YtioohmhllajifaaGreat
