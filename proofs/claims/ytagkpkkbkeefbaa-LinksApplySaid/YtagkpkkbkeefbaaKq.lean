/-
  The law's awake.
-/
import Derived.Test.YtagkpkkbkeefbaaKp
namespace Go.Proofs.Ytagkpkkbkeefbaa
open Go.RowKit Go.Lib

set_option maxHeartbeats 4000000 in
set_option maxRecDepth 100000 in
theorem awake_any (w : World) : Calls Try.prog 8 #[] w fun e w' => e = .returned (.bool true) ∧ Below w.heap.size w w' := by
  have HA : Hid (Ls.apE 3 [] ⟨1, 2, 2, 1, 4, 0, 1⟩ = 0) := by show _ = _; decide
  have HN : Hid (Ls.nextL [] ⟨1, 2, 2, 1, 4, 0, 1⟩ = [⟨1, 2, 4, 0, 1, 2⟩]) := by show _ = _; decide
  have HC : Hid (Ls.chg [] ⟨1, 2, 2, 1, 4, 0, 1⟩ = [⟨1, 2, 1, 2, 4, 0, 1⟩]) := by show _ = _; decide
  have HR : Hid (Ls.allR 3 [⟨1, 2, 4, 0, 1, 2⟩] [⟨3, 3, 0, 0, 0, 0, 0⟩, ⟨3, 3, 1, 0, 0, 0, 0⟩] = ([], 1, 0)) := by show _ = _; decide
  have C15 := Lib.hid (lapply_any 3 none 0 [] 1 2 2 1 4 0 1 w (RX.nil_ _ _ _ _) (by simp))
  go_enter Try.func8, Try.ntmps8
  go_wp2_with fail
  refine C15.out.mono ?_
  rintro e w1 ⟨n', l', ev, A', A1, c', c1, rfl, hif, hrl, hrv, hb1⟩
  rw [HA.out, if_pos rfl, HN.out, HC.out] at hif
  obtain ⟨rfl, rfl, rfl⟩ := hif
  rw [HA.out]
  have B1 := Lib.hid hb1
  have H1 := Lib.hid hrl
  have V1 := Lib.hid hrv
  clear hb1 hrl hrv C15
  have hs : w1.heap.size + 1 = (w1.alloc (.cells #[.int .i64 3, .slice A' 1 c'] 24)).heap.size := by simp
  obtain ⟨W2, hW2⟩ : ∃ W2, Hid ((w1.alloc (.cells #[.int .i64 3, .slice A' 1 c'] 24)).alloc (.cells #[.int .i64 3, .int .i64 3, .int .i64 0, .int .i64 0, .int .i64 0, .int .i64 0, .int .i64 0, .int .i64 3, .int .i64 3, .int .i64 1, .int .i64 0, .int .i64 0, .int .i64 0, .int .i64 0] 26) = W2) := ⟨_, rfl⟩
  have B2 : Hid (Below w1.heap.size w1 W2) := by show Below _ _ _; rw [← hW2.out]; exact (new_two _ _ _).2.2.2
  have hvE : Hid (RV W2.heap.size W2 (some ⟨w1.heap.size + 1, 0, none⟩) 2 [⟨3, 3, 0, 0, 0, 0, 0⟩, ⟨3, 3, 1, 0, 0, 0, 0⟩]) := by
    show RV _ _ _ _ _
    rw [← hW2.out, hs]
    exact RX_new encE (w1.alloc (.cells #[.int .i64 3, .slice A' 1 c'] 24)) [⟨3, 3, 0, 0, 0, 0, 0⟩, ⟨3, 3, 1, 0, 0, 0, 0⟩] 26
  have C19 := Lib.hid (lall_any 3 A' (some ⟨w1.heap.size + 1, 0, none⟩) c' 2 [⟨1, 2, 4, 0, 1, 2⟩] [⟨3, 3, 0, 0, 0, 0, 0⟩, ⟨3, 3, 1, 0, 0, 0, 0⟩] W2 (H1.out.up B2.out) hvE.out (by simp))
  clear hs
  go_wp2_with fail
  rw [hW2.out]
  refine C19.out.mono ?_
  rintro e w3 ⟨n', l', A5, c5, rfl, hl5, hn5, hr5, hb3⟩
  rw [HR.out] at hl5 hn5 ⊢
  rw [if_pos rfl] at hn5
  subst hl5; subst hn5
  have B3 := Lib.hid (B2.out.trans (hb3.mono B2.out.size))
  obtain ⟨b, off, a, rfl, hbv, ha, c0, c1', c2, c3, c4, c5', c6⟩ := RV_at (k := 0) V1.out (by decide)
  simp at ha
  subst ha
  have d2 := (bcellE B3.out _ _ hbv).trans c2
  simp only [Nat.zero_mul, Nat.add_zero] at d2
  have hbs : b < w3.heap.size := Nat.lt_of_lt_of_le hbv B3.out.size
  have hz0 : W2.heap[w1.heap.size]? = some (.cells #[.int .i64 3, .slice A' 1 c'] 24) := by rw [← hW2.out]; exact (new_two _ _ _).1
  have hlt : w1.heap.size < W2.heap.size := lt_of_some hz0
  have hz := Go.Joins.cell_of_block ((hb3.block w1.heap.size hlt).trans hz0) 1
  simp only [List.getElem?_toArray, List.getElem?_cons_succ, List.getElem?_cons_zero] at hz
  have hs3 : w1.heap.size < w3.heap.size := Nat.lt_of_lt_of_le hlt hb3.size
  clear c0 c1' c2 c3 c4 c5' c6 hz0 hlt hb3 C19
  go_wp2
  go_ret
  exact ⟨rfl, B1.out.trans ((B3.out.mono B1.out.size).trans ((below_new _ _).mono (Nat.le_trans B1.out.size B3.out.size)))⟩
end Go.Proofs.Ytagkpkkbkeefbaa
