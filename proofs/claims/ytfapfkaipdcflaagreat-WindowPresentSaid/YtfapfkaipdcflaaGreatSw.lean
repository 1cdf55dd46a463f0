/-
  awake: the example of the chapter.
-/
import Derived.Test.YtfapfkaipdcflaaGreatSu
import Derived.Test.YtfapfkaipdcflaaGreatSv
namespace Go.Proofs.YtfapfkaipdcflaaGreat
open Go.RowKit Go.Lib

def exL : List Ls.Lk := [⟨0, 1, 1, 0, 1, 5⟩]
theorem ex7 : wrongS 2 3 0 2 7 exL = 0 ∧ Ls.keepS (extW 2 3) (extM 2 0) 7 exL = exL := by decide
theorem ex8 : wrongS 2 3 0 2 8 exL = 0 ∧ Ls.keepS (extW 2 3) (extM 2 0) 8 exL = [] := by decide
theorem exW : chkW 2 3 0 = 0 := by decide
theorem ex_wf : (Lit.int .i64 2).wf = true := rfl
set_option maxHeartbeats 4000000 in
set_option maxRecDepth 100000 in
theorem awake_any (w : World) : Calls Tryz.prog 7 #[] w fun e w' => e = .returned (.bool true) ∧ Below w.heap.size w w' := by
  obtain ⟨W1, HW1⟩ : ∃ W1, Hid (W1 = ((w.alloc (.cells #[.int .i64 0, .int .i64 1, .int .i64 1, .int .i64 0, .int .i64 1, .int .i64 5] 62)).alloc (.cells #[.int .i64 2, .slice (some ⟨w.heap.size, 0, none⟩) 1 1] 24)).alloc (.cells #[.int .i64 2, .int .i64 3, .int .i64 0] 26)) := ⟨_, rfl⟩
  have HRL : Hid (RL W1.heap.size W1 (some ⟨w.heap.size, 0, none⟩) 1 exL) := by
    show RL _ _ _ _ _
    rw [HW1.out]
    exact ((RX_new encL w exL 62).up (below_new _ _)).up (below_new _ _)
  have HB1 : Hid (Below w.heap.size w W1) := by show Below _ _ _; rw [HW1.out]; exact ((below_new _ _).alloc (by simp) _).alloc (by simp; omega) _
  have HS1 : Hid (W1.heap[w.heap.size + 1]? = some (.cells #[.int .i64 2, .slice (some ⟨w.heap.size, 0, none⟩) 1 1] 24 (0, 0))) := by
    show _ = _
    rw [HW1.out, Below.heap_alloc _ _ _ (by simp)]
    have := heap_alloc_new (w.alloc (.cells #[.int .i64 0, .int .i64 1, .int .i64 1, .int .i64 0, .int .i64 1, .int .i64 5] 62)) (.cells #[.int .i64 2, .slice (some ⟨w.heap.size, 0, none⟩) 1 1] 24)
    simpa using this
  have HX1 : Hid (W1.heap[w.heap.size + 2]? = some (.cells #[.int .i64 2, .int .i64 3, .int .i64 0] 26 (0, 0))) := by
    show _ = _
    rw [HW1.out]
    have := heap_alloc_new ((w.alloc (.cells #[.int .i64 0, .int .i64 1, .int .i64 1, .int .i64 0, .int .i64 1, .int .i64 5] 62)).alloc (.cells #[.int .i64 2, .slice (some ⟨w.heap.size, 0, none⟩) 1 1] 24)) (.cells #[.int .i64 2, .int .i64 3, .int .i64 0] 26)
    simpa using this
  have C7 : Hid (∀ ws, Below W1.heap.size W1 ws → Calls Tryz.prog 13 #[.agg #[.int .i64 2, .slice (some ⟨w.heap.size, 0, none⟩) 1 1], .agg #[.int .i64 2, .int .i64 3, .int .i64 0], .int .i64 7] ws (PrsP 0 2 exL ws)) := by
    intro ws hb
    have := present_any 2 (some ⟨w.heap.size, 0, none⟩) 1 exL 2 3 0 ex_wf 7 ws (HRL.out.up hb) (by decide)
    rw [ex7.1, ex7.2] at this
    exact this
  have C8 : Hid (∀ ws, Below W1.heap.size W1 ws → Calls Tryz.prog 13 #[.agg #[.int .i64 2, .slice (some ⟨w.heap.size, 0, none⟩) 1 1], .agg #[.int .i64 2, .int .i64 3, .int .i64 0], .int .i64 8] ws (PrsP 0 2 [] ws)) := by
    intro ws hb
    have := present_any 2 (some ⟨w.heap.size, 0, none⟩) 1 exL 2 3 0 ex_wf 8 ws (HRL.out.up hb) (by decide)
    rw [ex8.1, ex8.2] at this
    exact this
  have CW : Hid (∀ ws, Calls Tryz.prog 21 #[.agg #[.int .i64 2, .int .i64 3, .int .i64 0]] ws fun e w' => e = .returned (.int .i64 0) ∧ Below ws.heap.size ws w') := by
    intro ws
    have := wcheck_any 2 3 0 ex_wf ws
    rwa [exW] at this
  have hs0 := Go.Joins.cell_of_block HS1.out
  have s0 := hs0 0; have s1 := hs0 1
  have hx0 := Go.Joins.cell_of_block HX1.out
  have x0 := hx0 0; have x1 := hx0 1; have x2 := hx0 2
  simp only [List.getElem?_toArray, List.getElem?_cons_succ, List.getElem?_cons_zero] at s0 s1 x0 x1 x2
  have hls := lt_of_some HS1.out
  have hlx := lt_of_some HX1.out
  clear hs0 hx0
  go_enter Tryz.func7, Tryz.ntmps7
  go_wp2_with fail
  rw [← HW1.out]
  refine (C7.out W1 (Below.refl _ _)).mono ?_
  rintro e w1 ⟨A1, c1, rfl, -, hb⟩
  have HB2 := Lib.hid hb
  have s0' := (hb.cell (p := ⟨w.heap.size + 1, 0, none⟩) hls).trans s0
  have s1' := (hb.cell (p := ⟨w.heap.size + 1, 1, none⟩) hls).trans s1
  have x0' := (hb.cell (p := ⟨w.heap.size + 2, 0, none⟩) hlx).trans x0
  have x1' := (hb.cell (p := ⟨w.heap.size + 2, 1, none⟩) hlx).trans x1
  have x2' := (hb.cell (p := ⟨w.heap.size + 2, 2, none⟩) hlx).trans x2
  have hls' := Nat.lt_of_lt_of_le hls hb.size
  have hlx' := Nat.lt_of_lt_of_le hlx hb.size
  have HS2 := Lib.hid ((hb.block _ hls).trans HS1.out)
  have HX2 := Lib.hid ((hb.block _ hlx).trans HX1.out)
  clear hb s0 s1 x0 x1 x2 hls hlx
  rw [show exL.length = 1 from rfl]
  have HBA : Hid (Below W1.heap.size W1 (w1.alloc (.cells #[.int .i64 2, .slice A1 1 c1] 24))) := HB2.out.alloc HB2.out.size _
  have HA1 : Hid ((w1.alloc (.cells #[.int .i64 2, .slice A1 1 c1] 24)).heap[w1.heap.size]? = some (.cells #[.int .i64 2, .slice A1 1 c1] 24 (0, 0))) := heap_alloc_new _ _
  go_wp2_with fail
  refine (C8.out _ HBA.out).mono ?_
  rintro e w2 ⟨A2, c2, rfl, -, hb⟩
  have HB3 := Lib.hid (HBA.out.trans (hb.mono HBA.out.size))
  have HA2 := Lib.hid ((hb.block _ (lt_of_some HA1.out)).trans HA1.out)
  have HX3 := Lib.hid ((hb.block _ (Nat.lt_trans hlx' (by simp))).trans ((Below.heap_alloc _ _ _ hlx').trans HX2.out))
  have ha := Go.Joins.cell_of_block HA2.out
  have a0 := ha 0; have a1 := ha 1
  have hx0 := Go.Joins.cell_of_block HX3.out
  have x0 := hx0 0; have x1 := hx0 1; have x2 := hx0 2
  simp only [List.getElem?_toArray, List.getElem?_cons_succ, List.getElem?_cons_zero] at a0 a1 x0 x1 x2
  have hla := lt_of_some HA2.out
  have hlx := lt_of_some HX3.out
  have HB4 : Hid (Below w.heap.size w (w2.alloc (.cells #[.int .i64 2, .slice A2 0 c2] 24))) := (HB1.out.trans (HB3.out.mono HB1.out.size)).alloc (Nat.le_trans HB1.out.size HB3.out.size) _
  clear hb s0' s1' x0' x1' x2' hls' hlx' ha hx0
  simp only [List.length_nil]
  go_wp2_with fail
  refine (CW.out _).mono ?_
  rintro e w3 ⟨rfl, hb⟩
  have HB5 := Lib.hid (HB4.out.trans (hb.mono HB4.out.size))
  clear hb a0 a1 x0 x1 x2 hla hlx
  go_wp2
  go_ret
  exact ⟨rfl, HB5.out⟩
end Go.Proofs.YtfapfkaipdcflaaGreat
