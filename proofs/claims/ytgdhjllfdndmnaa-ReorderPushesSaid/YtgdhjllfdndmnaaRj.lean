/-
  Flush and Sort.
-/
import Derived.Test.YtgdhjllfdndmnaaRi
namespace Go.Proofs.Ytgdhjllfdndmnaa
open Go.RowKit Go.Lib

/-- what Flush answers -/
def flushB (b : Rd.Bf) : Rd.Bf × List Ev := if Rd.V b then Rd.rel b b.latest else (⟨0, 0, 0, []⟩, [])
def flushE (b : Rd.Bf) : Int := if Rd.V b then 0 else 4
def FlushP (b : Rd.Bf) (w : World) (en : Ending) (w' : World) : Prop :=
  ∃ (b' : Rd.Bf) (r : List Ev) (A1 A2 : Option Addr) (c1 c2 : Nat), en = .returned (.tuple #[.agg #[.int .i64 b'.bound, .int .i64 b'.latest, .int .i64 b'.mark, .slice A1 b'.wait.length c1], .slice A2 r.length c2, .int .i64 (flushE b)]) ∧
    (b', r) = flushB b ∧ RV w'.heap.size w' A1 c1 b'.wait ∧ RV w'.heap.size w' A2 c2 r ∧ Below w.heap.size w w'
set_option maxHeartbeats 2000000 in
theorem flush_any (n L M : Int) (A : Option Addr) (c : Nat) (l : List Ev) (w : World) (h : RV w.heap.size w A c l) (hl : l.length ≤ 60000) :
    Calls Try.prog 21 #[.agg #[.int .i64 n, .int .i64 L, .int .i64 M, .slice A l.length c]] w (FlushP ⟨n, L, M, l⟩ w) := by
  obtain ⟨W1, HW1⟩ : ∃ W1, Hid ((w.alloc (.cells #[.int .i64 n, .int .i64 L, .int .i64 M, .slice A l.length c] 24)).alloc (.cells #[.int .i64 0, .int .i64 0, .int .i64 0, .slice none 0 0] 24) = W1) := ⟨_, rfl⟩
  obtain ⟨G, HGG⟩ : ∃ G, Hid (w.heap.size = G) := ⟨_, rfl⟩
  have hn2 := new_two w (.cells #[.int .i64 n, .int .i64 L, .int .i64 M, .slice A l.length c] 24) (.cells #[.int .i64 0, .int .i64 0, .int .i64 0, .slice none 0 0] 24)
  rw [HW1.out, HGG.out] at hn2
  have HN := Lib.hid hn2
  have hs1 := hn2.2.2.1
  have HB1 : Hid (Below w.heap.size w W1) := by have := hn2.2.2.2; rwa [← HGG.out] at this
  have H1 := Lib.hid (h.up HB1.out)
  have CV := Lib.hid (valid_any n L M A c l W1 H1.out (by omega))
  have HL := Lib.hid hl
  clear hn2 h hl
  go_enter Try.func21, Try.ntmps21
  go_wp2_with fail
  rw [HW1.out, HGG.out]
  refine CV.out.mono ?_
  rintro e w2 ⟨rfl, hb⟩
  have HB2 := Lib.hid hb
  have HB02 : Hid (Below w.heap.size w w2) := HB1.out.trans (hb.mono HB1.out.size)
  have hs2 : G + 2 ≤ w2.heap.size := by have := hb.size; rw [hs1] at this; exact this
  have k0 := (hb.block G (by rw [hs1]; omega)).trans HN.out.1
  have k1 := (hb.block (G + 1) (by rw [hs1]; omega)).trans HN.out.2.1
  have K1 := Lib.hid k1
  have H2 := Lib.hid (H1.out.up hb)
  have aC := Go.Joins.cell_of_block (k0)
  have a0 := aC 0; have a1 := aC 1; have a2 := aC 2; have a3 := aC 3
  simp only [List.getElem?_toArray, List.getElem?_cons_succ, List.getElem?_cons_zero] at a0 a1 a2 a3
  clear aC
  have bC := Go.Joins.cell_of_block (k1)
  have b0 := bC 0; have b1 := bC 1; have b2 := bC 2; have b3 := bC 3
  simp only [List.getElem?_toArray, List.getElem?_cons_succ, List.getElem?_cons_zero] at b0 b1 b2 b3
  have bF := Go.Joins.unfrozen_of_block (k1)
  have bf0 := bF 0; have bf1 := bF 1; have bf2 := bF 2; have bf3 := bF 3
  clear bF
  clear bC
  clear CV k0 k1 hb
  by_cases hV : Rd.V ⟨n, L, M, l⟩
  · have hdV : decide (Rd.V ⟨n, L, M, l⟩) = true := by simpa using hV
    have HV := Lib.hid hV
    have HFE : Hid (flushE ⟨n, L, M, l⟩ = 0) := by show _ = _; rw [flushE, if_pos hV]
    have HFB : Hid (flushB ⟨n, L, M, l⟩ = Rd.rel ⟨n, L, M, l⟩ L) := by show _ = _; rw [flushB, if_pos hV]
    simp only [hdV]
    clear hdV hV
    have CQ := Lib.hid (queueOf_any n L M A c l w2 H2.out (by have := HL.out; omega))
    go_wp2_with fail
    refine CQ.out.mono ?_
    rintro e w3 ⟨A1, c1, rfl, ho, hb3⟩
    have HB3 := Lib.hid hb3
    have hs3 : w2.heap.size ≤ w3.heap.size := hb3.size
    have HO := Lib.hid ho
    obtain ⟨P, HP⟩ : ∃ P, Hid (w3.heap.size = P) := ⟨_, rfl⟩
    have HQ3 : Hid (QB w2.heap.size P A1 c1 ⟨n, L, M, l⟩ (w3.alloc (.cells #[.int .i64 n, .int .i64 L, .int .i64 M, .slice A1 l.length c1] 53))) :=
      ⟨by rw [← HP.out]; exact heap_alloc_new _ _, ho.go (below_new _ _), by rw [← HP.out]; exact hb3.size⟩
    have CR := Lib.hid (release_any w2.heap.size P A1 c1 ⟨n, L, M, l⟩ L (by obtain ⟨i1, i2, i3, i4, i5, -⟩ := HV.out; dsimp only at i1 i2 i3 i4 i5; omega) _ HQ3.out HV.out.2.2.2.2.2.2.2 (by have := HL.out; show l.length ≤ _; omega))
    have HB24 : Hid (Below w2.heap.size w2 (w3.alloc (.cells #[.int .i64 n, .int .i64 L, .int .i64 M, .slice A1 l.length c1] 53))) := hb3.trans ((below_new _ _).mono hb3.size)
    clear ho hb3 CQ a0 a1 a2 a3
    go_wp2_with fail
    rw [HP.out]
    refine CR.out.mono ?_
    rintro e w6 ⟨A3, A4, c3, c4, rfl, hq6, hr6, ht6, hf6⟩
    have HQ6 := Lib.hid hq6
    have HR6 := Lib.hid hr6.1
    have HB26 : Hid (Below w2.heap.size w2 w6) := HB24.out.trans (ht6.below HQ3.out.hP (fun q hq => by cases hq) HB24.out.size)
    have HB6 : Hid (Below w.heap.size w w6) := HB02.out.trans (HB26.out.mono HB02.out.size)
    have i2 := (HB26.out.block (G + 1) (by omega)).trans K1.out
    have I2 := Lib.hid i2
    have hs6 : P < w6.heap.size := hq6.lP
    obtain ⟨q0, q1, q2, q3⟩ := hq6.cells
    have HRB := HFB
    obtain ⟨BB, HBB⟩ : ∃ BB, Hid ((Rd.rel ⟨n, L, M, l⟩ L).1 = BB) := ⟨_, rfl⟩
    obtain ⟨RR, HRR⟩ : ∃ RR, Hid ((Rd.rel ⟨n, L, M, l⟩ L).2 = RR) := ⟨_, rfl⟩
    rw [HBB.out] at HQ6 q0 q1 q2 q3
    rw [HRR.out] at HR6 ⊢
    obtain ⟨nb, HNB⟩ : ∃ nb, Hid (BB.bound = nb) := ⟨_, rfl⟩
    obtain ⟨nl, HNL⟩ : ∃ nl, Hid (BB.latest = nl) := ⟨_, rfl⟩
    obtain ⟨nm, HNM⟩ : ∃ nm, Hid (BB.mark = nm) := ⟨_, rfl⟩
    obtain ⟨nw, HNW⟩ : ∃ nw, Hid (BB.wait.length = nw) := ⟨_, rfl⟩
    obtain ⟨nr, HNR⟩ : ∃ nr, Hid (RR.length = nr) := ⟨_, rfl⟩
    rw [HNB.out] at q0
    rw [HNL.out] at q1
    rw [HNM.out] at q2
    rw [HNW.out] at q3
    rw [HNR.out]
    have ooC := Go.Joins.cell_of_block (i2)
    have oo0 := ooC 0; have oo1 := ooC 1; have oo2 := ooC 2; have oo3 := ooC 3
    simp only [List.getElem?_toArray, List.getElem?_cons_succ, List.getElem?_cons_zero] at oo0 oo1 oo2 oo3
    have ooF := Go.Joins.unfrozen_of_block (i2)
    have oof0 := ooF 0; have oof1 := ooF 1; have oof2 := ooF 2; have oof3 := ooF 3
    clear ooF
    clear ooC
    clear hq6 hr6 ht6 hf6 CR b0 b1 b2 b3 bf0 bf1 bf2 bf3 i2
    go_wp2
    have hblk := set4_blk I2.out (.int .i64 nb) (.int .i64 nl) (.int .i64 nm) (.slice A3 nw c3)
    have hT : Below w.heap.size w _ := below_set4 (g := G + 1) HB6.out (by rw [HGG.out]; omega) (.int .i64 nb) (.int .i64 nl) (.int .i64 nm) (.slice A3 nw c3)
    have hkeep := rv_box (g := G + 1) I2.out (.int .i64 nb) (.int .i64 nl) (.int .i64 nm) (.slice A3 nw c3)
    exact ret_buf3 (p := 2) (q := 3) (r := 4) Try.results21 rfl (G + 1) rfl _ _ rfl rfl hblk ⟨BB, RR, A3, A4, c3, c4, by rw [HFE.out, HNB.out, HNL.out, HNM.out, HNW.out, HNR.out]; rfl, by rw [HFB.out, ← HBB.out, ← HRR.out], hkeep _ _ _ HQ6.out.own.rv, hkeep _ _ _ HR6.out, hT⟩
  · have hdV : decide (Rd.V ⟨n, L, M, l⟩) = false := by simpa using hV
    have HFE : Hid (flushE ⟨n, L, M, l⟩ = 4) := by show _ = _; rw [flushE, if_neg hV]
    have HFB : Hid (flushB ⟨n, L, M, l⟩ = (⟨0, 0, 0, []⟩, [])) := by show _ = _; rw [flushB, if_neg hV]
    simp only [hdV]
    clear hdV hV
    go_wp2
    have hblk := set4_blk K1.out (.int .i64 0) (.int .i64 0) (.int .i64 0) (.slice none 0 0)
    have hT : Below w.heap.size w _ := below_set4 (g := G + 1) HB02.out (by rw [HGG.out]; omega) (.int .i64 0) (.int .i64 0) (.int .i64 0) (.slice none 0 0)
    exact ret_buf3 (p := 2) (q := 3) (r := 4) Try.results21 rfl (G + 1) rfl _ _ rfl rfl hblk ⟨⟨0, 0, 0, []⟩, [], none, none, 0, 0, by rw [HFE.out]; rfl, by rw [HFB.out], RX.nil_ _ _ _ _, RX.nil_ _ _ _ _, hT⟩
end Go.Proofs.Ytgdhjllfdndmnaa
