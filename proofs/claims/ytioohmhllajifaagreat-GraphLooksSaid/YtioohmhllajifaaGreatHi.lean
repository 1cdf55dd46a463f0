/-
  Package graph's Density.
-/
import Derived.Test.YtioohmhllajifaaGreatHh
import Derived.Test.YtioohmhllajifaaGreatWq
namespace Go.Proofs.YtioohmhllajifaaGreat
open Go.RowKit Go.Lib

/-- the density of a set, with the error -/
def denN (n : Int) (l : List Ed) (S : List Int) : Int := if chk n l = 0 then (if (nin n S).length = 0 then 0 else ((quoN (insL n l S).length (nin n S).length : Nat) : Int)) else 0
def denD (n : Int) (l : List Ed) (S : List Int) : Int := if chk n l = 0 then (if (nin n S).length = 0 then 1 else ((quoD (insL n l S).length (nin n S).length : Nat) : Int)) else 0
theorem len_nin (n : Int) (S : List Int) : (nin n S).length ≤ 64 := by
  have h1 : (nin n S).length ≤ (Ns.norm (upto (cut64 n))).length := List.length_filter_le _ _
  have h2 := Ns.len_norm (upto (cut64 n))
  rw [len_upto] at h2
  have := cut64_le n
  omega
theorem len_insL (n : Int) (l : List Ed) (S : List Int) : (insL n l S).length ≤ l.length := by
  unfold insL; split
  · exact List.length_filter_le _ _
  · simp
theorem make_nat (a b : Nat) (w : World) (ha : a ≤ 65536) (hb : b ≤ 65536) (h0 : 0 < b) :
    Calls Tryz.prog 39 #[.int .i64 (a : Int), .int .i64 (b : Int)] w fun e w' => e = .returned (.tuple #[.agg #[.int .i64 (quoN a b : Nat), .int .i64 (quoD a b : Nat)], .int .i64 0]) ∧ Below w.heap.size w w' := by
  have hs : (decide ((a : Int) < 0) == decide ((b : Int) < 0)) = !false := by
    have h1 : ¬ (a : Int) < 0 := by omega
    have h2 : ¬ (b : Int) < 0 := by omega
    simp [h1, h2]
  have h := make_nz a b w (by omega) (by omega) (by omega) (by omega) (by omega) false hs
  have h1 := quoN_le a b
  have h2 := quoD_le a b
  have e1 : nrN (sgn false (quoN a b)) (quoD a b) = (quoN a b : Nat) := by unfold nrN sgn; simp; omega
  have e2 : nrD (sgn false (quoN a b)) (quoD a b) = (quoD a b : Nat) := by unfold nrD sgn; simp; omega
  have e3 : nrE (sgn false (quoN a b)) (quoD a b) = 0 := by unfold nrE sgn; simp; omega
  simp only [Int.natAbs_natCast, e1, e2, e3] at h
  exact h

/-- the boxes of Density: the graph's g, the result's cell g4 -/
structure DS (w : World) (g g4 : Nat) (n : Int) (A : Option Addr) (c m : Nat) (wr : World) : Prop where
  bg : wr.heap[g]? = some (.cells #[.int .i64 n, .slice A m c] 28)
  b4 : wr.heap[g4]? = some (.cells #[.int .i64 0, .int .i64 0] 45)
  bel : Below w.heap.size w wr
  l4 : w.heap.size ≤ g4
theorem DS.go {w wr w3 : World} {g g4 m c : Nat} {n : Int} {A : Option Addr} (h : DS w g g4 n A c m wr) (hb : Below wr.heap.size wr w3) : DS w g g4 n A c m w3 :=
  ⟨(hb.block _ (lt_of_some h.bg)).trans h.bg, (hb.block _ (lt_of_some h.b4)).trans h.b4, h.bel.trans (hb.mono h.bel.size), h.l4⟩

set_option maxHeartbeats 2000000 in
theorem gden_any (n : Int) (A B : Option Addr) (c d : Nat) (l : List Ed) (S : List Int) (w : World) (h : RE w.heap.size w A c l) (h' : RD w B d S) (hl : l.length ≤ 65536) (hS : S.length ≤ 65536) :
    Calls Tryz.prog 21 #[.agg #[.int .i64 n, .slice A l.length c], .slice B S.length d] w fun e w' => e = .returned (.tuple #[.agg #[.int .i64 (denN n l S), .int .i64 (denD n l S)], .int .i64 (chk n l)]) ∧ Below w.heap.size w w' := by
  obtain ⟨X, HX⟩ : ∃ X, Hid (chk n l = X) := ⟨_, rfl⟩
  obtain ⟨x, Hx⟩ : ∃ x, Hid (denN n l S = x) := ⟨_, rfl⟩
  obtain ⟨y, Hy⟩ : ∃ y, Hid (denD n l S = y) := ⟨_, rfl⟩
  rw [HX.out, Hx.out, Hy.out]
  have H := Lib.hid h
  have H' := Lib.hid h'
  clear h h'
  have HP0 : Hid (DS w w.heap.size (w.heap.size + 1) n A c l.length ((w.alloc (.cells #[.int .i64 n, .slice A l.length c] 28)).alloc (.cells #[.int .i64 0, .int .i64 0] 45))) :=
    ⟨(Below.heap_alloc _ _ _ (by simp)).trans (heap_alloc_new _ _), by have := heap_alloc_new (w.alloc (.cells #[.int .i64 n, .slice A l.length c] 28)) (.cells #[.int .i64 0, .int .i64 0] 45); simpa using this, ((Below.refl _ _).alloc (Nat.le_refl _) _).alloc (by simp) _, by omega⟩
  go_enter Tryz.func21, Tryz.ntmps21
  go_wp2_with fail
  refine (gcheck_any n A c l _ (H.out.up HP0.out.bel) hl).mono ?_
  rintro e w1 ⟨rfl, hb⟩
  rw [HX.out]
  have HP1 := Lib.hid (HP0.out.go hb)
  clear hb HP0
  have a0 := Go.Joins.cell_of_block HP1.out.bg 0; have a1 := Go.Joins.cell_of_block HP1.out.bg 1; have al := lt_of_some HP1.out.bg
  simp at a0 a1
  by_cases hX : X = 0
  · subst hX
    have CM := Lib.hid (fun (W : World) (h : RD W B d S) => nodesIn_any n A B c d l S W h hS)
    obtain ⟨M, HM⟩ : ∃ M, Hid (nin n S = M) := ⟨_, rfl⟩
    have HML : M.length ≤ 64 := by rw [← HM.out]; exact len_nin n S
    have HIL := len_insL n l S
    have CI := Lib.hid (fun (W : World) (h : RE W.heap.size W A c l) (h2 : RD W B d S) => gins_any n A B c d l S W h h2 hl hS)
    have HN : Hid (x = if M.length = 0 then 0 else ((quoN (insL n l S).length M.length : Nat) : Int)) := by show _ = _; rw [← Hx.out]; unfold denN; rw [if_pos HX.out, HM.out]
    have HDD : Hid (y = if M.length = 0 then 1 else ((quoD (insL n l S).length M.length : Nat) : Int)) := by show _ = _; rw [← Hy.out]; unfold denD; rw [if_pos HX.out, HM.out]
    rw [HM.out] at CM
    generalize insL n l S = I at CI HN HDD HIL
    go_wp2_with fail
    refine (CM.out _ (H'.out.go HP1.out.bel)).mono ?_
    rintro e w2 ⟨B2, d2, rfl, h2, hb⟩
    have HP2 := Lib.hid (HP1.out.go hb)
    clear a0 a1 al hb h2 HP1
    have a0 := Go.Joins.cell_of_block HP2.out.bg 0; have a1 := Go.Joins.cell_of_block HP2.out.bg 1; have al := lt_of_some HP2.out.bg
    simp at a0 a1
    by_cases hm : M.length = 0
    · have ex : x = 0 := by rw [HN.out, if_pos hm]
      have ey : y = 1 := by rw [HDD.out, if_pos hm]
      subst ex; subst ey
      have hmd : ((M.length : Int) == 0) = true := by simpa using hm
      clear hm
      have b0 := Go.Joins.cell_of_block HP2.out.b4 0; have b1 := Go.Joins.cell_of_block HP2.out.b4 1; have d0 := Go.Joins.unfrozen_of_block HP2.out.b4 0; have d1 := Go.Joins.unfrozen_of_block HP2.out.b4 1
      simp at b0 b1
      have hb4 := (setCell_two (setCell_two HP2.out.b4 (v := .int .i64 0)).1 (v := .int .i64 1)).2
      have hf0 := Go.Joins.cell_of_block hb4 0; have hf1 := Go.Joins.cell_of_block hb4 1
      simp at hf0 hf1
      have HW := Lib.hid ((HP2.out.bel.setCell (p := ⟨w.heap.size + 1, 0, none⟩) (by simp) (.int .i64 0)).setCell (p := ⟨w.heap.size + 1, 1, none⟩) (by simp) (.int .i64 1))
      clear hb4
      go_wp2
      generalize ((w2.setCell ⟨w.heap.size + 1, 0, none⟩ (.int .i64 0)).setCell ⟨w.heap.size + 1, 1, none⟩ (.int .i64 1)) = wf at HW hf0 hf1 ⊢
      exact bodyPost_ret (v := .tuple #[.agg #[.int .i64 0, .int .i64 1], .int .i64 0]) (by simp [results, Tryz.results21, go_sem, hf0, hf1]) rfl ⟨rfl, HW.out⟩
    · have ex : x = ((quoN I.length M.length : Nat) : Int) := by rw [HN.out, if_neg hm]
      have ey : y = ((quoD I.length M.length : Nat) : Int) := by rw [HDD.out, if_neg hm]
      have hmd : ((M.length : Int) == 0) = false := by simpa using hm
      have CK := Lib.hid (fun W => make_nat I.length M.length W (by omega) (by omega) (by omega))
      clear hm
      generalize quoN I.length M.length = p at CK ex
      generalize quoD I.length M.length = q at CK ey
      clear HN HDD
      subst ex; subst ey
      go_wp2_with fail
      refine (CI.out _ (H.out.up HP2.out.bel) (H'.out.go HP2.out.bel)).mono ?_
      rintro e w3 ⟨rfl, hb⟩
      have HP3 := Lib.hid (HP2.out.go hb)
      clear a0 a1 al hb HP2
      go_wp2_with fail
      refine (CK.out _).mono ?_
      rintro e w4 ⟨rfl, hb⟩
      have HP4 := Lib.hid (HP3.out.go hb)
      clear hb HP3
      have b0 := Go.Joins.cell_of_block HP4.out.b4 0; have b1 := Go.Joins.cell_of_block HP4.out.b4 1; have d0 := Go.Joins.unfrozen_of_block HP4.out.b4 0; have d1 := Go.Joins.unfrozen_of_block HP4.out.b4 1
      simp at b0 b1
      have hb4 := (setCell_two (setCell_two HP4.out.b4 (v := .int .i64 p)).1 (v := .int .i64 q)).2
      have hf0 := Go.Joins.cell_of_block hb4 0; have hf1 := Go.Joins.cell_of_block hb4 1
      simp at hf0 hf1
      have HW := Lib.hid ((HP4.out.bel.setCell (p := ⟨w.heap.size + 1, 0, none⟩) (by simp) (.int .i64 p)).setCell (p := ⟨w.heap.size + 1, 1, none⟩) (by simp) (.int .i64 q))
      clear hb4
      go_wp2
      generalize ((w4.setCell ⟨w.heap.size + 1, 0, none⟩ (.int .i64 p)).setCell ⟨w.heap.size + 1, 1, none⟩ (.int .i64 q)) = wf at HW hf0 hf1 ⊢
      exact bodyPost_ret (v := .tuple #[.agg #[.int .i64 p, .int .i64 q], .int .i64 0]) (by simp [results, Tryz.results21, go_sem, hf0, hf1]) rfl ⟨rfl, HW.out⟩
  · have e1 : (X != 0) = true := by simpa using hX
    have ex : x = 0 := by rw [← Hx.out]; unfold denN; rw [if_neg (by rw [HX.out]; exact hX)]
    have ey : y = 0 := by rw [← Hy.out]; unfold denD; rw [if_neg (by rw [HX.out]; exact hX)]
    subst ex; subst ey
    clear hX
    have b0 := Go.Joins.cell_of_block HP1.out.b4 0; have b1 := Go.Joins.cell_of_block HP1.out.b4 1; have d0 := Go.Joins.unfrozen_of_block HP1.out.b4 0; have d1 := Go.Joins.unfrozen_of_block HP1.out.b4 1
    simp at b0 b1
    have hb4 := (setCell_two (setCell_two HP1.out.b4 (v := .int .i64 0)).1 (v := .int .i64 0)).2
    have hf0 := Go.Joins.cell_of_block hb4 0; have hf1 := Go.Joins.cell_of_block hb4 1
    simp at hf0 hf1
    have HW := Lib.hid ((HP1.out.bel.setCell (p := ⟨w.heap.size + 1, 0, none⟩) (by simp) (.int .i64 0)).setCell (p := ⟨w.heap.size + 1, 1, none⟩) (by simp) (.int .i64 0))
    clear hb4
    go_wp2
    generalize ((w1.setCell ⟨w.heap.size + 1, 0, none⟩ (.int .i64 0)).setCell ⟨w.heap.size + 1, 1, none⟩ (.int .i64 0)) = wf at HW hf0 hf1 ⊢
    exact bodyPost_ret (v := .tuple #[.agg #[.int .i64 0, .int .i64 0], .int .i64 X]) (by simp [results, Tryz.results21, go_sem, hf0, hf1]) rfl ⟨rfl, HW.out⟩
end Go.Proofs.YtioohmhllajifaaGreat
