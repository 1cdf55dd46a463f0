/-
  The reference's wrong: the error of the arguments.
-/
import Derived.Test.YtfapfkaipdcflaaGreatUb
namespace Go.Proofs.YtfapfkaipdcflaaGreat
open Go.RowKit Go.Lib
open Go.Proofs.YtfapfkaipdcflaaGreat.K (new_two)

theorem orL_1 {a b c : Int} (h : a ≠ 0) : orL [a, b, c] = a := by
  show (if a = 0 then (if b = 0 then (if c = 0 then 0 else c) else b) else a) = a
  rw [if_neg h]
theorem orL_2 {b c : Int} (h : b ≠ 0) : orL [0, b, c] = b := by
  show (if (0 : Int) = 0 then (if b = 0 then (if c = 0 then 0 else c) else b) else 0) = b
  rw [if_pos rfl, if_neg h]
theorem orL_3 (c : Int) : orL [0, 0, c] = c := by
  show (if (0 : Int) = 0 then (if (0 : Int) = 0 then (if c = 0 then 0 else c) else 0) else 0) = c
  rw [if_pos rfl, if_pos rfl]
  split
  · next h => exact h.symm
  · rfl
set_option maxHeartbeats 4000000 in
set_option maxRecDepth 100000 in
theorem rwrong_any (n : Int) (A : Option Addr) (c : Nat) (l : List Ls.Lk) (k W M t : Int) (w : World) (h : RL w.heap.size w A c l) (hl : l.length ≤ 60000) :
    Calls Tryz.prog 31 #[.agg #[.int .i64 n, .slice A l.length c], .agg #[.int .i64 k, .int .i64 W, .int .i64 M], .int .i64 t] w fun e w' => e = .returned (.int .i64 (wrongS k W M n t l)) ∧ Below w.heap.size w w' := by
  obtain ⟨m0, m1, ms, mb⟩ := new_two w (.cells #[.int .i64 n, .slice A l.length c] 24) (.cells #[.int .i64 k, .int .i64 W, .int .i64 M] 26)
  obtain ⟨W2, HW2⟩ : ∃ W2, Hid (W2 = (w.alloc (.cells #[.int .i64 n, .slice A l.length c] 24)).alloc (.cells #[.int .i64 k, .int .i64 W, .int .i64 M] 26)) := ⟨_, rfl⟩
  rw [← HW2.out] at m0 m1 ms mb
  obtain ⟨g, HG⟩ : ∃ g, Hid (w.heap.size = g) := ⟨_, rfl⟩
  rw [HG.out] at m0 m1 ms
  have M0 := Lib.hid m0; have MB := Lib.hid mb
  have H := Lib.hid (h.up mb)
  have C1 := Lib.hid (rcheckW_any k W M W2)
  have C2 := Lib.hid (fun ws h => K.rcheckS_any n A c l ws h (by omega))
  obtain ⟨E, HE⟩ : ∃ E, Hid (wrongS k W M n t l = E) := ⟨_, rfl⟩
  rw [HE.out]
  have HE0 : Hid (orL [chkW k W M, Ls.chkS n l, Ls.chkT t l] = E) := HE.out
  obtain ⟨E1, HE1⟩ : ∃ E, Hid (chkW k W M = E) := ⟨_, rfl⟩
  obtain ⟨E2, HE2⟩ : ∃ E, Hid (Ls.chkS n l = E) := ⟨_, rfl⟩
  rw [HE1.out, HE2.out] at HE0
  rw [HE1.out] at C1
  simp only [HE2.out] at C2
  obtain ⟨N, HN⟩ : ∃ N, Hid (l.length = N) := ⟨_, rfl⟩
  have hN : N ≤ 60000 := by rw [← HN.out]; exact hl
  simp only [HN.out] at M0 C2 HW2 ⊢
  clear h hl m0 mb m1 HE HE1 HE2
  have hg0 : g < W2.heap.size := by omega
  clear ms
  rw [HW2.out] at C1
  go_enter Tryz.func31, Tryz.ntmps31
  go_wp2_with fail
  refine C1.out.mono ?_
  rw [← HW2.out]
  simp only [HG.out]
  rintro e w1 ⟨rfl, hb1⟩
  have HB1 := Lib.hid hb1
  have H1 := Lib.hid (H.out.up hb1)
  have b0 := (HB1.out.block g hg0).trans M0.out
  have p := Go.Joins.cell_of_block b0
  have p0 := p 0; have p1 := p 1
  simp only [List.getElem?_toArray, List.getElem?_cons_succ, List.getElem?_cons_zero] at p0 p1
  have hgr0 := lt_of_some b0
  clear p b0 C1 hb1 H
  by_cases h1 : E1 = 0
  · subst h1
    have d1 : ((0 : Int) != 0) = false := rfl
    have C3 := Lib.hid (C2.out w1 H1.out)
    go_wp2_with fail
    refine C3.out.mono ?_
    rintro e w2 ⟨rfl, hb2⟩
    have HB2 := Lib.hid (HB1.out.trans (hb2.mono HB1.out.size))
    have H2 := Lib.hid (H1.out.up hb2)
    have b0 := (HB2.out.block g hg0).trans M0.out
    have p := Go.Joins.cell_of_block b0
    have p1 := p 1
    simp only [List.getElem?_toArray, List.getElem?_cons_succ, List.getElem?_cons_zero] at p1
    have hgr0 := lt_of_some b0
    clear p b0 C3 hb2 H1 HB1
    by_cases h2 : E2 = 0
    · subst h2
      have HT : Hid (Ls.chkT t l = E) := by show _ = _; rw [← HE0.out, orL_3]
      clear HE0
      by_cases ht : t < 0 ∨ 1048576 < t
      · have hR : Hid ((9 : Int) = E) := by show _ = _; rw [← HT.out]; unfold Ls.chkT; rw [if_pos ht]
        clear HT
        rcases ht with ht | ht
        · have d2 : decide (t < 0) = true := by simpa using ht
          go_wp2
          go_ret
          exact ⟨ret_int hR.out, (by first | exact MB.out.trans (HB2.out.mono MB.out.size) | (rw [HG.out] at MB; exact MB.out.trans (HB2.out.mono (Nat.le_of_lt hg0))))⟩
        · have d2 : decide (t < 0) = false := by rw [decide_eq_false_iff_not]; omega
          have d3 : decide (t > 1048576) = true := by rw [decide_eq_true_eq]; omega
          go_wp2
          go_ret
          exact ⟨ret_int hR.out, (by first | exact MB.out.trans (HB2.out.mono MB.out.size) | (rw [HG.out] at MB; exact MB.out.trans (HB2.out.mono (Nat.le_of_lt hg0))))⟩
      · have d2 : decide (t < 0) = false := by rw [decide_eq_false_iff_not]; omega
        have d3 : decide (t > 1048576) = false := by rw [decide_eq_false_iff_not]; omega
        have HQ : Hid ((if l.any (fun x => decide (t < x.time)) = true then 9 else 0) = E) := by show _ = _; rw [← HT.out]; unfold Ls.chkT; rw [if_neg ht]
        clear HT ht
        go_wp2
        go_loopw [30] (fun i wr => ∃ k : Nat, k ≤ N ∧ i = .int .i64 k ∧ Hid (∀ x ∈ l.take k, decide (t < x.time) = false) ∧ Hid (Below w2.heap.size w2 wr)) (fun i _ => N - (RowKit.intOf i).toNat)
        case atStart => exact ⟨0, Nat.zero_le _, rfl, by show ∀ x ∈ l.take 0, _; simp, Below.refl _ _⟩
        case round =>
          obtain ⟨k, hk, rfl, HF, HB⟩ := hrel
          clear p1 p0
          by_cases hlt : k < N
          · obtain ⟨bb, off, ⟨u1, v1, x1, y1, z1, t1⟩, rfl, hb, hx, c0, c1, c2, c3, c4, c5⟩ := RL.at_ (k := k) (H2.out.up HB.out) (by rw [HN.out]; exact hlt)
            dsimp only at c0 c1 c2 c3 c4 c5
            have HX := Lib.hid hx
            clear hx
            have HB3 : Hid (Below W2.heap.size W2 (wr.alloc (.cells #[.int .i64 u1, .int .i64 v1, .int .i64 x1, .int .i64 y1, .int .i64 z1, .int .i64 t1] 62))) := (HB2.out.trans (HB.out.mono HB2.out.size)).alloc (Nat.le_trans HB2.out.size HB.out.size) _
            have HB4 : Hid (Below w2.heap.size w2 (wr.alloc (.cells #[.int .i64 u1, .int .i64 v1, .int .i64 x1, .int .i64 y1, .int .i64 z1, .int .i64 t1] 62))) := HB.out.alloc HB.out.size _
            by_cases h1 : t < t1
            · have d3 : decide (t1 > t) = true := by simpa using h1
              have hR : Hid ((9 : Int) = E) := by
                show _ = _
                rw [← HQ.out, if_pos]
                rw [List.any_eq_true]
                exact ⟨_, List.mem_of_getElem? HX.out, by simpa using h1⟩
              clear h1
              go_wp2
              go_ret
              exact ⟨ret_int hR.out, (by first | exact MB.out.trans (HB3.out.mono MB.out.size) | (rw [HG.out] at MB; exact MB.out.trans (HB3.out.mono (Nat.le_of_lt hg0))))⟩
            · have d3 : decide (t1 > t) = false := by simpa using h1
              have HF2 : Hid (∀ x ∈ l.take (k + 1), decide (t < x.time) = false) := by
                show ∀ x ∈ l.take (k + 1), _
                rw [take_at l k _ HX.out]
                intro x hx
                rcases List.mem_append.1 hx with hx | hx
                · exact HF.out x hx
                · simp at hx; subst hx; simpa using h1
              clear h1
              go_wp2
              go_roundw
              case rel => exact ⟨k + 1, by omega, by go_num, HF2.out, HB4.out⟩
              case measure => simp [RowKit.intOf]; omega
          · have hR : Hid ((0 : Int) = E) := by
              show _ = _
              rw [← HQ.out, if_neg]
              rw [Bool.not_eq_true, List.any_eq_false]
              intro x hx
              have := HF.out x (by rwa [List.take_of_length_le (by rw [HN.out]; omega)])
              rw [this]; decide
            have dk : ¬ (k < N) := hlt
            go_wp2
            go_ret
            exact ⟨ret_int hR.out, (by first | exact MB.out.trans ((HB2.out.trans (HB.out.mono HB2.out.size)).mono MB.out.size) | (rw [HG.out] at MB; exact MB.out.trans ((HB2.out.trans (HB.out.mono HB2.out.size)).mono (Nat.le_of_lt hg0))))⟩
    · have hR : Hid (E2 = E) := by show _ = _; rw [← HE0.out, orL_2 h2]
      have d2 : (E2 != 0) = true := by simpa using h2
      have d3 : (E2 == 0) = false := by simpa using h2
      clear h2
      go_wp2
      go_ret
      exact ⟨ret_int hR.out, (by first | exact MB.out.trans (HB2.out.mono MB.out.size) | (rw [HG.out] at MB; exact MB.out.trans (HB2.out.mono (Nat.le_of_lt hg0))))⟩
  · have hR : Hid (E1 = E) := by show _ = _; rw [← HE0.out, orL_1 h1]
    have d2 : (E1 != 0) = true := by simpa using h1
    have d3 : (E1 == 0) = false := by simpa using h1
    clear h1
    go_wp2
    go_ret
    exact ⟨ret_int hR.out, (by first | exact MB.out.trans (HB1.out.mono MB.out.size) | (rw [HG.out] at MB; exact MB.out.trans (HB1.out.mono (Nat.le_of_lt hg0))))⟩
end Go.Proofs.YtfapfkaipdcflaaGreat
