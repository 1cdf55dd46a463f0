/-
  The reference's Same of states.
-/
import Derived.Test.YtfapfkaipdcflaaGreatSw
namespace Go.Proofs.YtfapfkaipdcflaaGreat
open Go.RowKit Go.Lib
open Go.Proofs.YtfapfkaipdcflaaGreat.K (new_two)

/-- two states are the same -/
def sameS (n1 n2 : Int) (l1 l2 : List Ls.Lk) : Bool := decide (n1 = n2 ∧ l1 = l2)
set_option maxHeartbeats 8000000 in
set_option maxRecDepth 100000 in
theorem sameS_any (n1 n2 : Int) (A B : Option Addr) (c d : Nat) (l1 l2 : List Ls.Lk) (w : World) (h : RL w.heap.size w A c l1) (g : RL w.heap.size w B d l2) (hl : l1.length ≤ 1000000) :
    Calls Tryz.prog 17 #[.agg #[.int .i64 n1, .slice A l1.length c], .agg #[.int .i64 n2, .slice B l2.length d]] w fun e w' => e = .returned (.bool (sameS n1 n2 l1 l2)) ∧ Below w.heap.size w w' := by
  obtain ⟨m0, m1, ms, mb⟩ := new_two w (.cells #[.int .i64 n1, .slice A l1.length c] 24) (.cells #[.int .i64 n2, .slice B l2.length d] 24)
  have MB := Lib.hid mb
  by_cases hn : n1 = n2
  · subst hn
    have dn : (n1 != n1) = false := by simp
    by_cases hlen : l1.length = l2.length
    · obtain ⟨W1, hW1⟩ : ∃ W1, Hid ((w.alloc (.cells #[.int .i64 n1, .slice A l1.length c] 24)).alloc (.cells #[.int .i64 n1, .slice B l2.length d] 24) = W1) := ⟨_, rfl⟩
      rw [hW1.out] at m0 m1 ms MB
      have M0 := Lib.hid m0; have M1 := Lib.hid m1; have MS := Lib.hid ms
      have H := Lib.hid (h.up MB.out)
      have G := Lib.hid (g.up MB.out)
      obtain ⟨g0, HG0⟩ : ∃ g0, Hid (w.heap.size = g0) := ⟨_, rfl⟩
      rw [HG0.out] at M0 M1 MS
      obtain ⟨n, HN⟩ : ∃ n, Hid (l1.length = n) := ⟨_, rfl⟩
      have HN2 := Lib.hid (hlen.symm.trans HN.out)
      have hn64 : n ≤ 1000000 := by rw [← HN.out]; exact hl
      have HLN := Lib.hid hlen
      clear m0 m1 ms mb h g hlen
      rw [HN.out, HN2.out]
      rw [HN.out] at M0
      rw [HN2.out] at M1
      go_enter Tryz.func17, Tryz.ntmps17
      go_wp2
      have hW2 := hW1.out
      rw [HN.out, HN2.out] at hW2
      rw [hW2]
      clear hW2
      simp only [HG0.out]
      go_loopw [23] (fun i wr => ∃ (k : Nat), k ≤ n ∧ i = .int .i64 k ∧ Hid (Below W1.heap.size W1 wr) ∧ Hid (l1.take k = l2.take k)) (fun i _ => n - (RowKit.intOf i).toNat)
      case atStart => exact ⟨0, Nat.zero_le _, rfl, Below.refl _ _, by show _ = _; simp⟩
      case round =>
        obtain ⟨k, hk, rfl, HB, HT⟩ := hrel
        have b0 := (HB.out.block g0 (by rw [MS.out]; omega)).trans M0.out
        have b1 := (HB.out.block (g0 + 1) (by rw [MS.out]; omega)).trans M1.out
        have x1 := Go.Joins.cell_of_block b0 1; have y1 := Go.Joins.cell_of_block b1 1
        simp only [List.getElem?_toArray, List.getElem?_cons_succ, List.getElem?_cons_zero] at x1 y1
        have hg0 : g0 < wr.heap.size := lt_of_some b0
        have hg1 : g0 + 1 < wr.heap.size := lt_of_some b1
        clear b0 b1
        by_cases hlt : k < n
        · obtain ⟨b, off, ⟨u, v, x, y, z, t⟩, rfl, hb, ha, c0, c1, c2, c3, c4, c5⟩ := RL.at_ (k := k) (H.out.go HB.out) (by rw [HN.out]; exact hlt)
          obtain ⟨b', off', ⟨u', v', x', y', z', t'⟩, rfl, hb', ha', e0, e1, e2, e3, e4, e5⟩ := RL.at_ (k := k) (G.out.go HB.out) (by rw [HN2.out]; exact hlt)
          dsimp only at c0 c1 c2 c3 c4 c5 e0 e1 e2 e3 e4 e5
          have hbw : b < wr.heap.size := Nat.lt_of_lt_of_le hb HB.out.size
          have hbw' : b' < wr.heap.size := Nat.lt_of_lt_of_le hb' HB.out.size
          have HA := Lib.hid ha
          have HA' := Lib.hid ha'
          clear ha ha'
          by_cases heq : (⟨u, v, x, y, z, t⟩ : Ls.Lk) = ⟨u', v', x', y', z', t'⟩
          · injection heq with i1 i2 i3 i4 i5 i6
            subst i1; subst i2; subst i3; subst i4; subst i5; subst i6
            have HT2 : Hid (l1.take (k + 1) = l2.take (k + 1)) := by show _ = _; rw [take_at l1 k _ HA.out, take_at l2 k _ HA'.out, HT.out]
            go_wp2
            go_quiet (fail)
            clear c0 c1 c2 c3 c4 c5 e0 e1 e2 e3 e4 e5 x1 y1
            go_wp2
            go_roundw
            case rel => exact ⟨k + 1, hlt, by go_num, HB.out.trans ((below_drewN wr nq).mono HB.out.size), HT2.out⟩
            case measure => simp [RowKit.intOf]; omega
          · have HF : Hid (sameS n1 n1 l1 l2 = false) := by
              show _ = _
              unfold sameS
              rw [decide_eq_false_iff_not]
              rintro ⟨_, rfl⟩
              have := HA.out
              rw [HA'.out] at this
              injection this with this
              exact heq this.symm
            have hne : u ≠ u' ∨ (u = u' ∧ v ≠ v') ∨ (u = u' ∧ v = v' ∧ x ≠ x') ∨ (u = u' ∧ v = v' ∧ x = x' ∧ y ≠ y') ∨ (u = u' ∧ v = v' ∧ x = x' ∧ y = y' ∧ z ≠ z') ∨ (u = u' ∧ v = v' ∧ x = x' ∧ y = y' ∧ z = z' ∧ t ≠ t') := by
              by_cases j1 : u = u' <;> by_cases j2 : v = v' <;> by_cases j3 : x = x' <;> by_cases j4 : y = y' <;> by_cases j5 : z = z' <;> by_cases j6 : t = t' <;> simp_all
            clear heq HA HA'
            rcases hne with h1 | ⟨h1, h2⟩ | ⟨h1, h2, h3⟩ | ⟨h1, h2, h3, h4⟩ | ⟨h1, h2, h3, h4, h5⟩ | ⟨h1, h2, h3, h4, h5, h6⟩
            · have d1 : (u == u') = false := by simpa using h1
              have d2 : (u != u') = true := by simpa using h1
              clear h1
              go_wp2
              go_quiet (fail)
              go_wp2
              go_ret
              exact ⟨ret_bool HF.out.symm, MB.out.trans ((HB.out.trans ((below_drewN wr nq).mono HB.out.size)).mono MB.out.size)⟩
            · have d1 : (v == v') = false := by simpa using h2
              have d2 : (v != v') = true := by simpa using h2
              subst h1
              clear h2
              go_wp2
              go_quiet (fail)
              go_wp2
              go_ret
              exact ⟨ret_bool HF.out.symm, MB.out.trans ((HB.out.trans ((below_drewN wr nq).mono HB.out.size)).mono MB.out.size)⟩
            · have d1 : (x == x') = false := by simpa using h3
              have d2 : (x != x') = true := by simpa using h3
              subst h1
              subst h2
              clear h3
              go_wp2
              go_quiet (fail)
              go_wp2
              go_ret
              exact ⟨ret_bool HF.out.symm, MB.out.trans ((HB.out.trans ((below_drewN wr nq).mono HB.out.size)).mono MB.out.size)⟩
            · have d1 : (y == y') = false := by simpa using h4
              have d2 : (y != y') = true := by simpa using h4
              subst h1
              subst h2
              subst h3
              clear h4
              go_wp2
              go_quiet (fail)
              go_wp2
              go_ret
              exact ⟨ret_bool HF.out.symm, MB.out.trans ((HB.out.trans ((below_drewN wr nq).mono HB.out.size)).mono MB.out.size)⟩
            · have d1 : (z == z') = false := by simpa using h5
              have d2 : (z != z') = true := by simpa using h5
              subst h1
              subst h2
              subst h3
              subst h4
              clear h5
              go_wp2
              go_quiet (fail)
              go_wp2
              go_ret
              exact ⟨ret_bool HF.out.symm, MB.out.trans ((HB.out.trans ((below_drewN wr nq).mono HB.out.size)).mono MB.out.size)⟩
            · have d1 : (t == t') = false := by simpa using h6
              have d2 : (t != t') = true := by simpa using h6
              subst h1
              subst h2
              subst h3
              subst h4
              subst h5
              clear h6
              go_wp2
              go_quiet (fail)
              go_wp2
              go_ret
              exact ⟨ret_bool HF.out.symm, MB.out.trans ((HB.out.trans ((below_drewN wr nq).mono HB.out.size)).mono MB.out.size)⟩
        · obtain rfl : k = n := by omega
          have HF : Hid (sameS n1 n1 l1 l2 = true) := by
            have h2 := HT.out
            rw [List.take_of_length_le (by rw [HN.out]; omega), List.take_of_length_le (by rw [HN2.out]; omega)] at h2
            show _ = _
            unfold sameS
            rw [decide_eq_true_eq]
            exact ⟨rfl, h2⟩
          go_wp2
          go_ret
          exact ⟨ret_bool HF.out.symm, MB.out.trans (HB.out.mono MB.out.size)⟩
    · have HF : Hid (sameS n1 n1 l1 l2 = false) := by
        show _ = _
        unfold sameS
        rw [decide_eq_false_iff_not]
        rintro ⟨_, rfl⟩
        exact hlen rfl
      rw [HF.out]
      have dl : ((l1.length : Int) != (l2.length : Int)) = true := by simp; omega
      have dl2 : ((l1.length : Int) == (l2.length : Int)) = false := by simp; omega
      generalize l1.length = a1 at *
      generalize l2.length = a2 at *
      clear m0 m1 ms mb h g
      go_enter Tryz.func17, Tryz.ntmps17
      go_wp2
      go_ret
      exact ⟨rfl, MB.out⟩
  · have HF : Hid (sameS n1 n2 l1 l2 = false) := by
      show _ = _
      unfold sameS
      rw [decide_eq_false_iff_not]
      rintro ⟨h, _⟩
      exact hn h
    rw [HF.out]
    have dn : (n1 != n2) = true := by simpa using hn
    have dn2 : (n1 == n2) = false := by simpa using hn
    clear m0 m1 ms mb h g hn
    go_enter Tryz.func17, Tryz.ntmps17
    go_wp2
    go_ret
    exact ⟨rfl, MB.out⟩
end Go.Proofs.YtfapfkaipdcflaaGreat
