/-
  checkStream.
-/
import Derived.Test.YtfapfkaipdcflaaGreatSo
import Derived.Test.YtfapfkaipdcflaaGreatLm
namespace Go.Proofs.YtfapfkaipdcflaaGreat
open Go.RowKit Go.Lib

set_option maxHeartbeats 4000000 in
theorem checkStream_any (n : Int) (A : Option Addr) (c : Nat) (l : List Ev) (w : World) (h : RV w.heap.size w A c l) (hl : l.length ≤ 1000000) :
    Calls Tryz.prog 43 #[.int .i64 n, .slice A l.length c] w fun e w' => e = .returned (.int .i64 (Ls.chkSt n l)) ∧ Below w.heap.size w w' := by
  have H := Lib.hid h
  clear h
  obtain ⟨R, HR⟩ : ∃ R, Hid (Ls.chkSt n l = R) := ⟨_, rfl⟩
  rw [HR.out]
  by_cases hn : n < 0 ∨ 64 < n
  · have hR : Hid ((1 : Int) = R) := by show _ = _; rw [← HR.out]; unfold Ls.chkSt; rw [if_pos hn]
    clear HR
    rcases hn with hn | hn
    · have d1 : decide (n < 0) = true := by simpa using hn
      go_enter Tryz.func43, Tryz.ntmps43
      go_wp2
      go_ret
      exact ⟨ret_int hR.out, Below.refl _ _⟩
    · have d1 : decide (n < 0) = false := by rw [decide_eq_false_iff_not]; omega
      go_enter Tryz.func43, Tryz.ntmps43
      go_wp2
      go_ret
      exact ⟨ret_int hR.out, Below.refl _ _⟩
  · have d1 : decide (n < 0) = false := by rw [decide_eq_false_iff_not]; omega
    have d2 : decide (n > 64) = false := by rw [decide_eq_false_iff_not]; omega
    by_cases hll : 65536 < l.length
    · have hR : Hid ((3 : Int) = R) := by show _ = _; rw [← HR.out]; unfold Ls.chkSt; rw [if_neg hn, if_pos hll]
      have d3 : decide ((l.length : Int) > 65536) = true := by rw [decide_eq_true_eq]; omega
      clear HR hn hll
      go_enter Tryz.func43, Tryz.ntmps43
      go_wp2
      go_ret
      exact ⟨ret_int hR.out, Below.refl _ _⟩
    · have d3 : decide ((l.length : Int) > 65536) = false := by rw [decide_eq_false_iff_not]; omega
      have HQ : Hid (Ls.chkEv n 0 l = R) := by show _ = _; rw [← HR.out]; unfold Ls.chkSt; rw [if_neg hn, if_neg hll]
      clear HR hn hll
      go_enter Tryz.func43, Tryz.ntmps43
      go_wp2
      go_loopw [5, 22] (fun s i wr => ∃ (k : Nat) (t : Int), i = .int .i64 k ∧ s = .int .i64 t ∧ k ≤ l.length ∧ Hid (Ls.chkEv n t (l.drop k) = R) ∧ Hid (Below w.heap.size w wr)) (fun _ i _ => l.length - (RowKit.intOf i).toNat)
      case atStart => exact ⟨0, 0, rfl, rfl, Nat.zero_le _, HQ.out, Below.refl _ _⟩
      case round =>
        obtain ⟨k, t, rfl, rfl, hk, HE, HB⟩ := hrel
        by_cases hlt : k < l.length
        · obtain ⟨b, off, ⟨k1, t1, u1, v1, x1, y1, z1⟩, rfl, hb, ha, c0, c1, c2, c3, c4, c5, c6⟩ := RV.at_ (H.out.up HB.out) hlt
          have HE2 : Hid ((if chkE ⟨k1, t1, u1, v1, x1, y1, z1⟩ ≠ 0 then chkE ⟨k1, t1, u1, v1, x1, y1, z1⟩ else if n ≤ u1 ∨ n ≤ v1 then 6 else if t1 < t then 9 else Ls.chkEv n t1 (l.drop (k + 1))) = R) := by
            show _ = _
            rw [← HE.out, List.drop_eq_getElem_cons hlt, (List.getElem?_eq_some_iff.1 ha).2]
            rfl
          clear HE ha
          dsimp only at c0 c1 c2 c3 c4 c5 c6
          have C := Lib.hid (fun w => check_anyE k1 t1 u1 v1 x1 y1 z1 w)
          obtain ⟨X, HX⟩ : ∃ X, Hid (chkE ⟨k1, t1, u1, v1, x1, y1, z1⟩ = X) := ⟨_, rfl⟩
          rw [HX.out] at HE2
          simp only [HX.out] at C
          clear HX
          go_wp2_with fail
          refine (C.out _).mono ?_
          rintro e w2 ⟨rfl, hb2⟩
          have HB2 : Hid (Below wr.heap.size wr w2) := below_viaE hb2
          obtain ⟨b0, b1, b2, b3, b4, b5, b6⟩ := box7 hb2
          clear hb2 C c0 c1 c2 c3 c4 c5 c6
          have HBE : Hid (Below w.heap.size w w2) := HB.out.trans (HB2.out.mono HB.out.size)
          by_cases hX : X = 0
          · subst hX
            by_cases h1 : n ≤ u1 ∨ n ≤ v1
            · have hR : Hid ((6 : Int) = R) := by show _ = _; rw [← HE2.out, if_neg (by decide), if_pos h1]
              clear HE2
              by_cases h2 : n ≤ u1
              · have e1 : decide (u1 ≥ n) = true := by simpa using h2
                clear h1
                go_wp2
                go_ret
                exact ⟨ret_int hR.out, HBE.out⟩
              · have e1 : decide (u1 ≥ n) = false := by rw [decide_eq_false_iff_not]; omega
                have e2 : decide (v1 ≥ n) = true := by rw [decide_eq_true_eq]; omega
                clear h1
                go_wp2
                go_ret
                exact ⟨ret_int hR.out, HBE.out⟩
            · have e1 : decide (u1 ≥ n) = false := by rw [decide_eq_false_iff_not]; omega
              have e2 : decide (v1 ≥ n) = false := by rw [decide_eq_false_iff_not]; omega
              by_cases h2 : t1 < t
              · have e3 : decide (t1 < t) = true := by simpa using h2
                have hR : Hid ((9 : Int) = R) := by show _ = _; rw [← HE2.out, if_neg (by decide), if_neg h1, if_pos h2]
                clear HE2 h1
                go_wp2
                go_ret
                exact ⟨ret_int hR.out, HBE.out⟩
              · have e3 : decide (t1 < t) = false := by rw [decide_eq_false_iff_not]; omega
                have HE3 : Hid (Ls.chkEv n t1 (l.drop (k + 1)) = R) := by show _ = _; rw [← HE2.out, if_neg (by decide), if_neg h1, if_neg h2]
                clear HE2 h1
                go_wp2
                go_roundw
                case rel => exact ⟨k + 1, t1, by go_num, rfl, by omega, HE3.out, HBE.out⟩
                case measure => simp [RowKit.intOf]; omega
          · have d0 : (X != 0) = true := by simpa using hX
            have hR : Hid (X = R) := by show _ = _; rw [← HE2.out, if_pos hX]
            clear hX HE2
            go_wp2
            go_ret
            exact ⟨ret_int hR.out, HBE.out⟩
        · have hR : Hid ((0 : Int) = R) := by show _ = _; rw [← HE.out, List.drop_eq_nil_of_le (by omega)]; rfl
          go_wp2
          go_ret
          exact ⟨ret_int hR.out, HB.out⟩
end Go.Proofs.YtfapfkaipdcflaaGreat
