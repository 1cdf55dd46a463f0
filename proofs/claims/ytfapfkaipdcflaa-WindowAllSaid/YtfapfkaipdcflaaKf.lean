/-
  Check of states of links: package links' and the reference's.
-/
import Derived.Test.YtfapfkaipdcflaaKe
namespace Go.Proofs.Ytfapfkaipdcflaa.K
open Go.RowKit Go.Lib

namespace Ls
open Go.Proofs.Ytfapfkaipdcflaa.Ls
def preL (l : List Lk) (k : Nat) : Option Lk := if k = 0 then none else l[k - 1]?
theorem preL_succ (l : List Lk) (k : Nat) (e : Lk) (h : l[k]? = some e) : preL l (k + 1) = some e := by simp [preL, h]
theorem cks_bad (n : Int) (l : List Lk) (k : Nat) (e : Lk) (p : Option Lk) (h : l[k]? = some e) (h1 : chkLk n e ≠ 0) : chkLs n p (l.drop k) = chkLk n e := by
  rw [drop_at_e l e k h]; unfold chkLs; rw [if_pos h1]
theorem cks_order (n : Int) (l : List Lk) (k : Nat) (e q : Lk) (h : l[k]? = some e) (h1 : chkLk n e = 0) (hb : before q e = false) : chkLs n (some q) (l.drop k) = 5 := by
  rw [drop_at_e l e k h]; unfold chkLs; rw [if_neg (by simpa using h1), if_pos (by simp [hb])]
theorem cks_next (n : Int) (l : List Lk) (k : Nat) (e q : Lk) (h : l[k]? = some e) (h1 : chkLk n e = 0) (hb : before q e = true) : chkLs n (some q) (l.drop k) = chkLs n (some e) (l.drop (k + 1)) := by
  rw [drop_at_e l e k h]
  show (if _ then _ else if _ then _ else _) = _
  rw [if_neg (by simpa using h1), if_neg (by simp [hb])]
theorem cks_first (n : Int) (l : List Lk) (k : Nat) (e : Lk) (h : l[k]? = some e) (h1 : chkLk n e = 0) : chkLs n none (l.drop k) = chkLs n (some e) (l.drop (k + 1)) := by
  rw [drop_at_e l e k h]
  show (if _ then _ else if _ then _ else _) = _
  rw [if_neg (by simpa using h1), if_neg (by simp)]
theorem cks_end (n : Int) (l : List Lk) (k : Nat) (p : Option Lk) (h : l.length ≤ k) : chkLs n p (l.drop k) = 0 := by rw [List.drop_eq_nil_of_le h]; rfl
end Ls
/-- the box of a link, behind a callee that only makes memory -/
theorem box6 {w w1 : World} {a0 a1 a2 a3 a4 a5 : Value} (hb : Below (w.alloc (.cells #[a0, a1, a2, a3, a4, a5] 57)).heap.size (w.alloc (.cells #[a0, a1, a2, a3, a4, a5] 57)) w1) :
    w1.cell? ⟨w.heap.size, 0, none⟩ = some a0 ∧ w1.cell? ⟨w.heap.size, 1, none⟩ = some a1 ∧ w1.cell? ⟨w.heap.size, 2, none⟩ = some a2 ∧ w1.cell? ⟨w.heap.size, 3, none⟩ = some a3 ∧ w1.cell? ⟨w.heap.size, 4, none⟩ = some a4 ∧ w1.cell? ⟨w.heap.size, 5, none⟩ = some a5 := by
  have h := (hb.block w.heap.size (by simp)).trans (heap_alloc_new _ _)
  exact ⟨Go.Joins.cell_of_block h 0, Go.Joins.cell_of_block h 1, Go.Joins.cell_of_block h 2, Go.Joins.cell_of_block h 3, Go.Joins.cell_of_block h 4, Go.Joins.cell_of_block h 5⟩

set_option maxHeartbeats 4000000 in
theorem lcheck_any (n : Int) (A : Option Addr) (c : Nat) (l : List Ls.Lk) (w : World) (h : RL w.heap.size w A c l) (hl : l.length ≤ 65536) :
    Calls Try.prog 51 #[.agg #[.int .i64 n, .slice A l.length c]] w fun e w' => e = .returned (.int .i64 (Ls.chkS n l)) ∧ Below w.heap.size w w' := by
  have hB0 : Below w.heap.size w (w.alloc (.cells #[.int .i64 n, .slice A l.length c] 59)) := (Below.refl _ _).alloc (Nat.le_refl _) _
  have HB0 := Lib.hid hB0
  by_cases h0 : n < 0
  · have HR := Lib.hid (show Ls.chkS n l = 1 by unfold Ls.chkS; rw [if_pos (.inl h0)])
    go_enter Try.func51, Try.ntmps51
    go_wp2
    go_ret
    exact ⟨ret_int HR.out.symm, HB0.out⟩
  · by_cases h64 : 64 < n
    · have HR := Lib.hid (show Ls.chkS n l = 1 by unfold Ls.chkS; rw [if_pos (.inr h64)])
      go_enter Try.func51, Try.ntmps51
      go_wp2
      go_ret
      exact ⟨ret_int HR.out.symm, HB0.out⟩
    · have HK := Lib.hid (show Ls.chkS n l = Ls.chkLs n none l by unfold Ls.chkS; rw [if_neg (by omega)])
      have H := Lib.hid h
      clear h hB0
      go_enter Try.func51, Try.ntmps51
      go_wp2
      obtain ⟨g, HG⟩ : ∃ g, Hid (g = w.heap.size) := ⟨_, rfl⟩
      obtain ⟨W1, HW1⟩ : ∃ W1, Hid (W1 = w.alloc (.cells #[.int .i64 n, .slice A l.length c] 59)) := ⟨_, rfl⟩
      have HBL : Hid (W1.heap[g]? = some (.cells #[.int .i64 n, .slice A l.length c] 59)) := by show _ = _; rw [HW1.out, HG.out]; exact heap_alloc_new _ _
      have HGL : Hid (g < W1.heap.size) := by show _ < _; rw [HW1.out, HG.out]; simp
      have HRE : Hid (RL W1.heap.size W1 A c l) := by show RL _ _ _ _ _; rw [HW1.out]; exact H.out.up HB0.out
      have HB1 : Hid (Below w.heap.size w W1) := by show Below _ _ _; rw [HW1.out]; exact HB0.out
      rw [← HW1.out, ← HG.out]
      clear HW1 HG H HB0
      go_loopw [17] (fun i wr => ∃ (k : Nat), k ≤ l.length ∧ i = .int .i64 k ∧ Hid (Below W1.heap.size W1 wr) ∧ Hid (Ls.chkS n l = Ls.chkLs n (Ls.preL l k) (l.drop k))) (fun i _ => l.length - (RowKit.intOf i).toNat)
      case atStart => exact ⟨0, Nat.zero_le _, rfl, Below.refl _ _, HK.out⟩
      case round =>
        obtain ⟨k, hk, rfl, HBR, HN⟩ := hrel
        have hbl : wr.heap[g]? = some (.cells #[.int .i64 n, .slice A l.length c] 59) := (HBR.out.block g HGL.out).trans HBL.out
        have hg0 : wr.cell? ⟨g, 0, none⟩ = some (.int .i64 n) := Go.Joins.cell_of_block hbl 0
        have hg1 : wr.cell? ⟨g, 1, none⟩ = some (.slice A l.length c) := Go.Joins.cell_of_block hbl 1
        have hgl : g < wr.heap.size := Nat.lt_of_lt_of_le HGL.out HBR.out.size
        have HBL2 := Lib.hid hbl
        clear hbl
        have HRr := Lib.hid (HRE.out.up HBR.out)
        by_cases hlt : k < l.length
        · obtain ⟨b, off, ⟨u, v, x, y, z, t⟩, rfl, hb, hx, hc0, hc1, hc2, hc3, hc4, hc5⟩ := RL.at_ HRr.out hlt
          dsimp only at hc0 hc1 hc2 hc3 hc4 hc5
          have HX := Lib.hid hx
          clear hx
          have C32 := Lib.hid (fun w => checkLink_any n u v x y z t (by omega) w)
          obtain ⟨R, HRR⟩ : ∃ R, Hid (Ls.chkLk n ⟨u, v, x, y, z, t⟩ = R) := ⟨_, rfl⟩
          simp only [HRR.out] at C32
          by_cases hR : R = 0
          · subst hR
            go_wp2_with fail
            refine (C32.out _).mono ?_
            rintro e w1 ⟨rfl, hb1⟩
            obtain ⟨b0, b1, b2, b3, b4, b5⟩ := box6 hb1
            have hbw := (below_new wr _).trans (hb1.mono (by simp))
            have HBa := Lib.hid (HBR.out.trans (hbw.mono HBR.out.size))
            have hc := bcellE hbw
            have p0 := (hc g 0 hgl).trans hg0; have p1 := (hc g 1 hgl).trans hg1
            have q0 := (hc b _ hb).trans hc0; have q1 := (hc b _ hb).trans hc1; have q2 := (hc b _ hb).trans hc2; have q3 := (hc b _ hb).trans hc3; have q4 := (hc b _ hb).trans hc4; have q5 := (hc b _ hb).trans hc5
            have hg1s : g < w1.heap.size := Nat.lt_of_lt_of_le hgl hbw.size
            have hws : wr.heap.size < w1.heap.size := by have := hb1.size; simp at this; omega
            have hbs : b < w1.heap.size := Nat.lt_of_lt_of_le hb hbw.size
            have HRb := Lib.hid (HRr.out.up hbw)
            clear hc hbw hb1 C32
            cases k with
            | zero =>
              have HR := Lib.hid (HN.out.trans (Ls.cks_first n l 0 _ HX.out HRR.out))
              simp only [Nat.zero_mul, Nat.add_zero] at q0 q1 q2 q3 q4 q5 hc0 hc1 hc2 hc3 hc4 hc5
              go_wp2
              refine wp_region_over (by kernel_rfl) (by kernel_rfl) ?_
              repeat (go_big_quiet_step (fail))
              refine wpQuiet_nil ?_
              rintro _ ⟨xx, rfl⟩
              have hbx := Lib.hid (over_below _ xx)
              go_wp2
              go_roundw
              case rel => exact ⟨1, by omega, rfl, HBa.out.trans (hbx.out.mono HBa.out.size), by show _ = _; rw [HR.out, Ls.preL_succ l 0 _ HX.out]⟩
              case measure => simp [RowKit.intOf]; omega
            | succ k =>
              obtain ⟨b', off', ⟨u', v', x', y', z', t'⟩, e1, _, hy, d0, d1, d2, d3, d4, d5⟩ := RL.at_ (k := k) HRb.out (by omega)
              dsimp only at d0 d1 d2 d3 d4 d5
              injection e1 with e1
              injection e1 with e1 e2
              subst e1; subst e2
              have HY := Lib.hid hy
              clear hy
              have HP := Lib.hid (show Ls.preL l (k + 1) = some ⟨u', v', x', y', z', t'⟩ from Ls.preL_succ l k _ HY.out)
              have C33 := Lib.hid (fun w => cmpL_any u' v' x' y' z' t' u v x y z t w)
              obtain ⟨M, HM⟩ : ∃ M, Hid (Ls.cmpL ⟨u', v', x', y', z', t'⟩ ⟨u, v, x, y, z, t⟩ = M) := ⟨_, rfl⟩
              have hneg := Ls.cmpL_neg ⟨u', v', x', y', z', t'⟩ ⟨u, v, x, y, z, t⟩
              simp only [HM.out] at C33 hneg
              have fs : IntKind.i64.wrap (((k + 1 : Nat) : Int) - 1) = (k : Int) := by rw [IntWalk.i64_in _ (by omega)]; omega
              have fk : (0 : Int) < ((k + 1 : Nat) : Int) := by omega
              clear q0 q1 q2 q3 q4 q5 hc0 hc1 hc2 hc3 hc4 hc5
              by_cases hbf : M < 0
              · have HR := Lib.hid ((HN.out.trans (by rw [HP.out])).trans (Ls.cks_next n l (k + 1) _ _ HX.out HRR.out (hneg.1 hbf)))
                clear hneg
                go_wp2
                refine wp_region_over (by kernel_rfl) (by kernel_rfl) ?_
                repeat (go_big_quiet_step (first | (go_at_call 72; exact calls_over (C33.out _))))
                refine wpQuiet_nil ?_
                rintro _ ⟨zz, rfl⟩
                have hbx := Lib.hid (over_below _ zz)
                go_wp2
                go_roundw
                case rel => exact ⟨k + 1 + 1, by omega, by go_num, HBa.out.trans (hbx.out.mono HBa.out.size), by show _ = _; rw [HR.out, Ls.preL_succ l (k + 1) _ HX.out]⟩
                case measure => simp [RowKit.intOf]; omega
              · have HR := Lib.hid ((HN.out.trans (by rw [HP.out])).trans (Ls.cks_order n l (k + 1) _ _ HX.out HRR.out (by rw [← Bool.not_eq_true, ← hneg]; exact hbf)))
                clear hneg
                go_wp2
                refine wp_region_over (by kernel_rfl) (by kernel_rfl) ?_
                repeat (go_big_quiet_step (first | (go_at_call 72; exact calls_over (C33.out _))))
                refine wpQuiet_nil ?_
                rintro _ ⟨zz, rfl⟩
                have hbx := Lib.hid (over_below _ zz)
                go_wp2
                go_ret
                exact ⟨ret_int HR.out.symm, HB1.out.trans ((HBa.out.trans (hbx.out.mono HBa.out.size)).mono HB1.out.size)⟩
          · have HR := Lib.hid ((HN.out.trans (Ls.cks_bad n l k _ _ HX.out (by rw [HRR.out]; exact hR))).trans HRR.out)
            have hd : (R != 0) = true := by simpa using hR
            have hd' : (R == 0) = false := by simpa using hR
            clear hR
            go_wp2_with fail
            refine (C32.out _).mono ?_
            rintro e w1 ⟨rfl, hb1⟩
            have HBa := Lib.hid (HBR.out.trans (((below_new wr _).trans (hb1.mono (by simp))).mono HBR.out.size))
            clear hb1
            go_wp2
            go_ret
            exact ⟨ret_int HR.out.symm, HB1.out.trans (HBa.out.mono HB1.out.size)⟩
        · have HR := Lib.hid (HN.out.trans (Ls.cks_end n l k _ (by omega)))
          go_wp2
          go_ret
          exact ⟨ret_int HR.out.symm, HB1.out.trans (HBR.out.mono HB1.out.size)⟩
end Go.Proofs.Ytfapfkaipdcflaa.K
