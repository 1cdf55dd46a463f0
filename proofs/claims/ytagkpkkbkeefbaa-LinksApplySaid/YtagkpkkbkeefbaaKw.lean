/-
  Find of package links.
-/
import Derived.Test.YtagkpkkbkeefbaaKq
namespace Go.Proofs.Ytagkpkkbkeefbaa
open Go.RowKit Go.Lib

namespace Ls
def btw (u v : Int) : Lk := ⟨min u v, max u v, 0, 0, 0, 0⟩
/-- what Find answers -/
def findS (n : Int) (l : List Lk) (u v : Int) : Int := if chkS n l = 0 then find (btw u v) l else -1
theorem find_congr (a b : Lk) (h : same a b = true) (l : List Lk) : find a l = find b l := by
  induction l with
  | nil => rfl
  | cons x l ih =>
    unfold find
    rw [ih, show same x a = same x b by rw [same_comm x a, same_trans a b x h, same_comm b x]]
end Ls
set_option maxHeartbeats 4000000 in
theorem lfind_any (n : Int) (A : Option Addr) (c : Nat) (l : List Ls.Lk) (u v : Int) (w : World) (h : RL w.heap.size w A c l) (hl : l.length ≤ 60000) :
    Calls Try.prog 24 #[.agg #[.int .i64 n, .slice A l.length c], .int .i64 u, .int .i64 v] w fun e w' => e = .returned (.int .i64 (Ls.findS n l u v)) ∧ Below w.heap.size w w' := by
  obtain ⟨W1, hW1⟩ : ∃ W1, Hid (w.alloc (.cells #[.int .i64 n, .slice A l.length c] 24) = W1) := ⟨_, rfl⟩
  have HB1 : Hid (Below w.heap.size w W1) := by show Below _ _ _; rw [← hW1.out]; exact below_new _ _
  have H1 := Lib.hid (h.up HB1.out)
  have HS : Hid (W1.heap[w.heap.size]? = some (.cells #[.int .i64 n, .slice A l.length c] 24)) := by show _ = _; rw [← hW1.out]; exact heap_alloc_new _ _
  have C13 := Lib.hid (lcheck_any n A c l W1 H1.out (by omega))
  have hGl : w.heap.size < W1.heap.size := lt_of_some HS.out
  have s0 := Go.Joins.cell_of_block HS.out 0; have s1 := Go.Joins.cell_of_block HS.out 1
  simp only [List.getElem?_toArray, List.getElem?_cons_succ, List.getElem?_cons_zero] at s0 s1
  obtain ⟨R, HR⟩ : ∃ R, Hid (Ls.chkS n l = R) := ⟨_, rfl⟩
  simp only [HR.out] at C13
  clear h
  go_enter Try.func24, Try.ntmps24
  go_wp2_with fail
  rw [hW1.out]
  refine C13.out.mono ?_
  rintro e w2 ⟨rfl, hb2⟩
  have B2 := Lib.hid (HB1.out.trans (hb2.mono HB1.out.size))
  have H2 := Lib.hid (H1.out.up hb2)
  have p1 := Go.Joins.cell_of_block ((hb2.block _ hGl).trans HS.out) 1
  simp only [List.getElem?_toArray, List.getElem?_cons_succ, List.getElem?_cons_zero] at p1
  have hG2 : w.heap.size < w2.heap.size := Nat.lt_of_lt_of_le hGl hb2.size
  clear hb2 C13 s0 s1
  by_cases hR : R = 0
  · subst hR
    have HV := Lib.hid ((Ls.chkS_zero n l).1 HR.out)
    have HF : Hid (Ls.findS n l u v = if Ls.fnd (Ls.btw u v) l = true then (Ls.pos (Ls.btw u v) l : Int) else -1) := by show _ = _; rw [Ls.findS, if_pos HR.out, Ls.find_eq _ _ HV.out.2.2.1]
    have C46 := Lib.hid (fun w => lbetween_any u v w)
    have C45 : Hid (∀ x' : More w2, Calls Try.prog 45 #[.slice A l.length c, .agg #[.int .i64 (min u v), .int .i64 (max u v), .int .i64 0, .int .i64 0, .int .i64 0, .int .i64 0]] (over w2 x') fun e w' => e = .returned (.tuple #[.int .i64 (Ls.pos (Ls.btw u v) l), .bool (Ls.fnd (Ls.btw u v) l)]) ∧ Below (over w2 x').heap.size (over w2 x') w') :=
      fun x' => locate_any A c l _ _ _ _ _ _ _ (H2.out.up (over_below _ x')) HV.out.2.2.1 (by omega)
    obtain ⟨U, HU⟩ : ∃ U, Hid (min u v = U) := ⟨_, rfl⟩
    obtain ⟨V, HVV⟩ : ∃ V, Hid (max u v = V) := ⟨_, rfl⟩
    obtain ⟨p, HP⟩ : ∃ p, Hid (Ls.pos (Ls.btw u v) l = p) := ⟨_, rfl⟩
    obtain ⟨F, HFF⟩ : ∃ F, Hid (Ls.fnd (Ls.btw u v) l = F) := ⟨_, rfl⟩
    simp only [HU.out, HVV.out, HP.out, HFF.out] at C45 C46 HF
    go_wp2
    refine wp_region_over (by kernel_rfl) (by kernel_rfl) ?_
    repeat (go_big_quiet_step (first | (go_at_call 46; exact calls_over (C46.out _)) | (go_at_call 45; exact calls_over (C45.out _))))
    refine wpQuiet_nil ?_
    rintro _ ⟨xx, rfl⟩
    have hbx := Lib.hid (over_below _ xx)
    cases F with
    | false =>
      go_wp2
      go_ret
      exact ⟨ret_int (by rw [HF.out]; simp), B2.out.trans (hbx.out.mono B2.out.size)⟩
    | true =>
      go_wp2
      go_ret
      exact ⟨ret_int (by rw [HF.out]; simp), B2.out.trans (hbx.out.mono B2.out.size)⟩
  · have hd : (R != 0) = true := by simpa using hR
    have hd' : (R == 0) = false := by simpa using hR
    have HF : Hid (Ls.findS n l u v = -1) := by show _ = _; rw [Ls.findS, HR.out, if_neg hR]
    clear hR
    go_wp2
    go_ret
    exact ⟨ret_int HF.out.symm, B2.out⟩
end Go.Proofs.Ytagkpkkbkeefbaa
