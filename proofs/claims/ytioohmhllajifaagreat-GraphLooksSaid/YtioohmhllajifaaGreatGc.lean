/-
  The reference's Check.
-/
import Derived.Test.YtioohmhllajifaaGreatGb
namespace Go.Proofs.YtioohmhllajifaaGreat
open Go.RowKit

/-- the first error of the edges of a graph of n nodes, behind an edge p -/
def ck (n : Int) : Option Ed → List Ed → Int
  | _, [] => 0
  | p, e :: l => if e.1 < 0 ∨ e.2 ≤ e.1 ∨ n ≤ e.2 then 6 else if (match p with | some q => !bef q e | none => false) then 5 else ck n (some e) l
def chk (n : Int) (l : List Ed) : Int := if n < 0 ∨ 64 < n then 1 else ck n none l
theorem drop_at_e {α : Type} (l : List α) (y : α) (k : Nat) (h : l[k]? = some y) : l.drop k = y :: l.drop (k + 1) := by
  obtain ⟨hk, rfl⟩ := List.getElem?_eq_some_iff.1 h
  exact List.drop_eq_getElem_cons hk
def pre (l : List Ed) (k : Nat) : Option Ed := if k = 0 then none else l[k - 1]?
theorem ck_node (n : Int) (l : List Ed) (k : Nat) (e : Ed) (h : l[k]? = some e) (p : Option Ed) (h1 : e.1 < 0 ∨ e.2 ≤ e.1 ∨ n ≤ e.2) : ck n p (l.drop k) = 6 := by
  rw [drop_at_e l e k h]; unfold ck; rw [if_pos h1]
theorem ck_order (n : Int) (l : List Ed) (k : Nat) (e q : Ed) (h : l[k]? = some e) (h1 : ¬ (e.1 < 0 ∨ e.2 ≤ e.1 ∨ n ≤ e.2)) (hb : bef q e = false) : ck n (some q) (l.drop k) = 5 := by
  rw [drop_at_e l e k h]; unfold ck; rw [if_neg h1, if_pos (by simp [hb])]
theorem ck_next (n : Int) (l : List Ed) (k : Nat) (e q : Ed) (h : l[k]? = some e) (h1 : ¬ (e.1 < 0 ∨ e.2 ≤ e.1 ∨ n ≤ e.2)) (hb : bef q e = true) : ck n (some q) (l.drop k) = ck n (some e) (l.drop (k + 1)) := by
  rw [drop_at_e l e k h]
  show (if _ then _ else if _ then _ else _) = _
  rw [if_neg h1, if_neg (by simp [hb])]
theorem ck_first (n : Int) (l : List Ed) (k : Nat) (e : Ed) (h : l[k]? = some e) (h1 : ¬ (e.1 < 0 ∨ e.2 ≤ e.1 ∨ n ≤ e.2)) : ck n none (l.drop k) = ck n (some e) (l.drop (k + 1)) := by
  rw [drop_at_e l e k h]
  show (if _ then _ else if _ then _ else _) = _
  rw [if_neg h1, if_neg (by simp)]
theorem ck_end (n : Int) (l : List Ed) (k : Nat) (p : Option Ed) (h : l.length ≤ k) : ck n p (l.drop k) = 0 := by rw [List.drop_eq_nil_of_le h]; rfl
theorem pre_succ (l : List Ed) (k : Nat) (e : Ed) (h : l[k]? = some e) : pre l (k + 1) = some e := by simp [pre, h]

set_option maxHeartbeats 2000000 in
theorem check_any (n : Int) (A : Option Addr) (c : Nat) (l : List Ed) (w : World) (h : RE w.heap.size w A c l) (hl : l.length ≤ 65536) :
    Calls Tryz.prog 30 #[.agg #[.int .i64 n, .slice A l.length c]] w fun e w' => e = .returned (.int .i64 (chk n l)) ∧ Below w.heap.size w w' := by
  have hB0 : Below w.heap.size w (w.alloc (.cells #[.int .i64 n, .slice A l.length c] 28)) := (Below.refl _ _).alloc (Nat.le_refl _) _
  have HB0 := Lib.hid hB0
  by_cases h0 : n < 0
  · have HR := Lib.hid (show chk n l = 1 by unfold chk; rw [if_pos (.inl h0)])
    go_enter Tryz.func30, Tryz.ntmps30
    go_wp2
    go_ret
    exact ⟨ret_int HR.out.symm, HB0.out⟩
  · by_cases h64 : 64 < n
    · have HR := Lib.hid (show chk n l = 1 by unfold chk; rw [if_pos (.inr h64)])
      go_enter Tryz.func30, Tryz.ntmps30
      go_wp2
      go_ret
      exact ⟨ret_int HR.out.symm, HB0.out⟩
    · have HK := Lib.hid (show chk n l = ck n none l by unfold chk; rw [if_neg (by omega)])
      have H := Lib.hid h
      clear h hB0
      go_enter Tryz.func30, Tryz.ntmps30
      go_wp2
      obtain ⟨g, HG⟩ : ∃ g, Hid (g = w.heap.size) := ⟨_, rfl⟩
      obtain ⟨W1, HW1⟩ : ∃ W1, Hid (W1 = w.alloc (.cells #[.int .i64 n, .slice A l.length c] 28)) := ⟨_, rfl⟩
      have HBL : Hid (W1.heap[g]? = some (.cells #[.int .i64 n, .slice A l.length c] 28)) := by show _ = _; rw [HW1.out, HG.out]; exact heap_alloc_new _ _
      have HGL : Hid (g < W1.heap.size) := by show _ < _; rw [HW1.out, HG.out]; simp
      have HRE : Hid (RE W1.heap.size W1 A c l) := by show RE _ _ _ _ _; rw [HW1.out]; exact H.out.up HB0.out
      have HB1 : Hid (Below w.heap.size w W1) := by show Below _ _ _; rw [HW1.out]; exact HB0.out
      rw [← HW1.out, ← HG.out]
      clear HW1 HG H HB0
      go_loopw [16] (fun i wr => ∃ (k : Nat), k ≤ l.length ∧ i = .int .i64 k ∧ Hid (Below W1.heap.size W1 wr) ∧ Hid (chk n l = ck n (pre l k) (l.drop k))) (fun i _ => l.length - (RowKit.intOf i).toNat)
      case atStart => exact ⟨0, Nat.zero_le _, rfl, Below.refl _ _, HK.out⟩
      case round =>
        obtain ⟨k, hk, rfl, HBR, HN⟩ := hrel
        have hbl : wr.heap[g]? = some (.cells #[.int .i64 n, .slice A l.length c] 28) := (HBR.out.block g HGL.out).trans HBL.out
        have hg0 : wr.cell? ⟨g, 0, none⟩ = some (.int .i64 n) := Go.Joins.cell_of_block hbl 0
        have hg1 : wr.cell? ⟨g, 1, none⟩ = some (.slice A l.length c) := Go.Joins.cell_of_block hbl 1
        have hgl : g < wr.heap.size := Nat.lt_of_lt_of_le HGL.out HBR.out.size
        clear hbl
        have HRr := Lib.hid (HRE.out.up HBR.out)
        by_cases hlt : k < l.length
        · obtain ⟨b, off, u, v, rfl, hb, hx, hc0, hc1⟩ := HRr.out.let_ hlt
          have HX := Lib.hid hx
          clear hx
          have HBa := Lib.hid (HBR.out.alloc HBR.out.size (.cells #[.int .i64 u, .int .i64 v] 53))
          by_cases hbad : u < 0 ∨ v ≤ u ∨ n ≤ v
          · have HR := Lib.hid (HN.out.trans (ck_node n l k _ HX.out _ hbad))
            rcases (by omega : u < 0 ∨ (0 ≤ u ∧ v ≤ u) ∨ (0 ≤ u ∧ u < v ∧ n ≤ v)) with h1 | ⟨h1, h2⟩ | ⟨h1, h2, h3⟩
            all_goals
              clear hbad
              go_wp2
              go_ret
              exact ⟨ret_int HR.out.symm, HB1.out.trans (HBa.out.mono HB1.out.size)⟩
          · have h1 : 0 ≤ u := by omega
            have h2 : u < v := by omega
            have h3 : v < n := by omega
            cases k with
            | zero =>
              have HR := Lib.hid (HN.out.trans (ck_first n l 0 _ HX.out hbad))
              simp only [Nat.zero_mul, Nat.add_zero] at hc0 hc1
              clear hbad
              go_wp2
              refine wp_region_over (by kernel_rfl) (by kernel_rfl) ?_
              repeat (go_big_quiet_step (fail))
              refine wpQuiet_nil ?_
              rintro _ ⟨x, rfl⟩
              have hbx := Lib.hid (over_below _ x)
              go_wp2
              go_roundw
              case rel => exact ⟨1, by omega, rfl, HBa.out.trans (hbx.out.mono HBa.out.size), by show _ = _; rw [HR.out, pre_succ l 0 _ HX.out]⟩
              case measure => simp [RowKit.intOf]; omega
            | succ k =>
              obtain ⟨b', off', x, y, e1, _, hy, hd0, hd1⟩ := HRr.out.let_ (k := k) (by omega)
              injection e1 with e1
              injection e1 with e1 e2
              subst e1; subst e2
              have HY := Lib.hid hy
              clear hy
              have HP := Lib.hid (show pre l (k + 1) = some (x, y) from pre_succ l k _ HY.out)
              have C43 := Lib.hid (fun w => before_any x y u v w)
              by_cases hbf : bef (x, y) (u, v) = true
              · have HR := Lib.hid ((HN.out.trans (by rw [HP.out])).trans (ck_next n l (k + 1) _ _ HX.out hbad hbf))
                rw [hbf] at C43
                clear hbad hbf
                go_wp2
                refine wp_region_over (by kernel_rfl) (by kernel_rfl) ?_
                repeat (go_big_quiet_step (first | (go_at_call 49; exact calls_over (C43.out _))))
                refine wpQuiet_nil ?_
                rintro _ ⟨z, rfl⟩
                have hbx := Lib.hid (over_below _ z)
                go_wp2
                go_roundw
                case rel => exact ⟨k + 1 + 1, by omega, by go_num, HBa.out.trans (hbx.out.mono HBa.out.size), by show _ = _; rw [HR.out, pre_succ l (k + 1) _ HX.out]⟩
                case measure => simp [RowKit.intOf]; omega
              · have hbf' : bef (x, y) (u, v) = false := by simpa using hbf
                have HR := Lib.hid ((HN.out.trans (by rw [HP.out])).trans (ck_order n l (k + 1) _ _ HX.out hbad hbf'))
                rw [hbf'] at C43
                clear hbad hbf hbf'
                go_wp2
                refine wp_region_over (by kernel_rfl) (by kernel_rfl) ?_
                repeat (go_big_quiet_step (first | (go_at_call 49; exact calls_over (C43.out _))))
                refine wpQuiet_nil ?_
                rintro _ ⟨z, rfl⟩
                have hbx := Lib.hid (over_below _ z)
                go_wp2
                go_ret
                exact ⟨ret_int HR.out.symm, HB1.out.trans ((HBa.out.trans (hbx.out.mono HBa.out.size)).mono HB1.out.size)⟩
        · have HR := Lib.hid (HN.out.trans (ck_end n l k _ (by omega)))
          go_wp2
          go_ret
          exact ⟨ret_int HR.out.symm, HB1.out.trans (HBR.out.mono HB1.out.size)⟩
end Go.Proofs.YtioohmhllajifaaGreat
