/-
  Package graph's Check.
-/
import Derived.Test.YtioohmhllajifaaGreatHa
import Derived.Test.YtioohmhllajifaaGreatGc
namespace Go.Proofs.YtioohmhllajifaaGreat
open Go.RowKit Go.Lib Go.Sort

theorem cmpE_lt (a b : Ed) (h : bef a b = true) : cmpE a b = -1 := by
  unfold bef at h
  unfold cmpE
  simp only [Bool.or_eq_true, Bool.and_eq_true, decide_eq_true_eq] at h
  rcases h with h | ⟨h1, h2⟩
  · simp [orL, Lib.compareInt, h]
  · simp [orL, Lib.compareInt, h1, h2]
theorem cmpE_ge (a b : Ed) (h : bef a b = false) : (cmpE a b = 0 ∧ a = b) ∨ (cmpE a b = 1 ∧ bef b a = true) := by
  unfold bef at h
  simp only [Bool.or_eq_false_iff, Bool.and_eq_false_iff, decide_eq_false_iff_not] at h
  obtain ⟨h1, h2⟩ := h
  obtain ⟨u, v⟩ := a
  obtain ⟨x, y⟩ := b
  simp only at h1 h2
  unfold cmpE bef
  by_cases h3 : x < u
  · right; simp [orL, Lib.compareInt, h1, h3]
  · have e : u = x := by omega
    subst e
    by_cases h4 : y < v
    · right; simp [orL, Lib.compareInt, h4]; omega
    · left
      have e : v = y := by rcases h2 with h2 | h2 <;> omega
      subst e
      simp [orL, Lib.compareInt]

theorem below_growN (w : World) (q : Nat) (os : Array Obj) : Below w.heap.size w (grow (w.drewN q) os) :=
  ⟨rfl, rfl, rfl, by simp [grow], fun i hi => by simp [grow, Array.getElem?_append_left hi]⟩
theorem cmpE_any (u v x y : Int) (w : World) : Calls Tryz.prog 46 #[.agg #[.int .i64 u, .int .i64 v], .agg #[.int .i64 x, .int .i64 y]] w fun e w' => e = .returned (.int .i64 (cmpE (u, v) (x, y))) ∧ Below w.heap.size w w' :=
  (cmpE_grow u v x y w).mono fun _ _ ⟨he, q, os, hw⟩ => ⟨he, hw ▸ below_growN w q os⟩

set_option maxHeartbeats 2000000 in
theorem gcheck_any (n : Int) (A : Option Addr) (c : Nat) (l : List Ed) (w : World) (h : RE w.heap.size w A c l) (hl : l.length ≤ 65536) :
    Calls Tryz.prog 27 #[.agg #[.int .i64 n, .slice A l.length c]] w fun e w' => e = .returned (.int .i64 (chk n l)) ∧ Below w.heap.size w w' := by
  have hB0 : Below w.heap.size w (w.alloc (.cells #[.int .i64 n, .slice A l.length c] 28)) := (Below.refl _ _).alloc (Nat.le_refl _) _
  have HB0 := Lib.hid hB0
  have CN := Lib.hid (fun W => cnt_any n W)
  by_cases h0 : n < 0 ∨ 64 < n
  · have HR := Lib.hid (show chk n l = 1 by unfold chk; rw [if_pos h0])
    have hc : cntB n = false := by unfold cntB; simp; omega
    rw [hc] at CN
    clear h0 hc
    go_enter Tryz.func27, Tryz.ntmps27
    go_wp2_with (go_at_call 43; refine (CN.out _).mono ?_; rintro e w' ⟨rfl, rfl⟩)
    go_ret
    exact ⟨ret_int HR.out.symm, HB0.out⟩
  · have hc : cntB n = true := by unfold cntB; simp; omega
    rw [hc] at CN
    have HK := Lib.hid (show chk n l = ck n none l by unfold chk; rw [if_neg h0])
    have H := Lib.hid h
    clear h hB0 h0 hc
    go_enter Tryz.func27, Tryz.ntmps27
    go_wp2_with (go_at_call 43; refine (CN.out _).mono ?_; rintro e w' ⟨rfl, rfl⟩)
    obtain ⟨g, HG⟩ : ∃ g, Hid (g = w.heap.size) := ⟨_, rfl⟩
    obtain ⟨W1, HW1⟩ : ∃ W1, Hid (W1 = w.alloc (.cells #[.int .i64 n, .slice A l.length c] 28)) := ⟨_, rfl⟩
    have HBL : Hid (W1.heap[g]? = some (.cells #[.int .i64 n, .slice A l.length c] 28)) := by show _ = _; rw [HW1.out, HG.out]; exact heap_alloc_new _ _
    have HGL : Hid (g < W1.heap.size) := by show _ < _; rw [HW1.out, HG.out]; simp
    have HRE : Hid (RE W1.heap.size W1 A c l) := by show RE _ _ _ _ _; rw [HW1.out]; exact H.out.up HB0.out
    have HB1 : Hid (Below w.heap.size w W1) := by show Below _ _ _; rw [HW1.out]; exact HB0.out
    rw [← HW1.out, ← HG.out]
    clear HW1 HG H HB0
    go_loopw [12] (fun i wr => ∃ (k : Nat), k ≤ l.length ∧ i = .int .i64 k ∧ Hid (Below W1.heap.size W1 wr) ∧ Hid (chk n l = ck n (pre l k) (l.drop k))) (fun i _ => l.length - (RowKit.intOf i).toNat)
    case atStart => exact ⟨0, Nat.zero_le _, rfl, Below.refl _ _, HK.out⟩
    case round =>
      obtain ⟨k, hk, rfl, HBR, HN⟩ := hrel
      have hbl : wr.heap[g]? = some (.cells #[.int .i64 n, .slice A l.length c] 28) := (HBR.out.block g HGL.out).trans HBL.out
      have hg0 : wr.cell? ⟨g, 0, none⟩ = some (.int .i64 n) := Go.Joins.cell_of_block hbl 0
      have hg1 : wr.cell? ⟨g, 1, none⟩ = some (.slice A l.length c) := Go.Joins.cell_of_block hbl 1
      have hgl : g < wr.heap.size := Nat.lt_of_lt_of_le HGL.out HBR.out.size
      clear hbl
      have HRr := Lib.hid (HRE.out.up HBR.out)
      by_cases hlt : k < l.length
      · obtain ⟨b, off, u, v, rfl, hb, hx, hc0, hc1⟩ := HRr.out.let_ hlt
        have HX := Lib.hid hx
        clear hx
        have HBa := Lib.hid (HBR.out.alloc HBR.out.size (.cells #[.int .i64 u, .int .i64 v] 53))
        have CU := Lib.hid (fun W => nod_any n u W)
        have CV := Lib.hid (fun W => nod_any n v W)
        by_cases hbad : u < 0 ∨ v ≤ u ∨ n ≤ v
        · have HR := Lib.hid (HN.out.trans (ck_node n l k _ HX.out _ hbad))
          by_cases h1 : v ≤ u
          · clear hbad CU CV
            go_wp2
            go_ret
            exact ⟨ret_int HR.out.symm, HB1.out.trans (HBa.out.mono HB1.out.size)⟩
          · by_cases h2 : nodB n u = true
            · rw [h2] at CU
              have h3 : nodB n v = false := by
                unfold nodB at h2 ⊢; simp at h2 ⊢; omega
              rw [h3] at CV
              clear hbad h2 h3
              go_wp2_with (first | (go_at_call 48; ((with_reducible refine (CU.out _).mono ?_); rintro e w' ⟨rfl, rfl⟩)) | (go_at_call 48; ((with_reducible refine (CV.out _).mono ?_); rintro e w' ⟨rfl, rfl⟩)))
              go_ret
              exact ⟨ret_int HR.out.symm, HB1.out.trans (HBa.out.mono HB1.out.size)⟩
            · have h3 : nodB n u = false := by simpa using h2
              rw [h3] at CU
              clear hbad h2 h3 CV
              go_wp2_with (go_at_call 48; refine (CU.out _).mono ?_; rintro e w' ⟨rfl, rfl⟩)
              go_ret
              exact ⟨ret_int HR.out.symm, HB1.out.trans (HBa.out.mono HB1.out.size)⟩
        · have h1 : ¬ v ≤ u := by omega
          have h2 : nodB n u = true := by unfold nodB; simp; omega
          have h3 : nodB n v = true := by unfold nodB; simp; omega
          rw [h2] at CU
          rw [h3] at CV
          clear h2 h3
          cases k with
          | zero =>
            have HR := Lib.hid (HN.out.trans (ck_first n l 0 _ HX.out hbad))
            simp only [Nat.zero_mul, Nat.add_zero] at hc0 hc1
            clear hbad
            go_wp2_with (first | (go_at_call 48; ((with_reducible refine (CU.out _).mono ?_); rintro e w' ⟨rfl, rfl⟩)) | (go_at_call 48; ((with_reducible refine (CV.out _).mono ?_); rintro e w' ⟨rfl, rfl⟩)))
            refine wp_region_over (by kernel_rfl) (by kernel_rfl) ?_
            repeat (go_big_quiet_step (fail))
            refine wpQuiet_nil ?_
            rintro _ ⟨x, rfl⟩
            have hbx := Lib.hid (over_below _ x)
            go_wp2
            go_roundw
            case rel => exact ⟨1, by omega, rfl, HBa.out.trans (hbx.out.mono HBa.out.size), by show _ = _; rw [HR.out, pre_succ l 0 _ HX.out]⟩
            case measure => simp [RowKit.intOf]; omega
          | succ k =>
            obtain ⟨b', off', x, y, e1, _, hy, hd0, hd1⟩ := HRr.out.let_ (k := k) (by omega)
            injection e1 with e1
            injection e1 with e1 e2
            subst e1; subst e2
            have HY := Lib.hid hy
            clear hy
            have HP := Lib.hid (show pre l (k + 1) = some (x, y) from pre_succ l k _ HY.out)
            have C32 := Lib.hid (fun w => cmpE_any x y u v w)
            by_cases hbf : bef (x, y) (u, v) = true
            · have HR := Lib.hid ((HN.out.trans (by rw [HP.out])).trans (ck_next n l (k + 1) _ _ HX.out hbad hbf))
              rw [cmpE_lt _ _ hbf] at C32
              clear hbad hbf
              go_wp2_with (first | (go_at_call 48; ((with_reducible refine (CU.out _).mono ?_); rintro e w' ⟨rfl, rfl⟩)) | (go_at_call 48; ((with_reducible refine (CV.out _).mono ?_); rintro e w' ⟨rfl, rfl⟩)))
              refine wp_region_over (by kernel_rfl) (by kernel_rfl) ?_
              repeat (go_big_quiet_step (first | (go_at_call 46; exact calls_over (C32.out _))))
              refine wpQuiet_nil ?_
              rintro _ ⟨z, rfl⟩
              have hbx := Lib.hid (over_below _ z)
              go_wp2
              go_roundw
              case rel => exact ⟨k + 1 + 1, by omega, by go_num, HBa.out.trans (hbx.out.mono HBa.out.size), by show _ = _; rw [HR.out, pre_succ l (k + 1) _ HX.out]⟩
              case measure => simp [RowKit.intOf]; omega
            · have hbf' : bef (x, y) (u, v) = false := by simpa using hbf
              have HR := Lib.hid ((HN.out.trans (by rw [HP.out])).trans (ck_order n l (k + 1) _ _ HX.out hbad hbf'))
              rcases cmpE_ge _ _ hbf' with ⟨e1, -⟩ | ⟨e1, -⟩
              all_goals
                rw [e1] at C32
                clear hbad hbf hbf' e1
                go_wp2_with (first | (go_at_call 48; ((with_reducible refine (CU.out _).mono ?_); rintro e w' ⟨rfl, rfl⟩)) | (go_at_call 48; ((with_reducible refine (CV.out _).mono ?_); rintro e w' ⟨rfl, rfl⟩)))
                refine wp_region_over (by kernel_rfl) (by kernel_rfl) ?_
                repeat (go_big_quiet_step (first | (go_at_call 46; exact calls_over (C32.out _))))
                refine wpQuiet_nil ?_
                rintro _ ⟨z, rfl⟩
                have hbx := Lib.hid (over_below _ z)
                go_wp2
                go_ret
                exact ⟨ret_int HR.out.symm, HB1.out.trans ((HBa.out.trans (hbx.out.mono HBa.out.size)).mono HB1.out.size)⟩
      · have HR := Lib.hid (HN.out.trans (ck_end n l k _ (by omega)))
        go_wp2
        go_ret
        exact ⟨ret_int HR.out.symm, HB1.out.trans (HBR.out.mono HB1.out.size)⟩
end Go.Proofs.YtioohmhllajifaaGreat
