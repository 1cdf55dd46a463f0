/-
  The reference's Check of states of links.
-/
import Derived.Test.YtfapfkaipdcflaaGreatKnp
import Derived.Test.YtfapfkaipdcflaaGreatSr
namespace Go.Proofs.YtfapfkaipdcflaaGreat.K
open Go.RowKit Go.Lib

def bef (a b : Int × Int) : Bool := decide (a.1 < b.1) || (decide (a.1 = b.1) && decide (a.2 < b.2))
theorem before_any (u v x y : Int) (w : World) : Calls Tryz.prog 46 #[.agg #[.int .i64 u, .int .i64 v], .agg #[.int .i64 x, .int .i64 y]] w fun e w' => e = .returned (.bool (bef (u, v) (x, y))) ∧ Below w.heap.size w w' := by
  have hB : Below w.heap.size w ((w.alloc (.cells #[.int .i64 u, .int .i64 v] 70)).alloc (.cells #[.int .i64 x, .int .i64 y] 70)) := ((Below.refl _ _).alloc (Nat.le_refl _) _).alloc (by simp) _
  by_cases h1 : u < x
  · have HR := Lib.hid (show bef (u, v) (x, y) = true by simp [bef, h1])
    go_enter Tryz.func46, Tryz.ntmps46
    go_wp2
    go_ret
    exact ⟨ret_bool HR.out.symm, hB⟩
  · by_cases h2 : u = x
    · subst h2
      have hd : (u == u) = true := by simp
      by_cases h3 : v < y
      · have HR := Lib.hid (show bef (u, v) (u, y) = true by simp [bef, h3])
        go_enter Tryz.func46, Tryz.ntmps46
        go_wp2
        go_ret
        exact ⟨ret_bool HR.out.symm, hB⟩
      · have HR := Lib.hid (show bef (u, v) (u, y) = false by simp [bef, h3])
        go_enter Tryz.func46, Tryz.ntmps46
        go_wp2
        go_ret
        exact ⟨ret_bool HR.out.symm, hB⟩
    · have hd : (u == x) = false := by simpa using h2
      have HR := Lib.hid (show bef (u, v) (x, y) = false by simp [bef, h1, h2])
      clear h2
      go_enter Tryz.func46, Tryz.ntmps46
      go_wp2
      go_ret
      exact ⟨ret_bool HR.out.symm, hB⟩


/-- an edge that is returned -/
theorem ret_edge {fn : Func} {R : Ending → World → Prop} {a : Act} {w : World} {p : Nat} (hres : fn.results = #[.cell p 70]) (hd : a.defers = []) (g : Nat) (hp : a.tmps.getD p undef = .pointer (some ⟨g, 0, none⟩))
    {v0 v1 : Value} (hb : w.heap[g]? = some (.cells #[v0, v1] 70 (0, 0))) (h : R (.returned (.agg #[v0, v1])) w) : bodyPost Tryz.prog fn R .ret a w := by
  have hc := Go.Joins.cell_of_block hb
  have y0 := hc 0; have y1 := hc 1
  simp only [List.getElem?_toArray, List.getElem?_cons_succ, List.getElem?_cons_zero] at y0 y1
  have hp' : (a.tmps[p]?).getD undef = .pointer (some ⟨g, 0, none⟩) := by simpa using hp
  refine bodyPost_ret (v := .agg #[v0, v1]) ?_ hd h
  clear hp h hd hb hc
  simp [results, hres, go_sem, hp', y0, y1]
theorem redge_any (u v x y z t : Int) (w : World) : Calls Tryz.prog 47 #[.agg #[.int .i64 u, .int .i64 v, .int .i64 x, .int .i64 y, .int .i64 z, .int .i64 t]] w fun e w' => e = .returned (.agg #[.int .i64 u, .int .i64 v]) ∧ Below w.heap.size w w' := by
  go_enter Tryz.func47, Tryz.ntmps47
  go_wp2_with fail
  obtain ⟨n0, hblk, n2, hbel⟩ := new_two w (.cells #[.int .i64 u, .int .i64 v, .int .i64 x, .int .i64 y, .int .i64 z, .int .i64 t] 62) (.cells #[.int .i64 u, .int .i64 v] 70)
  exact ret_edge (p := 2) Tryz.results47 rfl (w.heap.size + 1) rfl hblk ⟨rfl, hbel⟩

theorem Ls.chk6 {n : Int} {l : Ls.Lk} (h : l.u < 0 ∨ l.v ≤ l.u ∨ n ≤ l.v) : Ls.chkLk n l = 6 := by unfold Ls.chkLk; rw [if_pos h]
theorem Ls.chk1 {n : Int} {l : Ls.Lk} (h : ¬ (l.u < 0 ∨ l.v ≤ l.u ∨ n ≤ l.v)) (h2 : attrB ⟨1, 0, 0, 0, l.weight, l.label, l.sign⟩ = false) : Ls.chkLk n l = 1 := by unfold Ls.chkLk; rw [if_neg h, if_pos h2]
theorem Ls.chk9 {n : Int} {l : Ls.Lk} (h : ¬ (l.u < 0 ∨ l.v ≤ l.u ∨ n ≤ l.v)) (h2 : ¬ attrB ⟨1, 0, 0, 0, l.weight, l.label, l.sign⟩ = false) (h3 : l.time < 0 ∨ 1048576 < l.time) : Ls.chkLk n l = 9 := by unfold Ls.chkLk; rw [if_neg h, if_neg h2, if_pos h3]
theorem Ls.chkOk {n : Int} {l : Ls.Lk} (h : ¬ (l.u < 0 ∨ l.v ≤ l.u ∨ n ≤ l.v)) (h2 : ¬ attrB ⟨1, 0, 0, 0, l.weight, l.label, l.sign⟩ = false) (h3 : ¬ (l.time < 0 ∨ 1048576 < l.time)) : Ls.chkLk n l = 0 := by unfold Ls.chkLk; rw [if_neg h, if_neg h2, if_neg h3]
set_option maxHeartbeats 2000000 in
set_option maxRecDepth 100000 in
theorem rcheckS_any (n : Int) (A : Option Addr) (c : Nat) (l : List Ls.Lk) (w : World) (h : RL w.heap.size w A c l) (hl : l.length ≤ 65536) :
    Calls Tryz.prog 41 #[.agg #[.int .i64 n, .slice A l.length c]] w fun e w' => e = .returned (.int .i64 (Ls.chkS n l)) ∧ Below w.heap.size w w' := by
  have hB0 : Below w.heap.size w (w.alloc (.cells #[.int .i64 n, .slice A l.length c] 24)) := (Below.refl _ _).alloc (Nat.le_refl _) _
  have HB0 := Lib.hid hB0
  by_cases h0 : n < 0
  · have HR := Lib.hid (show Ls.chkS n l = 1 by unfold Ls.chkS; rw [if_pos (.inl h0)])
    go_enter Tryz.func41, Tryz.ntmps41
    go_wp2
    go_ret
    exact ⟨ret_int HR.out.symm, HB0.out⟩
  · by_cases h64 : 64 < n
    · have HR := Lib.hid (show Ls.chkS n l = 1 by unfold Ls.chkS; rw [if_pos (.inr h64)])
      go_enter Tryz.func41, Tryz.ntmps41
      go_wp2
      go_ret
      exact ⟨ret_int HR.out.symm, HB0.out⟩
    · have HK := Lib.hid (show Ls.chkS n l = Ls.chkLs n none l by unfold Ls.chkS; rw [if_neg (by omega)])
      have H := Lib.hid h
      clear h hB0
      go_enter Tryz.func41, Tryz.ntmps41
      go_wp2
      obtain ⟨g, HG⟩ : ∃ g, Hid (g = w.heap.size) := ⟨_, rfl⟩
      obtain ⟨W1, HW1⟩ : ∃ W1, Hid (W1 = w.alloc (.cells #[.int .i64 n, .slice A l.length c] 24)) := ⟨_, rfl⟩
      have HBL : Hid (W1.heap[g]? = some (.cells #[.int .i64 n, .slice A l.length c] 24)) := by show _ = _; rw [HW1.out, HG.out]; exact heap_alloc_new _ _
      have HGL : Hid (g < W1.heap.size) := by show _ < _; rw [HW1.out, HG.out]; simp
      have HRE : Hid (RL W1.heap.size W1 A c l) := by show RL _ _ _ _ _; rw [HW1.out]; exact H.out.up HB0.out
      have HB1 : Hid (Below w.heap.size w W1) := by show Below _ _ _; rw [HW1.out]; exact HB0.out
      rw [← HW1.out, ← HG.out]
      clear HW1 HG H HB0
      go_loopw [17] (fun i wr => ∃ (k : Nat), k ≤ l.length ∧ i = .int .i64 k ∧ Hid (Below W1.heap.size W1 wr) ∧ Hid (Ls.chkS n l = Ls.chkLs n (Ls.preL l k) (l.drop k))) (fun i _ => l.length - (RowKit.intOf i).toNat)
      case atStart => exact ⟨0, Nat.zero_le _, rfl, Below.refl _ _, HK.out⟩
      case round =>
        obtain ⟨k, hk, rfl, HBR, HN⟩ := hrel
        have hbl : wr.heap[g]? = some (.cells #[.int .i64 n, .slice A l.length c] 24) := (HBR.out.block g HGL.out).trans HBL.out
        have hg0 : wr.cell? ⟨g, 0, none⟩ = some (.int .i64 n) := Go.Joins.cell_of_block hbl 0
        have hg1 : wr.cell? ⟨g, 1, none⟩ = some (.slice A l.length c) := Go.Joins.cell_of_block hbl 1
        have hgl : g < wr.heap.size := Nat.lt_of_lt_of_le HGL.out HBR.out.size
        clear hbl
        have HRr := Lib.hid (HRE.out.up HBR.out)
        by_cases hlt : k < l.length
        · obtain ⟨b, off, ⟨u, v, x, y, z, t⟩, rfl, hb, hx, hc0, hc1, hc2, hc3, hc4, hc5⟩ := RL.at_ HRr.out hlt
          dsimp only at hc0 hc1 hc2 hc3 hc4 hc5
          have HX := Lib.hid hx
          clear hx
          have HBB : Hid (Below wr.heap.size wr (wr.alloc (.cells #[.int .i64 u, .int .i64 v, .int .i64 x, .int .i64 y, .int .i64 z, .int .i64 t] 62))) := below_new _ _
          have HBX : Hid (Below w.heap.size w (wr.alloc (.cells #[.int .i64 u, .int .i64 v, .int .i64 x, .int .i64 y, .int .i64 z, .int .i64 t] 62))) := HB1.out.trans ((HBR.out.trans (HBB.out.mono HBR.out.size)).mono HB1.out.size)
          have CA := Lib.hid (fun w => attributes_any x y z w)
          obtain ⟨ab, HAB⟩ : ∃ ab, Hid (attrB ⟨1, 0, 0, 0, x, y, z⟩ = ab) := ⟨_, rfl⟩
          simp only [HAB.out] at CA
          by_cases hu : u < 0
          · have HR := Lib.hid ((HN.out.trans (Ls.cks_bad n l k _ _ HX.out (by rw [Ls.chk6 (.inl hu)]; decide))).trans (Ls.chk6 (.inl hu)))
            go_wp2
            go_ret
            exact ⟨ret_int HR.out.symm, HBX.out⟩
          · by_cases hv : v ≤ u
            · have HR := Lib.hid ((HN.out.trans (Ls.cks_bad n l k _ _ HX.out (by rw [Ls.chk6 (.inr (.inl hv))]; decide))).trans (Ls.chk6 (.inr (.inl hv))))
              go_wp2
              go_ret
              exact ⟨ret_int HR.out.symm, HBX.out⟩
            · by_cases hn : n ≤ v
              · have HR := Lib.hid ((HN.out.trans (Ls.cks_bad n l k _ _ HX.out (by rw [Ls.chk6 (.inr (.inr hn))]; decide))).trans (Ls.chk6 (.inr (.inr hn))))
                go_wp2
                go_ret
                exact ⟨ret_int HR.out.symm, HBX.out⟩
              · have HC : Hid (¬ (u < 0 ∨ v ≤ u ∨ n ≤ v)) := by show ¬ _; omega
                cases ab with
                | false =>
                  have HR := Lib.hid ((HN.out.trans (Ls.cks_bad n l k _ _ HX.out (by rw [Ls.chk1 HC.out HAB.out]; decide))).trans (Ls.chk1 HC.out HAB.out))
                  go_wp2_with fail
                  refine (CA.out _).mono ?_
                  rintro e w1 ⟨rfl, rfl⟩
                  go_wp2
                  go_ret
                  exact ⟨ret_int HR.out.symm, HBX.out⟩
                | true =>
                  have HAT : Hid (¬ attrB ⟨1, 0, 0, 0, x, y, z⟩ = false) := by show ¬ _; rw [HAB.out]; simp
                  by_cases ht : t < 0
                  · have HR := Lib.hid ((HN.out.trans (Ls.cks_bad n l k _ _ HX.out (by rw [Ls.chk9 HC.out HAT.out (.inl ht)]; decide))).trans (Ls.chk9 HC.out HAT.out (.inl ht)))
                    go_wp2_with fail
                    refine (CA.out _).mono ?_
                    rintro e w1 ⟨rfl, rfl⟩
                    go_wp2
                    go_ret
                    exact ⟨ret_int HR.out.symm, HBX.out⟩
                  · by_cases ht2 : 1048576 < t
                    · have HR := Lib.hid ((HN.out.trans (Ls.cks_bad n l k _ _ HX.out (by rw [Ls.chk9 HC.out HAT.out (.inr ht2)]; decide))).trans (Ls.chk9 HC.out HAT.out (.inr ht2)))
                      go_wp2_with fail
                      refine (CA.out _).mono ?_
                      rintro e w1 ⟨rfl, rfl⟩
                      go_wp2
                      go_ret
                      exact ⟨ret_int HR.out.symm, HBX.out⟩
                    · have HCK : Hid (Ls.chkLk n ⟨u, v, x, y, z, t⟩ = 0) := Ls.chkOk HC.out HAT.out (by show ¬ (t < 0 ∨ 1048576 < t); omega)
                      have HB0k := Lib.hid (HBR.out.trans (HBB.out.mono HBR.out.size))
                      cases k with
                      | zero =>
                        have HR := Lib.hid (HN.out.trans (Ls.cks_first n l 0 _ HX.out HCK.out))
                        simp only [Nat.zero_mul, Nat.add_zero] at hc0 hc1 hc2 hc3 hc4 hc5
                        go_wp2_with fail
                        refine (CA.out _).mono ?_
                        rintro e w1 ⟨rfl, rfl⟩
                        go_wp2
                        refine wp_region_over (by kernel_rfl) (by kernel_rfl) ?_
                        repeat (go_big_quiet_step (fail))
                        refine wpQuiet_nil ?_
                        rintro _ ⟨xx, rfl⟩
                        have hbx := Lib.hid (over_below _ xx)
                        go_wp2
                        go_roundw
                        case rel => exact ⟨1, by omega, rfl, HB0k.out.trans (hbx.out.mono HB0k.out.size), by show _ = _; rw [HR.out, Ls.preL_succ l 0 _ HX.out]⟩
                        case measure => simp [RowKit.intOf]; omega
                      | succ k =>
                        obtain ⟨b', off', ⟨u', v', x', y', z', t'⟩, e1, _, hy, d0, d1, d2, d3, d4, d5⟩ := RL.at_ (k := k) HRr.out (by omega)
                        dsimp only at d0 d1 d2 d3 d4 d5
                        injection e1 with e1
                        injection e1 with e1 e2
                        subst e1; subst e2
                        have HY := Lib.hid hy
                        clear hy
                        have HP := Lib.hid (show Ls.preL l (k + 1) = some ⟨u', v', x', y', z', t'⟩ from Ls.preL_succ l k _ HY.out)
                        have CE1 := Lib.hid (fun w => redge_any u' v' x' y' z' t' w)
                        have CE2 := Lib.hid (fun w => redge_any u v x y z t w)
                        have CB := Lib.hid (fun w => before_any u' v' u v w)
                        obtain ⟨M, HM⟩ : ∃ M, Hid (bef (u', v') (u, v) = M) := ⟨_, rfl⟩
                        have HBF : Hid (Ls.before ⟨u', v', x', y', z', t'⟩ ⟨u, v, x, y, z, t⟩ = M) := HM.out
                        simp only [HM.out] at CB
                        have fs : IntKind.i64.wrap (((k + 1 : Nat) : Int) - 1) = (k : Int) := by rw [IntWalk.i64_in _ (by omega)]; omega
                        have fk : (0 : Int) < ((k + 1 : Nat) : Int) := by omega
                        cases M with
                        | true =>
                          have HR := Lib.hid ((HN.out.trans (by rw [HP.out])).trans (Ls.cks_next n l (k + 1) _ _ HX.out HCK.out HBF.out))
                          go_wp2_with fail
                          refine (CA.out _).mono ?_
                          rintro e w1 ⟨rfl, rfl⟩
                          go_wp2
                          refine wp_region_over (by kernel_rfl) (by kernel_rfl) ?_
                          repeat (go_big_quiet_step (first | (go_at_call 47; first | exact calls_over (CE1.out _) | exact calls_over (CE2.out _)) | (go_at_call 46; exact calls_over (CB.out _))))
                          refine wpQuiet_nil ?_
                          rintro _ ⟨zz, rfl⟩
                          have hbx := Lib.hid (over_below _ zz)
                          go_wp2
                          go_roundw
                          case rel => exact ⟨k + 1 + 1, by omega, by go_num, HB0k.out.trans (hbx.out.mono HB0k.out.size), by show _ = _; rw [HR.out, Ls.preL_succ l (k + 1) _ HX.out]⟩
                          case measure => simp [RowKit.intOf]; omega
                        | false =>
                          have HR := Lib.hid ((HN.out.trans (by rw [HP.out])).trans (Ls.cks_order n l (k + 1) _ _ HX.out HCK.out HBF.out))
                          go_wp2_with fail
                          refine (CA.out _).mono ?_
                          rintro e w1 ⟨rfl, rfl⟩
                          go_wp2
                          refine wp_region_over (by kernel_rfl) (by kernel_rfl) ?_
                          repeat (go_big_quiet_step (first | (go_at_call 47; first | exact calls_over (CE1.out _) | exact calls_over (CE2.out _)) | (go_at_call 46; exact calls_over (CB.out _))))
                          refine wpQuiet_nil ?_
                          rintro _ ⟨zz, rfl⟩
                          have hbx := Lib.hid (over_below _ zz)
                          go_wp2
                          go_ret
                          exact ⟨ret_int HR.out.symm, HBX.out.trans (hbx.out.mono HBX.out.size)⟩
        · have HR := Lib.hid (HN.out.trans (Ls.cks_end n l k _ (by omega)))
          go_wp2
          go_ret
          exact ⟨ret_int HR.out.symm, HB1.out.trans (HBR.out.mono HB1.out.size)⟩
end Go.Proofs.YtfapfkaipdcflaaGreat.K
