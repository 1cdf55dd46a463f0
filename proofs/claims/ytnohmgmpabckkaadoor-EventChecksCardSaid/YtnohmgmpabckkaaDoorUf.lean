/-
  EventChecks: the checks of the raw event, of the list's events, and of changed ones.
-/
import Derived.Test.YtnohmgmpabckkaaDoorUe
namespace Go.Proofs.YtnohmgmpabckkaaDoor
open Go.RowKit Go.Lib

theorem raw_cells {B g : Nat} {W : World} {e : Ev} (h : RE B W (some ⟨g, 0, none⟩) 1 [e]) : W.cell? ⟨g, 0, none⟩ = some (.int .i64 e.kind) ∧ W.cell? ⟨g, 1, none⟩ = some (.int .i64 e.time) ∧ W.cell? ⟨g, 2, none⟩ = some (.int .i64 e.u) ∧ W.cell? ⟨g, 3, none⟩ = some (.int .i64 e.v) ∧
    W.cell? ⟨g, 4, none⟩ = some (.int .i64 e.weight) ∧ W.cell? ⟨g, 5, none⟩ = some (.int .i64 e.label) ∧ W.cell? ⟨g, 6, none⟩ = some (.int .i64 e.sign) := by
  obtain ⟨b, off, a, hA, hb, ha, c0, c1, c2, c3, c4, c5, c6⟩ := RE.at_ h (k := 0) (by simp)
  injection hA with hA
  injection hA with e1 e2
  subst e1; subst e2
  simp only [List.getElem?_cons_zero, Option.some.injEq] at ha
  subst ha
  simp only [Nat.zero_mul, Nat.zero_add] at c0 c1 c2 c3 c4 c5 c6
  exact ⟨c0, c1, c2, c3, c4, c5, c6⟩
theorem elt_cells {B c b off j : Nat} {W : World} {l : List Ev} {e : Ev} (h : RE B W (some ⟨b, off, none⟩) c l) (he : l[j]? = some e) : W.cell? ⟨b, off + j * 7, none⟩ = some (.int .i64 e.kind) ∧ W.cell? ⟨b, off + j * 7 + 1, none⟩ = some (.int .i64 e.time) ∧ W.cell? ⟨b, off + j * 7 + 2, none⟩ = some (.int .i64 e.u) ∧ W.cell? ⟨b, off + j * 7 + 3, none⟩ = some (.int .i64 e.v) ∧
    W.cell? ⟨b, off + j * 7 + 4, none⟩ = some (.int .i64 e.weight) ∧ W.cell? ⟨b, off + j * 7 + 5, none⟩ = some (.int .i64 e.label) ∧ W.cell? ⟨b, off + j * 7 + 6, none⟩ = some (.int .i64 e.sign) := by
  obtain ⟨b', off', a, hA, hb, ha, c0, c1, c2, c3, c4, c5, c6⟩ := RE.at_ h (k := j) (List.getElem?_eq_some_iff.1 he).1
  injection hA with hA
  injection hA with e1 e2
  subst e1; subst e2
  rw [he] at ha
  injection ha with ha
  subst ha
  exact ⟨c0, c1, c2, c3, c4, c5, c6⟩
set_option maxHeartbeats 4000000 in
set_option maxRecDepth 100000 in
theorem checks_walk (k t u v x y z what by' : Int) (A1 : Option Addr) (c1 : Nat) (L1 : List Int) (w : World) (h1 : RD w A1 c1 L1) (K : KW w) (hL1 : L1.length ≤ 17592186044416) :
    Calls Tryd.prog 3 #[.agg #[.int .i64 k, .int .i64 t, .int .i64 u, .int .i64 v, .int .i64 x, .int .i64 y, .int .i64 z], .slice A1 L1.length c1, .int .i64 what, .int .i64 by'] w fun e w' => e = .returned (.bool true) ∧ Below w.heap.size w w' := by
  have H1 := Lib.hid h1
  have HK0 := Lib.hid K
  clear h1 K
  go_enter Tryd.func3, Tryd.ntmps3
  go_wp2_with fail
  have HB0 := Lib.hid (below_new w (.cells #[.int .i64 k, .int .i64 t, .int .i64 u, .int .i64 v, .int .i64 x, .int .i64 y, .int .i64 z] 23))
  have HRAW0 := Lib.hid (RE_newE w ⟨k, t, u, v, x, y, z⟩)
  have hs0 : (w.alloc (.cells #[.int .i64 k, .int .i64 t, .int .i64 u, .int .i64 v, .int .i64 x, .int .i64 y, .int .i64 z] 23)).heap.size = w.heap.size + 1 := by simp
  generalize w.alloc (.cells #[.int .i64 k, .int .i64 t, .int .i64 u, .int .i64 v, .int .i64 x, .int .i64 y, .int .i64 z] 23) = w0 at HB0 HRAW0 hs0 ⊢
  replace hs0 := Lib.hid hs0
  replace H1 := Lib.hid (H1.out.go HB0.out)
  replace HK0 := Lib.hid (HK0.out.up HB0.out)
  refine (new_any A1 c1 L1 _ H1.out).mono ?_
  rintro e w1 ⟨rfl, D1, hb1⟩
  have HB1 := Lib.hid hb1
  have HD1 := Lib.hid D1
  clear hb1 D1
  go_wp2_with fail
  refine (next_any w0.heap.size w0.heap.size A1 c1 L1 _ 62 _ HD1.out hL1 (by decide)).mono ?_
  rintro e w2 ⟨n, m2, rfl, hz1, hz2, D2, hg1⟩
  obtain ⟨n, rfl⟩ : ∃ j : Nat, n = j := ⟨n.toNat, by omega⟩
  have HD2 := Lib.hid D2
  have HB2 : Hid (Below w0.heap.size w0 w2) := HB1.out.trans (grown_to_below hg1 (Nat.le_refl _) HB1.out.size)
  have CM := mixed_any w0.heap.size w0.heap.size A1 c1 L1 m2 (2 + n) 8 _ HD2.out hL1 (by omega) (by decide)
  rw [show ((2 + n : Nat) : Int) = 2 + (n : Int) by omega] at CM
  have HCM := Lib.hid CM
  clear D2 hg1 HB1 HD1 CM
  go_wp2_with fail
  refine HCM.out.mono ?_
  rintro e w3 ⟨l, B1, d1, m3, rfl, hl, hv, ho1, D3, hg1⟩
  have HD3 := Lib.hid D3
  have HB3 : Hid (Below w0.heap.size w0 w3) := HB2.out.trans (grown_to_below hg1 (Nat.le_refl _) HB2.out.size)
  have HX3 := Lib.hid (RX.of_own ho1)
  have HO3 := Lib.hid ho1
  have hgl : Hid (w0.heap.size < w2.heap.size) := HD2.out.lt
  clear hv ho1 hg1 HB2 HD2 HCM hz1 hz2 D3
  go_wp2_with fail
  have HRAW3 : Hid (RE w3.heap.size w3 (some ⟨w.heap.size, 0, none⟩) 1 [⟨k, t, u, v, x, y, z⟩]) := (HRAW0.out.go HB3.out).more HB3.out.size
  obtain ⟨R0, HR0⟩ : ∃ R, Hid (chkE ⟨k, t, u, v, x, y, z⟩ = R) := ⟨_, rfl⟩
  have C9 := Lib.hid (fun W => check_any k t u v x y z W)
  have C10 := Lib.hid (fun W => rcheck_any k t u v x y z W)
  rw [HR0.out] at C9 C10
  refine wp_region_inv 5 141 [(fun q0 _ => q0 = .agg #[.int .i64 k, .int .i64 t, .int .i64 u, .int .i64 v, .int .i64 x, .int .i64 y, .int .i64 z]), (fun q0 _ => q0 = .int .i64 R0), (fun q0 _ => q0 = .agg #[.int .i64 k, .int .i64 t, .int .i64 u, .int .i64 v, .int .i64 x, .int .i64 y, .int .i64 z]), (fun q0 _ => q0 = .int .i64 R0), (fun q0 _ => q0 = .bool false)] (by kernel_rfl) (by kernel_rfl) rfl ?_ ?_ ?_
  · intro R hR
    simp only [List.mem_cons, List.not_mem_nil, or_false] at hR
    rcases hR with rfl | rfl | rfl | rfl | rfl
    · exact mono_eq _
    · exact mono_eq _
    · exact mono_eq _
    · exact mono_eq _
    · exact mono_eq _
  · simp only [List.take_succ_cons, List.take_zero]
    refine ⟨?_, ?_, ?_, ?_, ?_, trivial⟩
    · intro a ws hb hag hdep K Q hK
      have d4 : (a.tmps[4]?).getD undef = .pointer (some ⟨w.heap.size, 0, none⟩) := eval_get (hag 4 (freeB_spec (by kernel_rfl)))
      rw [if_pos (show Region.wanted _ _ = true from rfl)]
      obtain ⟨y0, y1, y2, y3, y4, y5, y6⟩ := raw_cells (HRAW3.out.go hb)
      unfold Oper.wp
      simp [go_sem, d4, y0, y1, y2, y3, y4, y5, y6]
      exact hK _ _ (Below.refl _ _) rfl
    · intro a ws hb hag hdep K Q hK
      have d32 : (a.tmps[32]?).getD undef = .agg #[.int .i64 k, .int .i64 t, .int .i64 u, .int .i64 v, .int .i64 x, .int .i64 y, .int .i64 z] := eval_get (dep_of hdep 0 32 rfl (by kernel_rfl) rfl rfl)
      rw [if_pos (show Region.wanted _ _ = true from rfl)]
      unfold Oper.wp
      simp [go_sem, d32]
      refine (C9.out _).mono ?_
      rintro e w9 ⟨rfl, hb9⟩
      exact hK _ _ hb9 rfl
    · intro a ws hb hag hdep K Q hK
      have d4 : (a.tmps[4]?).getD undef = .pointer (some ⟨w.heap.size, 0, none⟩) := eval_get (hag 4 (freeB_spec (by kernel_rfl)))
      rw [if_pos (show Region.wanted _ _ = true from rfl)]
      obtain ⟨y0, y1, y2, y3, y4, y5, y6⟩ := raw_cells (HRAW3.out.go hb)
      unfold Oper.wp
      simp [go_sem, d4, y0, y1, y2, y3, y4, y5, y6]
      exact hK _ _ (Below.refl _ _) rfl
    · intro a ws hb hag hdep K Q hK
      have d34 : (a.tmps[34]?).getD undef = .agg #[.int .i64 k, .int .i64 t, .int .i64 u, .int .i64 v, .int .i64 x, .int .i64 y, .int .i64 z] := eval_get (dep_of hdep 2 34 rfl (by kernel_rfl) rfl rfl)
      rw [if_pos (show Region.wanted _ _ = true from rfl)]
      unfold Oper.wp
      simp [go_sem, d34]
      refine (C10.out _).mono ?_
      rintro e w9 ⟨rfl, hb9⟩
      exact hK _ _ hb9 rfl
    · intro a ws hb hag hdep K Q hK
      have d33 : (a.tmps[33]?).getD undef = .int .i64 R0 := eval_get (dep_of hdep 1 33 rfl (by kernel_rfl) rfl rfl)
      have d35 : (a.tmps[35]?).getD undef = .int .i64 R0 := eval_get (dep_of hdep 3 35 rfl (by kernel_rfl) rfl rfl)
      rw [if_pos (show Region.wanted _ _ = true from rfl)]
      unfold Oper.wp
      simp [go_sem, d33, d35]
      exact hK _ _ (Below.refl _ _) rfl
  · intro a ws hb hsz hdf hag hend
    have f32 : a.eval (.tmp 32) = .agg #[.int .i64 k, .int .i64 t, .int .i64 u, .int .i64 v, .int .i64 x, .int .i64 y, .int .i64 z] := end_of hend 0 32 (by decide) rfl rfl rfl
    have f33 : a.eval (.tmp 33) = .int .i64 R0 := end_of hend 1 33 (by decide) rfl rfl rfl
    have f34 : a.eval (.tmp 34) = .agg #[.int .i64 k, .int .i64 t, .int .i64 u, .int .i64 v, .int .i64 x, .int .i64 y, .int .i64 z] := end_of hend 2 34 (by decide) rfl rfl rfl
    have f35 : a.eval (.tmp 35) = .int .i64 R0 := end_of hend 3 35 (by decide) rfl rfl rfl
    have f36 : a.eval (.tmp 36) = .bool false := end_of hend 4 36 (by decide) rfl rfl rfl
    have ea := act_block 32 5 hsz hdf hag [32, 33, 34, 35, 36] (by kernel_rfl) (by kernel_rfl) (of_decide_eq_true (by kernel_rfl))
    clear hag hend hsz hdf
    simp only [List.map_cons, List.map_nil, f32, f33, f34, f35, f36] at ea
    clear f32 f33 f34 f35 f36
    simp only [List.take_succ_cons, List.take_zero, List.drop_succ_cons, List.drop_zero, List.cons_append, List.nil_append] at ea
    subst ea
    have HB4 : Hid (Below w0.heap.size w0 ws) := HB3.out.trans (hb.mono HB3.out.size)
    have HX4 := Lib.hid (RX.up HX3.out hb)
    have HRAW4 := Lib.hid (RX.up HRAW3.out hb)
    have HD4 := Lib.hid (HD3.out.go hb)
    have HO4 := Lib.hid (own_up HO3.out hb)
    have HK4 := Lib.hid (HK0.out.up HB4.out)
    clear hb HB3 HX3 HRAW3 HD3 C9 C10 HR0 H1
    simp only [List.drop_succ_cons, List.drop_zero]
    go_wp2
    go_loopw [39] (fun i wr => ∃ (j : Nat), j ≤ l.length ∧ i = .int .i64 j ∧ Hid (Below ws.heap.size ws wr)) (fun i _ => l.length - (RowKit.intOf i).toNat)
    case atStart => exact ⟨0, Nat.zero_le _, rfl, Below.refl _ _⟩
    case round =>
      obtain ⟨j, hj, rfl, HB⟩ := hrel
      by_cases hlt : j < l.length
      · obtain ⟨b, off, e, rfl, hbb, he, c0, c1, c2, c3, c4, c5, c6⟩ := RE.at_ (HX4.out.go HB.out) hlt
        have HE := Lib.hid he
        clear he
        go_wp2_with fail
        refine (odd_any _ _ _ _ _ _ _ _ _ _).mono ?_
        rintro en w5 ⟨ok, ot, ou, ov, ox, oy, oz, rfl, hb5⟩
        have HB5 : Hid (Below ws.heap.size ws w5) := HB.out.trans (hb5.mono HB.out.size)
        clear hb5 HB c0 c1 c2 c3 c4 c5 c6
        go_wp2_with fail
        have HB56 := Lib.hid (below_new w5 (.cells #[.int .i64 ok, .int .i64 ot, .int .i64 ou, .int .i64 ov, .int .i64 ox, .int .i64 oy, .int .i64 oz] 23))
        have HODD := Lib.hid (RE_newE w5 ⟨ok, ot, ou, ov, ox, oy, oz⟩)
        generalize w5.alloc (.cells #[.int .i64 ok, .int .i64 ot, .int .i64 ou, .int .i64 ov, .int .i64 ox, .int .i64 oy, .int .i64 oz] 23) = w6 at HB56 HODD ⊢
        have HB6 : Hid (Below ws.heap.size ws w6) := HB5.out.trans (HB56.out.mono HB5.out.size)
        have HX6 : Hid (RE w6.heap.size w6 (some ⟨b, off, none⟩) d1 l) := (HX4.out.go HB6.out).more HB6.out.size
        clear HB5 HB56
        obtain ⟨R1, HR1⟩ : ∃ R, Hid (chkE ⟨ok, ot, ou, ov, ox, oy, oz⟩ = R) := ⟨_, rfl⟩
        obtain ⟨R2, HR2⟩ : ∃ R, Hid (chkE e = R) := ⟨_, rfl⟩
        have C9 := Lib.hid (fun W => check_any ok ot ou ov ox oy oz W)
        have C10 := Lib.hid (fun W => rcheck_any ok ot ou ov ox oy oz W)
        have D9 := Lib.hid (fun W => check_any e.kind e.time e.u e.v e.weight e.label e.sign W)
        have D10 := Lib.hid (fun W => rcheck_any e.kind e.time e.u e.v e.weight e.label e.sign W)
        rw [HR1.out] at C9 C10
        rw [show chkE ⟨e.kind, e.time, e.u, e.v, e.weight, e.label, e.sign⟩ = R2 from HR2.out] at D9 D10
        have hlt' : (j : Int) < (l.length : Int) := by omega
        refine wp_region_inv 18 141 [(fun q0 _ => q0 = .agg #[.int .i64 ok, .int .i64 ot, .int .i64 ou, .int .i64 ov, .int .i64 ox, .int .i64 oy, .int .i64 oz]), (fun q0 _ => q0 = .int .i64 R1), (fun q0 _ => q0 = .agg #[.int .i64 ok, .int .i64 ot, .int .i64 ou, .int .i64 ov, .int .i64 ox, .int .i64 oy, .int .i64 oz]), (fun q0 _ => q0 = .int .i64 R1), (fun q0 _ => q0 = .bool false), (fun q0 _ => q0 = .bool false), (fun q0 _ => q0 = .slice (some ⟨b, off, none⟩) l.length d1), (fun q0 _ => q0 = .int .i64 (j : Int)), (fun q0 _ => q0 = .pointer (some ⟨b, off + j * 7, none⟩)), (fun q0 _ => q0 = .agg #[.int .i64 e.kind, .int .i64 e.time, .int .i64 e.u, .int .i64 e.v, .int .i64 e.weight, .int .i64 e.label, .int .i64 e.sign]), (fun q0 _ => q0 = .int .i64 R2), (fun q0 _ => q0 = .slice (some ⟨b, off, none⟩) l.length d1), (fun q0 _ => q0 = .int .i64 (j : Int)), (fun q0 _ => q0 = .pointer (some ⟨b, off + j * 7, none⟩)), (fun q0 _ => q0 = .agg #[.int .i64 e.kind, .int .i64 e.time, .int .i64 e.u, .int .i64 e.v, .int .i64 e.weight, .int .i64 e.label, .int .i64 e.sign]), (fun q0 _ => q0 = .int .i64 R2), (fun q0 _ => q0 = .bool false), (fun q0 _ => q0 = .bool false)] (by kernel_rfl) (by kernel_rfl) rfl ?_ ?_ ?_
        · intro R hR
          simp only [List.mem_cons, List.not_mem_nil, or_false] at hR
          rcases hR with rfl | rfl | rfl | rfl | rfl | rfl | rfl | rfl | rfl | rfl | rfl | rfl | rfl | rfl | rfl | rfl | rfl | rfl
          · exact mono_eq _
          · exact mono_eq _
          · exact mono_eq _
          · exact mono_eq _
          · exact mono_eq _
          · exact mono_eq _
          · exact mono_eq _
          · exact mono_eq _
          · exact mono_eq _
          · exact mono_eq _
          · exact mono_eq _
          · exact mono_eq _
          · exact mono_eq _
          · exact mono_eq _
          · exact mono_eq _
          · exact mono_eq _
          · exact mono_eq _
          · exact mono_eq _
        · simp only [List.take_succ_cons, List.take_zero]
          refine ⟨?_, ?_, ?_, ?_, ?_, ?_, ?_, ?_, ?_, ?_, ?_, ?_, ?_, ?_, ?_, ?_, ?_, ?_, trivial⟩
          · intro a wq hb hag hdep K Q hK
            have d12 : (a.tmps[12]?).getD undef = .pointer (some ⟨w5.heap.size, 0, none⟩) := eval_get (hag 12 (freeB_spec (by kernel_rfl)))
            rw [if_pos (show Region.wanted _ _ = true from rfl)]
            obtain ⟨y0, y1, y2, y3, y4, y5, y6⟩ := raw_cells (HODD.out.go hb)
            unfold Oper.wp
            simp [go_sem, d12, y0, y1, y2, y3, y4, y5, y6]
            exact hK _ _ (Below.refl _ _) rfl
          · intro a wq hb hag hdep K Q hK
            have d51 : (a.tmps[51]?).getD undef = .agg #[.int .i64 ok, .int .i64 ot, .int .i64 ou, .int .i64 ov, .int .i64 ox, .int .i64 oy, .int .i64 oz] := eval_get (dep_of hdep 0 51 rfl (by kernel_rfl) rfl rfl)
            rw [if_pos (show Region.wanted _ _ = true from rfl)]
            unfold Oper.wp
            simp [go_sem, d51]
            refine (C9.out _).mono ?_
            rintro en w9 ⟨rfl, hb9⟩
            exact hK _ _ hb9 rfl
          · intro a wq hb hag hdep K Q hK
            have d12 : (a.tmps[12]?).getD undef = .pointer (some ⟨w5.heap.size, 0, none⟩) := eval_get (hag 12 (freeB_spec (by kernel_rfl)))
            rw [if_pos (show Region.wanted _ _ = true from rfl)]
            obtain ⟨y0, y1, y2, y3, y4, y5, y6⟩ := raw_cells (HODD.out.go hb)
            unfold Oper.wp
            simp [go_sem, d12, y0, y1, y2, y3, y4, y5, y6]
            exact hK _ _ (Below.refl _ _) rfl
          · intro a wq hb hag hdep K Q hK
            have d53 : (a.tmps[53]?).getD undef = .agg #[.int .i64 ok, .int .i64 ot, .int .i64 ou, .int .i64 ov, .int .i64 ox, .int .i64 oy, .int .i64 oz] := eval_get (dep_of hdep 2 53 rfl (by kernel_rfl) rfl rfl)
            rw [if_pos (show Region.wanted _ _ = true from rfl)]
            unfold Oper.wp
            simp [go_sem, d53]
            refine (C10.out _).mono ?_
            rintro en w9 ⟨rfl, hb9⟩
            exact hK _ _ hb9 rfl
          · intro a wq hb hag hdep K Q hK
            have d52 : (a.tmps[52]?).getD undef = .int .i64 R1 := eval_get (dep_of hdep 1 52 rfl (by kernel_rfl) rfl rfl)
            have d54 : (a.tmps[54]?).getD undef = .int .i64 R1 := eval_get (dep_of hdep 3 54 rfl (by kernel_rfl) rfl rfl)
            rw [if_pos (show Region.wanted _ _ = true from rfl)]
            unfold Oper.wp
            simp [go_sem, d52, d54]
            exact hK _ _ (Below.refl _ _) rfl
          · intro a wq hb hag hdep K Q hK
            have d55 : (a.tmps[55]?).getD undef = .bool false := eval_get (dep_of hdep 4 55 rfl (by kernel_rfl) rfl rfl)
            rw [if_pos (show Region.wanted _ _ = true from rfl)]
            unfold Oper.wp
            simp [go_sem, d55]
            exact hK _ _ (Below.refl _ _) rfl
          · intro a wq hb hag hdep K Q hK
            have d10 : (a.tmps[10]?).getD undef = .slice (some ⟨b, off, none⟩) l.length d1 := eval_get (hag 10 (freeB_spec (by kernel_rfl)))
            have dg : a.eval (.tmp 56) = .bool false := dep_of hdep 5 56 rfl (by kernel_rfl) rfl rfl
            rw [if_pos (wanted_at (l := _) rfl rfl rfl dg)]
            unfold Oper.wp
            simp [go_sem, d10]
            exact hK _ _ (Below.refl _ _) rfl
          · intro a wq hb hag hdep K Q hK
            have d11 : (a.tmps[11]?).getD undef = .int .i64 (j : Int) := eval_get (hag 11 (freeB_spec (by kernel_rfl)))
            have dg : a.eval (.tmp 56) = .bool false := dep_of hdep 5 56 rfl (by kernel_rfl) rfl rfl
            rw [if_pos (wanted_at (l := _) rfl rfl rfl dg)]
            unfold Oper.wp
            simp [go_sem, d11]
            exact hK _ _ (Below.refl _ _) rfl
          · intro a wq hb hag hdep K Q hK
            have d57 : (a.tmps[57]?).getD undef = .slice (some ⟨b, off, none⟩) l.length d1 := eval_get (dep_of hdep 6 57 rfl (by kernel_rfl) rfl rfl)
            have d58 : (a.tmps[58]?).getD undef = .int .i64 (j : Int) := eval_get (dep_of hdep 7 58 rfl (by kernel_rfl) rfl rfl)
            have dg : a.eval (.tmp 56) = .bool false := dep_of hdep 5 56 rfl (by kernel_rfl) rfl rfl
            rw [if_pos (wanted_at (l := _) rfl rfl rfl dg)]
            unfold Oper.wp
            simp [go_sem, d57, d58, hlt']
            exact hK _ _ (Below.refl _ _) rfl
          · intro a wq hb hag hdep K Q hK
            have d59 : (a.tmps[59]?).getD undef = .pointer (some ⟨b, off + j * 7, none⟩) := eval_get (dep_of hdep 8 59 rfl (by kernel_rfl) rfl rfl)
            have dg : a.eval (.tmp 56) = .bool false := dep_of hdep 5 56 rfl (by kernel_rfl) rfl rfl
            rw [if_pos (wanted_at (l := _) rfl rfl rfl dg)]
            obtain ⟨y0, y1, y2, y3, y4, y5, y6⟩ := elt_cells (HX6.out.go hb) HE.out
            unfold Oper.wp
            simp [go_sem, d59, y0, y1, y2, y3, y4, y5, y6]
            exact hK _ _ (Below.refl _ _) rfl
          · intro a wq hb hag hdep K Q hK
            have d60 : (a.tmps[60]?).getD undef = .agg #[.int .i64 e.kind, .int .i64 e.time, .int .i64 e.u, .int .i64 e.v, .int .i64 e.weight, .int .i64 e.label, .int .i64 e.sign] := eval_get (dep_of hdep 9 60 rfl (by kernel_rfl) rfl rfl)
            have dg : a.eval (.tmp 56) = .bool false := dep_of hdep 5 56 rfl (by kernel_rfl) rfl rfl
            rw [if_pos (wanted_at (l := _) rfl rfl rfl dg)]
            unfold Oper.wp
            simp [go_sem, d60]
            refine (D9.out _).mono ?_
            rintro en w9 ⟨rfl, hb9⟩
            exact hK _ _ hb9 rfl
          · intro a wq hb hag hdep K Q hK
            have d10 : (a.tmps[10]?).getD undef = .slice (some ⟨b, off, none⟩) l.length d1 := eval_get (hag 10 (freeB_spec (by kernel_rfl)))
            have dg : a.eval (.tmp 56) = .bool false := dep_of hdep 5 56 rfl (by kernel_rfl) rfl rfl
            rw [if_pos (wanted_at (l := _) rfl rfl rfl dg)]
            unfold Oper.wp
            simp [go_sem, d10]
            exact hK _ _ (Below.refl _ _) rfl
          · intro a wq hb hag hdep K Q hK
            have d11 : (a.tmps[11]?).getD undef = .int .i64 (j : Int) := eval_get (hag 11 (freeB_spec (by kernel_rfl)))
            have dg : a.eval (.tmp 56) = .bool false := dep_of hdep 5 56 rfl (by kernel_rfl) rfl rfl
            rw [if_pos (wanted_at (l := _) rfl rfl rfl dg)]
            unfold Oper.wp
            simp [go_sem, d11]
            exact hK _ _ (Below.refl _ _) rfl
          · intro a wq hb hag hdep K Q hK
            have d62 : (a.tmps[62]?).getD undef = .slice (some ⟨b, off, none⟩) l.length d1 := eval_get (dep_of hdep 11 62 rfl (by kernel_rfl) rfl rfl)
            have d63 : (a.tmps[63]?).getD undef = .int .i64 (j : Int) := eval_get (dep_of hdep 12 63 rfl (by kernel_rfl) rfl rfl)
            have dg : a.eval (.tmp 56) = .bool false := dep_of hdep 5 56 rfl (by kernel_rfl) rfl rfl
            rw [if_pos (wanted_at (l := _) rfl rfl rfl dg)]
            unfold Oper.wp
            simp [go_sem, d62, d63, hlt']
            exact hK _ _ (Below.refl _ _) rfl
          · intro a wq hb hag hdep K Q hK
            have d64 : (a.tmps[64]?).getD undef = .pointer (some ⟨b, off + j * 7, none⟩) := eval_get (dep_of hdep 13 64 rfl (by kernel_rfl) rfl rfl)
            have dg : a.eval (.tmp 56) = .bool false := dep_of hdep 5 56 rfl (by kernel_rfl) rfl rfl
            rw [if_pos (wanted_at (l := _) rfl rfl rfl dg)]
            obtain ⟨y0, y1, y2, y3, y4, y5, y6⟩ := elt_cells (HX6.out.go hb) HE.out
            unfold Oper.wp
            simp [go_sem, d64, y0, y1, y2, y3, y4, y5, y6]
            exact hK _ _ (Below.refl _ _) rfl
          · intro a wq hb hag hdep K Q hK
            have d65 : (a.tmps[65]?).getD undef = .agg #[.int .i64 e.kind, .int .i64 e.time, .int .i64 e.u, .int .i64 e.v, .int .i64 e.weight, .int .i64 e.label, .int .i64 e.sign] := eval_get (dep_of hdep 14 65 rfl (by kernel_rfl) rfl rfl)
            have dg : a.eval (.tmp 56) = .bool false := dep_of hdep 5 56 rfl (by kernel_rfl) rfl rfl
            rw [if_pos (wanted_at (l := _) rfl rfl rfl dg)]
            unfold Oper.wp
            simp [go_sem, d65]
            refine (D10.out _).mono ?_
            rintro en w9 ⟨rfl, hb9⟩
            exact hK _ _ hb9 rfl
          · intro a wq hb hag hdep K Q hK
            have d61 : (a.tmps[61]?).getD undef = .int .i64 R2 := eval_get (dep_of hdep 10 61 rfl (by kernel_rfl) rfl rfl)
            have d66 : (a.tmps[66]?).getD undef = .int .i64 R2 := eval_get (dep_of hdep 15 66 rfl (by kernel_rfl) rfl rfl)
            have dg : a.eval (.tmp 56) = .bool false := dep_of hdep 5 56 rfl (by kernel_rfl) rfl rfl
            rw [if_pos (wanted_at (l := _) rfl rfl rfl dg)]
            unfold Oper.wp
            simp [go_sem, d61, d66]
            exact hK _ _ (Below.refl _ _) rfl
          · intro a wq hb hag hdep K Q hK
            have d56 : (a.tmps[56]?).getD undef = .bool false := eval_get (dep_of hdep 5 56 rfl (by kernel_rfl) rfl rfl)
            have d67 : (a.tmps[67]?).getD undef = .bool false := eval_get (dep_of hdep 16 67 rfl (by kernel_rfl) rfl rfl)
            rw [if_pos (show Region.wanted _ _ = true from rfl)]
            unfold Oper.wp
            simp [go_sem, d56, d67]
            exact hK _ _ (Below.refl _ _) rfl
        · intro a wq hb hsz hdf hag hend
          have f51 : a.eval (.tmp 51) = .agg #[.int .i64 ok, .int .i64 ot, .int .i64 ou, .int .i64 ov, .int .i64 ox, .int .i64 oy, .int .i64 oz] := end_of hend 0 51 (by decide) rfl rfl rfl
          have f52 : a.eval (.tmp 52) = .int .i64 R1 := end_of hend 1 52 (by decide) rfl rfl rfl
          have f53 : a.eval (.tmp 53) = .agg #[.int .i64 ok, .int .i64 ot, .int .i64 ou, .int .i64 ov, .int .i64 ox, .int .i64 oy, .int .i64 oz] := end_of hend 2 53 (by decide) rfl rfl rfl
          have f54 : a.eval (.tmp 54) = .int .i64 R1 := end_of hend 3 54 (by decide) rfl rfl rfl
          have f55 : a.eval (.tmp 55) = .bool false := end_of hend 4 55 (by decide) rfl rfl rfl
          have f56 : a.eval (.tmp 56) = .bool false := end_of hend 5 56 (by decide) rfl rfl rfl
          have f57 : a.eval (.tmp 57) = .slice (some ⟨b, off, none⟩) l.length d1 := end_of hend 6 57 (by decide) rfl rfl rfl
          have f58 : a.eval (.tmp 58) = .int .i64 (j : Int) := end_of hend 7 58 (by decide) rfl rfl rfl
          have f59 : a.eval (.tmp 59) = .pointer (some ⟨b, off + j * 7, none⟩) := end_of hend 8 59 (by decide) rfl rfl rfl
          have f60 : a.eval (.tmp 60) = .agg #[.int .i64 e.kind, .int .i64 e.time, .int .i64 e.u, .int .i64 e.v, .int .i64 e.weight, .int .i64 e.label, .int .i64 e.sign] := end_of hend 9 60 (by decide) rfl rfl rfl
          have f61 : a.eval (.tmp 61) = .int .i64 R2 := end_of hend 10 61 (by decide) rfl rfl rfl
          have f62 : a.eval (.tmp 62) = .slice (some ⟨b, off, none⟩) l.length d1 := end_of hend 11 62 (by decide) rfl rfl rfl
          have f63 : a.eval (.tmp 63) = .int .i64 (j : Int) := end_of hend 12 63 (by decide) rfl rfl rfl
          have f64 : a.eval (.tmp 64) = .pointer (some ⟨b, off + j * 7, none⟩) := end_of hend 13 64 (by decide) rfl rfl rfl
          have f65 : a.eval (.tmp 65) = .agg #[.int .i64 e.kind, .int .i64 e.time, .int .i64 e.u, .int .i64 e.v, .int .i64 e.weight, .int .i64 e.label, .int .i64 e.sign] := end_of hend 14 65 (by decide) rfl rfl rfl
          have f66 : a.eval (.tmp 66) = .int .i64 R2 := end_of hend 15 66 (by decide) rfl rfl rfl
          have f67 : a.eval (.tmp 67) = .bool false := end_of hend 16 67 (by decide) rfl rfl rfl
          have f68 : a.eval (.tmp 68) = .bool false := end_of hend 17 68 (by decide) rfl rfl rfl
          have ea := act_block 51 18 hsz hdf hag [51, 52, 53, 54, 55, 56, 57, 58, 59, 60, 61, 62, 63, 64, 65, 66, 67, 68] (by kernel_rfl) (by kernel_rfl) (of_decide_eq_true (by kernel_rfl))
          clear hag hend hsz hdf
          simp only [List.map_cons, List.map_nil, f51, f52, f53, f54, f55, f56, f57, f58, f59, f60, f61, f62, f63, f64, f65, f66, f67, f68] at ea
          clear f51 f52 f53 f54 f55 f56 f57 f58 f59 f60 f61 f62 f63 f64 f65 f66 f67 f68
          simp only [List.take_succ_cons, List.take_zero, List.drop_succ_cons, List.drop_zero, List.cons_append, List.nil_append] at ea
          subst ea
          have HBQ : Hid (Below ws.heap.size ws wq) := HB6.out.trans (hb.mono HB6.out.size)
          clear hb HB6 HX6 HODD C9 C10 D9 D10 HR1 HR2
          simp only [List.drop_succ_cons, List.drop_zero]
          go_wp2
          go_roundw
          case rel => exact ⟨j + 1, hlt, by go_num, HBQ.out⟩
          case measure => simp [RowKit.intOf]; try omega
      · obtain rfl : j = l.length := by omega
        have HO5 := Lib.hid (own_up HO4.out HB.out)
        have HD5 := Lib.hid (HD4.out.go HB.out)
        have HX5 := Lib.hid (RX.up HX4.out HB.out)
        have HB5 : Hid (Below w0.heap.size w0 wr) := HB4.out.trans (HB.out.mono HB4.out.size)
        have HN5 : Hid (wr.ownsRow wr.heap.size 23 7 (.slice none 0 0) 0 (cl Ev.cells [])) := World.ownsRow_nil _ _ _ _
        clear hj hlt HB HO4 HD4 HX4 HB4
        by_cases hz : 0 < l.length
        · have hz' : (0 : Int) < (l.length : Int) := by omega
          go_wp2_with (at_builtin; (refine wpList_applE _ rfl (.const (.slice none 0 0)) (.tmp 70) wr.heap.size none 0 rfl [] (by simp [Act.eval]) HN5.out B1 d1 l.length l rfl (by simp [Act.eval]) HX5.out (by simp; omega) (Nat.le_refl _) ?_; intro A5 c5 w6 HO6 HB56 _))
          simp only [List.nil_append] at HO6
          have HB6 : Hid (Below w0.heap.size w0 w6) := HB5.out.trans (HB56.out.mono HB5.out.size)
          have HD6 := Lib.hid (HD5.out.go HB56.out)
          have HL6 := Lib.hid (own_up HO5.out HB56.out)
          have hgr : Hid (w0.heap.size < wr.heap.size) := HD5.out.lt
          have HLlt : Hid (∀ k, (Value.slice B1 l.length d1).ownBlock = some k → k < wr.heap.size) := fun k hk => (HO5.out.lt k hk).2
          clear HB56 HO5 HD5 HX5 HB5 HN5
          refine (next_any w0.heap.size w0.heap.size A1 c1 L1 _ (l.length : Int) _ HD6.out hL1 (by omega)).mono ?_
          rintro en w7 ⟨r, m7, rfl, hr1, hr2, D7, hg7⟩
          obtain ⟨r, rfl⟩ : ∃ q : Nat, r = q := ⟨r.toNat, by omega⟩
          have hr : r < l.length := by omega
          have HO7 := Lib.hid (own_kept HO6.out hg7 hgr.out)
          have HL7 := Lib.hid (own_kept HL6.out hg7 hgl.out)
          have HB7 : Hid (Below w0.heap.size w0 w7) := HB6.out.trans (grown_to_below hg7 (Nat.le_refl _) HB6.out.size)
          clear D7 hg7 HO6 HL6 HB6 HD6 hr1 hr2
          obtain ⟨gS, rfl, hbS, hgS, -, -⟩ := own_set HO7.out r hr ⟨k, t, u, v, x, y, z⟩
          obtain ⟨y0, y1, y2, y3, y4, y5, y6⟩ := elt_cells (RX.of_own HO7.out) (List.getElem?_eq_getElem hr)
          simp only [Nat.zero_add] at y0 y1 y2 y3 y4 y5 y6
          go_wp2_with fail
          refine (odd_any _ _ _ _ _ _ _ _ _ _).mono ?_
          rintro en w8 ⟨ok, ot, ou, ov, ox, oy, oz, rfl, hb8⟩
          have HO8 := Lib.hid (own_up HO7.out hb8)
          have HL8 := Lib.hid (own_up HL7.out hb8)
          have HB8 : Hid (Below w0.heap.size w0 w8) := HB7.out.trans (hb8.mono HB7.out.size)
          have hgS8 : gS < w8.heap.size := Nat.lt_of_lt_of_le hgS hb8.size
          clear hb8 HO7 HL7 HB7 hgS y0 y1 y2 y3 y4 y5 y6
          obtain ⟨y0, y1, y2, y3, y4, y5, y6⟩ := elt_cells (RX.of_own HO8.out) (List.getElem?_eq_getElem hr)
          simp only [Nat.zero_add] at y0 y1 y2 y3 y4 y5 y6
          obtain ⟨g', hg', -, -, hfz, hre⟩ := own_set HO8.out r hr ⟨ok, ot, ou, ov, ox, oy, oz⟩
          injection hg' with hg'
          injection hg' with hg'
          subst hg'
          have z0 := hfz (r * 7); have z1 := hfz (r * 7 + 1); have z2 := hfz (r * 7 + 2); have z3 := hfz (r * 7 + 3); have z4 := hfz (r * 7 + 4); have z5 := hfz (r * 7 + 5); have z6 := hfz (r * 7 + 6)
          have HPB := Lib.hid (put7_below w8 w8 (r * 7) ⟨ok, ot, ou, ov, ox, oy, oz⟩ (Below.refl gS w8) (Nat.le_refl gS))
          have HPS := Lib.hid (put7_size w8 gS (r * 7) ⟨ok, ot, ou, ov, ox, oy, oz⟩)
          have HRE := Lib.hid hre
          have HPG := Lib.hid (put7_grown w8 gS (r * 7) ⟨ok, ot, ou, ov, ox, oy, oz⟩)
          obtain ⟨a0, a1, a2, a3, a4, a5, a6⟩ := raw_cells (HRAW0.out.go HB8.out)
          have hne : w.heap.size ≠ gS := by have := hs0.out; have := hgr.out; omega
          have hne' : gS ≠ w.heap.size := Ne.symm hne
          replace hgS8 := Lib.hid hgS8
          replace hbS := Lib.hid hbS
          clear hfz hre
          go_wp2_with fail
          rw [show (((((((w8.setCell ⟨gS, r * 7, none⟩ (.int .i64 ok)).setCell ⟨gS, r * 7 + 1, none⟩ (.int .i64 ot)).setCell ⟨gS, r * 7 + 2, none⟩ (.int .i64 ou)).setCell ⟨gS, r * 7 + 3, none⟩ (.int .i64 ov)).setCell ⟨gS, r * 7 + 4, none⟩ (.int .i64 ox)).setCell ⟨gS, r * 7 + 5, none⟩ (.int .i64 oy)).setCell ⟨gS, r * 7 + 6, none⟩ (.int .i64 oz)) = put7 w8 gS (r * 7) ⟨ok, ot, ou, ov, ox, oy, oz⟩ from rfl]
          generalize put7 w8 gS (r * 7) ⟨ok, ot, ou, ov, ox, oy, oz⟩ = wz at HPB HPS HRE HPG ⊢
          have hsz := HPS
          have HBz : Hid (Below w0.heap.size w0 wz) := HB8.out.trans (HPB.out.mono (by have := hgr.out; have := hbS.out; omega))
          have HXa : Hid (RE wz.heap.size wz B1 d1 l) := by
            have h := HL8.out.kept HPG.out (.inr fun h0 => by have := HLlt.out _ h0; have := hbS.out; omega)
            exact RX.of_own h
          have HXs : Hid (RE wz.heap.size wz (some ⟨gS, 0, none⟩) c5 (l.set r ⟨ok, ot, ou, ov, ox, oy, oz⟩)) := by
            have h := HRE.out
            rw [← hsz.out] at h
            exact h
          have HKz := Lib.hid (HK0.out.go HBz.out HK0.out.sz)
          clear HPB HPS HRE HPG HLlt HL8 HO8 HB8 y0 y1 y2 y3 y4 y5 y6 z0 z1 z2 z3 z4 z5 z6 a0 a1 a2 a3 a4 a5 a6 hne hne' hgS8 hbS hz hz'
          have HBy : Hid (Below wz.heap.size wz ((wz.alloc (.cells #[.int .i64 k, .int .i64 t, .int .i64 u, .int .i64 v, .int .i64 x, .int .i64 y, .int .i64 z] 23)).alloc (.cells #[.slice B1 l.length d1, .slice (some ⟨gS, 0, none⟩) l.length c5, .slice (some ⟨w8.heap.size, 0, none⟩) 1 1] 27))) := (below_new _ _).trans ((below_new _ _).mono (by simp))
          have HXn : Hid (RE (wz.alloc (.cells #[.int .i64 k, .int .i64 t, .int .i64 u, .int .i64 v, .int .i64 x, .int .i64 y, .int .i64 z] 23)).heap.size (wz.alloc (.cells #[.int .i64 k, .int .i64 t, .int .i64 u, .int .i64 v, .int .i64 x, .int .i64 y, .int .i64 z] 23)) (some ⟨w8.heap.size, 0, none⟩) 1 [⟨k, t, u, v, x, y, z⟩]) := by
            have := RE_newE wz ⟨k, t, u, v, x, y, z⟩
            rw [hsz.out] at this
            exact this
          have HXm := Lib.hid (RX.up HXn.out (below_new (wz.alloc (.cells #[.int .i64 k, .int .i64 t, .int .i64 u, .int .i64 v, .int .i64 x, .int .i64 y, .int .i64 z] 23)) (.cells #[.slice B1 l.length d1, .slice (some ⟨gS, 0, none⟩) l.length c5, .slice (some ⟨w8.heap.size, 0, none⟩) 1 1] 27)))
          have hT := heap_alloc_new (wz.alloc (.cells #[.int .i64 k, .int .i64 t, .int .i64 u, .int .i64 v, .int .i64 x, .int .i64 y, .int .i64 z] 23)) (.cells #[.slice B1 l.length d1, .slice (some ⟨gS, 0, none⟩) l.length c5, .slice (some ⟨w8.heap.size, 0, none⟩) 1 1] 27)
          rw [show (wz.alloc (.cells #[.int .i64 k, .int .i64 t, .int .i64 u, .int .i64 v, .int .i64 x, .int .i64 y, .int .i64 z] 23)).heap.size = wz.heap.size + 1 by simp, hsz.out] at hT
          have hG : w8.heap.size + 1 < ((wz.alloc (.cells #[.int .i64 k, .int .i64 t, .int .i64 u, .int .i64 v, .int .i64 x, .int .i64 y, .int .i64 z] 23)).alloc (.cells #[.slice B1 l.length d1, .slice (some ⟨gS, 0, none⟩) l.length c5, .slice (some ⟨w8.heap.size, 0, none⟩) 1 1] 27)).heap.size := by have := hsz.out; simp <;> omega
          have HXa2 := Lib.hid (RX.up HXa.out HBy.out)
          have HXs2 := Lib.hid (RX.up HXs.out HBy.out)
          have HKy := Lib.hid (HKz.out.up HBy.out)
          clear HXa HXs HKz HXn
          generalize hY : (wz.alloc (.cells #[.int .i64 k, .int .i64 t, .int .i64 u, .int .i64 v, .int .i64 x, .int .i64 y, .int .i64 z] 23)).alloc (.cells #[.slice B1 l.length d1, .slice (some ⟨gS, 0, none⟩) l.length c5, .slice (some ⟨w8.heap.size, 0, none⟩) 1 1] 27) = wy at HBy HXm hT hG HXa2 HXs2 HKy ⊢
          clear hY
          have hTc := Go.Joins.cell_of_block hT
          have HALL : Hid (∀ q : Nat, q < 3 → ∃ (A : Option Addr) (c : Nat) (L : List Ev), wy.cell? ⟨w8.heap.size + 1, q, none⟩ = some (.slice A L.length c) ∧ RE wy.heap.size wy A c L ∧ L.length ≤ 1000) := by
            show ∀ q : Nat, _
            intro q hq
            obtain h | h | h : q = 0 ∨ q = 1 ∨ q = 2 := by omega
            · subst h; exact ⟨_, _, l, hTc 0, HXa2.out, by omega⟩
            · subst h; exact ⟨_, _, (l.set r ⟨ok, ot, ou, ov, ox, oy, oz⟩), by rw [List.length_set]; exact hTc 1, HXs2.out, by rw [List.length_set]; omega⟩
            · subst h; exact ⟨_, _, [⟨k, t, u, v, x, y, z⟩], hTc 2, HXm.out, by simp⟩
          have HBy2 : Hid (Below w0.heap.size w0 wy) := HBz.out.trans (HBy.out.mono HBz.out.size)
          replace hG := Lib.hid hG
          clear hT hTc HXa2 HXs2 HXm HBy HBz
          go_wp2
          go_loopw [95] (fun i wr => ∃ (q : Nat), q ≤ 3 ∧ i = .int .i64 q ∧ Hid (Below wy.heap.size wy wr)) (fun i _ => 3 - (RowKit.intOf i).toNat)
          case atStart => exact ⟨0, Nat.zero_le _, rfl, Below.refl _ _⟩
          case round =>
            obtain ⟨q, hq, rfl, HB⟩ := hrel
            by_cases hlt : q < 3
            · obtain ⟨A, c, L, hc, hr, hLn⟩ := HALL.out q hlt
              have hc := (HB.out.cell (p := ⟨w8.heap.size + 1, q, none⟩) hG.out).trans hc
              have HX := Lib.hid ((hr.go HB.out).more HB.out.size)
              have HK := Lib.hid (HKy.out.up HB.out)
              have hlt' : (q : Int) < 3 := by omega
              clear hr
              go_wp2_with fail
              refine (encode_any A c L _ HX.out (by omega)).mono ?_
              rintro en w11 ⟨X1, x1, rfl, hr1, hb1⟩
              have HY1 := Lib.hid hr1
              replace HX := Lib.hid (RX.up HX.out hb1)
              replace HK := Lib.hid (HK.out.up hb1)
              have HB11 : Hid (Below wy.heap.size wy w11) := HB.out.trans (hb1.mono HB.out.size)
              clear hc hr1 hb1 HB
              go_wp2_with fail
              refine (rencode_any A c L _ HX.out (by omega)).mono ?_
              rintro en w12 ⟨X2, x2, rfl, hr2, hb2⟩
              have HY2 := Lib.hid hr2
              replace HY1 := Lib.hid (RX.up HY1.out hb2)
              replace HX := Lib.hid (RX.up HX.out hb2)
              replace HK := Lib.hid (HK.out.up hb2)
              have HB12 : Hid (Below wy.heap.size wy w12) := HB11.out.trans (hb2.mono HB11.out.size)
              clear hr2 hb2 HB11
              go_wp2_with fail
              refine (print_any A c L _ HX.out HK.out (by omega)).mono ?_
              rintro en w13 ⟨rfl, hb3⟩
              replace HY1 := Lib.hid (RX.up HY1.out hb3)
              replace HY2 := Lib.hid (RX.up HY2.out hb3)
              replace HX := Lib.hid (RX.up HX.out hb3)
              replace HK := Lib.hid (HK.out.up hb3)
              have HB13 : Hid (Below wy.heap.size wy w13) := HB12.out.trans (hb3.mono HB12.out.size)
              clear hb3 HB12
              go_wp2_with fail
              refine (rprint_any A c L _ HX.out HK.out (by omega)).mono ?_
              rintro en w14 ⟨rfl, hb4⟩
              have q1 := conv_any (HY1.out.go hb4)
              have q2 := conv_any (HY2.out.go hb4)
              have HB14 : Hid (Below wy.heap.size wy w14) := HB13.out.trans (hb4.mono HB13.out.size)
              clear hb4 HB13 HY1 HY2 HX HK
              generalize mk (encT L) = T1 at *
              generalize mk (txtT L) = T2 at *
              generalize chkT L = R3 at *
              go_wp2
              go_roundw
              case rel => exact ⟨q + 1, hlt, by go_num, HB14.out⟩
              case measure => simp [RowKit.intOf]; try omega
            · obtain rfl : q = 3 := by omega
              go_wp2_with fail
              refine (awake_any _ (HKy.out.up HB.out)).mono ?_
              rintro en w15 ⟨rfl, hb5⟩
              have HB15 : Hid (Below wy.heap.size wy w15) := HB.out.trans (hb5.mono HB.out.size)
              clear hb5 HB
              go_wp2
              go_ret
              exact ⟨rfl, HB0.out.trans ((HBy2.out.trans (HB15.out.mono HBy2.out.size)).mono HB0.out.size)⟩
        · have hz' : ¬ (0 : Int) < (l.length : Int) := by omega
          go_wp2_with (at_builtin; (refine wpList_applE _ rfl (.const (.slice none 0 0)) (.tmp 70) wr.heap.size none 0 rfl [] (by simp [Act.eval]) HN5.out B1 d1 l.length l rfl (by simp [Act.eval]) HX5.out (by simp; omega) (Nat.le_refl _) ?_; intro A5 c5 w6 HO6 HB56 _; obtain ⟨a0, a1, a2, a3, a4, a5, a6⟩ := raw_cells (HRAW0.out.go (HB5.out.trans (HB56.out.mono HB5.out.size)))))
          simp only [List.nil_append] at HO6
          have HBz : Hid (Below w0.heap.size w0 w6) := HB5.out.trans (HB56.out.mono HB5.out.size)
          have HXa := Lib.hid (RX.up HX5.out HB56.out)
          have HXs := Lib.hid (RX.of_own HO6.out)
          have HKz := Lib.hid (HK0.out.go HBz.out HK0.out.sz)
          have hsz : Hid (w6.heap.size = w6.heap.size) := rfl
          clear HB56 HO6 HO5 HD5 HX5 HB5 HN5 a0 a1 a2 a3 a4 a5 a6 hz hz'
          have HBy : Hid (Below w6.heap.size w6 ((w6.alloc (.cells #[.int .i64 k, .int .i64 t, .int .i64 u, .int .i64 v, .int .i64 x, .int .i64 y, .int .i64 z] 23)).alloc (.cells #[.slice B1 l.length d1, .slice A5 l.length c5, .slice (some ⟨w6.heap.size, 0, none⟩) 1 1] 27))) := (below_new _ _).trans ((below_new _ _).mono (by simp))
          have HXn : Hid (RE (w6.alloc (.cells #[.int .i64 k, .int .i64 t, .int .i64 u, .int .i64 v, .int .i64 x, .int .i64 y, .int .i64 z] 23)).heap.size (w6.alloc (.cells #[.int .i64 k, .int .i64 t, .int .i64 u, .int .i64 v, .int .i64 x, .int .i64 y, .int .i64 z] 23)) (some ⟨w6.heap.size, 0, none⟩) 1 [⟨k, t, u, v, x, y, z⟩]) := by
            have := RE_newE w6 ⟨k, t, u, v, x, y, z⟩
            rw [hsz.out] at this
            exact this
          have HXm := Lib.hid (RX.up HXn.out (below_new (w6.alloc (.cells #[.int .i64 k, .int .i64 t, .int .i64 u, .int .i64 v, .int .i64 x, .int .i64 y, .int .i64 z] 23)) (.cells #[.slice B1 l.length d1, .slice A5 l.length c5, .slice (some ⟨w6.heap.size, 0, none⟩) 1 1] 27)))
          have hT := heap_alloc_new (w6.alloc (.cells #[.int .i64 k, .int .i64 t, .int .i64 u, .int .i64 v, .int .i64 x, .int .i64 y, .int .i64 z] 23)) (.cells #[.slice B1 l.length d1, .slice A5 l.length c5, .slice (some ⟨w6.heap.size, 0, none⟩) 1 1] 27)
          rw [show (w6.alloc (.cells #[.int .i64 k, .int .i64 t, .int .i64 u, .int .i64 v, .int .i64 x, .int .i64 y, .int .i64 z] 23)).heap.size = w6.heap.size + 1 by simp, hsz.out] at hT
          have hG : w6.heap.size + 1 < ((w6.alloc (.cells #[.int .i64 k, .int .i64 t, .int .i64 u, .int .i64 v, .int .i64 x, .int .i64 y, .int .i64 z] 23)).alloc (.cells #[.slice B1 l.length d1, .slice A5 l.length c5, .slice (some ⟨w6.heap.size, 0, none⟩) 1 1] 27)).heap.size := by have := hsz.out; simp <;> omega
          have HXa2 := Lib.hid (RX.up HXa.out HBy.out)
          have HXs2 := Lib.hid (RX.up HXs.out HBy.out)
          have HKy := Lib.hid (HKz.out.up HBy.out)
          clear HXa HXs HKz HXn
          generalize hY : (w6.alloc (.cells #[.int .i64 k, .int .i64 t, .int .i64 u, .int .i64 v, .int .i64 x, .int .i64 y, .int .i64 z] 23)).alloc (.cells #[.slice B1 l.length d1, .slice A5 l.length c5, .slice (some ⟨w6.heap.size, 0, none⟩) 1 1] 27) = wy at HBy HXm hT hG HXa2 HXs2 HKy ⊢
          clear hY
          have hTc := Go.Joins.cell_of_block hT
          have HALL : Hid (∀ q : Nat, q < 3 → ∃ (A : Option Addr) (c : Nat) (L : List Ev), wy.cell? ⟨w6.heap.size + 1, q, none⟩ = some (.slice A L.length c) ∧ RE wy.heap.size wy A c L ∧ L.length ≤ 1000) := by
            show ∀ q : Nat, _
            intro q hq
            obtain h | h | h : q = 0 ∨ q = 1 ∨ q = 2 := by omega
            · subst h; exact ⟨_, _, l, hTc 0, HXa2.out, by omega⟩
            · subst h; exact ⟨_, _, l, by exact hTc 1, HXs2.out, by omega⟩
            · subst h; exact ⟨_, _, [⟨k, t, u, v, x, y, z⟩], hTc 2, HXm.out, by simp⟩
          have HBy2 : Hid (Below w0.heap.size w0 wy) := HBz.out.trans (HBy.out.mono HBz.out.size)
          replace hG := Lib.hid hG
          clear hT hTc HXa2 HXs2 HXm HBy HBz
          go_wp2
          go_loopw [95] (fun i wr => ∃ (q : Nat), q ≤ 3 ∧ i = .int .i64 q ∧ Hid (Below wy.heap.size wy wr)) (fun i _ => 3 - (RowKit.intOf i).toNat)
          case atStart => exact ⟨0, Nat.zero_le _, rfl, Below.refl _ _⟩
          case round =>
            obtain ⟨q, hq, rfl, HB⟩ := hrel
            by_cases hlt : q < 3
            · obtain ⟨A, c, L, hc, hr, hLn⟩ := HALL.out q hlt
              have hc := (HB.out.cell (p := ⟨w6.heap.size + 1, q, none⟩) hG.out).trans hc
              have HX := Lib.hid ((hr.go HB.out).more HB.out.size)
              have HK := Lib.hid (HKy.out.up HB.out)
              have hlt' : (q : Int) < 3 := by omega
              clear hr
              go_wp2_with fail
              refine (encode_any A c L _ HX.out (by omega)).mono ?_
              rintro en w11 ⟨X1, x1, rfl, hr1, hb1⟩
              have HY1 := Lib.hid hr1
              replace HX := Lib.hid (RX.up HX.out hb1)
              replace HK := Lib.hid (HK.out.up hb1)
              have HB11 : Hid (Below wy.heap.size wy w11) := HB.out.trans (hb1.mono HB.out.size)
              clear hc hr1 hb1 HB
              go_wp2_with fail
              refine (rencode_any A c L _ HX.out (by omega)).mono ?_
              rintro en w12 ⟨X2, x2, rfl, hr2, hb2⟩
              have HY2 := Lib.hid hr2
              replace HY1 := Lib.hid (RX.up HY1.out hb2)
              replace HX := Lib.hid (RX.up HX.out hb2)
              replace HK := Lib.hid (HK.out.up hb2)
              have HB12 : Hid (Below wy.heap.size wy w12) := HB11.out.trans (hb2.mono HB11.out.size)
              clear hr2 hb2 HB11
              go_wp2_with fail
              refine (print_any A c L _ HX.out HK.out (by omega)).mono ?_
              rintro en w13 ⟨rfl, hb3⟩
              replace HY1 := Lib.hid (RX.up HY1.out hb3)
              replace HY2 := Lib.hid (RX.up HY2.out hb3)
              replace HX := Lib.hid (RX.up HX.out hb3)
              replace HK := Lib.hid (HK.out.up hb3)
              have HB13 : Hid (Below wy.heap.size wy w13) := HB12.out.trans (hb3.mono HB12.out.size)
              clear hb3 HB12
              go_wp2_with fail
              refine (rprint_any A c L _ HX.out HK.out (by omega)).mono ?_
              rintro en w14 ⟨rfl, hb4⟩
              have q1 := conv_any (HY1.out.go hb4)
              have q2 := conv_any (HY2.out.go hb4)
              have HB14 : Hid (Below wy.heap.size wy w14) := HB13.out.trans (hb4.mono HB13.out.size)
              clear hb4 HB13 HY1 HY2 HX HK
              generalize mk (encT L) = T1 at *
              generalize mk (txtT L) = T2 at *
              generalize chkT L = R3 at *
              go_wp2
              go_roundw
              case rel => exact ⟨q + 1, hlt, by go_num, HB14.out⟩
              case measure => simp [RowKit.intOf]; try omega
            · obtain rfl : q = 3 := by omega
              go_wp2_with fail
              refine (awake_any _ (HKy.out.up HB.out)).mono ?_
              rintro en w15 ⟨rfl, hb5⟩
              have HB15 : Hid (Below wy.heap.size wy w15) := HB.out.trans (hb5.mono HB.out.size)
              clear hb5 HB
              go_wp2
              go_ret
              exact ⟨rfl, HB0.out.trans ((HBy2.out.trans (HB15.out.mono HBy2.out.size)).mono HB0.out.size)⟩
end Go.Proofs.YtnohmgmpabckkaaDoor
