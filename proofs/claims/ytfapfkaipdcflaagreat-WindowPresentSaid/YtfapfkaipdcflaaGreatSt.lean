/-
  checkTime, Expired, Present, Check of package window.
-/
import Derived.Test.YtfapfkaipdcflaaGreatSq
import Derived.Test.YtfapfkaipdcflaaGreatKnp
import Derived.Test.YtfapfkaipdcflaaGreatLm
namespace Go.Proofs.YtfapfkaipdcflaaGreat
open Go.RowKit Go.Lib

/-- the box of a state, behind a callee that only makes memory -/
theorem box2S {w w1 : World} {a0 a1 : Value} {T : TypeId} (hb : Below (w.alloc (.cells #[a0, a1] T)).heap.size (w.alloc (.cells #[a0, a1] T)) w1) : w1.cell? ⟨w.heap.size, 0, none⟩ = some a0 ∧ w1.cell? ⟨w.heap.size, 1, none⟩ = some a1 := by
  have h := (hb.block w.heap.size (by simp)).trans (heap_alloc_new _ _)
  exact ⟨Go.Joins.cell_of_block h 0, Go.Joins.cell_of_block h 1⟩
set_option maxHeartbeats 2000000 in
theorem checkTime_any (n : Int) (A : Option Addr) (c : Nat) (l : List Ls.Lk) (t : Int) (w : World) (h : RL w.heap.size w A c l) (hl : l.length ≤ 65536) :
    Calls Tryz.prog 36 #[.agg #[.int .i64 n, .slice A l.length c], .int .i64 t] w fun e w' => e = .returned (.int .i64 (Ls.chkT t l)) ∧ Below w.heap.size w w' := by
  have HB0 := Lib.hid (below_new w (.cells #[.int .i64 n, .slice A l.length c] 24))
  have H := Lib.hid (h.up HB0.out)
  clear h
  obtain ⟨R, HR⟩ : ∃ R, Hid (Ls.chkT t l = R) := ⟨_, rfl⟩
  rw [HR.out]
  by_cases ht : t < 0 ∨ 1048576 < t
  · have hR : Hid ((9 : Int) = R) := by show _ = _; rw [← HR.out]; unfold Ls.chkT; rw [if_pos ht]
    clear HR
    rcases ht with ht | ht
    · have d1 : decide (t < 0) = true := by simpa using ht
      go_enter Tryz.func36, Tryz.ntmps36
      go_wp2
      go_ret
      exact ⟨ret_int hR.out, HB0.out⟩
    · have d1 : decide (t < 0) = false := by rw [decide_eq_false_iff_not]; omega
      have d2 : decide (t > 1048576) = true := by rw [decide_eq_true_eq]; omega
      go_enter Tryz.func36, Tryz.ntmps36
      go_wp2
      go_ret
      exact ⟨ret_int hR.out, HB0.out⟩
  · have d1 : decide (t < 0) = false := by rw [decide_eq_false_iff_not]; omega
    have d2 : decide (t > 1048576) = false := by rw [decide_eq_false_iff_not]; omega
    have HQ : Hid ((if l.any (fun x => decide (t < x.time)) = true then 9 else 0) = R) := by show _ = _; rw [← HR.out]; unfold Ls.chkT; rw [if_neg ht]
    clear HR ht
    go_enter Tryz.func36, Tryz.ntmps36
    go_wp2
    obtain ⟨W1, HW1⟩ : ∃ W1, Hid (W1 = w.alloc (.cells #[.int .i64 n, .slice A l.length c] 24)) := ⟨_, rfl⟩
    rw [← HW1.out] at H HB0 ⊢
    clear HW1
    go_loopw [16] (fun i wr => ∃ k : Nat, k ≤ l.length ∧ i = .int .i64 k ∧ Hid (∀ x ∈ l.take k, decide (t < x.time) = false) ∧ Hid (Below W1.heap.size W1 wr)) (fun i _ => l.length - (RowKit.intOf i).toNat)
    case atStart => exact ⟨0, Nat.zero_le _, rfl, by show ∀ x ∈ l.take 0, _; simp, Below.refl _ _⟩
    case round =>
      obtain ⟨k, hk, rfl, HF, HB⟩ := hrel
      by_cases hlt : k < l.length
      · obtain ⟨bb, off, ⟨u1, v1, x1, y1, z1, t1⟩, rfl, hb, hx, c0, c1, c2, c3, c4, c5⟩ := RL.at_ (k := k) (H.out.up HB.out) hlt
        dsimp only at c0 c1 c2 c3 c4 c5
        have HX := Lib.hid hx
        clear hx
        have HB2 : Hid (Below W1.heap.size W1 (wr.alloc (.cells #[.int .i64 u1, .int .i64 v1, .int .i64 x1, .int .i64 y1, .int .i64 z1, .int .i64 t1] 62))) := HB.out.alloc HB.out.size _
        by_cases h1 : t < t1
        · have d3 : decide (t < t1) = true := by simpa using h1
          have hR : Hid ((9 : Int) = R) := by
            show _ = _
            rw [← HQ.out, if_pos]
            rw [List.any_eq_true]
            exact ⟨_, List.mem_of_getElem? HX.out, by simpa using h1⟩
          clear h1
          go_wp2
          go_ret
          exact ⟨ret_int hR.out, HB0.out.trans (HB2.out.mono HB0.out.size)⟩
        · have d3 : decide (t < t1) = false := by simpa using h1
          have HF2 : Hid (∀ x ∈ l.take (k + 1), decide (t < x.time) = false) := by
            show ∀ x ∈ l.take (k + 1), _
            rw [take_at l k _ HX.out]
            intro x hx
            rcases List.mem_append.1 hx with hx | hx
            · exact HF.out x hx
            · simp at hx; subst hx; simpa using h1
          clear h1
          go_wp2
          go_roundw
          case rel => exact ⟨k + 1, by omega, by go_num, HF2.out, HB2.out⟩
          case measure => simp [RowKit.intOf]; omega
      · have hR : Hid ((0 : Int) = R) := by
          show _ = _
          rw [← HQ.out, if_neg]
          rw [Bool.not_eq_true, List.any_eq_false]
          intro x hx
          have := HF.out x (by rwa [List.take_of_length_le (by omega)])
          rw [this]; decide
        go_wp2
        go_ret
        exact ⟨ret_int hR.out, HB0.out.trans (HB.out.mono HB0.out.size)⟩
/-- the error of the arguments of Expired and Present -/
def wrongS (k W M n t : Int) (l : List Ls.Lk) : Int := orL [chkW k W M, Ls.chkS n l, Ls.chkT t l]
theorem orL3 {a b c : Int} (h : orL [a, b, c] = 0) : a = 0 ∧ b = 0 ∧ c = 0 := by
  have h : (if a = 0 then (if b = 0 then (if c = 0 then 0 else c) else b) else a) = 0 := h
  split at h
  · split at h
    · split at h
      · exact ⟨by assumption, by assumption, by assumption⟩
      · contradiction
    · contradiction
  · contradiction
theorem chkT_ok {t : Int} {l : List Ls.Lk} (h : Ls.chkT t l = 0) : 0 ≤ t ∧ t ≤ 1048576 ∧ ∀ x ∈ l, x.time ≤ t := by
  unfold Ls.chkT at h
  split at h
  · exact absurd h (by decide)
  · split at h
    · exact absurd h (by decide)
    · next h1 h2 =>
      refine ⟨by omega, by omega, fun x hx => ?_⟩
      rw [Bool.not_eq_true, List.any_eq_false] at h2
      have := h2 x hx
      simp at this; omega
/-- what Expired answers -/
def ExpdP (E : Int) (R : List Ev) (w : World) (en : Ending) (w' : World) : Prop :=
  ∃ A' c', en = .returned (.tuple #[.slice A' R.length c', .int .i64 E]) ∧ w'.ownsRow w.heap.size 57 7 (.slice A' R.length c') R.length (cl Ev.cells R) ∧ Below w.heap.size w w'
set_option maxHeartbeats 8000000 in
set_option maxRecDepth 100000 in
theorem expiredW_any (n : Int) (A : Option Addr) (c : Nat) (l : List Ls.Lk) (k W M : Int) (hk : (Lit.int .i64 k).wf = true) (t : Int) (w : World) (h : RL w.heap.size w A c l) (hl : l.length ≤ 65536) :
    Calls Tryz.prog 15 #[.agg #[.int .i64 n, .slice A l.length c], .agg #[.int .i64 k, .int .i64 W, .int .i64 M], .int .i64 t] w
      (ExpdP (wrongS k W M n t l) (if wrongS k W M n t l = 0 then Ls.expS (extW k W) (extM k M) t l else []) w) := by
  obtain ⟨W1, HW1⟩ : ∃ W1, Hid (W1 = (w.alloc (.cells #[.int .i64 n, .slice A l.length c] 24)).alloc (.cells #[.int .i64 k, .int .i64 W, .int .i64 M] 26)) := ⟨_, rfl⟩
  have HWB : Hid (Below w.heap.size w W1) := by show Below _ _ _; rw [HW1.out]; exact (below_new _ _).alloc (by simp) _
  have HS1 : Hid (W1.heap[w.heap.size]? = some (.cells #[.int .i64 n, .slice A l.length c] 24 (0, 0))) := by show _ = _; rw [HW1.out, Below.heap_alloc _ _ _ (by simp)]; exact heap_alloc_new _ _
  have H1 := Lib.hid (h.up HWB.out)
  have C1 := Lib.hid (extentOf_any k W M hk W1)
  have HSV : Hid (Ls.chkS n l = 0 → Ls.V n l) := (Ls.chkS_zero n l).1
  have HTV : Hid (Ls.chkT t l = 0 → 0 ≤ t ∧ t ≤ 1048576 ∧ ∀ x ∈ l, x.time ≤ t) := chkT_ok
  have HEB : Hid (chkW k W M = 0 → 1 ≤ extW k W ∧ extW k W ≤ 1048577 ∧ 0 ≤ extM k M ∧ extM k M ≤ 2016) := ext_bounds
  have CC := Lib.hid (fun ws h => K.lcheck_any n A c l ws h hl)
  have CT := Lib.hid (fun ws h => checkTime_any n A c l t ws h hl)
  have HRP : Hid (orL [chkW k W M, Ls.chkS n l, Ls.chkT t l] = 0 → chkW k W M = 0 ∧ Ls.chkS n l = 0 ∧ Ls.chkT t l = 0) := orL3
  unfold wrongS
  obtain ⟨E1, HE1⟩ : ∃ E1, Hid (chkW k W M = E1) := ⟨_, rfl⟩
  obtain ⟨E2, HE2⟩ : ∃ E2, Hid (Ls.chkS n l = E2) := ⟨_, rfl⟩
  obtain ⟨E3, HE3⟩ : ∃ E3, Hid (Ls.chkT t l = E3) := ⟨_, rfl⟩
  obtain ⟨XW, HXW⟩ : ∃ X, Hid (extW k W = X) := ⟨_, rfl⟩
  obtain ⟨XM, HXM⟩ : ∃ X, Hid (extM k M = X) := ⟨_, rfl⟩
  simp only [HE1.out, HE2.out, HE3.out, HXW.out, HXM.out] at C1 CC CT HSV HTV HEB HRP ⊢
  obtain ⟨E, HE⟩ : ∃ E, Hid (orL [E1, E2, E3] = E) := ⟨_, rfl⟩
  rw [HE.out] at HRP ⊢
  obtain ⟨R, HR⟩ : ∃ R, Hid ((if E = 0 then Ls.expS XW XM t l else []) = R) := ⟨_, rfl⟩
  rw [HR.out]
  have HL := Lib.hid hl
  obtain ⟨N, HN⟩ : ∃ N, Hid (l.length = N) := ⟨_, rfl⟩
  simp only [HN.out] at CC CT HS1 HW1 ⊢
  clear h HE1 HE2 HE3 HXW HXM hl
  rw [HW1.out] at C1
  go_enter Tryz.func15, Tryz.ntmps15
  go_wp2_with fail
  refine C1.out.mono ?_
  rw [← HW1.out]
  rintro e w1 ⟨⟨a, b, hab, rfl⟩, hb⟩
  have HAB := Lib.hid hab
  have HB1 := Lib.hid (HWB.out.trans (hb.mono HWB.out.size))
  have HS2 := Lib.hid ((hb.block _ (lt_of_some HS1.out)).trans HS1.out)
  have H2 := Lib.hid (H1.out.up hb)
  clear hb hab C1 HW1 HS1 H1
  go_wp2
  obtain ⟨W3, HW3⟩ : ∃ W3, Hid (W3 = w1.alloc (.cells #[.int .i64 a, .int .i64 b] 74)) := ⟨_, rfl⟩
  rw [← HW3.out]
  have HBa : Hid (Below w1.heap.size w1 W3) := by show Below _ _ _; rw [HW3.out]; exact below_new _ _
  have HX3 : Hid (W3.heap[w1.heap.size]? = some (.cells #[.int .i64 a, .int .i64 b] 74 (0, 0))) := by show _ = _; rw [HW3.out]; exact heap_alloc_new _ _
  have HS3 : Hid (W3.heap[w.heap.size]? = some (.cells #[.int .i64 n, .slice A N c] 24 (0, 0))) := (HBa.out.block _ (lt_of_some HS2.out)).trans HS2.out
  have H3 := Lib.hid (H2.out.up HBa.out)
  have HB3 := Lib.hid (HB1.out.trans (HBa.out.mono HB1.out.size))
  have CC3 : Hid (∀ ws, Below W3.heap.size W3 ws → Calls Tryz.prog 35 #[.agg #[.int .i64 n, .slice A N c]] ws fun e w' => e = .returned (.int .i64 E2) ∧ Below ws.heap.size ws w') := fun ws hb => CC.out ws (H3.out.up hb)
  have CT3 : Hid (∀ ws, Below W3.heap.size W3 ws → Calls Tryz.prog 36 #[.agg #[.int .i64 n, .slice A N c], .int .i64 t] ws fun e w' => e = .returned (.int .i64 E3) ∧ Below ws.heap.size ws w') := fun ws hb => CT.out ws (H3.out.up hb)
  have hsc := Go.Joins.cell_of_block HS3.out
  have s0 := hsc 0; have s1 := hsc 1
  simp only [List.getElem?_toArray, List.getElem?_cons_succ, List.getElem?_cons_zero] at s0 s1
  have hls := lt_of_some HS3.out
  clear hsc HW3 HBa HS2 H2 CC CT
  refine wp_region_over_tail 6 (by kernel_rfl) (by kernel_rfl) ?_
  simp only [List.take_succ_cons, List.take_zero, List.drop_succ_cons, List.drop_zero]
  repeat (go_big_quiet_step (first | (go_at_call 35; exact calls_over (CC3.out _ (over_below _ _))) | (go_at_call 36; exact calls_over (CT3.out _ (over_below _ _)))))
  refine wpQuiet_nil ?_
  rintro _ ⟨xx, rfl⟩
  have hbx := Lib.hid (over_below W3 xx)
  generalize over W3 xx = W4 at hbx ⊢
  have HX4 := Lib.hid ((hbx.out.block _ (lt_of_some HX3.out)).trans HX3.out)
  have HS4 := Lib.hid ((hbx.out.block _ (lt_of_some HS3.out)).trans HS3.out)
  have H4 := Lib.hid (H3.out.up hbx.out)
  have HB4 := Lib.hid (HB3.out.trans (hbx.out.mono HB3.out.size))
  clear CC3 CT3 s0 s1 hls HX3 HS3 H3 HB3
  have C3 : Hid (Calls Tryz.prog 34 #[.slice (some ⟨W4.heap.size, 0, none⟩) 3 3] (W4.alloc (.cells #[.int .i64 E1, .int .i64 E2, .int .i64 E3] 37)) fun e w' => e = .returned (.int .i64 E) ∧ W4.alloc (.cells #[.int .i64 E1, .int .i64 E2, .int .i64 E3] 37) = w') := by
    have := orE_any _ 3 [E1, E2, E3] _ (RD_newL W4 [E1, E2, E3] 37) (by simp)
    rw [HE.out] at this
    exact this
  go_wp2_with fail
  refine C3.out.mono ?_
  rintro e w5 ⟨rfl, hw5⟩
  have HB5 : Hid (Below w.heap.size w w5) := by show Below _ _ _; rw [← hw5]; exact HB4.out.alloc HB4.out.size _
  have HX5 : Hid (w5.heap[w1.heap.size]? = some (.cells #[.int .i64 a, .int .i64 b] 74 (0, 0))) := by show _ = _; rw [← hw5, Below.heap_alloc _ _ _ (lt_of_some HX4.out)]; exact HX4.out
  have HS5 : Hid (w5.heap[w.heap.size]? = some (.cells #[.int .i64 n, .slice A N c] 24 (0, 0))) := by show _ = _; rw [← hw5, Below.heap_alloc _ _ _ (lt_of_some HS4.out)]; exact HS4.out
  have H5 : Hid (RL w5.heap.size w5 A c l) := by show RL _ _ _ _ _; rw [← hw5]; exact H4.out.up (below_new _ _)
  clear hw5 C3 HX4 HS4 H4 hbx HB4
  by_cases hE : E = 0
  · subst hE
    obtain ⟨h1, h2, h3⟩ := HRP.out rfl
    subst h1
    subst h2
    subst h3
    obtain ⟨rfl, rfl⟩ := HAB.out rfl
    have HRT : Hid (Ls.expS a b t l = R) := HR.out
    have HV := Lib.hid (HSV.out rfl)
    have HT := Lib.hid (HTV.out rfl)
    have HBX := Lib.hid (HEB.out rfl)
    have HXB : Hid ((0 ≤ a ∧ a ≤ 1048577) ∧ (0 ≤ b ∧ b ≤ 2016)) := by show _ ∧ _; have := HBX.out; exact ⟨⟨by omega, by omega⟩, ⟨by omega, by omega⟩⟩
    have h8 := Go.Joins.cell_of_block HX5.out
    have y0 := h8 0; have y1 := h8 1
    have hsc := Go.Joins.cell_of_block HS5.out
    have s1 := hsc 1
    simp only [List.getElem?_toArray, List.getElem?_cons_succ, List.getElem?_cons_zero] at y0 y1 s1
    have hl8 := lt_of_some HX5.out
    have hls := lt_of_some HS5.out
    have C4 := Lib.hid (presentIn_any a b A c l HL.out w5 H5.out)
    rw [HN.out] at C4
    clear h8 hsc HR HRP HE HAB HSV HTV HEB
    go_wp2_with fail
    refine C4.out.mono ?_
    rintro e w6 ⟨A4, c4, ts, rfl, ⟨hlen, hp, hs, ho⟩, hb⟩
    have HB6 := Lib.hid (HB5.out.trans (hb.mono HB5.out.size))
    have HAG := Lib.hid (srtA_aged l ts (Ls.asc_dist HV.out.2.2.1) hp hs)
    have HRL := Lib.hid (Ls.rl_perm HAG.out HV.out.2.2.1 hp)
    have HLT : Hid (ts.length ≤ 65536) := by show _ ≤ _; rw [hlen]; exact HL.out
    have HP7 : Hid (PB w.heap.size w6.heap.size A4 c4 a b ts (w6.alloc (.cells #[.int .i64 a, .int .i64 b, .slice A4 ts.length c4] 81))) :=
      ⟨heap_alloc_new _ _, (OW.of_own (ownsRow_base ho HB5.out.size)).go (below_new _ _), HB6.out.size⟩
    have CE := Lib.hid (expire_any w.heap.size w6.heap.size A4 c4 a b ts t (by have := HT.out; omega) HXB.out.1 HXB.out.2 HAG.out HRL.out.dist HLT.out _ HP7.out)
    have HQ : Hid (Ls.cutsX a b t ts = R) := (Ls.cuts_eq_exp a b t HXB.out.2.1 l ts HV.out.2.2.1 HRL.out).trans HRT.out
    rw [HQ.out.symm] 
    clear hlen hp hs ho hb C4 y0 y1 s1 hl8 hls
    obtain ⟨m, HM⟩ : ∃ m, Hid (ts.length = m) := ⟨_, rfl⟩
    rw [HM.out] at CE ⊢
    go_wp2_with fail
    refine CE.out.mono ?_
    rintro e w8 ⟨A5, A7, c5, c7, rfl, hpb, hown, hgr, hfr⟩
    have HO8 := Lib.hid hown
    have HBL : Hid (Below w.heap.size w w8) := (HB6.out.alloc HB6.out.size _).grown hgr (Nat.le_trans HB6.out.size (by simp)) (fun k e => by injection e with e; subst e; exact HB6.out.size)
    have HB9 : Hid (w.heap.size ≤ (w6.alloc (.cells #[.int .i64 a, .int .i64 b, .slice A4 m c4] 81)).heap.size) := by show _ ≤ _; have := HB6.out.size; simp; omega
    rw [HQ.out] at HO8 ⊢
    clear hpb hown hgr hfr CE
    go_wp2
    go_ret2
    exact ⟨A7, c7, rfl, ownsRow_base HO8.out HB9.out, HBL.out⟩
  · have dE : (E != 0) = true := by simpa using hE
    have HR2 := Lib.hid (HR.out.symm.trans (if_neg hE))
    have hR0 := HR2.out
    subst hR0
    clear hE
    go_wp2
    go_ret2
    exact ⟨none, 0, rfl, World.ownsRow_nil _ _ _ _, HB5.out⟩
end Go.Proofs.YtfapfkaipdcflaaGreat
