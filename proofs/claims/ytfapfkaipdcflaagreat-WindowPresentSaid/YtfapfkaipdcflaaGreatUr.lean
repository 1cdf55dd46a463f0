/-
  Until.
-/
import Derived.Test.YtfapfkaipdcflaaGreatUgi
import Derived.Test.YtfapfkaipdcflaaGreatSu
namespace Go.Proofs.YtfapfkaipdcflaaGreat
open Go.RowKit Go.Lib

theorem orL2z {a b : Int} (h : orL [a, b] = 0) : a = 0 ∧ b = 0 := by
  have h : (if a = 0 then (if b = 0 then 0 else b) else a) = 0 := h
  split at h
  · split at h
    · exact ⟨by assumption, by assumption⟩
    · contradiction
  · contradiction
namespace Ls
theorem min_ex : ∀ (l : List Lk), l ≠ [] → ∃ m, IsMin l m := by
  intro l
  induction l with
  | nil => intro h; exact absurd rfl h
  | cons x l ih =>
    intro _
    by_cases hl : l = []
    · subst hl
      exact ⟨x.time, ⟨x, by simp, rfl⟩, fun y hy => by simp at hy; subst hy; exact Int.le_refl _⟩
    · obtain ⟨m, ⟨y, hy, ey⟩, hm⟩ := ih hl
      by_cases h : x.time ≤ m
      · refine ⟨x.time, ⟨x, by simp, rfl⟩, fun z hz => ?_⟩
        rcases List.mem_cons.1 hz with rfl | hz
        · exact Int.le_refl _
        · have := hm z hz; omega
      · refine ⟨m, ⟨y, by simp [hy], ey⟩, fun z hz => ?_⟩
        rcases List.mem_cons.1 hz with rfl | hz
        · omega
        · exact hm z hz
theorem unt_ex (k W : Int) (l : List Lk) : ∃ (b : Int) (ok : Bool), untS k W l b ok := by
  by_cases hk : k = 2
  · by_cases hl : l = []
    · exact ⟨0, false, fun _ h => absurd hl h, fun _ => ⟨rfl, rfl⟩⟩
    · obtain ⟨m, hm⟩ := min_ex l hl
      exact ⟨m + W, true, fun _ _ => ⟨rfl, m, hm, rfl⟩, fun h => by rcases h with h | h; exact absurd hk h; exact absurd h hl⟩
  · exact ⟨0, false, fun h _ => absurd h hk, fun _ => ⟨rfl, rfl⟩⟩
theorem unt_opt {k W M : Int} (hW : chkW k W M = 0) {S L : List Lk} (h : Rl S L) : ∃ (b : Int) (ok : Bool), untS k W S b ok ∧ optV (untilA (extW k W) L) = .tuple #[.int .i64 b, .bool ok] := by
  obtain ⟨b, ok, hu⟩ := unt_ex k W S
  obtain ⟨h1, h2⟩ := unt_until hW h hu
  refine ⟨b, ok, hu, ?_⟩
  cases ok with
  | true => rw [h1 rfl]; rfl
  | false =>
    have hb : b = 0 := by
      by_cases hk : k = 2
      · by_cases hl : S = []
        · exact (hu.2 (.inr hl)).2
        · have := (hu.1 hk hl).1; cases this
      · exact (hu.2 (.inl hk)).2
    rw [h2 rfl, hb]; rfl
end Ls
set_option maxHeartbeats 8000000 in
set_option maxRecDepth 100000 in
theorem untilW_any (n : Int) (A : Option Addr) (c : Nat) (l : List Ls.Lk) (k W M : Int) (hk : (Lit.int .i64 k).wf = true) (w : World) (h : RL w.heap.size w A c l) (hl : l.length ≤ 65536) :
    Calls Tryz.prog 19 #[.agg #[.int .i64 n, .slice A l.length c], .agg #[.int .i64 k, .int .i64 W, .int .i64 M]] w
      (UntP (orL [chkW k W M, Ls.chkS n l]) k W l w) := by
  obtain ⟨W1, HW1⟩ : ∃ W1, Hid (W1 = (w.alloc (.cells #[.int .i64 n, .slice A l.length c] 24)).alloc (.cells #[.int .i64 k, .int .i64 W, .int .i64 M] 26)) := ⟨_, rfl⟩
  have HWB : Hid (Below w.heap.size w W1) := by show Below _ _ _; rw [HW1.out]; exact (below_new _ _).alloc (by simp) _
  have HS1 : Hid (W1.heap[w.heap.size]? = some (.cells #[.int .i64 n, .slice A l.length c] 24 (0, 0))) := by show _ = _; rw [HW1.out, Below.heap_alloc _ _ _ (by simp)]; exact heap_alloc_new _ _
  have H1 := Lib.hid (h.up HWB.out)
  have C1 := Lib.hid (extentOf_any k W M hk W1)
  have HSV : Hid (Ls.chkS n l = 0 → Ls.V n l) := (Ls.chkS_zero n l).1
  have HEB : Hid (chkW k W M = 0 → 1 ≤ extW k W ∧ extW k W ≤ 1048577 ∧ 0 ≤ extM k M ∧ extM k M ≤ 2016) := ext_bounds
  have CC := Lib.hid (fun ws h => K.lcheck_any n A c l ws h hl)
  have HRP : Hid (orL [chkW k W M, Ls.chkS n l] = 0 → chkW k W M = 0 ∧ Ls.chkS n l = 0) := orL2z
  have HUU : Hid (∀ L : List Ls.Lk, chkW k W M = 0 → Ls.Rl l L → ∃ (b : Int) (ok : Bool), Ls.untS k W l b ok ∧ optV (Ls.untilA (extW k W) L) = .tuple #[.int .i64 b, .bool ok]) := fun L h1 h2 => Ls.unt_opt h1 h2
  obtain ⟨E1, HE1⟩ : ∃ E1, Hid (chkW k W M = E1) := ⟨_, rfl⟩
  obtain ⟨E2, HE2⟩ : ∃ E2, Hid (Ls.chkS n l = E2) := ⟨_, rfl⟩
  obtain ⟨XW, HXW⟩ : ∃ X, Hid (extW k W = X) := ⟨_, rfl⟩
  obtain ⟨XM, HXM⟩ : ∃ X, Hid (extM k M = X) := ⟨_, rfl⟩
  simp only [HE1.out, HE2.out, HXW.out, HXM.out] at C1 CC HSV HEB HRP HUU ⊢
  obtain ⟨E, HE⟩ : ∃ E, Hid (orL [E1, E2] = E) := ⟨_, rfl⟩
  rw [HE.out] at HRP ⊢
  have HL := Lib.hid hl
  obtain ⟨N, HN⟩ : ∃ N, Hid (l.length = N) := ⟨_, rfl⟩
  simp only [HN.out] at CC HS1 HW1 ⊢
  clear h HE1 HE2 HXW HXM hl
  rw [HW1.out] at C1
  go_enter Tryz.func19, Tryz.ntmps19
  go_wp2_with fail
  refine C1.out.mono ?_
  rw [← HW1.out]
  rintro e w1 ⟨⟨a, b, hab, rfl⟩, hb⟩
  have HAB := Lib.hid hab
  have HB1 := Lib.hid (HWB.out.trans (hb.mono HWB.out.size))
  have HS2 := Lib.hid ((hb.block _ (lt_of_some HS1.out)).trans HS1.out)
  have H2 := Lib.hid (H1.out.up hb)
  clear hb hab C1 HW1 HS1 H1
  have hsc := Go.Joins.cell_of_block HS2.out
  have s0 := hsc 0; have s1 := hsc 1
  simp only [List.getElem?_toArray, List.getElem?_cons_succ, List.getElem?_cons_zero] at s0 s1
  have hls := lt_of_some HS2.out
  clear hsc
  go_wp2_with fail
  clear s0 s1 hls
  obtain ⟨W3, HW3⟩ : ∃ W3, Hid (W3 = w1.alloc (.cells #[.int .i64 a, .int .i64 b] 74)) := ⟨_, rfl⟩
  rw [← HW3.out]
  have HBa : Hid (Below w1.heap.size w1 W3) := by show Below _ _ _; rw [HW3.out]; exact below_new _ _
  have HX3 : Hid (W3.heap[w1.heap.size]? = some (.cells #[.int .i64 a, .int .i64 b] 74 (0, 0))) := by show _ = _; rw [HW3.out]; exact heap_alloc_new _ _
  have HS3 : Hid (W3.heap[w.heap.size]? = some (.cells #[.int .i64 n, .slice A N c] 24 (0, 0))) := (HBa.out.block _ (lt_of_some HS2.out)).trans HS2.out
  have H3 := Lib.hid (H2.out.up HBa.out)
  have HB3 := Lib.hid (HB1.out.trans (HBa.out.mono HB1.out.size))
  have CC3 : Hid (∀ ws, Below W3.heap.size W3 ws → Calls Tryz.prog 35 #[.agg #[.int .i64 n, .slice A N c]] ws fun e w' => e = .returned (.int .i64 E2) ∧ Below ws.heap.size ws w') := fun ws hb => CC.out ws (H3.out.up hb)
  clear HW3 HBa HS2 H2 CC
  refine (CC3.out W3 (Below.refl _ _)).mono ?_
  rintro e W4 ⟨rfl, hbx'⟩
  have hbx := Lib.hid hbx'
  clear hbx'
  have HX4 := Lib.hid ((hbx.out.block _ (lt_of_some HX3.out)).trans HX3.out)
  have HS4 := Lib.hid ((hbx.out.block _ (lt_of_some HS3.out)).trans HS3.out)
  have H4 := Lib.hid (H3.out.up hbx.out)
  have HB4 := Lib.hid (HB3.out.trans (hbx.out.mono HB3.out.size))
  clear CC3 HX3 HS3 H3 HB3
  have C3 : Hid (Calls Tryz.prog 34 #[.slice (some ⟨W4.heap.size, 0, none⟩) 2 2] (W4.alloc (.cells #[.int .i64 E1, .int .i64 E2] 37)) fun e w' => e = .returned (.int .i64 E) ∧ W4.alloc (.cells #[.int .i64 E1, .int .i64 E2] 37) = w') := by
    have := orE_any _ 2 [E1, E2] _ (RD_newL W4 [E1, E2] 37) (by simp)
    rw [HE.out] at this
    exact this
  go_wp2_with fail
  refine C3.out.mono ?_
  rintro e w5 ⟨rfl, hw5⟩
  have HB5 : Hid (Below w.heap.size w w5) := by show Below _ _ _; rw [← hw5]; exact HB4.out.alloc HB4.out.size _
  have HX5 : Hid (w5.heap[w1.heap.size]? = some (.cells #[.int .i64 a, .int .i64 b] 74 (0, 0))) := by show _ = _; rw [← hw5, Below.heap_alloc _ _ _ (lt_of_some HX4.out)]; exact HX4.out
  have HS5 : Hid (w5.heap[w.heap.size]? = some (.cells #[.int .i64 n, .slice A N c] 24 (0, 0))) := by show _ = _; rw [← hw5, Below.heap_alloc _ _ _ (lt_of_some HS4.out)]; exact HS4.out
  have H5 : Hid (RL w5.heap.size w5 A c l) := by show RL _ _ _ _ _; rw [← hw5]; exact H4.out.up (below_new _ _)
  clear hw5 C3 HX4 HS4 H4 hbx HB4
  by_cases hE : E = 0
  · subst hE
    obtain ⟨h1, h2⟩ := HRP.out rfl
    subst h1
    subst h2
    obtain ⟨rfl, rfl⟩ := HAB.out rfl
    have HV := Lib.hid (HSV.out rfl)
    have HBX := Lib.hid (HEB.out rfl)
    have HXB : Hid ((0 ≤ a ∧ a ≤ 1048577) ∧ (0 ≤ b ∧ b ≤ 2016)) := by show _ ∧ _; have := HBX.out; exact ⟨⟨by omega, by omega⟩, ⟨by omega, by omega⟩⟩
    have h8 := Go.Joins.cell_of_block HX5.out
    have y0 := h8 0; have y1 := h8 1
    have hsc := Go.Joins.cell_of_block HS5.out
    have s1 := hsc 1
    simp only [List.getElem?_toArray, List.getElem?_cons_succ, List.getElem?_cons_zero] at y0 y1 s1
    have hl8 := lt_of_some HX5.out
    have hls := lt_of_some HS5.out
    have C4 := Lib.hid (presentIn_any a b A c l HL.out w5 H5.out)
    rw [HN.out] at C4
    clear h8 hsc HRP HE HAB HSV HEB
    go_wp2_with fail
    refine C4.out.mono ?_
    rintro e w6 ⟨A4, c4, ts, rfl, ⟨hlen, hp, hs, ho⟩, hb⟩
    have HB6 := Lib.hid (HB5.out.trans (hb.mono HB5.out.size))
    have HAG := Lib.hid (srtA_aged l ts (Ls.asc_dist HV.out.2.2.1) hp hs)
    have HRL := Lib.hid (Ls.rl_perm HAG.out HV.out.2.2.1 hp)
    have HLT : Hid (ts.length ≤ 65536) := by show _ ≤ _; rw [hlen]; exact HL.out
    have HP7 : Hid (PB w.heap.size w6.heap.size A4 c4 a b ts (w6.alloc (.cells #[.int .i64 a, .int .i64 b, .slice A4 ts.length c4] 81))) :=
      ⟨heap_alloc_new _ _, (OW.of_own (ownsRow_base ho HB5.out.size)).go (below_new _ _), HB6.out.size⟩
    have HTM : Hid (Tm ts) := fun x hx => by
      obtain ⟨y, hy, ey⟩ := Ls.rl_mem HRL.out hx
      have := (Ls.chkLk_parts (HV.out.2.2.2 y hy)).2.2.2.2
      omega
    obtain ⟨bb, ok, hun, hop⟩ := HUU.out ts (by first | rfl | trivial) HRL.out
    have HUN := Lib.hid hun
    have CE := Lib.hid (until_any w.heap.size w6.heap.size A4 c4 a b ts HXB.out.1 HTM.out HLT.out _ HP7.out)
    rw [hop] at CE
    clear hlen hp hs ho hb C4 y0 y1 s1 hl8 hls hun hop HUU
    obtain ⟨m, HM⟩ : ∃ m, Hid (ts.length = m) := ⟨_, rfl⟩
    rw [HM.out] at CE ⊢
    go_wp2_with fail
    refine CE.out.mono ?_
    rintro e w8 ⟨rfl, hb8⟩
    have HBL : Hid (Below w.heap.size w w8) := (HB6.out.alloc HB6.out.size _).trans (hb8.mono (Nat.le_trans HB6.out.size (by simp)))
    clear hb8 CE
    go_wp2
    go_ret3
    exact ⟨bb, ok, rfl, fun _ => HUN.out, fun h => absurd rfl h, HBL.out⟩
  · have dE : (E != 0) = true := by simpa using hE
    have HE0 := Lib.hid hE
    clear hE
    go_wp2
    go_ret3
    exact ⟨0, false, rfl, fun h => absurd h HE0.out, fun _ => ⟨rfl, rfl⟩, HB5.out⟩
end Go.Proofs.YtfapfkaipdcflaaGreat
