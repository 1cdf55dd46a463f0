/-
  Present, Check of package window.
-/
import Derived.Test.YtfapfkaipdcflaaGreatSt
namespace Go.Proofs.YtfapfkaipdcflaaGreat
open Go.RowKit Go.Lib

section
variable {α : Type} {n : Nat} {f : α → List Value} {B G : Nat} {w w' : World} {A : Option Addr} {c : Nat} {l : List α} {x y : Value} {ty : TypeId}
/-- what lies in words of more than two cells does not lie in a block of two -/
theorem RX.keepG (E : Enc n f) (hn : 2 < n) (h : RX n f w.heap.size w A c l) (hG : w.heap[G]? = some (.cells #[x, y] ty (0, 0))) (hg : w.grownBy w' (some G)) : (∀ ad, l ≠ [] → A = some ad → ad.block ≠ G) ∧ RX n f w'.heap.size w' A c l := by
  rcases l with _ | ⟨a, l⟩
  · exact ⟨fun _ h => absurd rfl h, RX.nil_ _ _ _ _⟩
  · obtain ⟨b, off, a', rfl, hb, ha, hc⟩ := RX.let_ E (by omega) h (k := 0) (by simp)
    have hlen := E.len a'
    have hbG : b ≠ G := by
      rintro rfl
      have h2 := hc 2 _ (List.getElem?_eq_getElem (by omega))
      have h3 : w.cell? ⟨b, off + (0 * n + 2), none⟩ = (#[x, y] : Array Value)[off + (0 * n + 2)]? := Go.Joins.cell_of_block hG (off + (0 * n + 2))
      rw [h2] at h3
      have : (#[x, y] : Array Value)[off + (0 * n + 2)]? = none := by
        rw [Array.getElem?_eq_none]; simp
      rw [this] at h3
      cases h3
    refine ⟨fun ad _ e => by injection e with e; rw [← e]; exact hbG, h.1, h.2.1, fun h0 => ?_⟩
    obtain ⟨ad, e, hbl, hcc⟩ := h.2.2 h0
    injection e with e
    refine ⟨ad, by rw [e], Nat.lt_of_lt_of_le hbl hg.size, fun j u hu => ?_⟩
    have hbe := hg.block b hb (fun e => hbG (by injection e))
    have := hcc j u hu
    have hbj : (ad.add j).block = b := by rw [block_of_add, ← e]
    unfold World.cell? at this ⊢
    rw [hbj] at this ⊢
    rw [hbe]
    exact this
end
theorem wcheck_any (k W M : Int) (hk : (Lit.int .i64 k).wf = true) (w : World) : Calls Tryz.prog 21 #[.agg #[.int .i64 k, .int .i64 W, .int .i64 M]] w fun e w' => e = .returned (.int .i64 (chkW k W M)) ∧ Below w.heap.size w w' := by
  have C := Lib.hid (extentOf_any k W M hk (w.alloc (.cells #[.int .i64 k, .int .i64 W, .int .i64 M] 26)))
  obtain ⟨R, HR⟩ : ∃ R, Hid (chkW k W M = R) := ⟨_, rfl⟩
  rw [HR.out] at C ⊢
  clear HR
  go_enter Tryz.func21, Tryz.ntmps21
  go_wp2_with fail
  refine C.out.mono ?_
  rintro e w1 ⟨⟨a, b, -, rfl⟩, hb⟩
  have HB := Lib.hid ((below_new w _).trans (hb.mono (by simp)))
  clear hb C
  go_wp2
  go_ret
  exact ⟨rfl, HB.out.alloc HB.out.size _⟩
theorem ret_st2 {fn : Func} {R : Ending → World → Prop} {a : Act} {w : World} {p q : Nat} (hres : fn.results = #[.cell p 24, .tmp q]) (hd : a.defers = []) (g : Nat) (hp : a.tmps.getD p undef = .pointer (some ⟨g, 0, none⟩)) {x : Value} (h3 : a.tmps.getD q undef = x)
    {v0 v1 : Value} (hb : w.heap[g]? = some (.cells #[v0, v1] 24 (0, 0))) (h : R (.returned (.tuple #[.agg #[v0, v1], x])) w) : bodyPost Tryz.prog fn R .ret a w := by
  have hc := Go.Joins.cell_of_block hb
  have y0 := hc 0; have y1 := hc 1
  simp only [List.getElem?_toArray, List.getElem?_cons_succ, List.getElem?_cons_zero] at y0 y1
  have hp' : (a.tmps[p]?).getD undef = .pointer (some ⟨g, 0, none⟩) := by simpa using hp
  have h3' : (a.tmps[q]?).getD undef = x := by simpa using h3
  refine bodyPost_ret (v := .tuple #[.agg #[v0, v1], x]) ?_ hd h
  clear hp h3 h hd hb hc
  simp [results, hres, go_sem, hp', h3', y0, y1]
/-- what Present answers -/
def PrsP (E n : Int) (R : List Ls.Lk) (w : World) (en : Ending) (w' : World) : Prop :=
  ∃ A' c', en = .returned (.tuple #[.agg #[.int .i64 n, .slice A' R.length c'], .int .i64 E]) ∧ RL w'.heap.size w' A' c' R ∧ Below w.heap.size w w'
set_option maxHeartbeats 8000000 in
set_option maxRecDepth 100000 in
theorem present_any (n : Int) (A : Option Addr) (c : Nat) (l : List Ls.Lk) (k W M : Int) (hk : (Lit.int .i64 k).wf = true) (t : Int) (w : World) (h : RL w.heap.size w A c l) (hl : l.length ≤ 30000) :
    Calls Tryz.prog 13 #[.agg #[.int .i64 n, .slice A l.length c], .agg #[.int .i64 k, .int .i64 W, .int .i64 M], .int .i64 t] w
      (PrsP (wrongS k W M n t l) (if wrongS k W M n t l = 0 then n else 0) (if wrongS k W M n t l = 0 then Ls.keepS (extW k W) (extM k M) t l else []) w) := by
  obtain ⟨W1, HW1⟩ : ∃ W1, Hid (W1 = ((w.alloc (.cells #[.int .i64 n, .slice A l.length c] 24)).alloc (.cells #[.int .i64 k, .int .i64 W, .int .i64 M] 26)).alloc (.cells #[.int .i64 0, .slice none 0 0] 24)) := ⟨_, rfl⟩
  have HWB : Hid (Below w.heap.size w W1) := by show Below _ _ _; rw [HW1.out]; exact ((below_new _ _).alloc (by simp) _).alloc (by simp; omega) _
  have HS1 : Hid (W1.heap[w.heap.size]? = some (.cells #[.int .i64 n, .slice A l.length c] 24 (0, 0))) := by show _ = _; rw [HW1.out, Below.heap_alloc _ _ _ (by simp; omega), Below.heap_alloc _ _ _ (by simp)]; exact heap_alloc_new _ _
  have HR1 : Hid (W1.heap[w.heap.size + 2]? = some (.cells #[.int .i64 0, .slice none 0 0] 24 (0, 0))) := by
    show _ = _
    rw [HW1.out]
    have := heap_alloc_new ((w.alloc (.cells #[.int .i64 n, .slice A l.length c] 24)).alloc (.cells #[.int .i64 k, .int .i64 W, .int .i64 M] 26)) (.cells #[.int .i64 0, .slice none 0 0] 24)
    simpa using this
  have H1 := Lib.hid (h.up HWB.out)
  have C1 := Lib.hid (expiredW_any n A c l k W M hk t W1 H1.out (by omega))
  have HVV : Hid (wrongS k W M n t l = 0 → Ls.V n l ∧ 0 ≤ t ∧ t ≤ 1048576) := fun h0 => by
    obtain ⟨-, h2, h3⟩ := orL3 h0
    obtain ⟨h4, h5, -⟩ := chkT_ok h3
    exact ⟨(Ls.chkS_zero n l).1 h2, h4, h5⟩
  obtain ⟨E, HE⟩ : ∃ E, Hid (wrongS k W M n t l = E) := ⟨_, rfl⟩
  obtain ⟨XW, HXW⟩ : ∃ X, Hid (extW k W = X) := ⟨_, rfl⟩
  obtain ⟨XM, HXM⟩ : ∃ X, Hid (extM k M = X) := ⟨_, rfl⟩
  rw [HE.out, HXW.out, HXM.out] at C1 ⊢
  rw [HE.out] at HVV
  obtain ⟨nR, HNR⟩ : ∃ X : Int, Hid ((if E = 0 then n else 0) = X) := ⟨_, rfl⟩
  obtain ⟨R, HR⟩ : ∃ R, Hid ((if E = 0 then Ls.keepS XW XM t l else []) = R) := ⟨_, rfl⟩
  rw [HR.out, HNR.out]
  obtain ⟨cu, HCU⟩ : ∃ R, Hid ((if E = 0 then Ls.expS XW XM t l else []) = R) := ⟨_, rfl⟩
  rw [HCU.out] at C1
  have HL := Lib.hid hl
  obtain ⟨N, HN⟩ : ∃ N, Hid (l.length = N) := ⟨_, rfl⟩
  rw [HN.out] at C1
  simp only [HN.out] at HS1 HW1 ⊢
  clear h hl
  rw [HW1.out] at C1
  go_enter Tryz.func13, Tryz.ntmps13
  go_wp2_with fail
  refine C1.out.mono ?_
  rw [← HW1.out]
  rintro e w1 ⟨A4, c4, rfl, ho, hb⟩
  have HB1 := Lib.hid (HWB.out.trans (hb.mono HWB.out.size))
  have HS2 := Lib.hid ((hb.block _ (lt_of_some HS1.out)).trans HS1.out)
  have HR2 := Lib.hid ((hb.block _ (lt_of_some HR1.out)).trans HR1.out)
  have H2 := Lib.hid (H1.out.up hb)
  have HV4 := Lib.hid (RX.of_own ho)
  clear hb ho C1 HW1 HS1 H1 HR1
  have hrc := Go.Joins.cell_of_block HR2.out
  have r0 := hrc 0; have r1 := hrc 1
  have hsc := Go.Joins.cell_of_block HS2.out
  have s0 := hsc 0; have s1 := hsc 1
  simp only [List.getElem?_toArray, List.getElem?_cons_succ, List.getElem?_cons_zero] at r0 r1 s0 s1
  have f0 := Go.Joins.unfrozen_of_block HR2.out 0; have f1 := Go.Joins.unfrozen_of_block HR2.out 1
  have hlr := lt_of_some HR2.out
  have hls := lt_of_some HS2.out
  clear hrc hsc
  have hst : Hid (∀ (u : World) (v0 v1 : Value), Below w1.heap.size w1 u → ((u.setCell ⟨w.heap.size + 2, 0, none⟩ v0).setCell ⟨w.heap.size + 2, 1, none⟩ v1).heap[w.heap.size + 2]? = some (.cells #[v0, v1] 24 (0, 0)) ∧ Below w.heap.size w ((u.setCell ⟨w.heap.size + 2, 0, none⟩ v0).setCell ⟨w.heap.size + 2, 1, none⟩ v1) ∧ u.grownBy ((u.setCell ⟨w.heap.size + 2, 0, none⟩ v0).setCell ⟨w.heap.size + 2, 1, none⟩ v1) (some (w.heap.size + 2))) := by
    intro u v0 v1 hb
    exact ⟨setCell_cells (setCell_cells ((hb.block _ hlr).trans HR2.out) 0 v0) 1 v1, ((HB1.out.trans (hb.mono HB1.out.size)).setCell (p := ⟨w.heap.size + 2, 0, none⟩) (by simp) _).setCell (p := ⟨w.heap.size + 2, 1, none⟩) (by simp) _, grown_trans (only_set1 _ _ _ rfl) (only_set1 _ _ _ rfl)⟩
  obtain ⟨nc, HNC⟩ : ∃ nc, Hid (cu.length = nc) := ⟨_, rfl⟩
  rw [HNC.out]
  by_cases hE : E = 0
  · subst hE
    obtain ⟨hv, ht1, ht2⟩ := HVV.out rfl
    have HV := Lib.hid hv
    have hcu : Hid (Ls.expS XW XM t l = cu) := HCU.out
    have HRT : Hid (Ls.keepS XW XM t l = R) := HR.out
    have HNT : Hid (n = nR) := HNR.out
    have HCL : Hid (cu.length ≤ 30000) := by show _ ≤ _; rw [← hcu.out]; unfold Ls.expS; rw [List.length_map]; exact Nat.le_trans (List.length_filter_le _ _) HL.out
    have CA := Lib.hid (K.lall_any n A A4 c c4 l cu w1 H2.out HV4.out (by have := HL.out; have := HCL.out; omega))
    rw [HN.out, HNC.out] at CA
    have HAR : Hid (K.Ls.allR n l cu = (R, ((Ls.numL l cu : Nat) : Int), 0)) := by
      show _ = _
      have hg := Ls.exp_good XW XM t ⟨ht1, ht2⟩ n l HV.out
      rw [hcu.out] at hg
      have h1 := Ls.allS_ok n cu (fun e he => (hg e he).1) 0 l
      have h2 := (Ls.all_exp XW XM t n l HV.out).1
      rw [hcu.out, HRT.out] at h2
      unfold K.Ls.allR
      rw [if_neg (by rw [(Ls.chkS_zero n l).2 HV.out]; decide), h1, h2]
    clear hv ht1 ht2 HCU HR HNR HVV HE
    go_wp2_with fail
    refine CA.out.mono ?_
    unfold K.AllP
    rw [HAR.out]
    rintro e w2 ⟨n', l', A5, c5, rfl, rfl, rfl, hr5, hb⟩
    have HB2 := Lib.hid hb
    have HR5 := Lib.hid hr5
    dsimp only at HR5 ⊢
    have u0 := (hb.cell (p := ⟨w.heap.size + 2, 0, none⟩) hlr).trans r0
    have u1 := (hb.cell (p := ⟨w.heap.size + 2, 1, none⟩) hlr).trans r1
    have k0 := Go.Joins.unfrozen_of_block ((hb.block _ hlr).trans HR2.out) 0; have k1 := Go.Joins.unfrozen_of_block ((hb.block _ hlr).trans HR2.out) 1
    have hus := Nat.lt_of_lt_of_le hlr hb.size
    clear hb hr5 CA HAR r0 r1 s0 s1 f0 f1
    obtain ⟨m, HM⟩ : ∃ m, Hid (l'.length = m) := ⟨_, rfl⟩
    rw [HM.out]
    go_wp2
    obtain ⟨q1, q2, q3⟩ := hst.out w2 (.int .i64 n') (.slice A5 m c5) HB2.out
    have q4 := (Below.heap_alloc _ (.cells #[.int .i64 n', .slice A5 m c5] 24) _ (lt_of_some q1)).trans q1
    refine ret_st2 rfl rfl (w.heap.size + 2) rfl rfl q4 ⟨A5, c5, by rw [HM.out, HNT.out]; rfl, (HR5.out.keepG encL (by decide) ((HB2.out.block _ hlr).trans HR2.out) q3).2.up (below_new _ _), q2.alloc q2.size _⟩
  · have dE : (E != 0) = true := by simpa using hE
    have HR3 := Lib.hid (HR.out.symm.trans (if_neg hE))
    have hR0 := HR3.out
    subst hR0
    have HR4 := Lib.hid (HNR.out.symm.trans (if_neg hE))
    have hR1 := HR4.out
    subst hR1
    clear hE
    go_wp2
    obtain ⟨q1, q2, -⟩ := hst.out w1 (.int .i64 0) (.slice none 0 0) (Below.refl _ _)
    exact ret_st2 rfl rfl (w.heap.size + 2) rfl rfl q1 ⟨none, 0, rfl, RX.nil_ _ _ _ _, q2⟩
end Go.Proofs.YtfapfkaipdcflaaGreat
