/-
  Open, Push and Flush.
-/
import Derived.Test.YtgdhjllfdndmnaaRh
namespace Go.Proofs.Ytgdhjllfdndmnaa
open Go.RowKit Go.Lib

theorem new_two (w : World) (o1 o2 : Obj) : ((w.alloc o1).alloc o2).heap[w.heap.size]? = some o1 ∧ ((w.alloc o1).alloc o2).heap[w.heap.size + 1]? = some o2 ∧ ((w.alloc o1).alloc o2).heap.size = w.heap.size + 2 ∧ Below w.heap.size w ((w.alloc o1).alloc o2) :=
  ⟨(Below.heap_alloc _ _ _ (by simp)).trans (heap_alloc_new w _), by have := heap_alloc_new (w.alloc o1) o2; simpa using this, by simp, ((Below.refl _ _).alloc (Nat.le_refl _) _).alloc (by simp) _⟩
theorem new_three (w : World) (o1 o2 o3 : Obj) (W : World) (hW : ((w.alloc o1).alloc o2).alloc o3 = W) : W.heap[w.heap.size]? = some o1 ∧ W.heap[w.heap.size + 1]? = some o2 ∧ W.heap[w.heap.size + 2]? = some o3 ∧ W.heap.size = w.heap.size + 3 ∧ Below w.heap.size w W := by
  subst hW
  obtain ⟨a, b, c, d⟩ := new_two w o1 o2
  have e : (((w.alloc o1).alloc o2).alloc o3).heap.size = w.heap.size + 3 := by simp
  refine ⟨(Below.heap_alloc _ _ _ (by omega)).trans a, (Below.heap_alloc _ _ _ (by omega)).trans b, ?_, e, d.trans ((below_new _ _).mono (by omega))⟩
  have := heap_alloc_new ((w.alloc o1).alloc o2) o3
  rwa [c] at this
theorem chk_time {e : Ev} (h : chkE e = 0) : 0 ≤ e.time ∧ e.time ≤ 1048576 := by
  unfold chkE at h
  split at h
  · omega
  · split at h
    · omega
    · omega
def okB (n : Int) : Bool := decide (0 ≤ n ∧ n ≤ 1048576)
def openB (n : Int) : Rd.Bf := if okB n = true then Rd.opened n else ⟨0, 0, 0, []⟩
def openE (n : Int) : Int := if okB n = true then 0 else 1
theorem openV (n : Int) : decide (Rd.V (Rd.opened n)) = okB n := by
  unfold okB
  rw [decide_eq_decide]
  constructor
  · intro h; exact ⟨h.1, h.2.1⟩
  · intro h; exact Rd.opened_valid h.1 h.2
set_option maxHeartbeats 1000000 in
theorem open_any (n : Int) (w : World) : Calls Try.prog 11 #[.int .i64 n] w fun e w' => e = .returned (.tuple #[.agg #[.int .i64 (openB n).bound, .int .i64 (openB n).latest, .int .i64 (openB n).mark, .slice none 0 0], .int .i64 (openE n)]) ∧ Below w.heap.size w w' := by
  obtain ⟨W1, HW1⟩ : ∃ W1, Hid ((w.alloc (.cells #[.int .i64 0, .int .i64 0, .int .i64 0, .slice none 0 0] 24)).alloc (.cells #[.int .i64 n, .int .i64 (-1), .int .i64 (-1), .slice none 0 0] 24) = W1) := ⟨_, rfl⟩
  obtain ⟨G, HGG⟩ : ∃ G, Hid (w.heap.size = G) := ⟨_, rfl⟩
  have hn2 := new_two w (.cells #[.int .i64 0, .int .i64 0, .int .i64 0, .slice none 0 0] 24) (.cells #[.int .i64 n, .int .i64 (-1), .int .i64 (-1), .slice none 0 0] 24)
  rw [HW1.out, HGG.out] at hn2
  have HN := Lib.hid hn2
  have C := Lib.hid (valid_any n (-1) (-1) none 0 [] W1 (RX.nil_ _ _ _ _) (by simp))
  have hv := openV n
  have hv2 : decide (Rd.V ⟨n, -1, -1, []⟩) = okB n := hv
  rw [hv2] at C
  have HE : Hid (openB n = if okB n = true then ⟨n, -1, -1, []⟩ else ⟨0, 0, 0, []⟩) := rfl
  have HE2 : Hid (openE n = if okB n = true then 0 else 1) := rfl
  generalize okB n = B at C HE HE2
  generalize openB n = OB at HE ⊢
  generalize openE n = OE at HE2 ⊢
  clear hn2 hv hv2
  go_enter Try.func11, Try.ntmps11
  go_wp2_with fail
  rw [HW1.out, HGG.out]
  refine C.out.mono ?_
  rintro e w2 ⟨rfl, hb⟩
  have HB2 := Lib.hid hb
  have k0 := (hb.block G (by rw [HN.out.2.2.1]; omega)).trans HN.out.1
  have k1 := (hb.block (G + 1) (by rw [HN.out.2.2.1]; omega)).trans HN.out.2.1
  have K0 := Lib.hid k0
  have aC := Go.Joins.cell_of_block (k0)
  have a0 := aC 0; have a1 := aC 1; have a2 := aC 2; have a3 := aC 3
  simp only [List.getElem?_toArray, List.getElem?_cons_succ, List.getElem?_cons_zero] at a0 a1 a2 a3
  have aF := Go.Joins.unfrozen_of_block (k0)
  have af0 := aF 0; have af1 := aF 1; have af2 := aF 2; have af3 := aF 3
  clear aF
  clear aC
  have bC := Go.Joins.cell_of_block (k1)
  have b0 := bC 0; have b1 := bC 1; have b2 := bC 2; have b3 := bC 3
  simp only [List.getElem?_toArray, List.getElem?_cons_succ, List.getElem?_cons_zero] at b0 b1 b2 b3
  clear bC
  have hs2 : G + 2 ≤ w2.heap.size := by have := hb.size; rw [HN.out.2.2.1] at this; exact this
  have HB : Hid (Below w.heap.size w w2) := by show Below _ _ _; rw [HGG.out]; exact HN.out.2.2.2.trans (hb.mono (by rw [HN.out.2.2.1]; omega))
  have hne : ¬ G = G + 1 := by omega
  have hne2 : ¬ G + 1 = G := by omega
  clear k0 k1 hb C
  cases B with
  | true =>
    obtain rfl := HE.out
    obtain rfl := HE2.out
    go_wp2
    have hblk := set4_blk K0.out (.int .i64 n) (.int .i64 (-1)) (.int .i64 (-1)) (.slice none 0 0)
    have hT : Below w.heap.size w _ := below_set4 (g := G) HB.out (by rw [HGG.out]; exact Nat.le_refl _) (.int .i64 n) (.int .i64 (-1)) (.int .i64 (-1)) (.slice none 0 0)
    exact ret_buf2 (p := 2) (r := 3) Try.results11 rfl G rfl _ rfl hblk ⟨rfl, hT⟩
  | false =>
    obtain rfl := HE.out
    obtain rfl := HE2.out
    go_wp2
    have hblk := set4_blk K0.out (.int .i64 0) (.int .i64 0) (.int .i64 0) (.slice none 0 0)
    have hT : Below w.heap.size w _ := below_set4 (g := G) HB.out (by rw [HGG.out]; exact Nat.le_refl _) (.int .i64 0) (.int .i64 0) (.int .i64 0) (.slice none 0 0)
    exact ret_buf2 (p := 2) (r := 3) Try.results11 rfl G rfl _ rfl hblk ⟨rfl, hT⟩
/-- lists of events stay where a buffer's block is written -/
theorem rv_keep {w w' : World} {g : Nat} {cs : Array Value} {T : TypeId} (h : w.heap[g]? = some (.cells cs T (0, 0))) (hc : cs.size ≤ 6) (hg : w.grownBy w' (some g)) {A : Option Addr} {c : Nat} {l : List Ev} (hr : RV w.heap.size w A c l) : RV w'.heap.size w' A c l := by
  rcases l with _ | ⟨a, l⟩
  · exact RX.nil_ _ _ _ _
  · obtain ⟨b, off, a', rfl, hb, ha, c0, c1, c2, c3, c4, c5, c6⟩ := RV.at_ hr (k := 0) (by simp)
    have hbG : b ≠ g := by
      rintro rfl
      have h3 := Go.Joins.cell_of_block h (off + 0 * 7 + 6)
      rw [c6, Array.getElem?_eq_none (by omega)] at h3
      cases h3
    refine ⟨hr.1, hr.2.1, fun h0 => ?_⟩
    obtain ⟨ad, e, hbl, hcc⟩ := hr.2.2 h0
    injection e with e
    refine ⟨ad, by rw [e], Nat.lt_of_lt_of_le hbl hg.size, fun j u hu => ?_⟩
    have hbe := hg.block b hb (fun e => hbG (by injection e))
    have := hcc j u hu
    have hbj : (ad.add j).block = b := by rw [block_of_add, ← e]
    exact (World.cell?_of_block (by rw [hbj]; exact hbe)).trans this
theorem rv_box {w : World} {g : Nat} {a0 a1 a2 a3 : Value} (h : w.heap[g]? = some (.cells #[a0, a1, a2, a3] 24 (0, 0))) (v0 v1 v2 v3 : Value) (A : Option Addr) (c : Nat) (l : List Ev) (hr : RV w.heap.size w A c l) :
    RV ((((w.setCell ⟨g, 0, none⟩ v0).setCell ⟨g, 1, none⟩ v1).setCell ⟨g, 2, none⟩ v2).setCell ⟨g, 3, none⟩ v3).heap.size ((((w.setCell ⟨g, 0, none⟩ v0).setCell ⟨g, 1, none⟩ v1).setCell ⟨g, 2, none⟩ v2).setCell ⟨g, 3, none⟩ v3) A c l :=
  rv_keep h (by simp) (Tw.trans (Tw.trans (Tw.trans Tw.set Tw.set (Fr.refl _ _)) Tw.set (Fr.refl _ _)) Tw.set (Fr.refl _ _)).grownP hr
theorem rn_box {B : Nat} {w : World} {g : Nat} {a0 a1 a2 a3 : Value} (h : w.heap[g]? = some (.cells #[a0, a1, a2, a3] 24 (0, 0))) (v0 v1 v2 v3 : Value) {A : Option Addr} {c : Nat} {l : List Ev} (hr : RN B w A c l) :
    RN B ((((w.setCell ⟨g, 0, none⟩ v0).setCell ⟨g, 1, none⟩ v1).setCell ⟨g, 2, none⟩ v2).setCell ⟨g, 3, none⟩ v3) A c l := ⟨rv_box h _ _ _ _ _ _ _ hr.1, hr.2⟩
theorem OW.lo {base B : Nat} {w : World} {A : Option Addr} {c : Nat} {l : List Ev} (h : OW base w A c l) (hB : B ≤ base) : OW B w A c l :=
  ⟨h.1, h.2.1, h.2.2.imp id (fun ⟨g, o, cur, h1, h2, h3⟩ => ⟨g, o, cur, h1, by omega, h3⟩)⟩
theorem ow_box {base : Nat} {w : World} {g : Nat} {a0 a1 a2 a3 : Value} (h : w.heap[g]? = some (.cells #[a0, a1, a2, a3] 24 (0, 0))) (v0 v1 v2 v3 : Value) {A : Option Addr} {c : Nat} {l : List Ev} (hr : OW base w A c l) :
    OW base ((((w.setCell ⟨g, 0, none⟩ v0).setCell ⟨g, 1, none⟩ v1).setCell ⟨g, 2, none⟩ v2).setCell ⟨g, 3, none⟩ v3) A c l :=
  hr.kept (r := some g) (Tw.trans (Tw.trans (Tw.trans Tw.set Tw.set (Fr.refl _ _)) Tw.set (Fr.refl _ _)) Tw.set (Fr.refl _ _)).grownP (fun k hk e => by injection e with e; subst e; exact hr.ne h (by decide) hk)
/-- what Push answers -/
def PushP (b : Rd.Bf) (e : Ev) (w : World) (en : Ending) (w' : World) : Prop :=
  ∃ (b' : Rd.Bf) (r : List Ev) (A1 A2 : Option Addr) (c1 c2 : Nat), en = .returned (.tuple #[.agg #[.int .i64 b'.bound, .int .i64 b'.latest, .int .i64 b'.mark, .slice A1 b'.wait.length c1], .slice A2 r.length c2, .int .i64 (Rd.pushE b e)]) ∧
    (b', r) = (if Rd.pushE b e = 0 then Rd.pushed b e else (b, [])) ∧ OW w.heap.size w' A1 c1 b'.wait ∧ RN w.heap.size w' A2 c2 r ∧ Below w.heap.size w w'
set_option maxHeartbeats 4000000 in
set_option maxRecDepth 100000 in
theorem pushB_any (n L M : Int) (A : Option Addr) (c : Nat) (l : List Ev) (k s u v x y z : Int) (w : World) (h : RV w.heap.size w A c l) (hl : l.length ≤ 60000) :
    Calls Try.prog 17 #[.agg #[.int .i64 n, .int .i64 L, .int .i64 M, .slice A l.length c], .agg #[.int .i64 k, .int .i64 s, .int .i64 u, .int .i64 v, .int .i64 x, .int .i64 y, .int .i64 z]] w (PushP ⟨n, L, M, l⟩ ⟨k, s, u, v, x, y, z⟩ w) := by
  obtain ⟨W1, HW1⟩ : ∃ W1, Hid (((w.alloc (.cells #[.int .i64 n, .int .i64 L, .int .i64 M, .slice A l.length c] 24)).alloc (.cells #[.int .i64 k, .int .i64 s, .int .i64 u, .int .i64 v, .int .i64 x, .int .i64 y, .int .i64 z] 26)).alloc (.cells #[.int .i64 0, .int .i64 0, .int .i64 0, .slice none 0 0] 24) = W1) := ⟨_, rfl⟩
  obtain ⟨G, HGG⟩ : ∃ G, Hid (w.heap.size = G) := ⟨_, rfl⟩
  have hn3 := new_three w _ _ _ W1 HW1.out
  rw [HGG.out] at hn3
  have HN := Lib.hid hn3
  have hs1 := hn3.2.2.2.1
  have HB1 : Hid (Below w.heap.size w W1) := by have := hn3.2.2.2.2; rwa [← HGG.out] at this
  have H1 := Lib.hid (h.up HB1.out)
  have CQ := Lib.hid (queueOf_any n L M A c l W1 H1.out (by omega))
  have HPE := Lib.hid (pushE_eq ⟨n, L, M, l⟩ ⟨k, s, u, v, x, y, z⟩)
  have HL := Lib.hid hl
  clear hn3 h hl
  go_enter Try.func17, Try.ntmps17
  go_wp2_with fail
  rw [HW1.out, HGG.out]
  refine CQ.out.mono ?_
  rintro e w2 ⟨A1, c1, rfl, ho, hb⟩
  have HB2 := Lib.hid hb
  have hs2 : G + 3 ≤ w2.heap.size := by have := hb.size; rw [hs1] at this; exact this
  obtain ⟨P, HP⟩ : ∃ P, Hid (w2.heap.size = P) := ⟨_, rfl⟩
  obtain ⟨W3, HW3⟩ : ∃ W3, Hid (w2.alloc (.cells #[.int .i64 n, .int .i64 L, .int .i64 M, .slice A1 l.length c1] 53) = W3) := ⟨_, rfl⟩
  have HB3 : Hid (Below w2.heap.size w2 W3) := by show Below _ _ _; rw [← HW3.out]; exact below_new _ _
  have HQ3 : Hid (QB W1.heap.size P A1 c1 ⟨n, L, M, l⟩ W3) := by
    refine ⟨?_, ho.go HB3.out, ?_⟩
    · rw [← HW3.out, ← HP.out]; exact heap_alloc_new _ _
    · rw [← HP.out]; exact hb.size
  have HB13 : Hid (Below W1.heap.size W1 W3) := hb.trans (HB3.out.mono hb.size)
  have hs3 : P < W3.heap.size := HQ3.out.lP
  have hGl : G < w2.heap.size := by omega
  have k0 := (HB2.out.block G (by rw [hs1]; omega)).trans HN.out.1
  have aC := Go.Joins.cell_of_block (k0)
  have a0 := aC 0; have a1 := aC 1; have a2 := aC 2; have a3 := aC 3
  simp only [List.getElem?_toArray, List.getElem?_cons_succ, List.getElem?_cons_zero] at a0 a1 a2 a3
  clear aC
  have CV := Lib.hid (valid_any n L M A c l W3 (H1.out.up HB13.out) (by have := HL.out; omega))
  clear ho hb CQ k0
  go_wp2_with fail
  rw [HW3.out]
  simp only [HP.out]
  rw [HP.out] at hs2
  refine CV.out.mono ?_
  rintro e w4 ⟨rfl, hb4⟩
  have HQ4 := Lib.hid (HQ3.out.go hb4)
  have HB14 : Hid (Below W1.heap.size W1 w4) := HB13.out.trans (hb4.mono HB13.out.size)
  have hs4 : P < w4.heap.size := Nat.lt_of_lt_of_le hs3 hb4.size
  have k1 := (HB14.out.block (G + 1) (by rw [hs1]; omega)).trans HN.out.2.1
  have k2 := (HB14.out.block (G + 2) (by rw [hs1]; omega)).trans HN.out.2.2.1
  have K2 := Lib.hid k2
  have HB4 : Hid (Below w.heap.size w w4) := HB1.out.trans (HB14.out.mono HB1.out.size)
  obtain ⟨q0, q1, q2, q3⟩ := HQ4.out.cells
  dsimp only at q0 q1 q2 q3
  clear hb4 CV a0 a1 a2 a3
  by_cases hV : Rd.V ⟨n, L, M, l⟩
  · have hdV : decide (Rd.V ⟨n, L, M, l⟩) = true := by simpa using hV
    have HV := Lib.hid hV
    have HPE2 : Hid (Rd.pushE ⟨n, L, M, l⟩ ⟨k, s, u, v, x, y, z⟩ = chkQ ⟨n, L, M, l⟩ ⟨k, s, u, v, x, y, z⟩) := by show _ = _; rw [HPE.out, if_neg (by simpa using hV)]
    simp only [hdV]
    clear hdV hV
    have CC := Lib.hid (check_any W1.heap.size P A1 c1 n L M l k s u v x y z w4 HQ4.out)
    have HCK : Hid (chkQ ⟨n, L, M, l⟩ ⟨k, s, u, v, x, y, z⟩ = 0 → chkE ⟨k, s, u, v, x, y, z⟩ = 0) := by
      show _ → _
      intro h
      unfold chkQ at h
      split at h
      · exact h
      · next h0 => simpa using h0
    have bC := Go.Joins.cell_of_block (k1)
    have b0 := bC 0; have b1 := bC 1; have b2 := bC 2; have b3 := bC 3; have b4 := bC 4; have b5 := bC 5; have b6 := bC 6
    simp only [List.getElem?_toArray, List.getElem?_cons_succ, List.getElem?_cons_zero] at b0 b1 b2 b3 b4 b5 b6
    clear bC
    go_wp2_with fail
    refine CC.out.mono ?_
    rintro e w5 ⟨rfl, hb5⟩
    have HQ5 := Lib.hid (HQ4.out.go hb5)
    have HB15 : Hid (Below W1.heap.size W1 w5) := HB14.out.trans (hb5.mono HB14.out.size)
    have hs5 : P < w5.heap.size := Nat.lt_of_lt_of_le hs4 hb5.size
    have HB5 : Hid (Below w.heap.size w w5) := HB1.out.trans (HB15.out.mono HB1.out.size)
    have j1 := (HB15.out.block (G + 1) (by rw [hs1]; omega)).trans HN.out.2.1
    have j2 := (HB15.out.block (G + 2) (by rw [hs1]; omega)).trans HN.out.2.2.1
    have J2 := Lib.hid j2
    clear hb5 CC q0 q1 q2 q3 b0 b1 b2 b3 b4 b5 b6 k1 k2 K2
    obtain ⟨X, HX⟩ : ∃ X, Hid (chkQ ⟨n, L, M, l⟩ ⟨k, s, u, v, x, y, z⟩ = X) := ⟨_, rfl⟩
    rw [HX.out] at HPE2 HCK
    simp only [HX.out]
    by_cases hX : X = 0
    · subst hX
      have hct := Lib.hid (chk_time (HCK.out rfl))
      have CP := Lib.hid (push_any W1.heap.size P A1 c1 n L M l k s u v x y z hct.out (by have := HV.out; obtain ⟨i1, i2, i3, i4, i5, -⟩ := this; dsimp only at i1 i2 i3 i4 i5; omega) (by have := HV.out; exact ⟨this.1, this.2.1⟩) w5 HQ5.out HV.out.2.2.2.2.2.2.2 HL.out HB15.out.size)
      have dC := Go.Joins.cell_of_block (j1)
      have d0 := dC 0; have d1 := dC 1; have d2 := dC 2; have d3 := dC 3; have d4 := dC 4; have d5 := dC 5; have d6 := dC 6
      simp only [List.getElem?_toArray, List.getElem?_cons_succ, List.getElem?_cons_zero] at d0 d1 d2 d3 d4 d5 d6
      clear dC
      go_wp2_with fail
      refine CP.out.mono ?_
      rintro e w6 ⟨A3, A4, c3, c4, rfl, hq6, hr6, ht6, hf6⟩
      have HQ6 := Lib.hid hq6
      have HR6 := Lib.hid hr6
      have HB16 : Hid (Below W1.heap.size W1 w6) := HB15.out.trans (ht6.below HQ5.out.hP (fun q hq => (HQ5.out.own.lt q hq).1) HB15.out.size)
      have HB6 : Hid (Below w.heap.size w w6) := HB1.out.trans (HB16.out.mono HB1.out.size)
      have i2 := (HB16.out.block (G + 2) (by rw [hs1]; omega)).trans HN.out.2.2.1
      have I2 := Lib.hid i2
      have hs6 : P < w6.heap.size := hq6.lP
      obtain ⟨q0, q1, q2, q3⟩ := hq6.cells
      obtain ⟨BB, HBB⟩ : ∃ BB, Hid ((Rd.pushed ⟨n, L, M, l⟩ ⟨k, s, u, v, x, y, z⟩).1 = BB) := ⟨_, rfl⟩
      obtain ⟨RR, HRR⟩ : ∃ RR, Hid ((Rd.pushed ⟨n, L, M, l⟩ ⟨k, s, u, v, x, y, z⟩).2 = RR) := ⟨_, rfl⟩
      rw [HBB.out] at HQ6 q0 q1 q2 q3
      rw [HRR.out] at HR6 ⊢
      obtain ⟨nb, HNB⟩ : ∃ nb, Hid (BB.bound = nb) := ⟨_, rfl⟩
      obtain ⟨nl, HNL⟩ : ∃ nl, Hid (BB.latest = nl) := ⟨_, rfl⟩
      obtain ⟨nm, HNM⟩ : ∃ nm, Hid (BB.mark = nm) := ⟨_, rfl⟩
      obtain ⟨nw, HNW⟩ : ∃ nw, Hid (BB.wait.length = nw) := ⟨_, rfl⟩
      obtain ⟨nr, HNR⟩ : ∃ nr, Hid (RR.length = nr) := ⟨_, rfl⟩
      rw [HNB.out] at q0
      rw [HNL.out] at q1
      rw [HNM.out] at q2
      rw [HNW.out] at q3
      rw [HNR.out]
      have ooC := Go.Joins.cell_of_block (i2)
      have oo0 := ooC 0; have oo1 := ooC 1; have oo2 := ooC 2; have oo3 := ooC 3
      simp only [List.getElem?_toArray, List.getElem?_cons_succ, List.getElem?_cons_zero] at oo0 oo1 oo2 oo3
      have ooF := Go.Joins.unfrozen_of_block (i2)
      have oof0 := ooF 0; have oof1 := ooF 1; have oof2 := ooF 2; have oof3 := ooF 3
      clear ooF
      clear ooC
      clear hq6 hr6 ht6 hf6 CP d0 d1 d2 d3 d4 d5 d6 j1 j2 J2
      go_wp2
      have hblk := set4_blk I2.out (.int .i64 nb) (.int .i64 nl) (.int .i64 nm) (.slice A3 nw c3)
      have hT : Below w.heap.size w _ := below_set4 (g := G + 2) HB6.out (by rw [HGG.out]; omega) (.int .i64 nb) (.int .i64 nl) (.int .i64 nm) (.slice A3 nw c3)
      have hT2 : Below G w6 _ := below_set4 (g := G + 2) (Below.refl _ _) (by omega) (.int .i64 nb) (.int .i64 nl) (.int .i64 nm) (.slice A3 nw c3)
      exact ret_buf3 (p := 4) (q := 5) (r := 6) Try.results17 rfl (G + 2) rfl _ _ rfl rfl hblk ⟨BB, RR, A3, A4, c3, c4, by rw [HPE2.out, HNB.out, HNL.out, HNM.out, HNW.out, HNR.out]; rfl, by rw [HPE2.out, if_pos rfl, ← HBB.out, ← HRR.out], ow_box I2.out _ _ _ _ (HQ6.out.own.lo HB1.out.size), rn_box I2.out _ _ _ _ (HR6.out.lo HB1.out.size), hT⟩
    · have hd1 : (X != 0) = true := by simpa using hX
      have HXX := Lib.hid hX
      obtain ⟨q0, q1, q2, q3⟩ := HQ5.out.cells
      dsimp only at q0 q1 q2 q3
      have ooC := Go.Joins.cell_of_block (j2)
      have oo0 := ooC 0; have oo1 := ooC 1; have oo2 := ooC 2; have oo3 := ooC 3
      simp only [List.getElem?_toArray, List.getElem?_cons_succ, List.getElem?_cons_zero] at oo0 oo1 oo2 oo3
      have ooF := Go.Joins.unfrozen_of_block (j2)
      have oof0 := ooF 0; have oof1 := ooF 1; have oof2 := ooF 2; have oof3 := ooF 3
      clear ooF
      clear ooC
      clear hX j1 j2
      go_wp2
      have hblk := set4_blk J2.out (.int .i64 n) (.int .i64 L) (.int .i64 M) (.slice A1 l.length c1)
      have hT : Below w.heap.size w _ := below_set4 (g := G + 2) HB5.out (by rw [HGG.out]; omega) (.int .i64 n) (.int .i64 L) (.int .i64 M) (.slice A1 l.length c1)
      exact ret_buf3 (p := 4) (q := 5) (r := 6) Try.results17 rfl (G + 2) rfl _ _ rfl rfl hblk ⟨⟨n, L, M, l⟩, [], A1, none, c1, 0, by rw [HPE2.out]; rfl, by rw [HPE2.out, if_neg HXX.out], ow_box J2.out _ _ _ _ (HQ5.out.own.lo HB1.out.size), RN.nil_ _ _ _ _, hT⟩
  · have hdV : decide (Rd.V ⟨n, L, M, l⟩) = false := by simpa using hV
    have HPE2 : Hid (Rd.pushE ⟨n, L, M, l⟩ ⟨k, s, u, v, x, y, z⟩ = 4) := by show _ = _; rw [HPE.out, if_pos hV]
    simp only [hdV]
    clear hdV hV
    have ooC := Go.Joins.cell_of_block (k2)
    have oo0 := ooC 0; have oo1 := ooC 1; have oo2 := ooC 2; have oo3 := ooC 3
    simp only [List.getElem?_toArray, List.getElem?_cons_succ, List.getElem?_cons_zero] at oo0 oo1 oo2 oo3
    have ooF := Go.Joins.unfrozen_of_block (k2)
    have oof0 := ooF 0; have oof1 := ooF 1; have oof2 := ooF 2; have oof3 := ooF 3
    clear ooF
    clear ooC
    clear k1 k2
    go_wp2
    have hblk := set4_blk K2.out (.int .i64 n) (.int .i64 L) (.int .i64 M) (.slice A1 l.length c1)
    have hT : Below w.heap.size w _ := below_set4 (g := G + 2) HB4.out (by rw [HGG.out]; omega) (.int .i64 n) (.int .i64 L) (.int .i64 M) (.slice A1 l.length c1)
    exact ret_buf3 (p := 4) (q := 5) (r := 6) Try.results17 rfl (G + 2) rfl _ _ rfl rfl hblk ⟨⟨n, L, M, l⟩, [], A1, none, c1, 0, by rw [HPE2.out]; rfl, by rw [HPE2.out, if_neg (by decide)], ow_box K2.out _ _ _ _ (HQ4.out.own.lo HB1.out.size), RN.nil_ _ _ _ _, hT⟩
end Go.Proofs.Ytgdhjllfdndmnaa
