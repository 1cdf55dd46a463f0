/-
  extentOf: the kinds in a map of functions; Check of a window.
-/
import Derived.Test.YtfapfkaipdcflaaGreatSn
namespace Go.Proofs.YtfapfkaipdcflaaGreat
open Go.RowKit Go.Lib
open Go.Maps (Keyed IsMap Tidy)

/-- how a function value reads as an element of a map -/
def fnElem : Value → Option (DataW Unit × List MemPlace)
  | .func (.func g) cs lb => if cs = #[] ∧ lb = #[] then some (.lit (.int .i64 g), []) else none
  | .nilFunc => some (.lit (.bool false), [])
  | _ => none
theorem fnElem_inv {v : Value} {g : Nat} {ps : List MemPlace} (h : fnElem v = some (.lit (.int .i64 g), ps)) : v = .func (.func g) #[] #[] := by
  unfold fnElem at h
  split at h
  · next g' cs lb =>
    split at h
    · next hc =>
      obtain ⟨rfl, rfl⟩ := hc
      simp at h
      replace h := h.1
      rw [show g' = g by first | exact h | exact h.1 | exact Int.ofNat.inj h | omega]
    · cases h
  · simp at h
  · cases h
theorem fnElem_nil {v : Value} {ps : List MemPlace} (h : fnElem v = some (.lit (.bool false), ps)) : v = .nilFunc := by
  unfold fnElem at h
  split at h
  · split at h
    · simp at h
    · cases h
  · rfl
  · cases h
/-- the kinds' functions; what stands at a kind -/
def kindF (k : Int) : Value := if k = 1 then .func (.func 52) #[] #[] else if k = 2 then .func (.func 53) #[] #[] else if k = 3 then .func (.func 54) #[] #[] else .nilFunc
def kindB (k : Int) : Bool := decide (k = 1) || decide (k = 2) || decide (k = 3)
theorem zeroFn (w : World) : (zeroValue 98).run Tryz.prog w = .ok .nilFunc w := by kernel_rfl
theorem kinds_map (w : World) (k : Int) (hk : (Lit.int .i64 k).wf = true) : ∃ w1 w2 w3,
    (Instr.mapUpdate 99 (.map (some w.heap.size)) (.int .i64 1) (.func (.func 52) #[] #[])).run Tryz.prog (w.alloc (.map #[] 0)) = .ok () w1 ∧
    (Instr.mapUpdate 99 (.map (some w.heap.size)) (.int .i64 2) (.func (.func 53) #[] #[])).run Tryz.prog w1 = .ok () w2 ∧
    (Instr.mapUpdate 99 (.map (some w.heap.size)) (.int .i64 3) (.func (.func 54) #[] #[])).run Tryz.prog w2 = .ok () w3 ∧
    (Instr.lookup 99 (.map (some w.heap.size)) (.int .i64 k) true).run Tryz.prog w3 = .ok (.tuple #[kindF k, .bool (kindB k)]) w3 ∧ Below w.heap.size w w3 := by
  have law : Keyed Tryz.prog 3 := Go.Maps.int_keyed Tryz.underlying3
  have hw : ∀ a : Int, a = 1 ∨ a = 2 ∨ a = 3 → (Lit.int .i64 a).wf = true := by rintro a (rfl | rfl | rfl) <;> rfl
  have hkey : ∀ a : Int, (Lit.int .i64 a).wf = true → keyOf Tryz.prog 3 (.int .i64 a) = some (.int .i64 a) := fun a ha => Go.Maps.keyOf_int_mk Tryz.underlying3 ha
  have h0 := World.ownsMap_made w Tryz.prog 3 fnElem
  obtain ⟨w1, r1, h1, g1⟩ := h0.update law Tryz.underlying99 (by unfold maxLen; omega) (hkey 1 (hw 1 (by simp))) (val := .func (.func 52) #[] #[]) (d := .lit (.int .i64 52)) (ps := []) rfl
  obtain ⟨w2, r2, h2, g2⟩ := h1.update law Tryz.underlying99 (by unfold maxLen; omega) (hkey 2 (hw 2 (by simp))) (val := .func (.func 53) #[] #[]) (d := .lit (.int .i64 53)) (ps := []) rfl
  obtain ⟨w3, r3, h3, g3⟩ := h2.update law Tryz.underlying99 (by unfold maxLen; omega) (hkey 3 (hw 3 (by simp))) (val := .func (.func 54) #[] #[]) (d := .lit (.int .i64 54)) (ps := []) rfl
  obtain ⟨v, ps, r4, hv⟩ := h3.look_ok law Tryz.underlying99 (zeroFn w3) (zd := .lit (.bool false)) (zp := []) rfl (hkey k hk)
  have hlit : ∀ a b : Int, a ≠ b → (Lit.int .i64 a) ≠ (Lit.int .i64 b) := fun a b h e => h (by injection e)
  have hM0 : IsMap (DataW.map [] : DataW Unit) := ⟨_, rfl⟩
  have hM1 : IsMap ((DataW.map [] : DataW Unit).put (.int .i64 1) (.lit (.int .i64 52))) := h1.isMap
  have hM2 : IsMap (((DataW.map [] : DataW Unit).put (.int .i64 1) (.lit (.int .i64 52))).put (.int .i64 2) (.lit (.int .i64 53))) := h2.isMap
  have hkl : ∀ a : Int, WideAt.IsKeyLit (Lit.int .i64 a) := fun a => trivial
  have hv' : v = kindF k ∧ Maps.has ((((DataW.map [] : DataW Unit).put (.int .i64 1) (.lit (.int .i64 52))).put (.int .i64 2) (.lit (.int .i64 53))).put (.int .i64 3) (.lit (.int .i64 54))) (.int .i64 k) = kindB k := by
    by_cases e3 : k = 3
    · subst e3
      rw [Maps.atKey_put_same hM2 (hkl 3)] at hv
      exact ⟨fnElem_inv hv, Maps.has_put_same hM2 (hkl 3) _⟩
    · rw [Maps.atKey_put_other (hlit _ _ e3)] at hv
      rw [Maps.has_put_other (hlit _ _ e3)]
      by_cases e2 : k = 2
      · subst e2
        rw [Maps.atKey_put_same hM1 (hkl 2)] at hv
        exact ⟨fnElem_inv hv, Maps.has_put_same hM1 (hkl 2) _⟩
      · rw [Maps.atKey_put_other (hlit _ _ e2)] at hv
        rw [Maps.has_put_other (hlit _ _ e2)]
        by_cases e1 : k = 1
        · subst e1
          rw [Maps.atKey_put_same hM0 (hkl 1)] at hv
          exact ⟨fnElem_inv hv, Maps.has_put_same hM0 (hkl 1) _⟩
        · rw [Maps.atKey_put_other (hlit _ _ e1)] at hv
          rw [Maps.has_put_other (hlit _ _ e1)]
          refine ⟨?_, ?_⟩
          · have := fnElem_nil (v := v) (ps := ps) hv
            simp [kindF, e1, e2, e3, this]
          · simp [kindB, e1, e2, e3, Maps.has]
  refine ⟨w1, w2, w3, r1, r2, r3, by rw [← hv'.1, ← hv'.2]; exact r4, ?_⟩
  exact ((((below_new w _).grown g1 (by simp) (fun j e => by cases e; exact Nat.le_refl _)).grown g2 (Nat.le_trans (by simp) g1.size) (fun j e => by cases e; exact Nat.le_refl _)).grown g3 (Nat.le_trans (Nat.le_trans (by simp) g1.size) g2.size) (fun j e => by cases e; exact Nat.le_refl _))
/-- the first error of a window; its extent where there is none -/
def kindR (k W M : Int) : Bool := if k = 1 then decide (W = 0) && decide (M = 0) else if k = 2 then decide (1 ≤ W) && decide (W ≤ 1048576) && decide (M = 0) else decide (W = 0) && decide (0 ≤ M) && decide (M ≤ 2016)
def chkW (k W M : Int) : Int := if kindB k = false then 8 else if kindR k W M = false then 1 else 0
def extW (k W : Int) : Int := if k = 2 then W else 1048577
def extM (k M : Int) : Int := if k = 3 then M else 2016
theorem chkW_ok {k W M : Int} (h : chkW k W M = 0) : kindB k = true ∧ kindR k W M = true := by
  unfold chkW at h
  cases h1 : kindB k <;> cases h2 : kindR k W M <;> simp [h1, h2] at h ⊢
theorem ext_bounds {k W M : Int} (h : chkW k W M = 0) : 1 ≤ extW k W ∧ extW k W ≤ 1048577 ∧ 0 ≤ extM k M ∧ extM k M ≤ 2016 := by
  obtain ⟨h1, h2⟩ := chkW_ok h
  simp [kindB] at h1
  rcases h1 with (rfl | rfl) | rfl <;> simp [kindR, extW, extM] at h2 ⊢ <;> omega
theorem ret_ext2 {fn : Func} {R : Ending → World → Prop} {a : Act} {w : World} {b : Int} (hres : fn.results = #[.cell 2 74, .tmp 3]) (hd : a.defers = []) (g : Nat) (hp : a.tmps.getD 2 undef = .pointer (some ⟨g, 0, none⟩)) (h3 : a.tmps.getD 3 undef = .int .i64 b)
    {v0 v1 : Value} (hb : w.heap[g]? = some (.cells #[v0, v1] 74 (0, 0))) (h : R (.returned (.tuple #[.agg #[v0, v1], .int .i64 b])) w) : bodyPost Tryz.prog fn R .ret a w := by
  have hc := Go.Joins.cell_of_block hb
  have y0 := hc 0; have y1 := hc 1
  simp only [List.getElem?_toArray, List.getElem?_cons_succ, List.getElem?_cons_zero] at y0 y1
  have hp' : (a.tmps[2]?).getD undef = .pointer (some ⟨g, 0, none⟩) := by simpa using hp
  have h3' : (a.tmps[3]?).getD undef = .int .i64 b := by simpa using h3
  refine bodyPost_ret (v := .tuple #[.agg #[v0, v1], .int .i64 b]) ?_ hd h
  clear hp h3 h hd hb hc
  simp [results, hres, go_sem, hp', h3', y0, y1]
set_option maxHeartbeats 4000000 in
set_option maxRecDepth 100000 in
theorem extentOf_any (k W M : Int) (hk : (Lit.int .i64 k).wf = true) (w : World) : Calls Tryz.prog 33 #[.agg #[.int .i64 k, .int .i64 W, .int .i64 M]] w fun e w' =>
    (∃ a b, (chkW k W M = 0 → a = extW k W ∧ b = extM k M) ∧ e = .returned (.tuple #[.agg #[.int .i64 a, .int .i64 b], .int .i64 (chkW k W M)])) ∧ Below w.heap.size w w' := by
  obtain ⟨w1, w2, w3, r1, r2, r3, r4, hB3⟩ := kinds_map ((w.alloc (.cells #[.int .i64 k, .int .i64 W, .int .i64 M] 26)).alloc (.cells #[.int .i64 0, .int .i64 0] 74)) k hk
  simp only [World.size_alloc] at r1 r2 r3 r4 hB3
  have hmm := @run_makeMap Tryz.prog
  have hz := (hB3.block (w.heap.size + 1) (by first | omega | simp)).trans (show _ = some (Obj.cells #[.int .i64 0, .int .i64 0] 74 (0, 0)) by have := heap_alloc_new (w.alloc (.cells #[.int .i64 k, .int .i64 W, .int .i64 M] 26)) (.cells #[.int .i64 0, .int .i64 0] 74); simpa using this)
  have hw := (hB3.block w.heap.size (by first | omega | (simp; omega) | simp)).trans (show _ = some (Obj.cells #[.int .i64 k, .int .i64 W, .int .i64 M] 26 (0, 0)) by rw [Below.heap_alloc _ _ _ (by simp)]; exact heap_alloc_new _ _)
  have HZ := Lib.hid hz
  have HW := Lib.hid hw
  have HB : Hid (Below w.heap.size w w3) := ((below_new _ _).alloc (by simp) _).trans (hB3.mono (by first | omega | (simp; omega) | simp))
  have hwc := Go.Joins.cell_of_block hw
  have c0 := hwc 0; have c1 := hwc 1; have c2 := hwc 2
  have hzc := Go.Joins.cell_of_block hz
  have z0 := hzc 0; have z1 := hzc 1
  simp only [List.getElem?_toArray, List.getElem?_cons_succ, List.getElem?_cons_zero] at c0 c1 c2 z0 z1
  have f0 := Go.Joins.unfrozen_of_block hz 0; have f1 := Go.Joins.unfrozen_of_block hz 1
  have hs3 : w.heap.size + 1 < w3.heap.size := Nat.lt_of_lt_of_le (by first | omega | simp) hB3.size
  clear hz hw hwc hzc hB3 hk
  have hst : Hid (∀ (u : World) (v0 v1 : Value), Below w3.heap.size w3 u → ((u.setCell ⟨w.heap.size + 1, 0, none⟩ v0).setCell ⟨w.heap.size + 1, 1, none⟩ v1).heap[w.heap.size + 1]? = some (.cells #[v0, v1] 74 (0, 0)) ∧ Below w.heap.size w ((u.setCell ⟨w.heap.size + 1, 0, none⟩ v0).setCell ⟨w.heap.size + 1, 1, none⟩ v1)) := by
    intro u v0 v1 hb
    refine ⟨setCell_cells (setCell_cells ((hb.block _ hs3).trans HZ.out) 0 v0) 1 v1, ((HB.out.trans (hb.mono HB.out.size)).setCell (p := ⟨w.heap.size + 1, 0, none⟩) (by simp) _).setCell (p := ⟨w.heap.size + 1, 1, none⟩) (by simp) _⟩
  have hsa : Hid (∀ (u : World) (v0 v1 : Value) (o : Obj), Below w3.heap.size w3 u → (((u.setCell ⟨w.heap.size + 1, 0, none⟩ v0).setCell ⟨w.heap.size + 1, 1, none⟩ v1).alloc o).heap[w.heap.size + 1]? = some (.cells #[v0, v1] 74 (0, 0)) ∧ Below w.heap.size w (((u.setCell ⟨w.heap.size + 1, 0, none⟩ v0).setCell ⟨w.heap.size + 1, 1, none⟩ v1).alloc o)) := by
    intro u v0 v1 o hb
    obtain ⟨h1, h2⟩ := hst.out u v0 v1 hb
    exact ⟨(Below.heap_alloc _ _ _ (lt_of_some h1)).trans h1, h2.alloc h2.size _⟩
  cases hb : kindB k with
  | false =>
    have HC : Hid (chkW k W M = 8) := by show _ = _; unfold chkW; rw [if_pos hb]
    rw [hb] at r4
    rw [HC.out]
    go_enter Tryz.func33, Tryz.ntmps33
    go_wp2
    exact ret_ext2 rfl rfl (w.heap.size + 1) rfl rfl (hst.out w3 _ _ (Below.refl _ _)).1 ⟨⟨0, 0, fun h => absurd h (by decide), rfl⟩, (hst.out w3 _ _ (Below.refl _ _)).2⟩
  | true =>
    rw [hb] at r4
    have hkk : k = 1 ∨ k = 2 ∨ k = 3 := by simp [kindB] at hb; omega
    rcases hkk with rfl | rfl | rfl
    · have C := Lib.hid (fun u => allLinks_any 1 W M u)
      have HR0 : Hid (kindR 1 W M = (decide (W = 0) && decide (M = 0))) := rfl
      obtain ⟨R, HR⟩ : ∃ R, Hid ((decide (W = 0) && decide (M = 0)) = R) := ⟨_, rfl⟩
      rw [HR.out] at HR0
      simp only [HR.out] at C
      have HC : Hid (chkW 1 W M = if R = false then 1 else 0) := by show _ = _; unfold chkW; rw [if_neg (by decide), HR0.out]
      rw [show kindF 1 = .func (.func 52) #[] #[] from rfl] at r4
      clear HR HR0 hb
      cases R with
      | false =>
        rw [HC.out.trans (if_pos rfl)]
        go_enter Tryz.func33, Tryz.ntmps33
        go_wp2_with fail
        refine (C.out _).mono ?_
        rintro e u ⟨rfl, hb⟩
        have HBU := Lib.hid hb
        have u0 := (hb.cell (p := ⟨w.heap.size + 1, 0, none⟩) hs3).trans z0
        have u1 := (hb.cell (p := ⟨w.heap.size + 1, 1, none⟩) hs3).trans z1
        have k0 := Go.Joins.unfrozen_of_block ((hb.block _ hs3).trans HZ.out) 0; have k1 := Go.Joins.unfrozen_of_block ((hb.block _ hs3).trans HZ.out) 1
        have hus := Nat.lt_of_lt_of_le hs3 hb.size
        clear hb r1 r2 r3 r4 hmm c0 c1 c2 z0 z1 f0 f1
        go_wp2
        have hal := hsa.out u (.int .i64 0) (.int .i64 0) (.cells #[.int .i64 (1048577), .int .i64 (2016)] 74) HBU.out
        exact ret_ext2 rfl rfl (w.heap.size + 1) rfl rfl hal.1 ⟨⟨_, _, fun h => absurd h (by decide), rfl⟩, hal.2⟩
      | true =>
        rw [HC.out.trans (if_neg (by decide))]
        go_enter Tryz.func33, Tryz.ntmps33
        go_wp2_with fail
        refine (C.out _).mono ?_
        rintro e u ⟨rfl, hb⟩
        have HBU := Lib.hid hb
        have u0 := (hb.cell (p := ⟨w.heap.size + 1, 0, none⟩) hs3).trans z0
        have u1 := (hb.cell (p := ⟨w.heap.size + 1, 1, none⟩) hs3).trans z1
        have k0 := Go.Joins.unfrozen_of_block ((hb.block _ hs3).trans HZ.out) 0; have k1 := Go.Joins.unfrozen_of_block ((hb.block _ hs3).trans HZ.out) 1
        have hus := Nat.lt_of_lt_of_le hs3 hb.size
        clear hb r1 r2 r3 r4 hmm c0 c1 c2 z0 z1 f0 f1
        go_wp2
        have hal := hsa.out u (.int .i64 (1048577)) (.int .i64 (2016)) (.cells #[.int .i64 (1048577), .int .i64 (2016)] 74) HBU.out
        exact ret_ext2 rfl rfl (w.heap.size + 1) rfl rfl hal.1 ⟨⟨_, _, fun _ => ⟨rfl, rfl⟩, rfl⟩, hal.2⟩
    · have C := Lib.hid (fun u => recentLinks_any 2 W M u)
      have HR0 : Hid (kindR 2 W M = (decide (1 ≤ W) && decide (W ≤ 1048576) && decide (M = 0))) := rfl
      obtain ⟨R, HR⟩ : ∃ R, Hid ((decide (1 ≤ W) && decide (W ≤ 1048576) && decide (M = 0)) = R) := ⟨_, rfl⟩
      rw [HR.out] at HR0
      simp only [HR.out] at C
      have HC : Hid (chkW 2 W M = if R = false then 1 else 0) := by show _ = _; unfold chkW; rw [if_neg (by decide), HR0.out]
      rw [show kindF 2 = .func (.func 53) #[] #[] from rfl] at r4
      clear HR HR0 hb
      cases R with
      | false =>
        rw [HC.out.trans (if_pos rfl)]
        go_enter Tryz.func33, Tryz.ntmps33
        go_wp2_with fail
        refine (C.out _).mono ?_
        rintro e u ⟨rfl, hb⟩
        have HBU := Lib.hid hb
        have u0 := (hb.cell (p := ⟨w.heap.size + 1, 0, none⟩) hs3).trans z0
        have u1 := (hb.cell (p := ⟨w.heap.size + 1, 1, none⟩) hs3).trans z1
        have k0 := Go.Joins.unfrozen_of_block ((hb.block _ hs3).trans HZ.out) 0; have k1 := Go.Joins.unfrozen_of_block ((hb.block _ hs3).trans HZ.out) 1
        have hus := Nat.lt_of_lt_of_le hs3 hb.size
        clear hb r1 r2 r3 r4 hmm c0 c1 c2 z0 z1 f0 f1
        go_wp2
        have hal := hsa.out u (.int .i64 0) (.int .i64 0) (.cells #[.int .i64 (W), .int .i64 (2016)] 74) HBU.out
        exact ret_ext2 rfl rfl (w.heap.size + 1) rfl rfl hal.1 ⟨⟨_, _, fun h => absurd h (by decide), rfl⟩, hal.2⟩
      | true =>
        rw [HC.out.trans (if_neg (by decide))]
        go_enter Tryz.func33, Tryz.ntmps33
        go_wp2_with fail
        refine (C.out _).mono ?_
        rintro e u ⟨rfl, hb⟩
        have HBU := Lib.hid hb
        have u0 := (hb.cell (p := ⟨w.heap.size + 1, 0, none⟩) hs3).trans z0
        have u1 := (hb.cell (p := ⟨w.heap.size + 1, 1, none⟩) hs3).trans z1
        have k0 := Go.Joins.unfrozen_of_block ((hb.block _ hs3).trans HZ.out) 0; have k1 := Go.Joins.unfrozen_of_block ((hb.block _ hs3).trans HZ.out) 1
        have hus := Nat.lt_of_lt_of_le hs3 hb.size
        clear hb r1 r2 r3 r4 hmm c0 c1 c2 z0 z1 f0 f1
        go_wp2
        have hal := hsa.out u (.int .i64 (W)) (.int .i64 (2016)) (.cells #[.int .i64 (W), .int .i64 (2016)] 74) HBU.out
        exact ret_ext2 rfl rfl (w.heap.size + 1) rfl rfl hal.1 ⟨⟨_, _, fun _ => ⟨rfl, rfl⟩, rfl⟩, hal.2⟩
    · have C := Lib.hid (fun u => lastLinks_any 3 W M u)
      have HR0 : Hid (kindR 3 W M = (decide (W = 0) && decide (0 ≤ M) && decide (M ≤ 2016))) := rfl
      obtain ⟨R, HR⟩ : ∃ R, Hid ((decide (W = 0) && decide (0 ≤ M) && decide (M ≤ 2016)) = R) := ⟨_, rfl⟩
      rw [HR.out] at HR0
      simp only [HR.out] at C
      have HC : Hid (chkW 3 W M = if R = false then 1 else 0) := by show _ = _; unfold chkW; rw [if_neg (by decide), HR0.out]
      rw [show kindF 3 = .func (.func 54) #[] #[] from rfl] at r4
      clear HR HR0 hb
      cases R with
      | false =>
        rw [HC.out.trans (if_pos rfl)]
        go_enter Tryz.func33, Tryz.ntmps33
        go_wp2_with fail
        refine (C.out _).mono ?_
        rintro e u ⟨rfl, hb⟩
        have HBU := Lib.hid hb
        have u0 := (hb.cell (p := ⟨w.heap.size + 1, 0, none⟩) hs3).trans z0
        have u1 := (hb.cell (p := ⟨w.heap.size + 1, 1, none⟩) hs3).trans z1
        have k0 := Go.Joins.unfrozen_of_block ((hb.block _ hs3).trans HZ.out) 0; have k1 := Go.Joins.unfrozen_of_block ((hb.block _ hs3).trans HZ.out) 1
        have hus := Nat.lt_of_lt_of_le hs3 hb.size
        clear hb r1 r2 r3 r4 hmm c0 c1 c2 z0 z1 f0 f1
        go_wp2
        have hal := hsa.out u (.int .i64 0) (.int .i64 0) (.cells #[.int .i64 (1048577), .int .i64 (M)] 74) HBU.out
        exact ret_ext2 rfl rfl (w.heap.size + 1) rfl rfl hal.1 ⟨⟨_, _, fun h => absurd h (by decide), rfl⟩, hal.2⟩
      | true =>
        rw [HC.out.trans (if_neg (by decide))]
        go_enter Tryz.func33, Tryz.ntmps33
        go_wp2_with fail
        refine (C.out _).mono ?_
        rintro e u ⟨rfl, hb⟩
        have HBU := Lib.hid hb
        have u0 := (hb.cell (p := ⟨w.heap.size + 1, 0, none⟩) hs3).trans z0
        have u1 := (hb.cell (p := ⟨w.heap.size + 1, 1, none⟩) hs3).trans z1
        have k0 := Go.Joins.unfrozen_of_block ((hb.block _ hs3).trans HZ.out) 0; have k1 := Go.Joins.unfrozen_of_block ((hb.block _ hs3).trans HZ.out) 1
        have hus := Nat.lt_of_lt_of_le hs3 hb.size
        clear hb r1 r2 r3 r4 hmm c0 c1 c2 z0 z1 f0 f1
        go_wp2
        have hal := hsa.out u (.int .i64 (1048577)) (.int .i64 (M)) (.cells #[.int .i64 (1048577), .int .i64 (M)] 74) HBU.out
        exact ret_ext2 rfl rfl (w.heap.size + 1) rfl rfl hal.1 ⟨⟨_, _, fun _ => ⟨rfl, rfl⟩, rfl⟩, hal.2⟩
end Go.Proofs.YtfapfkaipdcflaaGreat
