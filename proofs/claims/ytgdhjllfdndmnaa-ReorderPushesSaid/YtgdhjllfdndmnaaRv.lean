/-
  The reference's Flush and Push.
-/
import Derived.Test.YtgdhjllfdndmnaaRu
namespace Go.Proofs.Ytgdhjllfdndmnaa
open Go.RowKit Go.Lib

set_option maxHeartbeats 2000000 in
theorem rflush_any (n L M : Int) (A : Option Addr) (c : Nat) (l : List Ev) (w : World) (h : RV w.heap.size w A c l) (hl : l.length ≤ 60000) :
    Calls Try.prog 22 #[.agg #[.int .i64 n, .int .i64 L, .int .i64 M, .slice A l.length c]] w (FlushP ⟨n, L, M, l⟩ w) := by
  obtain ⟨W1, HW1⟩ : ∃ W1, Hid ((w.alloc (.cells #[.int .i64 n, .int .i64 L, .int .i64 M, .slice A l.length c] 24)).alloc (.cells #[.int .i64 0, .int .i64 0, .int .i64 0, .slice none 0 0] 24) = W1) := ⟨_, rfl⟩
  obtain ⟨G, HGG⟩ : ∃ G, Hid (w.heap.size = G) := ⟨_, rfl⟩
  have hn2 := new_two w (.cells #[.int .i64 n, .int .i64 L, .int .i64 M, .slice A l.length c] 24) (.cells #[.int .i64 0, .int .i64 0, .int .i64 0, .slice none 0 0] 24)
  rw [HW1.out, HGG.out] at hn2
  have HN := Lib.hid hn2
  have hs1 := hn2.2.2.1
  have HB1 : Hid (Below w.heap.size w W1) := by have := hn2.2.2.2; rwa [← HGG.out] at this
  have H1 := Lib.hid (h.up HB1.out)
  have CV := Lib.hid (rvalid_any n L M A c l W1 H1.out (by omega))
  have HL := Lib.hid hl
  clear hn2 h hl
  go_enter Try.func22, Try.ntmps22
  go_wp2_with fail
  rw [HW1.out, HGG.out]
  refine CV.out.mono ?_
  rintro e w2 ⟨rfl, hb⟩
  have HB2 := Lib.hid hb
  have HB02 : Hid (Below w.heap.size w w2) := HB1.out.trans (hb.mono HB1.out.size)
  have hs2 : G + 2 ≤ w2.heap.size := by have := hb.size; rw [hs1] at this; exact this
  have k0 := (hb.block G (by rw [hs1]; omega)).trans HN.out.1
  have k1 := (hb.block (G + 1) (by rw [hs1]; omega)).trans HN.out.2.1
  have K1 := Lib.hid k1
  have H2 := Lib.hid (H1.out.up hb)
  have aC := Go.Joins.cell_of_block (k0)
  have a0 := aC 0; have a1 := aC 1; have a2 := aC 2; have a3 := aC 3
  simp only [List.getElem?_toArray, List.getElem?_cons_succ, List.getElem?_cons_zero] at a0 a1 a2 a3
  clear aC
  have bC := Go.Joins.cell_of_block (k1)
  have b0 := bC 0; have b1 := bC 1; have b2 := bC 2; have b3 := bC 3
  simp only [List.getElem?_toArray, List.getElem?_cons_succ, List.getElem?_cons_zero] at b0 b1 b2 b3
  have bF := Go.Joins.unfrozen_of_block (k1)
  have bf0 := bF 0; have bf1 := bF 1; have bf2 := bF 2; have bf3 := bF 3
  clear bF
  clear bC
  clear CV k0 k1 hb
  by_cases hV : Rd.V ⟨n, L, M, l⟩
  · have hdV : decide (Rd.V ⟨n, L, M, l⟩) = true := by simpa using hV
    have HFE : Hid (flushE ⟨n, L, M, l⟩ = 0) := by show _ = _; rw [flushE, if_pos hV]
    have HFB : Hid (flushB ⟨n, L, M, l⟩ = Rd.rel ⟨n, L, M, l⟩ L) := by show _ = _; rw [flushB, if_pos hV]
    simp only [hdV]
    clear hdV hV
    have CR := Lib.hid (rrelease_any n L M L A c l w2 H2.out (by have := HL.out; omega))
    go_wp2_with fail
    refine CR.out.mono ?_
    rintro e w3 ⟨A3, A4, c3, c4, rfl, ho6, hr6, hb6⟩
    have HO6 := Lib.hid ho6
    have HR6 := Lib.hid hr6.1
    have HB6 : Hid (Below w.heap.size w w3) := HB02.out.trans (hb6.mono HB02.out.size)
    have i2 := (hb6.block (G + 1) (by omega)).trans K1.out
    have I2 := Lib.hid i2
    have hs6 : G + 1 < w3.heap.size := Nat.lt_of_lt_of_le (by omega) (Nat.le_trans hs2 hb6.size)
    obtain ⟨⟨nb, nl, nm, nw⟩, HBB⟩ : ∃ BB, Hid ((Rd.rel ⟨n, L, M, l⟩ L).1 = BB) := ⟨_, rfl⟩
    obtain ⟨RR, HRR⟩ : ∃ RR, Hid ((Rd.rel ⟨n, L, M, l⟩ L).2 = RR) := ⟨_, rfl⟩
    rw [HBB.out] at HO6 ⊢
    rw [HRR.out] at HR6 ⊢
    dsimp only at HO6 ⊢
    have ooC := Go.Joins.cell_of_block (i2)
    have oo0 := ooC 0; have oo1 := ooC 1; have oo2 := ooC 2; have oo3 := ooC 3
    simp only [List.getElem?_toArray, List.getElem?_cons_succ, List.getElem?_cons_zero] at oo0 oo1 oo2 oo3
    have ooF := Go.Joins.unfrozen_of_block (i2)
    have oof0 := ooF 0; have oof1 := ooF 1; have oof2 := ooF 2; have oof3 := ooF 3
    clear ooF
    clear ooC
    clear ho6 hr6 hb6 CR a0 a1 a2 a3 b0 b1 b2 b3 bf0 bf1 bf2 bf3 i2
    go_wp2
    have hblk0 := set4_blk I2.out (.int .i64 nb) (.int .i64 nl) (.int .i64 nm) (.slice A3 nw.length c3)
    have hT : Below w.heap.size w _ := below_set4 (g := G + 1) HB6.out (by rw [HGG.out]; omega) (.int .i64 nb) (.int .i64 nl) (.int .i64 nm) (.slice A3 nw.length c3)
    have hr1 := rv_box I2.out (.int .i64 nb) (.int .i64 nl) (.int .i64 nm) (.slice A3 nw.length c3) _ _ _ HO6.out.rv
    have hr2 := rv_box I2.out (.int .i64 nb) (.int .i64 nl) (.int .i64 nm) (.slice A3 nw.length c3) _ _ _ HR6.out
    have hz : Below _ _ _ := below_new ((((w3.setCell ⟨G + 1, 0, none⟩ (.int .i64 nb)).setCell ⟨G + 1, 1, none⟩ (.int .i64 nl)).setCell ⟨G + 1, 2, none⟩ (.int .i64 nm)).setCell ⟨G + 1, 3, none⟩ (.slice A3 nw.length c3)) (.cells #[.int .i64 nb, .int .i64 nl, .int .i64 nm, .slice A3 nw.length c3] 24)
    have hblk := (hz.block (G + 1) (lt_of_some hblk0)).trans hblk0
    exact ret_buf3 (p := 2) (q := 3) (r := 4) Try.results22 rfl (G + 1) rfl _ _ rfl rfl hblk ⟨⟨nb, nl, nm, nw⟩, RR, A3, A4, c3, c4, by rw [HFE.out]; rfl, by rw [HFB.out, ← HBB.out, ← HRR.out], hr1.up hz, hr2.up hz, hT.trans (hz.mono hT.size)⟩
  · have hdV : decide (Rd.V ⟨n, L, M, l⟩) = false := by simpa using hV
    have HFE : Hid (flushE ⟨n, L, M, l⟩ = 4) := by show _ = _; rw [flushE, if_neg hV]
    have HFB : Hid (flushB ⟨n, L, M, l⟩ = (⟨0, 0, 0, []⟩, [])) := by show _ = _; rw [flushB, if_neg hV]
    simp only [hdV]
    clear hdV hV
    go_wp2
    have hblk := set4_blk K1.out (.int .i64 0) (.int .i64 0) (.int .i64 0) (.slice none 0 0)
    have hT : Below w.heap.size w _ := below_set4 (g := G + 1) HB02.out (by rw [HGG.out]; omega) (.int .i64 0) (.int .i64 0) (.int .i64 0) (.slice none 0 0)
    exact ret_buf3 (p := 2) (q := 3) (r := 4) Try.results22 rfl (G + 1) rfl _ _ rfl rfl hblk ⟨⟨0, 0, 0, []⟩, [], none, none, 0, 0, by rw [HFE.out]; rfl, by rw [HFB.out], RX.nil_ _ _ _ _, RX.nil_ _ _ _ _, hT⟩
theorem cells4 {w : World} {g : Nat} {a0 a1 a2 a3 : Value} {T : TypeId} {z : Nat × Nat} (h : w.heap[g]? = some (.cells #[a0, a1, a2, a3] T z)) : w.cell? ⟨g, 0, none⟩ = some a0 ∧ w.cell? ⟨g, 1, none⟩ = some a1 ∧ w.cell? ⟨g, 2, none⟩ = some a2 ∧ w.cell? ⟨g, 3, none⟩ = some a3 :=
  ⟨Go.Joins.cell_of_block h 0, Go.Joins.cell_of_block h 1, Go.Joins.cell_of_block h 2, Go.Joins.cell_of_block h 3⟩
theorem gr_below {B : Nat} {w w' : World} {row : Option Nat} (h : w.grownBy w' row) (hr : ∀ k, row = some k → B ≤ k) (hB : B ≤ w.heap.size) : Below B w w' :=
  ⟨h.os, h.tape, h.output, h.size, fun k hk => h.block k (by omega) (fun e => by have := hr k e.symm; omega)⟩
theorem below_draw (B : Nat) (w : World) (n : Nat) : Below B w (w.drewN n) := ⟨rfl, rfl, rfl, Nat.le_refl _, fun _ _ => rfl⟩
/-- what is known while an event is put between two lists -/
structure J2 (B : Nat) (A9 : Option Addr) (c9 : Nat) (l9 : List Ev) (e : Ev) (rs : List Ev) (f : Nat → Bool) (a : Act) (w : World) : Prop where
  sz : a.tmps.size = 90
  bs : B ≤ w.heap.size
  s0 : f 3 = false → OE B w A9 c9 l9
  s1 : f 2 = true → f 3 = false → ∃ vb, a.eval (.tmp 63) = .slice (some ⟨vb, 0, none⟩) 1 1 ∧ RV w.heap.size w (some ⟨vb, 0, none⟩) 1 [e]
  s2 : f 3 = true → f 8 = false → ∃ A' c', a.eval (.tmp 64) = .slice A' (l9 ++ [e]).length c' ∧ OE B w A' c' (l9 ++ [e])
  s3 : f 8 = true → ∃ A' c', a.eval (.tmp 69) = .slice A' (l9 ++ [e] ++ rs).length c' ∧ OE B w A' c' (l9 ++ [e] ++ rs)
section
variable {B : Nat} {A9 : Option Addr} {c9 : Nat} {l9 rs : List Ev} {e : Ev} {f : Nat → Bool} {a : Act} {w w' : World}
theorem J2.put {i d : Nat} {v : Value} (h : J2 B A9 c9 l9 e rs f a w) (hd : d ≠ 63 ∧ d ≠ 64 ∧ d ≠ 69) (hi : i ≠ 2 ∧ i ≠ 3 ∧ i ≠ 8) : J2 B A9 c9 l9 e rs (fun k => if k = i then true else f k) (a.put (some d) v) w := by
  have e2 : (if 2 = i then true else f 2) = f 2 := if_neg (Ne.symm hi.1)
  have e3 : (if 3 = i then true else f 3) = f 3 := if_neg (Ne.symm hi.2.1)
  have e8 : (if 8 = i then true else f 8) = f 8 := if_neg (Ne.symm hi.2.2)
  refine ⟨by rw [size_put]; exact h.sz, h.bs, fun h1 => h.s0 (e3 ▸ h1), fun h1 h2 => ?_, fun h1 h2 => ?_, fun h1 => ?_⟩
  · rw [eval_put_other hd.1]; exact h.s1 (e2 ▸ h1) (e3 ▸ h2)
  · rw [eval_put_other hd.2.1]; exact h.s2 (e3 ▸ h1) (e8 ▸ h2)
  · rw [eval_put_other hd.2.2]; exact h.s3 (e8 ▸ h1)
theorem J2.new1 (h : J2 B A9 c9 l9 e rs f a w) (_ : f 2 = false) : J2 B A9 c9 l9 e rs (fun k => if k = 2 then true else f k) (a.put (some 63) (.slice (some ⟨w.heap.size, 0, none⟩) 1 1)) (w.alloc (.cells #[.int .i64 e.kind, .int .i64 e.time, .int .i64 e.u, .int .i64 e.v, .int .i64 e.weight, .int .i64 e.label, .int .i64 e.sign] 26)) := by
  have hb := below_new w (.cells #[.int .i64 e.kind, .int .i64 e.time, .int .i64 e.u, .int .i64 e.v, .int .i64 e.weight, .int .i64 e.label, .int .i64 e.sign] 26)
  refine ⟨by rw [size_put]; exact h.sz, Nat.le_trans h.bs hb.size, fun h1 => own_up (h.s0 h1) hb, fun _ _ => ⟨_, eval_put_same (by rw [h.sz]; decide), RV_newE w e⟩, fun h1 h2 => ?_, fun h1 => ?_⟩
  · obtain ⟨A', c', e1, ho⟩ := h.s2 h1 h2
    exact ⟨A', c', by rw [eval_put_other (by decide)]; exact e1, own_up ho hb⟩
  · obtain ⟨A', c', e1, ho⟩ := h.s3 h1
    exact ⟨A', c', by rw [eval_put_other (by decide)]; exact e1, own_up ho hb⟩
theorem J2.done1 {A' : Option Addr} {c' : Nat} (h : J2 B A9 c9 l9 e rs f a w) (ho : OE B w' A' c' (l9 ++ [e])) (hb : B ≤ w'.heap.size) (h8 : f 8 = false) : J2 B A9 c9 l9 e rs (fun k => if k = 3 then true else f k) (a.put (some 64) (.slice A' (l9 ++ [e]).length c')) w' :=
  ⟨by rw [size_put]; exact h.sz, hb, fun h1 => by simp at h1, fun _ h1 => by simp at h1, fun _ _ => ⟨A', c', eval_put_same (by rw [h.sz]; decide), ho⟩, fun h1 => by simp [h8] at h1⟩
theorem J2.done2 {A' : Option Addr} {c' : Nat} (h : J2 B A9 c9 l9 e rs f a w) (ho : OE B w' A' c' (l9 ++ [e] ++ rs)) (hb : B ≤ w'.heap.size) (h3 : f 3 = true) : J2 B A9 c9 l9 e rs (fun k => if k = 8 then true else f k) (a.put (some 69) (.slice A' (l9 ++ [e] ++ rs).length c')) w' :=
  ⟨by rw [size_put]; exact h.sz, hb, fun h1 => by simp [h3] at h1, fun _ h1 => by simp [h3] at h1, fun _ h1 => by simp at h1, fun _ => ⟨A', c', eval_put_same (by rw [h.sz]; decide), ho⟩⟩
end
set_option maxHeartbeats 8000000 in
set_option maxRecDepth 100000 in
theorem rpush_any (n L M : Int) (A : Option Addr) (c : Nat) (l : List Ev) (k s u v x y z : Int) (w : World) (h : RV w.heap.size w A c l) (hl : l.length ≤ 60000) :
    Calls Try.prog 18 #[.agg #[.int .i64 n, .int .i64 L, .int .i64 M, .slice A l.length c], .agg #[.int .i64 k, .int .i64 s, .int .i64 u, .int .i64 v, .int .i64 x, .int .i64 y, .int .i64 z]] w (PushP ⟨n, L, M, l⟩ ⟨k, s, u, v, x, y, z⟩ w) := by
  obtain ⟨W1, HW1⟩ : ∃ W1, Hid (((w.alloc (.cells #[.int .i64 n, .int .i64 L, .int .i64 M, .slice A l.length c] 24)).alloc (.cells #[.int .i64 k, .int .i64 s, .int .i64 u, .int .i64 v, .int .i64 x, .int .i64 y, .int .i64 z] 26)).alloc (.cells #[.int .i64 0, .int .i64 0, .int .i64 0, .slice none 0 0] 24) = W1) := ⟨_, rfl⟩
  obtain ⟨G, HGG⟩ : ∃ G, Hid (w.heap.size = G) := ⟨_, rfl⟩
  have hn3 := new_three w _ _ _ W1 HW1.out
  rw [HGG.out] at hn3
  have HN := Lib.hid hn3
  have hs1 := hn3.2.2.2.1
  have HB1 : Hid (Below w.heap.size w W1) := by have := hn3.2.2.2.2; rwa [← HGG.out] at this
  have H1 := Lib.hid (h.up HB1.out)
  have CV := Lib.hid (rvalid_any n L M A c l W1 H1.out (by omega))
  have HPE := Lib.hid (pushE_eq ⟨n, L, M, l⟩ ⟨k, s, u, v, x, y, z⟩)
  have HL := Lib.hid hl
  clear hn3 h hl
  go_enter Try.func18, Try.ntmps18
  go_wp2_with fail
  rw [HW1.out, HGG.out]
  refine CV.out.mono ?_
  rintro e w2 ⟨rfl, hb2⟩
  have HB2 := Lib.hid hb2
  have hs2 : G + 3 ≤ w2.heap.size := by have := hb2.size; rw [hs1] at this; exact this
  clear hb2 CV
  by_cases hV : Rd.V ⟨n, L, M, l⟩
  · have hdV : decide (Rd.V ⟨n, L, M, l⟩) = true := by simpa using hV
    have HV := Lib.hid hV
    have HPE1 : Hid (Rd.pushE ⟨n, L, M, l⟩ ⟨k, s, u, v, x, y, z⟩ = if chkE ⟨k, s, u, v, x, y, z⟩ ≠ 0 then chkE ⟨k, s, u, v, x, y, z⟩ else if s ≤ M then 10 else if 4096 ≤ l.length then 3 else 0) := by show _ = _; rw [HPE.out, if_neg (by simpa using hV)]; rfl
    have HBD : Hid ((0 ≤ n ∧ n ≤ 1048576) ∧ (-1 ≤ M ∧ M ≤ L ∧ L ≤ 1048576)) := by obtain ⟨i1, i2, i3, i4, i5, -⟩ := hV; exact ⟨⟨i1, i2⟩, i3, i4, i5⟩
    have HAS : Hid (Rd.Asc l) := hV.2.2.2.2.2.2.2
    simp only [hdV]
    clear hdV hV
    have CC := Lib.hid (rcheck_anyE k s u v x y z w2)
    have k1 := (HB2.out.block (G + 1) (by rw [hs1]; omega)).trans HN.out.2.1
    have bC := Go.Joins.cell_of_block (k1)
    have b0 := bC 0; have b1 := bC 1; have b2 := bC 2; have b3 := bC 3; have b4 := bC 4; have b5 := bC 5; have b6 := bC 6
    simp only [List.getElem?_toArray, List.getElem?_cons_succ, List.getElem?_cons_zero] at b0 b1 b2 b3 b4 b5 b6
    clear bC
    clear k1
    go_wp2_with fail
    refine CC.out.mono ?_
    rintro e w3 ⟨rfl, hb3⟩
    have HB3 : Hid (Below W1.heap.size W1 w3) := HB2.out.trans (hb3.mono HB2.out.size)
    have hs3 : G + 3 ≤ w3.heap.size := Nat.le_trans hs2 hb3.size
    clear hb3 CC b0 b1 b2 b3 b4 b5 b6
    have HCT : Hid (chkE ⟨k, s, u, v, x, y, z⟩ = 0 → 0 ≤ s ∧ s ≤ 1048576) := chk_time (e := ⟨k, s, u, v, x, y, z⟩)
    obtain ⟨X, HX⟩ : ∃ X, Hid (chkE ⟨k, s, u, v, x, y, z⟩ = X) := ⟨_, rfl⟩
    rw [HX.out] at HPE1 HCT
    simp only [HX.out]
    by_cases hX : X = 0
    · subst hX
      replace HPE1 : Hid (Rd.pushE ⟨n, L, M, l⟩ ⟨k, s, u, v, x, y, z⟩ = if s ≤ M then 10 else if 4096 ≤ l.length then 3 else 0) := by show _ = _; rw [HPE1.out, if_neg (by simp)]
      replace HCT := Lib.hid (HCT.out rfl)
      have k0 := (HB3.out.block G (by rw [hs1]; omega)).trans HN.out.1
      have k1 := (HB3.out.block (G + 1) (by rw [hs1]; omega)).trans HN.out.2.1
      have aC := Go.Joins.cell_of_block (k0)
      have a0 := aC 0; have a1 := aC 1; have a2 := aC 2; have a3 := aC 3
      simp only [List.getElem?_toArray, List.getElem?_cons_succ, List.getElem?_cons_zero] at a0 a1 a2 a3
      clear aC
      have bC := Go.Joins.cell_of_block (k1)
      have b0 := bC 0; have b1 := bC 1; have b2 := bC 2; have b3 := bC 3; have b4 := bC 4; have b5 := bC 5; have b6 := bC 6
      simp only [List.getElem?_toArray, List.getElem?_cons_succ, List.getElem?_cons_zero] at b0 b1 b2 b3 b4 b5 b6
      clear bC
      by_cases hM : s ≤ M
      · have d1 : decide (s ≤ M) = true := by simpa using hM
        have HPE2 : Hid (Rd.pushE ⟨n, L, M, l⟩ ⟨k, s, u, v, x, y, z⟩ = 10) := by show _ = _; rw [HPE1.out, if_pos hM]
        clear hM k0 k1
        have CC := Lib.hid (copied_any n L M A c l w3 (H1.out.up HB3.out) (by have := HL.out; omega))
        have k0 := (HB3.out.block G (by rw [hs1]; omega)).trans HN.out.1
        have aC := Go.Joins.cell_of_block (k0)
        have a0 := aC 0; have a1 := aC 1; have a2 := aC 2; have a3 := aC 3
        simp only [List.getElem?_toArray, List.getElem?_cons_succ, List.getElem?_cons_zero] at a0 a1 a2 a3
        clear aC
        go_wp2_with fail
        refine CC.out.mono ?_
        rintro e wy ⟨A1, c1, rfl, ho, hb⟩
        have HOY := Lib.hid ho
        have HBY : Hid (Below W1.heap.size W1 wy) := HB3.out.trans (hb.mono HB3.out.size)
        have k2 := (HBY.out.block (G + 2) (by rw [hs1]; omega)).trans HN.out.2.2.1
        have K2 := Lib.hid k2
        have ooC := Go.Joins.cell_of_block (k2)
        have oo0 := ooC 0; have oo1 := ooC 1; have oo2 := ooC 2; have oo3 := ooC 3
        simp only [List.getElem?_toArray, List.getElem?_cons_succ, List.getElem?_cons_zero] at oo0 oo1 oo2 oo3
        have ooF := Go.Joins.unfrozen_of_block (k2)
        have oof0 := ooF 0; have oof1 := ooF 1; have oof2 := ooF 2; have oof3 := ooF 3
        clear ooF
        clear ooC
        clear k0 k2 ho hb CC a0 a1 a2 a3
        go_wp2
        have hblk := set4_blk K2.out (.int .i64 n) (.int .i64 L) (.int .i64 M) (.slice A1 l.length c1)
        have hT : Below w.heap.size w _ := below_set4 (g := G + 2) (HB1.out.trans (HBY.out.mono HB1.out.size)) (by rw [HGG.out]; omega) (.int .i64 n) (.int .i64 L) (.int .i64 M) (.slice A1 l.length c1)
        exact ret_buf3 (p := 4) (q := 5) (r := 6) Try.results18 rfl (G + 2) rfl _ _ rfl rfl hblk ⟨⟨n, L, M, l⟩, [], A1, none, c1, 0, by rw [HPE2.out]; rfl, by rw [HPE2.out, if_neg (by decide)], ow_box K2.out _ _ _ _ (HOY.out.lo (Nat.le_trans HB1.out.size HB3.out.size)), RN.nil_ _ _ _ _, hT⟩
      · have d1 : decide (s ≤ M) = false := by simpa using hM
        by_cases hll : 4096 ≤ l.length
        · have d2 : decide ((l.length : Int) ≥ 4096) = true := by rw [decide_eq_true_eq]; omega
          have HPE2 : Hid (Rd.pushE ⟨n, L, M, l⟩ ⟨k, s, u, v, x, y, z⟩ = 3) := by show _ = _; rw [HPE1.out, if_neg hM, if_pos hll]
          clear hM hll k0 k1
          have CC := Lib.hid (copied_any n L M A c l w3 (H1.out.up HB3.out) (by have := HL.out; omega))
          have k0 := (HB3.out.block G (by rw [hs1]; omega)).trans HN.out.1
          have aC := Go.Joins.cell_of_block (k0)
          have a0 := aC 0; have a1 := aC 1; have a2 := aC 2; have a3 := aC 3
          simp only [List.getElem?_toArray, List.getElem?_cons_succ, List.getElem?_cons_zero] at a0 a1 a2 a3
          clear aC
          go_wp2_with fail
          refine CC.out.mono ?_
          rintro e wy ⟨A1, c1, rfl, ho, hb⟩
          have HOY := Lib.hid ho
          have HBY : Hid (Below W1.heap.size W1 wy) := HB3.out.trans (hb.mono HB3.out.size)
          have k2 := (HBY.out.block (G + 2) (by rw [hs1]; omega)).trans HN.out.2.2.1
          have K2 := Lib.hid k2
          have ooC := Go.Joins.cell_of_block (k2)
          have oo0 := ooC 0; have oo1 := ooC 1; have oo2 := ooC 2; have oo3 := ooC 3
          simp only [List.getElem?_toArray, List.getElem?_cons_succ, List.getElem?_cons_zero] at oo0 oo1 oo2 oo3
          have ooF := Go.Joins.unfrozen_of_block (k2)
          have oof0 := ooF 0; have oof1 := ooF 1; have oof2 := ooF 2; have oof3 := ooF 3
          clear ooF
          clear ooC
          clear k0 k2 ho hb CC a0 a1 a2 a3
          go_wp2
          have hblk := set4_blk K2.out (.int .i64 n) (.int .i64 L) (.int .i64 M) (.slice A1 l.length c1)
          have hT : Below w.heap.size w _ := below_set4 (g := G + 2) (HB1.out.trans (HBY.out.mono HB1.out.size)) (by rw [HGG.out]; omega) (.int .i64 n) (.int .i64 L) (.int .i64 M) (.slice A1 l.length c1)
          exact ret_buf3 (p := 4) (q := 5) (r := 6) Try.results18 rfl (G + 2) rfl _ _ rfl rfl hblk ⟨⟨n, L, M, l⟩, [], A1, none, c1, 0, by rw [HPE2.out]; rfl, by rw [HPE2.out, if_neg (by decide)], ow_box K2.out _ _ _ _ (HOY.out.lo (Nat.le_trans HB1.out.size HB3.out.size)), RN.nil_ _ _ _ _, hT⟩
        · have d2 : decide ((l.length : Int) ≥ 4096) = false := by rw [decide_eq_false_iff_not]; omega
          have HPE2 : Hid (Rd.pushE ⟨n, L, M, l⟩ ⟨k, s, u, v, x, y, z⟩ = 0) := by show _ = _; rw [HPE1.out, if_neg hM, if_neg hll]
          replace HBD : Hid ((0 ≤ s ∧ s ≤ 1048576) ∧ (0 ≤ n ∧ n ≤ 1048576) ∧ (-1 ≤ M ∧ M ≤ L ∧ L ≤ 1048576)) := ⟨HCT.out, HBD.out.1, HBD.out.2⟩
          obtain ⟨N, HNN⟩ : ∃ N, Hid (l.length = N) := ⟨_, rfl⟩
          rw [HNN.out] at d2 a3 ⊢
          clear hM hll k0 k1
          go_wp2_with fail
          clear a0 a1 a2 a3 b0 b1 b2 b3 b4 b5 b6 d1 d2
          have HI0 : Hid (∀ m a, N ≤ m → l[m]? = some a → s < a.time) := by
            show ∀ m a, _ → _ → _
            intro m a hm ha
            rw [List.getElem?_eq_none (by rw [HNN.out]; exact hm)] at ha
            cases ha
          go_loopw [8] (fun si wq => ∃ (i : Nat), si = .int .i64 i ∧ i ≤ N ∧ Hid (∀ m a, i ≤ m → l[m]? = some a → s < a.time) ∧ Hid (Below w3.heap.size w3 wq)) (fun si _ => (RowKit.intOf si).toNat)
          case atStart => exact ⟨N, rfl, Nat.le_refl _, HI0.out, Below.refl _ _⟩
          case round =>
            obtain ⟨i, rfl, hin, HI, HQ⟩ := hrel
            clear HI0
            have HBQ : Hid (Below W1.heap.size W1 wr) := HB3.out.trans (HQ.out.mono HB3.out.size)
            have k0 : wr.heap[G]? = some (.cells #[.int .i64 n, .int .i64 L, .int .i64 M, .slice A N c] 24 (0, 0)) := by
              have h9 := (HBQ.out.block G (by rw [hs1]; omega)).trans HN.out.1
              rw [HNN.out] at h9
              exact h9
            have k1 := (HBQ.out.block (G + 1) (by rw [hs1]; omega)).trans HN.out.2.1
            have hG1 : G < wr.heap.size := lt_of_some k0
            have hG2 : G + 1 < wr.heap.size := lt_of_some k1
            have aC := Go.Joins.cell_of_block (k0)
            have a0 := aC 0; have a1 := aC 1; have a2 := aC 2; have a3 := aC 3
            simp only [List.getElem?_toArray, List.getElem?_cons_succ, List.getElem?_cons_zero] at a0 a1 a2 a3
            clear aC
            have bC := Go.Joins.cell_of_block (k1)
            have b0 := bC 0; have b1 := bC 1; have b2 := bC 2; have b3 := bC 3; have b4 := bC 4; have b5 := bC 5; have b6 := bC 6
            simp only [List.getElem?_toArray, List.getElem?_cons_succ, List.getElem?_cons_zero] at b0 b1 b2 b3 b4 b5 b6
            clear bC
            clear k0 k1 a0 a1 a2 b0 b2 b3 b4 b5 b6
            by_cases hi0 : 0 < i
            · obtain ⟨m, hm⟩ : ∃ m, i = m + 1 := ⟨i - 1, by omega⟩
              subst hm
              obtain ⟨b9, off9, ⟨k9, t9, u9, v9, x9, y9, z9⟩, rfl, hb9, ha9, e0, e1, e2, e3, e4, e5, e6⟩ := RV.at_ (k := m) (H1.out.go HBQ.out) (by rw [HNN.out]; omega)
              dsimp only at e0 e1 e2 e3 e4 e5 e6
              have f1 : IntKind.i64.wrap (((m + 1 : Nat) : Int) - 1) = (m : Int) := by rw [IntWalk.i64_in _ (by have := HL.out; have := HNN.out; omega)]; omega
              have g1 : decide (((m + 1 : Nat) : Int) > 0) = true := by rw [decide_eq_true_eq]; omega
              have hm60 : m < 60000 := by have := HL.out; have := HNN.out; omega
              by_cases ht : t9 > s
              · have d9 : decide (t9 > s) = true := by simpa using ht
                have HI2 : Hid (∀ q a, m ≤ q → l[q]? = some a → s < a.time) := by
                  show ∀ q a, _ → _ → _
                  intro q a hq ha
                  by_cases hqm : q = m
                  · subst hqm
                    rw [ha9] at ha
                    injection ha with ha
                    subst ha
                    exact ht
                  · exact HI.out q a (by omega) ha
                clear ha9
                go_wp2_with fail
                go_quiet (fail)
                clear e0 e1 e2 e3 e4 e5 e6 a3 b1
                go_wp2
                go_roundw
                case rel => exact ⟨m, by go_num, by omega, HI2.out, HQ.out.trans ((below_drewN wr nq).mono HQ.out.size)⟩
                case measure => simp [RowKit.intOf]; try omega
              · have d9 : decide (t9 > s) = false := by simpa using ht
                have HIX : Hid ((Rd.upto s l).length = m + 1) := Rd.upto_len (e := ⟨k, s, u, v, x, y, z⟩) HAS.out (by rw [HNN.out]; omega) HI.out (.inr ⟨_, ha9, by show t9 ≤ s; omega⟩)
                clear ha9
                go_wp2_with fail
                go_quiet (fail)
                clear e0 e1 e2 e3 e4 e5 e6 a3 b1 f1 g1 d9 ht
                obtain ⟨i, hmi⟩ : ∃ i, m + 1 = i := ⟨_, rfl⟩
                have hci : (m : Int) + 1 = (i : Int) := by omega
                rw [hmi] at HIX hin hi0
                rw [hci]
                clear hmi hci HI hi0 hm60 hb9
                have HB5 : Hid (Below W1.heap.size W1 (wr.drewN nq)) := (HB3.out.trans (HQ.out.mono HB3.out.size)).trans (below_draw _ _ _)
                generalize wr.drewN nq = W5 at HB5 ⊢
                have HRA : Hid (RV W1.heap.size W5 (some ⟨b9, off9, none⟩ : Option Addr) c l) := H1.out.go HB5.out
                have k0 : W5.heap[G]? = some (.cells #[.int .i64 n, .int .i64 L, .int .i64 M, .slice (some ⟨b9, off9, none⟩ : Option Addr) N c] 24 (0, 0)) := by
                  have h9 := (HB5.out.block G (by rw [hs1]; omega)).trans HN.out.1
                  rw [HNN.out] at h9
                  exact h9
                have HGW := Lib.hid k0
                have hG5 : G + 3 ≤ W5.heap.size := by rw [← hs1]; exact HB5.out.size
                have aC := Go.Joins.cell_of_block (k0)
                have a0 := aC 0; have a1 := aC 1; have a2 := aC 2; have a3 := aC 3
                simp only [List.getElem?_toArray, List.getElem?_cons_succ, List.getElem?_cons_zero] at a0 a1 a2 a3
                clear aC
                obtain ⟨X, hX⟩ : ∃ X, (if c = i then some ⟨b9, off9, none⟩ else some ⟨b9, off9 + i * 7, none⟩ : Option Addr) = X := ⟨_, rfl⟩
                have HTL : Hid ((l.take i).length = i) := by show _ = _; rw [List.length_take, HNN.out]; omega
                have HDL : Hid ((l.drop i).length = N - i) := by show _ = _; rw [List.length_drop, HNN.out]
                have HNB : Hid (N ≤ 60000) := by show _ ≤ _; rw [← HNN.out]; exact HL.out
                have HO5 : Hid (W5.ownsRow W1.heap.size 26 7 (.slice none ([] : List Ev).length 0) ([] : List Ev).length (cl Ev.cells [])) := World.ownsRow_nil _ _ _ _
                have HR5 : Hid (RV W5.heap.size W5 (some ⟨b9, off9, none⟩ : Option Addr) c (l.take i)) := (HRA.out.more (by rw [hs1]; exact hG5)).front encE (by rw [HNN.out]; exact hin)
                have HBZ : Hid (W1.heap.size ≤ W5.heap.size) := HB5.out.size
                have hNc : N ≤ c := by rw [← HNN.out]; exact H1.out.1
                have h_nc : (i : Int) ≤ (c : Int) := by omega
                have h_in : (i : Int) ≤ (N : Int) := by omega
                have hi6 : i ≤ 60000 := by have := HNB.out; omega
                clear k0

                go_wp2_with (at_builtin; (refine wpList_applV _ rfl (.const (.slice none 0 0)) (.tmp 59) W1.heap.size none 0 rfl [] (by simp [Act.eval]) HO5.out (some ⟨b9, off9, none⟩ : Option Addr) c i (l.take i) HTL.out (by simp [Act.eval]) HR5.out (by simp; omega) HBZ.out ?_; intro A6 c6 w6 HO6 HB6 HG6; obtain ⟨a0, a1, a2, a3⟩ : w6.cell? ⟨G, 0, none⟩ = some (.int .i64 n) ∧ w6.cell? ⟨G, 1, none⟩ = some (.int .i64 L) ∧ w6.cell? ⟨G, 2, none⟩ = some (.int .i64 M) ∧ w6.cell? ⟨G, 3, none⟩ = some (.slice (some ⟨b9, off9, none⟩ : Option Addr) N c) := cells4 ((HB6.out.block G (by rw [hs1]; omega)).trans HGW.out)))
                simp only [List.nil_append] at HO6 ⊢
                have HB16 : Hid (Below W1.heap.size W1 w6) := HB5.out.trans HB6.out
                have HRX : Hid (RV W1.heap.size w6 X (c - i) (l.drop i)) := by
                  have h9 := RX.cut encE (H1.out.go HB16.out) (k := i) (by rw [HNN.out]; exact hin)
                  simp only [Option.map_some, Go.WideShapes.add_plain] at h9
                  rw [hX] at h9
                  exact h9
                have HGx : Hid (w6.heap[G]? = some (.cells #[.int .i64 n, .int .i64 L, .int .i64 M, .slice (some ⟨b9, off9, none⟩ : Option Addr) N c] 24 (0, 0))) := by
                  have := (HB16.out.block G (by rw [hs1]; omega)).trans HN.out.1
                  show _ = _
                  rw [← HNN.out]
                  exact this
                have HG1x : Hid (w6.heap[G + 1]? = some (.cells #[.int .i64 k, .int .i64 s, .int .i64 u, .int .i64 v, .int .i64 x, .int .i64 y, .int .i64 z] 26 (0, 0))) := (HB16.out.block (G + 1) (by rw [hs1]; omega)).trans HN.out.2.1
                have HGl : Hid (G < W1.heap.size) := by show _ < _; rw [hs1]; omega
                have HG1l : Hid (G + 1 < W1.heap.size) := by show _ < _; rw [hs1]; omega
                have HJ0 : Hid (∀ a : Act, a.tmps.size = 90 → J2 W1.heap.size A6 c6 (l.take i) ⟨k, s, u, v, x, y, z⟩ (l.drop i) (fun _ => false) a (w6.drewN 1)) := fun a ha => ⟨ha, HB16.out.size, fun _ => own_up HO6.out (below_drewN w6 1), fun h => absurd h (by decide), fun h => absurd h (by decide), fun h => absurd h (by decide)⟩
                have HIN : Hid (l.take i ++ [⟨k, s, u, v, x, y, z⟩] ++ l.drop i = Rd.ins ⟨k, s, u, v, x, y, z⟩ l) := by
                  show _ = _
                  rw [Rd.ins_take HAS.out, List.append_assoc]
                  dsimp only
                  rw [HIX.out]
                  rfl
                have HLT : (l.take i).length = i := HTL.out
                have HMI : min i l.length = i := by rw [HNN.out]; omega
                clear HLT a0 a1 a2 a3
                go_wp2_with fail
                rw [HMI]
                clear HMI
                refine wp_region_ac 10 90 (fun u v => Below W1.heap.size u v) (fun f a wr => J2 W1.heap.size A6 c6 (l.take i) ⟨k, s, u, v, x, y, z⟩ (l.drop i) f a wr) [(fun q0 _ => q0 = .slice A6 i c6), (fun q0 _ => q0 = .agg #[.int .i64 k, .int .i64 s, .int .i64 u, .int .i64 v, .int .i64 x, .int .i64 y, .int .i64 z]), (fun _ _ => True), (fun _ _ => True), (fun q0 _ => q0 = .pointer (some ⟨G, 3, none⟩)), (fun q0 _ => q0 = .slice (some ⟨b9, off9, none⟩ : Option Addr) N c), (fun q0 _ => q0 = .int .i64 (i : Nat)), (fun q0 _ => q0 = .slice X (N - i) (c - i)), (fun _ _ => True), (fun q0 _ => q0 = .pointer (some ⟨G, 3, none⟩))] (by kernel_rfl) (by kernel_rfl) rfl (fun _ _ _ => Below.trans) (below_draw _ _ _) (HJ0.out _ rfl) ?_ ?_ ?_
                · intro R hR
                  simp only [List.mem_cons, List.not_mem_nil, or_false] at hR
                  rcases hR with rfl | rfl | rfl | rfl | rfl | rfl | rfl | rfl | rfl | rfl <;> exact fun _ _ _ h _ => h
                · simp only [List.take_succ_cons, List.take_zero]
                  refine ⟨?_, ?_, ?_, ?_, ?_, ?_, ?_, ?_, ?_, ?_, trivial⟩
                  · intro a ws f hle hjj hfi hun hdn hag hdep K Q hK
                    have d9 : (a.tmps[9]?).getD undef = .slice A6 i c6 := eval_get (hag 9 (freeB_spec (by kernel_rfl)))
                    rw [if_pos (show Region.wanted _ _ = true from rfl)]
                    unfold Oper.wp
                    simp [go_sem, d9]
                    exact hK _ _ (Below.refl _ _) (hjj.put (by decide) (by decide)) rfl
                  · intro a ws f hle hjj hfi hun hdn hag hdep K Q hK
                    have d3 : (a.tmps[3]?).getD undef = .pointer (some ⟨G + 1, 0, none⟩) := eval_get (hag 3 (freeB_spec (by kernel_rfl)))
                    rw [if_pos (show Region.wanted _ _ = true from rfl)]
                    have yy := Go.Joins.cell_of_block ((hle.block (G + 1) HG1l.out).trans HG1x.out)
                    have y0 := yy 0; have y1 := yy 1; have y2 := yy 2; have y3 := yy 3; have y4 := yy 4; have y5 := yy 5; have y6 := yy 6
                    simp only [List.getElem?_toArray, List.getElem?_cons_succ, List.getElem?_cons_zero] at y0 y1 y2 y3 y4 y5 y6
                    clear yy
                    unfold Oper.wp
                    simp [go_sem, d3, y0, y1, y2, y3, y4, y5, y6]
                    exact hK _ _ (Below.refl _ _) (hjj.put (by decide) (by decide)) rfl
                  · intro a ws f hle hjj hfi hun hdn hag hdep K Q hK
                    have d62 : (a.tmps[62]?).getD undef = .agg #[.int .i64 k, .int .i64 s, .int .i64 u, .int .i64 v, .int .i64 x, .int .i64 y, .int .i64 z] := eval_get (dep_of hdep 1 62 rfl (by kernel_rfl) rfl rfl)
                    rw [if_pos (show Region.wanted _ _ = true from rfl)]
                    unfold Oper.wp
                    simp [go_sem, d62]
                    exact hK _ _ ((below_new _ _).mono hjj.bs) (hjj.new1 (by simpa using hfi)) trivial
                  · intro a ws f hle hjj hfi hun hdn hag hdep K Q hK
                    have d61 : (a.tmps[61]?).getD undef = .slice A6 i c6 := eval_get (dep_of hdep 0 61 rfl (by kernel_rfl) rfl rfl)
                    have d63 : (fun _ _ => True) (a.eval (.tmp 63)) ws := dep_of hdep 2 63 rfl (by kernel_rfl) rfl rfl
                    rw [if_pos (show Region.wanted _ _ = true from rfl)]
                    have h2t : f 2 = true := hdn 2 _ rfl (by kernel_rfl)
                    have h8f : f 8 = false := hun 8 _ rfl (by kernel_rfl)
                    obtain ⟨vb, hvb, hvr⟩ := hjj.s1 h2t hfi
                    refine run_applF ws (.tmp 61) (.tmp 63) W1.heap.size A6 c6 rfl (l.take i) (by rw [HTL.out]; simp [Act.eval, d61]) (hjj.s0 hfi) (some ⟨vb, 0, none⟩) 1 1 [⟨k, s, u, v, x, y, z⟩] rfl hvb hvr (by rw [HTL.out]; have := HNB.out; omega) hjj.bs ?_
                    intro A7 c7 w7 ho7 hg7 hf7
                    exact hK _ _ (gr_below hg7 (fun q hq => (hjj.s0 hfi).lt q hq |>.1) hjj.bs) (hjj.done1 ho7 (Nat.le_trans hjj.bs hg7.size) h8f) trivial
                  · intro a ws f hle hjj hfi hun hdn hag hdep K Q hK
                    have d2 : (a.tmps[2]?).getD undef = .pointer (some ⟨G, 0, none⟩) := eval_get (hag 2 (freeB_spec (by kernel_rfl)))
                    rw [if_pos (show Region.wanted _ _ = true from rfl)]
                    unfold Oper.wp
                    simp [go_sem, d2]
                    exact hK _ _ (Below.refl _ _) (hjj.put (by decide) (by decide)) rfl
                  · intro a ws f hle hjj hfi hun hdn hag hdep K Q hK
                    have d65 : (a.tmps[65]?).getD undef = .pointer (some ⟨G, 3, none⟩) := eval_get (dep_of hdep 4 65 rfl (by kernel_rfl) rfl rfl)
                    rw [if_pos (show Region.wanted _ _ = true from rfl)]
                    have y0 := Go.Joins.cell_of_block ((hle.block G HGl.out).trans HGx.out) 3
                    unfold Oper.wp
                    simp [go_sem, d65, y0]
                    exact hK _ _ (Below.refl _ _) (hjj.put (by decide) (by decide)) rfl
                  · intro a ws f hle hjj hfi hun hdn hag hdep K Q hK
                    have d8 : (a.tmps[8]?).getD undef = .int .i64 (i : Nat) := eval_get (hag 8 (freeB_spec (by kernel_rfl)))
                    rw [if_pos (show Region.wanted _ _ = true from rfl)]
                    unfold Oper.wp
                    simp [go_sem, d8]
                    exact hK _ _ (Below.refl _ _) (hjj.put (by decide) (by decide)) rfl
                  · intro a ws f hle hjj hfi hun hdn hag hdep K Q hK
                    have d66 : (a.tmps[66]?).getD undef = .slice (some ⟨b9, off9, none⟩ : Option Addr) N c := eval_get (dep_of hdep 5 66 rfl (by kernel_rfl) rfl rfl)
                    have d67 : (a.tmps[67]?).getD undef = .int .i64 (i : Nat) := eval_get (dep_of hdep 6 67 rfl (by kernel_rfl) rfl rfl)
                    rw [if_pos (show Region.wanted _ _ = true from rfl)]
                    unfold Oper.wp
                    simp [go_sem, d66, d67, h_in]
                    rw [hX]
                    exact hK _ _ (Below.refl _ _) (hjj.put (by decide) (by decide)) rfl
                  · intro a ws f hle hjj hfi hun hdn hag hdep K Q hK
                    have d64 : (fun _ _ => True) (a.eval (.tmp 64)) ws := dep_of hdep 3 64 rfl (by kernel_rfl) rfl rfl
                    have d68 : (a.tmps[68]?).getD undef = .slice X (N - i) (c - i) := eval_get (dep_of hdep 7 68 rfl (by kernel_rfl) rfl rfl)
                    rw [if_pos (show Region.wanted _ _ = true from rfl)]
                    have h3t : f 3 = true := hdn 3 _ rfl (by kernel_rfl)
                    obtain ⟨A7, c7, e7, ho7⟩ := hjj.s2 h3t hfi
                    refine run_applF ws (.tmp 64) (.tmp 68) W1.heap.size A7 c7 rfl (l.take i ++ [⟨k, s, u, v, x, y, z⟩]) e7 ho7 X (c - i) (N - i) (l.drop i) HDL.out (by simp [Act.eval, d68]) ((HRX.out.go hle).more hjj.bs) (by rw [List.length_append, HTL.out]; have := HNB.out; simp; omega) hjj.bs ?_
                    intro A8 c8 w8 ho8 hg8 hf8
                    exact hK _ _ (gr_below hg8 (fun q hq => (ho7.lt q hq).1) hjj.bs) (hjj.done2 ho8 (Nat.le_trans hjj.bs hg8.size) h3t) trivial
                  · intro a ws f hle hjj hfi hun hdn hag hdep K Q hK
                    have d2 : (a.tmps[2]?).getD undef = .pointer (some ⟨G, 0, none⟩) := eval_get (hag 2 (freeB_spec (by kernel_rfl)))
                    rw [if_pos (show Region.wanted _ _ = true from rfl)]
                    unfold Oper.wp
                    simp [go_sem, d2]
                    exact hK _ _ (Below.refl _ _) (hjj.put (by decide) (by decide)) rfl
                · intro a ws f hle hjj hft hff hsz hdf hag hend
                  have f61 : a.eval (.tmp 61) = .slice A6 i c6 := end_of hend 0 61 (by decide) rfl rfl rfl
                  have f62 : a.eval (.tmp 62) = .agg #[.int .i64 k, .int .i64 s, .int .i64 u, .int .i64 v, .int .i64 x, .int .i64 y, .int .i64 z] := end_of hend 1 62 (by decide) rfl rfl rfl
                  have f63 : (fun _ _ => True) (a.eval (.tmp 63)) ws := end_of hend 2 63 (by decide) rfl rfl rfl
                  have f64 : (fun _ _ => True) (a.eval (.tmp 64)) ws := end_of hend 3 64 (by decide) rfl rfl rfl
                  have f65 : a.eval (.tmp 65) = .pointer (some ⟨G, 3, none⟩) := end_of hend 4 65 (by decide) rfl rfl rfl
                  have f66 : a.eval (.tmp 66) = .slice (some ⟨b9, off9, none⟩ : Option Addr) N c := end_of hend 5 66 (by decide) rfl rfl rfl
                  have f67 : a.eval (.tmp 67) = .int .i64 (i : Nat) := end_of hend 6 67 (by decide) rfl rfl rfl
                  have f68 : a.eval (.tmp 68) = .slice X (N - i) (c - i) := end_of hend 7 68 (by decide) rfl rfl rfl
                  have f69 : (fun _ _ => True) (a.eval (.tmp 69)) ws := end_of hend 8 69 (by decide) rfl rfl rfl
                  have f70 : a.eval (.tmp 70) = .pointer (some ⟨G, 3, none⟩) := end_of hend 9 70 (by decide) rfl rfl rfl
                  have ea := act_block 61 10 hsz hdf hag [61, 62, 63, 64, 65, 66, 67, 68, 69, 70] (by kernel_rfl) (by kernel_rfl) (of_decide_eq_true (by kernel_rfl))
                  clear hag hend hsz hdf
                  obtain ⟨A', c', e69, ho⟩ := hjj.s3 (hft 8 (by decide))
                  simp only [List.map_cons, List.map_nil, f61, f62, f65, f66, f67, f68, f70] at ea
                  clear f61 f62 f65 f66 f67 f68 f70
                  generalize a.eval (.tmp 63) = x63 at ea f63
                  generalize a.eval (.tmp 64) = x64 at ea f64
                  generalize a.eval (.tmp 69) = x69 at ea f69
                  simp only [List.take_succ_cons, List.take_zero, List.drop_succ_cons, List.drop_zero, List.cons_append, List.nil_append] at ea
                  subst ea
                  replace e69 : x69 = .slice A' (l.take i ++ [(⟨k, s, u, v, x, y, z⟩ : Ev)] ++ l.drop i).length c' := e69
                  subst e69
                  rw [HIN.out] at ho ⊢
                  have HOW := Lib.hid ho
                  have HBs : Hid (Below W1.heap.size W1 ws) := HB16.out.trans hle
                  have HGs : Hid (ws.heap[G]? = some (.cells #[.int .i64 n, .int .i64 L, .int .i64 M, .slice (some ⟨b9, off9, none⟩ : Option Addr) N c] 24 (0, 0))) := (hle.block G HGl.out).trans HGx.out
                  have HG1s : Hid (ws.heap[G + 1]? = some (.cells #[.int .i64 k, .int .i64 s, .int .i64 u, .int .i64 v, .int .i64 x, .int .i64 y, .int .i64 z] 26 (0, 0))) := (hle.block (G + 1) HG1l.out).trans HG1x.out
                  have HAI : Hid (Rd.Asc (Rd.ins ⟨k, s, u, v, x, y, z⟩ l)) := Rd.ins_asc HAS.out
                  have HLI : Hid ((Rd.ins ⟨k, s, u, v, x, y, z⟩ l).length = N + 1) := by show _ = _; rw [Rd.ins_len, HNN.out]
                  have hGs : G < ws.heap.size := lt_of_some HGs.out
                  have hG1s : G + 1 < ws.heap.size := lt_of_some HG1s.out
                  clear hjj hft hff hle ho HJ0 f63 f64 f69 HRX hX
                  obtain ⟨L2, HX2⟩ : ∃ L2, Hid (max L s = L2) := ⟨_, rfl⟩
                  have hmx : (s ≤ L ∧ L2 = L) ∨ (L < s ∧ L2 = s) := by have := HX2.out; omega
                  have HPQ : Hid (Rd.rel ⟨n, L2, M, Rd.ins ⟨k, s, u, v, x, y, z⟩ l⟩ (L2 - n - 1) = Rd.pushed ⟨n, L, M, l⟩ ⟨k, s, u, v, x, y, z⟩) := by
                    show Rd.rel _ _ = Rd.rel (Rd.put _ _) _
                    unfold Rd.put
                    dsimp only
                    rw [HX2.out]
                  have f1 : IntKind.i64.wrap (L2 - n) = L2 - n := IntWalk.i64_in _ (by have := HBD.out; omega)
                  have f2 : IntKind.i64.wrap (L2 - n - 1) = L2 - n - 1 := IntWalk.i64_in _ (by have := HBD.out; omega)
                  rw [HLI.out]
                  have aC := Go.Joins.cell_of_block (HGs.out)
                  have a0 := aC 0; have a1 := aC 1; have a2 := aC 2; have a3 := aC 3
                  simp only [List.getElem?_toArray, List.getElem?_cons_succ, List.getElem?_cons_zero] at a0 a1 a2 a3
                  have aF := Go.Joins.unfrozen_of_block (HGs.out)
                  have af0 := aF 0; have af1 := aF 1; have af2 := aF 2; have af3 := aF 3
                  clear aF
                  clear aC
                  have bC := Go.Joins.cell_of_block (HG1s.out)
                  have b0 := bC 0; have b1 := bC 1; have b2 := bC 2; have b3 := bC 3; have b4 := bC 4; have b5 := bC 5; have b6 := bC 6
                  simp only [List.getElem?_toArray, List.getElem?_cons_succ, List.getElem?_cons_zero] at b0 b1 b2 b3 b4 b5 b6
                  clear bC
                  have hGne : ¬ G = G + 1 := by omega
                  have hGne2 : ¬ G + 1 = G := by omega
                  have HTW : Hid (Tw G none ws ((ws.setCell ⟨G, 3, none⟩ (.slice A' (N + 1) c')).setCell ⟨G, 1, none⟩ (.int .i64 L2))) := Tw.set.trans Tw.set (Fr.refl _ _)
                  have CR : Hid (∀ W7, W7 = ((ws.setCell ⟨G, 3, none⟩ (.slice A' (N + 1) c')).setCell ⟨G, 1, none⟩ (.int .i64 L2)) → Calls Try.prog 33 #[.agg #[.int .i64 n, .int .i64 L2, .int .i64 M, .slice A' (N + 1) c'], .int .i64 (L2 - n - 1)] W7 (RRelP ⟨n, L2, M, Rd.ins ⟨k, s, u, v, x, y, z⟩ l⟩ (L2 - n - 1) W7)) := by
                    rintro W7 rfl
                    have h9 := rrelease_any n L2 M (L2 - n - 1) A' c' (Rd.ins ⟨k, s, u, v, x, y, z⟩ l) _ (RX.of_own (own_kept' HOW.out HTW.out.grownP (fun q hq e => own_ne' HOW.out HGs.out (by decide) (by rw [e]; exact hq)))) (by rw [HLI.out]; have := HNB.out; omega)
                    rw [HLI.out] at h9
                    exact h9
                  simp only [List.drop_succ_cons, List.drop_zero]
                  obtain ⟨⟨⟨nb, nl, nm, nw⟩, RR⟩, HRP⟩ : ∃ RP, Hid (Rd.pushed ⟨n, L, M, l⟩ ⟨k, s, u, v, x, y, z⟩ = RP) := ⟨_, rfl⟩
                  rcases hmx with ⟨hmx, h9⟩ | ⟨hmx, h9⟩
                  all_goals
                    subst h9
                    go_wp2_with fail
                    refine (CR.out _ rfl).mono ?_
                    rintro e w9 ⟨A3, A4, c3, c4, rfl, ho9, hr9, hb9⟩
                    rw [HPQ.out, HRP.out] at ho9 hr9 ⊢
                    dsimp only at ho9 hr9 ⊢
                    have HO9 := Lib.hid ho9
                    have HR9 := Lib.hid hr9
                    have h7s := HTW.out.size
                    have hG3 : G + 3 ≤ ws.heap.size := by have := HBs.out.size; omega
                    have i2 := (hb9.block (G + 2) (by omega)).trans ((HTW.out.block (G + 2) (by omega) (by omega) (fun e => by cases e)).trans ((HBs.out.block (G + 2) (by rw [hs1]; omega)).trans HN.out.2.2.1))
                    have HB9 : Hid (Below w.heap.size w w9) := ((HB1.out.trans (HBs.out.mono HB1.out.size)).trans (HTW.out.below (by rw [HGG.out]; exact Nat.le_refl _) (fun q hq => by cases hq) (Nat.le_trans HB1.out.size HBs.out.size))).trans (hb9.mono (Nat.le_trans (Nat.le_trans HB1.out.size HBs.out.size) h7s))
                    have HLO : Hid (w.heap.size ≤ ws.heap.size) := Nat.le_trans HB1.out.size HBs.out.size
                    have HLO2 : Hid (w.heap.size ≤ ((ws.setCell _ _).setCell _ _).heap.size) := Nat.le_trans HLO.out h7s
                    have I2 := Lib.hid i2
                    have hs9 : G + 2 < w9.heap.size := lt_of_some i2
                    have ooC := Go.Joins.cell_of_block (i2)
                    have oo0 := ooC 0; have oo1 := ooC 1; have oo2 := ooC 2; have oo3 := ooC 3
                    simp only [List.getElem?_toArray, List.getElem?_cons_succ, List.getElem?_cons_zero] at oo0 oo1 oo2 oo3
                    have ooF := Go.Joins.unfrozen_of_block (i2)
                    have oof0 := ooF 0; have oof1 := ooF 1; have oof2 := ooF 2; have oof3 := ooF 3
                    clear ooF
                    clear ooC
                    clear CR ho9 hr9 hb9 h7s i2 a0 a1 a2 a3 b0 b1 b2 b3 b4 b5 b6 af0 af1 af2 af3
                    go_wp2
                    have hblk0 := set4_blk I2.out (.int .i64 nb) (.int .i64 nl) (.int .i64 nm) (.slice A3 nw.length c3)
                    have hT : Below w.heap.size w _ := below_set4 (g := G + 2) HB9.out (by rw [HGG.out]; omega) (.int .i64 nb) (.int .i64 nl) (.int .i64 nm) (.slice A3 nw.length c3)
                    have hr1 := ow_box I2.out (.int .i64 nb) (.int .i64 nl) (.int .i64 nm) (.slice A3 nw.length c3) (HO9.out.lo HLO2.out)
                    have hr2 := rn_box I2.out (.int .i64 nb) (.int .i64 nl) (.int .i64 nm) (.slice A3 nw.length c3) (HR9.out.lo HLO2.out)
                    have hz : Below _ _ _ := below_new ((((w9.setCell ⟨G + 2, 0, none⟩ (.int .i64 nb)).setCell ⟨G + 2, 1, none⟩ (.int .i64 nl)).setCell ⟨G + 2, 2, none⟩ (.int .i64 nm)).setCell ⟨G + 2, 3, none⟩ (.slice A3 nw.length c3)) (.cells #[.int .i64 nb, .int .i64 nl, .int .i64 nm, .slice A3 nw.length c3] 24)
                    have hblk := (hz.block (G + 2) (lt_of_some hblk0)).trans hblk0
                    exact ret_buf3 (p := 4) (q := 5) (r := 6) Try.results18 rfl (G + 2) rfl _ _ rfl rfl hblk ⟨⟨nb, nl, nm, nw⟩, RR, A3, A4, c3, c4, by rw [HPE2.out]; rfl, by rw [HPE2.out, if_pos rfl, HRP.out], hr1.go hz, hr2.go hz, hT.trans (hz.mono hT.size)⟩
            · obtain rfl : i = 0 := by omega
              have g1 : decide (((0 : Nat) : Int) > 0) = false := by simp
              have HIX : Hid ((Rd.upto s l).length = 0) := Rd.upto_len (e := ⟨k, s, u, v, x, y, z⟩) HAS.out (by omega) HI.out (.inl rfl)
              go_wp2_with fail
              go_quiet (fail)
              clear g1 hi0 a3 b1
              obtain ⟨i, hmi⟩ : ∃ i, 0 = i := ⟨_, rfl⟩
              have hci : ((0 : Nat) : Int) = (i : Int) := by omega
              rw [hmi] at HIX hin
              rw [hci]
              clear hmi hci HI
              have HB5 : Hid (Below W1.heap.size W1 (wr.drewN nq)) := (HB3.out.trans (HQ.out.mono HB3.out.size)).trans (below_draw _ _ _)
              generalize wr.drewN nq = W5 at HB5 ⊢
              have HRA : Hid (RV W1.heap.size W5 A c l) := H1.out.go HB5.out
              have k0 : W5.heap[G]? = some (.cells #[.int .i64 n, .int .i64 L, .int .i64 M, .slice A N c] 24 (0, 0)) := by
                have h9 := (HB5.out.block G (by rw [hs1]; omega)).trans HN.out.1
                rw [HNN.out] at h9
                exact h9
              have HGW := Lib.hid k0
              have hG5 : G + 3 ≤ W5.heap.size := by rw [← hs1]; exact HB5.out.size
              have aC := Go.Joins.cell_of_block (k0)
              have a0 := aC 0; have a1 := aC 1; have a2 := aC 2; have a3 := aC 3
              simp only [List.getElem?_toArray, List.getElem?_cons_succ, List.getElem?_cons_zero] at a0 a1 a2 a3
              clear aC
              obtain ⟨X, hX⟩ : ∃ X, (if c = i then A else Option.map (·.add (i * 7)) A) = X := ⟨_, rfl⟩
              have HTL : Hid ((l.take i).length = i) := by show _ = _; rw [List.length_take, HNN.out]; omega
              have HDL : Hid ((l.drop i).length = N - i) := by show _ = _; rw [List.length_drop, HNN.out]
              have HNB : Hid (N ≤ 60000) := by show _ ≤ _; rw [← HNN.out]; exact HL.out
              have HO5 : Hid (W5.ownsRow W1.heap.size 26 7 (.slice none ([] : List Ev).length 0) ([] : List Ev).length (cl Ev.cells [])) := World.ownsRow_nil _ _ _ _
              have HR5 : Hid (RV W5.heap.size W5 A c (l.take i)) := (HRA.out.more (by rw [hs1]; exact hG5)).front encE (by rw [HNN.out]; exact hin)
              have HBZ : Hid (W1.heap.size ≤ W5.heap.size) := HB5.out.size
              have hNc : N ≤ c := by rw [← HNN.out]; exact H1.out.1
              have h_nc : (i : Int) ≤ (c : Int) := by omega
              have h_in : (i : Int) ≤ (N : Int) := by omega
              have hi6 : i ≤ 60000 := by have := HNB.out; omega
              clear k0

              go_wp2_with (at_builtin; (refine wpList_applV _ rfl (.const (.slice none 0 0)) (.tmp 59) W1.heap.size none 0 rfl [] (by simp [Act.eval]) HO5.out A c i (l.take i) HTL.out (by simp [Act.eval]) HR5.out (by simp; omega) HBZ.out ?_; intro A6 c6 w6 HO6 HB6 HG6; obtain ⟨a0, a1, a2, a3⟩ : w6.cell? ⟨G, 0, none⟩ = some (.int .i64 n) ∧ w6.cell? ⟨G, 1, none⟩ = some (.int .i64 L) ∧ w6.cell? ⟨G, 2, none⟩ = some (.int .i64 M) ∧ w6.cell? ⟨G, 3, none⟩ = some (.slice A N c) := cells4 ((HB6.out.block G (by rw [hs1]; omega)).trans HGW.out)))
              simp only [List.nil_append] at HO6 ⊢
              have HB16 : Hid (Below W1.heap.size W1 w6) := HB5.out.trans HB6.out
              have HRX : Hid (RV W1.heap.size w6 X (c - i) (l.drop i)) := by
                have h9 := RX.cut encE (H1.out.go HB16.out) (k := i) (by rw [HNN.out]; exact hin)
                skip
                rw [hX] at h9
                exact h9
              have HGx : Hid (w6.heap[G]? = some (.cells #[.int .i64 n, .int .i64 L, .int .i64 M, .slice A N c] 24 (0, 0))) := by
                have := (HB16.out.block G (by rw [hs1]; omega)).trans HN.out.1
                show _ = _
                rw [← HNN.out]
                exact this
              have HG1x : Hid (w6.heap[G + 1]? = some (.cells #[.int .i64 k, .int .i64 s, .int .i64 u, .int .i64 v, .int .i64 x, .int .i64 y, .int .i64 z] 26 (0, 0))) := (HB16.out.block (G + 1) (by rw [hs1]; omega)).trans HN.out.2.1
              have HGl : Hid (G < W1.heap.size) := by show _ < _; rw [hs1]; omega
              have HG1l : Hid (G + 1 < W1.heap.size) := by show _ < _; rw [hs1]; omega
              have HJ0 : Hid (∀ a : Act, a.tmps.size = 90 → J2 W1.heap.size A6 c6 (l.take i) ⟨k, s, u, v, x, y, z⟩ (l.drop i) (fun _ => false) a (w6.drewN 1)) := fun a ha => ⟨ha, HB16.out.size, fun _ => own_up HO6.out (below_drewN w6 1), fun h => absurd h (by decide), fun h => absurd h (by decide), fun h => absurd h (by decide)⟩
              have HIN : Hid (l.take i ++ [⟨k, s, u, v, x, y, z⟩] ++ l.drop i = Rd.ins ⟨k, s, u, v, x, y, z⟩ l) := by
                show _ = _
                rw [Rd.ins_take HAS.out, List.append_assoc]
                dsimp only
                rw [HIX.out]
                rfl
              have HLT : (l.take i).length = i := HTL.out
              have HMI : min i l.length = i := by rw [HNN.out]; omega
              clear HLT a0 a1 a2 a3
              go_wp2_with fail
              rw [HMI]
              clear HMI
              refine wp_region_ac 10 90 (fun u v => Below W1.heap.size u v) (fun f a wr => J2 W1.heap.size A6 c6 (l.take i) ⟨k, s, u, v, x, y, z⟩ (l.drop i) f a wr) [(fun q0 _ => q0 = .slice A6 i c6), (fun q0 _ => q0 = .agg #[.int .i64 k, .int .i64 s, .int .i64 u, .int .i64 v, .int .i64 x, .int .i64 y, .int .i64 z]), (fun _ _ => True), (fun _ _ => True), (fun q0 _ => q0 = .pointer (some ⟨G, 3, none⟩)), (fun q0 _ => q0 = .slice A N c), (fun q0 _ => q0 = .int .i64 (i : Nat)), (fun q0 _ => q0 = .slice X (N - i) (c - i)), (fun _ _ => True), (fun q0 _ => q0 = .pointer (some ⟨G, 3, none⟩))] (by kernel_rfl) (by kernel_rfl) rfl (fun _ _ _ => Below.trans) (below_draw _ _ _) (HJ0.out _ rfl) ?_ ?_ ?_
              · intro R hR
                simp only [List.mem_cons, List.not_mem_nil, or_false] at hR
                rcases hR with rfl | rfl | rfl | rfl | rfl | rfl | rfl | rfl | rfl | rfl <;> exact fun _ _ _ h _ => h
              · simp only [List.take_succ_cons, List.take_zero]
                refine ⟨?_, ?_, ?_, ?_, ?_, ?_, ?_, ?_, ?_, ?_, trivial⟩
                · intro a ws f hle hjj hfi hun hdn hag hdep K Q hK
                  have d9 : (a.tmps[9]?).getD undef = .slice A6 i c6 := eval_get (hag 9 (freeB_spec (by kernel_rfl)))
                  rw [if_pos (show Region.wanted _ _ = true from rfl)]
                  unfold Oper.wp
                  simp [go_sem, d9]
                  exact hK _ _ (Below.refl _ _) (hjj.put (by decide) (by decide)) rfl
                · intro a ws f hle hjj hfi hun hdn hag hdep K Q hK
                  have d3 : (a.tmps[3]?).getD undef = .pointer (some ⟨G + 1, 0, none⟩) := eval_get (hag 3 (freeB_spec (by kernel_rfl)))
                  rw [if_pos (show Region.wanted _ _ = true from rfl)]
                  have yy := Go.Joins.cell_of_block ((hle.block (G + 1) HG1l.out).trans HG1x.out)
                  have y0 := yy 0; have y1 := yy 1; have y2 := yy 2; have y3 := yy 3; have y4 := yy 4; have y5 := yy 5; have y6 := yy 6
                  simp only [List.getElem?_toArray, List.getElem?_cons_succ, List.getElem?_cons_zero] at y0 y1 y2 y3 y4 y5 y6
                  clear yy
                  unfold Oper.wp
                  simp [go_sem, d3, y0, y1, y2, y3, y4, y5, y6]
                  exact hK _ _ (Below.refl _ _) (hjj.put (by decide) (by decide)) rfl
                · intro a ws f hle hjj hfi hun hdn hag hdep K Q hK
                  have d62 : (a.tmps[62]?).getD undef = .agg #[.int .i64 k, .int .i64 s, .int .i64 u, .int .i64 v, .int .i64 x, .int .i64 y, .int .i64 z] := eval_get (dep_of hdep 1 62 rfl (by kernel_rfl) rfl rfl)
                  rw [if_pos (show Region.wanted _ _ = true from rfl)]
                  unfold Oper.wp
                  simp [go_sem, d62]
                  exact hK _ _ ((below_new _ _).mono hjj.bs) (hjj.new1 (by simpa using hfi)) trivial
                · intro a ws f hle hjj hfi hun hdn hag hdep K Q hK
                  have d61 : (a.tmps[61]?).getD undef = .slice A6 i c6 := eval_get (dep_of hdep 0 61 rfl (by kernel_rfl) rfl rfl)
                  have d63 : (fun _ _ => True) (a.eval (.tmp 63)) ws := dep_of hdep 2 63 rfl (by kernel_rfl) rfl rfl
                  rw [if_pos (show Region.wanted _ _ = true from rfl)]
                  have h2t : f 2 = true := hdn 2 _ rfl (by kernel_rfl)
                  have h8f : f 8 = false := hun 8 _ rfl (by kernel_rfl)
                  obtain ⟨vb, hvb, hvr⟩ := hjj.s1 h2t hfi
                  refine run_applF ws (.tmp 61) (.tmp 63) W1.heap.size A6 c6 rfl (l.take i) (by rw [HTL.out]; simp [Act.eval, d61]) (hjj.s0 hfi) (some ⟨vb, 0, none⟩) 1 1 [⟨k, s, u, v, x, y, z⟩] rfl hvb hvr (by rw [HTL.out]; have := HNB.out; omega) hjj.bs ?_
                  intro A7 c7 w7 ho7 hg7 hf7
                  exact hK _ _ (gr_below hg7 (fun q hq => (hjj.s0 hfi).lt q hq |>.1) hjj.bs) (hjj.done1 ho7 (Nat.le_trans hjj.bs hg7.size) h8f) trivial
                · intro a ws f hle hjj hfi hun hdn hag hdep K Q hK
                  have d2 : (a.tmps[2]?).getD undef = .pointer (some ⟨G, 0, none⟩) := eval_get (hag 2 (freeB_spec (by kernel_rfl)))
                  rw [if_pos (show Region.wanted _ _ = true from rfl)]
                  unfold Oper.wp
                  simp [go_sem, d2]
                  exact hK _ _ (Below.refl _ _) (hjj.put (by decide) (by decide)) rfl
                · intro a ws f hle hjj hfi hun hdn hag hdep K Q hK
                  have d65 : (a.tmps[65]?).getD undef = .pointer (some ⟨G, 3, none⟩) := eval_get (dep_of hdep 4 65 rfl (by kernel_rfl) rfl rfl)
                  rw [if_pos (show Region.wanted _ _ = true from rfl)]
                  have y0 := Go.Joins.cell_of_block ((hle.block G HGl.out).trans HGx.out) 3
                  unfold Oper.wp
                  simp [go_sem, d65, y0]
                  exact hK _ _ (Below.refl _ _) (hjj.put (by decide) (by decide)) rfl
                · intro a ws f hle hjj hfi hun hdn hag hdep K Q hK
                  have d8 : (a.tmps[8]?).getD undef = .int .i64 (i : Nat) := eval_get (hag 8 (freeB_spec (by kernel_rfl)))
                  rw [if_pos (show Region.wanted _ _ = true from rfl)]
                  unfold Oper.wp
                  simp [go_sem, d8]
                  exact hK _ _ (Below.refl _ _) (hjj.put (by decide) (by decide)) rfl
                · intro a ws f hle hjj hfi hun hdn hag hdep K Q hK
                  have d66 : (a.tmps[66]?).getD undef = .slice A N c := eval_get (dep_of hdep 5 66 rfl (by kernel_rfl) rfl rfl)
                  have d67 : (a.tmps[67]?).getD undef = .int .i64 (i : Nat) := eval_get (dep_of hdep 6 67 rfl (by kernel_rfl) rfl rfl)
                  rw [if_pos (show Region.wanted _ _ = true from rfl)]
                  unfold Oper.wp
                  simp [go_sem, d66, d67, h_in]
                  rw [hX]
                  exact hK _ _ (Below.refl _ _) (hjj.put (by decide) (by decide)) rfl
                · intro a ws f hle hjj hfi hun hdn hag hdep K Q hK
                  have d64 : (fun _ _ => True) (a.eval (.tmp 64)) ws := dep_of hdep 3 64 rfl (by kernel_rfl) rfl rfl
                  have d68 : (a.tmps[68]?).getD undef = .slice X (N - i) (c - i) := eval_get (dep_of hdep 7 68 rfl (by kernel_rfl) rfl rfl)
                  rw [if_pos (show Region.wanted _ _ = true from rfl)]
                  have h3t : f 3 = true := hdn 3 _ rfl (by kernel_rfl)
                  obtain ⟨A7, c7, e7, ho7⟩ := hjj.s2 h3t hfi
                  refine run_applF ws (.tmp 64) (.tmp 68) W1.heap.size A7 c7 rfl (l.take i ++ [⟨k, s, u, v, x, y, z⟩]) e7 ho7 X (c - i) (N - i) (l.drop i) HDL.out (by simp [Act.eval, d68]) ((HRX.out.go hle).more hjj.bs) (by rw [List.length_append, HTL.out]; have := HNB.out; simp; omega) hjj.bs ?_
                  intro A8 c8 w8 ho8 hg8 hf8
                  exact hK _ _ (gr_below hg8 (fun q hq => (ho7.lt q hq).1) hjj.bs) (hjj.done2 ho8 (Nat.le_trans hjj.bs hg8.size) h3t) trivial
                · intro a ws f hle hjj hfi hun hdn hag hdep K Q hK
                  have d2 : (a.tmps[2]?).getD undef = .pointer (some ⟨G, 0, none⟩) := eval_get (hag 2 (freeB_spec (by kernel_rfl)))
                  rw [if_pos (show Region.wanted _ _ = true from rfl)]
                  unfold Oper.wp
                  simp [go_sem, d2]
                  exact hK _ _ (Below.refl _ _) (hjj.put (by decide) (by decide)) rfl
              · intro a ws f hle hjj hft hff hsz hdf hag hend
                have f61 : a.eval (.tmp 61) = .slice A6 i c6 := end_of hend 0 61 (by decide) rfl rfl rfl
                have f62 : a.eval (.tmp 62) = .agg #[.int .i64 k, .int .i64 s, .int .i64 u, .int .i64 v, .int .i64 x, .int .i64 y, .int .i64 z] := end_of hend 1 62 (by decide) rfl rfl rfl
                have f63 : (fun _ _ => True) (a.eval (.tmp 63)) ws := end_of hend 2 63 (by decide) rfl rfl rfl
                have f64 : (fun _ _ => True) (a.eval (.tmp 64)) ws := end_of hend 3 64 (by decide) rfl rfl rfl
                have f65 : a.eval (.tmp 65) = .pointer (some ⟨G, 3, none⟩) := end_of hend 4 65 (by decide) rfl rfl rfl
                have f66 : a.eval (.tmp 66) = .slice A N c := end_of hend 5 66 (by decide) rfl rfl rfl
                have f67 : a.eval (.tmp 67) = .int .i64 (i : Nat) := end_of hend 6 67 (by decide) rfl rfl rfl
                have f68 : a.eval (.tmp 68) = .slice X (N - i) (c - i) := end_of hend 7 68 (by decide) rfl rfl rfl
                have f69 : (fun _ _ => True) (a.eval (.tmp 69)) ws := end_of hend 8 69 (by decide) rfl rfl rfl
                have f70 : a.eval (.tmp 70) = .pointer (some ⟨G, 3, none⟩) := end_of hend 9 70 (by decide) rfl rfl rfl
                have ea := act_block 61 10 hsz hdf hag [61, 62, 63, 64, 65, 66, 67, 68, 69, 70] (by kernel_rfl) (by kernel_rfl) (of_decide_eq_true (by kernel_rfl))
                clear hag hend hsz hdf
                obtain ⟨A', c', e69, ho⟩ := hjj.s3 (hft 8 (by decide))
                simp only [List.map_cons, List.map_nil, f61, f62, f65, f66, f67, f68, f70] at ea
                clear f61 f62 f65 f66 f67 f68 f70
                generalize a.eval (.tmp 63) = x63 at ea f63
                generalize a.eval (.tmp 64) = x64 at ea f64
                generalize a.eval (.tmp 69) = x69 at ea f69
                simp only [List.take_succ_cons, List.take_zero, List.drop_succ_cons, List.drop_zero, List.cons_append, List.nil_append] at ea
                subst ea
                replace e69 : x69 = .slice A' (l.take i ++ [(⟨k, s, u, v, x, y, z⟩ : Ev)] ++ l.drop i).length c' := e69
                subst e69
                rw [HIN.out] at ho ⊢
                have HOW := Lib.hid ho
                have HBs : Hid (Below W1.heap.size W1 ws) := HB16.out.trans hle
                have HGs : Hid (ws.heap[G]? = some (.cells #[.int .i64 n, .int .i64 L, .int .i64 M, .slice A N c] 24 (0, 0))) := (hle.block G HGl.out).trans HGx.out
                have HG1s : Hid (ws.heap[G + 1]? = some (.cells #[.int .i64 k, .int .i64 s, .int .i64 u, .int .i64 v, .int .i64 x, .int .i64 y, .int .i64 z] 26 (0, 0))) := (hle.block (G + 1) HG1l.out).trans HG1x.out
                have HAI : Hid (Rd.Asc (Rd.ins ⟨k, s, u, v, x, y, z⟩ l)) := Rd.ins_asc HAS.out
                have HLI : Hid ((Rd.ins ⟨k, s, u, v, x, y, z⟩ l).length = N + 1) := by show _ = _; rw [Rd.ins_len, HNN.out]
                have hGs : G < ws.heap.size := lt_of_some HGs.out
                have hG1s : G + 1 < ws.heap.size := lt_of_some HG1s.out
                clear hjj hft hff hle ho HJ0 f63 f64 f69 HRX hX
                obtain ⟨L2, HX2⟩ : ∃ L2, Hid (max L s = L2) := ⟨_, rfl⟩
                have hmx : (s ≤ L ∧ L2 = L) ∨ (L < s ∧ L2 = s) := by have := HX2.out; omega
                have HPQ : Hid (Rd.rel ⟨n, L2, M, Rd.ins ⟨k, s, u, v, x, y, z⟩ l⟩ (L2 - n - 1) = Rd.pushed ⟨n, L, M, l⟩ ⟨k, s, u, v, x, y, z⟩) := by
                  show Rd.rel _ _ = Rd.rel (Rd.put _ _) _
                  unfold Rd.put
                  dsimp only
                  rw [HX2.out]
                have f1 : IntKind.i64.wrap (L2 - n) = L2 - n := IntWalk.i64_in _ (by have := HBD.out; omega)
                have f2 : IntKind.i64.wrap (L2 - n - 1) = L2 - n - 1 := IntWalk.i64_in _ (by have := HBD.out; omega)
                rw [HLI.out]
                have aC := Go.Joins.cell_of_block (HGs.out)
                have a0 := aC 0; have a1 := aC 1; have a2 := aC 2; have a3 := aC 3
                simp only [List.getElem?_toArray, List.getElem?_cons_succ, List.getElem?_cons_zero] at a0 a1 a2 a3
                have aF := Go.Joins.unfrozen_of_block (HGs.out)
                have af0 := aF 0; have af1 := aF 1; have af2 := aF 2; have af3 := aF 3
                clear aF
                clear aC
                have bC := Go.Joins.cell_of_block (HG1s.out)
                have b0 := bC 0; have b1 := bC 1; have b2 := bC 2; have b3 := bC 3; have b4 := bC 4; have b5 := bC 5; have b6 := bC 6
                simp only [List.getElem?_toArray, List.getElem?_cons_succ, List.getElem?_cons_zero] at b0 b1 b2 b3 b4 b5 b6
                clear bC
                have hGne : ¬ G = G + 1 := by omega
                have hGne2 : ¬ G + 1 = G := by omega
                have HTW : Hid (Tw G none ws ((ws.setCell ⟨G, 3, none⟩ (.slice A' (N + 1) c')).setCell ⟨G, 1, none⟩ (.int .i64 L2))) := Tw.set.trans Tw.set (Fr.refl _ _)
                have CR : Hid (∀ W7, W7 = ((ws.setCell ⟨G, 3, none⟩ (.slice A' (N + 1) c')).setCell ⟨G, 1, none⟩ (.int .i64 L2)) → Calls Try.prog 33 #[.agg #[.int .i64 n, .int .i64 L2, .int .i64 M, .slice A' (N + 1) c'], .int .i64 (L2 - n - 1)] W7 (RRelP ⟨n, L2, M, Rd.ins ⟨k, s, u, v, x, y, z⟩ l⟩ (L2 - n - 1) W7)) := by
                  rintro W7 rfl
                  have h9 := rrelease_any n L2 M (L2 - n - 1) A' c' (Rd.ins ⟨k, s, u, v, x, y, z⟩ l) _ (RX.of_own (own_kept' HOW.out HTW.out.grownP (fun q hq e => own_ne' HOW.out HGs.out (by decide) (by rw [e]; exact hq)))) (by rw [HLI.out]; have := HNB.out; omega)
                  rw [HLI.out] at h9
                  exact h9
                simp only [List.drop_succ_cons, List.drop_zero]
                obtain ⟨⟨⟨nb, nl, nm, nw⟩, RR⟩, HRP⟩ : ∃ RP, Hid (Rd.pushed ⟨n, L, M, l⟩ ⟨k, s, u, v, x, y, z⟩ = RP) := ⟨_, rfl⟩
                rcases hmx with ⟨hmx, h9⟩ | ⟨hmx, h9⟩
                all_goals
                  subst h9
                  go_wp2_with fail
                  refine (CR.out _ rfl).mono ?_
                  rintro e w9 ⟨A3, A4, c3, c4, rfl, ho9, hr9, hb9⟩
                  rw [HPQ.out, HRP.out] at ho9 hr9 ⊢
                  dsimp only at ho9 hr9 ⊢
                  have HO9 := Lib.hid ho9
                  have HR9 := Lib.hid hr9
                  have h7s := HTW.out.size
                  have hG3 : G + 3 ≤ ws.heap.size := by have := HBs.out.size; omega
                  have i2 := (hb9.block (G + 2) (by omega)).trans ((HTW.out.block (G + 2) (by omega) (by omega) (fun e => by cases e)).trans ((HBs.out.block (G + 2) (by rw [hs1]; omega)).trans HN.out.2.2.1))
                  have HB9 : Hid (Below w.heap.size w w9) := ((HB1.out.trans (HBs.out.mono HB1.out.size)).trans (HTW.out.below (by rw [HGG.out]; exact Nat.le_refl _) (fun q hq => by cases hq) (Nat.le_trans HB1.out.size HBs.out.size))).trans (hb9.mono (Nat.le_trans (Nat.le_trans HB1.out.size HBs.out.size) h7s))
                  have HLO : Hid (w.heap.size ≤ ws.heap.size) := Nat.le_trans HB1.out.size HBs.out.size
                  have HLO2 : Hid (w.heap.size ≤ ((ws.setCell _ _).setCell _ _).heap.size) := Nat.le_trans HLO.out h7s
                  have I2 := Lib.hid i2
                  have hs9 : G + 2 < w9.heap.size := lt_of_some i2
                  have ooC := Go.Joins.cell_of_block (i2)
                  have oo0 := ooC 0; have oo1 := ooC 1; have oo2 := ooC 2; have oo3 := ooC 3
                  simp only [List.getElem?_toArray, List.getElem?_cons_succ, List.getElem?_cons_zero] at oo0 oo1 oo2 oo3
                  have ooF := Go.Joins.unfrozen_of_block (i2)
                  have oof0 := ooF 0; have oof1 := ooF 1; have oof2 := ooF 2; have oof3 := ooF 3
                  clear ooF
                  clear ooC
                  clear CR ho9 hr9 hb9 h7s i2 a0 a1 a2 a3 b0 b1 b2 b3 b4 b5 b6 af0 af1 af2 af3
                  go_wp2
                  have hblk0 := set4_blk I2.out (.int .i64 nb) (.int .i64 nl) (.int .i64 nm) (.slice A3 nw.length c3)
                  have hT : Below w.heap.size w _ := below_set4 (g := G + 2) HB9.out (by rw [HGG.out]; omega) (.int .i64 nb) (.int .i64 nl) (.int .i64 nm) (.slice A3 nw.length c3)
                  have hr1 := ow_box I2.out (.int .i64 nb) (.int .i64 nl) (.int .i64 nm) (.slice A3 nw.length c3) (HO9.out.lo HLO2.out)
                  have hr2 := rn_box I2.out (.int .i64 nb) (.int .i64 nl) (.int .i64 nm) (.slice A3 nw.length c3) (HR9.out.lo HLO2.out)
                  have hz : Below _ _ _ := below_new ((((w9.setCell ⟨G + 2, 0, none⟩ (.int .i64 nb)).setCell ⟨G + 2, 1, none⟩ (.int .i64 nl)).setCell ⟨G + 2, 2, none⟩ (.int .i64 nm)).setCell ⟨G + 2, 3, none⟩ (.slice A3 nw.length c3)) (.cells #[.int .i64 nb, .int .i64 nl, .int .i64 nm, .slice A3 nw.length c3] 24)
                  have hblk := (hz.block (G + 2) (lt_of_some hblk0)).trans hblk0
                  exact ret_buf3 (p := 4) (q := 5) (r := 6) Try.results18 rfl (G + 2) rfl _ _ rfl rfl hblk ⟨⟨nb, nl, nm, nw⟩, RR, A3, A4, c3, c4, by rw [HPE2.out]; rfl, by rw [HPE2.out, if_pos rfl, HRP.out], hr1.go hz, hr2.go hz, hT.trans (hz.mono hT.size)⟩
    · have d0 : (X != 0) = true := by simpa using hX
      have HPE2 : Hid (Rd.pushE ⟨n, L, M, l⟩ ⟨k, s, u, v, x, y, z⟩ = X) := by show _ = _; rw [HPE1.out, if_pos hX]
      have HXX := Lib.hid hX
      clear hX
      have CC := Lib.hid (copied_any n L M A c l w3 (H1.out.up HB3.out) (by have := HL.out; omega))
      have k0 := (HB3.out.block G (by rw [hs1]; omega)).trans HN.out.1
      have aC := Go.Joins.cell_of_block (k0)
      have a0 := aC 0; have a1 := aC 1; have a2 := aC 2; have a3 := aC 3
      simp only [List.getElem?_toArray, List.getElem?_cons_succ, List.getElem?_cons_zero] at a0 a1 a2 a3
      clear aC
      go_wp2_with fail
      refine CC.out.mono ?_
      rintro e wy ⟨A1, c1, rfl, ho, hb⟩
      have HOY := Lib.hid ho
      have HBY : Hid (Below W1.heap.size W1 wy) := HB3.out.trans (hb.mono HB3.out.size)
      have k2 := (HBY.out.block (G + 2) (by rw [hs1]; omega)).trans HN.out.2.2.1
      have K2 := Lib.hid k2
      have ooC := Go.Joins.cell_of_block (k2)
      have oo0 := ooC 0; have oo1 := ooC 1; have oo2 := ooC 2; have oo3 := ooC 3
      simp only [List.getElem?_toArray, List.getElem?_cons_succ, List.getElem?_cons_zero] at oo0 oo1 oo2 oo3
      have ooF := Go.Joins.unfrozen_of_block (k2)
      have oof0 := ooF 0; have oof1 := ooF 1; have oof2 := ooF 2; have oof3 := ooF 3
      clear ooF
      clear ooC
      clear k0 k2 ho hb CC a0 a1 a2 a3
      go_wp2
      have hblk := set4_blk K2.out (.int .i64 n) (.int .i64 L) (.int .i64 M) (.slice A1 l.length c1)
      have hT : Below w.heap.size w _ := below_set4 (g := G + 2) (HB1.out.trans (HBY.out.mono HB1.out.size)) (by rw [HGG.out]; omega) (.int .i64 n) (.int .i64 L) (.int .i64 M) (.slice A1 l.length c1)
      exact ret_buf3 (p := 4) (q := 5) (r := 6) Try.results18 rfl (G + 2) rfl _ _ rfl rfl hblk ⟨⟨n, L, M, l⟩, [], A1, none, c1, 0, by rw [HPE2.out]; rfl, by rw [HPE2.out, if_neg HXX.out], ow_box K2.out _ _ _ _ (HOY.out.lo (Nat.le_trans HB1.out.size HB3.out.size)), RN.nil_ _ _ _ _, hT⟩
  · have hdV : decide (Rd.V ⟨n, L, M, l⟩) = false := by simpa using hV
    have HPE2 : Hid (Rd.pushE ⟨n, L, M, l⟩ ⟨k, s, u, v, x, y, z⟩ = 4) := by show _ = _; rw [HPE.out, if_pos hV]
    simp only [hdV]
    clear hdV hV
    have CC := Lib.hid (copied_any n L M A c l w2 (H1.out.up HB2.out) (by have := HL.out; omega))
    have k0 := (HB2.out.block G (by rw [hs1]; omega)).trans HN.out.1
    have aC := Go.Joins.cell_of_block (k0)
    have a0 := aC 0; have a1 := aC 1; have a2 := aC 2; have a3 := aC 3
    simp only [List.getElem?_toArray, List.getElem?_cons_succ, List.getElem?_cons_zero] at a0 a1 a2 a3
    clear aC
    go_wp2_with fail
    refine CC.out.mono ?_
    rintro e wy ⟨A1, c1, rfl, ho, hb⟩
    have HOY := Lib.hid ho
    have HBY : Hid (Below W1.heap.size W1 wy) := HB2.out.trans (hb.mono HB2.out.size)
    have k2 := (HBY.out.block (G + 2) (by rw [hs1]; omega)).trans HN.out.2.2.1
    have K2 := Lib.hid k2
    have ooC := Go.Joins.cell_of_block (k2)
    have oo0 := ooC 0; have oo1 := ooC 1; have oo2 := ooC 2; have oo3 := ooC 3
    simp only [List.getElem?_toArray, List.getElem?_cons_succ, List.getElem?_cons_zero] at oo0 oo1 oo2 oo3
    have ooF := Go.Joins.unfrozen_of_block (k2)
    have oof0 := ooF 0; have oof1 := ooF 1; have oof2 := ooF 2; have oof3 := ooF 3
    clear ooF
    clear ooC
    clear k0 k2 ho hb CC a0 a1 a2 a3
    go_wp2
    have hblk := set4_blk K2.out (.int .i64 n) (.int .i64 L) (.int .i64 M) (.slice A1 l.length c1)
    have hT : Below w.heap.size w _ := below_set4 (g := G + 2) (HB1.out.trans (HBY.out.mono HB1.out.size)) (by rw [HGG.out]; omega) (.int .i64 n) (.int .i64 L) (.int .i64 M) (.slice A1 l.length c1)
    exact ret_buf3 (p := 4) (q := 5) (r := 6) Try.results18 rfl (G + 2) rfl _ _ rfl rfl hblk ⟨⟨n, L, M, l⟩, [], A1, none, c1, 0, by rw [HPE2.out]; rfl, by rw [HPE2.out, if_neg (by decide)], ow_box K2.out _ _ _ _ (HOY.out.lo (Nat.le_trans HB1.out.size HB2.out.size)), RN.nil_ _ _ _ _, hT⟩
end Go.Proofs.Ytgdhjllfdndmnaa
