/-
  WindowSlides, walked.
-/
import Derived.Test.YtfapfkaipdcflaaGreatUjn
import Derived.Test.YtfapfkaipdcflaaGreatSw
import Derived.Test.YtfapfkaipdcflaaGreatSu
import Derived.Test.YtfapfkaipdcflaaGreatUh
namespace Go.Proofs.YtfapfkaipdcflaaGreat
open Go.RowKit Go.Lib

theorem grown_cell {w w' : World} {g B : Nat} (hg : w.grownBy w' (some g)) (hb : B < w.heap.size) (hne : B ≠ g) : w'.heap[B]? = w.heap[B]? := hg.block B hb (fun e => by injection e with e; omega)
/-- one of three windows -/
theorem box9w {wr : World} {X : Nat} {T : TypeId} {k0 k1 k2 W0 W1 W2 M0 M1 M2 : Int} (h : wr.heap[X]? = some (.cells #[.int .i64 k0, .int .i64 W0, .int .i64 M0, .int .i64 k1, .int .i64 W1, .int .i64 M1, .int .i64 k2, .int .i64 W2, .int .i64 M2] T (0, 0)))
    (h0 : (Lit.int .i64 k0).wf = true) (h1 : (Lit.int .i64 k1).wf = true) (h2 : (Lit.int .i64 k2).wf = true) (j : Nat) (hj : j < 3) :
    ∃ k W M : Int, (Lit.int .i64 k).wf = true ∧ wr.cell? ⟨X, j * 3, none⟩ = some (.int .i64 k) ∧ wr.cell? ⟨X, j * 3 + 1, none⟩ = some (.int .i64 W) ∧ wr.cell? ⟨X, j * 3 + 2, none⟩ = some (.int .i64 M) := by
  obtain rfl | rfl | rfl : j = 0 ∨ j = 1 ∨ j = 2 := by omega
  · exact ⟨k0, W0, M0, h0, Go.Joins.cell_of_block h 0, Go.Joins.cell_of_block h 1, Go.Joins.cell_of_block h 2⟩
  · exact ⟨k1, W1, M1, h1, Go.Joins.cell_of_block h 3, Go.Joins.cell_of_block h 4, Go.Joins.cell_of_block h 5⟩
  · exact ⟨k2, W2, M2, h2, Go.Joins.cell_of_block h 6, Go.Joins.cell_of_block h 7, Go.Joins.cell_of_block h 8⟩
/-- one of three numbers -/
theorem box3i {wr : World} {X : Nat} {T : TypeId} {a b c : Int} (h : wr.heap[X]? = some (.cells #[.int .i64 a, .int .i64 b, .int .i64 c] T (0, 0))) (j : Nat) (hj : j < 3) : ∃ x : Int, wr.cell? ⟨X, j, none⟩ = some (.int .i64 x) := by
  obtain rfl | rfl | rfl : j = 0 ∨ j = 1 ∨ j = 2 := by omega
  · exact ⟨a, Go.Joins.cell_of_block h 0⟩
  · exact ⟨b, Go.Joins.cell_of_block h 1⟩
  · exact ⟨c, Go.Joins.cell_of_block h 2⟩
/-- one of three lists of events -/
theorem box3v {wr : World} {X : Nat} {T : TypeId} {A0 A1 A2 : Option Addr} {c0 c1 c2 : Nat} {l0 l1 l2 : List Ev} (h : wr.heap[X]? = some (.cells #[.slice A0 l0.length c0, .slice A1 l1.length c1, .slice A2 l2.length c2] T (0, 0)))
    (h0 : RV wr.heap.size wr A0 c0 l0) (h1 : RV wr.heap.size wr A1 c1 l1) (h2 : RV wr.heap.size wr A2 c2 l2) (e0 : l0.length ≤ 100) (e1 : l1.length ≤ 100) (e2 : l2.length ≤ 100) (k : Nat) (hk : k < 3) :
    ∃ (Ax : Option Addr) (cx : Nat) (lx : List Ev), wr.cell? ⟨X, k, none⟩ = some (.slice Ax lx.length cx) ∧ RV wr.heap.size wr Ax cx lx ∧ lx.length ≤ 100 := by
  obtain rfl | rfl | rfl : k = 0 ∨ k = 1 ∨ k = 2 := by omega
  · exact ⟨A0, c0, l0, Go.Joins.cell_of_block h 0, h0, e0⟩
  · exact ⟨A1, c1, l1, Go.Joins.cell_of_block h 1, h1, e1⟩
  · exact ⟨A2, c2, l2, Go.Joins.cell_of_block h 2, h2, e2⟩
set_option maxHeartbeats 8000000 in
set_option maxRecDepth 100000 in
theorem slides_law (Ar : Option Addr) (cr : Nat) (raw : List Ev) (rk rW rM : Int) (hrk : (Lit.int .i64 rk).wf = true) (A : Option Addr) (c : Nat) (L : List Int) (xn : Int) (W : World) (hr : RV W.heap.size W Ar cr raw) (h : RD W A c L) (hL : L.length ≤ 17592186044416) :
    Calls Tryz.prog 4 #[.slice Ar raw.length cr, .agg #[.int .i64 rk, .int .i64 rW, .int .i64 rM], .slice A L.length c, .int .i64 xn] W fun e W' => e = .returned (.bool true) ∧ Below W.heap.size W W' := by
  obtain ⟨W1, HW1⟩ : ∃ W1, Hid (W1 = W.alloc (.cells #[.int .i64 rk, .int .i64 rW, .int .i64 rM] 26)) := ⟨_, rfl⟩
  have hb1 : Below W.heap.size W W1 := by rw [HW1.out]; exact below_new _ _
  have n0 : W1.heap[W.heap.size]? = some (.cells #[.int .i64 rk, .int .i64 rW, .int .i64 rM] 26 (0, 0)) := by rw [HW1.out]; exact heap_alloc_new _ _
  obtain ⟨B5, HB5⟩ : ∃ B, Hid (W.heap.size = B) := ⟨_, rfl⟩
  rw [HB5.out] at n0
  have N5 := Lib.hid n0
  have HB1 := Lib.hid hb1
  have HR1 := Lib.hid (hr.up hb1)
  have CN := Lib.hid (new_any A c L W1 (h.go hb1))
  clear hb1 n0 hr h
  by_cases h60 : raw.length > 60
  · have hd : decide ((raw.length : Int) > 60) = true := by rw [decide_eq_true_eq]; omega
    clear h60
    have CA := Lib.hid (awake_any W1)
    rw [HW1.out] at CA
    go_enter Tryz.func4, Tryz.ntmps4
    go_wp2_with fail
    refine CA.out.mono ?_
    rw [← HW1.out]
    rintro e w1 ⟨rfl, hb⟩
    have HB := Lib.hid (HB1.out.trans (hb.mono HB1.out.size))
    clear hb CA
    go_wp2
    go_ret
    exact ⟨rfl, HB.out⟩
  have hd : decide ((raw.length : Int) > 60) = false := by rw [decide_eq_false_iff_not]; omega
  have hr60 : raw.length ≤ 60 := by omega
  clear h60
  obtain ⟨nr, HNR⟩ : ∃ n, Hid (raw.length = n) := ⟨_, rfl⟩
  have hnr : nr ≤ 60 := by rw [← HNR.out]; exact hr60
  clear hr60
  rw [HNR.out] at hd ⊢
  obtain ⟨g, Hg⟩ : ∃ g, Hid (W1.heap.size = g) := ⟨_, rfl⟩
  have hg5 : B5 < g := by rw [← Hg.out]; exact lt_of_some N5.out
  have HWg : Hid (W.heap.size ≤ g) := by show _ ≤ _; rw [HB5.out]; omega
  rw [HW1.out] at CN
  go_enter Tryz.func4, Tryz.ntmps4
  go_wp2_with fail
  refine CN.out.mono ?_
  rw [← HW1.out]
  simp only [HB5.out, Hg.out]
  rintro e w1 ⟨rfl, D1, hb1⟩
  have HD1 := Lib.hid D1
  have HBa := Lib.hid (HB1.out.trans (hb1.mono HWg.out))
  have HRa := Lib.hid (HR1.out.up (by rw [Hg.out]; exact hb1))
  have N5a := Lib.hid ((hb1.block B5 hg5).trans N5.out)
  clear D1 hb1 CN N5 HR1 HB1
  go_wp2_with fail
  refine (next_any g g A c L 0 5 w1 HD1.out hL (by decide)).mono ?_
  rintro e w2 ⟨r, m2, rfl, hr1, hr2, D2, g2⟩
  have HD2 := Lib.hid D2
  have HBb : Hid (Below W.heap.size W w2) := HBa.out.grown g2 HBa.out.size (fun k hk => by injection hk with hk; have := HWg.out; omega)
  have HRb := Lib.hid (HRa.out.keepG encE (n := 7) (by decide) HD1.out.blk g2).2
  have N5b := Lib.hid ((grown_cell g2 (lt_of_some N5a.out) (by omega)).trans N5a.out)
  obtain ⟨N, hN⟩ : ∃ N : Nat, 2 + r = N := ⟨(2 + r).toNat, by omega⟩
  have hNB : 2 ≤ N ∧ N ≤ 6 := by omega
  have f1 : IntKind.i64.wrap (2 + r) = N := by rw [← hN]; exact IntWalk.i64_in _ (by omega)
  clear D2 g2 hr1 hr2 HD1 HBa HRa N5a
  go_wp2_with fail
  refine (evlist_any g g A c L m2 N 14 w2 HD2.out hL (by omega) (by decide)).mono ?_
  rintro e w3 ⟨l, Al, cl', m3, rfl, hll, -, -, ho, hd3, hg3⟩
  have HBc : Hid (Below W.heap.size W w3) := HBb.out.grown hg3 HBb.out.size (fun k hk => by injection hk with hk; have := HWg.out; omega)
  have HRc := Lib.hid (HRb.out.keepG encE (n := 7) (by decide) HD2.out.blk hg3).2
  have N5c := Lib.hid ((grown_cell hg3 (lt_of_some N5b.out) (by omega)).trans N5b.out)
  have HD3 := Lib.hid hd3
  have HL3 := Lib.hid (RX.of_own ho)
  have HLL := Lib.hid hll
  clear ho hd3 hg3 HD2 HBb HRb N5b hN f1 hll
  obtain ⟨nl, HNL⟩ : ∃ n, Hid (l.length = n) := ⟨_, rfl⟩
  have hnl : nl ≤ 14 := by rw [← HNL.out]; exact HLL.out
  simp only [HNL.out]
  go_wp2_with fail
  refine (window_any g g A c L m3 w3 HD3.out hL).mono ?_
  rintro e w4 ⟨k, Wd, Mo, m4, rfl, hk13, hd4, hg4⟩
  have HBd : Hid (Below W.heap.size W w4) := HBc.out.grown hg4 HBc.out.size (fun k hk => by injection hk with hk; have := HWg.out; omega)
  have HRd := Lib.hid (HRc.out.keepG encE (n := 7) (by decide) HD3.out.blk hg4).2
  have HLd := Lib.hid (HL3.out.keepG encE (n := 7) (by decide) HD3.out.blk hg4).2
  have N5d := Lib.hid ((grown_cell hg4 (lt_of_some N5c.out) (by omega)).trans N5c.out)
  have HD4 := Lib.hid hd4
  have HKW : Hid ((Lit.int .i64 k).wf = true) := by
    have h2 : k = 1 ∨ k = 2 ∨ k = 3 := by omega
    show _ = _
    rcases h2 with rfl | rfl | rfl <;> decide
  clear hd4 hg4 HD3 HBc HRc HL3 N5c hk13
  obtain ⟨w5, HW5⟩ : ∃ w5, Hid (w5 = w4.alloc (.cells #[.int .i64 k, .int .i64 Wd, .int .i64 Mo] 26)) := ⟨_, rfl⟩
  obtain ⟨B12, HB12⟩ : ∃ B, Hid (w4.heap.size = B) := ⟨_, rfl⟩
  have hb5 : Below w4.heap.size w4 w5 := by rw [HW5.out]; exact below_new _ _
  have N12 : Hid (w5.heap[B12]? = some (.cells #[.int .i64 k, .int .i64 Wd, .int .i64 Mo] 26 (0, 0))) := by show _ = _; rw [HW5.out, ← HB12.out]; exact heap_alloc_new _ _
  have hg12 : g < B12 := by rw [← HB12.out]; exact HD4.out.lt
  have HBe := Lib.hid (HBd.out.trans (hb5.mono HBd.out.size))
  have HRe := Lib.hid (HRd.out.up hb5)
  have HLe := Lib.hid (HLd.out.up hb5)
  have HDe := Lib.hid (HD4.out.go hb5)
  have N5e := Lib.hid ((hb5.block B5 (lt_of_some N5d.out)).trans N5d.out)
  clear hb5 HBd HRd HLd HD4 N5d
  have HZ5 : Hid (w5.heap.size ≤ w5.heap.size) := Nat.le_refl _
  go_wp2_with (
    at_builtin
    first
      | (rw [← HW5.out]
         refine wpList_applF _ rfl (.const (.slice none 0 0)) (.tmp 39) w5.heap.size none 0 rfl [] rfl (World.ownsRow_nil _ _ _ _) Al cl' nl l HNL.out (by simp [Act.eval]) HLe.out (by simp; omega) HZ5.out ?_
         intro A6 c6 w6 HO6 HG6 HF6
         simp only [List.nil_append] at HO6
         have hb6 := (Below.refl w5.heap.size w5).grown HG6.out (Nat.le_refl _) (fun k hk => by cases hk)
         have HBf := Lib.hid (HBe.out.trans (hb6.mono HBe.out.size))
         have HRf := Lib.hid (HRe.out.up hb6)
         have HLf := Lib.hid (HLe.out.up hb6)
         have HDf := Lib.hid (HDe.out.go hb6)
         have N5f := Lib.hid ((hb6.block B5 (lt_of_some N5e.out)).trans N5e.out)
         have N12f := Lib.hid ((hb6.block B12 (lt_of_some N12.out)).trans N12.out)
         have HZ6 := Lib.hid hb6.size
         clear hb6)
      | (refine wpList_applF _ rfl (.tmp 40) (.tmp 41) w5.heap.size A6 c6 rfl l (by simp [Act.eval]) HO6.out Ar cr nr raw HNR.out (by simp [Act.eval]) HRf.out (by have := HLL.out; omega) HZ6.out ?_
         intro A7 c7 w7 HO7 HG7 HF7
         obtain ⟨lz, HLZ⟩ : ∃ X, Hid (l ++ raw = X) := ⟨_, rfl⟩
         obtain ⟨nz, HNZ⟩ : ∃ X, Hid (lz.length = X) := ⟨_, rfl⟩
         rw [HLZ.out] at HO7 HF7 ⊢
         rw [HNZ.out] at HO7 HF7 ⊢
         have hb7 := (Below.refl w5.heap.size w6).grown HG7.out HZ6.out (fun k hk => (HO6.out.lt k hk).1)
         have HX7 := Lib.hid hb7
         have HR7 := Lib.hid (RX.of_own (l := lz) (by rw [HNZ.out]; exact HO7.out))))
  have hb57 : Below w5.heap.size w5 w7 := ((Below.refl w5.heap.size w5).grown HG6.out (Nat.le_refl _) (fun k hk => by cases hk)).trans HX7.out
  obtain ⟨w8, HW8⟩ : ∃ w8, Hid (w8 = w7.alloc (.cells #[.slice Al nl cl', .slice Ar nr cr, .slice A7 nz c7] 40)) := ⟨_, rfl⟩
  obtain ⟨B43, HB43⟩ : ∃ B, Hid (w7.heap.size = B) := ⟨_, rfl⟩
  have hb8 : Below w7.heap.size w7 w8 := by rw [HW8.out]; exact below_new _ _
  have hb58 : Below w5.heap.size w5 w8 := hb57.trans (hb8.mono hb57.size)
  have N43 : Hid (w8.heap[B43]? = some (.cells #[.slice Al l.length cl', .slice Ar raw.length cr, .slice A7 lz.length c7] 40 (0, 0))) := by show _ = _; rw [HW8.out, ← HB43.out, HNL.out, HNR.out, HNZ.out]; exact heap_alloc_new _ _
  have hg43 : g < B43 := by rw [← HB43.out]; have := hb57.size; have := HDe.out.lt; omega
  have HBg := Lib.hid (HBe.out.trans (hb58.mono HBe.out.size))
  have HRg := Lib.hid (HRe.out.up hb58)
  have HLg := Lib.hid (HLe.out.up hb58)
  have HXg := Lib.hid (HR7.out.up hb8)
  have HDg := Lib.hid (HDe.out.go hb58)
  have N5g := Lib.hid ((hb58.block B5 (lt_of_some N5e.out)).trans N5e.out)
  have N12g := Lib.hid ((hb58.block B12 (lt_of_some N12.out)).trans N12.out)
  have HRl : Hid (raw.length ≤ 100) := by show _ ≤ _; rw [HNR.out]; omega
  have HLl : Hid (l.length ≤ 100) := by show _ ≤ _; rw [HNL.out]; omega
  have HXl : Hid (lz.length ≤ 100) := by show _ ≤ _; rw [← HLZ.out, List.length_append, HNR.out, HNL.out]; omega
  clear hb57 hb8 hb58 hb7 HX7 HG7 HF7 HO7 HR7 HO6 HG6 HF6 HBf HRf HLf HDf N5f N12f HZ6 HZ5 HBe HRe HLe HDe N5e N12 HLL
  rw [← HW8.out]
  simp only [HB43.out, HB12.out]
  clear HW8 HB43 HW5 HB12
  go_loopw [45] (fun i wr => ∃ j m : Nat, j ≤ 3 ∧ i = .int .i64 j ∧ Hid (w8.grownBy wr (some g)) ∧ Hid (Dk g wr g A c L m)) (fun i _ => 3 - (RowKit.intOf i).toNat)
  case atStart => exact ⟨0, m4, by decide, rfl, grown_refl _ _, HDg.out⟩
  case round =>
    obtain ⟨j, m, hj, rfl, HG, HD⟩ := hrel
    have HBr : Hid (Below W.heap.size W wr) := HBg.out.grown HG.out HBg.out.size (fun k hk => by injection hk with hk; have := HWg.out; omega)
    by_cases hlt : j < 3
    · have dj : decide ((j : Int) < 3) = true := by rw [decide_eq_true_eq]; omega
      have M5 := Lib.hid ((grown_cell HG.out (lt_of_some N5g.out) (by omega)).trans N5g.out)
      have M12 := Lib.hid ((grown_cell HG.out (lt_of_some N12g.out) (by omega)).trans N12g.out)
      obtain ⟨Ax, cx, lx, hcx, hrx, hlx⟩ := box3v ((grown_cell HG.out (lt_of_some N43.out) (by omega)).trans N43.out) (HLg.out.keepG encE (n := 7) (by decide) HDg.out.blk HG.out).2 (HRg.out.keepG encE (n := 7) (by decide) HDg.out.blk HG.out).2 (HXg.out.keepG encE (n := 7) (by decide) HDg.out.blk HG.out).2 HLl.out HRl.out HXl.out j hlt
      have HRX := Lib.hid hrx
      have HLX := Lib.hid hlx
      have hl43 : B43 < wr.heap.size := Nat.lt_of_lt_of_le (lt_of_some N43.out) HG.out.size
      clear hrx hlx
      go_wp2_with fail
      clear hcx hl43
      have HDJ : Hid (∃ m, Dk g (wr.drewN 1) g A c L m) := ⟨m, HD.out.go (below_drewN _ _)⟩
      refine wp_region_ac 8 98 (fun u v => u.grownBy v (some g)) (fun _ _ w => ∃ m, Dk g w g A c L m) [(fun q0 _ => q0 = .agg #[.int .i64 k, .int .i64 Wd, .int .i64 Mo]), (fun q0 _ => q0 = .pointer (some ⟨g, 0, none⟩)), (fun q0 _ => q0 = .agg #[.int .i64 k, .int .i64 Wd, .int .i64 Mo]), (fun q0 _ => ∃ k1 W1 M1 : Int, (Lit.int .i64 k1).wf = true ∧ q0 = .agg #[.int .i64 k1, .int .i64 W1, .int .i64 M1]), (fun q0 _ => q0 = .agg #[.int .i64 rk, .int .i64 rW, .int .i64 rM]), (fun q0 w5 => ∃ (vb : Nat) (k1 W1 M1 : Int), (Lit.int .i64 k1).wf = true ∧ q0 = .slice (some ⟨vb, 0, none⟩) 3 3 ∧ vb ≠ g ∧ w5.heap[vb]? = some (.cells #[.int .i64 k, .int .i64 Wd, .int .i64 Mo, .int .i64 k1, .int .i64 W1, .int .i64 M1, .int .i64 rk, .int .i64 rW, .int .i64 rM] 26 (0, 0))), (fun q0 _ => q0 = .int .i64 3), (fun q0 _ => q0 = .int .i64 0)] (by kernel_rfl) (by kernel_rfl) rfl (fun _ _ _ h1 h2 => grown_trans h1 h2) (only_drewN _ g) HDJ.out ?_ ?_ ?_
      · intro R hR
        simp only [List.mem_cons, List.not_mem_nil, or_false] at hR
        rcases hR with rfl | rfl | rfl | rfl | rfl | rfl | rfl | rfl <;> (first | exact fun _ _ _ h _ => h | exact fun _ _ _ h hb => by obtain ⟨vb, k1, W1, M1, h1, h2, h3, h4⟩ := h; exact ⟨vb, k1, W1, M1, h1, h2, h3, (grown_cell hb (lt_of_some h4) h3).trans h4⟩)
      · simp only [List.take_succ_cons, List.take_zero]
        refine ⟨?_, ?_, ?_, ?_, ?_, ?_, ?_, ?_, trivial⟩
        · intro a ws f hle hjj hfi hun hdn hag hdep K Q hK
          have d12 : (a.tmps[12]?).getD undef = .pointer (some ⟨B12, 0, none⟩) := eval_get (hag 12 (freeB_spec (by kernel_rfl)))
          rw [if_pos (show Region.wanted _ _ = true from rfl)]
          have yy := Go.Joins.cell_of_block ((hle.block B12 (lt_of_some M12.out) (fun e => by injection e with e; omega)).trans M12.out)
          have y0 := yy 0; have y1 := yy 1; have y2 := yy 2
          simp only [List.getElem?_toArray, List.getElem?_cons_succ, List.getElem?_cons_zero] at y0 y1 y2
          clear yy
          unfold Oper.wp
          simp [go_sem, d12, y0, y1, y2]
          exact hK _ _ (grown_refl _ _) hjj rfl
        · intro a ws f hle hjj hfi hun hdn hag hdep K Q hK
          have d9 : (a.tmps[9]?).getD undef = .pointer (some ⟨g, 0, none⟩) := eval_get (hag 9 (freeB_spec (by kernel_rfl)))
          rw [if_pos (show Region.wanted _ _ = true from rfl)]
          unfold Oper.wp
          simp [go_sem, d9]
          exact hK _ _ (grown_refl _ _) hjj rfl
        · intro a ws f hle hjj hfi hun hdn hag hdep K Q hK
          have d12 : (a.tmps[12]?).getD undef = .pointer (some ⟨B12, 0, none⟩) := eval_get (hag 12 (freeB_spec (by kernel_rfl)))
          rw [if_pos (show Region.wanted _ _ = true from rfl)]
          have yy := Go.Joins.cell_of_block ((hle.block B12 (lt_of_some M12.out) (fun e => by injection e with e; omega)).trans M12.out)
          have y0 := yy 0; have y1 := yy 1; have y2 := yy 2
          simp only [List.getElem?_toArray, List.getElem?_cons_succ, List.getElem?_cons_zero] at y0 y1 y2
          clear yy
          unfold Oper.wp
          simp [go_sem, d12, y0, y1, y2]
          exact hK _ _ (grown_refl _ _) hjj rfl
        · intro a ws f hle hjj hfi hun hdn hag hdep K Q hK
          have d50 : (a.tmps[50]?).getD undef = .pointer (some ⟨g, 0, none⟩) := eval_get (dep_of hdep 1 50 rfl (by kernel_rfl) rfl rfl)
          have d51 : (a.tmps[51]?).getD undef = .agg #[.int .i64 k, .int .i64 Wd, .int .i64 Mo] := eval_get (dep_of hdep 2 51 rfl (by kernel_rfl) rfl rfl)
          rw [if_pos (show Region.wanted _ _ = true from rfl)]
          obtain ⟨mm, hdm⟩ := hjj
          have hcon := oddw_any g g A c L mm k Wd Mo HKW.out ws hdm hL
          unfold Oper.wp
          simp [go_sem, d50, d51]
          refine hcon.mono ?_
          rintro e w9 ⟨k1, W1, M1, m9, rfl, hk1, hd9, hg9⟩
          exact hK _ _ hg9 ⟨m9, hd9⟩ ⟨k1, W1, M1, hk1, rfl⟩
        · intro a ws f hle hjj hfi hun hdn hag hdep K Q hK
          have d5 : (a.tmps[5]?).getD undef = .pointer (some ⟨B5, 0, none⟩) := eval_get (hag 5 (freeB_spec (by kernel_rfl)))
          rw [if_pos (show Region.wanted _ _ = true from rfl)]
          have yy := Go.Joins.cell_of_block ((hle.block B5 (lt_of_some M5.out) (fun e => by injection e with e; omega)).trans M5.out)
          have y0 := yy 0; have y1 := yy 1; have y2 := yy 2
          simp only [List.getElem?_toArray, List.getElem?_cons_succ, List.getElem?_cons_zero] at y0 y1 y2
          clear yy
          unfold Oper.wp
          simp [go_sem, d5, y0, y1, y2]
          exact hK _ _ (grown_refl _ _) hjj rfl
        · intro a ws f hle hjj hfi hun hdn hag hdep K Q hK
          have d49 : (a.tmps[49]?).getD undef = .agg #[.int .i64 k, .int .i64 Wd, .int .i64 Mo] := eval_get (dep_of hdep 0 49 rfl (by kernel_rfl) rfl rfl)
          have d52 : (fun q0 _ => ∃ k1 W1 M1 : Int, (Lit.int .i64 k1).wf = true ∧ q0 = .agg #[.int .i64 k1, .int .i64 W1, .int .i64 M1]) (a.eval (.tmp 52)) ws := dep_of hdep 3 52 rfl (by kernel_rfl) rfl rfl
          have d53 : (a.tmps[53]?).getD undef = .agg #[.int .i64 rk, .int .i64 rW, .int .i64 rM] := eval_get (dep_of hdep 4 53 rfl (by kernel_rfl) rfl rfl)
          rw [if_pos (show Region.wanted _ _ = true from rfl)]
          obtain ⟨k1, W1, M1, hk1, e52⟩ := d52
          have e52 := eval_get e52
          obtain ⟨mm, hdm⟩ := hjj
          have hgs := hdm.lt
          unfold Oper.wp
          simp [go_sem, d49, e52, d53]
          exact hK _ _ (grown_below (grown_refl _ _) (below_new _ _) (Nat.le_refl _)) ⟨mm, hdm.go (below_new _ _)⟩ ⟨_, k1, W1, M1, hk1, rfl, by omega, heap_alloc_new _ _⟩
        · intro a ws f hle hjj hfi hun hdn hag hdep K Q hK
          have d54 : (fun q0 w5 => ∃ (vb : Nat) (k1 W1 M1 : Int), (Lit.int .i64 k1).wf = true ∧ q0 = .slice (some ⟨vb, 0, none⟩) 3 3 ∧ vb ≠ g ∧ w5.heap[vb]? = some (.cells #[.int .i64 k, .int .i64 Wd, .int .i64 Mo, .int .i64 k1, .int .i64 W1, .int .i64 M1, .int .i64 rk, .int .i64 rW, .int .i64 rM] 26 (0, 0))) (a.eval (.tmp 54)) ws := dep_of hdep 5 54 rfl (by kernel_rfl) rfl rfl
          rw [if_pos (show Region.wanted _ _ = true from rfl)]
          obtain ⟨vb, k1, W1, M1, -, e54, -, -⟩ := d54
          have e54 := eval_get e54
          unfold Oper.wp
          simp [go_sem, e54]
          exact hK _ _ (grown_refl _ _) hjj rfl
        · intro a ws f hle hjj hfi hun hdn hag hdep K Q hK
          rw [if_pos (show Region.wanted _ _ = true from rfl)]
          unfold Oper.wp
          simp [go_sem]
          exact hK _ _ (grown_refl _ _) hjj rfl
      · intro a ws f hle hjj hft hff hsz hdf hag hend
        have f49 : a.eval (.tmp 49) = .agg #[.int .i64 k, .int .i64 Wd, .int .i64 Mo] := end_of hend 0 49 (by decide) rfl rfl rfl
        have f50 : a.eval (.tmp 50) = .pointer (some ⟨g, 0, none⟩) := end_of hend 1 50 (by decide) rfl rfl rfl
        have f51 : a.eval (.tmp 51) = .agg #[.int .i64 k, .int .i64 Wd, .int .i64 Mo] := end_of hend 2 51 (by decide) rfl rfl rfl
        have f52 : (fun q0 _ => ∃ k1 W1 M1 : Int, (Lit.int .i64 k1).wf = true ∧ q0 = .agg #[.int .i64 k1, .int .i64 W1, .int .i64 M1]) (a.eval (.tmp 52)) ws := end_of hend 3 52 (by decide) rfl rfl rfl
        have f53 : a.eval (.tmp 53) = .agg #[.int .i64 rk, .int .i64 rW, .int .i64 rM] := end_of hend 4 53 (by decide) rfl rfl rfl
        have f54 : (fun q0 w5 => ∃ (vb : Nat) (k1 W1 M1 : Int), (Lit.int .i64 k1).wf = true ∧ q0 = .slice (some ⟨vb, 0, none⟩) 3 3 ∧ vb ≠ g ∧ w5.heap[vb]? = some (.cells #[.int .i64 k, .int .i64 Wd, .int .i64 Mo, .int .i64 k1, .int .i64 W1, .int .i64 M1, .int .i64 rk, .int .i64 rW, .int .i64 rM] 26 (0, 0))) (a.eval (.tmp 54)) ws := end_of hend 5 54 (by decide) rfl rfl rfl
        have f55 : a.eval (.tmp 55) = .int .i64 3 := end_of hend 6 55 (by decide) rfl rfl rfl
        have f56 : a.eval (.tmp 56) = .int .i64 0 := end_of hend 7 56 (by decide) rfl rfl rfl
        have ea := act_block 49 8 hsz hdf hag [49, 50, 51, 52, 53, 54, 55, 56] (by kernel_rfl) (by kernel_rfl) (of_decide_eq_true (by kernel_rfl))
        clear hag hend hsz hdf
        simp only [List.map_cons, List.map_nil, f49, f50, f51, f53, f55, f56] at ea
        clear f49 f50 f51 f53 f55 f56
        generalize a.eval (.tmp 52) = x52 at ea f52
        generalize a.eval (.tmp 54) = x54 at ea f54
        simp only [List.take_succ_cons, List.take_zero, List.drop_succ_cons, List.drop_zero, List.cons_append, List.nil_append] at ea
        subst ea
        obtain ⟨m9, hd9⟩ := hjj
        obtain ⟨vb, k1, W1', M1', hk1, rfl, hvg, hvb⟩ := f54
        have HGs : Hid (w8.grownBy ws (some g)) := grown_trans HG.out hle
        have HDs := Lib.hid hd9
        have HVB := Lib.hid hvb
        have HK1 := Lib.hid hk1
        have HRs := Lib.hid (HRX.out.keepG encE (n := 7) (by decide) HD.out.blk hle).2
        have HBs : Hid (Below W.heap.size W ws) := HBg.out.grown HGs.out HBg.out.size (fun k hk => by injection hk with hk; have := HWg.out; omega)
        clear f52 hle hft hff hd9 hvb hk1 HDJ M5 M12 HRX HG HD HBr
        simp only [List.drop_succ_cons, List.drop_zero]
        go_wp2_with fail
        go_loopw [56] (fun i wt => ∃ j2 : Nat, j2 ≤ 3 ∧ i = .int .i64 j2 ∧ Hid (Below ws.heap.size ws wt)) (fun i _ => 3 - (RowKit.intOf i).toNat)
        case atStart => exact ⟨0, by decide, rfl, Below.refl _ _⟩
        case round =>
          obtain ⟨wt, hwt⟩ : ∃ x, x = wr := ⟨_, rfl⟩
          subst hwt
          obtain ⟨j2, hj2, rfl, HY⟩ := hrel
          by_cases hlt2 : j2 < 3
          · have dj2 : decide ((j2 : Int) < 3) = true := by rw [decide_eq_true_eq]; omega
            obtain ⟨k2, W2, M2, hk2, hq0, hq1, hq2⟩ := box9w ((HY.out.block vb (lt_of_some HVB.out)).trans HVB.out) HKW.out HK1.out hrk j2 hlt2
            have hvl : vb < wt.heap.size := Nat.lt_of_lt_of_le (lt_of_some HVB.out) HY.out.size
            have HK2 := Lib.hid hk2
            clear hk2
            go_wp2_with fail
            clear hq0 hq1 hq2 hvl
            obtain ⟨wu, HWU⟩ : ∃ wu, Hid (wu = wt.alloc (.cells #[.int .i64 k2, .int .i64 W2, .int .i64 M2] 26)) := ⟨_, rfl⟩
            obtain ⟨B16, HB16⟩ : ∃ B, Hid (wt.heap.size = B) := ⟨_, rfl⟩
            have hbu : Below wt.heap.size wt wu := by rw [HWU.out]; exact below_new _ _
            have N16 : Hid (wu.heap[B16]? = some (.cells #[.int .i64 k2, .int .i64 W2, .int .i64 M2] 26 (0, 0))) := by show _ = _; rw [HWU.out, ← HB16.out]; exact heap_alloc_new _ _
            have HYU := Lib.hid (HY.out.trans (hbu.mono HY.out.size))
            clear hbu
            have CM := Lib.hid (mod_any xn 67 wu (by decide) (by decide))
            rw [HWU.out] at CM
            refine CM.out.mono ?_
            rw [← HWU.out]
            rintro e wu' ⟨he, rfl⟩
            obtain ⟨km, HKM⟩ : ∃ km, Hid ((xn.tmod 67 + 67) % 67 = km) := ⟨_, rfl⟩
            have hkm : 0 ≤ km ∧ km < 67 := by have := HKM.out; omega
            have fkm : IntKind.i64.wrap (km - 1) = km - 1 := IntWalk.i64_in _ (by omega)
            rw [HKM.out] at he
            subst he
            clear CM hkm
            simp only [HB16.out]
            go_wp2_with fail
            obtain ⟨wv, HWV⟩ : ∃ wv, Hid (wv = wu.alloc (.cells #[.int .i64 N, .int .i64 xn, .int .i64 (km - 1)] 3)) := ⟨_, rfl⟩
            obtain ⟨B65, HB65⟩ : ∃ B, Hid (wu.heap.size = B) := ⟨_, rfl⟩
            have hbv : Below wu.heap.size wu wv := by rw [HWV.out]; exact below_new _ _
            have N65 : Hid (wv.heap[B65]? = some (.cells #[.int .i64 N, .int .i64 xn, .int .i64 (km - 1)] 3 (0, 0))) := by show _ = _; rw [HWV.out, ← HB65.out]; exact heap_alloc_new _ _
            have HYV := Lib.hid (HYU.out.trans (hbv.mono HYU.out.size))
            have N16v := Lib.hid ((hbv.block B16 (lt_of_some N16.out)).trans N16.out)
            rw [← HWV.out]
            simp only [HB65.out]
            clear hbv fkm HWV HB65 HYU N16 HWU HB16
            go_loopw [67] (fun i wx => ∃ j3 : Nat, j3 ≤ 3 ∧ i = .int .i64 j3 ∧ Hid (Below wv.heap.size wv wx)) (fun i _ => 3 - (RowKit.intOf i).toNat)
            case atStart => exact ⟨0, by decide, rfl, Below.refl _ _⟩
            case round =>
              obtain ⟨wx, hwx⟩ : ∃ x, x = wr := ⟨_, rfl⟩
              subst hwx
              obtain ⟨j3, hj3, rfl, HZ⟩ := hrel
              by_cases hlt3 : j3 < 3
              · have dj3 : decide ((j3 : Int) < 3) = true := by rw [decide_eq_true_eq]; omega
                obtain ⟨n, hn0⟩ := box3i ((HZ.out.block B65 (lt_of_some N65.out)).trans N65.out) j3 hlt3
                have hl65 : B65 < wx.heap.size := Nat.lt_of_lt_of_le (lt_of_some N65.out) HZ.out.size
                have HRx := Lib.hid (HRs.out.up (HYV.out.trans (HZ.out.mono HYV.out.size)))
                obtain ⟨E, HE⟩ : ∃ E, Hid (orL [chkW k2 W2 M2, Ls.chkSt n lx] = E) := ⟨_, rfl⟩
                obtain ⟨R, HR⟩ : ∃ R, Hid ((if orL [chkW k2 W2 M2, Ls.chkSt n lx] = 0 then Ls.slideA (extW k2 W2) (extM k2 M2) [] lx else []) = R) := ⟨_, rfl⟩
                have HRL : Hid (R.length ≤ 1000) := by
                  show _ ≤ _
                  rw [← HR.out]
                  split
                  · have h1 := Ls.slide_len (extW k2 W2) (extM k2 M2) lx []
                    have := HLX.out
                    simp only [List.length_nil] at h1
                    omega
                  · simp
                have C1 := slide_any n k2 W2 M2 HK2.out Ax cx lx wx HRx.out (by have := HLX.out; omega)
                rw [HR.out, HE.out] at C1
                have HC1 := Lib.hid C1
                have y := Go.Joins.cell_of_block ((HZ.out.block B16 (lt_of_some N16v.out)).trans N16v.out)
                have y0 := y 0; have y1 := y 1; have y2 := y 2
                simp only [List.getElem?_toArray, List.getElem?_cons_succ, List.getElem?_cons_zero] at y0 y1 y2
                have hl16 : B16 < wx.heap.size := Nat.lt_of_lt_of_le (lt_of_some N16v.out) HZ.out.size
                clear y C1
                go_wp2_with fail
                refine HC1.out.mono ?_
                rintro e wy ⟨A8, c8, rfl, ho8, hb8⟩
                have HV8 := Lib.hid (RX.of_own ho8)
                have HRy := Lib.hid (HRx.out.up hb8)
                have HZy := Lib.hid (HZ.out.trans (hb8.mono HZ.out.size))
                clear ho8 hb8 HC1 hn0 hl65 y0 y1 y2 hl16 HRx
                have C2 := rslide_any n k2 W2 M2 Ax cx lx wy HRy.out (by have := HLX.out; omega)
                rw [HR.out, HE.out] at C2
                have HC2 := Lib.hid C2
                have y := Go.Joins.cell_of_block ((HZy.out.block B16 (lt_of_some N16v.out)).trans N16v.out)
                have y0 := y 0; have y1 := y 1; have y2 := y 2
                simp only [List.getElem?_toArray, List.getElem?_cons_succ, List.getElem?_cons_zero] at y0 y1 y2
                have hl16 : B16 < wy.heap.size := Nat.lt_of_lt_of_le (lt_of_some N16v.out) HZy.out.size
                clear y C2
                obtain ⟨nR, HNRR⟩ : ∃ x, Hid (R.length = x) := ⟨_, rfl⟩
                simp only [HNRR.out]
                rw [HNRR.out] at HRL
                go_wp2_with fail
                refine HC2.out.mono ?_
                rintro e wz ⟨A9, c9, rfl, ho9, hb9⟩
                have HV9 := Lib.hid (RX.of_own ho9)
                have HV8z := Lib.hid (HV8.out.up hb9)
                have HZz := Lib.hid (HZy.out.trans (hb9.mono HZy.out.size))
                clear ho9 hb9 HC2 y0 y1 y2 hl16 HRy
                have C3 := same_any A8 A9 c8 c9 R wz HV8z.out HV9.out (by have := HRL.out; have := HNRR.out; omega)
                rw [HNRR.out] at C3
                have HC3 := Lib.hid C3
                simp only [HNRR.out]
                clear C3
                go_wp2_with fail
                refine HC3.out.mono ?_
                rintro e wq ⟨rfl, hbq⟩
                have HZq := Lib.hid (HZz.out.trans (hbq.mono HZz.out.size))
                clear hbq HC3
                go_wp2
                go_roundw
                case rel => exact ⟨j3 + 1, by omega, by first | rfl | simp, HZq.out⟩
                case measure => simp only [RowKit.intOf]; omega
              · obtain rfl : j3 = 3 := by omega
                have HYW := Lib.hid (HYV.out.trans (HZ.out.mono HYV.out.size))
                go_wp2
                go_roundw
                case rel => exact ⟨j2 + 1, by omega, by first | rfl | simp, HYW.out⟩
                case measure => simp only [RowKit.intOf]; omega
          · obtain rfl : j2 = 3 := by omega
            have HGt : Hid (w8.grownBy wt (some g)) := grown_below HGs.out HY.out HGs.out.size
            have HDt := Lib.hid (HDs.out.go HY.out)
            go_wp2
            go_roundw
            case rel => exact ⟨j + 1, m9, by omega, by first | rfl | simp, HGt.out, HDt.out⟩
            case measure => simp only [RowKit.intOf]; omega
    · obtain rfl : j = 3 := by omega
      go_wp2_with fail
      refine (awake_any wr).mono ?_
      rintro e we ⟨rfl, hbe⟩
      have HBE := Lib.hid (HBr.out.trans (hbe.mono HBr.out.size))
      clear hbe
      go_wp2
      go_ret
      exact ⟨rfl, HBE.out⟩
end Go.Proofs.YtfapfkaipdcflaaGreat
