/-
  WindowPresent, walked.
-/
import Derived.Test.YtfapfkaipdcflaaGreatUjn
import Derived.Test.YtfapfkaipdcflaaGreatSu
import Derived.Test.YtfapfkaipdcflaaGreatTa
import Derived.Test.YtfapfkaipdcflaaGreatUe
import Derived.Test.YtfapfkaipdcflaaGreatUq
import Derived.Test.YtfapfkaipdcflaaGreatUr
namespace Go.Proofs.YtfapfkaipdcflaaGreat
namespace Wp
open Go.RowKit Go.Lib
open Go.Proofs.YtfapfkaipdcflaaGreat.K (new_two)

theorem grown_cell {w w' : World} {g B : Nat} (hg : w.grownBy w' (some g)) (hb : B < w.heap.size) (hne : B ≠ g) : w'.heap[B]? = w.heap[B]? := hg.block B hb (fun e => by injection e with e; omega)
/-- one of three windows -/
theorem box9w {wr : World} {X : Nat} {T : TypeId} {k0 k1 k2 W0 W1 W2 M0 M1 M2 : Int} (h : wr.heap[X]? = some (.cells #[.int .i64 k0, .int .i64 W0, .int .i64 M0, .int .i64 k1, .int .i64 W1, .int .i64 M1, .int .i64 k2, .int .i64 W2, .int .i64 M2] T (0, 0)))
    (h0 : (Lit.int .i64 k0).wf = true) (h1 : (Lit.int .i64 k1).wf = true) (h2 : (Lit.int .i64 k2).wf = true) (j : Nat) (hj : j < 3) :
    ∃ k W M : Int, (Lit.int .i64 k).wf = true ∧ wr.cell? ⟨X, j * 3, none⟩ = some (.int .i64 k) ∧ wr.cell? ⟨X, j * 3 + 1, none⟩ = some (.int .i64 W) ∧ wr.cell? ⟨X, j * 3 + 2, none⟩ = some (.int .i64 M) := by
  obtain rfl | rfl | rfl : j = 0 ∨ j = 1 ∨ j = 2 := by omega
  · exact ⟨k0, W0, M0, h0, Go.Joins.cell_of_block h 0, Go.Joins.cell_of_block h 1, Go.Joins.cell_of_block h 2⟩
  · exact ⟨k1, W1, M1, h1, Go.Joins.cell_of_block h 3, Go.Joins.cell_of_block h 4, Go.Joins.cell_of_block h 5⟩
  · exact ⟨k2, W2, M2, h2, Go.Joins.cell_of_block h 6, Go.Joins.cell_of_block h 7, Go.Joins.cell_of_block h 8⟩
/-- one of two numbers -/
theorem box2i {wr : World} {X : Nat} {T : TypeId} {a b : Int} (h : wr.heap[X]? = some (.cells #[.int .i64 a, .int .i64 b] T (0, 0))) (j : Nat) (hj : j < 2) : ∃ x : Int, wr.cell? ⟨X, j, none⟩ = some (.int .i64 x) := by
  obtain rfl | rfl : j = 0 ∨ j = 1 := by omega
  · exact ⟨a, Go.Joins.cell_of_block h 0⟩
  · exact ⟨b, Go.Joins.cell_of_block h 1⟩
/-- one of two states -/
theorem box4s {wr : World} {X : Nat} {T : TypeId} {n0 n1 : Int} {A0 A1 : Option Addr} {c0 c1 : Nat} {l0 l1 : List Ls.Lk} (h : wr.heap[X]? = some (.cells #[.int .i64 n0, .slice A0 l0.length c0, .int .i64 n1, .slice A1 l1.length c1] T (0, 0)))
    (h0 : RL wr.heap.size wr A0 c0 l0) (h1 : RL wr.heap.size wr A1 c1 l1) (e0 : l0.length ≤ 100) (e1 : l1.length ≤ 100) (k : Nat) (hk : k < 2) :
    ∃ (nx : Int) (Ax : Option Addr) (cx : Nat) (lx : List Ls.Lk), wr.cell? ⟨X, k * 2, none⟩ = some (.int .i64 nx) ∧ wr.cell? ⟨X, k * 2 + 1, none⟩ = some (.slice Ax lx.length cx) ∧ RL wr.heap.size wr Ax cx lx ∧ lx.length ≤ 100 := by
  obtain rfl | rfl : k = 0 ∨ k = 1 := by omega
  · exact ⟨n0, A0, c0, l0, Go.Joins.cell_of_block h 0, Go.Joins.cell_of_block h 1, h0, e0⟩
  · exact ⟨n1, A1, c1, l1, Go.Joins.cell_of_block h 2, Go.Joins.cell_of_block h 3, h1, e1⟩
theorem keep_len (W M t : Int) (S : List Ls.Lk) : (Ls.keepS W M t S).length ≤ S.length := List.length_filter_le _ _
theorem exp_len (W M t : Int) (S : List Ls.Lk) : (Ls.expS W M t S).length ≤ S.length := by
  unfold Ls.expS
  rw [List.length_map]
  exact List.length_filter_le _ _
set_option maxHeartbeats 8000000 in
set_option maxRecDepth 100000 in
theorem present_law (n0 : Int) (A0 : Option Addr) (c0 : Nat) (l0 : List Ls.Lk) (rk rW rM : Int) (hrk : (Lit.int .i64 rk).wf = true) (A : Option Addr) (c : Nat) (L : List Int) (xt : Int) (W : World) (hr : RL W.heap.size W A0 c0 l0) (h : RD W A c L) (hL : L.length ≤ 17592186044416) :
    Calls Tryz.prog 3 #[.agg #[.int .i64 n0, .slice A0 l0.length c0], .agg #[.int .i64 rk, .int .i64 rW, .int .i64 rM], .slice A L.length c, .int .i64 xt] W fun e W' => e = .returned (.bool true) ∧ Below W.heap.size W W' := by
  obtain ⟨W1, HW1⟩ : ∃ W1, Hid (W1 = (W.alloc (.cells #[.int .i64 n0, .slice A0 l0.length c0] 24)).alloc (.cells #[.int .i64 rk, .int .i64 rW, .int .i64 rM] 26)) := ⟨_, rfl⟩
  obtain ⟨q0, q1, qs, qb⟩ := new_two W (.cells #[.int .i64 n0, .slice A0 l0.length c0] 24) (.cells #[.int .i64 rk, .int .i64 rW, .int .i64 rM] 26)
  rw [← HW1.out] at q0 q1 qs qb
  obtain ⟨B4, HB4⟩ : ∃ B, Hid (W.heap.size = B) := ⟨_, rfl⟩
  rw [HB4.out] at q0 q1 qs
  have N4 := Lib.hid q0; have N5 := Lib.hid q1; have HQS := Lib.hid qs
  have HB1 := Lib.hid qb
  have HR1 := Lib.hid (hr.up qb)
  have CN := Lib.hid (new_any A c L W1 (h.go qb))
  clear q0 q1 qs qb hr h
  by_cases h60 : l0.length > 60
  · have hd : decide ((l0.length : Int) > 60) = true := by rw [decide_eq_true_eq]; omega
    clear h60
    have y := Go.Joins.cell_of_block N4.out
    have y0 := y 0; have y1 := y 1
    simp only [List.getElem?_toArray, List.getElem?_cons_succ, List.getElem?_cons_zero] at y0 y1
    have hl4 := lt_of_some N4.out
    clear y
    have CA := Lib.hid (awake_any W1)
    rw [HW1.out] at CA y0 y1 hl4
    rw [← HB4.out] at y0 y1 hl4
    go_enter Tryz.func3, Tryz.ntmps3
    go_wp2_with fail
    refine CA.out.mono ?_
    rw [← HW1.out]
    rintro e w1 ⟨rfl, hb⟩
    have HB := Lib.hid (HB1.out.trans (hb.mono HB1.out.size))
    clear hb CA y0 y1 hl4
    go_wp2
    go_ret
    exact ⟨rfl, HB.out⟩
  have hd : decide ((l0.length : Int) > 60) = false := by rw [decide_eq_false_iff_not]; omega
  have hr60 : l0.length ≤ 60 := by omega
  clear h60
  obtain ⟨nr, HNR⟩ : ∃ n, Hid (l0.length = n) := ⟨_, rfl⟩
  have hnr : nr ≤ 60 := by rw [← HNR.out]; exact hr60
  clear hr60
  rw [HNR.out] at hd N4 HW1 ⊢
  obtain ⟨g, Hg⟩ : ∃ g, Hid (W1.heap.size = g) := ⟨_, rfl⟩
  have hg5 : B4 + 1 < g := by rw [← Hg.out]; exact lt_of_some N5.out
  have HWg : Hid (W.heap.size ≤ g) := by show _ ≤ _; rw [HB4.out]; omega
  have y := Go.Joins.cell_of_block N4.out
  have y0 := y 0; have y1 := y 1
  simp only [List.getElem?_toArray, List.getElem?_cons_succ, List.getElem?_cons_zero] at y0 y1
  have hl4 := lt_of_some N4.out
  clear y
  rw [HW1.out] at CN y0 y1 hl4
  rw [← HB4.out] at y0 y1 hl4
  go_enter Tryz.func3, Tryz.ntmps3
  go_wp2_with fail
  refine CN.out.mono ?_
  rw [← HW1.out]
  simp only [HB4.out, Hg.out]
  rintro e w1 ⟨rfl, D1, hb1⟩
  have HD1 := Lib.hid D1
  have HBa := Lib.hid (HB1.out.trans (hb1.mono HWg.out))
  have HRa := Lib.hid (HR1.out.up (by rw [Hg.out]; exact hb1))
  have N4a := Lib.hid ((hb1.block B4 (by omega)).trans N4.out)
  have N5a := Lib.hid ((hb1.block (B4 + 1) hg5).trans N5.out)
  clear D1 hb1 CN N4 N5 HR1 HB1 y0 y1 hl4
  go_wp2_with fail
  refine (Gm.state_any g g A c L 0 6 w1 HD1.out hL (by decide)).mono ?_
  rintro e w2 ⟨N, l1, A1, c1, m2, rfl, hll, ho, D2, g2⟩
  have HD2 := Lib.hid D2
  have HBb : Hid (Below W.heap.size W w2) := HBa.out.grown g2 HBa.out.size (fun k hk => by injection hk with hk; have := HWg.out; omega)
  have HRb := Lib.hid (HRa.out.keepG encL (n := 6) (by decide) HD1.out.blk g2).2
  have HLb := Lib.hid (RX.of_own ho)
  have HLL := Lib.hid hll
  have N4b := Lib.hid ((grown_cell g2 (lt_of_some N4a.out) (by omega)).trans N4a.out)
  have N5b := Lib.hid ((grown_cell g2 (lt_of_some N5a.out) (by omega)).trans N5a.out)
  clear D2 g2 ho hll HD1 HBa HRa N4a N5a
  obtain ⟨nl, HNL⟩ : ∃ n, Hid (l1.length = n) := ⟨_, rfl⟩
  have hnl : nl ≤ 36 := by rw [← HNL.out]; exact HLL.out
  simp only [HNL.out]
  go_wp2_with fail
  refine (window_any g g A c L m2 w2 HD2.out hL).mono ?_
  rintro e w4 ⟨k, Wd, Mo, m4, rfl, hk13, hd4, hg4⟩
  have HBd : Hid (Below W.heap.size W w4) := HBb.out.grown hg4 HBb.out.size (fun k hk => by injection hk with hk; have := HWg.out; omega)
  have HRd := Lib.hid (HRb.out.keepG encL (n := 6) (by decide) HD2.out.blk hg4).2
  have HLd := Lib.hid (HLb.out.keepG encL (n := 6) (by decide) HD2.out.blk hg4).2
  have N4d := Lib.hid ((grown_cell hg4 (lt_of_some N4b.out) (by omega)).trans N4b.out)
  have N5d := Lib.hid ((grown_cell hg4 (lt_of_some N5b.out) (by omega)).trans N5b.out)
  have HD4 := Lib.hid hd4
  have HKW : Hid ((Lit.int .i64 k).wf = true) := by
    have h2 : k = 1 ∨ k = 2 ∨ k = 3 := by omega
    show _ = _
    rcases h2 with rfl | rfl | rfl <;> decide
  clear hd4 hg4 HD2 HBb HRb HLb N4b N5b hk13
  obtain ⟨w5, HW5⟩ : ∃ w5, Hid (w5 = (w4.alloc (.cells #[.int .i64 N, .slice A1 nl c1] 24)).alloc (.cells #[.int .i64 k, .int .i64 Wd, .int .i64 Mo] 26)) := ⟨_, rfl⟩
  obtain ⟨q0, q1, qs, qb⟩ := new_two w4 (.cells #[.int .i64 N, .slice A1 nl c1] 24) (.cells #[.int .i64 k, .int .i64 Wd, .int .i64 Mo] 26)
  rw [← HW5.out] at q0 q1 qs qb
  obtain ⟨B10, HB10⟩ : ∃ B, Hid (w4.heap.size = B) := ⟨_, rfl⟩
  have hg10 : g < B10 := by rw [← HB10.out]; exact HD4.out.lt
  have hz5 : w5.heap.size = B10 + 2 := by rw [qs, HB10.out]
  have HZ5 := Lib.hid hz5
  rw [HB10.out] at q0 q1
  have N10 := Lib.hid q0; have N11 := Lib.hid q1
  have HBe := Lib.hid (HBd.out.trans (qb.mono HBd.out.size))
  have HRe := Lib.hid (HRd.out.up qb)
  have HLe := Lib.hid (HLd.out.up qb)
  have HDe := Lib.hid (HD4.out.go qb)
  have N4e := Lib.hid ((qb.block B4 (lt_of_some N4d.out)).trans N4d.out)
  have N5e := Lib.hid ((qb.block (B4 + 1) (lt_of_some N5d.out)).trans N5d.out)
  have y := Go.Joins.cell_of_block N4d.out
  have y0 := y 0; have y1 := y 1
  simp only [List.getElem?_toArray, List.getElem?_cons_succ, List.getElem?_cons_zero] at y0 y1
  have hl4 : B4 < w4.heap.size := lt_of_some N4d.out
  clear y q0 q1 qs qb hz5 HBd HRd HLd HD4 N4d N5d
  go_wp2_with fail
  clear y0 y1 hl4
  obtain ⟨w8, HW8⟩ : ∃ w8, Hid (w8 = w5.alloc (.cells #[.int .i64 N, .slice A1 nl c1, .int .i64 n0, .slice A0 nr c0] 24)) := ⟨_, rfl⟩
  have hb8 : Below w5.heap.size w5 w8 := by rw [HW8.out]; exact below_new _ _
  obtain ⟨B11, HB11⟩ : ∃ B, Hid (B10 + 1 = B) := ⟨_, rfl⟩
  obtain ⟨B45, HB45⟩ : ∃ B, Hid (B11 + 1 = B) := ⟨_, rfl⟩
  have hg11 : g < B11 := by rw [← HB11.out]; omega
  have hg45 : g < B45 := by rw [← HB45.out]; omega
  have N45 : Hid (w8.heap[B45]? = some (.cells #[.int .i64 N, .slice A1 l1.length c1, .int .i64 n0, .slice A0 l0.length c0] 24 (0, 0))) := by
    show _ = _
    have h1 := heap_alloc_new w5 (.cells #[.int .i64 N, .slice A1 nl c1, .int .i64 n0, .slice A0 nr c0] 24)
    rw [HZ5.out, show B10 + 2 = B45 by rw [← HB45.out, ← HB11.out]] at h1
    rw [HW8.out, HNL.out, HNR.out]
    exact h1
  have HBg := Lib.hid (HBe.out.trans (hb8.mono HBe.out.size))
  have HRg := Lib.hid (HRe.out.up hb8)
  have HLg := Lib.hid (HLe.out.up hb8)
  have HDg := Lib.hid (HDe.out.go hb8)
  have N5g := Lib.hid ((hb8.block (B4 + 1) (lt_of_some N5e.out)).trans N5e.out)
  have N11g := Lib.hid ((hb8.block (B10 + 1) (lt_of_some N11.out)).trans N11.out)
  rw [HB11.out] at N11g
  have HRl : Hid (l0.length ≤ 100) := by show _ ≤ _; rw [HNR.out]; omega
  have HLl : Hid (l1.length ≤ 100) := by show _ ≤ _; rw [HNL.out]; omega
  rw [← HW5.out, ← HW8.out]
  simp only [HB10.out, HB45.out, HB11.out]
  clear hb8 HW8 HB45 HW5 HB10 HBe HRe HLe HDe N4e N5e N10 N11 HZ5 hg10 HLL
  go_loopw [47] (fun i wr => ∃ j m : Nat, j ≤ 2 ∧ i = .int .i64 j ∧ Hid (w8.grownBy wr (some g)) ∧ Hid (Dk g wr g A c L m)) (fun i _ => 2 - (RowKit.intOf i).toNat)
  case atStart => exact ⟨0, m4, by decide, rfl, grown_refl _ _, HDg.out⟩
  case round =>
    obtain ⟨j, m, hj, rfl, HG, HD⟩ := hrel
    have HBr : Hid (Below W.heap.size W wr) := HBg.out.grown HG.out HBg.out.size (fun k hk => by injection hk with hk; have := HWg.out; omega)
    by_cases hlt : j < 2
    · have dj : decide ((j : Int) < 2) = true := by rw [decide_eq_true_eq]; omega
      obtain ⟨nx, Ax, cx, lx, hcx0, hcx1, hrx, hlx⟩ := box4s ((grown_cell HG.out (lt_of_some N45.out) (by omega)).trans N45.out) (HLg.out.keepG encL (n := 6) (by decide) HDg.out.blk HG.out).2 (HRg.out.keepG encL (n := 6) (by decide) HDg.out.blk HG.out).2 HLl.out HRl.out j hlt
      have HLX := Lib.hid hlx
      have hl45 : B45 < wr.heap.size := Nat.lt_of_lt_of_le (lt_of_some N45.out) HG.out.size
      obtain ⟨nX, HNX⟩ : ∃ n, Hid (lx.length = n) := ⟨_, rfl⟩
      rw [HNX.out] at hcx1
      obtain ⟨wq, HWQ⟩ : ∃ w', Hid (w' = wr.alloc (.cells #[.int .i64 nx, .slice Ax nX cx] 24)) := ⟨_, rfl⟩
      obtain ⟨B13, HB13⟩ : ∃ B, Hid (wr.heap.size = B) := ⟨_, rfl⟩
      have hbq : Below wr.heap.size wr wq := by rw [HWQ.out]; exact below_new _ _
      have M13 : Hid (wq.heap[B13]? = some (.cells #[.int .i64 nx, .slice Ax nX cx] 24 (0, 0))) := by show _ = _; rw [HWQ.out, ← HB13.out]; exact heap_alloc_new _ _
      have hg13 : g < B13 := by rw [← HB13.out]; exact HD.out.lt
      have HGq : Hid (w8.grownBy wq (some g)) := grown_below HG.out hbq HG.out.size
      have HRX := Lib.hid (RX.up hrx hbq)
      have HDq := Lib.hid (HD.out.go hbq)
      have M5 := Lib.hid ((grown_cell HGq.out (lt_of_some N5g.out) (by omega)).trans N5g.out)
      have M11 := Lib.hid ((grown_cell HGq.out (lt_of_some N11g.out) (by omega)).trans N11g.out)
      go_wp2_with fail
      rw [← HWQ.out]
      simp only [HB13.out]
      clear hcx0 hcx1 hl45 hrx hlx hbq HG HD HBr
      have HDJ : Hid (∃ m, Dk g (wq.drewN 1) g A c L m) := ⟨m, HDq.out.go (below_drewN _ _)⟩
      refine wp_region_ac 8 158 (fun u v => u.grownBy v (some g)) (fun _ _ w => ∃ m, Dk g w g A c L m) [(fun q0 _ => q0 = .agg #[.int .i64 k, .int .i64 Wd, .int .i64 Mo]), (fun q0 _ => q0 = .pointer (some ⟨g, 0, none⟩)), (fun q0 _ => q0 = .agg #[.int .i64 k, .int .i64 Wd, .int .i64 Mo]), (fun q0 _ => ∃ k1 W1 M1 : Int, (Lit.int .i64 k1).wf = true ∧ q0 = .agg #[.int .i64 k1, .int .i64 W1, .int .i64 M1]), (fun q0 _ => q0 = .agg #[.int .i64 rk, .int .i64 rW, .int .i64 rM]), (fun q0 w5 => ∃ (vb : Nat) (k1 W1 M1 : Int), (Lit.int .i64 k1).wf = true ∧ q0 = .slice (some ⟨vb, 0, none⟩) 3 3 ∧ vb ≠ g ∧ w5.heap[vb]? = some (.cells #[.int .i64 k, .int .i64 Wd, .int .i64 Mo, .int .i64 k1, .int .i64 W1, .int .i64 M1, .int .i64 rk, .int .i64 rW, .int .i64 rM] 26 (0, 0))), (fun q0 _ => q0 = .int .i64 3), (fun q0 _ => q0 = .int .i64 0)] (by kernel_rfl) (by kernel_rfl) rfl (fun _ _ _ h1 h2 => grown_trans h1 h2) (only_drewN _ g) HDJ.out ?_ ?_ ?_
      · intro R hR
        simp only [List.mem_cons, List.not_mem_nil, or_false] at hR
        rcases hR with rfl | rfl | rfl | rfl | rfl | rfl | rfl | rfl <;> (first | exact fun _ _ _ h _ => h | exact fun _ _ _ h hb => by obtain ⟨vb, k1, W1, M1, h1, h2, h3, h4⟩ := h; exact ⟨vb, k1, W1, M1, h1, h2, h3, (grown_cell hb (lt_of_some h4) h3).trans h4⟩)
      · simp only [List.take_succ_cons, List.take_zero]
        refine ⟨?_, ?_, ?_, ?_, ?_, ?_, ?_, ?_, trivial⟩
        · intro a ws f hle hjj hfi hun hdn hag hdep K Q hK
          have d11 : (a.tmps[11]?).getD undef = .pointer (some ⟨B11, 0, none⟩) := eval_get (hag 11 (freeB_spec (by kernel_rfl)))
          rw [if_pos (show Region.wanted _ _ = true from rfl)]
          have yy := Go.Joins.cell_of_block ((hle.block (B11) (lt_of_some M11.out) (fun e => by injection e with e; omega)).trans M11.out)
          have y0 := yy 0; have y1 := yy 1; have y2 := yy 2
          simp only [List.getElem?_toArray, List.getElem?_cons_succ, List.getElem?_cons_zero] at y0 y1 y2
          clear yy
          unfold Oper.wp
          simp [go_sem, d11, y0, y1, y2]
          exact hK _ _ (grown_refl _ _) hjj rfl
        · intro a ws f hle hjj hfi hun hdn hag hdep K Q hK
          have d9 : (a.tmps[9]?).getD undef = .pointer (some ⟨g, 0, none⟩) := eval_get (hag 9 (freeB_spec (by kernel_rfl)))
          rw [if_pos (show Region.wanted _ _ = true from rfl)]
          unfold Oper.wp
          simp [go_sem, d9]
          exact hK _ _ (grown_refl _ _) hjj rfl
        · intro a ws f hle hjj hfi hun hdn hag hdep K Q hK
          have d11 : (a.tmps[11]?).getD undef = .pointer (some ⟨B11, 0, none⟩) := eval_get (hag 11 (freeB_spec (by kernel_rfl)))
          rw [if_pos (show Region.wanted _ _ = true from rfl)]
          have yy := Go.Joins.cell_of_block ((hle.block (B11) (lt_of_some M11.out) (fun e => by injection e with e; omega)).trans M11.out)
          have y0 := yy 0; have y1 := yy 1; have y2 := yy 2
          simp only [List.getElem?_toArray, List.getElem?_cons_succ, List.getElem?_cons_zero] at y0 y1 y2
          clear yy
          unfold Oper.wp
          simp [go_sem, d11, y0, y1, y2]
          exact hK _ _ (grown_refl _ _) hjj rfl
        · intro a ws f hle hjj hfi hun hdn hag hdep K Q hK
          have d52 : (a.tmps[52]?).getD undef = .pointer (some ⟨g, 0, none⟩) := eval_get (dep_of hdep 1 52 rfl (by kernel_rfl) rfl rfl)
          have d53 : (a.tmps[53]?).getD undef = .agg #[.int .i64 k, .int .i64 Wd, .int .i64 Mo] := eval_get (dep_of hdep 2 53 rfl (by kernel_rfl) rfl rfl)
          rw [if_pos (show Region.wanted _ _ = true from rfl)]
          obtain ⟨mm, hdm⟩ := hjj
          have hcon := oddw_any g g A c L mm k Wd Mo HKW.out ws hdm hL
          unfold Oper.wp
          simp [go_sem, d52, d53]
          refine hcon.mono ?_
          rintro e w9 ⟨k1, W1, M1, m9, rfl, hk1, hd9, hg9⟩
          exact hK _ _ hg9 ⟨m9, hd9⟩ ⟨k1, W1, M1, hk1, rfl⟩
        · intro a ws f hle hjj hfi hun hdn hag hdep K Q hK
          have d5 : (a.tmps[5]?).getD undef = .pointer (some ⟨B4 + 1, 0, none⟩) := eval_get (hag 5 (freeB_spec (by kernel_rfl)))
          rw [if_pos (show Region.wanted _ _ = true from rfl)]
          have yy := Go.Joins.cell_of_block ((hle.block (B4 + 1) (lt_of_some M5.out) (fun e => by injection e with e; omega)).trans M5.out)
          have y0 := yy 0; have y1 := yy 1; have y2 := yy 2
          simp only [List.getElem?_toArray, List.getElem?_cons_succ, List.getElem?_cons_zero] at y0 y1 y2
          clear yy
          unfold Oper.wp
          simp [go_sem, d5, y0, y1, y2]
          exact hK _ _ (grown_refl _ _) hjj rfl
        · intro a ws f hle hjj hfi hun hdn hag hdep K Q hK
          have d51 : (a.tmps[51]?).getD undef = .agg #[.int .i64 k, .int .i64 Wd, .int .i64 Mo] := eval_get (dep_of hdep 0 51 rfl (by kernel_rfl) rfl rfl)
          have d54 : (fun q0 _ => ∃ k1 W1 M1 : Int, (Lit.int .i64 k1).wf = true ∧ q0 = .agg #[.int .i64 k1, .int .i64 W1, .int .i64 M1]) (a.eval (.tmp 54)) ws := dep_of hdep 3 54 rfl (by kernel_rfl) rfl rfl
          have d55 : (a.tmps[55]?).getD undef = .agg #[.int .i64 rk, .int .i64 rW, .int .i64 rM] := eval_get (dep_of hdep 4 55 rfl (by kernel_rfl) rfl rfl)
          rw [if_pos (show Region.wanted _ _ = true from rfl)]
          obtain ⟨k1, W1, M1, hk1, e54⟩ := d54
          have e54 := eval_get e54
          obtain ⟨mm, hdm⟩ := hjj
          have hgs := hdm.lt
          unfold Oper.wp
          simp [go_sem, d51, e54, d55]
          exact hK _ _ (grown_below (grown_refl _ _) (below_new _ _) (Nat.le_refl _)) ⟨mm, hdm.go (below_new _ _)⟩ ⟨_, k1, W1, M1, hk1, rfl, by omega, heap_alloc_new _ _⟩
        · intro a ws f hle hjj hfi hun hdn hag hdep K Q hK
          have d56 : (fun q0 w5 => ∃ (vb : Nat) (k1 W1 M1 : Int), (Lit.int .i64 k1).wf = true ∧ q0 = .slice (some ⟨vb, 0, none⟩) 3 3 ∧ vb ≠ g ∧ w5.heap[vb]? = some (.cells #[.int .i64 k, .int .i64 Wd, .int .i64 Mo, .int .i64 k1, .int .i64 W1, .int .i64 M1, .int .i64 rk, .int .i64 rW, .int .i64 rM] 26 (0, 0))) (a.eval (.tmp 56)) ws := dep_of hdep 5 56 rfl (by kernel_rfl) rfl rfl
          rw [if_pos (show Region.wanted _ _ = true from rfl)]
          obtain ⟨vb, k1, W1, M1, -, e56, -, -⟩ := d56
          have e56 := eval_get e56
          unfold Oper.wp
          simp [go_sem, e56]
          exact hK _ _ (grown_refl _ _) hjj rfl
        · intro a ws f hle hjj hfi hun hdn hag hdep K Q hK
          rw [if_pos (show Region.wanted _ _ = true from rfl)]
          unfold Oper.wp
          simp [go_sem]
          exact hK _ _ (grown_refl _ _) hjj rfl
      · intro a ws f hle hjj hft hff hsz hdf hag hend
        have f51 : a.eval (.tmp 51) = .agg #[.int .i64 k, .int .i64 Wd, .int .i64 Mo] := end_of hend 0 51 (by decide) rfl rfl rfl
        have f52 : a.eval (.tmp 52) = .pointer (some ⟨g, 0, none⟩) := end_of hend 1 52 (by decide) rfl rfl rfl
        have f53 : a.eval (.tmp 53) = .agg #[.int .i64 k, .int .i64 Wd, .int .i64 Mo] := end_of hend 2 53 (by decide) rfl rfl rfl
        have f54 : (fun q0 _ => ∃ k1 W1 M1 : Int, (Lit.int .i64 k1).wf = true ∧ q0 = .agg #[.int .i64 k1, .int .i64 W1, .int .i64 M1]) (a.eval (.tmp 54)) ws := end_of hend 3 54 (by decide) rfl rfl rfl
        have f55 : a.eval (.tmp 55) = .agg #[.int .i64 rk, .int .i64 rW, .int .i64 rM] := end_of hend 4 55 (by decide) rfl rfl rfl
        have f56 : (fun q0 w5 => ∃ (vb : Nat) (k1 W1 M1 : Int), (Lit.int .i64 k1).wf = true ∧ q0 = .slice (some ⟨vb, 0, none⟩) 3 3 ∧ vb ≠ g ∧ w5.heap[vb]? = some (.cells #[.int .i64 k, .int .i64 Wd, .int .i64 Mo, .int .i64 k1, .int .i64 W1, .int .i64 M1, .int .i64 rk, .int .i64 rW, .int .i64 rM] 26 (0, 0))) (a.eval (.tmp 56)) ws := end_of hend 5 56 (by decide) rfl rfl rfl
        have f57 : a.eval (.tmp 57) = .int .i64 3 := end_of hend 6 57 (by decide) rfl rfl rfl
        have f58 : a.eval (.tmp 58) = .int .i64 0 := end_of hend 7 58 (by decide) rfl rfl rfl
        have ea := act_block 51 8 hsz hdf hag [51, 52, 53, 54, 55, 56, 57, 58] (by kernel_rfl) (by kernel_rfl) (of_decide_eq_true (by kernel_rfl))
        clear hag hend hsz hdf
        simp only [List.map_cons, List.map_nil, f51, f52, f53, f55, f57, f58] at ea
        clear f51 f52 f53 f55 f57 f58
        generalize a.eval (.tmp 54) = x54 at ea f54
        generalize a.eval (.tmp 56) = x56 at ea f56
        simp only [List.take_succ_cons, List.take_zero, List.drop_succ_cons, List.drop_zero, List.cons_append, List.nil_append] at ea
        subst ea
        obtain ⟨m9, hd9⟩ := hjj
        obtain ⟨vb, k1, W1', M1', hk1, rfl, hvg, hvb⟩ := f56
        have HGs : Hid (w8.grownBy ws (some g)) := grown_trans HGq.out hle
        have HDs := Lib.hid hd9
        have HVB := Lib.hid hvb
        have HK1 := Lib.hid hk1
        have HRs := Lib.hid (HRX.out.keepG encL (n := 6) (by decide) HDq.out.blk hle).2
        have M13s := Lib.hid ((grown_cell hle (lt_of_some M13.out) (by omega)).trans M13.out)
        have HBs : Hid (Below W.heap.size W ws) := HBg.out.grown HGs.out HBg.out.size (fun k hk => by injection hk with hk; have := HWg.out; omega)
        clear f54 hle hft hff hd9 hvb hk1 HDJ M5 M11 HRX HGq HDq M13
        simp only [List.drop_succ_cons, List.drop_zero]
        go_wp2_with fail
        go_loopw [58] (fun i wt => ∃ j2 m2 : Nat, j2 ≤ 3 ∧ i = .int .i64 j2 ∧ Hid (ws.grownBy wt (some g)) ∧ Hid (Dk g wt g A c L m2)) (fun i _ => 3 - (RowKit.intOf i).toNat)
        case atStart => exact ⟨0, m9, by decide, rfl, grown_refl _ _, HDs.out⟩
        case round =>
          obtain ⟨wt, hwt⟩ : ∃ x, x = wr := ⟨_, rfl⟩
          subst hwt
          obtain ⟨j2, m2, hj2, rfl, HY, HDt⟩ := hrel
          by_cases hlt2 : j2 < 3
          · have dj2 : decide ((j2 : Int) < 3) = true := by rw [decide_eq_true_eq]; omega
            obtain ⟨k2, W2, M2, hk2, hq0, hq1, hq2⟩ := box9w ((grown_cell HY.out (lt_of_some HVB.out) hvg).trans HVB.out) HKW.out HK1.out hrk j2 hlt2
            have hvl : vb < wt.heap.size := Nat.lt_of_lt_of_le (lt_of_some HVB.out) HY.out.size
            have HK2 := Lib.hid hk2
            clear hk2
            go_wp2_with fail
            clear hq0 hq1 hq2 hvl
            obtain ⟨wu, HWU⟩ : ∃ wu, Hid (wu = wt.alloc (.cells #[.int .i64 k2, .int .i64 W2, .int .i64 M2] 26)) := ⟨_, rfl⟩
            obtain ⟨B15, HB15⟩ : ∃ B, Hid (wt.heap.size = B) := ⟨_, rfl⟩
            have hbu : Below wt.heap.size wt wu := by rw [HWU.out]; exact below_new _ _
            have N15 : Hid (wu.heap[B15]? = some (.cells #[.int .i64 k2, .int .i64 W2, .int .i64 M2] 26 (0, 0))) := by show _ = _; rw [HWU.out, ← HB15.out]; exact heap_alloc_new _ _
            have hg15 : g < B15 := by rw [← HB15.out]; exact HDt.out.lt
            have HYU : Hid (ws.grownBy wu (some g)) := grown_below HY.out hbu HY.out.size
            have HDu := Lib.hid (HDt.out.go hbu)
            clear hbu
            have CX := Lib.hid (next_any g g A c L m2 20 wu HDu.out hL (by decide))
            rw [HWU.out] at CX
            refine CX.out.mono ?_
            rw [← HWU.out]
            rintro e wn ⟨r, m3, rfl, hr1, hr2, D3, g3⟩
            have HD3 := Lib.hid D3
            have HYN := Lib.hid (grown_trans HYU.out g3)
            have N15n := Lib.hid ((grown_cell g3 (lt_of_some N15.out) (by omega)).trans N15.out)
            have fr : IntKind.i64.wrap (15 + r) = 15 + r := IntWalk.i64_in _ (by omega)
            clear D3 g3 hr1 hr2 CX HWU HYU HDu N15
            simp only [HB15.out]
            clear HB15
            go_wp2_with fail
            obtain ⟨wv, HWV⟩ : ∃ wv, Hid (wv = wn.alloc (.cells #[.int .i64 xt, .int .i64 (15 + r)] 3)) := ⟨_, rfl⟩
            obtain ⟨B66, HB66⟩ : ∃ B, Hid (wn.heap.size = B) := ⟨_, rfl⟩
            have hbv : Below wn.heap.size wn wv := by rw [HWV.out]; exact below_new _ _
            have N66 : Hid (wv.heap[B66]? = some (.cells #[.int .i64 xt, .int .i64 (15 + r)] 3 (0, 0))) := by show _ = _; rw [HWV.out, ← HB66.out]; exact heap_alloc_new _ _
            have HYV : Hid (ws.grownBy wv (some g)) := grown_below HYN.out hbv HYN.out.size
            have HDv := Lib.hid (HD3.out.go hbv)
            have N15v := Lib.hid ((hbv.block B15 (lt_of_some N15n.out)).trans N15n.out)
            have N13v := Lib.hid ((grown_cell HYV.out (lt_of_some M13s.out) (by omega)).trans M13s.out)
            have HRv := Lib.hid (HRs.out.keepG encL (n := 6) (by decide) HDs.out.blk HYV.out).2
            rw [← HWV.out]
            simp only [HB66.out]
            clear hbv fr HWV HB66 HYN HD3 N15n
            have HF : Hid (∀ wy : World, Below wv.heap.size wv wy → RL wy.heap.size wy Ax cx lx ∧ wy.cell? ⟨B13, 0, none⟩ = some (.int .i64 nx) ∧ wy.cell? ⟨B13, 1, none⟩ = some (.slice Ax nX cx) ∧ B13 < wy.heap.size ∧ wy.cell? ⟨B15, 0, none⟩ = some (.int .i64 k2) ∧ wy.cell? ⟨B15, 1, none⟩ = some (.int .i64 W2) ∧ wy.cell? ⟨B15, 2, none⟩ = some (.int .i64 M2) ∧ B15 < wy.heap.size) := by
              intro wy hb
              have e13 := (hb.block B13 (lt_of_some N13v.out)).trans N13v.out
              have e15 := (hb.block B15 (lt_of_some N15v.out)).trans N15v.out
              exact ⟨HRv.out.up hb, Go.Joins.cell_of_block e13 0, Go.Joins.cell_of_block e13 1, lt_of_some e13, Go.Joins.cell_of_block e15 0, Go.Joins.cell_of_block e15 1, Go.Joins.cell_of_block e15 2, lt_of_some e15⟩
            go_loopw [68] (fun i wx => ∃ j3 : Nat, j3 ≤ 2 ∧ i = .int .i64 j3 ∧ Hid (Below wv.heap.size wv wx)) (fun i _ => 2 - (RowKit.intOf i).toNat)
            case atStart => exact ⟨0, by decide, rfl, Below.refl _ _⟩
            case round =>
              obtain ⟨wx, hwx⟩ : ∃ x, x = wr := ⟨_, rfl⟩
              subst hwx
              obtain ⟨j3, hj3, rfl, HZ⟩ := hrel
              by_cases hlt3 : j3 < 2
              · have dj3 : decide ((j3 : Int) < 2) = true := by rw [decide_eq_true_eq]; omega
                obtain ⟨t, ht0⟩ := box2i ((HZ.out.block B66 (lt_of_some N66.out)).trans N66.out) j3 hlt3
                have hl66 : B66 < wx.heap.size := Nat.lt_of_lt_of_le (lt_of_some N66.out) HZ.out.size
                obtain ⟨E, HE⟩ : ∃ E, Hid (wrongS k2 W2 M2 nx t lx = E) := ⟨_, rfl⟩
                obtain ⟨nE, HNE⟩ : ∃ E : Int, Hid ((if wrongS k2 W2 M2 nx t lx = 0 then nx else 0) = E) := ⟨_, rfl⟩
                obtain ⟨S, HS⟩ : ∃ S, Hid ((if wrongS k2 W2 M2 nx t lx = 0 then Ls.keepS (extW k2 W2) (extM k2 M2) t lx else []) = S) := ⟨_, rfl⟩
                obtain ⟨R, HR⟩ : ∃ R, Hid ((if wrongS k2 W2 M2 nx t lx = 0 then Ls.expS (extW k2 W2) (extM k2 M2) t lx else []) = R) := ⟨_, rfl⟩
                have HSL : Hid (S.length ≤ 100) := by
                  show _ ≤ _
                  rw [← HS.out]
                  split
                  · exact Nat.le_trans (keep_len _ _ _ _) HLX.out
                  · simp
                have HRL : Hid (R.length ≤ 100) := by
                  show _ ≤ _
                  rw [← HR.out]
                  split
                  · exact Nat.le_trans (exp_len _ _ _ _) HLX.out
                  · simp
                obtain ⟨hrl, p0, p1, hl13, y0, y1, y2, hl15⟩ := HF.out wx HZ.out
                have C1 := present_any nx Ax cx lx k2 W2 M2 HK2.out t wx hrl (by have := HLX.out; omega)
                rw [HE.out] at HNE HS HR
                rw [HE.out, HNE.out, HS.out, HNX.out] at C1
                have HC1 := Lib.hid C1
                clear C1 hrl
                go_wp2_with fail
                refine HC1.out.mono ?_
                rintro e wy ⟨A8, c8, rfl, hr8, hb8⟩
                have HR8 := Lib.hid hr8
                have HZy := Lib.hid (HZ.out.trans (hb8.mono HZ.out.size))
                clear hr8 hb8 HC1 ht0 hl66 p0 p1 hl13 y0 y1 y2 hl15
                obtain ⟨nS, HNS⟩ : ∃ x, Hid (S.length = x) := ⟨_, rfl⟩
                simp only [HNS.out]
                obtain ⟨wy1, HWY⟩ : ∃ w', Hid (w' = wy.alloc (.cells #[.int .i64 nE, .slice A8 nS c8] 24)) := ⟨_, rfl⟩
                obtain ⟨B18, HB18⟩ : ∃ B, Hid (wy.heap.size = B) := ⟨_, rfl⟩
                have hby : Below wy.heap.size wy wy1 := by rw [HWY.out]; exact below_new _ _
                have N18 : Hid (wy1.heap[B18]? = some (.cells #[.int .i64 nE, .slice A8 nS c8] 24 (0, 0))) := by show _ = _; rw [HWY.out, ← HB18.out]; exact heap_alloc_new _ _
                have HR8y := Lib.hid (HR8.out.up hby)
                have HZy1 := Lib.hid (HZy.out.trans (hby.mono HZy.out.size))
                clear hby HR8
                obtain ⟨hrl, -, -, -, -, -, -, -⟩ := HF.out wy1 HZy1.out
                obtain ⟨-, p0, p1, hl13, y0, y1, y2, hl15⟩ := HF.out wy HZy.out
                have C2 := rpresent_any nx Ax cx lx k2 W2 M2 t wy1 hrl (by have := HLX.out; omega)
                rw [HE.out, HNE.out, HS.out, HNX.out, HWY.out] at C2
                have HC2 := Lib.hid C2
                clear C2 hrl
                go_wp2_with fail
                refine HC2.out.mono ?_
                rw [← HWY.out]
                simp only [HB18.out]
                rintro e wz ⟨A9, c9, rfl, hr9, hb9⟩
                have HR9 := Lib.hid hr9
                have HR8z := Lib.hid (HR8y.out.up hb9)
                have N18z := Lib.hid ((hb9.block B18 (lt_of_some N18.out)).trans N18.out)
                have HZz := Lib.hid (HZy1.out.trans (hb9.mono HZy1.out.size))
                clear hr9 hb9 HC2 p0 p1 hl13 y0 y1 y2 hl15 HR8y N18 HWY HB18 HZy1
                simp only [HNS.out]
                obtain ⟨wz1, HWZ⟩ : ∃ w', Hid (w' = wz.alloc (.cells #[.int .i64 nE, .slice A9 nS c9] 24)) := ⟨_, rfl⟩
                obtain ⟨B20, HB20⟩ : ∃ B, Hid (wz.heap.size = B) := ⟨_, rfl⟩
                have hbz : Below wz.heap.size wz wz1 := by rw [HWZ.out]; exact below_new _ _
                have N20 : Hid (wz1.heap[B20]? = some (.cells #[.int .i64 nE, .slice A9 nS c9] 24 (0, 0))) := by show _ = _; rw [HWZ.out, ← HB20.out]; exact heap_alloc_new _ _
                have HR9z := Lib.hid (HR9.out.up hbz)
                have HR8y := Lib.hid (HR8z.out.up hbz)
                have N18y := Lib.hid ((hbz.block B18 (lt_of_some N18z.out)).trans N18z.out)
                have HZz1 := Lib.hid (HZz.out.trans (hbz.mono HZz.out.size))
                clear hbz HR9 HR8z N18z
                obtain ⟨hrl, -, -, -, -, -, -, -⟩ := HF.out wz1 HZz1.out
                obtain ⟨-, p0, p1, hl13, y0, y1, y2, hl15⟩ := HF.out wz HZz.out
                have C3 := expiredW_any nx Ax cx lx k2 W2 M2 HK2.out t wz1 hrl (by have := HLX.out; omega)
                rw [HE.out, HR.out, HNX.out, HWZ.out] at C3
                have HC3 := Lib.hid C3
                clear C3 hrl
                go_wp2_with fail
                refine HC3.out.mono ?_
                rw [← HWZ.out]
                simp only [HB20.out]
                rintro e wa ⟨Aa, ca, rfl, hoa, hba⟩
                have HVa := Lib.hid (RX.of_own hoa)
                have HR9a := Lib.hid (HR9z.out.up hba)
                have HR8a := Lib.hid (HR8y.out.up hba)
                have N18a := Lib.hid ((hba.block B18 (lt_of_some N18y.out)).trans N18y.out)
                have N20a := Lib.hid ((hba.block B20 (lt_of_some N20.out)).trans N20.out)
                have HZa := Lib.hid (HZz1.out.trans (hba.mono HZz1.out.size))
                clear hoa hba HC3 p0 p1 hl13 y0 y1 y2 hl15 HR9z HR8y N18y N20 HZz1 HWZ HB20
                obtain ⟨nR, HNRR⟩ : ∃ x, Hid (R.length = x) := ⟨_, rfl⟩
                simp only [HNRR.out]
                obtain ⟨hrl, p0, p1, hl13, y0, y1, y2, hl15⟩ := HF.out wa HZa.out
                have C4 := rexpired_any nx Ax cx lx k2 W2 M2 t wa hrl (by have := HLX.out; omega)
                rw [HE.out, HR.out, HNX.out] at C4
                have HC4 := Lib.hid C4
                clear C4 hrl
                go_wp2_with fail
                refine HC4.out.mono ?_
                rintro e wb ⟨Ab, cb, rfl, hob, hbb⟩
                have HVb := Lib.hid (RX.of_own hob)
                have HVab := Lib.hid (HVa.out.up hbb)
                have HR9b := Lib.hid (HR9a.out.up hbb)
                have HR8b := Lib.hid (HR8a.out.up hbb)
                have N18b := Lib.hid ((hbb.block B18 (lt_of_some N18a.out)).trans N18a.out)
                have N20b := Lib.hid ((hbb.block B20 (lt_of_some N20a.out)).trans N20a.out)
                have HZb := Lib.hid (HZa.out.trans (hbb.mono HZa.out.size))
                clear hob hbb HC4 p0 p1 hl13 y0 y1 y2 hl15 HR9a HR8a N18a N20a HVa
                simp only [HNRR.out]
                have C5 := sameS_any nE nE A8 A9 c8 c9 S S wb HR8b.out HR9b.out (by have := HSL.out; omega)
                rw [show sameS nE nE S S = true by simp [sameS], HNS.out] at C5
                have HC5 := Lib.hid C5
                have z := Go.Joins.cell_of_block N18b.out
                have z0 := z 0; have z1 := z 1
                have v := Go.Joins.cell_of_block N20b.out
                have v0 := v 0; have v1 := v 1
                simp only [List.getElem?_toArray, List.getElem?_cons_succ, List.getElem?_cons_zero] at z0 z1 v0 v1
                have hl18 := lt_of_some N18b.out; have hl20 := lt_of_some N20b.out
                clear C5 z v
                go_wp2_with fail
                refine HC5.out.mono ?_
                rintro e wc ⟨rfl, hbc⟩
                have HVac := Lib.hid (HVab.out.up hbc)
                have HVbc := Lib.hid (HVb.out.up hbc)
                have HZc := Lib.hid (HZb.out.trans (hbc.mono HZb.out.size))
                clear hbc HC5 z0 z1 v0 v1 hl18 hl20 HVab HVb
                have C6 := same_any Aa Ab ca cb R wc HVac.out HVbc.out (by have := HRL.out; omega)
                rw [HNRR.out] at C6
                have HC6 := Lib.hid C6
                clear C6
                go_wp2_with fail
                refine HC6.out.mono ?_
                rintro e wd ⟨rfl, hbd⟩
                have HZd := Lib.hid (HZc.out.trans (hbd.mono HZc.out.size))
                clear hbd HC6
                go_wp2
                go_roundw
                case rel => exact ⟨j3 + 1, by omega, by first | rfl | simp, HZd.out⟩
                case measure => simp only [RowKit.intOf]; omega
              · obtain rfl : j3 = 2 := by omega
                obtain ⟨E, HE⟩ : ∃ E, Hid (orL [chkW k2 W2 M2, Ls.chkS nx lx] = E) := ⟨_, rfl⟩
                obtain ⟨hrl, p0, p1, hl13, y0, y1, y2, hl15⟩ := HF.out wx HZ.out
                have C1 := untilW_any nx Ax cx lx k2 W2 M2 HK2.out wx hrl (by have := HLX.out; omega)
                rw [HE.out, HNX.out] at C1
                have HC1 := Lib.hid C1
                clear C1 hrl
                go_wp2_with fail
                refine HC1.out.mono ?_
                rintro e wa ⟨b, ok, rfl, hu, hu0, hba⟩
                have HU := Lib.hid (And.intro hu hu0)
                have HZa := Lib.hid (HZ.out.trans (hba.mono HZ.out.size))
                clear hu hu0 hba HC1 p0 p1 hl13 y0 y1 y2 hl15
                obtain ⟨hrl, p0, p1, hl13, y0, y1, y2, hl15⟩ := HF.out wa HZa.out
                have C2 := runtil_any nx Ax cx lx k2 W2 M2 wa hrl (by have := HLX.out; omega)
                rw [HE.out, HNX.out] at C2
                have HC2 := Lib.hid C2
                clear C2 hrl
                go_wp2_with fail
                refine HC2.out.mono ?_
                rintro e wb ⟨b', ok', rfl, hu, hu0, hbb⟩
                have HZb := Lib.hid (HZa.out.trans (hbb.mono HZa.out.size))
                have heq : b = b' ∧ ok = ok' := by
                  by_cases hE : E = 0
                  · exact Ls.untS_one (HU.out.1 hE) (hu hE)
                  · exact ⟨(HU.out.2 hE).1.trans (hu0 hE).1.symm, (HU.out.2 hE).2.trans (hu0 hE).2.symm⟩
                obtain ⟨e1, e2⟩ := heq
                subst e1
                subst e2
                clear hu hu0 hbb HC2 p0 p1 hl13 y0 y1 y2 hl15 HU
                obtain ⟨EW, HEW⟩ : ∃ E, Hid (chkW k2 W2 M2 = E) := ⟨_, rfl⟩
                have CK1 : Hid (∀ w0 : World, Calls Tryz.prog 21 #[.agg #[.int .i64 k2, .int .i64 W2, .int .i64 M2]] w0 fun e w' => e = .returned (.int .i64 EW) ∧ Below w0.heap.size w0 w') := fun w0 => by
                  have := wcheck_any k2 W2 M2 HK2.out w0
                  rw [HEW.out] at this
                  exact this
                have CK2 : Hid (∀ w0 : World, Calls Tryz.prog 22 #[.agg #[.int .i64 k2, .int .i64 W2, .int .i64 M2]] w0 fun e w' => e = .returned (.int .i64 EW) ∧ Below w0.heap.size w0 w') := fun w0 => by
                  have := rcheckW_any k2 W2 M2 w0
                  rw [HEW.out] at this
                  exact this
                obtain ⟨hrl, p0, p1, hl13, y0, y1, y2, hl15⟩ := HF.out wb HZb.out
                clear hrl
                go_wp2_with fail
                refine wp_region_over (by kernel_rfl) (by kernel_rfl) ?_
                iterate 20 (go_big_quiet_step (first | (go_at_call 21; exact calls_over (CK1.out _)) | (go_at_call 22; exact calls_over (CK2.out _))))
                refine wpQuiet_nil ?_
                rintro _ ⟨zz, rfl⟩
                have hbz := Lib.hid (over_below wb zz)
                generalize over wb zz = we at hbz ⊢
                have HZe := Lib.hid (HZb.out.trans (hbz.out.mono HZb.out.size))
                have HGe : Hid (ws.grownBy we (some g)) := grown_below HYV.out HZe.out HYV.out.size
                have HDe := Lib.hid (HDv.out.go HZe.out)
                clear hbz CK1 CK2 p0 p1 hl13 y0 y1 y2 hl15
                go_wp2
                go_roundw
                case rel => exact ⟨j2 + 1, m3, by omega, by first | rfl | simp, HGe.out, HDe.out⟩
                case measure => simp only [RowKit.intOf]; omega
          · obtain rfl : j2 = 3 := by omega
            have HGt : Hid (w8.grownBy wt (some g)) := grown_trans HGs.out HY.out
            go_wp2
            go_roundw
            case rel => exact ⟨j + 1, m2, by omega, by first | rfl | simp, HGt.out, HDt.out⟩
            case measure => simp only [RowKit.intOf]; omega
    · obtain rfl : j = 2 := by omega
      go_wp2_with fail
      refine (awake_any wr).mono ?_
      rintro e we ⟨rfl, hbe⟩
      have HBE := Lib.hid (HBr.out.trans (hbe.mono HBr.out.size))
      clear hbe
      go_wp2
      go_ret
      exact ⟨rfl, HBE.out⟩
end Wp
end Go.Proofs.YtfapfkaipdcflaaGreat
