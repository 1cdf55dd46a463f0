/-
  The reference's Expired.
-/
import Derived.Test.YtfapfkaipdcflaaGreatUc
import Derived.Test.YtfapfkaipdcflaaGreatMl
import Derived.Test.YtfapfkaipdcflaaGreatSv
namespace Go.Proofs.YtfapfkaipdcflaaGreat
open Go.RowKit Go.Lib
open Go.Proofs.YtfapfkaipdcflaaGreat.K (new_two)

namespace Ls
theorem refIn_eq {k W M t : Int} (h : chkW k W M = 0) (S : List Lk) (hS : S.length ≤ 2016) (x : Lk) (hx : x ∈ S) (h0 : 0 ≤ x.time) (ht : t ≤ 1048576) : refIn k W M t S x = inX (extW k W) (extM k M) t S x := by
  obtain ⟨h1, -⟩ := chkW_ok h
  have hlt : (S.filter (old x)).length < S.length := by
    have h1 := List.length_filter_le (old x) S
    rcases Nat.lt_or_ge (S.filter (old x)).length S.length with h | h
    · exact h
    · have := List.length_filter_eq_length_iff.1 (Nat.le_antisymm h1 h) x hx
      rw [old_irr] at this; cases this
  simp [kindB] at h1
  unfold inX refIn
  rcases h1 with (rfl | rfl) | rfl
  · rw [if_neg (by decide), if_neg (by decide)]
    have e1 : extW 1 W = 1048577 := rfl
    have e2 : extM 1 M = 2016 := rfl
    rw [e1, e2, decide_eq_true (show t - x.time < 1048577 by omega), decide_eq_true (show ((S.filter (old x)).length : Int) < 2016 by omega)]; rfl
  · rw [if_pos rfl]
    have e1 : extW 2 W = W := rfl
    have e2 : extM 2 M = 2016 := rfl
    rw [e1, e2, decide_eq_true (show ((S.filter (old x)).length : Int) < 2016 by omega), Bool.and_true]
  · rw [if_neg (by decide), if_pos rfl]
    have e1 : extW 3 W = 1048577 := rfl
    have e2 : extM 3 M = M := rfl
    rw [e1, e2, decide_eq_true (show t - x.time < 1048577 by omega), Bool.true_and]
def outX (P : Lk → Bool) (t : Int) (l : List Lk) (j : Nat) : List Ev := ((l.take j).filter fun x => !P x).map fun x => cutE x t
theorem outX_len (P : Lk → Bool) (t : Int) (l : List Lk) (j : Nat) : (outX P t l j).length ≤ j := by
  unfold outX
  rw [List.length_map]
  exact Nat.le_trans (List.length_filter_le _ _) (List.length_take_le _ _)
theorem outX_in (P : Lk → Bool) (t : Int) (l : List Lk) (j : Nat) (x : Lk) (h : l[j]? = some x) (hp : P x = true) : outX P t l (j + 1) = outX P t l j := by
  unfold outX
  rw [List.take_add_one, h, List.filter_append]
  simp [hp]
theorem outX_out (P : Lk → Bool) (t : Int) (l : List Lk) (j : Nat) (x : Lk) (h : l[j]? = some x) (hp : P x = false) : outX P t l (j + 1) = outX P t l j ++ [cutE x t] := by
  unfold outX
  rw [List.take_add_one, h, List.filter_append]
  simp [hp]
theorem outX_all (P : Lk → Bool) (t : Int) (l : List Lk) (j : Nat) (h : l.length ≤ j) : outX P t l j = (l.filter fun x => !P x).map fun x => cutE x t := by
  unfold outX
  rw [List.take_of_length_le h]
end Ls
set_option maxHeartbeats 4000000 in
set_option maxRecDepth 100000 in
theorem rexpired_any (n : Int) (A : Option Addr) (c : Nat) (l : List Ls.Lk) (k W M t : Int) (w : World) (h : RL w.heap.size w A c l) (hl : l.length ≤ 2016) :
    Calls Tryz.prog 16 #[.agg #[.int .i64 n, .slice A l.length c], .agg #[.int .i64 k, .int .i64 W, .int .i64 M], .int .i64 t] w
      (ExpdP (wrongS k W M n t l) (if wrongS k W M n t l = 0 then Ls.expS (extW k W) (extM k M) t l else []) w) := by
  obtain ⟨m0, m1, ms, mb⟩ := new_two w (.cells #[.int .i64 n, .slice A l.length c] 24) (.cells #[.int .i64 k, .int .i64 W, .int .i64 M] 26)
  obtain ⟨W2, HW2⟩ : ∃ W2, Hid (W2 = (w.alloc (.cells #[.int .i64 n, .slice A l.length c] 24)).alloc (.cells #[.int .i64 k, .int .i64 W, .int .i64 M] 26)) := ⟨_, rfl⟩
  rw [← HW2.out] at m0 m1 ms mb
  obtain ⟨g, HG⟩ : ∃ g, Hid (w.heap.size = g) := ⟨_, rfl⟩
  have hgs : g ≤ w.heap.size ∧ w.heap.size ≤ g := by rw [HG.out]; exact ⟨Nat.le_refl _, Nat.le_refl _⟩
  rw [HG.out] at m0 m1 ms
  have M0 := Lib.hid m0; have M1 := Lib.hid m1; have MB := Lib.hid mb
  have H := Lib.hid (h.up mb)
  have C1 := Lib.hid (rwrong_any n A c l k W M t W2 H.out (by omega))
  obtain ⟨R, HR⟩ : ∃ R, Hid ((if wrongS k W M n t l = 0 then Ls.expS (extW k W) (extM k M) t l else []) = R) := ⟨_, rfl⟩
  rw [HR.out]
  have HWS : Hid (wrongS k W M n t l = 0 → chkW k W M = 0 ∧ Ls.chkS n l = 0 ∧ Ls.chkT t l = 0) := orL3
  obtain ⟨E, HE⟩ : ∃ E, Hid (wrongS k W M n t l = E) := ⟨_, rfl⟩
  rw [HE.out] at C1 HR HWS ⊢
  obtain ⟨N, HN⟩ : ∃ N, Hid (l.length = N) := ⟨_, rfl⟩
  have hN : N ≤ 2016 := by rw [← HN.out]; exact hl
  simp only [HN.out] at M0 HW2 C1 ⊢
  clear h hl m0 mb m1 HE
  have HWW : Hid (w.heap.size ≤ W2.heap.size) := by show _ ≤ _; omega
  have hg0 : g < W2.heap.size := by omega
  have hg1 : g + 1 < W2.heap.size := by omega
  clear ms
  have p := Go.Joins.cell_of_block M0.out; have q := Go.Joins.cell_of_block M1.out
  have p0 := p 0; have p1 := p 1; have q0 := q 0; have q1 := q 1; have q2 := q 2
  simp only [List.getElem?_toArray, List.getElem?_cons_succ, List.getElem?_cons_zero] at p0 p1 q0 q1 q2
  clear p q
  go_enter Tryz.func16, Tryz.ntmps16
  rw [HW2.out] at C1 p0 p1 q0 q1 q2
  simp only [← HG.out] at p0 p1 q0 q1 q2
  go_wp2_with fail
  refine C1.out.mono ?_
  rw [← HW2.out]
  simp only [HG.out]
  rintro e w1 ⟨rfl, hb1⟩
  have HB1 := Lib.hid hb1
  clear p0 p1 q0 q1 q2 hb1 C1
  by_cases hE : E = 0
  · subst hE
    obtain ⟨e1, e2, e3⟩ := HWS.out rfl
    have HV := Lib.hid ((Ls.chkS_zero n l).1 e2)
    obtain ⟨t0, t1, t2⟩ := chkT_ok e3
    have HK : Hid (k = 1 ∨ k = 2 ∨ k = 3) := by
      obtain ⟨h1, -⟩ := chkW_ok e1
      simp [kindB] at h1
      show _ ∨ _
      omega
    obtain ⟨P, HP⟩ : ∃ P, Hid (Ls.inX (extW k W) (extM k M) t l = P) := ⟨_, rfl⟩
    have HRP : Hid ((l.filter fun x => !P x).map (fun x => Ls.cutE x t) = R) := by
      show _ = _
      rw [← HR.out, if_pos rfl, ← HP.out]; rfl
    have HTB : Hid (0 ≤ t ∧ t ≤ 1048576) := ⟨t0, t1⟩
    have HEQ : Hid (∀ x ∈ l, Ls.refIn k W M t l x = P x) := by
      intro x hx
      rw [← HP.out]
      exact Ls.refIn_eq e1 l (by rw [HN.out]; exact hN) x hx (Ls.chkLk_parts (HV.out.2.2.2 x hx)).2.2.2.2.1 t1
    clear e1 e2 e3 t0 t1 t2 HR HWS
    have b0 := (HB1.out.block g hg0).trans M0.out
    have p := Go.Joins.cell_of_block b0
    have p0 := p 0; have p1 := p 1
    simp only [List.getElem?_toArray, List.getElem?_cons_succ, List.getElem?_cons_zero] at p0 p1
    have hgr0 := lt_of_some b0
    clear p b0
    have HWB : Hid (w.heap.size ≤ w1.heap.size) := Nat.le_trans (Nat.le_of_lt (Nat.lt_of_le_of_lt hgs.2 hg0)) HB1.out.size
    go_wp2
    go_loopw [9, 22] (fun q i wr => ∃ (A5 : Option Addr) (c5 j : Nat), q = .slice A5 (Ls.outX P t l j).length c5 ∧ i = .int .i64 j ∧ j ≤ N ∧ Hid (wr.ownsRow W2.heap.size 57 7 (.slice A5 (Ls.outX P t l j).length c5) (Ls.outX P t l j).length (cl Ev.cells (Ls.outX P t l j))) ∧ Hid (Below W2.heap.size W2 wr)) (fun _ i _ => N - (RowKit.intOf i).toNat)
    case atStart => exact ⟨none, 0, 0, rfl, rfl, Nat.zero_le _, World.ownsRow_nil _ _ _ _, HB1.out⟩
    case round =>
      obtain ⟨A5, c5, j, rfl, rfl, hj, HO, HB⟩ := hrel
      clear p0 p1 hgr0
      by_cases hlt : j < N
      · obtain ⟨bb, off, ⟨u1, v1, x1, y1, z1, t1⟩, rfl, hb, hx, c0, c1, c2, c3, c4, c5'⟩ := RL.at_ (k := j) (H.out.up HB.out) (by rw [HN.out]; exact hlt)
        dsimp only at c0 c1 c2 c3 c4 c5'
        have HX := Lib.hid hx
        clear hx
        obtain ⟨wr2, HW3⟩ : ∃ wr2, Hid (wr2 = wr.alloc (.cells #[.int .i64 u1, .int .i64 v1, .int .i64 x1, .int .i64 y1, .int .i64 z1, .int .i64 t1] 62)) := ⟨_, rfl⟩
        have hb3 : Below wr.heap.size wr wr2 := by rw [HW3.out]; exact below_new _ _
        have HB3 := Lib.hid (HB.out.trans (hb3.mono HB.out.size))
        have HO3 := Lib.hid (own_up HO.out hb3)
        have hxm := List.mem_of_getElem? HX.out
        have hlk := Ls.chkLk_parts (HV.out.2.2.2 _ hxm)
        have CI := Lib.hid (rin_any n (some ⟨bb, off, none⟩) c l k W M t j ⟨u1, v1, x1, y1, z1, t1⟩ wr2 (H.out.up HB3.out) (by rw [HN.out]; omega) HV.out.2.2.1 HX.out hlk.2.2.2.2 HTB.out HK.out)
        obtain ⟨pb, HPB⟩ : ∃ pb, Hid (P ⟨u1, v1, x1, y1, z1, t1⟩ = pb) := ⟨_, rfl⟩
        rw [HEQ.out _ hxm, HPB.out, HN.out] at CI
        obtain ⟨h3, HH3⟩ : ∃ h3, Hid (wr.heap.size = h3) := ⟨_, rfl⟩
        have HY3 : Hid (wr2.heap[h3]? = some (.cells #[.int .i64 u1, .int .i64 v1, .int .i64 x1, .int .i64 y1, .int .i64 z1, .int .i64 t1] 62 (0, 0))) := by show _ = _; rw [HW3.out, ← HH3.out]; exact heap_alloc_new _ _
        have b0 := (HB3.out.block g hg0).trans M0.out
        have b1 := (HB3.out.block (g + 1) hg1).trans M1.out
        have p := Go.Joins.cell_of_block b0; have q := Go.Joins.cell_of_block b1
        have p0 := p 0; have p1 := p 1; have q0 := q 0; have q1 := q 1; have q2 := q 2
        simp only [List.getElem?_toArray, List.getElem?_cons_succ, List.getElem?_cons_zero] at p0 p1 q0 q1 q2
        have hgr0 := lt_of_some b0; have hgr1 := lt_of_some b1
        rw [HW3.out] at p0 p1 q0 q1 q2 CI
        clear p q b0 b1 hb3 hb hlk hxm
        go_wp2_with fail
        refine CI.out.mono ?_
        rw [← HW3.out]
        simp only [HH3.out]
        rintro e w3 ⟨rfl, hb⟩
        have HBB := Lib.hid (HB3.out.trans (hb.mono HB3.out.size))
        have HOB := Lib.hid (own_up HO3.out hb)
        have HYB := Lib.hid ((hb.block _ (lt_of_some HY3.out)).trans HY3.out)
        clear hb p0 p1 q0 q1 q2 c0 c1 c2 c3 c4 c5' hgr0 hgr1 CI HO3 HB3 HY3
        cases pb with
        | true =>
          have HT := Lib.hid (Ls.outX_in P t l j _ HX.out HPB.out)
          go_wp2
          go_roundw
          case rel => exact ⟨A5, c5, j + 1, by rw [HT.out], by go_num, by omega, by rw [HT.out]; exact HOB.out, HBB.out⟩
          case measure => simp [RowKit.intOf]; omega
        | false =>
          have HT := Lib.hid (Ls.outX_out P t l j _ HX.out HPB.out)
          have yc := Go.Joins.cell_of_block HYB.out
          have e0 := yc 0; have e1 := yc 1; have e2 := yc 2; have e3 := yc 3; have e4 := yc 4; have e5 := yc 5
          simp only [List.getElem?_toArray, List.getElem?_cons_succ, List.getElem?_cons_zero] at e0 e1 e2 e3 e4 e5
          clear yc
          have CC := Lib.hid (K.rcut_any u1 v1 x1 y1 z1 t1 t w3)
          go_wp2_with fail
          refine CC.out.mono ?_
          rintro e w4 ⟨rfl, hb⟩
          have HB4 := Lib.hid (HBB.out.trans (hb.mono HBB.out.size))
          have HO4 := Lib.hid (own_up HOB.out hb)
          clear hb e0 e1 e2 e3 e4 e5 CC HOB HYB HBB
          have HSZ := Lib.hid HB4.out.size
          have HOL := Lib.hid (Ls.outX_len P t l j)
          go_wp2_with (at_builtin; (refine wpList_applV _ rfl (.tmp 33) (.tmp 37) W2.heap.size A5 c5 rfl (Ls.outX P t l j) (by simp [Act.eval]) (HO4.out.alloc _) (some ⟨w4.heap.size, 0, none⟩) 1 1 [(⟨2, t, u1, v1, 0, 0, 0⟩ : Ev)] rfl (by simp [Act.eval]) (RV_newE _ _) (by have := HOL.out; omega) (by have := HSZ.out; simp; omega) ?_; intro A6 c6 w6 HO6 HB6 _))
          have HB7 : Hid (Below W2.heap.size W2 w6) := HB4.out.trans (((Below.refl W2.heap.size w4).alloc HSZ.out _).trans HB6.out)
          go_wp2
          go_roundw
          case rel => exact ⟨A6, c6, j + 1, by rw [HT.out, List.length_append]; rfl, by go_num, by omega, by rw [HT.out]; exact HO6.out, HB7.out⟩
          case measure => simp [RowKit.intOf]; omega
      · have HT : Hid (Ls.outX P t l j = R) := by
          show _ = _
          rw [← HRP.out]
          exact Ls.outX_all P t l j (by rw [HN.out]; omega)
        have dk : ¬ (j < N) := hlt
        rw [HT.out] at HO
        rw [HT.out]
        go_wp2
        go_ret2
        exact ⟨A5, c5, rfl, ownsRow_base HO.out HWW.out, MB.out.trans (HB.out.mono HWW.out)⟩
  · have HR0 : Hid (([] : List Ev) = R) := by show _ = _; rw [← HR.out, if_neg hE]
    have d2 : (E != 0) = true := by simpa using hE
    have d3 : (E == 0) = false := by simpa using hE
    clear hE HWS HR
    have hR0 := HR0.out
    subst hR0
    go_wp2
    go_ret2
    exact ⟨none, 0, rfl, World.ownsRow_nil _ _ _ _, MB.out.trans (HB1.out.mono HWW.out)⟩
end Go.Proofs.YtfapfkaipdcflaaGreat
