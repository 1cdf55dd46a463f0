/-
  The reference's release.
-/
import Derived.Test.YtgdhjllfdndmnaaRt
import Derived.Test.YtgdhjllfdndmnaaRo
namespace Go.Proofs.Ytgdhjllfdndmnaa
open Go.RowKit Go.Lib

theorem upto_snoc (m : Int) (l : List Ev) (e : Ev) : Rd.upto m (l ++ [e]) = if e.time ≤ m then Rd.upto m l ++ [e] else Rd.upto m l := by
  unfold Rd.upto
  rw [List.filter_append]
  by_cases h : e.time ≤ m <;> simp [h]
theorem behind_snoc (m : Int) (l : List Ev) (e : Ev) : Rd.behind m (l ++ [e]) = if e.time ≤ m then Rd.behind m l else Rd.behind m l ++ [e] := by
  unfold Rd.behind
  rw [List.filter_append]
  by_cases h : e.time ≤ m
  · simp [h]
  · simp [h]; omega
theorem OE.rn {B : Nat} {w : World} {A : Option Addr} {c : Nat} {l : List Ev} (h : OE B w A c l) : RN B w A c l := by
  refine ⟨RX.of_own h, fun hl => ?_⟩
  rcases h.2 with ⟨h0, h1⟩ | ⟨g, cap, cur, hv, hb, hg, -⟩
  · exact absurd (List.eq_nil_of_length_eq_zero h1) hl
  · injection hv with hv
    exact ⟨_, hv, hb⟩
/-- two lists of a call's own, in rows of their own -/
structure TwoL (B : Nat) (w0 : World) (o r : List Ev) (Ao : Option Addr) (co : Nat) (Ar : Option Addr) (cr : Nat) (w : World) : Prop where
  oo : OE B w Ao co o
  rr : OE B w Ar cr r
  d : ∀ k, ob Ao o.length co = some k → ob Ar r.length cr ≠ some k
  bel : Below B w0 w
section
variable {B : Nat} {w0 w w' : World} {o r o' : List Ev} {Ao Ar A3 : Option Addr} {co cr c3 : Nat}
theorem TwoL.go (h : TwoL B w0 o r Ao co Ar cr w) (hb : Below w.heap.size w w') (hB : B ≤ w.heap.size) : TwoL B w0 o r Ao co Ar cr w' := ⟨own_up h.oo hb, own_up h.rr hb, h.d, h.bel.trans (hb.mono hB)⟩
theorem TwoL.appO (h : TwoL B w0 o r Ao co Ar cr w) (ho : OE B w' A3 c3 o') (hg : w.grownBy w' (ob Ao o.length co)) (hf : Fr w.heap.size (ob Ao o.length co) (ob A3 o'.length c3)) (hB : B ≤ w.heap.size) : TwoL B w0 o' r A3 c3 Ar cr w' :=
  ⟨ho, own_kept' h.rr hg (fun k hk e => h.d k e hk), fun k hk e => (hf k hk).elim (fun h1 => h.d k h1 e) (fun h1 => by have := (h.rr.lt k e).2; omega), h.bel.grown hg hB (fun k hk => (h.oo.lt k hk).1)⟩
theorem TwoL.appR (h : TwoL B w0 o r Ao co Ar cr w) (ho : OE B w' A3 c3 o') (hg : w.grownBy w' (ob Ar r.length cr)) (hf : Fr w.heap.size (ob Ar r.length cr) (ob A3 o'.length c3)) (hB : B ≤ w.heap.size) : TwoL B w0 o o' Ao co A3 c3 w' :=
  ⟨own_kept' h.oo hg (fun k hk => h.d k hk), ho, fun k hk e => (hf k e).elim (fun h1 => h.d k hk h1) (fun h1 => by have := (h.oo.lt k hk).2; omega), h.bel.grown hg hB (fun k hk => (h.rr.lt k hk).1)⟩
end
/-- what the reference's release answers -/
def RRelP (b : Rd.Bf) (m : Int) (w : World) (en : Ending) (w' : World) : Prop :=
  ∃ (A1 A2 : Option Addr) (c1 c2 : Nat), en = .returned (.tuple #[.agg #[.int .i64 (Rd.rel b m).1.bound, .int .i64 (Rd.rel b m).1.latest, .int .i64 (Rd.rel b m).1.mark, .slice A1 (Rd.rel b m).1.wait.length c1], .slice A2 (Rd.rel b m).2.length c2]) ∧
    OW w.heap.size w' A1 c1 (Rd.rel b m).1.wait ∧ RN w.heap.size w' A2 c2 (Rd.rel b m).2 ∧ Below w.heap.size w w'
set_option maxHeartbeats 4000000 in
set_option maxRecDepth 100000 in
theorem rrelease_any (n L M m : Int) (A : Option Addr) (c : Nat) (l : List Ev) (w : World) (h : RV w.heap.size w A c l) (hl : l.length ≤ 65536) :
    Calls Try.prog 33 #[.agg #[.int .i64 n, .int .i64 L, .int .i64 M, .slice A l.length c], .int .i64 m] w (RRelP ⟨n, L, M, l⟩ m w) := by
  have hn2 := new_two w (.cells #[.int .i64 n, .int .i64 L, .int .i64 M, .slice A l.length c] 24) (.cells #[.int .i64 0, .int .i64 0, .int .i64 0, .slice none 0 0] 24)
  obtain ⟨W1, HW1⟩ : ∃ W1, Hid ((w.alloc (.cells #[.int .i64 n, .int .i64 L, .int .i64 M, .slice A l.length c] 24)).alloc (.cells #[.int .i64 0, .int .i64 0, .int .i64 0, .slice none 0 0] 24) = W1) := ⟨_, rfl⟩
  rw [HW1.out] at hn2
  have HN := Lib.hid hn2
  have hs1 : W1.heap.size = w.heap.size + 2 := hn2.2.2.1
  have H1 := Lib.hid (h.up hn2.2.2.2)
  have HT0 : Hid (TwoL (w.heap.size + 2) W1 (Rd.upto m (l.take 0)) (Rd.behind m (l.take 0)) none 0 none 0 W1) := ⟨World.ownsRow_nil _ _ _ _, World.ownsRow_nil _ _ _ _, fun q hq => (by cases hq), Below.refl _ _⟩
  clear hn2 h
  go_enter Try.func33, Try.ntmps33
  go_wp2
  rw [HW1.out]
  go_loopw [6, 7, 13] (fun so sr i wr => ∃ (j : Nat) (Ao : Option Addr) (co : Nat) (Ar : Option Addr) (cr : Nat), so = .slice Ao (Rd.upto m (l.take j)).length co ∧ sr = .slice Ar (Rd.behind m (l.take j)).length cr ∧ i = .int .i64 j ∧ j ≤ l.length ∧ Hid (TwoL (w.heap.size + 2) W1 (Rd.upto m (l.take j)) (Rd.behind m (l.take j)) Ao co Ar cr wr)) (fun _ _ i _ => l.length - (RowKit.intOf i).toNat)
  case atStart => exact ⟨0, none, 0, none, 0, rfl, rfl, rfl, Nat.zero_le _, HT0.out⟩
  case round =>
    clear HT0
    obtain ⟨j, Ao, co, Ar, cr, rfl, rfl, rfl, hj, HTL⟩ := hrel
    have hsr : w.heap.size + 2 ≤ wr.heap.size := by have := HTL.out.bel.size; omega
    by_cases hlt : j < l.length
    · obtain ⟨bb, off, ⟨k1, t1, u1, v1, x1, y1, z1⟩, rfl, hbb, ha, d0, d1, d2, d3, d4, d5, d6⟩ := RV.at_ (H1.out.go (by rw [hs1]; exact HTL.out.bel)) hlt
      dsimp only at d0 d1 d2 d3 d4 d5 d6
      have hbr : bb < wr.heap.size := by omega
      have hta : l.take (j + 1) = l.take j ++ [(⟨k1, t1, u1, v1, x1, y1, z1⟩ : Ev)] := by rw [List.take_add_one, ha]; rfl
      by_cases htm : t1 ≤ m
      · have dm : decide (t1 ≤ m) = true := by simpa using htm
        have HLA : Hid (Rd.upto m (l.take (j + 1)) = Rd.upto m (l.take j) ++ [(⟨k1, t1, u1, v1, x1, y1, z1⟩ : Ev)]) := by show _ = _; rw [hta, upto_snoc, if_pos htm]
        have HLB : Hid (Rd.behind m (l.take (j + 1)) = Rd.behind m (l.take j)) := by show _ = _; rw [hta, behind_snoc, if_pos htm]
        clear ha hta htm
        have HOT : Hid (OE (w.heap.size + 2) ((wr.alloc (.cells #[.int .i64 k1, .int .i64 t1, .int .i64 u1, .int .i64 v1, .int .i64 x1, .int .i64 y1, .int .i64 z1] 26)).alloc (.cells #[.int .i64 k1, .int .i64 t1, .int .i64 u1, .int .i64 v1, .int .i64 x1, .int .i64 y1, .int .i64 z1] 26)) Ao co (Rd.upto m (l.take j))) := by
          have h9 := own_up HTL.out.oo (below_new wr (.cells #[.int .i64 k1, .int .i64 t1, .int .i64 u1, .int .i64 v1, .int .i64 x1, .int .i64 y1, .int .i64 z1] 26))
          exact own_up h9 (below_new _ (.cells #[.int .i64 k1, .int .i64 t1, .int .i64 u1, .int .i64 v1, .int .i64 x1, .int .i64 y1, .int .i64 z1] 26))
        have HRVE : Hid (RV ((wr.alloc (.cells #[.int .i64 k1, .int .i64 t1, .int .i64 u1, .int .i64 v1, .int .i64 x1, .int .i64 y1, .int .i64 z1] 26)).alloc (.cells #[.int .i64 k1, .int .i64 t1, .int .i64 u1, .int .i64 v1, .int .i64 x1, .int .i64 y1, .int .i64 z1] 26)).heap.size ((wr.alloc (.cells #[.int .i64 k1, .int .i64 t1, .int .i64 u1, .int .i64 v1, .int .i64 x1, .int .i64 y1, .int .i64 z1] 26)).alloc (.cells #[.int .i64 k1, .int .i64 t1, .int .i64 u1, .int .i64 v1, .int .i64 x1, .int .i64 y1, .int .i64 z1] 26)) (some ⟨wr.heap.size + 1, 0, none⟩) 1 [(⟨k1, t1, u1, v1, x1, y1, z1⟩ : Ev)]) := by
          have h9 := RV_newE (wr.alloc (.cells #[.int .i64 k1, .int .i64 t1, .int .i64 u1, .int .i64 v1, .int .i64 x1, .int .i64 y1, .int .i64 z1] 26)) (⟨k1, t1, u1, v1, x1, y1, z1⟩ : Ev)
          rwa [show (wr.alloc (.cells #[.int .i64 k1, .int .i64 t1, .int .i64 u1, .int .i64 v1, .int .i64 x1, .int .i64 y1, .int .i64 z1] 26)).heap.size = wr.heap.size + 1 by simp] at h9
        have HBS : Hid (w.heap.size + 2 ≤ ((wr.alloc (.cells #[.int .i64 k1, .int .i64 t1, .int .i64 u1, .int .i64 v1, .int .i64 x1, .int .i64 y1, .int .i64 z1] 26)).alloc (.cells #[.int .i64 k1, .int .i64 t1, .int .i64 u1, .int .i64 v1, .int .i64 x1, .int .i64 y1, .int .i64 z1] 26)).heap.size) := by
          show _ ≤ _
          simp
          omega
        have htl : (Rd.upto m (l.take j)).length ≤ 65536 := by
          have := Rd.len_split m (l.take j)
          rw [List.length_take] at this
          omega
        have HTe := Lib.hid ((HTL.out.go (below_new wr (.cells #[.int .i64 k1, .int .i64 t1, .int .i64 u1, .int .i64 v1, .int .i64 x1, .int .i64 y1, .int .i64 z1] 26)) (by omega)).go (below_new _ (.cells #[.int .i64 k1, .int .i64 t1, .int .i64 u1, .int .i64 v1, .int .i64 x1, .int .i64 y1, .int .i64 z1] 26)) (by simp; omega))
        go_wp2_with (at_builtin; (refine wpList_applF _ rfl (.tmp 21) (.tmp 23) (w.heap.size + 2) Ao co rfl (Rd.upto m (l.take j)) (by simp [Act.eval]) HOT.out (some ⟨wr.heap.size + 1, 0, none⟩) 1 1 [(⟨k1, t1, u1, v1, x1, y1, z1⟩ : Ev)] rfl (by simp [Act.eval]) HRVE.out (by omega) HBS.out ?_; intro A5 c5 w5 HO5 HG5 HF5))
        have HTn := Lib.hid (HTe.out.appO HO5.out HG5.out HF5.out HBS.out)
        rw [← HLA.out] at HTn
        have hnl : Hid ((Rd.upto m (l.take (j + 1))).length = (Rd.upto m (l.take j)).length + 1) := by show _ = _; rw [HLA.out]; simp
        rw [← HLB.out] at HTn
        go_wp2
        go_roundw
        case rel => refine ⟨j + 1, A5, c5, Ar, cr, ?_, ?_, ?_, ?_, HTn.out⟩ <;> first | (rw [hnl.out]; simp; done) | (rw [hnl.out]) | (rw [HLB.out]) | rfl | go_num | omega
        case measure => simp [RowKit.intOf]; try omega
      · have dm : decide (t1 ≤ m) = false := by simpa using htm
        have HLA : Hid (Rd.behind m (l.take (j + 1)) = Rd.behind m (l.take j) ++ [(⟨k1, t1, u1, v1, x1, y1, z1⟩ : Ev)]) := by show _ = _; rw [hta, behind_snoc, if_neg htm]
        have HLB : Hid (Rd.upto m (l.take (j + 1)) = Rd.upto m (l.take j)) := by show _ = _; rw [hta, upto_snoc, if_neg htm]
        clear ha hta htm
        have HOT : Hid (OE (w.heap.size + 2) ((wr.alloc (.cells #[.int .i64 k1, .int .i64 t1, .int .i64 u1, .int .i64 v1, .int .i64 x1, .int .i64 y1, .int .i64 z1] 26)).alloc (.cells #[.int .i64 k1, .int .i64 t1, .int .i64 u1, .int .i64 v1, .int .i64 x1, .int .i64 y1, .int .i64 z1] 26)) Ar cr (Rd.behind m (l.take j))) := by
          have h9 := own_up HTL.out.rr (below_new wr (.cells #[.int .i64 k1, .int .i64 t1, .int .i64 u1, .int .i64 v1, .int .i64 x1, .int .i64 y1, .int .i64 z1] 26))
          exact own_up h9 (below_new _ (.cells #[.int .i64 k1, .int .i64 t1, .int .i64 u1, .int .i64 v1, .int .i64 x1, .int .i64 y1, .int .i64 z1] 26))
        have HRVE : Hid (RV ((wr.alloc (.cells #[.int .i64 k1, .int .i64 t1, .int .i64 u1, .int .i64 v1, .int .i64 x1, .int .i64 y1, .int .i64 z1] 26)).alloc (.cells #[.int .i64 k1, .int .i64 t1, .int .i64 u1, .int .i64 v1, .int .i64 x1, .int .i64 y1, .int .i64 z1] 26)).heap.size ((wr.alloc (.cells #[.int .i64 k1, .int .i64 t1, .int .i64 u1, .int .i64 v1, .int .i64 x1, .int .i64 y1, .int .i64 z1] 26)).alloc (.cells #[.int .i64 k1, .int .i64 t1, .int .i64 u1, .int .i64 v1, .int .i64 x1, .int .i64 y1, .int .i64 z1] 26)) (some ⟨wr.heap.size + 1, 0, none⟩) 1 [(⟨k1, t1, u1, v1, x1, y1, z1⟩ : Ev)]) := by
          have h9 := RV_newE (wr.alloc (.cells #[.int .i64 k1, .int .i64 t1, .int .i64 u1, .int .i64 v1, .int .i64 x1, .int .i64 y1, .int .i64 z1] 26)) (⟨k1, t1, u1, v1, x1, y1, z1⟩ : Ev)
          rwa [show (wr.alloc (.cells #[.int .i64 k1, .int .i64 t1, .int .i64 u1, .int .i64 v1, .int .i64 x1, .int .i64 y1, .int .i64 z1] 26)).heap.size = wr.heap.size + 1 by simp] at h9
        have HBS : Hid (w.heap.size + 2 ≤ ((wr.alloc (.cells #[.int .i64 k1, .int .i64 t1, .int .i64 u1, .int .i64 v1, .int .i64 x1, .int .i64 y1, .int .i64 z1] 26)).alloc (.cells #[.int .i64 k1, .int .i64 t1, .int .i64 u1, .int .i64 v1, .int .i64 x1, .int .i64 y1, .int .i64 z1] 26)).heap.size) := by
          show _ ≤ _
          simp
          omega
        have htl : (Rd.behind m (l.take j)).length ≤ 65536 := by
          have := Rd.len_split m (l.take j)
          rw [List.length_take] at this
          omega
        have HTe := Lib.hid ((HTL.out.go (below_new wr (.cells #[.int .i64 k1, .int .i64 t1, .int .i64 u1, .int .i64 v1, .int .i64 x1, .int .i64 y1, .int .i64 z1] 26)) (by omega)).go (below_new _ (.cells #[.int .i64 k1, .int .i64 t1, .int .i64 u1, .int .i64 v1, .int .i64 x1, .int .i64 y1, .int .i64 z1] 26)) (by simp; omega))
        go_wp2_with (at_builtin; (refine wpList_applF _ rfl (.tmp 25) (.tmp 27) (w.heap.size + 2) Ar cr rfl (Rd.behind m (l.take j)) (by simp [Act.eval]) HOT.out (some ⟨wr.heap.size + 1, 0, none⟩) 1 1 [(⟨k1, t1, u1, v1, x1, y1, z1⟩ : Ev)] rfl (by simp [Act.eval]) HRVE.out (by omega) HBS.out ?_; intro A5 c5 w5 HO5 HG5 HF5))
        have HTn := Lib.hid (HTe.out.appR HO5.out HG5.out HF5.out HBS.out)
        rw [← HLA.out] at HTn
        have hnl : Hid ((Rd.behind m (l.take (j + 1))).length = (Rd.behind m (l.take j)).length + 1) := by show _ = _; rw [HLA.out]; simp
        rw [← HLB.out] at HTn
        go_wp2
        go_roundw
        case rel => refine ⟨j + 1, Ao, co, A5, c5, ?_, ?_, ?_, ?_, HTn.out⟩ <;> first | (rw [hnl.out]; simp; done) | (rw [hnl.out]) | (rw [HLB.out]) | rfl | go_num | omega
        case measure => simp [RowKit.intOf]; try omega
    · obtain rfl : j = l.length := by omega
      rw [List.take_length] at HTL ⊢
      have k0 := (HTL.out.bel.block w.heap.size (by omega)).trans HN.out.1
      have k1 := (HTL.out.bel.block (w.heap.size + 1) (by omega)).trans HN.out.2.1
      have K0 := Lib.hid k0
      have K1 := Lib.hid k1
      have aC := Go.Joins.cell_of_block (k0)
      have a0 := aC 0; have a1 := aC 1; have a2 := aC 2; have a3 := aC 3
      simp only [List.getElem?_toArray, List.getElem?_cons_succ, List.getElem?_cons_zero] at a0 a1 a2 a3
      have aF := Go.Joins.unfrozen_of_block (k0)
      have af0 := aF 0; have af1 := aF 1; have af2 := aF 2; have af3 := aF 3
      clear aF
      clear aC
      have bC := Go.Joins.cell_of_block (k1)
      have b0 := bC 0; have b1 := bC 1; have b2 := bC 2; have b3 := bC 3
      simp only [List.getElem?_toArray, List.getElem?_cons_succ, List.getElem?_cons_zero] at b0 b1 b2 b3
      have bF := Go.Joins.unfrozen_of_block (k1)
      have bf0 := bF 0; have bf1 := bF 1; have bf2 := bF 2; have bf3 := bF 3
      clear bF
      clear bC
      have hne : ¬ w.heap.size = w.heap.size + 1 := by omega
      have hne2 : ¬ w.heap.size + 1 = w.heap.size := by omega
      obtain ⟨mx, HX⟩ : ∃ mx, Hid (max M m = mx) := ⟨_, rfl⟩
      have HRQ : Hid (Rd.rel ⟨n, L, M, l⟩ m = (⟨n, L, mx, Rd.behind m l⟩, Rd.upto m l)) := by show _ = _; rw [← HX.out]; rfl
      have hmx : (m ≤ M ∧ mx = M) ∨ (M < m ∧ mx = m) := by have := HX.out; omega
      clear HX k0 k1
      obtain ⟨nr, HNR⟩ : ∃ nr, Hid ((Rd.behind m l).length = nr) := ⟨_, rfl⟩
      obtain ⟨no, HNO⟩ : ∃ no, Hid ((Rd.upto m l).length = no) := ⟨_, rfl⟩
      rw [HNR.out, HNO.out]
      have HFIN : Hid (∀ (mm : Int) (W6 : World), W6 = ((((((wr.setCell ⟨w.heap.size, 3, none⟩ (.slice Ar nr cr)).setCell ⟨w.heap.size, 2, none⟩ (.int .i64 mm)).setCell ⟨w.heap.size + 1, 0, none⟩ (.int .i64 n)).setCell ⟨w.heap.size + 1, 1, none⟩ (.int .i64 L)).setCell ⟨w.heap.size + 1, 2, none⟩ (.int .i64 mm)).setCell ⟨w.heap.size + 1, 3, none⟩ (.slice Ar nr cr)) →
          W6.heap[w.heap.size + 1]? = some (.cells #[.int .i64 n, .int .i64 L, .int .i64 mm, .slice Ar nr cr] 24 (0, 0)) ∧ OW w.heap.size W6 Ar cr (Rd.behind m l) ∧ RN w.heap.size W6 Ao co (Rd.upto m l) ∧ Below w.heap.size w W6) := by
        rintro mm W6 rfl
        have hg0 : Tw w.heap.size none wr ((wr.setCell ⟨w.heap.size, 3, none⟩ (.slice Ar nr cr)).setCell ⟨w.heap.size, 2, none⟩ (.int .i64 mm)) := Tw.set.trans Tw.set (Fr.refl _ _)
        have hb1 := (hg0.block (w.heap.size + 1) (lt_of_some K1.out) (by omega) (fun e => by cases e)).trans K1.out
        have ho0 : OW (w.heap.size + 2) _ Ar cr (Rd.behind m l) := (OW.of_own HTL.out.rr).kept hg0.grownP (fun q hq e => by injection e with e; have := (OW.of_own HTL.out.rr).lt q hq; omega)
        have hr0 : RN (w.heap.size + 2) _ Ao co (Rd.upto m l) := HTL.out.oo.rn.kept hg0.grownP (fun q e => by injection e with e; omega)
        exact ⟨set4_blk hb1 _ _ _ _, (ow_box hb1 _ _ _ _ ho0).lo (by omega), (rn_box hb1 _ _ _ _ hr0).lo (by omega), below_set4 ((HN.out.2.2.2.trans (below_le HTL.out.bel (by omega))).trans (hg0.below (Nat.le_refl _) (fun q hq => by cases hq) (by omega))) (by omega) _ _ _ _⟩
      rcases hmx with ⟨hmx, h9⟩ | ⟨hmx, h9⟩
      all_goals
        subst h9
        go_wp2
        obtain ⟨f1, f2, f3, f4⟩ := HFIN.out _ _ rfl
        refine ret_buf2 (p := 4) (r := 5) Try.results33 rfl (w.heap.size + 1) rfl _ rfl f1 ⟨Ar, Ao, cr, co, ?_, ?_, ?_, f4⟩
        · rw [HRQ.out]
          dsimp only
          rw [HNR.out, HNO.out]
          rfl
        · rw [HRQ.out]; exact f2
        · rw [HRQ.out]; exact f3
end Go.Proofs.Ytgdhjllfdndmnaa
