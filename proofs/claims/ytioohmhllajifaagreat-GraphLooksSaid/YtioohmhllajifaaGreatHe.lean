/-
  Package graph's Of.
-/
import Derived.Test.YtioohmhllajifaaGreatEa
import Derived.Test.YtioohmhllajifaaGreatHd
import Derived.OwnWalk
namespace Go.Proofs.YtioohmhllajifaaGreat
open Go.RowKit Go.Lib Go.Sort

theorem swoE : SWO (ltOf cmpE) where
  irrefl x := by unfold ltOf; rw [ltE_bef]; exact bef_irrefl x
  trans x y z h1 h2 := by unfold ltOf at *; rw [ltE_bef] at *; exact bef_trans x y z h1 h2
  ntrans x y z h1 h2 := by
    unfold ltOf at *
    rw [ltE_bef] at *
    rw [bef_no] at *
    omega
theorem cmpLaysE (g size : Nat) (w : World) : CmpLays Tryz.prog 46 #[] encE 2 cmpE g 0 size w := fun _ _ _ _ x y => cmpE_grow x.1 x.2 y.1 y.2 _

set_option maxHeartbeats 1000000 in
theorem sortE_own (base g c : Nat) (l : List Ed) (w : World) (h : w.ownsRow base 53 2 (.slice (some ⟨g, 0, none⟩) l.length c) l.length (ev l)) (hl : l.length ≤ 65536) (hg : g < w.heap.size) :
    Calls Tryz.prog 45 #[.slice (some ⟨g, 0, none⟩) l.length c, .func (.func 46) #[] #[]] w fun e w' => e = .returned (.tuple #[]) ∧ ∃ ts : List Ed, ts.length = l.length ∧ ts.Perm l ∧ (∀ i j, i < j → j < ts.length → bef ts.toArray[j]! ts.toArray[i]! = false) ∧
      w'.ownsRow base 53 2 (.slice (some ⟨g, 0, none⟩) ts.length c) ts.length (ev ts) ∧ Below base w w' := by
  have eg : ∀ args w, (callFunc 46 args).run Tryz.prog w = .ok (.enter 46 args) w := enters_of Tryz.func46 (by kernel_rfl) rfl
  have hcon := AnyQ.slices_SortFunc Tryz.sortE 2 Tryz.isAgg53 Tryz.sizeOf53 encE (fun _ => rfl) (fun x v hv => by simp [encE] at hv; rcases hv with rfl | rfl <;> rfl) cmpE swoE 46 #[] g 0 c l.toArray w eg (cmpLaysE g _ w) (own_holds h) hg (by simp; omega)
  change Calls Tryz.prog 45 _ _ _ at hcon
  refine hcon.mono ?_
  rintro e w' ⟨rfl, d', n, os, hp, hs, rfl⟩
  obtain ⟨ts, rfl⟩ : ∃ ts : List Ed, d' = ts.toArray := ⟨d'.toList, by simp⟩
  have hlen : ts.length = l.length := by simpa using hp.1
  obtain ⟨h1, h2⟩ := own_sorted h ts hlen n os
  refine ⟨rfl, ts, hlen, ?_, fun i j hij hj => ?_, h1, h2⟩
  · have := hp.2.2
    rw [show l.toArray.size = ts.length by simp [hlen]] at this
    rw [show (ts.toArray.extract 0 ts.length).toList = ts by simp, show (l.toArray.extract 0 ts.length).toList = l by simp [hlen]] at this
    exact this
  · have := hs i j (Nat.zero_le _) hij (by simp; omega)
    unfold ltOf at this
    rwa [ltE_bef] at this

/-- the state while the edges are gathered: the result's cell is block g4; the row lies behind it -/
structure OS (w : World) (g4 ga c2 : Nat) (ks : List Ed) (wr : World) : Prop where
  b4 : wr.heap[g4]? = some (.cells #[.int .i64 0, .slice none 0 0] 28)
  own : wr.ownsRow (g4 + 1) 53 2 (.slice (some ⟨ga, 0, none⟩) ks.length c2) ks.length (ev ks)
  bel : Below w.heap.size w wr
  l4 : w.heap.size ≤ g4
section
variable {w : World} {g4 ga c2 : Nat} {ks : List Ed} {wr : World}
theorem OS.lt (h : OS w g4 ga c2 ks wr) : g4 < wr.heap.size := lt_of_some h.b4
theorem OS.gga (h : OS w g4 ga c2 ks wr) : g4 < ga ∧ ga < wr.heap.size := by
  rcases h.own.2 with ⟨h', _⟩ | ⟨g', cap', cur, h', hb, hg, hnc, hcm, hcs, htake⟩
  · simp at h'
  · simp only [Value.slice.injEq, Option.some.injEq, Addr.mk.injEq, and_true, true_and] at h'
    obtain ⟨rfl, rfl⟩ := h'
    exact ⟨by omega, lt_of_some hg⟩
theorem OS.cap (h : OS w g4 ga c2 ks wr) : ks.length ≤ c2 := by
  rcases h.own.2 with ⟨h', _⟩ | ⟨g', cap', cur, h', hb, hg, hnc, hcm, hcs, htake⟩
  · simp at h'
  · simp only [Value.slice.injEq, Option.some.injEq, Addr.mk.injEq, and_true, true_and] at h'
    obtain ⟨rfl, rfl⟩ := h'
    exact hnc
theorem OS.go (h : OS w g4 ga c2 ks wr) {w3 : World} (hb : Below wr.heap.size wr w3) : OS w g4 ga c2 ks w3 :=
  ⟨(hb.block _ h.lt).trans h.b4, h.own.kept (row := none) ⟨hb.os, hb.tape, hb.output, hb.size, fun i hi _ => hb.block i hi⟩ (.inr (by simp [Value.ownBlock])), h.bel.trans (hb.mono h.bel.size), h.l4⟩
theorem OS.fin (h : OS w g4 ga c2 ks wr) (i j : Nat) (x y : Value) : ((wr.setCell ⟨g4, i, none⟩ x).setCell ⟨g4, j, none⟩ y).ownsRow w.heap.size 53 2 (.slice (some ⟨ga, 0, none⟩) ks.length c2) ks.length (ev ks) ∧ Below w.heap.size w ((wr.setCell ⟨g4, i, none⟩ x).setCell ⟨g4, j, none⟩ y) := by
  have h4 := h.l4
  have o1 := h.own.kept (w' := wr.setCell ⟨g4, i, none⟩ x) set_grown (.inr fun e => by have := (h.own.lt _ e).1; omega)
  have o2 := o1.kept (w' := (wr.setCell ⟨g4, i, none⟩ x).setCell ⟨g4, j, none⟩ y) set_grown (.inr fun e => by have := (o1.lt _ e).1; omega)
  exact ⟨Go.Joins.ownsRow_le o2 (by omega), (h.bel.setCell h4 _).setCell h4 _⟩
theorem OS.push (h : OS w g4 ga c2 ks wr) {ga' c3 : Nat} {ks' : List Ed} {w3 : World} (ho : w3.ownsRow (g4 + 1) 53 2 (.slice (some ⟨ga', 0, none⟩) ks'.length c3) ks'.length (ev ks')) (hb : Below (g4 + 1) wr w3) : OS w g4 ga' c3 ks' w3 :=
  ⟨(hb.block _ (by omega)).trans h.b4, ho, h.bel.trans (hb.mono (by have := h.l4; omega)), h.l4⟩
end

def edgL (l : List Ed) : List Ed := l.map fun e => edg e.1 e.2
theorem edgL_succ (l : List Ed) (x y : Int) (k : Nat) (h : l[k]? = some (x, y)) : edgL (l.take (k + 1)) = edgL (l.take k) ++ [(min x y, max x y)] := by
  rw [take_succ_e l _ k h]; simp [edgL, edg]
theorem len_edgL (l : List Ed) : (edgL l).length = l.length := by simp [edgL]

set_option maxHeartbeats 4000000 in
set_option maxRecDepth 100000 in
theorem gof_any (n : Int) (A : Option Addr) (c : Nat) (l : List Ed) (w : World) (h : RE w.heap.size w A c l) (hl : l.length ≤ 65536) :
    Calls Tryz.prog 26 #[.int .i64 n, .slice A l.length c] w (GivesG w (if ofe n l = 0 then n else 0) (if ofe n l = 0 then ofl l else []) (ofe n l)) := by
  have b4 : (w.alloc (.cells #[.int .i64 0, .slice none 0 0] 28)).heap[w.heap.size]? = some (.cells #[.int .i64 0, .slice none 0 0] 28) := heap_alloc_new _ _
  have HB0 : Hid (Below w.heap.size w (w.alloc (.cells #[.int .i64 0, .slice none 0 0] 28))) := (Below.refl _ _).alloc (Nat.le_refl _) _
  have H := Lib.hid h
  have CN := Lib.hid (fun W => cnt_any n W)
  clear h
  by_cases hbad : n < 0 ∨ 64 < n
  · have HR := Lib.hid (show ofe n l = 1 by unfold ofe; rw [if_pos hbad])
    rw [HR.out, if_neg (by decide), if_neg (by decide)]
    have hc : cntB n = false := by unfold cntB; simp; omega
    rw [hc] at CN
    clear b4 HR hbad hc
    go_enter Tryz.func26, Tryz.ntmps26
    go_wp2_with (go_at_call 43; refine (CN.out _).mono ?_; rintro e w' ⟨rfl, rfl⟩)
    exact bodyPost_ret (v := .tuple #[.agg #[.int .i64 0, .slice none 0 0], .int .i64 1]) (by simp [results, Tryz.results26, go_sem]) rfl
      ⟨none, 0, rfl, World.ownsRow_nil _ _ _ _, HB0.out⟩
  · have hc : cntB n = true := by unfold cntB; simp; omega
    rw [hc] at CN
    have HOF : Hid (ofe n l = if allE n l = true then 0 else 6) := by show _ = _; unfold ofe; rw [if_neg hbad]
    have HB4 := Lib.hid b4
    clear hbad b4 hc
    obtain ⟨m, Hm⟩ : ∃ m, Hid ((if ofe n l = 0 then n else 0) = m) := ⟨_, rfl⟩
    obtain ⟨L, HL⟩ : ∃ L, Hid ((if ofe n l = 0 then ofl l else []) = L) := ⟨_, rfl⟩
    obtain ⟨r, Hr⟩ : ∃ r, Hid (ofe n l = r) := ⟨_, rfl⟩
    rw [Hm.out, HL.out, Hr.out]
    obtain ⟨i0, hi0, hz0, hz1, hz2⟩ := info_parts ed_info
    have HI0 := Lib.hid hi0
    have HZ0 := Lib.hid hz0
    have HZ1 := Lib.hid hz1
    have HZ2 := Lib.hid hz2
    clear hi0 hz0 hz1 hz2
    go_enter Tryz.func26, Tryz.ntmps26
    go_wp2_with (first
      | (go_at_call 43; refine (CN.out _).mono ?_; rintro e w' ⟨rfl, rfl⟩)
      | (at_make; refine wpList_make_own _ rfl (.const (.int .i64 0)) (.tmp 14) 26 rfl (w.heap.size + 1) 53 i0 _ 2 Tryz.underlying26 HI0.out HZ0.out HZ1.out .i64 .i64 l.length l.length rfl rfl rfl (by rw [HZ2.out]; omega) (by simp only [maxLen]; omega) (by simp) ?_; intro w1 ho1 hg1; have HO1 := Lib.hid ho1; have HG1 := Lib.hid hg1; clear ho1 hg1))
    have HOS : Hid (OS w w.heap.size (w.heap.size + 1) l.length [] w1) := by
      have hb : Below (w.alloc (.cells #[.int .i64 0, .slice none 0 0] 28)).heap.size (w.alloc (.cells #[.int .i64 0, .slice none 0 0] 28)) w1 := (Below.refl _ _).grown HG1.out (Nat.le_refl _) (fun k hk => by cases hk)
      refine ⟨(hb.block _ (by simp)).trans HB4.out, ?_, HB0.out.trans (hb.mono (by simp)), Nat.le_refl _⟩
      have := HO1.out
      simpa [ev] using this
    clear HO1 HG1 HB0 HB4 HI0 HZ0 HZ1 HZ2
    go_loopw [6, 18] (fun s i wr => ∃ (k ga c2 : Nat) (ks : List Ed), k ≤ l.length ∧ i = .int .i64 k ∧ s = .slice (some ⟨ga, 0, none⟩) ks.length c2 ∧ ks.length ≤ k ∧ Hid (ks = edgL (l.take k)) ∧ Hid (allE n (l.take k) = true) ∧ Hid (OS w w.heap.size ga c2 ks wr)) (fun _ i _ => l.length - (RowKit.intOf i).toNat)
    case atStart => exact ⟨0, w.heap.size + 1, l.length, [], Nat.zero_le _, rfl, by simp, Nat.le_refl _, rfl, rfl, HOS.out⟩
    case round =>
      obtain ⟨k, ga, c2, ks, hk, rfl, rfl, hks, HK, HA, HO⟩ := hrel
      by_cases hlt : k < l.length
      · obtain ⟨b, off, x, y, rfl, hb, hx, hc0, hc1⟩ := (H.out.go HO.out.bel).let_ hlt
        have HX := Lib.hid hx
        clear hx
        have kl := HO.out.lt
        have HOa := Lib.hid (HO.out.go ((Below.refl _ _).alloc (Nat.le_refl _) (.cells #[.int .i64 x, .int .i64 y] 53)))
        obtain ⟨P, HP⟩ : ∃ P, Hid (endsB n x y = P) := ⟨_, rfl⟩
        have CJ := Lib.hid (fun W => joined_any n x y W)
        rw [HP.out] at CJ
        cases P
        · have HR : Hid (ofe n l = 6) := by show _ = _; rw [HOF.out, allE_no n l x y k HX.out HP.out]; rfl
          have e1 := Hm.out; have e2 := HL.out; have e3 := Hr.out
          rw [HR.out] at e1 e2 e3
          rw [if_neg (by decide)] at e1 e2
          subst e1; subst e2; subst e3
          have p0 := Go.Joins.cell_of_block HO.out.b4 0; have p1 := Go.Joins.cell_of_block HO.out.b4 1; have q0 := Go.Joins.unfrozen_of_block HO.out.b4 0; have q1 := Go.Joins.unfrozen_of_block HO.out.b4 1
          simp at p0 p1
          have hb4 := (setCell_two (setCell_two HO.out.b4 (v := .int .i64 0)).1 (v := .slice none 0 0)).2
          have hb5 := (Below.heap_alloc _ (.cells #[.int .i64 x, .int .i64 y] 53) _ (lt_of_some hb4)).trans hb4
          have hf0 := Go.Joins.cell_of_block hb5 0; have hf1 := Go.Joins.cell_of_block hb5 1
          simp at hf0 hf1
          have HFin := Lib.hid (((HO.out.bel.setCell (p := ⟨w.heap.size, 0, none⟩) (Nat.le_refl _) (.int .i64 0)).setCell (p := ⟨w.heap.size, 1, none⟩) (Nat.le_refl _) (.slice none 0 0)).alloc (by simp; omega) (.cells #[.int .i64 x, .int .i64 y] 53))
          clear hb4 hb5
          go_wp2_with (go_at_call 44; refine (CJ.out _).mono ?_; rintro e w2 ⟨rfl, rfl⟩)
          generalize (((wr.setCell ⟨w.heap.size, 0, none⟩ (.int .i64 0)).setCell ⟨w.heap.size, 1, none⟩ (.slice none 0 0)).alloc (.cells #[.int .i64 x, .int .i64 y] 53)) = wf at HFin hf0 hf1 ⊢
          exact bodyPost_ret (v := .tuple #[.agg #[.int .i64 0, .slice none 0 0], .int .i64 6]) (by simp [results, Tryz.results26, go_sem, hf0, hf1]) rfl
            ⟨none, 0, rfl, World.ownsRow_nil _ _ _ _, HFin.out⟩
        · have HN := Lib.hid (edgL_succ l x y k HX.out)
          have HN2 := Lib.hid (allE_succ n l x y k HX.out HA.out HP.out)
          rw [← HK.out] at HN
          have C35 := Lib.hid (fun W => between_any x y W)
          obtain ⟨p, Hp⟩ : ∃ p, Hid (p = min x y) := ⟨_, rfl⟩
          obtain ⟨q, Hq⟩ : ∃ q, Hid (q = max x y) := ⟨_, rfl⟩
          rw [← Hp.out, ← Hq.out] at C35 HN
          go_wp2_with (first
            | (go_at_call 44; refine (CJ.out _).mono ?_; rintro e w2 ⟨rfl, rfl⟩)
            | (go_at_call 29; refine (C35.out _).mono ?_; rintro e w3 ⟨rfl, hb3⟩; have HO3 := Lib.hid (HOa.out.go hb3); clear hb3)
            | (at_builtin; refine wpList_applE _ rfl (.tmp 30) (.tmp 36) rfl (w.heap.size + 1) (some ⟨ga, 0, none⟩) c2 ks rfl (HO3.out.own.alloc _) (some ⟨w3.heap.size, 0, none⟩) 1 1 [(p, q)] rfl rfl (RE_newB _ _ _) (by omega) (by have := HO3.out.lt; simp; omega) ?_; intro A5 c5 w5 HO5 HB5))
          obtain ⟨ga5, hA5, -, -⟩ := own_spotE HO5.out (by simp)
          subst hA5
          have HO6 := Lib.hid ((HO3.out.go ((Below.refl _ _).alloc (Nat.le_refl _) (.cells #[.int .i64 p, .int .i64 q] 53))).push HO5.out HB5.out)
          clear HO5 HB5 HO3
          go_wp2
          go_roundw
          case rel => exact ⟨k + 1, ga5, c5, ks ++ [(p, q)], by omega, by go_num, by simp, by simp; omega, HN.out.symm, HN2.out, HO6.out⟩
          case measure => simp [RowKit.intOf]; omega
      · have HT : Hid (l.take k = l) := List.take_of_length_le (by omega)
        have HR : Hid (ofe n l = 0) := by show _ = _; rw [HOF.out, if_pos]; rw [← HT.out]; exact HA.out
        have HK2 : Hid (ks = edgL l) := by show _ = _; rw [HK.out, HT.out]
        have e1 := Hm.out; have e2 := HL.out; have e3 := Hr.out
        rw [HR.out] at e1 e2 e3
        rw [if_pos rfl] at e1 e2
        subst e1; subst e3
        have HL2 := Lib.hid e2
        clear e2
        go_wp2_with fail
        refine (sortE_own (w.heap.size + 1) ga c2 ks _ HO.out.own (by omega) HO.out.gga.2).mono ?_
        rintro e w2 ⟨rfl, ts, hts, hp, hs, ho2, hb2⟩
        rw [← hts]
        have HO2 := Lib.hid (HO.out.push ho2 hb2)
        have HC : Hid (compact ts = L) := by
          show _ = _
          rw [← HL2.out]
          exact compactE_sorted l ts (by have := HK2.out; rw [this] at hp; exact hp) hs
        have htl : ts.length ≤ 65536 := by omega
        clear hts hp hs ho2 hb2
        go_wp2_with fail
        refine (compactE_own (w.heap.size + 1) ga c2 ts _ HO2.out.own htl (by have := HO2.out.gga; omega) HO2.out.cap).mono ?_
        rintro e w3 ⟨rfl, ho3, hb3⟩
        have HO3 := Lib.hid (HO2.out.push ho3 hb3)
        rw [HC.out] at HO3 ⊢
        clear ho3 hb3
        have b0 := Go.Joins.cell_of_block HO3.out.b4 0; have b1 := Go.Joins.cell_of_block HO3.out.b4 1; have d0 := Go.Joins.unfrozen_of_block HO3.out.b4 0; have d1 := Go.Joins.unfrozen_of_block HO3.out.b4 1
        simp at b0 b1
        have hb4 := (setCell_two (setCell_two HO3.out.b4 (v := .int .i64 n)).1 (v := .slice (some ⟨ga, 0, none⟩) L.length c2)).2
        have hf0 := Go.Joins.cell_of_block hb4 0; have hf1 := Go.Joins.cell_of_block hb4 1
        simp at hf0 hf1
        have HFin := Lib.hid (HO3.out.fin 0 1 (.int .i64 n) (.slice (some ⟨ga, 0, none⟩) L.length c2))
        clear hb4
        go_wp2
        generalize ((w3.setCell ⟨w.heap.size, 0, none⟩ (.int .i64 n)).setCell ⟨w.heap.size, 1, none⟩ (.slice (some ⟨ga, 0, none⟩) L.length c2)) = wf at HFin hf0 hf1 ⊢
        exact bodyPost_ret (v := .tuple #[.agg #[.int .i64 n, .slice (some ⟨ga, 0, none⟩) L.length c2], .int .i64 0]) (by simp [results, Tryz.results26, go_sem, hf0, hf1]) rfl
          ⟨_, c2, rfl, HFin.out.1, HFin.out.2⟩
end Go.Proofs.YtioohmhllajifaaGreat
