/-
  The walk of GraphBack.
-/
import Derived.Test.YtioohmhllajifaaEb
import Derived.Test.YtioohmhllajifaaHj
import Derived.Test.YtioohmhllajifaaGi
namespace Go.Proofs.Ytioohmhllajifaa
open Go.RowKit Go.Lib

/-- the law's state: the deck in block g, a graph in the box g4 -/
structure LS (w : World) (g g4 : Nat) (A : Option Addr) (c : Nat) (L : List Int) (n : Int) (A1 : Option Addr) (c1 : Nat) (l : List Ed) (wr : World) : Prop where
  dk : ∃ m, Dk w.heap.size wr g A c L m
  b4 : wr.heap[g4]? = some (.cells #[.int .i64 n, .slice A1 l.length c1] 24)
  own : wr.ownsRow (g + 1) 52 2 (.slice A1 l.length c1) l.length (ev l)
  bel : Below w.heap.size w wr
  lg : w.heap.size ≤ g
  l4 : g < g4
section
variable {w : World} {g g4 : Nat} {A A1 : Option Addr} {c c1 : Nat} {L : List Int} {n : Int} {l : List Ed} {wr w' : World}
theorem LS.go (h : LS w g g4 A c L n A1 c1 l wr) (hb : Below wr.heap.size wr w') : LS w g g4 A c L n A1 c1 l w' := by
  obtain ⟨m, hd⟩ := h.dk
  exact ⟨⟨m, hd.go hb⟩, (hb.block _ (lt_of_some h.b4)).trans h.b4, own_up h.own hb, h.bel.trans (hb.mono h.bel.size), h.lg, h.l4⟩
theorem LS.next {m : Nat} (h : LS w g g4 A c L n A1 c1 l wr) (hd : Dk w.heap.size w' g A c L m) (hg : wr.grownBy w' (some g)) : LS w g g4 A c L n A1 c1 l w' := by
  have h4 := h.l4
  refine ⟨⟨m, hd⟩, (hg.block _ (lt_of_some h.b4) (fun e => by injection e with e; omega)).trans h.b4, own_kept h.own hg (by omega), h.bel.grown hg h.bel.size (fun k hk => by injection hk with hk; have := h.lg; omega), h.lg, h4⟩
theorem LS.set (h : LS w g g4 A c L n A1 c1 l wr) {k : Nat} (i : Nat) (x : Value) (h4 : g4 < k) (hne : (Value.slice A1 l.length c1).ownBlock ≠ some k) : LS w g g4 A c L n A1 c1 l (wr.setCell ⟨k, i, none⟩ x) := by
  obtain ⟨m, hd⟩ := h.dk
  have hg4 := h.l4
  have hlg := h.lg
  exact ⟨⟨m, dk_other hd set_grown (by omega)⟩, (setCell_only _ (by omega)).trans h.b4, h.own.kept set_grown (.inr hne), h.bel.setCell (p := ⟨k, i, none⟩) (by show w.heap.size ≤ k; omega) x, h.lg, h.l4⟩
theorem LS.ne (h : LS w g g4 A c L n A1 c1 l wr) : (Value.slice A1 l.length c1).ownBlock ≠ some wr.heap.size := fun e => by have := (h.own.lt _ e).2; omega
theorem LS.lt (h : LS w g g4 A c L n A1 c1 l wr) : g4 < wr.heap.size := lt_of_some h.b4
theorem LS.c0 (h : LS w g g4 A c L n A1 c1 l wr) : wr.cell? ⟨g4, 0, none⟩ = some (.int .i64 n) := Go.Joins.cell_of_block h.b4 0
theorem LS.c1' (h : LS w g g4 A c L n A1 c1 l wr) : wr.cell? ⟨g4, 1, none⟩ = some (.slice A1 l.length c1) := Go.Joins.cell_of_block h.b4 1
theorem LS.re (h : LS w g g4 A c L n A1 c1 l wr) : RE wr.heap.size wr A1 c1 l := RE.of_own h.own
theorem LS.start {m : Nat} {w1 w2 : World} (hg : w.heap.size ≤ g) (hg1 : g < w1.heap.size) (hb : Below w.heap.size w w1) (hd : Dk w.heap.size w2 g A c L m) (hgr : w1.grownBy w2 (some g)) (ho : w2.ownsRow (w1.heap.size + 1) 52 2 (.slice A1 l.length c1) l.length (ev l)) :
    LS w g w2.heap.size A c L n A1 c1 l (w2.alloc (.cells #[.int .i64 n, .slice A1 l.length c1] 24)) := by
  have hs := hgr.size
  have hbel : Below w.heap.size w w2 := hb.grown hgr hb.size (fun k hk => by injection hk with hk; omega)
  have ha : Below w2.heap.size w2 (w2.alloc (.cells #[.int .i64 n, .slice A1 l.length c1] 24)) := (Below.refl _ _).alloc (Nat.le_refl _) _
  exact ⟨⟨m, hd.go ha⟩, heap_alloc_new _ _, own_up (Go.Joins.ownsRow_le ho (by omega)) ha, hbel.alloc hbel.size _, hg, by omega⟩
end

set_option maxHeartbeats 4000000 in
set_option maxRecDepth 100000 in
theorem back_any (A : Option Addr) (c : Nat) (L : List Int) (w : World) (h : RD w A c L) (hL : L.length ≤ 17592186044416) :
    Calls Try.prog 5 #[.slice A L.length c] w fun e w' => e = .returned (.bool true) ∧ Below w.heap.size w w' := by
  have H := Lib.hid h
  clear h
  go_enter Try.func5, Try.ntmps5
  go_wp2_with fail
  refine (new_any A c L _ H.out).mono ?_
  rintro e w1 ⟨rfl, hd, hb⟩
  have HD := Lib.hid hd
  have HB := Lib.hid hb
  clear hd hb
  go_wp2_with fail
  refine (graph_any w.heap.size w.heap.size A c L 0 9 _ HD.out hL (by omega)).mono ?_
  rintro e w2 ⟨N, l, A1, c1, m, rfl, hN, hck, hl, ho, hdk, hgr⟩
  have HS := Lib.hid (LS.start (n := (N : Int)) (Nat.le_refl _) HD.out.lt HB.out hdk hgr ho)
  have HC := Lib.hid hck
  clear hck ho hdk hgr HD HB
  have HV := Lib.hid ((chk_zero (N : Int) l).1 HC.out)
  have HSum := Lib.hid (sumD_all N l HV.out.2.2.1)
  have CD : Hid (∀ (k : Nat) (W : World), RE W.heap.size W A1 c1 l → Calls Try.prog 23 #[.agg #[.int .i64 (N : Int), .slice A1 l.length c1], .int .i64 (k : Int)] W fun e w' => e = .returned (.int .i64 ((rawG (k : Int) l).length : Nat)) ∧ Below W.heap.size W w') := fun k W h => by
    have := gdeg_any (N : Int) A1 c1 l (k : Int) W h (by omega)
    rwa [nbr_valid (N : Int) l (k : Int) HC.out] at this
  have z0 := HS.out.c0; have z1 := HS.out.c1'; have z2 := HS.out.lt
  go_wp2_with fail
  clear z0 z1 z2
  go_loopw [5, 6] (fun s i wr => ∃ (k : Nat), k ≤ N ∧ i = .int .i64 k ∧ s = .int .i64 ((sumD l k : Nat) : Int) ∧ Hid (LS w w.heap.size w2.heap.size A c L (N : Int) A1 c1 l wr)) (fun _ i _ => N - (RowKit.intOf i).toNat)
  case atStart => exact ⟨0, Nat.zero_le _, rfl, rfl, HS.out⟩
  case round =>
    obtain ⟨k, hk, rfl, rfl, HR⟩ := hrel
    have z0 := HR.out.c0; have z1 := HR.out.c1'; have z2 := HR.out.lt
    have hsb := sumD_le l k hl
    by_cases hlt : k < N
    · obtain ⟨d, Hd⟩ : ∃ d : Nat, Hid ((rawG (k : Int) l).length = d) := ⟨_, rfl⟩
      have HS2 : Hid (sumD l k + d = sumD l (k + 1)) := by show _ = _; simp only [sumD]; rw [Hd.out]
      have hsb2 := sumD_le l (k + 1) hl
      have hd2 : d ≤ 200000 := by have := HS2.out; omega
      have CK := Lib.hid (CD.out k wr HR.out.re)
      rw [Hd.out] at CK
      have hk9 : k ≤ 9 := by omega
      go_wp2_with (go_at_call 23; refine CK.out.mono ?_; rintro e w3 ⟨rfl, hb3⟩; have HR3 := Lib.hid (HR.out.go hb3); clear hb3)
      go_roundw
      case rel => exact ⟨k + 1, by omega, by go_num, by rw [← HS2.out]; go_num, HR3.out⟩
      case measure => simp [RowKit.intOf]; omega
    · obtain rfl : k = N := by omega
      have HSk : Hid (((sumD l k : Nat) : Int) = 2 * (l.length : Int)) := by show _ = _; rw [HSum.out]; omega
      rw [HSk.out]
      go_wp2_with fail
      obtain ⟨m1, hd1⟩ := HR.out.dk
      refine (next_any w.heap.size w.heap.size A c L m1 9 _ hd1 hL (by omega)).mono ?_
      rintro e w3 ⟨u, m2, rfl, hu0, hu9, hdk, hgr⟩
      have HS3 := Lib.hid (HR.out.next hdk hgr)
      have HD3 := Lib.hid hdk
      clear hd1 hdk hgr z0 z1 z2
      go_wp2_with fail
      refine (next_any w.heap.size w.heap.size A c L m2 9 _ HD3.out hL (by omega)).mono ?_
      rintro e w4 ⟨v, m3, rfl, hv0, hv9, hdk, hgr⟩
      have HS4 := Lib.hid (HS3.out.next hdk hgr)
      clear hdk hgr HD3 HS3 HR hu0 hu9 hv0 hv9
      have z0 := HS4.out.c0; have z1 := HS4.out.c1'; have z2 := HS4.out.lt
      have CA := Lib.hid (gadd_any (k : Int) A1 c1 l u v w4 HS4.out.re (by omega))
      rcases add_cases (k : Int) l u v HC.out with ⟨h15, he, hm⟩ | ⟨h0, he, hm⟩ | h6
      · rw [h15, if_neg (by decide), if_neg (by decide)] at CA
        have HE := Lib.hid he
        have HM := Lib.hid hm
        clear h15 he hm
        go_wp2_with fail
        refine CA.out.mono ?_
        rintro e w5 ⟨A5, c5, rfl, ho5, hb5⟩
        clear CA z0 z1 z2
        have HS5 := Lib.hid (HS4.out.go hb5)
        clear ho5 hb5 HS4
        have HNE := Lib.hid HS5.out.ne
        obtain ⟨g9, Hg9⟩ : ∃ g9, Hid (w5.heap.size = g9) := ⟨_, rfl⟩
        obtain ⟨W5, HW5⟩ : ∃ W5, Hid (w5.alloc (.cells #[.int .i64 0, .slice A5 0 c5] 24) = W5) := ⟨_, rfl⟩
        have hg49 := HS5.out.lt
        rw [Hg9.out] at HNE hg49
        have HB9 : Hid (W5.heap[g9]? = some (.cells #[.int .i64 0, .slice A5 0 c5] 24)) := by show _ = _; rw [← HW5.out, ← Hg9.out]; exact heap_alloc_new _ _
        have HS6 : Hid (LS w w.heap.size w2.heap.size A c L (k : Int) A1 c1 l W5) := by show LS _ _ _ _ _ _ _ _ _ _ _; rw [← HW5.out]; exact HS5.out.go ((Below.refl _ _).alloc (Nat.le_refl _) _)
        have CR := Lib.hid (grem_any (k : Int) A1 c1 l u v W5 HS6.out.re (by omega))
        rw [rem_yes (k : Int) l u v HC.out HE.out HM.out, if_pos rfl, if_pos rfl] at CR
        obtain ⟨lr, HLR⟩ : ∃ lr, Hid (remL l (edg u v) = lr) := ⟨_, rfl⟩
        have hlr : lr.length ≤ 10000 := by rw [← HLR.out]; exact Nat.le_trans (len_remL _ _) hl
        rw [HLR.out] at CR
        have z0 := HS5.out.c0; have z1 := HS5.out.c1'; have z2 := HS5.out.lt
        go_wp2_with fail
        rw [HW5.out, Hg9.out]
        refine CR.out.mono ?_
        rintro e w6 ⟨A6, c6, rfl, ho6, hb6⟩
        clear z0 z1 z2 CR
        have HS7 := Lib.hid (HS6.out.go hb6)
        have HO6 := Lib.hid ho6
        have hs6 : g9 < w6.heap.size := Nat.lt_of_lt_of_le (lt_of_some HB9.out) hb6.size
        have hg5 : g9 < W5.heap.size := lt_of_some HB9.out
        have hb9 := (hb6.block _ (lt_of_some HB9.out)).trans HB9.out
        have b0 := Go.Joins.cell_of_block hb9 0; have b1 := Go.Joins.cell_of_block hb9 1; have d0 := Go.Joins.unfrozen_of_block hb9 0; have d1 := Go.Joins.unfrozen_of_block hb9 1
        simp at b0 b1
        have hb9' := (setCell_two (setCell_two hb9 (v := .int .i64 (k : Int))).1 (v := .slice A6 lr.length c6)).2
        obtain ⟨W7, HW7⟩ : ∃ W7, Hid ((w6.setCell ⟨g9, 0, none⟩ (.int .i64 (k : Int))).setCell ⟨g9, 1, none⟩ (.slice A6 lr.length c6) = W7) := ⟨_, rfl⟩
        have HB10 := Lib.hid hb9'
        have HS8 : Hid (LS w w.heap.size w2.heap.size A c L (k : Int) A1 c1 l W7) := by
          show LS _ _ _ _ _ _ _ _ _ _ _
          rw [← HW7.out]
          exact (HS7.out.set 0 _ hg49 HNE.out).set 1 _ hg49 HNE.out
        have HO7 : Hid (W7.ownsRow W5.heap.size 52 2 (.slice A6 lr.length c6) lr.length (ev lr)) := by
          show World.ownsRow _ _ _ _ _ _ _
          rw [← HW7.out]
          have o1 := HO6.out.kept (w' := w6.setCell ⟨g9, 0, none⟩ (.int .i64 (k : Int))) set_grown (.inr fun e => by have := (HO6.out.lt _ e).1; omega)
          exact o1.kept set_grown (.inr fun e => by have := (o1.lt _ e).1; omega)
        rw [HW7.out] at HB10
        clear hb6 ho6 hb9 hb9' HS7 HO6 HS6 HS5
        have CA := Lib.hid (gadd_any (k : Int) A6 c6 lr v u W7 (RE.of_own HO7.out) (by omega))
        have hcr : chk (k : Int) lr = 0 := by rw [← HLR.out]; exact chk_rem _ _ _ HC.out
        have hnm : edg v u ∉ lr := by rw [← HLR.out, edg_comm u v]; intro h; exact ((mem_remL _ _ _).1 h).2 rfl
        have hback : insE (edg v u) lr = l := by rw [← HLR.out, edg_comm u v]; exact ins_rem l _ HV.out.2.2.2 HM.out
        rw [add_yes (k : Int) lr v u hcr (by rw [endsB_comm]; exact HE.out) hnm, if_pos rfl, if_pos rfl, hback] at CA
        clear hcr hnm hback
        go_wp2_with fail
        rw [HW7.out]
        refine CA.out.mono ?_
        rintro e w8 ⟨A8, c8, rfl, ho8, hb8⟩
        have HS9 := Lib.hid (HS8.out.go hb8)
        have HR8 := Lib.hid (RE.of_own ho8)
        clear ho8 hb8 CA b0 b1 d0 d1 HO7 HS8
        have HSA : Hid (LS w w.heap.size w2.heap.size A c L (k : Int) A1 c1 l (w8.alloc (.cells #[.int .i64 (k : Int), .slice A8 l.length c8] 24))) := HS9.out.go ((Below.refl _ _).alloc (Nat.le_refl _) _)
        have CS := Lib.hid (sameG_any (k : Int) (k : Int) A8 A1 c8 c1 l l (w8.alloc (.cells #[.int .i64 (k : Int), .slice A8 l.length c8] 24)) ((HR8.out.alloc _).more (by simp)) HSA.out.re (by omega) (by omega))
        rw [show sameG (k : Int) (k : Int) l l = true by simp [sameG, eqE]] at CS
        have z0 := HS9.out.c0; have z1 := HS9.out.c1'; have z2 := HS9.out.lt
        go_wp2_with fail
        refine CS.out.mono ?_
        rintro e w9 ⟨rfl, hb9⟩
        have HS10 := Lib.hid (HSA.out.go hb9)
        clear hb9 z0 z1 z2
        go_wp2_with fail
        refine (awake3_any _).mono ?_
        rintro e w10 ⟨rfl, hb10⟩
        have HB11 := Lib.hid (HS10.out.bel.trans (hb10.mono HS10.out.bel.size))
        clear hb10
        go_wp2
        go_ret
        exact ⟨rfl, HB11.out⟩
      · rw [h0, if_pos rfl, if_pos rfl] at CA
        obtain ⟨la, HLA⟩ : ∃ la, Hid (insE (edg u v) l = la) := ⟨_, rfl⟩
        have hlen : la.length = l.length + 1 := by rw [← HLA.out]; exact len_ins _ _ hm
        have HLN := Lib.hid hlen
        have hla : la.length ≤ 10001 := by omega
        have hca : chk (k : Int) la = 0 := by rw [← HLA.out]; exact chk_ins _ _ _ _ HC.out he
        have hmm : edg v u ∈ la := by rw [← HLA.out, edg_comm u v, mem_insE]; exact .inl rfl
        have hback : remL la (edg v u) = l := by rw [← HLA.out, edg_comm u v]; exact rem_ins l _ HV.out.2.2.2 hm
        have hre : remE (k : Int) la v u = 0 := rem_yes (k : Int) la v u hca (by rw [endsB_comm]; exact he) hmm
        have HRE := Lib.hid hre
        have HBK := Lib.hid hback
        rw [HLA.out] at CA
        clear h0 he hm hlen hca hmm hback hre
        go_wp2_with fail
        refine CA.out.mono ?_
        rintro e w5 ⟨A5, c5, rfl, ho5, hb5⟩
        clear CA z0 z1 z2
        have HS5 := Lib.hid (HS4.out.go hb5)
        have HR5 := Lib.hid (RE.of_own ho5)
        clear ho5 hb5 HS4
        obtain ⟨g9, Hg9⟩ : ∃ g9, Hid (w5.heap.size = g9) := ⟨_, rfl⟩
        obtain ⟨W5, HW5⟩ : ∃ W5, Hid (w5.alloc (.cells #[.int .i64 (k : Int), .slice A5 la.length c5] 24) = W5) := ⟨_, rfl⟩
        have HB9 : Hid (W5.heap[g9]? = some (.cells #[.int .i64 (k : Int), .slice A5 la.length c5] 24)) := by show _ = _; rw [← HW5.out, ← Hg9.out]; exact heap_alloc_new _ _
        have HS6 : Hid (LS w w.heap.size w2.heap.size A c L (k : Int) A1 c1 l W5) := by show LS _ _ _ _ _ _ _ _ _ _ _; rw [← HW5.out]; exact HS5.out.go ((Below.refl _ _).alloc (Nat.le_refl _) _)
        have HR6 : Hid (RE W5.heap.size W5 A5 c5 la) := by show RE _ _ _ _ _; rw [← HW5.out]; exact (HR5.out.alloc _).more (by simp)
        have CR := Lib.hid (grem_any (k : Int) A5 c5 la v u W5 HR6.out (by omega))
        rw [HRE.out, if_pos rfl, if_pos rfl, HBK.out] at CR
        go_wp2_with fail
        rw [HW5.out, Hg9.out]
        refine CR.out.mono ?_
        rintro e w6 ⟨A6, c6, rfl, ho6, hb6⟩
        have HS7 := Lib.hid (HS6.out.go hb6)
        have HR7 := Lib.hid (RE.of_own ho6)
        have HB10 := Lib.hid ((hb6.block _ (lt_of_some HB9.out)).trans HB9.out)
        clear ho6 hb6 CR HS6 HS5 HR5 HR6
        have HSA : Hid (LS w w.heap.size w2.heap.size A c L (k : Int) A1 c1 l (w6.alloc (.cells #[.int .i64 (k : Int), .slice A6 l.length c6] 24))) := HS7.out.go ((Below.refl _ _).alloc (Nat.le_refl _) _)
        have HB11 := Lib.hid ((Below.heap_alloc w6 (.cells #[.int .i64 (k : Int), .slice A6 l.length c6] 24) _ (lt_of_some HB10.out)).trans HB10.out)
        have CS := Lib.hid (sameG_any (k : Int) (k : Int) A6 A1 c6 c1 l l (w6.alloc (.cells #[.int .i64 (k : Int), .slice A6 l.length c6] 24)) ((HR7.out.alloc _).more (by simp)) HSA.out.re (by omega) (by omega))
        rw [show sameG (k : Int) (k : Int) l l = true by simp [sameG, eqE]] at CS
        have z0 := HS7.out.c0; have z1 := HS7.out.c1'; have z2 := HS7.out.lt
        go_wp2_with fail
        refine CS.out.mono ?_
        rintro e w9 ⟨rfl, hb9⟩
        have HS10 := Lib.hid (HSA.out.go hb9)
        have hb12 := (hb9.block _ (lt_of_some HB11.out)).trans HB11.out
        have y1 := Go.Joins.cell_of_block hb12 1; have yl := lt_of_some hb12
        simp at y1
        clear hb9 z0 z1 z2 hb12
        have z0 := HS10.out.c0; have z1 := HS10.out.c1'; have z2 := HS10.out.lt
        have hll : ((la.length : Int) == (l.length : Int) + 1) = true := by rw [HLN.out]; simp
        go_wp2_with fail
        refine (awake3_any _).mono ?_
        rintro e w10 ⟨rfl, hb10⟩
        have HB13 := Lib.hid (HS10.out.bel.trans (hb10.mono HS10.out.bel.size))
        clear hb10
        go_wp2
        go_ret
        exact ⟨rfl, HB13.out⟩
      · rw [h6, if_neg (by decide), if_neg (by decide)] at CA
        clear h6
        go_wp2_with fail
        refine CA.out.mono ?_
        rintro e w5 ⟨A5, c5, rfl, ho5, hb5⟩
        have HS5 := Lib.hid (HS4.out.go hb5)
        clear CA z0 z1 z2 ho5 hb5 HS4
        have z2 := HS5.out.lt
        go_wp2_with (go_at_call 7; refine (awake3_any _).mono ?_; rintro e w6 ⟨rfl, hb6⟩; have HB6 := Lib.hid ((HS5.out.bel.alloc HS5.out.bel.size _).trans (hb6.mono (by have := HS5.out.bel.size; simp; omega))); clear hb6)
        go_ret
        exact ⟨rfl, HB6.out⟩
end Go.Proofs.Ytioohmhllajifaa
