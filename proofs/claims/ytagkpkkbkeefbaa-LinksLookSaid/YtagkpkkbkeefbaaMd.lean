/-
  The reference's Where.
-/
import Derived.Test.YtagkpkkbkeefbaaMb
import Derived.Test.YtagkpkkbkeefbaaKu
namespace Go.Proofs.Ytagkpkkbkeefbaa
open Go.RowKit Go.Lib

/-- the loop's state: the box of the state that is built -/
structure WS (w2 : World) (n : Int) (L : List Int) (sg ls : Int) (l : List Ls.Lk) (k : Nat) (A2 : Option Addr) (c2 : Nat) (wr : World) : Prop where
  b : wr.heap[w2.heap.size]? = some (.cells #[.int .i64 n, .slice A2 (Ls.wh L sg ls (l.take k)).length c2] 24)
  own : wr.ownsRow (w2.heap.size + 1) 62 6 (.slice A2 (Ls.wh L sg ls (l.take k)).length c2) (Ls.wh L sg ls (l.take k)).length (cl Ls.Lk.cells (Ls.wh L sg ls (l.take k)))
  bel : Below w2.heap.size w2 wr
section
variable {w2 : World} {n : Int} {L : List Int} {sg ls : Int} {l : List Ls.Lk} {k : Nat} {A2 : Option Addr} {c2 : Nat} {wr w' : World}
theorem WS.go (h : WS w2 n L sg ls l k A2 c2 wr) (hb : Below wr.heap.size wr w') : WS w2 n L sg ls l k A2 c2 w' :=
  ⟨(hb.block _ (lt_of_some h.b)).trans h.b, own_up h.own hb, h.bel.trans (hb.mono h.bel.size)⟩
theorem WS.next (h : WS w2 n L sg ls l k A2 c2 wr) (he : Ls.wh L sg ls (l.take (k + 1)) = Ls.wh L sg ls (l.take k)) : WS w2 n L sg ls l (k + 1) A2 c2 wr := by
  obtain ⟨h1, h2, h3⟩ := h
  exact ⟨by rw [he]; exact h1, by rw [he]; exact h2, h3⟩
theorem WS.ne (h : WS w2 n L sg ls l k A2 c2 wr) : some w2.heap.size ≠ (Value.slice A2 (Ls.wh L sg ls (l.take k)).length c2).ownBlock := fun e => by have := (h.own.lt _ e.symm).1; omega
theorem WS.put {A6 : Option Addr} {c6 : Nat} {q : List Ls.Lk} {w6 : World} (h : WS w2 n L sg ls l k A2 c2 wr) (hq : Ls.wh L sg ls (l.take (k + 1)) = q) (ho : w6.ownsRow (w2.heap.size + 1) 62 6 (.slice A6 q.length c6) q.length (cl Ls.Lk.cells q)) (hb : Below (w2.heap.size + 1) w' w6) (hw : Below wr.heap.size wr w')
    (hb6 : w6.heap[w2.heap.size]? = some (.cells #[.int .i64 n, .slice A2 (Ls.wh L sg ls (l.take k)).length c2] 24)) :
    WS w2 n L sg ls l (k + 1) A6 c6 (w6.setCell ⟨w2.heap.size, 1, none⟩ (.slice A6 q.length c6)) := by
  have hne : (Value.slice A6 q.length c6).ownBlock ≠ some w2.heap.size := fun e => by have := (ho.lt _ e).1; omega
  have hs := h.bel.size
  refine ⟨by rw [hq]; exact setCell_cells hb6 1 _, by rw [hq]; exact ho.kept set_grown (.inr hne), ?_⟩
  exact ((h.bel.trans (hw.mono hs)).trans (hb.mono (by omega))).setCell (p := ⟨w2.heap.size, 1, none⟩) (Nat.le_refl _) _
end
set_option maxHeartbeats 4000000 in
set_option maxRecDepth 100000 in
theorem rwhere_any (n : Int) (A B : Option Addr) (c d : Nat) (l : List Ls.Lk) (L : List Int) (sg ls : Int) (w : World) (h : RL w.heap.size w A c l) (hL : RD w B d L) (hl : l.length ≤ 60000) (hL64 : L.length ≤ 65536) :
    Calls Try.prog 23 #[.agg #[.int .i64 n, .slice A l.length c], .slice B L.length d, .int .i64 sg, .int .i64 ls] w (WhereP n l L sg ls w) := by
  obtain ⟨W1, hW1⟩ : ∃ W1, ((w.alloc (.cells #[.int .i64 n, .slice A l.length c] 24)).alloc (.cells #[.int .i64 0, .slice none 0 0] 24)) = W1 := ⟨_, rfl⟩
  obtain ⟨n0, n1, n3, n4⟩ := new_two w (.cells #[.int .i64 n, .slice A l.length c] 24) (.cells #[.int .i64 0, .slice none 0 0] 24)
  rw [hW1] at n0 n1 n3 n4
  obtain ⟨G, hG⟩ : ∃ G, Hid (w.heap.size = G) := ⟨_, rfl⟩
  have HW1 := Lib.hid hW1
  have HB1 := Lib.hid n4
  have H1 := Lib.hid (h.up n4)
  have HL1 := Lib.hid (hL.go n4)
  rw [hG.out] at n0 n1 n3
  have N0 := Lib.hid n0; have N1 := Lib.hid n1; have N3 := Lib.hid n3
  have C13 := Lib.hid (rcheckS_any n A c l W1 H1.out (by omega))
  have s0 := Go.Joins.cell_of_block n0 0; have s1 := Go.Joins.cell_of_block n0 1
  simp only [List.getElem?_toArray, List.getElem?_cons_succ, List.getElem?_cons_zero] at s0 s1
  clear h hL hW1 n4 n0 n1
  obtain ⟨R, HR⟩ : ∃ R, Hid (Ls.chkS n l = R) := ⟨_, rfl⟩
  simp only [HR.out] at C13
  go_enter Try.func23, Try.ntmps23
  go_wp2_with fail
  rw [HW1.out]
  simp only [hG.out]
  refine C13.out.mono ?_
  rintro e w2 ⟨rfl, hb2⟩
  have B2 := Lib.hid hb2
  clear hb2 C13 s0 s1
  have hs2 : G + 2 ≤ w2.heap.size := by have := B2.out.size; rw [N3.out] at this; exact this
  by_cases hR : R = 0
  · subst hR
    have M0 : Hid (w2.heap[G]? = some (.cells #[.int .i64 n, .slice A l.length c] 24)) := (B2.out.block G (by rw [N3.out]; omega)).trans N0.out
    have M1 : Hid (w2.heap[G + 1]? = some (.cells #[.int .i64 0, .slice none 0 0] 24)) := (B2.out.block (G + 1) (by rw [N3.out]; omega)).trans N1.out
    have H2 := Lib.hid (H1.out.up B2.out)
    have HL2 := Lib.hid (HL1.out.go B2.out)
    have BW : Hid (Below w.heap.size w w2) := HB1.out.trans (B2.out.mono HB1.out.size)
    have z0 := Go.Joins.cell_of_block M0.out 0; have z1 := Go.Joins.cell_of_block M0.out 1
    simp only [List.getElem?_toArray, List.getElem?_cons_succ, List.getElem?_cons_zero] at z0 z1
    have hG2 : G < w2.heap.size := by omega
    obtain ⟨W3, HW3⟩ : ∃ W3, Hid (w2.alloc (.cells #[.int .i64 n, .slice none 0 0] 24) = W3) := ⟨_, rfl⟩
    have HS3 : Hid (WS w2 n L sg ls l 0 none 0 W3) := by
      show WS _ _ _ _ _ _ _ _ _ _
      rw [← HW3.out]
      exact ⟨heap_alloc_new _ _, World.ownsRow_nil _ _ _ _, below_new _ _⟩
    go_wp2
    rw [HW3.out]
    clear z0 z1
    go_loopw [26] (fun i wr => ∃ (k : Nat) (A2 : Option Addr) (c2 : Nat), k ≤ l.length ∧ i = .int .i64 k ∧ Hid (WS w2 n L sg ls l k A2 c2 wr)) (fun i _ => l.length - (RowKit.intOf i).toNat)
    case atStart => exact ⟨0, none, 0, Nat.zero_le _, rfl, HS3.out⟩
    case round =>
      obtain ⟨k, A2, c2, hk, rfl, HS⟩ := hrel
      by_cases hlt : k < l.length
      · obtain ⟨b, off, ⟨u, v, x, y, z, t⟩, rfl, hb, hx, c0, c1, c2', c3, c4, c5⟩ := RL.at_ (k := k) (H2.out.go HS.out.bel) hlt
        dsimp only at c0 c1 c2' c3 c4 c5
        have HX := Lib.hid hx
        have hbw : b < wr.heap.size := Nat.lt_of_lt_of_le hb HS.out.bel.size
        have HWT := Lib.hid (Ls.wh_take L sg ls l k _ HX.out)
        rw [Ls.pick_eq] at HWT
        have HBB : Hid (Below wr.heap.size wr (wr.alloc (.cells #[.int .i64 u, .int .i64 v, .int .i64 x, .int .i64 y, .int .i64 z, .int .i64 t] 62))) := below_new _ _
        have CH := Lib.hid (rhas_any B d L y _ (HL2.out.go (HS.out.bel.trans (HBB.out.mono HS.out.bel.size))) hL64)
        have hlen := Ls.wh_len L sg ls l k
        obtain ⟨m, HM⟩ : ∃ m, Hid ((Ls.wh L sg ls (l.take k)).length = m) := ⟨_, rfl⟩
        have hm : m ≤ 60000 := by rw [← HM.out]; omega
        have hg2 : w2.heap.size < wr.heap.size := lt_of_some HS.out.b
        have hg1 := Go.Joins.cell_of_block HS.out.b 1
        simp only [List.getElem?_toArray, List.getElem?_cons_succ, List.getElem?_cons_zero] at hg1
        obtain ⟨q, HQ⟩ : ∃ q, Hid (hasB L y = q) := ⟨_, rfl⟩
        rw [HQ.out] at CH
        have HQ2 : Hid (L.contains y = q) := HQ.out
        clear hx hlen
        by_cases h0 : L.length = 0
        · have e0 : ((L.length : Int) == 0) = true := by simp [h0]
          have hak : askd L y = true := by have : L = [] := List.eq_nil_of_length_eq_zero h0; simp [askd, this]
          clear h0
          by_cases hs : sg = 0
          · have d0 : (sg == 0) = true := by simp [hs]
            by_cases hx : ls ≤ x
            · have HWE : Hid (Ls.wh L sg ls (l.take (k + 1)) = Ls.wh L sg ls (l.take k) ++ [⟨u, v, x, y, z, t⟩]) := by show _ = _; rw [HWT.out, if_pos (by simp [hak, hs, hx])]
              clear hs
              go_wp2_with (at_builtin; (refine wpList_applL _ rfl (.tmp 56) (.tmp 58) (w2.heap.size + 1) A2 c2 rfl (Ls.wh L sg ls (l.take k)) (by simp [Act.eval]) ((HS.out.own.alloc _).alloc _) (some ⟨wr.heap.size + 1, 0, none⟩) 1 1 [⟨u, v, x, y, z, t⟩] rfl (by simp [Act.eval]) (RL_new2 wr _ ⟨u, v, x, y, z, t⟩) (by rw [HM.out]; omega) (by simp; omega) ?_; intro A6 c6 w6 HO6 HB6 HG6; have hw' : Below wr.heap.size wr ((wr.alloc (.cells #[.int .i64 u, .int .i64 v, .int .i64 x, .int .i64 y, .int .i64 z, .int .i64 t] 62)).alloc (.cells #[.int .i64 u, .int .i64 v, .int .i64 x, .int .i64 y, .int .i64 z, .int .i64 t] 62)) := ((Below.refl _ _).alloc (Nat.le_refl _) _).alloc (by simp) _; have hb6 := (HG6.out.block w2.heap.size (by simp; omega) HS.out.ne).trans ((hw'.block _ hg2).trans HS.out.b); have HP := Lib.hid (HS.out.put HWE.out HO6.out HB6.out hw' hb6); have p1 := Go.Joins.cell_of_block hb6 1; have pf := Go.Joins.unfrozen_of_block hb6 1; simp only [List.getElem?_toArray, List.getElem?_cons_succ, List.getElem?_cons_zero] at p1; have hg6 : w2.heap.size < w6.heap.size := lt_of_some hb6))
              clear HB6 HG6 HO6 c0 c1 c2' c3 c4 c5 hg1 hw' hb6 p1 pf
              go_wp2
              go_roundw
              case rel => exact ⟨k + 1, A6, c6, by omega, by go_num, by have h9 := HP.out; rw [List.length_append] at h9; exact h9⟩
              case measure => simp [RowKit.intOf]; omega
            · have HWE : Hid (Ls.wh L sg ls (l.take (k + 1)) = Ls.wh L sg ls (l.take k)) := by show _ = _; rw [HWT.out, if_neg (by simp [hx]), List.append_nil]
              clear hs
              go_wp2
              go_roundw
              case rel => exact ⟨k + 1, A2, c2, by omega, by go_num, (HS.out.next HWE.out).go HBB.out⟩
              case measure => simp [RowKit.intOf]; omega
          · have d0 : (sg == 0) = false := by simpa using hs
            by_cases hz : z = sg
            · have d1 : (z == sg) = true := by simp [hz]
              by_cases hx : ls ≤ x
              · have HWE : Hid (Ls.wh L sg ls (l.take (k + 1)) = Ls.wh L sg ls (l.take k) ++ [⟨u, v, x, y, z, t⟩]) := by show _ = _; rw [HWT.out, if_pos (by simp [hak, hz, hx])]
                clear hs hz
                go_wp2_with (at_builtin; (refine wpList_applL _ rfl (.tmp 56) (.tmp 58) (w2.heap.size + 1) A2 c2 rfl (Ls.wh L sg ls (l.take k)) (by simp [Act.eval]) ((HS.out.own.alloc _).alloc _) (some ⟨wr.heap.size + 1, 0, none⟩) 1 1 [⟨u, v, x, y, z, t⟩] rfl (by simp [Act.eval]) (RL_new2 wr _ ⟨u, v, x, y, z, t⟩) (by rw [HM.out]; omega) (by simp; omega) ?_; intro A6 c6 w6 HO6 HB6 HG6; have hw' : Below wr.heap.size wr ((wr.alloc (.cells #[.int .i64 u, .int .i64 v, .int .i64 x, .int .i64 y, .int .i64 z, .int .i64 t] 62)).alloc (.cells #[.int .i64 u, .int .i64 v, .int .i64 x, .int .i64 y, .int .i64 z, .int .i64 t] 62)) := ((Below.refl _ _).alloc (Nat.le_refl _) _).alloc (by simp) _; have hb6 := (HG6.out.block w2.heap.size (by simp; omega) HS.out.ne).trans ((hw'.block _ hg2).trans HS.out.b); have HP := Lib.hid (HS.out.put HWE.out HO6.out HB6.out hw' hb6); have p1 := Go.Joins.cell_of_block hb6 1; have pf := Go.Joins.unfrozen_of_block hb6 1; simp only [List.getElem?_toArray, List.getElem?_cons_succ, List.getElem?_cons_zero] at p1; have hg6 : w2.heap.size < w6.heap.size := lt_of_some hb6))
                clear HB6 HG6 HO6 c0 c1 c2' c3 c4 c5 hg1 hw' hb6 p1 pf
                go_wp2
                go_roundw
                case rel => exact ⟨k + 1, A6, c6, by omega, by go_num, by have h9 := HP.out; rw [List.length_append] at h9; exact h9⟩
                case measure => simp [RowKit.intOf]; omega
              · have HWE : Hid (Ls.wh L sg ls (l.take (k + 1)) = Ls.wh L sg ls (l.take k)) := by show _ = _; rw [HWT.out, if_neg (by simp [hx]), List.append_nil]
                clear hs hz
                go_wp2
                go_roundw
                case rel => exact ⟨k + 1, A2, c2, by omega, by go_num, (HS.out.next HWE.out).go HBB.out⟩
                case measure => simp [RowKit.intOf]; omega
            · have d1 : (z == sg) = false := by simpa using hz
              have HWE : Hid (Ls.wh L sg ls (l.take (k + 1)) = Ls.wh L sg ls (l.take k)) := by show _ = _; rw [HWT.out, if_neg (by simp [hs, hz]), List.append_nil]
              clear hs hz
              go_wp2
              go_roundw
              case rel => exact ⟨k + 1, A2, c2, by omega, by go_num, (HS.out.next HWE.out).go HBB.out⟩
              case measure => simp [RowKit.intOf]; omega
        · have e0 : ((L.length : Int) == 0) = false := by have : ¬ (L.length : Int) = 0 := by omega
                                                          simpa using this
          have hak : askd L y = q := by have : ¬ L = [] := fun e => h0 (by rw [e]; rfl)
                                        rw [← HQ2.out]; simp [askd, this]
          cases q with
          | false =>
            have HWE : Hid (Ls.wh L sg ls (l.take (k + 1)) = Ls.wh L sg ls (l.take k)) := by show _ = _; rw [HWT.out, if_neg (by simp [hak]), List.append_nil]
            go_wp2_with fail
            refine CH.out.mono ?_
            rintro e w5 ⟨rfl, rfl⟩
            go_wp2
            go_roundw
            case rel => exact ⟨k + 1, A2, c2, by omega, by go_num, (HS.out.next HWE.out).go HBB.out⟩
            case measure => simp [RowKit.intOf]; omega
          | true =>
            by_cases hs : sg = 0
            · have d0 : (sg == 0) = true := by simp [hs]
              by_cases hx : ls ≤ x
              · have HWE : Hid (Ls.wh L sg ls (l.take (k + 1)) = Ls.wh L sg ls (l.take k) ++ [⟨u, v, x, y, z, t⟩]) := by show _ = _; rw [HWT.out, if_pos (by simp [hak, hs, hx])]
                clear hs
                go_wp2_with fail
                refine CH.out.mono ?_
                rintro e w5 ⟨rfl, rfl⟩
                go_wp2_with (at_builtin; (refine wpList_applL _ rfl (.tmp 56) (.tmp 58) (w2.heap.size + 1) A2 c2 rfl (Ls.wh L sg ls (l.take k)) (by simp [Act.eval]) ((HS.out.own.alloc _).alloc _) (some ⟨wr.heap.size + 1, 0, none⟩) 1 1 [⟨u, v, x, y, z, t⟩] rfl (by simp [Act.eval]) (RL_new2 wr _ ⟨u, v, x, y, z, t⟩) (by rw [HM.out]; omega) (by simp; omega) ?_; intro A6 c6 w6 HO6 HB6 HG6; have hw' : Below wr.heap.size wr ((wr.alloc (.cells #[.int .i64 u, .int .i64 v, .int .i64 x, .int .i64 y, .int .i64 z, .int .i64 t] 62)).alloc (.cells #[.int .i64 u, .int .i64 v, .int .i64 x, .int .i64 y, .int .i64 z, .int .i64 t] 62)) := ((Below.refl _ _).alloc (Nat.le_refl _) _).alloc (by simp) _; have hb6 := (HG6.out.block w2.heap.size (by simp; omega) HS.out.ne).trans ((hw'.block _ hg2).trans HS.out.b); have HP := Lib.hid (HS.out.put HWE.out HO6.out HB6.out hw' hb6); have p1 := Go.Joins.cell_of_block hb6 1; have pf := Go.Joins.unfrozen_of_block hb6 1; simp only [List.getElem?_toArray, List.getElem?_cons_succ, List.getElem?_cons_zero] at p1; have hg6 : w2.heap.size < w6.heap.size := lt_of_some hb6))
                clear HB6 HG6 HO6 c0 c1 c2' c3 c4 c5 hg1 hw' hb6 p1 pf
                go_wp2
                go_roundw
                case rel => exact ⟨k + 1, A6, c6, by omega, by go_num, by have h9 := HP.out; rw [List.length_append] at h9; exact h9⟩
                case measure => simp [RowKit.intOf]; omega
              · have HWE : Hid (Ls.wh L sg ls (l.take (k + 1)) = Ls.wh L sg ls (l.take k)) := by show _ = _; rw [HWT.out, if_neg (by simp [hx]), List.append_nil]
                clear hs
                go_wp2_with fail
                refine CH.out.mono ?_
                rintro e w5 ⟨rfl, rfl⟩
                go_wp2
                go_roundw
                case rel => exact ⟨k + 1, A2, c2, by omega, by go_num, (HS.out.next HWE.out).go HBB.out⟩
                case measure => simp [RowKit.intOf]; omega
            · have d0 : (sg == 0) = false := by simpa using hs
              by_cases hz : z = sg
              · have d1 : (z == sg) = true := by simp [hz]
                by_cases hx : ls ≤ x
                · have HWE : Hid (Ls.wh L sg ls (l.take (k + 1)) = Ls.wh L sg ls (l.take k) ++ [⟨u, v, x, y, z, t⟩]) := by show _ = _; rw [HWT.out, if_pos (by simp [hak, hz, hx])]
                  clear hs hz
                  go_wp2_with fail
                  refine CH.out.mono ?_
                  rintro e w5 ⟨rfl, rfl⟩
                  go_wp2_with (at_builtin; (refine wpList_applL _ rfl (.tmp 56) (.tmp 58) (w2.heap.size + 1) A2 c2 rfl (Ls.wh L sg ls (l.take k)) (by simp [Act.eval]) ((HS.out.own.alloc _).alloc _) (some ⟨wr.heap.size + 1, 0, none⟩) 1 1 [⟨u, v, x, y, z, t⟩] rfl (by simp [Act.eval]) (RL_new2 wr _ ⟨u, v, x, y, z, t⟩) (by rw [HM.out]; omega) (by simp; omega) ?_; intro A6 c6 w6 HO6 HB6 HG6; have hw' : Below wr.heap.size wr ((wr.alloc (.cells #[.int .i64 u, .int .i64 v, .int .i64 x, .int .i64 y, .int .i64 z, .int .i64 t] 62)).alloc (.cells #[.int .i64 u, .int .i64 v, .int .i64 x, .int .i64 y, .int .i64 z, .int .i64 t] 62)) := ((Below.refl _ _).alloc (Nat.le_refl _) _).alloc (by simp) _; have hb6 := (HG6.out.block w2.heap.size (by simp; omega) HS.out.ne).trans ((hw'.block _ hg2).trans HS.out.b); have HP := Lib.hid (HS.out.put HWE.out HO6.out HB6.out hw' hb6); have p1 := Go.Joins.cell_of_block hb6 1; have pf := Go.Joins.unfrozen_of_block hb6 1; simp only [List.getElem?_toArray, List.getElem?_cons_succ, List.getElem?_cons_zero] at p1; have hg6 : w2.heap.size < w6.heap.size := lt_of_some hb6))
                  clear HB6 HG6 HO6 c0 c1 c2' c3 c4 c5 hg1 hw' hb6 p1 pf
                  go_wp2
                  go_roundw
                  case rel => exact ⟨k + 1, A6, c6, by omega, by go_num, by have h9 := HP.out; rw [List.length_append] at h9; exact h9⟩
                  case measure => simp [RowKit.intOf]; omega
                · have HWE : Hid (Ls.wh L sg ls (l.take (k + 1)) = Ls.wh L sg ls (l.take k)) := by show _ = _; rw [HWT.out, if_neg (by simp [hx]), List.append_nil]
                  clear hs hz
                  go_wp2_with fail
                  refine CH.out.mono ?_
                  rintro e w5 ⟨rfl, rfl⟩
                  go_wp2
                  go_roundw
                  case rel => exact ⟨k + 1, A2, c2, by omega, by go_num, (HS.out.next HWE.out).go HBB.out⟩
                  case measure => simp [RowKit.intOf]; omega
              · have d1 : (z == sg) = false := by simpa using hz
                have HWE : Hid (Ls.wh L sg ls (l.take (k + 1)) = Ls.wh L sg ls (l.take k)) := by show _ = _; rw [HWT.out, if_neg (by simp [hs, hz]), List.append_nil]
                clear hs hz
                go_wp2_with fail
                refine CH.out.mono ?_
                rintro e w5 ⟨rfl, rfl⟩
                go_wp2
                go_roundw
                case rel => exact ⟨k + 1, A2, c2, by omega, by go_num, (HS.out.next HWE.out).go HBB.out⟩
                case measure => simp [RowKit.intOf]; omega
      · obtain rfl : k = l.length := by omega
        have b0 := (HS.out.bel.block (G + 1) (by omega)).trans M1.out
        have r0 := Go.Joins.cell_of_block b0 0; have r1 := Go.Joins.cell_of_block b0 1
        have f0 := Go.Joins.unfrozen_of_block b0 0; have f1 := Go.Joins.unfrozen_of_block b0 1
        have z0 := Go.Joins.cell_of_block HS.out.b 0; have z1 := Go.Joins.cell_of_block HS.out.b 1
        simp only [List.getElem?_toArray, List.getElem?_cons_succ, List.getElem?_cons_zero] at z0 z1 r0 r1
        have hg1 : G + 1 < wr.heap.size := lt_of_some b0
        have hg2 : w2.heap.size < wr.heap.size := lt_of_some HS.out.b
        have HB1' := Lib.hid b0
        obtain ⟨m, HM⟩ : ∃ m, Hid ((Ls.wh L sg ls (l.take l.length)).length = m) := ⟨_, rfl⟩
        rw [HM.out] at z1
        clear b0
        go_wp2
        have hblk := setCell_cells (setCell_cells HB1'.out 0 (.int .i64 n)) 1 (.slice A2 m c2)
        have hGw : w.heap.size ≤ G + 1 := by rw [hG.out]; omega
        have hbel : Below w.heap.size w _ := ((BW.out.trans (HS.out.bel.mono BW.out.size)).setCell (p := ⟨G + 1, 0, none⟩) hGw (.int .i64 n)).setCell (p := ⟨G + 1, 1, none⟩) hGw (.slice A2 m c2)
        have hne : (Value.slice A2 (Ls.wh L sg ls (l.take l.length)).length c2).ownBlock ≠ some (G + 1) := fun e => by have := (HS.out.own.lt _ e).1; omega
        have hown := (HS.out.own.kept (w' := wr.setCell ⟨G + 1, 0, none⟩ (.int .i64 n)) set_grown (.inr hne)).kept (w' := (wr.setCell ⟨G + 1, 0, none⟩ (.int .i64 n)).setCell ⟨G + 1, 1, none⟩ (.slice A2 m c2)) set_grown (.inr hne)
        exact ret_state2 (p := 8) (q := 9) Try.results23 rfl (G + 1) rfl _ rfl hblk ⟨n, Ls.wh L sg ls (l.take l.length), A2, c2, by rw [HR.out, HM.out]; rfl, by rw [HR.out, if_pos rfl, List.take_length]; exact ⟨rfl, rfl⟩, RX.of_own hown, hbel⟩
  · have hd : (R != 0) = true := by simpa using hR
    have hd' : (R == 0) = false := by simpa using hR
    have n2 := (B2.out.block (G + 1) (by rw [N3.out]; omega)).trans N1.out
    have r0 := Go.Joins.cell_of_block n2 0; have r1 := Go.Joins.cell_of_block n2 1
    have f0 := Go.Joins.unfrozen_of_block n2 0; have f1 := Go.Joins.unfrozen_of_block n2 1
    simp only [List.getElem?_toArray, List.getElem?_cons_succ, List.getElem?_cons_zero] at r0 r1
    have M2 := Lib.hid n2
    have H2 := Lib.hid hR
    clear n2 hR
    go_wp2
    have hblk := setCell_cells (setCell_cells M2.out 0 (.int .i64 0)) 1 (.slice none 0 0)
    have hbel : Below w.heap.size w _ := ((HB1.out.trans (B2.out.mono HB1.out.size)).setCell (p := ⟨G + 1, 0, none⟩) (by show w.heap.size ≤ G + 1; rw [hG.out]; omega) (.int .i64 0)).setCell (p := ⟨G + 1, 1, none⟩) (by show w.heap.size ≤ G + 1; rw [hG.out]; omega) (.slice none 0 0)
    exact ret_state2 (p := 8) (q := 9) Try.results23 rfl (G + 1) rfl _ rfl hblk ⟨0, [], none, 0, by rw [HR.out]; rfl, by rw [HR.out, if_neg H2.out]; exact ⟨rfl, rfl⟩, RX.nil_ _ _ _ _, hbel⟩
end Go.Proofs.Ytagkpkkbkeefbaa
