/-
  Where of package links.
-/
import Derived.Test.YtagkpkkbkeefbaaKt
namespace Go.Proofs.Ytagkpkkbkeefbaa
open Go.RowKit Go.Lib

/-- a state and an error that are returned -/
theorem ret_state2 {fn : Func} {R : Ending → World → Prop} {a : Act} {w : World} {p q : Nat} (hres : fn.results = #[.cell p 24, .tmp q]) (hd : a.defers = []) (g : Nat) (hp : a.tmps.getD p undef = .pointer (some ⟨g, 0, none⟩)) (x : Value) (hq : a.tmps.getD q undef = x)
    {v0 v1 : Value} (hb : w.heap[g]? = some (.cells #[v0, v1] 24 (0, 0))) (h : R (.returned (.tuple #[.agg #[v0, v1], x])) w) : bodyPost Try.prog fn R .ret a w := by
  have hc := Go.Joins.cell_of_block hb
  have y0 := hc 0; have y1 := hc 1
  simp only [List.getElem?_toArray, List.getElem?_cons_succ, List.getElem?_cons_zero] at y0 y1
  have hp' : (a.tmps[p]?).getD undef = .pointer (some ⟨g, 0, none⟩) := by simpa using hp
  have hq' : (a.tmps[q]?).getD undef = x := by simpa using hq
  refine bodyPost_ret (v := .tuple #[.agg #[v0, v1], x]) ?_ hd h
  clear hp hq h hd hb hc
  simp [results, hres, go_sem, hp', hq', y0, y1]
/-- what Where answers -/
def WhereP (n : Int) (l : List Ls.Lk) (L : List Int) (sg ls : Int) (w : World) (en : Ending) (w' : World) : Prop :=
  ∃ (n' : Int) (l' : List Ls.Lk) (A' : Option Addr) (c' : Nat), en = .returned (.tuple #[.agg #[.int .i64 n', .slice A' l'.length c'], .int .i64 (Ls.chkS n l)]) ∧
    (if Ls.chkS n l = 0 then n' = n ∧ l' = Ls.wh L sg ls l else n' = 0 ∧ l' = []) ∧ RL w'.heap.size w' A' c' l' ∧ Below w.heap.size w w'
namespace Ls
theorem wh_take (L : List Int) (sg ls : Int) (l : List Lk) (k : Nat) (a : Lk) (h : l[k]? = some a) : wh L sg ls (l.take (k + 1)) = wh L sg ls (l.take k) ++ if pick L sg ls a = true then [a] else [] := by
  unfold wh
  rw [take_at l k a h, List.filter_append]
  congr 1
  cases hp : pick L sg ls a <;> simp [hp]
theorem wh_len (L : List Int) (sg ls : Int) (l : List Lk) (k : Nat) : (wh L sg ls (l.take k)).length ≤ k :=
  Nat.le_trans (List.length_filter_le _ _) (by rw [List.length_take]; omega)
theorem pick_eq (L : List Int) (sg ls u v x y z t : Int) : pick L sg ls ⟨u, v, x, y, z, t⟩ = (askd L y && (decide (sg = 0) || decide (z = sg)) && decide (ls ≤ x)) := rfl
theorem label_range {n : Int} {x : Lk} (h : chkLk n x = 0) : 0 ≤ x.label ∧ x.label < 16 := by
  have h1 := (chkLk_parts h).2.2.2.1
  unfold attrB at h1
  simp at h1
  omega
end Ls
theorem RL_new2 (w : World) (o : Obj) (e : Ls.Lk) : RL ((w.alloc o).alloc (.cells #[.int .i64 e.u, .int .i64 e.v, .int .i64 e.weight, .int .i64 e.label, .int .i64 e.sign, .int .i64 e.time] 62)).heap.size ((w.alloc o).alloc (.cells #[.int .i64 e.u, .int .i64 e.v, .int .i64 e.weight, .int .i64 e.label, .int .i64 e.sign, .int .i64 e.time] 62)) (some ⟨w.heap.size + 1, 0, none⟩) 1 [e] := by
  have := RX_new encL (w.alloc o) [e] 62
  rwa [show (w.alloc o).heap.size = w.heap.size + 1 by simp] at this
set_option maxHeartbeats 8000000 in
set_option maxRecDepth 100000 in
theorem where_any (n : Int) (A B : Option Addr) (c d : Nat) (l : List Ls.Lk) (L : List Int) (sg ls : Int) (w : World) (h : RL w.heap.size w A c l) (hL : RD w B d L) (hl : l.length ≤ 60000) (hL64 : L.length ≤ 65536) :
    Calls Try.prog 22 #[.agg #[.int .i64 n, .slice A l.length c], .slice B L.length d, .int .i64 sg, .int .i64 ls] w (WhereP n l L sg ls w) := by
  obtain ⟨W1, hW1⟩ : ∃ W1, ((w.alloc (.cells #[.int .i64 n, .slice A l.length c] 24)).alloc (.cells #[.int .i64 0, .slice none 0 0] 24)) = W1 := ⟨_, rfl⟩
  obtain ⟨n0, n1, n3, n4⟩ := new_two w (.cells #[.int .i64 n, .slice A l.length c] 24) (.cells #[.int .i64 0, .slice none 0 0] 24)
  rw [hW1] at n0 n1 n3 n4
  obtain ⟨G, hG⟩ : ∃ G, Hid (w.heap.size = G) := ⟨_, rfl⟩
  have HW1 := Lib.hid hW1
  have HB1 := Lib.hid n4
  have H1 := Lib.hid (h.up n4)
  have HL1 := Lib.hid (hL.go n4)
  rw [hG.out] at n0 n1 n3
  have N0 := Lib.hid n0; have N1 := Lib.hid n1; have N3 := Lib.hid n3
  have C13 := Lib.hid (lcheck_any n A c l W1 H1.out (by omega))
  have s0 := Go.Joins.cell_of_block n0 0; have s1 := Go.Joins.cell_of_block n0 1
  simp only [List.getElem?_toArray, List.getElem?_cons_succ, List.getElem?_cons_zero] at s0 s1
  clear h hL hW1 n4 n0 n1
  obtain ⟨R, HR⟩ : ∃ R, Hid (Ls.chkS n l = R) := ⟨_, rfl⟩
  simp only [HR.out] at C13
  go_enter Try.func22, Try.ntmps22
  go_wp2_with fail
  rw [HW1.out]
  simp only [hG.out]
  refine C13.out.mono ?_
  rintro e w2 ⟨rfl, hb2⟩
  have B2 := Lib.hid hb2
  clear hb2 C13 s0 s1
  by_cases hR : R = 0
  · subst hR
    have HV := Lib.hid ((Ls.chkS_zero n l).1 HR.out)
    have C43 := Lib.hid (labels_any B d L w2 (HL1.out.go B2.out) hL64)
    have hs2 : G + 2 ≤ w2.heap.size := by have := B2.out.size; rw [N3.out] at this; exact this
    go_wp2_with fail
    refine C43.out.mono ?_
    rintro e w3 ⟨rfl, hb3⟩
    have B3 := Lib.hid hb3
    have hs3 : w2.heap.size ≤ w3.heap.size := hb3.size
    obtain ⟨W4, hW4⟩ : ∃ W4, Hid (w3.alloc (.cells #[.bool (askd L 0), .bool (askd L 1), .bool (askd L 2), .bool (askd L 3), .bool (askd L 4), .bool (askd L 5), .bool (askd L 6), .bool (askd L 7), .bool (askd L 8), .bool (askd L 9), .bool (askd L 10), .bool (askd L 11), .bool (askd L 12), .bool (askd L 13), .bool (askd L 14), .bool (askd L 15)] 82) = W4) := ⟨_, rfl⟩
    have B4 : Hid (Below w2.heap.size w2 W4) := by show Below _ _ _; rw [← hW4.out]; exact hb3.trans ((below_new _ _).mono hs3)
    have HLB : Hid (W4.heap[w3.heap.size]? = some (.cells #[.bool (askd L 0), .bool (askd L 1), .bool (askd L 2), .bool (askd L 3), .bool (askd L 4), .bool (askd L 5), .bool (askd L 6), .bool (askd L 7), .bool (askd L 8), .bool (askd L 9), .bool (askd L 10), .bool (askd L 11), .bool (askd L 12), .bool (askd L 13), .bool (askd L 14), .bool (askd L 15)] 82)) := by show _ = _; rw [← hW4.out]; exact heap_alloc_new _ _
    have M0 : Hid (W4.heap[G]? = some (.cells #[.int .i64 n, .slice A l.length c] 24)) := (B4.out.block G (by omega)).trans ((B2.out.block G (by rw [N3.out]; omega)).trans N0.out)
    have M1 : Hid (W4.heap[G + 1]? = some (.cells #[.int .i64 0, .slice none 0 0] 24)) := (B4.out.block (G + 1) (by omega)).trans ((B2.out.block (G + 1) (by rw [N3.out]; omega)).trans N1.out)
    have H4 := Lib.hid ((H1.out.up B2.out).up B4.out)
    have BW : Hid (Below w.heap.size w W4) := HB1.out.trans ((B2.out.trans (B4.out.mono B2.out.size)).mono HB1.out.size)
    obtain ⟨BL, hBL⟩ : ∃ BL, Hid (w3.heap.size = BL) := ⟨_, rfl⟩
    rw [hBL.out] at HLB
    have s0' := Go.Joins.cell_of_block ((B3.out.block G (by omega)).trans ((B2.out.block G (by rw [N3.out]; omega)).trans N0.out)) 1
    simp only [List.getElem?_toArray, List.getElem?_cons_succ, List.getElem?_cons_zero] at s0'
    have hGw3 : G < w3.heap.size := by omega
    have hlW : Hid (BL < W4.heap.size) := lt_of_some HLB.out
    have hGW : Hid (G + 1 < W4.heap.size) := lt_of_some M1.out
    clear hb3 C43
    go_wp2
    rw [hW4.out]
    simp only [hBL.out]
    go_loopw [12, 26] (fun o i wr => ∃ (k : Nat) (A2 : Option Addr) (c2 : Nat), k ≤ l.length ∧ i = .int .i64 k ∧ o = .slice A2 (Ls.wh L sg ls (l.take k)).length c2 ∧
      Hid (wr.ownsRow W4.heap.size 62 6 (.slice A2 (Ls.wh L sg ls (l.take k)).length c2) (Ls.wh L sg ls (l.take k)).length (cl Ls.Lk.cells (Ls.wh L sg ls (l.take k)))) ∧ Hid (Below W4.heap.size W4 wr)) (fun _ i _ => l.length - (RowKit.intOf i).toNat)
    case atStart => exact ⟨0, none, 0, Nat.zero_le _, rfl, rfl, World.ownsRow_nil _ _ _ _, Below.refl _ _⟩
    case round =>
      obtain ⟨k, A2, c2, hk, rfl, rfl, HO, HB⟩ := hrel
      by_cases hlt : k < l.length
      · obtain ⟨b, off, ⟨u, v, x, y, z, t⟩, rfl, hb, hx, c0, c1, c2', c3, c4, c5⟩ := RL.at_ (k := k) (H4.out.go HB.out) hlt
        dsimp only at c0 c1 c2' c3 c4 c5
        have HX := Lib.hid hx
        have hbw : b < wr.heap.size := Nat.lt_of_lt_of_le hb HB.out.size
        have hlab := Ls.label_range (HV.out.2.2.2 _ (List.mem_of_getElem? hx))
        dsimp only at hlab
        obtain ⟨hy0, hy16⟩ := hlab
        obtain ⟨yn, rfl⟩ : ∃ yn : Nat, y = yn := ⟨y.toNat, by omega⟩
        have hlbl : wr.cell? ⟨BL, yn, none⟩ = some (.bool (askd L yn)) := by
          have hcl := Go.Joins.cell_of_block ((HB.out.block BL hlW.out).trans HLB.out) yn
          rw [hcl]
          have : yn = 0 ∨ yn = 1 ∨ yn = 2 ∨ yn = 3 ∨ yn = 4 ∨ yn = 5 ∨ yn = 6 ∨ yn = 7 ∨ yn = 8 ∨ yn = 9 ∨ yn = 10 ∨ yn = 11 ∨ yn = 12 ∨ yn = 13 ∨ yn = 14 ∨ yn = 15 := by omega
          rcases this with h | h | h | h | h | h | h | h | h | h | h | h | h | h | h | h <;> subst h <;> rfl
        have hblw : BL < wr.heap.size := Nat.lt_of_lt_of_le hlW.out HB.out.size
        have HWT := Lib.hid (Ls.wh_take L sg ls l k _ HX.out)
        obtain ⟨q, HQ⟩ : ∃ q, Hid (askd L yn = q) := ⟨_, rfl⟩
        have HPE : Hid (Ls.pick L sg ls ⟨u, v, x, yn, z, t⟩ = (q && (decide (sg = 0) || decide (z = sg)) && decide (ls ≤ x))) := by show _ = _; rw [Ls.pick_eq, HQ.out]
        rw [HQ.out] at hlbl
        have hlen := Ls.wh_len L sg ls l k
        obtain ⟨m, HM⟩ : ∃ m, Hid ((Ls.wh L sg ls (l.take k)).length = m) := ⟨_, rfl⟩
        have hm : m ≤ 60000 := by rw [← HM.out]; omega
        have hW : Hid (W4.heap.size ≤ wr.heap.size) := HB.out.size
        clear hx hlen
        by_cases hp : (q && (decide (sg = 0) || decide (z = sg)) && decide (ls ≤ x)) = true
        · have HWE : Hid (Ls.wh L sg ls (l.take (k + 1)) = Ls.wh L sg ls (l.take k) ++ [⟨u, v, x, yn, z, t⟩]) := by show _ = _; rw [HWT.out, HPE.out, if_pos hp]
          simp only [Bool.and_eq_true, Bool.or_eq_true, decide_eq_true_eq] at hp
          obtain ⟨⟨rfl, hp2⟩, hp3⟩ := hp
          have hor : (sg = 0) ∨ (sg ≠ 0 ∧ sg = z) := by omega
          rcases hor with hs | ⟨hs, hsz⟩
          · have d0 : (sg == 0) = true := by simp [hs]
            clear hp2
            subst hs
            go_wp2_with (at_builtin; (refine wpList_applL _ rfl (.tmp 50) (.tmp 52) W4.heap.size A2 c2 rfl (Ls.wh L 0 ls (l.take k)) (by simp [Act.eval]) ((HO.out.alloc _).alloc _) (some ⟨wr.heap.size + 1, 0, none⟩) 1 1 [⟨u, v, x, yn, z, t⟩] rfl (by simp [Act.eval]) (RL_new2 wr _ ⟨u, v, x, yn, z, t⟩) (by rw [HM.out]; omega) (by have := hW.out; simp; omega) ?_; intro A6 c6 w6 HO6 HB6 HG6))
            have HB7 : Hid (Below W4.heap.size W4 w6) := HB.out.trans (((((Below.refl _ _).alloc hW.out _).alloc (by have := hW.out; simp; omega) _)).trans HB6.out)
            clear HB6 HG6 c0 c1 c2' c3 c4 c5
            go_wp2
            go_roundw
            case rel => exact ⟨k + 1, A6, c6, by omega, by go_num, by rw [HWE.out, List.length_append]; rfl, by show World.ownsRow _ _ _ _ _ _ _; rw [HWE.out]; exact HO6.out, HB7.out⟩
            case measure => simp [RowKit.intOf]; omega
          · have d0 : (sg == 0) = false := by simpa using hs
            have d1 : (sg == z) = true := by simp [hsz]
            clear hp2
            subst hsz
            go_wp2_with (at_builtin; (refine wpList_applL _ rfl (.tmp 50) (.tmp 52) W4.heap.size A2 c2 rfl (Ls.wh L sg ls (l.take k)) (by simp [Act.eval]) ((HO.out.alloc _).alloc _) (some ⟨wr.heap.size + 1, 0, none⟩) 1 1 [⟨u, v, x, yn, sg, t⟩] rfl (by simp [Act.eval]) (RL_new2 wr _ ⟨u, v, x, yn, sg, t⟩) (by rw [HM.out]; omega) (by have := hW.out; simp; omega) ?_; intro A6 c6 w6 HO6 HB6 HG6))
            have HB7 : Hid (Below W4.heap.size W4 w6) := HB.out.trans (((((Below.refl _ _).alloc hW.out _).alloc (by have := hW.out; simp; omega) _)).trans HB6.out)
            clear HB6 HG6 c0 c1 c2' c3 c4 c5
            go_wp2
            go_roundw
            case rel => exact ⟨k + 1, A6, c6, by omega, by go_num, by rw [HWE.out, List.length_append]; rfl, by show World.ownsRow _ _ _ _ _ _ _; rw [HWE.out]; exact HO6.out, HB7.out⟩
            case measure => simp [RowKit.intOf]; omega
        · have HWE : Hid (Ls.wh L sg ls (l.take (k + 1)) = Ls.wh L sg ls (l.take k)) := by show _ = _; rw [HWT.out, HPE.out, if_neg hp, List.append_nil]
          have hcase : q = false ∨ (q = true ∧ sg ≠ 0 ∧ sg ≠ z) ∨ (q = true ∧ sg = 0 ∧ x < ls) ∨ (q = true ∧ sg ≠ 0 ∧ sg = z ∧ x < ls) := by
            cases q with
            | false => exact .inl rfl
            | true =>
              simp at hp
              by_cases h0 : sg = 0
              · exact .inr (.inr (.inl ⟨rfl, h0, by have := hp (.inl h0); omega⟩))
              · by_cases h1 : sg = z
                · exact .inr (.inr (.inr ⟨rfl, h0, h1, by have := hp (.inr h1.symm); omega⟩))
                · exact .inr (.inl ⟨rfl, h0, h1⟩)
          clear hp
          rcases hcase with rfl | ⟨rfl, hs, hsz⟩ | ⟨rfl, hs, hlx⟩ | ⟨rfl, hs, hsz, hlx⟩
          · skip
            go_wp2
            go_roundw
            case rel => exact ⟨k + 1, A2, c2, by omega, by go_num, by rw [HWE.out], by show World.ownsRow _ _ _ _ _ _ _; rw [HWE.out]; exact own_up HO.out (below_new _ _), HB.out.trans ((below_new _ _).mono HB.out.size)⟩
            case measure => simp [RowKit.intOf]; omega
          · have d0 : (sg == 0) = false := by simpa using hs
            have d1 : (sg == z) = false := by simpa using hsz
            clear hs hsz
            go_wp2
            go_roundw
            case rel => exact ⟨k + 1, A2, c2, by omega, by go_num, by rw [HWE.out], by show World.ownsRow _ _ _ _ _ _ _; rw [HWE.out]; exact own_up HO.out (below_new _ _), HB.out.trans ((below_new _ _).mono HB.out.size)⟩
            case measure => simp [RowKit.intOf]; omega
          · have d0 : (sg == 0) = true := by simp [hs]
            subst hs
            go_wp2
            go_roundw
            case rel => exact ⟨k + 1, A2, c2, by omega, by go_num, by rw [HWE.out], by show World.ownsRow _ _ _ _ _ _ _; rw [HWE.out]; exact own_up HO.out (below_new _ _), HB.out.trans ((below_new _ _).mono HB.out.size)⟩
            case measure => simp [RowKit.intOf]; omega
          · have d0 : (sg == 0) = false := by simpa using hs
            have d1 : (sg == z) = true := by simp [hsz]
            subst hsz
            go_wp2
            go_roundw
            case rel => exact ⟨k + 1, A2, c2, by omega, by go_num, by rw [HWE.out], by show World.ownsRow _ _ _ _ _ _ _; rw [HWE.out]; exact own_up HO.out (below_new _ _), HB.out.trans ((below_new _ _).mono HB.out.size)⟩
            case measure => simp [RowKit.intOf]; omega
      · obtain rfl : k = l.length := by omega
        have b0 := (HB.out.block G (by have := hGW.out; omega)).trans M0.out
        have b1 := (HB.out.block (G + 1) hGW.out).trans M1.out
        have z0 := Go.Joins.cell_of_block b0 0
        have r0 := Go.Joins.cell_of_block b1 0; have r1 := Go.Joins.cell_of_block b1 1
        have f0 := Go.Joins.unfrozen_of_block b1 0; have f1 := Go.Joins.unfrozen_of_block b1 1
        simp only [List.getElem?_toArray, List.getElem?_cons_succ, List.getElem?_cons_zero] at z0 r0 r1
        have hg1 : G + 1 < wr.heap.size := lt_of_some b1
        have hg0 : G < wr.heap.size := lt_of_some b0
        have HB1' := Lib.hid b1
        obtain ⟨m, HM⟩ : ∃ m, Hid ((Ls.wh L sg ls (l.take l.length)).length = m) := ⟨_, rfl⟩
        rw [HM.out]
        clear b0 b1
        go_wp2
        have hblk := setCell_cells (setCell_cells HB1'.out 0 (.int .i64 n)) 1 (.slice A2 m c2)
        have hGw : w.heap.size ≤ G + 1 := by rw [hG.out]; omega
        have hbel : Below w.heap.size w _ := ((BW.out.trans (HB.out.mono BW.out.size)).setCell (p := ⟨G + 1, 0, none⟩) hGw (.int .i64 n)).setCell (p := ⟨G + 1, 1, none⟩) hGw (.slice A2 m c2)
        have hne : (Value.slice A2 (Ls.wh L sg ls (l.take l.length)).length c2).ownBlock ≠ some (G + 1) := fun e => by have := (HO.out.lt _ e).1; have := hGW.out; omega
        have hown := (HO.out.kept (w' := wr.setCell ⟨G + 1, 0, none⟩ (.int .i64 n)) set_grown (.inr hne)).kept (w' := (wr.setCell ⟨G + 1, 0, none⟩ (.int .i64 n)).setCell ⟨G + 1, 1, none⟩ (.slice A2 m c2)) set_grown (.inr hne)
        exact ret_state2 (p := 8) (q := 9) Try.results22 rfl (G + 1) rfl _ rfl hblk ⟨n, Ls.wh L sg ls (l.take l.length), A2, c2, by rw [HR.out, HM.out]; rfl, by rw [HR.out, if_pos rfl, List.take_length]; exact ⟨rfl, rfl⟩, RX.of_own hown, hbel⟩
  · have hd : (R != 0) = true := by simpa using hR
    have hd' : (R == 0) = false := by simpa using hR
    have n2 := (B2.out.block (G + 1) (by rw [N3.out]; omega)).trans N1.out
    have r0 := Go.Joins.cell_of_block n2 0; have r1 := Go.Joins.cell_of_block n2 1
    have f0 := Go.Joins.unfrozen_of_block n2 0; have f1 := Go.Joins.unfrozen_of_block n2 1
    simp only [List.getElem?_toArray, List.getElem?_cons_succ, List.getElem?_cons_zero] at r0 r1
    have M2 := Lib.hid n2
    have H2 := Lib.hid hR
    clear n2 hR
    go_wp2
    have hblk := setCell_cells (setCell_cells M2.out 0 (.int .i64 0)) 1 (.slice none 0 0)
    have hbel : Below w.heap.size w _ := ((HB1.out.trans (B2.out.mono HB1.out.size)).setCell (p := ⟨G + 1, 0, none⟩) (by show w.heap.size ≤ G + 1; rw [hG.out]; omega) (.int .i64 0)).setCell (p := ⟨G + 1, 1, none⟩) (by show w.heap.size ≤ G + 1; rw [hG.out]; omega) (.slice none 0 0)
    exact ret_state2 (p := 8) (q := 9) Try.results22 rfl (G + 1) rfl _ rfl hblk ⟨0, [], none, 0, by rw [HR.out]; rfl, by rw [HR.out, if_neg H2.out]; exact ⟨rfl, rfl⟩, RX.nil_ _ _ _ _, hbel⟩
end Go.Proofs.Ytagkpkkbkeefbaa
