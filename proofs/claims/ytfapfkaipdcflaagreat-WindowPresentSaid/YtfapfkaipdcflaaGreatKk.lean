/-
  All links of a node cut.
-/
import Derived.Test.YtfapfkaipdcflaaGreatKj
namespace Go.Proofs.YtfapfkaipdcflaaGreat.K
open Go.RowKit Go.Lib

namespace Ls
open Go.Proofs.YtfapfkaipdcflaaGreat.Ls
/-- where the loop of leave stands: k links have been looked at -/
def lft (u : Int) (l : List Lk) (k : Nat) : List Lk := ((l.take k).filter fun x => !has u x) ++ l.drop k
def lat (u : Int) (l : List Lk) (k : Nat) : Nat := ((l.take k).filter fun x => !has u x).length
def lct (u t : Int) (l : List Lk) (k : Nat) : List Ev := ((l.take k).filter (has u)).map fun x => cutE x t
theorem take_at {α : Type} (l : List α) (k : Nat) (a : α) (h : l[k]? = some a) : l.take (k + 1) = l.take k ++ [a] := by
  obtain ⟨hk, rfl⟩ := List.getElem?_eq_some_iff.1 h
  rw [List.take_succ_eq_append_getElem hk]
theorem drop_at2 {α : Type} (l : List α) (k : Nat) (a : α) (h : l[k]? = some a) : l.drop k = a :: l.drop (k + 1) := by
  obtain ⟨hk, rfl⟩ := List.getElem?_eq_some_iff.1 h
  exact List.drop_eq_getElem_cons hk
theorem lft_at (u : Int) (l : List Lk) (k : Nat) : (lft u l k)[lat u l k]? = l[k]? := by
  unfold lft lat
  rw [List.getElem?_append_right (Nat.le_refl _), Nat.sub_self, List.getElem?_drop]
  rfl
theorem lft_len (u : Int) (l : List Lk) (k : Nat) : (lft u l k).length = lat u l k + (l.length - k) := by
  unfold lft lat
  rw [List.length_append, List.length_drop]
theorem lft_keep (u : Int) (l : List Lk) (k : Nat) (a : Lk) (h : l[k]? = some a) (hu : has u a = false) : lft u l (k + 1) = lft u l k ∧ lat u l (k + 1) = lat u l k + 1 ∧ ∀ t, lct u t l (k + 1) = lct u t l k := by
  unfold lft lat lct
  rw [take_at l k a h, drop_at2 l k a h]
  simp [hu]
theorem lft_cut (u : Int) (l : List Lk) (k : Nat) (a : Lk) (h : l[k]? = some a) (hu : has u a = true) : lft u l (k + 1) = (lft u l k).eraseIdx (lat u l k) ∧ lat u l (k + 1) = lat u l k ∧ ∀ t, lct u t l (k + 1) = lct u t l k ++ [cutE a t] := by
  unfold lft lat lct
  rw [take_at l k a h, drop_at2 l k a h]
  refine ⟨?_, ?_, ?_⟩
  · rw [List.eraseIdx_append_of_length_le (Nat.le_refl _), Nat.sub_self]
    simp [hu]
  · simp [hu]
  · intro t; simp [hu]
theorem lft_end (u : Int) (l : List Lk) (k : Nat) (hk : l.length ≤ k) (e : Ev) (h3 : e.kind = 3) (hu : e.u = u) : lft u l k = nextL l e ∧ lct u e.time l k = chg l e := by
  unfold lft lct nextL chg
  rw [List.take_of_length_le hk, List.drop_eq_nil_of_le hk, if_neg (by omega), if_neg (by omega)]
  have : hit e = has u := by funext x; simp [hit, h3, hu]
  rw [this]
  simp
theorem lat_lct (u t : Int) (l : List Lk) (k : Nat) (hk : k ≤ l.length) : lat u l k + (lct u t l k).length = k := by
  unfold lat lct
  rw [List.length_map]
  have key : ∀ m : List Lk, (m.filter fun x => !has u x).length + (m.filter (has u)).length = m.length := by
    intro m
    induction m with
    | nil => rfl
    | cons a m ih => cases h : has u a <;> simp [h] <;> omega
  rw [key, List.length_take, Nat.min_eq_left hk]
end Ls
def lenV : Value → Nat
  | .slice _ n _ => n
  | _ => 0
theorem Two.own {P g : Nat} {w w' : World} {base e sz n : Nat} {v : Value} {xs : List Value} (h : w.ownsRow base e sz v n xs) (T : Two P g w w') (hP : P < base) (hg : g < base) : w'.ownsRow base e sz v n xs := by
  refine ⟨h.1, ?_⟩
  rcases h.2 with hn | ⟨q, cap, cur, rfl, hb, hgg, rest⟩
  · exact .inl hn
  · exact .inr ⟨q, cap, cur, rfl, hb, (T.block q (lt_of_some hgg) (by omega) (by omega)).trans hgg, rest⟩
set_option maxHeartbeats 8000000 in
set_option maxRecDepth 100000 in
theorem leave_any (base P : Nat) (A : Option Addr) (c : Nat) (l : List Ls.Lk) (t u v x y z : Int) (w : World) (h : PS base P A c l w) (hl : l.length ≤ 65536) (hbase : base ≤ w.heap.size) :
    Calls Tryz.prog 73 #[.pointer (some ⟨P, 0, none⟩), .agg #[.int .i64 3, .int .i64 t, .int .i64 u, .int .i64 v, .int .i64 x, .int .i64 y, .int .i64 z]] w (AppP base P l ⟨3, t, u, v, x, y, z⟩ w) := by
  have HEND := Lib.hid (Ls.lft_end u l l.length (Nat.le_refl _) ⟨3, t, u, v, x, y, z⟩ rfl rfl)
  obtain ⟨W1, HW1⟩ : ∃ W1, Hid (W1 = w.alloc (.cells #[.int .i64 3, .int .i64 t, .int .i64 u, .int .i64 v, .int .i64 x, .int .i64 y, .int .i64 z] 57)) := ⟨_, rfl⟩
  have HB1 : Hid (Below w.heap.size w W1) := by show Below _ _ _; rw [HW1.out]; exact below_new _ _
  have hs1 : Hid (W1.heap.size = w.heap.size + 1) := by show _ = _; rw [HW1.out]; simp
  have H1 := Lib.hid (h.go HB1.out)
  have hbl : Hid (W1.heap[w.heap.size]? = some (.cells #[.int .i64 3, .int .i64 t, .int .i64 u, .int .i64 v, .int .i64 x, .int .i64 y, .int .i64 z] 57)) := by show _ = _; rw [HW1.out]; exact heap_alloc_new _ _
  have HB := Lib.hid hbase
  have hPw := h.lP
  clear hbase
  by_cases hl0 : l.length = 0
  · obtain rfl : l = [] := List.eq_nil_of_length_eq_zero hl0
    have q0 := H1.out.c0
    have hPl : P < W1.heap.size := H1.out.lP
    clear h hl0
    go_enter Tryz.func73, Tryz.ntmps73
    go_wp2
    rw [← HW1.out]
    simp only [List.length_nil] at q0
    go_loop [5, 6] (fun o i => o = .slice none 0 0 ∧ i = .int .i64 0) (fun _ _ => 0)
    case atStart => exact ⟨rfl, rfl⟩
    case round =>
      obtain ⟨rfl, rfl⟩ := hrel
      go_wp2
      go_ret
      refine ⟨A, none, c, 0, ?_, World.ownsRow_nil _ _ _ _, H1.out, below_le HB1.out HB.out⟩
      rfl
  · obtain ⟨g, rfl, hG⟩ := H1.out.g (by omega)
    have hgw : g < w.heap.size := by
      obtain ⟨g', e, hG'⟩ := h.g (by omega)
      injection e with e
      injection e with e
      subst e
      exact hG'.lg
    have HG := Lib.hid hG
    clear hG h hl0
    go_enter Tryz.func73, Tryz.ntmps73
    go_wp2
    rw [← HW1.out]
    obtain ⟨G, HGG⟩ : ∃ G, Hid (G = w.heap.size) := ⟨_, rfl⟩
    rw [← HGG.out] at hbl hs1 hPw hgw HB ⊢
    go_loopw [5, 6] (fun o i wr => ∃ (k : Nat) (A2 : Option Addr) (c2 : Nat), k ≤ l.length ∧ i = .int .i64 (Ls.lat u l k) ∧ o = .slice A2 (Ls.lct u t l k).length c2 ∧
      Hid (wr.ownsRow (G + 1) 57 7 (.slice A2 (Ls.lct u t l k).length c2) (Ls.lct u t l k).length (cl Ev.cells (Ls.lct u t l k))) ∧ Hid (PSg base P g c (Ls.lft u l k) wr) ∧ Hid (Two P g W1 wr)) (fun o i _ => l.length - ((RowKit.intOf i).toNat + lenV o))
    case atStart =>
      exact ⟨0, none, 0, Nat.zero_le _, rfl, rfl, World.ownsRow_nil _ _ _ _, HG.out, Two.refl _ _ _⟩
    case round =>
      obtain ⟨k, A2, c2, hk, rfl, rfl, HO, HPG, HT⟩ := hrel
      by_cases hlt : k < l.length
      · obtain ⟨i, HI⟩ : ∃ i, Hid (Ls.lat u l k = i) := ⟨_, rfl⟩
        have HLL : Hid (i + (Ls.lct u t l k).length = k ∧ (Ls.lct u t l k).length ≤ 65536) := by
          have h1 := Ls.lat_lct u t l k hk
          rw [HI.out] at h1
          show _ ∧ _
          omega
        have hln := Ls.lft_len u l k
        rw [HI.out] at hln
        obtain ⟨n, HN⟩ : ∃ n, Hid ((Ls.lft u l k).length = n) := ⟨_, rfl⟩
        rw [HN.out] at hln
        have hin : i < n := by omega
        have hn64 : n ≤ 65536 := by have := HLL.out; omega
        obtain ⟨bb, off, ⟨u1, v1, x1, y1, z1, t1⟩, ead, hb, hx, c0, c1, c2, c3, c4, c5⟩ := RL.at_ (k := i) HPG.out.rl (by rw [HN.out]; exact hin)
        injection ead with ead
        injection ead with ee1 ee2
        subst ee1; subst ee2
        dsimp only at c0 c1 c2 c3 c4 c5
        simp only [Nat.zero_add] at c0 c1 c2 c3 c4 c5
        have hk2 : Hid (l[k]? = some ⟨u1, v1, x1, y1, z1, t1⟩) := by show _ = _; rw [← Ls.lft_at u l k, HI.out]; exact hx
        have C71 : Hid (∀ (q : Nat), Calls Tryz.prog 91 #[.pointer (some ⟨P, 0, none⟩), .int .i64 i, .int .i64 t] (wr.drewN q) (RemP base P g c (Ls.lft u l k) i u1 v1 t (wr.drewN q))) :=
          fun q => remove_any base P g c (Ls.lft u l k) i u1 v1 x1 y1 z1 t1 t (wr.drewN q) (HPG.out.go (below_drewN _ _)) hx (by rw [HN.out]; exact hn64)
        have q0 := HPG.out.c0
        rw [HN.out] at q0
        have hPl : P < wr.heap.size := HPG.out.lP
        have hGW : G < wr.heap.size := by have := HT.out.size; rw [hs1.out] at this; omega
        have hblr := (HT.out.block G (by rw [hs1.out]; omega) (by omega) (by omega)).trans hbl.out
        have hec := Go.Joins.cell_of_block hblr
        have e1 := hec 1; have e2 := hec 2
        simp only [List.getElem?_toArray, List.getElem?_cons_succ, List.getElem?_cons_zero] at e1 e2
        clear hec hblr hx hln
        rw [HI.out]
        have hd0 : decide (i < n) = true := by simpa using hin
        by_cases hu1 : u1 = u
        · have hd1 : (u1 != u) = false := by simp [hu1]
          have HU1 := Lib.hid hu1
          clear hu1
          go_wp2
          go_quiet (fail)
          have HC3 := Lib.hid (Ls.lft_cut u l k ⟨u1, v1, x1, y1, z1, t1⟩ hk2.out (by simp [Ls.has, HU1.out]))
          clear c0 c1 c2 c3 c4 c5
          go_wp2_with fail
          refine (C71.out nq).mono ?_
          rintro e w3 ⟨rfl, h3, t3⟩
          have H3 := Lib.hid h3
          have T3 := Lib.hid t3
          have HO3 := Lib.hid (Two.own (w := wr) HO.out ((Two.of_below (below_drewN wr nq)).trans t3) (by omega) (by omega))
          have hG3 : Hid (G + 1 ≤ w3.heap.size) := Nat.le_trans hGW t3.size
          clear h3 t3 C71
          go_wp2_with (at_builtin; (refine wpList_applV _ rfl (.tmp 40) (.tmp 46) (G + 1) A2 c2 rfl (Ls.lct u t l k) (by simp [Act.eval]) (HO3.out.alloc _) (some ⟨w3.heap.size, 0, none⟩) 1 1 [⟨2, t, u1, v1, 0, 0, 0⟩] rfl (by simp [Act.eval]) (RV_new1 w3 ⟨2, t, u1, v1, 0, 0, 0⟩) (by have := HLL.out; omega) (by have := hG3.out; simp; omega) ?_; intro A6 c6 w6 HO6 HB6 _))
          have HB7 : Hid (Below (G + 1) w3 w6) := ((Below.refl _ _).alloc hG3.out _).trans HB6.out
          have H6 := Lib.hid (H3.out.goB HB7.out (by omega) (by omega))
          have T6 : Hid (Two P g W1 w6) := (HT.out.trans ((Two.of_below (below_drewN wr nq)).trans T3.out)).new HB7.out (by rw [hs1.out]; omega)
          clear HB6 HB7
          go_wp2
          go_roundw
          case rel =>
            refine ⟨k + 1, A6, c6, hlt, by rw [HC3.out.2.1, HI.out], ?_, ?_, ?_, T6.out⟩
            · rw [HC3.out.2.2 t, List.length_append]; rfl
            · show World.ownsRow _ _ _ _ _ _ _; rw [HC3.out.2.2 t]; exact HO6.out
            · show PSg _ _ _ _ _ _; rw [HC3.out.1, HI.out]; exact H6.out
          case measure =>
            have := HLL.out
            simp [RowKit.intOf, lenV]
            omega
        · have hd1 : (u1 != u) = true := by simpa using hu1
          by_cases hv1 : v1 = u
          · have hd2 : (v1 != u) = false := by simp [hv1]
            have HV1 := Lib.hid hv1
            clear hv1
            go_wp2
            go_quiet (fail)
            have HC3 := Lib.hid (Ls.lft_cut u l k ⟨u1, v1, x1, y1, z1, t1⟩ hk2.out (by simp [Ls.has, HV1.out]))
            clear c0 c1 c2 c3 c4 c5
            go_wp2_with fail
            refine (C71.out nq).mono ?_
            rintro e w3 ⟨rfl, h3, t3⟩
            have H3 := Lib.hid h3
            have T3 := Lib.hid t3
            have HO3 := Lib.hid (Two.own (w := wr) HO.out ((Two.of_below (below_drewN wr nq)).trans t3) (by omega) (by omega))
            have hG3 : Hid (G + 1 ≤ w3.heap.size) := Nat.le_trans hGW t3.size
            clear h3 t3 C71
            go_wp2_with (at_builtin; (refine wpList_applV _ rfl (.tmp 40) (.tmp 46) (G + 1) A2 c2 rfl (Ls.lct u t l k) (by simp [Act.eval]) (HO3.out.alloc _) (some ⟨w3.heap.size, 0, none⟩) 1 1 [⟨2, t, u1, v1, 0, 0, 0⟩] rfl (by simp [Act.eval]) (RV_new1 w3 ⟨2, t, u1, v1, 0, 0, 0⟩) (by have := HLL.out; omega) (by have := hG3.out; simp; omega) ?_; intro A6 c6 w6 HO6 HB6 _))
            have HB7 : Hid (Below (G + 1) w3 w6) := ((Below.refl _ _).alloc hG3.out _).trans HB6.out
            have H6 := Lib.hid (H3.out.goB HB7.out (by omega) (by omega))
            have T6 : Hid (Two P g W1 w6) := (HT.out.trans ((Two.of_below (below_drewN wr nq)).trans T3.out)).new HB7.out (by rw [hs1.out]; omega)
            clear HB6 HB7
            go_wp2
            go_roundw
            case rel =>
              refine ⟨k + 1, A6, c6, hlt, by rw [HC3.out.2.1, HI.out], ?_, ?_, ?_, T6.out⟩
              · rw [HC3.out.2.2 t, List.length_append]; rfl
              · show World.ownsRow _ _ _ _ _ _ _; rw [HC3.out.2.2 t]; exact HO6.out
              · show PSg _ _ _ _ _ _; rw [HC3.out.1, HI.out]; exact H6.out
            case measure =>
              have := HLL.out
              simp [RowKit.intOf, lenV]
              omega
          · have hd2 : (v1 != u) = true := by simpa using hv1
            have HC3 := Lib.hid (Ls.lft_keep u l k ⟨u1, v1, x1, y1, z1, t1⟩ hk2.out (by simp [Ls.has, hu1, hv1]))
            clear hu1 hv1 C71
            go_wp2
            go_quiet (fail)
            clear c0 c1 c2 c3 c4 c5
            go_wp2
            go_roundw
            case rel =>
              refine ⟨k + 1, A2, c2, hlt, by rw [HC3.out.2.1, HI.out]; go_num, by rw [HC3.out.2.2 t], ?_, ?_, HT.out.trans (Two.of_below (below_drewN wr nq))⟩
              · show World.ownsRow _ _ _ _ _ _ _; rw [HC3.out.2.2 t]; exact own_up HO.out (below_drewN wr nq)
              · show PSg _ _ _ _ _ _; rw [HC3.out.1]; exact HPG.out.go (below_drewN wr nq)
            case measure =>
              have := HLL.out
              simp [RowKit.intOf, lenV]
              omega
      · obtain rfl : k = l.length := by omega
        have hln := Ls.lft_len u l l.length
        obtain ⟨i, HI⟩ : ∃ i, Hid (Ls.lat u l l.length = i) := ⟨_, rfl⟩
        rw [HI.out] at hln
        have hln2 : (Ls.lft u l l.length).length = i := by omega
        have q0 := HPG.out.c0
        rw [hln2] at q0
        have hPl : P < wr.heap.size := HPG.out.lP
        have HL2 := Lib.hid hln2
        clear hln hln2
        rw [HI.out]
        have hi64 : i ≤ 65536 := by have := Ls.lat_lct u t l l.length (Nat.le_refl _); rw [HI.out] at this; omega
        obtain ⟨m, HM⟩ : ∃ m, Hid ((Ls.lct u t l l.length).length = m) := ⟨_, rfl⟩
        rw [HM.out]
        go_wp2
        go_ret
        obtain ⟨h1, h2⟩ := HEND.out
        refine ⟨some ⟨g, 0, none⟩, A2, c, c2, by rw [← h2, HM.out]; rfl, ?_, ?_, ?_⟩
        · rw [← h2]; exact Go.Joins.ownsRow_le HO.out (by have := HB.out; omega)
        · rw [← h1]; exact HPG.out.ps
        · have hBw : base ≤ w.heap.size := by have := HB.out; rw [HGG.out] at this; exact this
          exact (below_le HB1.out hBw).trans (HT.out.below HG.out.hP HG.out.hg (Nat.le_trans hBw HB1.out.size))
end Go.Proofs.YtfapfkaipdcflaaGreat.K
