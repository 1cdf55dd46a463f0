/-
  Package graph's nodesIn, Induced, Inside.
-/
import Derived.Test.YtioohmhllajifaaGreatHg
import Derived.Test.YtioohmhllajifaaGreatGl
namespace Go.Proofs.YtioohmhllajifaaGreat
open Go.RowKit Go.Lib

/-- the nodes of a graph that are in a list -/
def nin (n : Int) (S : List Int) : List Int := Ns.mee (upto (cut64 n)) S
theorem nodesIn_any (n : Int) (A B : Option Addr) (c d : Nat) (l : List Ed) (S : List Int) (w : World) (h' : RD w B d S) (hS : S.length ≤ 65536) :
    Calls Tryz.prog 36 #[.agg #[.int .i64 n, .slice A l.length c], .slice B S.length d] w (Gives w (nin n S)) := by
  have HD := Lib.hid (h'.alloc (.cells #[.int .i64 n, .slice A l.length c] 28))
  have HB0 : Hid (Below w.heap.size w (w.alloc (.cells #[.int .i64 n, .slice A l.length c] 28))) := (Below.refl _ _).alloc (Nat.le_refl _) _
  have hu : (upto (cut64 n)).length ≤ 65536 := by have := cut64_le n; simp [upto]; omega
  clear h'
  go_enter Tryz.func36, Tryz.ntmps36
  go_wp2_with fail
  refine (range_any n _).mono ?_
  rintro e w1 ⟨A1, c1, rfl, h1, hb1⟩
  have H1 := Lib.hid h1
  have HB1 := Lib.hid hb1
  have HD1 := Lib.hid (HD.out.go hb1)
  clear h1 hb1 HD
  go_wp2_with fail
  refine (meet_any A1 B c1 d (upto (cut64 n)) S _ H1.out HD1.out hu hS).mono ?_
  rintro e w2 ⟨A2, c2, rfl, h2, hb2⟩
  have H2 := Lib.hid h2
  have HB2 := Lib.hid (HB0.out.trans ((HB1.out.trans (hb2.mono HB1.out.size)).mono HB0.out.size))
  clear h2 hb2
  go_wp2
  go_ret
  exact ⟨A2, c2, rfl, H2.out, HB2.out⟩

theorem mem_upto (k : Nat) (z : Int) : z ∈ upto k ↔ 0 ≤ z ∧ z < k := by
  unfold upto
  simp only [List.mem_map, List.mem_range]
  constructor
  · rintro ⟨a, h, rfl⟩; omega
  · rintro ⟨h1, h2⟩; exact ⟨z.toNat, by omega, by omega⟩
theorem hasB_nin (n : Int) (S : List Int) (x : Int) (h0 : 0 ≤ n) (h1 : n ≤ 64) (hx : 0 ≤ x) (hx2 : x < n) : hasB (nin n S) x = hasB S x := by
  rw [Bool.eq_iff_iff, hasB_iff, hasB_iff]
  unfold nin
  rw [Ns.mem_mee, mem_upto, cut64_min n h0]
  constructor
  · exact fun h => h.2
  · exact fun h => ⟨⟨hx, by omega⟩, h⟩
theorem ind_nin (n : Int) (l : List Ed) (S : List Int) (h : chk n l = 0) : l.filter (ins2 (nin n S)) = ind l S := by
  obtain ⟨h0, h1, h2, -⟩ := (chk_zero n l).1 h
  unfold ind
  refine List.filter_congr fun e he => ?_
  have := h2 e he
  unfold ins2
  rw [hasB_nin n S e.1 h0 h1 (by omega) (by omega), hasB_nin n S e.2 h0 h1 (by omega) (by omega)]

/-- the state while edges are gathered out of nil: the graph's box is block g, the result's cell block g4; the row lies at bs or behind it -/
structure PS (w : World) (g g4 bs : Nat) (n : Int) (A : Option Addr) (c m : Nat) (A2 : Option Addr) (c2 : Nat) (ks : List Ed) (wr : World) : Prop where
  bg : wr.heap[g]? = some (.cells #[.int .i64 n, .slice A m c] 28)
  b4 : wr.heap[g4]? = some (.cells #[.int .i64 0, .slice none 0 0] 28)
  own : wr.ownsRow bs 53 2 (.slice A2 ks.length c2) ks.length (ev ks)
  bel : Below w.heap.size w wr
  l4 : w.heap.size ≤ g4
  lg : g < bs
  lb : g4 < bs
section
variable {w : World} {g g4 bs m : Nat} {n : Int} {A A2 : Option Addr} {c c2 : Nat} {ks : List Ed} {wr : World}
theorem PS.lt (h : PS w g g4 bs n A c m A2 c2 ks wr) : g4 < wr.heap.size := lt_of_some h.b4
theorem PS.go (h : PS w g g4 bs n A c m A2 c2 ks wr) {w3 : World} (hb : Below wr.heap.size wr w3) : PS w g g4 bs n A c m A2 c2 ks w3 :=
  ⟨(hb.block _ (lt_of_some h.bg)).trans h.bg, (hb.block _ h.lt).trans h.b4, h.own.kept (row := none) ⟨hb.os, hb.tape, hb.output, hb.size, fun i hi _ => hb.block i hi⟩ (by
    rcases hA : (Value.slice A2 ks.length c2).ownBlock with _ | b
    · exact .inl rfl
    · exact .inr (by simp)), h.bel.trans (hb.mono h.bel.size), h.l4, h.lg, h.lb⟩
theorem PS.push (h : PS w g g4 bs n A c m A2 c2 ks wr) {A3 : Option Addr} {c3 : Nat} {ks' : List Ed} {w3 : World} (ho : w3.ownsRow bs 53 2 (.slice A3 ks'.length c3) ks'.length (ev ks')) (hb : Below bs wr w3) : PS w g g4 bs n A c m A3 c3 ks' w3 :=
  ⟨(hb.block _ h.lg).trans h.bg, (hb.block _ h.lb).trans h.b4, ho, h.bel.trans (hb.mono (by have := h.l4; have := h.lb; omega)), h.l4, h.lg, h.lb⟩
theorem PS.fin (h : PS w g g4 bs n A c m A2 c2 ks wr) (i j : Nat) (x y : Value) : ((wr.setCell ⟨g4, i, none⟩ x).setCell ⟨g4, j, none⟩ y).ownsRow w.heap.size 53 2 (.slice A2 ks.length c2) ks.length (ev ks) ∧ Below w.heap.size w ((wr.setCell ⟨g4, i, none⟩ x).setCell ⟨g4, j, none⟩ y) := by
  have h4 := h.l4
  have hb := h.lb
  have o1 := h.own.kept (w' := wr.setCell ⟨g4, i, none⟩ x) set_grown (.inr fun e => by have := (h.own.lt _ e).1; omega)
  have o2 := o1.kept (w' := (wr.setCell ⟨g4, i, none⟩ x).setCell ⟨g4, j, none⟩ y) set_grown (.inr fun e => by have := (o1.lt _ e).1; omega)
  exact ⟨Go.Joins.ownsRow_le o2 (by omega), (h.bel.setCell h4 _).setCell h4 _⟩
/-- a further base, as long as nothing is owned -/
theorem PS.base (h : PS w g g4 bs n A c m none 0 [] wr) {bs' : Nat} (hb : bs ≤ bs') : PS w g g4 bs' n A c m none 0 [] wr :=
  ⟨h.bg, h.b4, World.ownsRow_nil _ _ _ _, h.bel, h.l4, by have := h.lg; omega, by have := h.lb; omega⟩
end

set_option maxHeartbeats 4000000 in
set_option maxRecDepth 100000 in
theorem gind_any (n : Int) (A B : Option Addr) (c d : Nat) (l : List Ed) (S : List Int) (w : World) (h : RE w.heap.size w A c l) (h' : RD w B d S) (hl : l.length ≤ 65536) (hS : S.length ≤ 65536) :
    Calls Tryz.prog 19 #[.agg #[.int .i64 n, .slice A l.length c], .slice B S.length d] w (GivesG w (if chk n l = 0 then n else 0) (if chk n l = 0 then ind l S else []) (chk n l)) := by
  obtain ⟨X, HX⟩ : ∃ X, Hid (chk n l = X) := ⟨_, rfl⟩
  rw [HX.out]
  have H := Lib.hid h
  have H' := Lib.hid h'
  clear h h'
  have HP0 : Hid (PS w w.heap.size (w.heap.size + 1) (w.heap.size + 2) n A c l.length none 0 [] ((w.alloc (.cells #[.int .i64 n, .slice A l.length c] 28)).alloc (.cells #[.int .i64 0, .slice none 0 0] 28))) :=
    ⟨(Below.heap_alloc _ _ _ (by simp)).trans (heap_alloc_new _ _), by have := heap_alloc_new (w.alloc (.cells #[.int .i64 n, .slice A l.length c] 28)) (.cells #[.int .i64 0, .slice none 0 0] 28); simpa using this, World.ownsRow_nil _ _ _ _, ((Below.refl _ _).alloc (Nat.le_refl _) _).alloc (by simp) _, by omega, by omega, by omega⟩
  by_cases hX : X = 0
  · subst hX
    rw [if_pos rfl, if_pos rfl]
    have HM := Lib.hid (ind_nin n l S HX.out)
    obtain ⟨M, HMM⟩ : ∃ M, Hid (nin n S = M) := ⟨_, rfl⟩
    rw [HMM.out] at HM
    have CM := Lib.hid (fun (W : World) (h : RD W B d S) => nodesIn_any n A B c d l S W h hS)
    rw [HMM.out] at CM
    have HML : M.length ≤ 65536 := by
      rw [← HMM.out]
      have h1 : (nin n S).length ≤ (Ns.norm (upto (cut64 n))).length := List.length_filter_le _ _
      have h2 := Ns.len_norm (upto (cut64 n))
      rw [len_upto] at h2
      have := cut64_le n
      omega
    clear HMM
    go_enter Tryz.func19, Tryz.ntmps19
    go_wp2_with fail
    refine (gcheck_any n A c l _ (H.out.up HP0.out.bel) hl).mono ?_
    rintro e w1 ⟨rfl, hb⟩
    rw [HX.out]
    have HP1 := Lib.hid (HP0.out.go hb)
    have a0 := Go.Joins.cell_of_block HP1.out.bg 0; have a1 := Go.Joins.cell_of_block HP1.out.bg 1; have al := lt_of_some HP1.out.bg
    simp at a0 a1
    clear hb HP0
    go_wp2_with fail
    refine (CM.out _ (H'.out.go HP1.out.bel)).mono ?_
    rintro e w2 ⟨B2, d2, rfl, h2, hb⟩
    have HR2 := Lib.hid h2
    have HP2 := Lib.hid ((HP1.out.go hb).base (bs' := w2.heap.size) (by have := (HP1.out.go hb).lt; omega))
    clear a0 a1 al hb h2
    have a0 := Go.Joins.cell_of_block HP2.out.bg 0; have a1 := Go.Joins.cell_of_block HP2.out.bg 1; have al := lt_of_some HP2.out.bg
    simp at a0 a1
    clear HP1
    go_wp2
    clear a0 a1 al
    go_loopw [8, 23] (fun s i wr => ∃ (k : Nat) (A2 : Option Addr) (c2 : Nat) (ks : List Ed), k ≤ l.length ∧ i = .int .i64 k ∧ s = .slice A2 ks.length c2 ∧ ks.length ≤ k ∧ Hid (ks = (l.take k).filter (ins2 M)) ∧ Hid (Below w2.heap.size w2 wr) ∧ Hid (PS w w.heap.size (w.heap.size + 1) w2.heap.size n A c l.length A2 c2 ks wr)) (fun _ i _ => l.length - (RowKit.intOf i).toNat)
    case atStart => exact ⟨0, none, 0, [], Nat.zero_le _, rfl, rfl, Nat.le_refl _, rfl, Below.refl _ _, HP2.out⟩
    case round =>
      obtain ⟨k, A2, c2, ks, hk, rfl, rfl, hks, HK, HR, HI⟩ := hrel
      by_cases hlt : k < l.length
      · obtain ⟨b, off, x, y, rfl, hb, hx, hc0, hc1⟩ := (H.out.go HI.out.bel).let_ hlt
        have HF := Lib.hid (filtE (ins2 M) l (x, y) k hx)
        clear hx
        have kl := HI.out.lt
        have hbel : Below wr.heap.size wr (wr.alloc (.cells #[.int .i64 x, .int .i64 y] 53)) := (Below.refl _ _).alloc (Nat.le_refl _) _
        have HIa := Lib.hid (HI.out.go hbel)
        have HBa := Lib.hid (HR.out.alloc HR.out.size (.cells #[.int .i64 x, .int .i64 y] 53))
        have HRa := Lib.hid (HR2.out.go HBa.out)
        clear hbel
        obtain ⟨P, HP⟩ : ∃ P, Hid (hasB M x = P) := ⟨_, rfl⟩
        obtain ⟨Q, HQ⟩ : ∃ Q, Hid (hasB M y = Q) := ⟨_, rfl⟩
        have HPQ : Hid (ins2 M (x, y) = (P && Q)) := by show _ = _; unfold ins2; rw [HP.out, HQ.out]
        cases P
        · have HN : Hid (ks = (l.take (k + 1)).filter (ins2 M)) := by show _ = _; rw [HF.out, HPQ.out, if_neg (by simp), List.append_nil]; exact HK.out
          go_wp2_with fail
          refine (has_any B2 d2 M x _ HRa.out HML).mono ?_
          rintro e w3 ⟨rfl, rfl⟩
          rw [HP.out]
          go_wp2
          go_roundw
          case rel => exact ⟨k + 1, A2, c2, ks, by omega, by go_num, rfl, by omega, HN.out, HBa.out, HIa.out⟩
          case measure => simp [RowKit.intOf]; omega
        · cases Q
          · have HN : Hid (ks = (l.take (k + 1)).filter (ins2 M)) := by show _ = _; rw [HF.out, HPQ.out, if_neg (by simp), List.append_nil]; exact HK.out
            go_wp2_with fail
            refine (has_any B2 d2 M x _ HRa.out HML).mono ?_
            rintro e w3 ⟨rfl, rfl⟩
            rw [HP.out]
            go_wp2_with fail
            refine (has_any B2 d2 M y _ HRa.out HML).mono ?_
            rintro e w3 ⟨rfl, rfl⟩
            rw [HQ.out]
            go_wp2
            go_roundw
            case rel => exact ⟨k + 1, A2, c2, ks, by omega, by go_num, rfl, by omega, HN.out, HBa.out, HIa.out⟩
            case measure => simp [RowKit.intOf]; omega
          · have HN : Hid (ks ++ [(x, y)] = (l.take (k + 1)).filter (ins2 M)) := by show _ = _; rw [HF.out, HPQ.out, if_pos (by simp), ← HK.out]
            go_wp2_with fail
            refine (has_any B2 d2 M x _ HRa.out HML).mono ?_
            rintro e w3 ⟨rfl, rfl⟩
            rw [HP.out]
            go_wp2_with fail
            refine (has_any B2 d2 M y _ HRa.out HML).mono ?_
            rintro e w3 ⟨rfl, rfl⟩
            rw [HQ.out]
            go_wp2_with (at_builtin; refine wpList_applE _ rfl (.tmp 37) (.tmp 39) rfl w2.heap.size A2 c2 ks rfl (HIa.out.own.alloc _) (some ⟨(wr.alloc (.cells #[.int .i64 x, .int .i64 y] 53)).heap.size, 0, none⟩) 1 1 [(x, y)] rfl (by simp [Act.eval]) (RE_newB _ _ _) (by omega) (by have := HBa.out.size; simp at this ⊢; omega) ?_; intro A6 c6 w6 HO6 HB6)
            have HB7 := Lib.hid (HBa.out.trans (((Below.refl _ _).alloc HBa.out.size _).trans HB6.out))
            have HI7 := Lib.hid ((HIa.out.go ((Below.refl _ _).alloc (Nat.le_refl _) (.cells #[.int .i64 x, .int .i64 y] 53))).push HO6.out HB6.out)
            clear HO6 HB6
            go_roundw
            case rel => exact ⟨k + 1, A6, c6, ks ++ [(x, y)], by omega, by go_num, by simp, by simp; omega, HN.out, HB7.out, HI7.out⟩
            case measure => simp [RowKit.intOf]; omega
      · have k0 := Go.Joins.cell_of_block HI.out.bg 0; have kg := lt_of_some HI.out.bg
        simp at k0
        have b0 := Go.Joins.cell_of_block HI.out.b4 0; have b1 := Go.Joins.cell_of_block HI.out.b4 1; have d0 := Go.Joins.unfrozen_of_block HI.out.b4 0; have d1 := Go.Joins.unfrozen_of_block HI.out.b4 1
        simp at b0 b1
        have hb4 := (setCell_two (setCell_two HI.out.b4 (v := .int .i64 n)).1 (v := .slice A2 ks.length c2)).2
        have hf0 := Go.Joins.cell_of_block hb4 0; have hf1 := Go.Joins.cell_of_block hb4 1
        simp at hf0 hf1
        have HFin := Lib.hid (HI.out.fin 0 1 (.int .i64 n) (.slice A2 ks.length c2))
        have HR5 : Hid (ks = ind l S) := by show _ = _; rw [HK.out, List.take_of_length_le (by omega)]; exact HM.out
        clear hb4
        go_wp2
        generalize ((wr.setCell ⟨w.heap.size + 1, 0, none⟩ (.int .i64 n)).setCell ⟨w.heap.size + 1, 1, none⟩ (.slice A2 ks.length c2)) = wf at HFin hf0 hf1 ⊢
        rw [← HR5.out]
        exact bodyPost_ret (v := .tuple #[.agg #[.int .i64 n, .slice A2 ks.length c2], .int .i64 0]) (by simp [results, Tryz.results19, go_sem, hf0, hf1]) rfl
          ⟨A2, c2, rfl, HFin.out.1, HFin.out.2⟩
  · rw [if_neg hX, if_neg hX]
    have e1 : (X != 0) = true := by simpa using hX
    clear hX
    go_enter Tryz.func19, Tryz.ntmps19
    go_wp2_with fail
    refine (gcheck_any n A c l _ (H.out.up HP0.out.bel) hl).mono ?_
    rintro e w1 ⟨rfl, hb⟩
    rw [HX.out]
    have HP1 := Lib.hid (HP0.out.go hb)
    clear hb HP0
    have b0 := Go.Joins.cell_of_block HP1.out.b4 0; have b1 := Go.Joins.cell_of_block HP1.out.b4 1; have d0 := Go.Joins.unfrozen_of_block HP1.out.b4 0; have d1 := Go.Joins.unfrozen_of_block HP1.out.b4 1
    simp at b0 b1
    have hb4 := (setCell_two (setCell_two HP1.out.b4 (v := .int .i64 0)).1 (v := .slice none 0 0)).2
    have hf0 := Go.Joins.cell_of_block hb4 0; have hf1 := Go.Joins.cell_of_block hb4 1
    simp at hf0 hf1
    have HW := Lib.hid (HP1.out.fin 0 1 (.int .i64 0) (.slice none 0 0)).2
    clear hb4
    go_wp2
    generalize ((w1.setCell ⟨w.heap.size + 1, 0, none⟩ (.int .i64 0)).setCell ⟨w.heap.size + 1, 1, none⟩ (.slice none 0 0)) = wf at HW hf0 hf1 ⊢
    exact bodyPost_ret (v := .tuple #[.agg #[.int .i64 0, .slice none 0 0], .int .i64 X]) (by simp [results, Tryz.results19, go_sem, hf0, hf1]) rfl
      ⟨none, 0, rfl, World.ownsRow_nil _ _ _ _, HW.out⟩

theorem gins_any (n : Int) (A B : Option Addr) (c d : Nat) (l : List Ed) (S : List Int) (w : World) (h : RE w.heap.size w A c l) (h' : RD w B d S) (hl : l.length ≤ 65536) (hS : S.length ≤ 65536) :
    Calls Tryz.prog 24 #[.agg #[.int .i64 n, .slice A l.length c], .slice B S.length d] w fun e w' => e = .returned (.int .i64 ((insL n l S).length : Nat)) ∧ Below w.heap.size w w' := by
  have HG0 := Lib.hid (Gb.start (n := n) h)
  have HD0 := Lib.hid (h'.alloc (.cells #[.int .i64 n, .slice A l.length c] 28))
  have C := Lib.hid (gind_any n A B c d l S _ HG0.out.re HD0.out hl hS)
  obtain ⟨X, HX⟩ : ∃ X, Hid (insL n l S = X) := ⟨_, rfl⟩
  rw [show (if chk n l = 0 then ind l S else []) = X from HX.out] at C
  rw [HX.out]
  obtain ⟨m, Hm⟩ : ∃ m, Hid ((if chk n l = 0 then n else 0) = m) := ⟨_, rfl⟩
  rw [Hm.out] at C
  clear h h' HX Hm
  go_enter Tryz.func24, Tryz.ntmps24
  go_wp2_with fail
  refine C.out.mono ?_
  rintro e w1 ⟨A1, c1, rfl, h1, hb⟩
  have HG := Lib.hid (HG0.out.go hb)
  clear hb h1 HG0 C
  go_wp2
  go_ret
  exact ⟨rfl, HG.out.bel.alloc HG.out.bel.size _⟩
end Go.Proofs.YtioohmhllajifaaGreat
