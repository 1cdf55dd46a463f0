/-
  The reference's Induced and Inside.
-/
import Derived.Test.YtioohmhllajifaaGreatGi
namespace Go.Proofs.YtioohmhllajifaaGreat
open Go.RowKit Go.Lib

/-- the state while a graph is made in a local variable (block g7), the result's cell being block g4 -/
structure IS (w : World) (g4 g7 : Nat) (n : Int) (A2 : Option Addr) (c2 : Nat) (ks : List Ed) (wr : World) : Prop where
  b4 : wr.heap[g4]? = some (.cells #[.int .i64 0, .slice none 0 0] 28)
  b7 : wr.heap[g7]? = some (.cells #[.int .i64 n, .slice A2 ks.length c2] 28)
  own : wr.ownsRow (g7 + 1) 53 2 (.slice A2 ks.length c2) ks.length (ev ks)
  bel : Below w.heap.size w wr
  l4 : w.heap.size ≤ g4
  l7 : g4 < g7
section
variable {w : World} {g4 g7 : Nat} {n : Int} {A2 : Option Addr} {c2 : Nat} {ks : List Ed} {wr : World}
theorem IS.lt (h : IS w g4 g7 n A2 c2 ks wr) : g7 < wr.heap.size := lt_of_some h.b7
theorem IS.alloc (h : IS w g4 g7 n A2 c2 ks wr) (o : Obj) : IS w g4 g7 n A2 c2 ks (wr.alloc o) :=
  ⟨(Below.heap_alloc wr o _ (lt_of_some h.b4)).trans h.b4, (Below.heap_alloc wr o _ h.lt).trans h.b7, h.own.alloc o, h.bel.alloc h.bel.size o, h.l4, h.l7⟩
theorem IS.c1 (h : IS w g4 g7 n A2 c2 ks wr) : wr.cell? ⟨g7, 1, none⟩ = some (.slice A2 ks.length c2) := Go.Joins.cell_of_block h.b7 1
theorem IS.c0 (h : IS w g4 g7 n A2 c2 ks wr) : wr.cell? ⟨g7, 0, none⟩ = some (.int .i64 n) := Go.Joins.cell_of_block h.b7 0
theorem IS.push {A3 : Option Addr} {c3 : Nat} {ks' : List Ed} {w3 : World} (h : IS w g4 g7 n A2 c2 ks wr) (ho : w3.ownsRow (g7 + 1) 53 2 (.slice A3 ks'.length c3) ks'.length (ev ks')) (hb : Below (g7 + 1) wr w3) :
    IS w g4 g7 n A3 c3 ks' (w3.setCell ⟨g7, 1, none⟩ (.slice A3 ks'.length c3)) := by
  have h4 := h.l4
  have h7 := h.l7
  have b7 : w3.heap[g7]? = some (.cells #[.int .i64 n, .slice A2 ks.length c2] 28) := (hb.block g7 (by omega)).trans h.b7
  have hw : Below w.heap.size w w3 := h.bel.trans ⟨hb.os, hb.tape, hb.output, hb.size, fun k hk => hb.block k (by omega)⟩
  refine ⟨(setCell_only _ (by omega)).trans ((hb.block _ (by omega)).trans h.b4), (setCell_two b7).2, ho.kept set_grown (.inr fun e => by have := (ho.lt _ e).1; omega), hw.setCell (by show w.heap.size ≤ g7; omega) _, h4, h7⟩
/-- behind the result's stores -/
theorem IS.fin (h : IS w g4 g7 n A2 c2 ks wr) (i j : Nat) (x y : Value) : ((wr.setCell ⟨g4, i, none⟩ x).setCell ⟨g4, j, none⟩ y).ownsRow (g4 + 1) 53 2 (.slice A2 ks.length c2) ks.length (ev ks) ∧ Below w.heap.size w ((wr.setCell ⟨g4, i, none⟩ x).setCell ⟨g4, j, none⟩ y) := by
  have h4 := h.l4
  have h7 := h.l7
  have o1 := h.own.kept (w' := wr.setCell ⟨g4, i, none⟩ x) set_grown (.inr fun e => by have := (h.own.lt _ e).1; omega)
  have o2 := o1.kept (w' := (wr.setCell ⟨g4, i, none⟩ x).setCell ⟨g4, j, none⟩ y) set_grown (.inr fun e => by have := (o1.lt _ e).1; omega)
  exact ⟨Go.Joins.ownsRow_le o2 (by omega), (h.bel.setCell h4 _).setCell h4 _⟩
end

def ins2 (S : List Int) (e : Ed) : Bool := hasB S e.1 && hasB S e.2
def ind (l : List Ed) (S : List Int) : List Ed := l.filter (ins2 S)
theorem filtE (p : Ed → Bool) (l : List Ed) (y : Ed) (k : Nat) (h : l[k]? = some y) : (l.take (k + 1)).filter p = (l.take k).filter p ++ (if p y then [y] else []) := by
  rw [take_succ_e l y k h, List.filter_append]; cases hp : p y <;> simp [hp]
/-- what a function that makes a graph answers: the graph and the error -/
def GivesG (w : World) (n : Int) (l : List Ed) (err : Int) (e : Ending) (w' : World) : Prop :=
  ∃ A c, e = .returned (.tuple #[.agg #[.int .i64 n, .slice A l.length c], .int .i64 err]) ∧ w'.ownsRow w.heap.size 53 2 (.slice A l.length c) l.length (ev l) ∧ Below w.heap.size w w'

set_option maxHeartbeats 4000000 in
set_option maxRecDepth 100000 in
theorem rind_any (n : Int) (A B : Option Addr) (c d : Nat) (l : List Ed) (S : List Int) (w : World) (h : RE w.heap.size w A c l) (h' : RD w B d S) (hl : l.length ≤ 65536) (hS : S.length ≤ 65536) :
    Calls Tryz.prog 20 #[.agg #[.int .i64 n, .slice A l.length c], .slice B S.length d] w (GivesG w (if chk n l = 0 then n else 0) (if chk n l = 0 then ind l S else []) (chk n l)) := by
  obtain ⟨X, HX⟩ : ∃ X, Hid (chk n l = X) := ⟨_, rfl⟩
  rw [HX.out]
  have H := Lib.hid h
  have H' := Lib.hid h'
  clear h h'
  have hB2 : Below w.heap.size w ((w.alloc (.cells #[.int .i64 n, .slice A l.length c] 28)).alloc (.cells #[.int .i64 0, .slice none 0 0] 28)) := ((Below.refl _ _).alloc (Nat.le_refl _) _).alloc (by simp) _
  by_cases hX : X = 0
  · subst hX
    rw [if_pos rfl, if_pos rfl]
    go_enter Tryz.func20, Tryz.ntmps20
    go_wp2_with fail
    refine (check_any n A c l _ (H.out.up hB2) hl).mono ?_
    rintro e w1 ⟨rfl, hb⟩
    rw [HX.out]
    have HB1 := Lib.hid (hB2.trans (hb.mono hB2.size))
    have q1 : w1.heap[w.heap.size]? = some (.cells #[.int .i64 n, .slice A l.length c] 28) := (hb.block _ (by simp; omega)).trans ((Below.heap_alloc _ _ _ (by simp)).trans (heap_alloc_new w _))
    have q2 : w1.heap[w.heap.size + 1]? = some (.cells #[.int .i64 0, .slice none 0 0] 28) := (hb.block _ (by simp)).trans (by have := heap_alloc_new (w.alloc (.cells #[.int .i64 n, .slice A l.length c] 28)) (.cells #[.int .i64 0, .slice none 0 0] 28); simpa using this)
    have hs1 : w.heap.size + 1 < w1.heap.size := lt_of_some q2
    have hs0 : w.heap.size < w1.heap.size := by omega
    have c0 := Go.Joins.cell_of_block q1 0; have c1 := Go.Joins.cell_of_block q1 1
    simp at c0 c1
    have HI0 : Hid (IS w (w.heap.size + 1) w1.heap.size n none 0 [] (w1.alloc (.cells #[.int .i64 n, .slice none 0 0] 28))) :=
      ⟨(Below.heap_alloc _ _ _ hs1).trans q2, heap_alloc_new _ _, World.ownsRow_nil _ _ _ _, HB1.out.alloc HB1.out.size _, by omega, hs1⟩
    clear hb q1 q2 hB2
    go_wp2
    clear c0 c1
    go_loopw [22] (fun i wr => ∃ (k : Nat) (A2 : Option Addr) (c2 : Nat) (ks : List Ed), k ≤ l.length ∧ i = .int .i64 k ∧ ks.length ≤ k ∧ Hid (ks = (l.take k).filter (ins2 S)) ∧ Hid (IS w (w.heap.size + 1) w1.heap.size n A2 c2 ks wr)) (fun i _ => l.length - (RowKit.intOf i).toNat)
    case atStart => exact ⟨0, none, 0, [], Nat.zero_le _, rfl, Nat.le_refl _, rfl, HI0.out⟩
    case round =>
      obtain ⟨k, A2, c2, ks, hk, rfl, hks, HK, HI⟩ := hrel
      by_cases hlt : k < l.length
      · obtain ⟨b, off, x, y, rfl, hb, hx, hc0, hc1⟩ := (H.out.go HI.out.bel).let_ hlt
        have HF := Lib.hid (filtE (ins2 S) l (x, y) k hx)
        clear hx
        have k1 := HI.out.c1; have kl := HI.out.lt
        have HIa := Lib.hid (HI.out.alloc (.cells #[.int .i64 x, .int .i64 y] 53))
        have HS := Lib.hid (H'.out.go HIa.out.bel)
        obtain ⟨P, HP⟩ : ∃ P, Hid (hasB S x = P) := ⟨_, rfl⟩
        obtain ⟨Q, HQ⟩ : ∃ Q, Hid (hasB S y = Q) := ⟨_, rfl⟩
        have HPQ : Hid (ins2 S (x, y) = (P && Q)) := by show _ = _; unfold ins2; rw [HP.out, HQ.out]
        cases P
        · have HN : Hid (ks = (l.take (k + 1)).filter (ins2 S)) := by show _ = _; rw [HF.out, HPQ.out, if_neg (by simp), List.append_nil]; exact HK.out
          go_wp2_with fail
          refine (rhas_any B d S x _ HS.out hS).mono ?_
          rintro e w2 ⟨rfl, rfl⟩
          rw [HP.out]
          go_wp2
          go_roundw
          case rel => exact ⟨k + 1, A2, c2, ks, by omega, by go_num, by omega, HN.out, HIa.out⟩
          case measure => simp [RowKit.intOf]; omega
        · cases Q
          · have HN : Hid (ks = (l.take (k + 1)).filter (ins2 S)) := by show _ = _; rw [HF.out, HPQ.out, if_neg (by simp), List.append_nil]; exact HK.out
            go_wp2_with fail
            refine (rhas_any B d S x _ HS.out hS).mono ?_
            rintro e w2 ⟨rfl, rfl⟩
            rw [HP.out]
            go_wp2_with fail
            refine (rhas_any B d S y _ HS.out hS).mono ?_
            rintro e w2 ⟨rfl, rfl⟩
            rw [HQ.out]
            go_wp2
            go_roundw
            case rel => exact ⟨k + 1, A2, c2, ks, by omega, by go_num, by omega, HN.out, HIa.out⟩
            case measure => simp [RowKit.intOf]; omega
          · have HN : Hid (ks ++ [(x, y)] = (l.take (k + 1)).filter (ins2 S)) := by show _ = _; rw [HF.out, HPQ.out, if_pos (by simp), ← HK.out]
            go_wp2_with fail
            refine (rhas_any B d S x _ HS.out hS).mono ?_
            rintro e w2 ⟨rfl, rfl⟩
            rw [HP.out]
            go_wp2_with fail
            refine (rhas_any B d S y _ HS.out hS).mono ?_
            rintro e w2 ⟨rfl, rfl⟩
            rw [HQ.out]
            go_wp2_with (at_builtin; refine wpList_applE _ rfl (.tmp 37) (.tmp 39) rfl (w1.heap.size + 1) A2 c2 ks (by simp [Act.eval]) (HIa.out.own.alloc _) (some ⟨(wr.alloc (.cells #[.int .i64 x, .int .i64 y] 53)).heap.size, 0, none⟩) 1 1 [(x, y)] rfl (by simp [Act.eval]) (RE_newB _ _ _) (by omega) (by simp; omega) ?_; intro A6 c6 w6 HO6 HB6; have HB7 : Hid (Below (w1.heap.size + 1) (wr.alloc (.cells #[.int .i64 x, .int .i64 y] 53)) w6) := (((Below.refl _ _).alloc (by simp; omega) _).trans HB6.out); have f0 : w6.heap[w1.heap.size]? = _ := (HB7.out.block _ (by omega)).trans HIa.out.b7; have f1 := Go.Joins.cell_of_block f0 1; have f2 := Go.Joins.unfrozen_of_block f0 1; have HFF := Lib.hid (HIa.out.push HO6.out HB7.out); clear f0)
            go_roundw
            case rel => exact ⟨k + 1, A6, c6, ks ++ [(x, y)], by omega, by go_num, by simp; omega, HN.out, by show IS _ _ _ _ _ _ _ _; have h := HFF.out; rw [List.length_append, List.length_singleton] at h; exact h⟩
            case measure => simp [RowKit.intOf]; omega
      · have k0 := HI.out.c0; have k1 := HI.out.c1
        have b0 := Go.Joins.cell_of_block HI.out.b4 0; have b1 := Go.Joins.cell_of_block HI.out.b4 1; have d0 := Go.Joins.unfrozen_of_block HI.out.b4 0; have d1 := Go.Joins.unfrozen_of_block HI.out.b4 1
        simp at b0 b1
        have hb4 := (setCell_two (setCell_two HI.out.b4 (v := .int .i64 n)).1 (v := .slice A2 ks.length c2)).2
        have hf0 := Go.Joins.cell_of_block hb4 0; have hf1 := Go.Joins.cell_of_block hb4 1
        simp at hf0 hf1
        have HFin := Lib.hid (HI.out.fin 0 1 (.int .i64 n) (.slice A2 ks.length c2))
        have HR : Hid (ks = ind l S) := by show _ = _; rw [HK.out, List.take_of_length_le (by omega)]; rfl
        go_wp2
        generalize ((wr.setCell ⟨w.heap.size + 1, 0, none⟩ (.int .i64 n)).setCell ⟨w.heap.size + 1, 1, none⟩ (.slice A2 ks.length c2)) = wf at HFin hf0 hf1 ⊢
        rw [← HR.out]
        exact bodyPost_ret (v := .tuple #[.agg #[.int .i64 n, .slice A2 ks.length c2], .int .i64 0]) (by simp [results, Tryz.results20, go_sem, hf0, hf1]) rfl
          ⟨A2, c2, rfl, Go.Joins.ownsRow_le HFin.out.1 (by omega), HFin.out.2⟩
  · rw [if_neg hX, if_neg hX]
    have e1 : (X != 0) = true := by simpa using hX
    clear hX
    go_enter Tryz.func20, Tryz.ntmps20
    go_wp2_with fail
    refine (check_any n A c l _ (H.out.up hB2) hl).mono ?_
    rintro e w1 ⟨rfl, hb⟩
    rw [HX.out]
    have HB1 := Lib.hid (hB2.trans (hb.mono hB2.size))
    have q2 : w1.heap[w.heap.size + 1]? = some (.cells #[.int .i64 0, .slice none 0 0] 28) := (hb.block _ (by simp)).trans (by have := heap_alloc_new (w.alloc (.cells #[.int .i64 n, .slice A l.length c] 28)) (.cells #[.int .i64 0, .slice none 0 0] 28); simpa using this)
    have b0 := Go.Joins.cell_of_block q2 0; have b1 := Go.Joins.cell_of_block q2 1; have d0 := Go.Joins.unfrozen_of_block q2 0; have d1 := Go.Joins.unfrozen_of_block q2 1
    simp at b0 b1
    have hb4 := (setCell_two (setCell_two q2 (v := .int .i64 0)).1 (v := .slice none 0 0)).2
    have hf0 := Go.Joins.cell_of_block hb4 0; have hf1 := Go.Joins.cell_of_block hb4 1
    simp at hf0 hf1
    have HW := Lib.hid ((HB1.out.setCell (p := ⟨w.heap.size + 1, 0, none⟩) (by simp) (.int .i64 0)).setCell (p := ⟨w.heap.size + 1, 1, none⟩) (by simp) (.slice none 0 0))
    clear hb q2 hB2 hb4
    go_wp2
    generalize ((w1.setCell ⟨w.heap.size + 1, 0, none⟩ (.int .i64 0)).setCell ⟨w.heap.size + 1, 1, none⟩ (.slice none 0 0)) = wf at HW hf0 hf1 ⊢
    exact bodyPost_ret (v := .tuple #[.agg #[.int .i64 0, .slice none 0 0], .int .i64 X]) (by simp [results, Tryz.results20, go_sem, hf0, hf1]) rfl
      ⟨none, 0, rfl, World.ownsRow_nil _ _ _ _, HW.out⟩
end Go.Proofs.YtioohmhllajifaaGreat
