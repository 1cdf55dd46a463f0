/-
  The reference's Of.
-/
import Derived.Test.YtioohmhllajifaaGl
namespace Go.Proofs.Ytioohmhllajifaa
open Go.RowKit Go.Lib

theorem IS.own_below {w : World} {g4 g7 : Nat} {n : Int} {A2 : Option Addr} {c2 : Nat} {ks : List Ed} {wr w3 : World} (h : IS w g4 g7 n A2 c2 ks wr) (hb : Below wr.heap.size wr w3) : w3.ownsRow (g7 + 1) 52 2 (.slice A2 ks.length c2) ks.length (ev ks) :=
  own_kept (g := g7) h.own ⟨hb.os, hb.tape, hb.output, hb.size, fun i hi _ => hb.block i hi⟩ (by omega)

set_option maxHeartbeats 4000000 in
set_option maxRecDepth 100000 in
theorem rofg_any (n : Int) (A : Option Addr) (c : Nat) (l : List Ed) (w : World) (h : RE w.heap.size w A c l) (hl : l.length ≤ 65536) :
    Calls Try.prog 16 #[.int .i64 n, .slice A l.length c] w (GivesR w (if ofe n l = 0 then n else 0) (if ofe n l = 0 then ofl l else []) (ofe n l)) := by
  have b4 : (w.alloc (.cells #[.int .i64 0, .slice none 0 0] 24)).heap[w.heap.size]? = some (.cells #[.int .i64 0, .slice none 0 0] 24) := heap_alloc_new _ _
  have HB0 : Hid (Below w.heap.size w (w.alloc (.cells #[.int .i64 0, .slice none 0 0] 24))) := (Below.refl _ _).alloc (Nat.le_refl _) _
  have H := Lib.hid h
  clear h
  by_cases hbad : n < 0 ∨ 64 < n
  · have HR := Lib.hid (show ofe n l = 1 by unfold ofe; rw [if_pos hbad])
    rw [HR.out, if_neg (by decide), if_neg (by decide)]
    clear b4 HR
    rcases (by omega : n < 0 ∨ (0 ≤ n ∧ 64 < n)) with h1 | ⟨h1, h2⟩
    all_goals
      clear hbad
      go_enter Try.func16, Try.ntmps16
      go_wp2
      exact bodyPost_ret (v := .tuple #[.agg #[.int .i64 0, .slice none 0 0], .int .i64 1]) (by simp [results, Try.results16, go_sem]) rfl
        ⟨none, 0, rfl, RE.nil_ _ _ _ _, HB0.out⟩
  · have h0 : 0 ≤ n := by omega
    have h64 : n ≤ 64 := by omega
    have HOF : Hid (ofe n l = if allE n l = true then 0 else 6) := by show _ = _; unfold ofe; rw [if_neg hbad]
    clear hbad b4
    obtain ⟨m, Hm⟩ : ∃ m, Hid ((if ofe n l = 0 then n else 0) = m) := ⟨_, rfl⟩
    obtain ⟨L, HL⟩ : ∃ L, Hid ((if ofe n l = 0 then ofl l else []) = L) := ⟨_, rfl⟩
    obtain ⟨r, Hr⟩ : ∃ r, Hid (ofe n l = r) := ⟨_, rfl⟩
    rw [Hm.out, HL.out, Hr.out]
    have HI0 : Hid (IS w w.heap.size (w.heap.size + 1) n none 0 [] ((w.alloc (.cells #[.int .i64 0, .slice none 0 0] 24)).alloc (.cells #[.int .i64 n, .slice none 0 0] 24))) :=
      ⟨(Below.heap_alloc _ _ _ (by simp)).trans (heap_alloc_new _ _), by have := heap_alloc_new (w.alloc (.cells #[.int .i64 0, .slice none 0 0] 24)) (.cells #[.int .i64 n, .slice none 0 0] 24); simpa using this, World.ownsRow_nil _ _ _ _, HB0.out.alloc HB0.out.size _, Nat.le_refl _, by omega⟩
    clear HB0
    go_enter Try.func16, Try.ntmps16
    go_wp2
    go_loopw [20] (fun i wr => ∃ (k : Nat) (A2 : Option Addr) (c2 : Nat) (ks : List Ed), k ≤ l.length ∧ i = .int .i64 k ∧ ks.length ≤ k ∧ Hid (ks = ofl (l.take k)) ∧ Hid (allE n (l.take k) = true) ∧ Hid (IS w w.heap.size (w.heap.size + 1) n A2 c2 ks wr)) (fun i _ => l.length - (RowKit.intOf i).toNat)
    case atStart => exact ⟨0, none, 0, [], Nat.zero_le _, rfl, Nat.le_refl _, rfl, rfl, HI0.out⟩
    case round =>
      obtain ⟨k, A2, c2, ks, hk, rfl, hks, HK, HA, HI⟩ := hrel
      by_cases hlt : k < l.length
      · obtain ⟨b, off, x, y, rfl, hb, hx, hc0, hc1⟩ := (H.out.go HI.out.bel).let_ hlt
        have HX := Lib.hid hx
        clear hx
        have k1 := HI.out.c1; have kl := HI.out.lt
        have HIa := Lib.hid (HI.out.alloc (.cells #[.int .i64 x, .int .i64 y] 52))
        have he0 := Go.Joins.cell_of_block (heap_alloc_new wr (.cells #[.int .i64 x, .int .i64 y] 52)) 0
        have he1 := Go.Joins.cell_of_block (heap_alloc_new wr (.cells #[.int .i64 x, .int .i64 y] 52)) 1
        simp at he0 he1
        obtain ⟨P, HP⟩ : ∃ P, Hid (endsB n x y = P) := ⟨_, rfl⟩
        cases P
        · have HR : Hid (ofe n l = 6) := by show _ = _; rw [HOF.out, allE_no n l x y k HX.out HP.out]; rfl
          have e1 := Hm.out; have e2 := HL.out; have e3 := Hr.out
          rw [HR.out] at e1 e2 e3
          rw [if_neg (by decide)] at e1 e2
          subst e1; subst e2; subst e3
          go_wp2_with fail
          refine (ends_any n x y _).mono ?_
          rintro e w2 ⟨rfl, rfl⟩
          rw [HP.out]
          have b0 := Go.Joins.cell_of_block HIa.out.b4 0; have b1 := Go.Joins.cell_of_block HIa.out.b4 1; have d0 := Go.Joins.unfrozen_of_block HIa.out.b4 0; have d1 := Go.Joins.unfrozen_of_block HIa.out.b4 1
          simp at b0 b1
          have hb4 := (setCell_two (setCell_two HIa.out.b4 (v := .int .i64 0)).1 (v := .slice none 0 0)).2
          have hf0 := Go.Joins.cell_of_block hb4 0; have hf1 := Go.Joins.cell_of_block hb4 1
          simp at hf0 hf1
          have HFin := Lib.hid (HIa.out.fin 0 1 (.int .i64 0) (.slice none 0 0))
          clear hb4
          go_wp2
          generalize (((wr.alloc (.cells #[.int .i64 x, .int .i64 y] 52)).setCell ⟨w.heap.size, 0, none⟩ (.int .i64 0)).setCell ⟨w.heap.size, 1, none⟩ (.slice none 0 0)) = wf at HFin hf0 hf1 ⊢
          exact bodyPost_ret (v := .tuple #[.agg #[.int .i64 0, .slice none 0 0], .int .i64 6]) (by simp [results, Try.results16, go_sem, hf0, hf1]) rfl
            ⟨none, 0, rfl, RE.nil_ _ _ _ _, HFin.out.2⟩
        · have HN := Lib.hid (ofl_succ l x y k HX.out)
          have HN2 := Lib.hid (allE_succ n l x y k HX.out HA.out HP.out)
          rw [← HK.out] at HN
          have hlen := insE_len (min x y, max x y) ks
          go_wp2_with fail
          refine (ends_any n x y _).mono ?_
          rintro e w2 ⟨rfl, rfl⟩
          rw [HP.out]
          go_wp2
          go_region_law (first
            | (go_simp; go_at_call 40; go_loud ((refine (edge_any x y _).mono ?_); rintro e w2 ⟨rfl, hb2⟩; have HB2 : Hid (Below wr.heap.size wr w2) := below_via (w3 := wr) (o := .cells #[.int .i64 x, .int .i64 y] 52) (hb2.mono (show wr.heap.size ≤ (wr.alloc (.cells #[.int .i64 x, .int .i64 y] 52)).heap.size by simp)) (Nat.le_refl _); clear hb2; have f20 : w2.heap[w.heap.size + 1]? = _ := (HB2.out.block _ kl).trans HI.out.b7; have f21 := Go.Joins.cell_of_block f20 1; clear f20))
            | (go_simp; go_at_call 39; go_loud ((refine (with_any A2 c2 ks (min x y) (max x y) _ (RE.of_own (IS.own_below HI.out HB2.out)) (by omega)).mono ?_); rintro e w3 ⟨A3, c3, rfl, ho3, hb3⟩; have HB3 := Lib.hid hb3; have HO3 := Lib.hid ho3; clear hb3 ho3; have f0 : w3.heap[w.heap.size + 1]? = _ := (HB3.out.block _ (Nat.lt_of_lt_of_le kl HB2.out.size)).trans ((HB2.out.block _ kl).trans HI.out.b7); have f1 := Go.Joins.cell_of_block f0 1; have f2 := Go.Joins.unfrozen_of_block f0 1; clear f0)))
          all_goals
            have HO4 : Hid (w3.ownsRow (w.heap.size + 1 + 1) 52 2 (.slice A3 (insE (min x y, max x y) ks).length c3) (insE (min x y, max x y) ks).length (ev (insE (min x y, max x y) ks))) := by
              show World.ownsRow _ _ _ _ _ _ _
              rcases HO3.out with ⟨rfl, rfl, h3⟩ | h3
              · rw [h3]; exact IS.own_below HI.out (HB2.out.trans (HB3.out.mono HB2.out.size))
              · exact Go.Joins.ownsRow_le h3 (by have := HB2.out.size; omega)
            have HF := Lib.hid (HI.out.push HO4.out ((HB2.out.trans (HB3.out.mono HB2.out.size)).mono (by omega)))
            clear HO3 HO4 HB2 HB3 f1 f2 f21
            go_wp2
            go_roundw
            case rel => exact ⟨k + 1, A3, c3, insE (min x y, max x y) ks, by omega, by go_num, by omega, HN.out.symm, HN2.out, HF.out⟩
            case measure => simp [RowKit.intOf]; omega
      · have k0 := HI.out.c0; have k1 := HI.out.c1
        have HT : Hid (l.take k = l) := List.take_of_length_le (by omega)
        have HR : Hid (ofe n l = 0) := by show _ = _; rw [HOF.out, if_pos]; rw [← HT.out]; exact HA.out
        have HK2 : Hid (ks = ofl l) := by show _ = _; rw [HK.out, HT.out]
        have e1 := Hm.out; have e2 := HL.out; have e3 := Hr.out
        rw [HR.out] at e1 e2 e3
        rw [if_pos rfl] at e1 e2
        subst e1; subst e3
        obtain rfl : ks = L := HK2.out.trans e2
        clear e2
        have b0 := Go.Joins.cell_of_block HI.out.b4 0; have b1 := Go.Joins.cell_of_block HI.out.b4 1; have d0 := Go.Joins.unfrozen_of_block HI.out.b4 0; have d1 := Go.Joins.unfrozen_of_block HI.out.b4 1
        simp at b0 b1
        have hb4 := (setCell_two (setCell_two HI.out.b4 (v := .int .i64 n)).1 (v := .slice A2 ks.length c2)).2
        have hf0 := Go.Joins.cell_of_block hb4 0; have hf1 := Go.Joins.cell_of_block hb4 1
        simp at hf0 hf1
        have HFin := Lib.hid (HI.out.fin 0 1 (.int .i64 n) (.slice A2 ks.length c2))
        clear hb4
        go_wp2
        generalize ((wr.setCell ⟨w.heap.size, 0, none⟩ (.int .i64 n)).setCell ⟨w.heap.size, 1, none⟩ (.slice A2 ks.length c2)) = wf at HFin hf0 hf1 ⊢
        exact bodyPost_ret (v := .tuple #[.agg #[.int .i64 n, .slice A2 ks.length c2], .int .i64 0]) (by simp [results, Try.results16, go_sem, hf0, hf1]) rfl
          ⟨A2, c2, rfl, RE.of_own HFin.out.1, HFin.out.2⟩
end Go.Proofs.Ytioohmhllajifaa
