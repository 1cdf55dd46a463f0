/-
  The reference's Add.
-/
import Derived.Test.YtioohmhllajifaaGm
namespace Go.Proofs.Ytioohmhllajifaa
open Go.RowKit Go.Lib

/-- what stays known in a function that takes a graph and answers one: the box of its graph and the cell of its result -/
structure AS (w : World) (n : Int) (A : Option Addr) (c : Nat) (l : List Ed) (wr : World) : Prop where
  gb : Gb w w.heap.size n A c l wr
  b6 : wr.heap[w.heap.size + 1]? = some (.cells #[.int .i64 0, .slice none 0 0] 24)
section
variable {w : World} {n : Int} {A : Option Addr} {c : Nat} {l : List Ed} {wr : World}
theorem AS.start (h : RE w.heap.size w A c l) : AS w n A c l ((w.alloc (.cells #[.int .i64 n, .slice A l.length c] 24)).alloc (.cells #[.int .i64 0, .slice none 0 0] 24)) :=
  ⟨(Gb.start h).go ((Below.refl _ _).alloc (Nat.le_refl _) _), by have := heap_alloc_new (w.alloc (.cells #[.int .i64 n, .slice A l.length c] 24)) (.cells #[.int .i64 0, .slice none 0 0] 24); simpa using this⟩
theorem AS.lt6 (h : AS w n A c l wr) : w.heap.size + 1 < wr.heap.size := lt_of_some h.b6
theorem AS.go {w' : World} (h : AS w n A c l wr) (hb : Below wr.heap.size wr w') : AS w n A c l w' := ⟨h.gb.go hb, (hb.block _ h.lt6).trans h.b6⟩
theorem AS.alloc (h : AS w n A c l wr) (o : Obj) : AS w n A c l (wr.alloc o) := h.go ((Below.refl _ _).alloc (Nat.le_refl _) o)
theorem AS.r0 (h : AS w n A c l wr) : wr.cell? ⟨w.heap.size + 1, 0, none⟩ = some (.int .i64 0) := Go.Joins.cell_of_block h.b6 0
theorem AS.r1 (h : AS w n A c l wr) : wr.cell? ⟨w.heap.size + 1, 1, none⟩ = some (.slice none 0 0) := Go.Joins.cell_of_block h.b6 1
theorem AS.f0 (h : AS w n A c l wr) : wr.frozen? ⟨w.heap.size + 1, 0, none⟩ = false := Go.Joins.unfrozen_of_block h.b6 0
theorem AS.f1 (h : AS w n A c l wr) : wr.frozen? ⟨w.heap.size + 1, 1, none⟩ = false := Go.Joins.unfrozen_of_block h.b6 1
/-- behind the result's stores -/
theorem AS.fin (h : AS w n A c l wr) (x y : Value) : ((wr.setCell ⟨w.heap.size + 1, 0, none⟩ x).setCell ⟨w.heap.size + 1, 1, none⟩ y).cell? ⟨w.heap.size + 1, 0, none⟩ = some x ∧
    ((wr.setCell ⟨w.heap.size + 1, 0, none⟩ x).setCell ⟨w.heap.size + 1, 1, none⟩ y).cell? ⟨w.heap.size + 1, 1, none⟩ = some y ∧
    Below w.heap.size w ((wr.setCell ⟨w.heap.size + 1, 0, none⟩ x).setCell ⟨w.heap.size + 1, 1, none⟩ y) := by
  have hb4 := (setCell_two (setCell_two h.b6 (v := x)).1 (v := y)).2
  exact ⟨Go.Joins.cell_of_block hb4 0, Go.Joins.cell_of_block hb4 1, (h.gb.bel.setCell (p := ⟨w.heap.size + 1, 0, none⟩) (by simp) x).setCell (p := ⟨w.heap.size + 1, 1, none⟩) (by simp) y⟩
/-- memory behind the result's cell outlives the stores -/
theorem fin_own {k : Nat} {vs : List Value} {v : Value} {base e size : Nat} (h : wr.ownsRow base e size v k vs) (hg : w.heap.size + 1 < base) (x y : Value) : ((wr.setCell ⟨w.heap.size + 1, 0, none⟩ x).setCell ⟨w.heap.size + 1, 1, none⟩ y).ownsRow base e size v k vs := by
  have o1 := h.kept (w' := wr.setCell ⟨w.heap.size + 1, 0, none⟩ x) set_grown (.inr fun e => by have := (h.lt _ e).1; omega)
  exact o1.kept (w' := (wr.setCell ⟨w.heap.size + 1, 0, none⟩ x).setCell ⟨w.heap.size + 1, 1, none⟩ y) set_grown (.inr fun e => by have := (o1.lt _ e).1; omega)
end

theorem RE_of_with {w5 : World} {A A3 : Option Addr} {c c3 base : Nat} {l l' : List Ed} (h0 : RE w5.heap.size w5 A c l) (h : (A3 = A ∧ c3 = c ∧ l' = l) ∨ w5.ownsRow base 52 2 (.slice A3 l'.length c3) l'.length (ev l')) : RE w5.heap.size w5 A3 c3 l' := by
  rcases h with ⟨rfl, rfl, rfl⟩ | h
  · exact h0
  · exact RE.of_own h
def addE (n : Int) (l : List Ed) (u v : Int) : Int := if chk n l = 0 then (if endsB n u v = true then (if find n l u v < 0 then 0 else 15) else 6) else chk n l

set_option maxHeartbeats 4000000 in
set_option maxRecDepth 100000 in
theorem radd_any (n : Int) (A : Option Addr) (c : Nat) (l : List Ed) (u v : Int) (w : World) (h : RE w.heap.size w A c l) (hl : l.length ≤ 65536) :
    Calls Try.prog 20 #[.agg #[.int .i64 n, .slice A l.length c], .int .i64 u, .int .i64 v] w (GivesR w (if addE n l u v = 0 then n else 0) (if addE n l u v = 0 then insE (edg u v) l else []) (addE n l u v)) := by
  have HS0 := Lib.hid (AS.start (n := n) h)
  have HSS := HS0
  clear h HSS
  obtain ⟨X, HX⟩ : ∃ X, Hid (chk n l = X) := ⟨_, rfl⟩
  obtain ⟨P, HP⟩ : ∃ P, Hid (endsB n u v = P) := ⟨_, rfl⟩
  obtain ⟨F, HF⟩ : ∃ F, Hid (find n l u v = F) := ⟨_, rfl⟩
  by_cases hX : X = 0
  · subst hX
    cases P
    · have HR : Hid (addE n l u v = 6) := by show _ = _; unfold addE; rw [if_pos HX.out, if_neg (by rw [HP.out]; simp)]
      rw [HR.out, if_neg (by decide), if_neg (by decide)]
      go_enter Try.func20, Try.ntmps20
      go_wp2_with fail
      refine (check_any n A c l _ HS0.out.gb.re hl).mono ?_
      rintro e w1 ⟨rfl, hb⟩
      rw [HX.out]
      have HS1 := Lib.hid (HS0.out.go hb)
      clear hb HS0
      have z0 := HS1.out.gb.c0; have z1 := HS1.out.gb.c1; have z2 := HS1.out.gb.lt; have r0 := HS1.out.r0; have r1 := HS1.out.r1; have f0 := HS1.out.f0; have f1 := HS1.out.f1; have l6 := HS1.out.lt6
      go_wp2_with fail
      refine (ends_any n u v _).mono ?_
      rintro e w2 ⟨rfl, rfl⟩
      rw [HP.out]
      clear z0 z1 z2 r0 r1 f0 f1 l6
      have z0 := HS1.out.gb.c0; have z1 := HS1.out.gb.c1; have z2 := HS1.out.gb.lt; have r0 := HS1.out.r0; have r1 := HS1.out.r1; have f0 := HS1.out.f0; have f1 := HS1.out.f1; have l6 := HS1.out.lt6
      have hfin := HS1.out.fin (.int .i64 0) (.slice none 0 0)
      have hf0 := hfin.1; have hf1 := hfin.2.1; have HW := Lib.hid hfin.2.2
      clear hfin
      go_wp2
      generalize ((w1.setCell ⟨w.heap.size + 1, 0, none⟩ (.int .i64 0)).setCell ⟨w.heap.size + 1, 1, none⟩ (.slice none 0 0)) = wf at HW hf0 hf1 ⊢
      exact bodyPost_ret (v := .tuple #[.agg #[.int .i64 0, .slice none 0 0], .int .i64 (6)]) (by simp [results, Try.results20, go_sem, hf0, hf1]) rfl
        ⟨none, 0, rfl, RE.nil_ _ _ _ _, HW.out⟩
    · by_cases hF : F < 0
      · have HR : Hid (addE n l u v = 0) := by show _ = _; unfold addE; rw [if_pos HX.out, if_pos HP.out, if_pos (by rw [HF.out]; exact hF)]
        rw [HR.out, if_pos rfl, if_pos rfl]
        go_enter Try.func20, Try.ntmps20
        go_wp2_with fail
        refine (check_any n A c l _ HS0.out.gb.re hl).mono ?_
        rintro e w1 ⟨rfl, hb⟩
        rw [HX.out]
        have HS1 := Lib.hid (HS0.out.go hb)
        clear hb HS0
        have z0 := HS1.out.gb.c0; have z1 := HS1.out.gb.c1; have z2 := HS1.out.gb.lt; have r0 := HS1.out.r0; have r1 := HS1.out.r1; have f0 := HS1.out.f0; have f1 := HS1.out.f1; have l6 := HS1.out.lt6
        go_wp2_with fail
        refine (ends_any n u v _).mono ?_
        rintro e w2 ⟨rfl, rfl⟩
        rw [HP.out]
        go_wp2_with fail
        refine (find_any n A c l u v _ HS1.out.gb.re hl).mono ?_
        rintro e w3 ⟨rfl, hb⟩
        rw [HF.out]
        have HS3 := Lib.hid (HS1.out.go hb)
        clear z0 z1 z2 r0 r1 f0 f1 l6
        clear hb
        have z0 := HS3.out.gb.c0; have z1 := HS3.out.gb.c1; have z2 := HS3.out.gb.lt; have r0 := HS3.out.r0; have r1 := HS3.out.r1; have f0 := HS3.out.f0; have f1 := HS3.out.f1; have l6 := HS3.out.lt6
        have hlen := insE_len (min u v, max u v) l
        go_wp2
        go_region_law (first
          | (go_simp; go_at_call 40; go_loud ((refine (edge_any u v _).mono ?_); rintro e w4 ⟨rfl, hb4⟩; have HB4 : Hid (Below w3.heap.size w3 w4) := (by show Below _ _ _; exact ⟨hb4.os, hb4.tape, hb4.output, hb4.size, hb4.block⟩); have HS4 := Lib.hid (HS3.out.go HB4.out); clear hb4; have az0 := HS4.out.gb.c0; have az1 := HS4.out.gb.c1; have az2 := HS4.out.gb.lt; have ar0 := HS4.out.r0; have ar1 := HS4.out.r1; have af0 := HS4.out.f0; have af1 := HS4.out.f1; have al6 := HS4.out.lt6))
          | (go_simp; go_at_call 39; go_loud ((refine (with_any A c l (min u v) (max u v) _ HS4.out.gb.re (by omega)).mono ?_); rintro e w5 ⟨A3, c3, rfl, ho5, hb5⟩; have HS5 := Lib.hid (HS4.out.go hb5); have HO5 := Lib.hid ho5; clear hb5 ho5; have bz0 := HS5.out.gb.c0; have bz1 := HS5.out.gb.c1; have bz2 := HS5.out.gb.lt; have br0 := HS5.out.r0; have br1 := HS5.out.r1; have bf0 := HS5.out.f0; have bf1 := HS5.out.f1; have bl6 := HS5.out.lt6; have HE5 : Hid (RE w5.heap.size w5 A3 c3 (insE (min u v, max u v) l)) := (by show RE _ _ _ _ _; exact RE_of_with HS5.out.gb.re HO5.out)))
          | (refine step_applE _ rfl (.const (.slice none 0 0)) (.tmp 35) rfl w5.heap.size none 0 [] rfl (World.ownsRow_nil _ _ _ _) A3 c3 _ (insE (min u v, max u v) l) rfl (by simp [Act.eval]) HE5.out (by simp; omega) (Nat.le_refl _) ?_; intro A6 c6 w6 HO6 HB6; rw [List.nil_append] at HO6; rw [List.nil_append]; have HS6 := Lib.hid (HS5.out.go HB6.out); have qz0 := HS6.out.gb.c0; have qz1 := HS6.out.gb.c1; have qz2 := HS6.out.gb.lt; have qr0 := HS6.out.r0; have qr1 := HS6.out.r1; have qf0 := HS6.out.f0; have qf1 := HS6.out.f1; have ql6 := HS6.out.lt6))
        all_goals
          have hfin := HS6.out.fin (.int .i64 n) (.slice A6 (insE (min u v, max u v) l).length c6)
          have hf0 := hfin.1; have hf1 := hfin.2.1; have HW := Lib.hid hfin.2.2
          have HO := Lib.hid (fin_own (w := w) HO6.out HS5.out.lt6 (.int .i64 n) (.slice A6 (insE (min u v, max u v) l).length c6))
          clear hfin
          go_wp2
          generalize ((w6.setCell ⟨w.heap.size + 1, 0, none⟩ (.int .i64 n)).setCell ⟨w.heap.size + 1, 1, none⟩ (.slice A6 (insE (min u v, max u v) l).length c6)) = wf at HW HO hf0 hf1 ⊢
          exact bodyPost_ret (v := .tuple #[.agg #[.int .i64 n, .slice A6 (insE (min u v, max u v) l).length c6], .int .i64 0]) (by simp [results, Try.results20, go_sem, hf0, hf1]) rfl
            ⟨A6, c6, rfl, RE.of_own HO.out, HW.out⟩
      · have HR : Hid (addE n l u v = 15) := by show _ = _; unfold addE; rw [if_pos HX.out, if_pos HP.out, if_neg (by rw [HF.out]; exact hF)]
        rw [HR.out, if_neg (by decide), if_neg (by decide)]
        go_enter Try.func20, Try.ntmps20
        go_wp2_with fail
        refine (check_any n A c l _ HS0.out.gb.re hl).mono ?_
        rintro e w1 ⟨rfl, hb⟩
        rw [HX.out]
        have HS1 := Lib.hid (HS0.out.go hb)
        clear hb HS0
        have z0 := HS1.out.gb.c0; have z1 := HS1.out.gb.c1; have z2 := HS1.out.gb.lt; have r0 := HS1.out.r0; have r1 := HS1.out.r1; have f0 := HS1.out.f0; have f1 := HS1.out.f1; have l6 := HS1.out.lt6
        go_wp2_with fail
        refine (ends_any n u v _).mono ?_
        rintro e w2 ⟨rfl, rfl⟩
        rw [HP.out]
        go_wp2_with fail
        refine (find_any n A c l u v _ HS1.out.gb.re hl).mono ?_
        rintro e w3 ⟨rfl, hb⟩
        rw [HF.out]
        have HS3 := Lib.hid (HS1.out.go hb)
        clear z0 z1 z2 r0 r1 f0 f1 l6
        clear hb
        have z0 := HS3.out.gb.c0; have z1 := HS3.out.gb.c1; have z2 := HS3.out.gb.lt; have r0 := HS3.out.r0; have r1 := HS3.out.r1; have f0 := HS3.out.f0; have f1 := HS3.out.f1; have l6 := HS3.out.lt6
        have hfin := HS3.out.fin (.int .i64 0) (.slice none 0 0)
        have hf0 := hfin.1; have hf1 := hfin.2.1; have HW := Lib.hid hfin.2.2
        clear hfin
        go_wp2
        generalize ((w3.setCell ⟨w.heap.size + 1, 0, none⟩ (.int .i64 0)).setCell ⟨w.heap.size + 1, 1, none⟩ (.slice none 0 0)) = wf at HW hf0 hf1 ⊢
        exact bodyPost_ret (v := .tuple #[.agg #[.int .i64 0, .slice none 0 0], .int .i64 (15)]) (by simp [results, Try.results20, go_sem, hf0, hf1]) rfl
          ⟨none, 0, rfl, RE.nil_ _ _ _ _, HW.out⟩
  · have HR : Hid (addE n l u v = X) := by show _ = _; unfold addE; rw [if_neg (by rw [HX.out]; exact hX), HX.out]
    rw [HR.out, if_neg hX, if_neg hX]
    have e1 : (X != 0) = true := by simpa using hX
    clear hX
    go_enter Try.func20, Try.ntmps20
    go_wp2_with fail
    refine (check_any n A c l _ HS0.out.gb.re hl).mono ?_
    rintro e w1 ⟨rfl, hb⟩
    rw [HX.out]
    have HS1 := Lib.hid (HS0.out.go hb)
    clear hb HS0
    have z0 := HS1.out.gb.c0; have z1 := HS1.out.gb.c1; have z2 := HS1.out.gb.lt; have r0 := HS1.out.r0; have r1 := HS1.out.r1; have f0 := HS1.out.f0; have f1 := HS1.out.f1; have l6 := HS1.out.lt6
    have hfin := HS1.out.fin (.int .i64 0) (.slice none 0 0)
    have hf0 := hfin.1; have hf1 := hfin.2.1; have HW := Lib.hid hfin.2.2
    clear hfin
    go_wp2
    generalize ((w1.setCell ⟨w.heap.size + 1, 0, none⟩ (.int .i64 0)).setCell ⟨w.heap.size + 1, 1, none⟩ (.slice none 0 0)) = wf at HW hf0 hf1 ⊢
    exact bodyPost_ret (v := .tuple #[.agg #[.int .i64 0, .slice none 0 0], .int .i64 (X)]) (by simp [results, Try.results20, go_sem, hf0, hf1]) rfl
      ⟨none, 0, rfl, RE.nil_ _ _ _ _, HW.out⟩
end Go.Proofs.Ytioohmhllajifaa
