/-
  The reference's Remove.
-/
import Derived.Test.YtioohmhllajifaaGn
namespace Go.Proofs.Ytioohmhllajifaa
open Go.RowKit Go.Lib

theorem IS.go {w : World} {g4 g7 : Nat} {n : Int} {A2 : Option Addr} {c2 : Nat} {ks : List Ed} {wr w3 : World} (h : IS w g4 g7 n A2 c2 ks wr) (hb : Below wr.heap.size wr w3) : IS w g4 g7 n A2 c2 ks w3 :=
  ⟨(hb.block _ (lt_of_some h.b4)).trans h.b4, (hb.block _ h.lt).trans h.b7, h.own_below hb, h.bel.trans (hb.mono h.bel.size), h.l4, h.l7⟩
def keepE (e : Ed) (z : Ed) : Bool := !(decide (z.1 = e.1) && decide (z.2 = e.2))
def remL (l : List Ed) (e : Ed) : List Ed := l.filter (keepE e)
def remE (n : Int) (l : List Ed) (u v : Int) : Int := if chk n l = 0 then (if endsB n u v = true then (if find n l u v < 0 then 7 else 0) else 6) else chk n l

set_option maxHeartbeats 4000000 in
set_option maxRecDepth 100000 in
theorem rrem_any (n : Int) (A : Option Addr) (c : Nat) (l : List Ed) (u v : Int) (w : World) (h : RE w.heap.size w A c l) (hl : l.length ≤ 65536) :
    Calls Try.prog 22 #[.agg #[.int .i64 n, .slice A l.length c], .int .i64 u, .int .i64 v] w (GivesR w (if remE n l u v = 0 then n else 0) (if remE n l u v = 0 then remL l (edg u v) else []) (remE n l u v)) := by
  have HS0 := Lib.hid (AS.start (n := n) h)
  have H := Lib.hid h
  clear h
  obtain ⟨X, HX⟩ : ∃ X, Hid (chk n l = X) := ⟨_, rfl⟩
  obtain ⟨P, HP⟩ : ∃ P, Hid (endsB n u v = P) := ⟨_, rfl⟩
  obtain ⟨F, HF⟩ : ∃ F, Hid (find n l u v = F) := ⟨_, rfl⟩
  by_cases hX : X = 0
  · subst hX
    cases P
    · have HR : Hid (remE n l u v = 6) := by show _ = _; unfold remE; rw [if_pos HX.out, if_neg (by rw [HP.out]; simp)]
      rw [HR.out, if_neg (by decide), if_neg (by decide)]
      go_enter Try.func22, Try.ntmps22
      go_wp2_with fail
      refine (check_any n A c l _ HS0.out.gb.re hl).mono ?_
      rintro e w1 ⟨rfl, hb⟩
      rw [HX.out]
      have HS1 := Lib.hid (HS0.out.go hb)
      clear hb HS0
      have z0 := HS1.out.gb.c0; have z1 := HS1.out.gb.c1; have z2 := HS1.out.gb.lt; have r0 := HS1.out.r0; have r1 := HS1.out.r1; have f0 := HS1.out.f0; have f1 := HS1.out.f1; have l6 := HS1.out.lt6
      go_wp2_with fail
      refine (ends_any n u v _).mono ?_
      rintro e w2 ⟨rfl, rfl⟩
      rw [HP.out]
      clear z0 z1 z2 r0 r1 f0 f1 l6
      have z0 := HS1.out.gb.c0; have z1 := HS1.out.gb.c1; have z2 := HS1.out.gb.lt; have r0 := HS1.out.r0; have r1 := HS1.out.r1; have f0 := HS1.out.f0; have f1 := HS1.out.f1; have l6 := HS1.out.lt6
      have hfin := HS1.out.fin (.int .i64 0) (.slice none 0 0)
      have hf0 := hfin.1; have hf1 := hfin.2.1; have HW := Lib.hid hfin.2.2
      clear hfin
      go_wp2
      generalize ((w1.setCell ⟨w.heap.size + 1, 0, none⟩ (.int .i64 0)).setCell ⟨w.heap.size + 1, 1, none⟩ (.slice none 0 0)) = wf at HW hf0 hf1 ⊢
      exact bodyPost_ret (v := .tuple #[.agg #[.int .i64 0, .slice none 0 0], .int .i64 (6)]) (by simp [results, Try.results22, go_sem, hf0, hf1]) rfl
        ⟨none, 0, rfl, RE.nil_ _ _ _ _, HW.out⟩
    · by_cases hF : F < 0
      · have HR : Hid (remE n l u v = 7) := by show _ = _; unfold remE; rw [if_pos HX.out, if_pos HP.out, if_pos (by rw [HF.out]; exact hF)]
        rw [HR.out, if_neg (by decide), if_neg (by decide)]
        go_enter Try.func22, Try.ntmps22
        go_wp2_with fail
        refine (check_any n A c l _ HS0.out.gb.re hl).mono ?_
        rintro e w1 ⟨rfl, hb⟩
        rw [HX.out]
        have HS1 := Lib.hid (HS0.out.go hb)
        clear hb HS0
        have z0 := HS1.out.gb.c0; have z1 := HS1.out.gb.c1; have z2 := HS1.out.gb.lt; have r0 := HS1.out.r0; have r1 := HS1.out.r1; have f0 := HS1.out.f0; have f1 := HS1.out.f1; have l6 := HS1.out.lt6
        go_wp2_with fail
        refine (ends_any n u v _).mono ?_
        rintro e w2 ⟨rfl, rfl⟩
        rw [HP.out]
        go_wp2_with fail
        refine (find_any n A c l u v _ HS1.out.gb.re hl).mono ?_
        rintro e w3 ⟨rfl, hb⟩
        rw [HF.out]
        have HS3 := Lib.hid (HS1.out.go hb)
        clear z0 z1 z2 r0 r1 f0 f1 l6
        clear hb
        have z0 := HS3.out.gb.c0; have z1 := HS3.out.gb.c1; have z2 := HS3.out.gb.lt; have r0 := HS3.out.r0; have r1 := HS3.out.r1; have f0 := HS3.out.f0; have f1 := HS3.out.f1; have l6 := HS3.out.lt6
        have hfin := HS3.out.fin (.int .i64 0) (.slice none 0 0)
        have hf0 := hfin.1; have hf1 := hfin.2.1; have HW := Lib.hid hfin.2.2
        clear hfin
        go_wp2
        generalize ((w3.setCell ⟨w.heap.size + 1, 0, none⟩ (.int .i64 0)).setCell ⟨w.heap.size + 1, 1, none⟩ (.slice none 0 0)) = wf at HW hf0 hf1 ⊢
        exact bodyPost_ret (v := .tuple #[.agg #[.int .i64 0, .slice none 0 0], .int .i64 (7)]) (by simp [results, Try.results22, go_sem, hf0, hf1]) rfl
          ⟨none, 0, rfl, RE.nil_ _ _ _ _, HW.out⟩
      · have HR : Hid (remE n l u v = 0) := by show _ = _; unfold remE; rw [if_pos HX.out, if_pos HP.out, if_neg (by rw [HF.out]; exact hF)]
        rw [HR.out, if_pos rfl, if_pos rfl]
        go_enter Try.func22, Try.ntmps22
        go_wp2_with fail
        refine (check_any n A c l _ HS0.out.gb.re hl).mono ?_
        rintro e w1 ⟨rfl, hb⟩
        rw [HX.out]
        have HS1 := Lib.hid (HS0.out.go hb)
        clear hb HS0
        have z0 := HS1.out.gb.c0; have z1 := HS1.out.gb.c1; have z2 := HS1.out.gb.lt; have r0 := HS1.out.r0; have r1 := HS1.out.r1; have f0 := HS1.out.f0; have f1 := HS1.out.f1; have l6 := HS1.out.lt6
        go_wp2_with fail
        refine (ends_any n u v _).mono ?_
        rintro e w2 ⟨rfl, rfl⟩
        rw [HP.out]
        go_wp2_with fail
        refine (find_any n A c l u v _ HS1.out.gb.re hl).mono ?_
        rintro e w3 ⟨rfl, hb⟩
        rw [HF.out]
        have HS3 := Lib.hid (HS1.out.go hb)
        clear z0 z1 z2 r0 r1 f0 f1 l6
        clear hb
        have z0 := HS3.out.gb.c0; have z1 := HS3.out.gb.c1; have z2 := HS3.out.gb.lt; have r0 := HS3.out.r0; have r1 := HS3.out.r1; have f0 := HS3.out.f0; have f1 := HS3.out.f1; have l6 := HS3.out.lt6
        have HI0 : Hid (IS w (w.heap.size + 1) w3.heap.size n none 0 [] (w3.alloc (.cells #[.int .i64 n, .slice none 0 0] 24))) :=
          ⟨(Below.heap_alloc _ _ _ HS3.out.lt6).trans HS3.out.b6, heap_alloc_new _ _, World.ownsRow_nil _ _ _ _, HS3.out.gb.bel.alloc HS3.out.gb.bel.size _, by omega, HS3.out.lt6⟩
        go_wp2
        clear z0 z1 z2 r0 r1 f0 f1 l6
        clear HS3 HS1 HF
        obtain ⟨p, Hp⟩ : ∃ p, Hid (min u v = p) := ⟨_, rfl⟩
        obtain ⟨q, Hq⟩ : ∃ q, Hid (max u v = q) := ⟨_, rfl⟩
        have C46 := Lib.hid (fun w => edge_any u v w)
        have HEG : Hid (edg u v = (p, q)) := by show _ = _; rw [← Hp.out, ← Hq.out]; rfl
        rw [Hp.out, Hq.out] at C46
        go_loopw [37] (fun i wr => ∃ (k : Nat) (A2 : Option Addr) (c2 : Nat) (ks : List Ed), k ≤ l.length ∧ i = .int .i64 k ∧ ks.length ≤ k ∧ Hid (ks = (l.take k).filter (keepE (p, q))) ∧ Hid (IS w (w.heap.size + 1) w3.heap.size n A2 c2 ks wr)) (fun i _ => l.length - (RowKit.intOf i).toNat)
        case atStart => exact ⟨0, none, 0, [], Nat.zero_le _, rfl, Nat.le_refl _, rfl, HI0.out⟩
        case round =>
          obtain ⟨k, A2, c2, ks, hk, rfl, hks, HK, HI⟩ := hrel
          by_cases hlt : k < l.length
          · obtain ⟨b, off, x, y, rfl, hb, hx, hc0, hc1⟩ := (H.out.go HI.out.bel).let_ hlt
            have HX2 := Lib.hid (filtE (keepE (p, q)) l (x, y) k hx)
            clear hx
            have k1 := HI.out.c1; have kl := HI.out.lt
            have HIa := Lib.hid (HI.out.alloc (.cells #[.int .i64 x, .int .i64 y] 52))
            have hE0 := Go.Joins.cell_of_block (heap_alloc_new wr (.cells #[.int .i64 x, .int .i64 y] 52)) 0
            have hE1 := Go.Joins.cell_of_block (heap_alloc_new wr (.cells #[.int .i64 x, .int .i64 y] 52)) 1
            simp at hE0 hE1
            by_cases h1 : x = p
            · by_cases h2 : y = q
              · subst h1; subst h2
                have HN : Hid (ks = (l.take (k + 1)).filter (keepE (x, y))) := by show _ = _; rw [HX2.out, if_neg (by simp [keepE]), List.append_nil]; exact HK.out
                have e1 : (x == x) = true := by simp
                have e2 : (y == y) = true := by simp
                go_wp2
                refine wp_region_over (by kernel_rfl) (by kernel_rfl) ?_
                repeat (go_big_quiet_step (first | (go_at_call 40; exact calls_over (C46.out _))))
                refine wpQuiet_nil ?_
                rintro _ ⟨z, rfl⟩
                have hbx := Lib.hid (over_below _ z)
                have HIq := Lib.hid (HIa.out.go hbx.out)
                clear hE0 hE1
                go_wp2
                go_roundw
                case rel => exact ⟨k + 1, A2, c2, ks, by omega, by go_num, by omega, HN.out, HIq.out⟩
                case measure => simp [RowKit.intOf]; omega
              · have HN : Hid (ks ++ [(x, y)] = (l.take (k + 1)).filter (keepE (p, q))) := by show _ = _; rw [HX2.out, if_pos (by simp [keepE, h2]), ← HK.out]
                subst h1
                have e1 : (x == x) = true := by simp
                have e2 : (y == q) = false := by simpa using h2
                clear h2
                go_wp2
                refine wp_region_over (by kernel_rfl) (by kernel_rfl) ?_
                repeat (go_big_quiet_step (first | (go_at_call 40; exact calls_over (C46.out _))))
                refine wpQuiet_nil ?_
                rintro _ ⟨z, rfl⟩
                have hbx := Lib.hid (over_below _ z)
                generalize over (wr.alloc (.cells #[.int .i64 x, .int .i64 y] 52)) z = wq at hbx ⊢
                have HIq := Lib.hid (HIa.out.go hbx.out)
                have hEq : wq.heap[wr.heap.size]? = some (.cells #[.int .i64 x, .int .i64 y] 52) := (hbx.out.block _ (by simp)).trans (heap_alloc_new wr _)
                clear hE0 hE1 k1 kl hc0 hc1
                have hE0 := Go.Joins.cell_of_block hEq 0; have hE1 := Go.Joins.cell_of_block hEq 1
                have hEl := lt_of_some hEq
                simp at hE0 hE1
                have k1 := HIq.out.c1; have kl := HIq.out.lt
                clear hEq
                go_wp2_with (at_builtin; refine wpList_applE _ rfl (.tmp 47) (.tmp 49) rfl (w3.heap.size + 1) A2 c2 ks (by simp [Act.eval]) (HIq.out.own.alloc _) (some ⟨wq.heap.size, 0, none⟩) 1 1 [(x, y)] rfl (by simp [Act.eval]) (RE_newB _ _ _) (by omega) (by simp; omega) ?_; intro A6 c6 w6 HO6 HB6; have HB7 : Hid (Below (w3.heap.size + 1) wq w6) := (((Below.refl _ _).alloc (by omega) _).trans HB6.out); have f0 : w6.heap[w3.heap.size]? = _ := (HB7.out.block _ (by omega)).trans HIq.out.b7; have f1 := Go.Joins.cell_of_block f0 1; have f2 := Go.Joins.unfrozen_of_block f0 1; have HFF := Lib.hid (HIq.out.push HO6.out HB7.out); clear f0)
                go_roundw
                case rel => exact ⟨k + 1, A6, c6, ks ++ [(x, y)], by omega, by go_num, by simp; omega, HN.out, by show IS _ _ _ _ _ _ _ _; have h := HFF.out; rw [List.length_append, List.length_singleton] at h; exact h⟩
                case measure => simp [RowKit.intOf]; omega
            · have HN : Hid (ks ++ [(x, y)] = (l.take (k + 1)).filter (keepE (p, q))) := by show _ = _; rw [HX2.out, if_pos (by simp [keepE, h1]), ← HK.out]
              have e1 : (x == p) = false := by simpa using h1
              clear h1
              go_wp2
              refine wp_region_over (by kernel_rfl) (by kernel_rfl) ?_
              repeat (go_big_quiet_step (first | (go_at_call 40; exact calls_over (C46.out _))))
              refine wpQuiet_nil ?_
              rintro _ ⟨z, rfl⟩
              have hbx := Lib.hid (over_below _ z)
              generalize over (wr.alloc (.cells #[.int .i64 x, .int .i64 y] 52)) z = wq at hbx ⊢
              have HIq := Lib.hid (HIa.out.go hbx.out)
              have hEq : wq.heap[wr.heap.size]? = some (.cells #[.int .i64 x, .int .i64 y] 52) := (hbx.out.block _ (by simp)).trans (heap_alloc_new wr _)
              clear hE0 hE1 k1 kl hc0 hc1
              have hE0 := Go.Joins.cell_of_block hEq 0; have hE1 := Go.Joins.cell_of_block hEq 1
              have hEl := lt_of_some hEq
              simp at hE0 hE1
              have k1 := HIq.out.c1; have kl := HIq.out.lt
              clear hEq
              go_wp2_with (at_builtin; refine wpList_applE _ rfl (.tmp 47) (.tmp 49) rfl (w3.heap.size + 1) A2 c2 ks (by simp [Act.eval]) (HIq.out.own.alloc _) (some ⟨wq.heap.size, 0, none⟩) 1 1 [(x, y)] rfl (by simp [Act.eval]) (RE_newB _ _ _) (by omega) (by simp; omega) ?_; intro A6 c6 w6 HO6 HB6; have HB7 : Hid (Below (w3.heap.size + 1) wq w6) := (((Below.refl _ _).alloc (by omega) _).trans HB6.out); have f0 : w6.heap[w3.heap.size]? = _ := (HB7.out.block _ (by omega)).trans HIq.out.b7; have f1 := Go.Joins.cell_of_block f0 1; have f2 := Go.Joins.unfrozen_of_block f0 1; have HFF := Lib.hid (HIq.out.push HO6.out HB7.out); clear f0)
              go_roundw
              case rel => exact ⟨k + 1, A6, c6, ks ++ [(x, y)], by omega, by go_num, by simp; omega, HN.out, by show IS _ _ _ _ _ _ _ _; have h := HFF.out; rw [List.length_append, List.length_singleton] at h; exact h⟩
              case measure => simp [RowKit.intOf]; omega
          · have k0 := HI.out.c0; have k1 := HI.out.c1
            have b0 := Go.Joins.cell_of_block HI.out.b4 0; have b1 := Go.Joins.cell_of_block HI.out.b4 1; have d0 := Go.Joins.unfrozen_of_block HI.out.b4 0; have d1 := Go.Joins.unfrozen_of_block HI.out.b4 1
            simp at b0 b1
            have hb4 := (setCell_two (setCell_two HI.out.b4 (v := .int .i64 n)).1 (v := .slice A2 ks.length c2)).2
            have hf0 := Go.Joins.cell_of_block hb4 0; have hf1 := Go.Joins.cell_of_block hb4 1
            simp at hf0 hf1
            have HFin := Lib.hid (HI.out.fin 0 1 (.int .i64 n) (.slice A2 ks.length c2))
            have HR2 : Hid (ks = remL l (p, q)) := by show _ = _; rw [HK.out, List.take_of_length_le (by omega)]; rfl
            clear hb4
            go_wp2
            generalize ((wr.setCell ⟨w.heap.size + 1, 0, none⟩ (.int .i64 n)).setCell ⟨w.heap.size + 1, 1, none⟩ (.slice A2 ks.length c2)) = wf at HFin hf0 hf1 ⊢
            rw [HEG.out, ← HR2.out]
            exact bodyPost_ret (v := .tuple #[.agg #[.int .i64 n, .slice A2 ks.length c2], .int .i64 0]) (by simp [results, Try.results22, go_sem, hf0, hf1]) rfl
              ⟨A2, c2, rfl, RE.of_own HFin.out.1, HFin.out.2⟩
  · have HR : Hid (remE n l u v = X) := by show _ = _; unfold remE; rw [if_neg (by rw [HX.out]; exact hX), HX.out]
    rw [HR.out, if_neg hX, if_neg hX]
    have e1 : (X != 0) = true := by simpa using hX
    clear hX
    go_enter Try.func22, Try.ntmps22
    go_wp2_with fail
    refine (check_any n A c l _ HS0.out.gb.re hl).mono ?_
    rintro e w1 ⟨rfl, hb⟩
    rw [HX.out]
    have HS1 := Lib.hid (HS0.out.go hb)
    clear hb HS0
    have z0 := HS1.out.gb.c0; have z1 := HS1.out.gb.c1; have z2 := HS1.out.gb.lt; have r0 := HS1.out.r0; have r1 := HS1.out.r1; have f0 := HS1.out.f0; have f1 := HS1.out.f1; have l6 := HS1.out.lt6
    have hfin := HS1.out.fin (.int .i64 0) (.slice none 0 0)
    have hf0 := hfin.1; have hf1 := hfin.2.1; have HW := Lib.hid hfin.2.2
    clear hfin
    go_wp2
    generalize ((w1.setCell ⟨w.heap.size + 1, 0, none⟩ (.int .i64 0)).setCell ⟨w.heap.size + 1, 1, none⟩ (.slice none 0 0)) = wf at HW hf0 hf1 ⊢
    exact bodyPost_ret (v := .tuple #[.agg #[.int .i64 0, .slice none 0 0], .int .i64 (X)]) (by simp [results, Try.results22, go_sem, hf0, hf1]) rfl
      ⟨none, 0, rfl, RE.nil_ _ _ _ _, HW.out⟩
end Go.Proofs.Ytioohmhllajifaa
