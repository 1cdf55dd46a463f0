/-
  Package graph's Find, Neighbours, Degree.
-/
import Derived.Test.YtioohmhllajifaaGreatHb
import Derived.Test.YtioohmhllajifaaGreatGd
namespace Go.Proofs.YtioohmhllajifaaGreat
open Go.RowKit Go.Lib

theorem some_lt {wr : World} {k : Nat} {o : Obj} (h : wr.heap[k]? = some o) : k < wr.heap.size := (Array.getElem?_eq_some_iff.1 h).1
set_option maxHeartbeats 2000000 in
theorem gfind_any (n : Int) (A : Option Addr) (c : Nat) (l : List Ed) (u v : Int) (w : World) (h : RE w.heap.size w A c l) (hl : l.length ≤ 65536) :
    Calls Tryz.prog 9 #[.agg #[.int .i64 n, .slice A l.length c], .int .i64 u, .int .i64 v] w fun e w' => e = .returned (.int .i64 (find n l u v)) ∧ Below w.heap.size w w' := by
  have HG0 := Lib.hid (Gb.start (n := n) h)
  clear h
  obtain ⟨X, HX⟩ : ∃ X, Hid (chk n l = X) := ⟨_, rfl⟩
  by_cases hX : X = 0
  · subst hX
    have HF := Lib.hid (show find n l u v = fnd (edg u v) 0 l by unfold find; rw [if_pos HX.out])
    have C35 := Lib.hid (fun w => between_any u v w)
    obtain ⟨p, Hp⟩ : ∃ p, Hid (p = min u v) := ⟨_, rfl⟩
    obtain ⟨q, Hq⟩ : ∃ q, Hid (q = max u v) := ⟨_, rfl⟩
    rw [← Hp.out, ← Hq.out] at C35
    go_enter Tryz.func9, Tryz.ntmps9
    go_wp2_with fail
    refine (gcheck_any n A c l _ HG0.out.re hl).mono ?_
    rintro e w1 ⟨rfl, hb⟩
    rw [HX.out]
    have HG1 := Lib.hid (HG0.out.go hb)
    clear hb HG0
    go_wp2_with fail
    refine (C35.out _).mono ?_
    rintro e w2 ⟨rfl, hb⟩
    have HG2 := Lib.hid (HG1.out.go hb)
    have z1 := HG2.out.c0; have z2 := HG2.out.c1; have z3 := HG2.out.lt
    clear hb HG1
    go_wp2
    obtain ⟨g, Hg⟩ : ∃ g, Hid (g = w.heap.size) := ⟨_, rfl⟩
    obtain ⟨g7, Hg7⟩ : ∃ g7, Hid (g7 = w2.heap.size) := ⟨_, rfl⟩
    rw [← Hg.out] at HG2 z1 z2 z3 ⊢
    rw [← Hg7.out]
    have HG := Lib.hid (HG2.out.go ((Below.refl _ _).alloc (Nat.le_refl _) (.cells #[.int .i64 p, .int .i64 q] 53)))
    have H7 : Hid ((w2.alloc (.cells #[.int .i64 p, .int .i64 q] 53)).heap[g7]? = some (.cells #[.int .i64 p, .int .i64 q] 53)) := by show _ = _; rw [Hg7.out]; exact heap_alloc_new _ _
    clear z1 z2 z3 Hg Hg7 HG2
    go_loopw [19] (fun i wr => ∃ (k : Nat), k ≤ l.length ∧ i = .int .i64 k ∧ Hid (Gb w g n A c l wr) ∧ Hid (wr.heap[g7]? = some (.cells #[.int .i64 p, .int .i64 q] 53)) ∧ Hid (find n l u v = fnd (edg u v) k (l.drop k))) (fun i _ => l.length - (RowKit.intOf i).toNat)
    case atStart => exact ⟨0, Nat.zero_le _, rfl, HG.out, H7.out, HF.out⟩
    case round =>
      obtain ⟨k, hk, rfl, HR, HS, HN⟩ := hrel
      by_cases hlt : k < l.length
      · obtain ⟨b, off, x, y, rfl, hb, hx, hc0, hc1⟩ := HR.out.re.let_ hlt
        have HXk := Lib.hid hx
        clear hx
        have HRa := Lib.hid (HR.out.go ((Below.refl _ _).alloc (Nat.le_refl _) (.cells #[.int .i64 x, .int .i64 y] 53)))
        have HSa := Lib.hid ((Below.heap_alloc wr (.cells #[.int .i64 x, .int .i64 y] 53) _ (some_lt HS.out)).trans HS.out)
        have s0 := Go.Joins.cell_of_block HS.out 0; have s1 := Go.Joins.cell_of_block HS.out 1; have sl := some_lt HS.out
        simp at s0 s1
        by_cases h1 : x = p ∧ y = q
        · obtain ⟨rfl, rfl⟩ := h1
          have e1 : (x == x) = true := by simp
          have e2 : (y == y) = true := by simp
          have HRR := Lib.hid (HN.out.trans (fnd_hit (edg u v) l k (by rw [HXk.out, edg, ← Hp.out, ← Hq.out])))
          go_wp2
          go_ret
          exact ⟨ret_int HRR.out.symm, HRa.out.bel⟩
        · have HRR := Lib.hid (HN.out.trans (fnd_next (edg u v) (x, y) l k HXk.out (by
            rw [edg, ← Hp.out, ← Hq.out]; intro h0; injection h0 with h2 h3; exact h1 ⟨h2, h3⟩)))
          rcases (show x ≠ p ∨ (x = p ∧ y ≠ q) by
            by_cases hxp : x = p
            · exact .inr ⟨hxp, fun h2 => h1 ⟨hxp, h2⟩⟩
            · exact .inl hxp) with h2 | ⟨h2, h3⟩
          · have e1 : (x == p) = false := by simpa using h2
            clear h1 h2
            go_wp2
            go_roundw
            case rel => exact ⟨k + 1, by omega, by go_num, HRa.out, HSa.out, HRR.out⟩
            case measure => simp [RowKit.intOf]; omega
          · subst h2
            have e1 : (x == x) = true := by simp
            have e2 : (y == q) = false := by simpa using h3
            clear h1 h3
            go_wp2
            go_roundw
            case rel => exact ⟨k + 1, by omega, by go_num, HRa.out, HSa.out, HRR.out⟩
            case measure => simp [RowKit.intOf]; omega
      · have HRR := Lib.hid (HN.out.trans (fnd_end (edg u v) l k (by omega)))
        go_wp2
        go_ret
        exact ⟨ret_int HRR.out.symm, HR.out.bel⟩
  · have HF := Lib.hid (show find n l u v = -1 by unfold find; rw [if_neg (by rw [HX.out]; exact hX)])
    have e1 : (X != 0) = true := by simpa using hX
    clear hX
    go_enter Tryz.func9, Tryz.ntmps9
    go_wp2_with fail
    refine (gcheck_any n A c l _ HG0.out.re hl).mono ?_
    rintro e w1 ⟨rfl, hb⟩
    rw [HX.out]
    have HG := Lib.hid (HG0.out.go hb)
    clear hb HG0
    go_wp2
    go_ret
    exact ⟨ret_int HF.out.symm, HG.out.bel⟩
end Go.Proofs.YtioohmhllajifaaGreat
