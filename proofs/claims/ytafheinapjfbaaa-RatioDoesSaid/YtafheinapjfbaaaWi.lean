/- The walk of the reference's gcd. -/
import Derived.Test.YtafheinapjfbaaaWh
import Derived.Deep.LoopGhost
namespace Go.Proofs.Ytafheinapjfbaaa
open Go.RowKit Go.Lib Go.BigFrame
/-- the memory of gcd: two numbers and the place of the result -/
structure GcdMem (w wr : World) (a b : Nat) : Prop where
  B : Below w.heap.size w wr
  a : Blk2 wr w.heap.size 49 (.int .u64 (hN a)) (.int .u64 (lN a))
  b : Blk2 wr (w.heap.size + 1) 49 (.int .u64 (hN b)) (.int .u64 (lN b))
  x : Blk2 wr (w.heap.size + 1 + 1) 49 (.int .u64 0) (.int .u64 0)
namespace GcdMem
variable {w wr wr' : World} {a b : Nat}
theorem below (M : GcdMem w wr a b) (hb : Below wr.heap.size wr wr') : GcdMem w wr' a b :=
  ⟨M.B.trans (hb.mono M.B.size), M.a.below hb M.a.lt, M.b.below hb M.b.lt, M.x.below hb M.x.lt⟩
theorem step (M : GcdMem w wr a b) (x y : Nat) (u v : Value) (u' v' : Value) : GcdMem w
    ((((((wr.setCell ⟨w.heap.size, 0, none⟩ (.int .u64 (hN x))).setCell ⟨w.heap.size, 1, none⟩ (.int .u64 (lN x))).setCell ⟨w.heap.size + 1, 0, none⟩ (.int .u64 (hN y))).setCell
      ⟨w.heap.size + 1, 1, none⟩ (.int .u64 (lN y))).alloc (.cells #[u, v] 49)).alloc (.cells #[u', v'] 49)).drew x y := by
  have hB := M.B
  have ha := ((((((M.a.set0 (.int .u64 (hN x))).set1 (.int .u64 (lN x))).other (p := ⟨w.heap.size + 1, 0, none⟩) (by dsimp only; omega) (.int .u64 (hN y))).other (p := ⟨w.heap.size + 1, 1, none⟩) (by dsimp only; omega) (.int .u64 (lN y))).alloc (.cells #[u, v] 49)).alloc (.cells #[u', v'] 49)).drewN 1
  have hb := ((((((M.b.other (p := ⟨w.heap.size, 0, none⟩) (by dsimp only; omega) (.int .u64 (hN x))).other (p := ⟨w.heap.size, 1, none⟩) (by dsimp only; omega) (.int .u64 (lN x))).set0 (.int .u64 (hN y))).set1 (.int .u64 (lN y))).alloc (.cells #[u, v] 49)).alloc (.cells #[u', v'] 49)).drewN 1
  have hx := ((((((M.x.other (p := ⟨w.heap.size, 0, none⟩) (by dsimp only; omega) (.int .u64 (hN x))).other (p := ⟨w.heap.size, 1, none⟩) (by dsimp only; omega) (.int .u64 (lN x))).other (p := ⟨w.heap.size + 1, 0, none⟩) (by dsimp only; omega) (.int .u64 (hN y))).other (p := ⟨w.heap.size + 1, 1, none⟩) (by dsimp only; omega) (.int .u64 (lN y))).alloc (.cells #[u, v] 49)).alloc (.cells #[u', v'] 49)).drewN 1
  refine ⟨?_, ha, hb, hx⟩
  refine Below.drew (Below.alloc (Below.alloc ?_ (by have := hB.size; simp; omega) _) (by have := hB.size; simp; omega) _)
  exact (((hB.setCell (by dsimp only; omega) _).setCell (by dsimp only; omega) _).setCell (by dsimp only; omega) _).setCell (by dsimp only; omega) _
end GcdMem
theorem gcd_start (w : World) (a b : Nat) : GcdMem w
   (((w.alloc (.cells #[.int .u64 (hN a), .int .u64 (lN a)] 49)).alloc (.cells #[.int .u64 (hN b), .int .u64 (lN b)] 49)).alloc (.cells #[.int .u64 0, .int .u64 0] 49)) a b := by
  refine ⟨by go_grown, ?_, ?_, ?_⟩ <;> (repeat' (first | (refine Blk2.new' ?_; simp; done) | (refine Blk2.alloc ?_ _)))
theorem divN_any (a b : Nat) (h1 : a < 340282366920938463463374607431768211456) (h2 : b < 170141183460469231731687303715884105728) (hp : 0 < b) (w : World) :
    Calls Try.prog 47 #[.agg #[.int .u64 (hN a), .int .u64 (lN a)], .agg #[.int .u64 (hN b), .int .u64 (lN b)]] w fun e w' =>
      e = .returned (.tuple #[.agg #[.int .u64 (hN (a / b)), .int .u64 (lN (a / b))], .agg #[.int .u64 (hN (a % b)), .int .u64 (lN (a % b))]]) ∧ Below w.heap.size w w' :=
  divide_any (hN a) (lN a) (hN b) (lN b) a b w (hN_lt _) (lN_lt _) (by unfold hN; omega) (lN_lt _) (uw_nat _ h1) (uw_nat _ (by omega)) hp
set_option maxHeartbeats 1000000 in
theorem gcd_any (A B : Nat) (w : World) (h1 : A < 340282366920938463463374607431768211456) (h2 : B < 170141183460469231731687303715884105728) :
    Calls Try.prog 34 #[.agg #[.int .u64 (hN A), .int .u64 (lN A)], .agg #[.int .u64 (hN B), .int .u64 (lN B)]] w fun e w' =>
      e = .returned (.agg #[.int .u64 (hN (Nat.gcd A B)), .int .u64 (lN (Nat.gcd A B))]) ∧ Below w.heap.size w w' := by
  go_enter Try.func34, Try.ntmps34
  go_wp2
  go_loopg [] B (fun k wr => ∃ a b : Nat, b ≤ k ∧ a < 340282366920938463463374607431768211456 ∧ b < 170141183460469231731687303715884105728 ∧ Nat.gcd a b = Nat.gcd A B ∧ GcdMem w wr a b)
  case atStart => exact ⟨A, B, Nat.le_refl _, h1, h2, rfl, gcd_start w A B⟩
  case round =>
    obtain ⟨a, b, hk, ha, hb, hg, hM⟩ := hrel
    have HG := Lib.hid hg; clear hg
    have HM := Lib.hid hM
    have ca0 := hM.a.c0; have ca1 := hM.a.c1; have cb0 := hM.b.c0; have cb1 := hM.b.c1
    have fa0 := hM.a.f0; have fa1 := hM.a.f1; have fb0 := hM.b.f0; have fb1 := hM.b.f1
    have za := hM.a.lt; have zb := hM.b.lt
    by_cases h0 : b = 0
    · subst h0
      have cx0 := hM.x.c0; have cx1 := hM.x.c1; have fx0 := hM.x.f0; have fx1 := hM.x.f1; have zx := hM.x.lt
      have hB := hM.B
      clear hM
      rw [show hN 0 = 0 from rfl] at cb0
      rw [show lN 0 = 0 from rfl] at cb1
      go_wp2
      refine bodyPost_ret (v := .agg #[.int .u64 (hN a), .int .u64 (lN a)]) (by simp [results, Try.results34, go_sem, *]) rfl ⟨?_, by go_grown⟩
      rw [← HG.out, Nat.gcd_zero_right]
    · clear hM
      have hp : 0 < b := by omega
      have hcase : ((hN b : Int) == 0) = false ∨ ((hN b : Int) == 0) = true ∧ ((lN b : Int) == 0) = false := by
        by_cases h : hN b = 0
        · refine Or.inr ⟨by rw [h]; rfl, ?_⟩
          rw [beq_eq_false_iff_ne]
          unfold hN at h; unfold lN; omega
        · exact Or.inl (by rw [beq_eq_false_iff_ne]; omega)
      rcases hcase with hc0 | ⟨hc0, hc1⟩
      all_goals
        go_wp2_with fail
        refine (divN_any a b ha hb hp _).mono ?_
        rintro e w1 ⟨rfl, hb1⟩
        have M1 := HM.out.below hb1
        clear hb1 ca0 ca1 cb0 cb1 fa0 fa1 fb0 fb1 za zb
        have ca0 := M1.a.c0; have ca1 := M1.a.c1; have cb0 := M1.b.c0; have cb1 := M1.b.c1
        have fa0 := M1.a.f0; have fa1 := M1.a.f1; have fb0 := M1.b.f0; have fb1 := M1.b.f1
        have za := M1.a.lt; have zb := M1.b.lt
        have HM1 := Lib.hid M1; clear M1
        go_wp2
        go_region
        all_goals
          go_wp2
          go_roundg (a % b)
          case measure => have := Nat.mod_lt a hp; omega
          case rel =>
            have hl := Nat.mod_lt a hp
            refine ⟨b, a % b, Nat.le_refl _, by omega, by omega, by rw [← HG.out, Nat.gcd_comm b, ← Nat.gcd_rec, Nat.gcd_comm], ?_⟩
            exact HM1.out.step b (a % b) _ _ _ _
end Go.Proofs.Ytafheinapjfbaaa
