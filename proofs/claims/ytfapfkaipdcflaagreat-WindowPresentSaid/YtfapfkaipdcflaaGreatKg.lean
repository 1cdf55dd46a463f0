/-
  Where a link stands: slices.BinarySearchFunc at links, locate.
-/
import Derived.Test.YtfapfkaipdcflaaGreatKcf
import Derived.Test.YtfapfkaipdcflaaGreatLm
import Derived.Deep.CutBlock
import Derived.IntWalk
namespace Go.Proofs.YtfapfkaipdcflaaGreat.K
open Go.RowKit Go.Lib

theorem ret_tup2 {a b : Value} {a' b' : Value} (h : a = a') (g : b = b') : Ending.returned (.tuple #[a, b]) = .returned (.tuple #[a', b']) := by rw [h, g]
set_option maxHeartbeats 4000000 in
theorem search_any (A : Option Addr) (c : Nat) (l : List Ls.Lk) (u v x y z t : Int) (w : World) (h : RL w.heap.size w A c l) (ha : Ls.Asc l) (hl : l.length ≤ 65536) :
    Calls Tryz.prog 67 #[.slice A l.length c, .agg #[.int .i64 u, .int .i64 v, .int .i64 x, .int .i64 y, .int .i64 z, .int .i64 t], .func (.func 56) #[] #[]] w fun e w' =>
      e = .returned (.tuple #[.int .i64 (Ls.pos ⟨u, v, x, y, z, t⟩ l), .bool (Ls.fnd ⟨u, v, x, y, z, t⟩ l)]) ∧ Below w.heap.size w w' := by
  have H := Lib.hid h
  have HA := Lib.hid ha
  clear h ha
  have HPL := Lib.hid (Ls.pos_le ⟨u, v, x, y, z, t⟩ l)
  obtain ⟨p, HP⟩ : ∃ p, Hid (Ls.pos ⟨u, v, x, y, z, t⟩ l = p) := ⟨_, rfl⟩
  have hpl : p ≤ l.length := by rw [← HP.out]; exact HPL.out
  rw [HP.out]
  obtain ⟨F, HF⟩ : ∃ F, Hid (Ls.fnd ⟨u, v, x, y, z, t⟩ l = F) := ⟨_, rfl⟩
  rw [HF.out]
  go_enter Tryz.func67, Tryz.ntmps67
  go_wp2
  obtain ⟨g, HG⟩ : ∃ g, Hid (g = w.heap.size) := ⟨_, rfl⟩
  obtain ⟨W1, HW1⟩ : ∃ W1, Hid (W1 = w.alloc (.cells #[.int .i64 u, .int .i64 v, .int .i64 x, .int .i64 y, .int .i64 z, .int .i64 t] 62)) := ⟨_, rfl⟩
  have HBL : Hid (W1.heap[g]? = some (.cells #[.int .i64 u, .int .i64 v, .int .i64 x, .int .i64 y, .int .i64 z, .int .i64 t] 62)) := by show _ = _; rw [HW1.out, HG.out]; exact heap_alloc_new _ _
  have HGL : Hid (g < W1.heap.size) := by show _ < _; rw [HW1.out, HG.out]; simp
  have HB1 : Hid (Below w.heap.size w W1) := by show Below _ _ _; rw [HW1.out]; exact below_new _ _
  have HRE : Hid (RL W1.heap.size W1 A c l) := H.out.up HB1.out
  rw [← HW1.out, ← HG.out]
  clear HW1 HG H
  go_loopw [9, 10] (fun i j wr => ∃ (a b : Nat), i = .int .i64 a ∧ j = .int .i64 b ∧ a ≤ p ∧ p ≤ b ∧ b ≤ l.length ∧ Hid (Below W1.heap.size W1 wr)) (fun i j _ => (RowKit.intOf j).toNat - (RowKit.intOf i).toNat)
  case atStart => exact ⟨0, l.length, rfl, rfl, by omega, hpl, Nat.le_refl _, Below.refl _ _⟩
  case round =>
    obtain ⟨a, b, rfl, rfl, hap, hpb, hbl, HBR⟩ := hrel
    have hblk := (HBR.out.block g HGL.out).trans HBL.out
    have hg := Go.Joins.cell_of_block hblk
    have g0 := hg 0; have g1 := hg 1; have g2 := hg 2; have g3 := hg 3; have g4 := hg 4; have g5 := hg 5
    simp only [List.getElem?_toArray, List.getElem?_cons_succ, List.getElem?_cons_zero] at g0 g1 g2 g3 g4 g5
    have hgl : g < wr.heap.size := Nat.lt_of_lt_of_le HGL.out HBR.out.size
    clear hg hblk
    have HRr := Lib.hid (HRE.out.up HBR.out)
    by_cases hab : a < b
    · obtain ⟨m, hm⟩ : ∃ m, m = (a + b) / 2 := ⟨_, rfl⟩
      have hm1 : a ≤ m := by omega
      have hm2 : m < b := by omega
      obtain ⟨bb, off, ⟨u', v', x', y', z', t'⟩, rfl, hb, hx, c0, c1, c2, c3, c4, c5⟩ := RL.at_ (k := m) HRr.out (by omega)
      dsimp only at c0 c1 c2 c3 c4 c5
      have hlt := Ls.pos_lt ⟨u, v, x, y, z, t⟩ l HA.out m _ hx
      rw [HP.out, ← Ls.cmpL_neg] at hlt
      have C33 := Lib.hid (fun w => cmpL_any u' v' x' y' z' t' u v x y z t w)
      obtain ⟨M, HM⟩ : ∃ M, Hid (Ls.cmpL ⟨u', v', x', y', z', t'⟩ ⟨u, v, x, y, z, t⟩ = M) := ⟨_, rfl⟩
      simp only [HM.out] at C33 hlt
      have fm : ((a : Int) + (b : Int)) / 2 = (m : Int) := by omega
      have HMM := Lib.hid hm
      clear hm hx
      by_cases hM : M < 0
      all_goals
        go_wp2
        refine wp_region_over (by kernel_rfl) (by kernel_rfl) ?_
        repeat (go_big_quiet_step (first | (go_at_call 56; exact calls_over (C33.out _))))
        refine wpQuiet_nil ?_
        rintro _ ⟨zz, rfl⟩
        have hbx := Lib.hid (over_below _ zz)
        clear c0 c1 c2 c3 c4 c5 g0 g1 g2 g3 g4 g5
        go_wp2
        go_roundw
        case rel => first
          | exact ⟨m + 1, b, by go_num, rfl, by omega, hpb, hbl, HBR.out.trans (hbx.out.mono HBR.out.size)⟩
          | exact ⟨a, m, rfl, rfl, hap, by omega, by omega, HBR.out.trans (hbx.out.mono HBR.out.size)⟩
        case measure => simp [RowKit.intOf]; omega
    · obtain rfl : a = p := by omega
      obtain rfl : b = a := by omega
      by_cases hin : b < l.length
      · obtain ⟨bb, off, ⟨u', v', x', y', z', t'⟩, rfl, hb, hx, c0, c1, c2, c3, c4, c5⟩ := RL.at_ (k := b) HRr.out hin
        dsimp only at c0 c1 c2 c3 c4 c5
        have HQ : Hid (F = decide (Ls.cmpL ⟨u', v', x', y', z', t'⟩ ⟨u, v, x, y, z, t⟩ = 0)) := by
          show _ = _
          rw [← HF.out, Ls.fnd, HP.out, hx]
          have := Ls.cmpL_zero ⟨u', v', x', y', z', t'⟩ ⟨u, v, x, y, z, t⟩
          cases hs : Ls.same ⟨u', v', x', y', z', t'⟩ ⟨u, v, x, y, z, t⟩ with
          | true => simp [this.2 hs, hs]
          | false => simp [hs]; rw [this, hs]; decide
        have C33 := Lib.hid (fun w => cmpL_any u' v' x' y' z' t' u v x y z t w)
        obtain ⟨M, HM⟩ : ∃ M, Hid (Ls.cmpL ⟨u', v', x', y', z', t'⟩ ⟨u, v, x, y, z, t⟩ = M) := ⟨_, rfl⟩
        simp only [HM.out] at C33 HQ
        clear hx
        have hd : decide (b < l.length) = true := by simpa using hin
        by_cases hM : M = 0
        · have HQ2 : Hid (F = true) := HQ.out.trans (by simp [hM])
          subst hM
          clear HQ
          obtain rfl := HQ2.out
          go_wp2
          refine wp_region_over (by kernel_rfl) (by kernel_rfl) ?_
          repeat (go_big_quiet_step (first | (go_at_call 56; exact calls_over (C33.out _))))
          refine wpQuiet_nil ?_
          rintro _ ⟨zz, rfl⟩
          have hbx := Lib.hid (over_below _ zz)
          clear c0 c1 c2 c3 c4 c5 g0 g1 g2 g3 g4 g5
          go_wp2
          go_ret2
          exact ⟨rfl, HB1.out.trans ((HBR.out.trans (hbx.out.mono HBR.out.size)).mono HB1.out.size)⟩
        · have HQ2 : Hid (F = false) := HQ.out.trans (by simp [hM])
          have hm1 : (M == 0) = false := by simpa using hM
          clear HQ hM
          obtain rfl := HQ2.out
          go_wp2
          refine wp_region_over (by kernel_rfl) (by kernel_rfl) ?_
          repeat (go_big_quiet_step (first | (go_at_call 56; exact calls_over (C33.out _))))
          refine wpQuiet_nil ?_
          rintro _ ⟨zz, rfl⟩
          have hbx := Lib.hid (over_below _ zz)
          clear c0 c1 c2 c3 c4 c5 g0 g1 g2 g3 g4 g5
          go_wp2
          go_ret2
          exact ⟨rfl, HB1.out.trans ((HBR.out.trans (hbx.out.mono HBR.out.size)).mono HB1.out.size)⟩
      · have HQ2 : Hid (F = false) := by
          show _ = _
          rw [← HF.out, Ls.fnd, HP.out, List.getElem?_eq_none (by omega)]
        have hd : decide (b < l.length) = false := by simpa using hin
        obtain rfl := HQ2.out
        go_wp2
        refine wp_region_over (by kernel_rfl) (by kernel_rfl) ?_
        repeat (go_big_quiet_step (fail))
        refine wpQuiet_nil ?_
        rintro _ ⟨zz, rfl⟩
        have hbx := Lib.hid (over_below _ zz)
        clear g0 g1 g2 g3 g4 g5
        go_wp2
        go_ret2
        exact ⟨rfl, HB1.out.trans ((HBR.out.trans (hbx.out.mono HBR.out.size)).mono HB1.out.size)⟩
theorem locate_any (A : Option Addr) (c : Nat) (l : List Ls.Lk) (u v x y z t : Int) (w : World) (h : RL w.heap.size w A c l) (ha : Ls.Asc l) (hl : l.length ≤ 65536) :
    Calls Tryz.prog 89 #[.slice A l.length c, .agg #[.int .i64 u, .int .i64 v, .int .i64 x, .int .i64 y, .int .i64 z, .int .i64 t]] w fun e w' =>
      e = .returned (.tuple #[.int .i64 (Ls.pos ⟨u, v, x, y, z, t⟩ l), .bool (Ls.fnd ⟨u, v, x, y, z, t⟩ l)]) ∧ Below w.heap.size w w' := by
  have HC := Lib.hid (search_any A c l u v x y z t _ (h.up (below_new w (.cells #[.int .i64 u, .int .i64 v, .int .i64 x, .int .i64 y, .int .i64 z, .int .i64 t] 62))) ha hl)
  have HB := Lib.hid (below_new w (.cells #[.int .i64 u, .int .i64 v, .int .i64 x, .int .i64 y, .int .i64 z, .int .i64 t] 62))
  generalize Ls.pos ⟨u, v, x, y, z, t⟩ l = p at HC ⊢
  generalize Ls.fnd ⟨u, v, x, y, z, t⟩ l = F at HC ⊢
  clear h ha
  go_enter Tryz.func89, Tryz.ntmps89
  go_wp2_with fail
  refine HC.out.mono ?_
  rintro e w1 ⟨rfl, hb⟩
  have HB1 := Lib.hid (HB.out.trans (hb.mono HB.out.size))
  clear hb HC
  go_wp2
  go_ret2
  exact ⟨rfl, HB1.out⟩
end Go.Proofs.YtfapfkaipdcflaaGreat.K
