/-
  The extent of a window: a map of functions.
-/
import Derived.Test.YtfapfkaipdcflaaGreatSm
import Derived.Maps.OwnSet
import Derived.Maps.OwnOps
import Derived.Deep.RegionLaw
namespace Go.Proofs.YtfapfkaipdcflaaGreat
open Go.RowKit Go.Lib

theorem ret_ext {fn : Func} {R : Ending → World → Prop} {a : Act} {w : World} {b : Bool} (hres : fn.results = #[.cell 2 74, .tmp 3]) (hd : a.defers = []) (g : Nat) (hp : a.tmps.getD 2 undef = .pointer (some ⟨g, 0, none⟩)) (h3 : a.tmps.getD 3 undef = .bool b)
    {v0 v1 : Value} (hb : w.heap[g]? = some (.cells #[v0, v1] 74 (0, 0))) (h : R (.returned (.tuple #[.agg #[v0, v1], .bool b])) w) : bodyPost Tryz.prog fn R .ret a w := by
  have hc := Go.Joins.cell_of_block hb
  have y0 := hc 0; have y1 := hc 1
  simp only [List.getElem?_toArray, List.getElem?_cons_succ, List.getElem?_cons_zero] at y0 y1
  have hp' : (a.tmps[2]?).getD undef = .pointer (some ⟨g, 0, none⟩) := by simpa using hp
  have h3' : (a.tmps[3]?).getD undef = .bool b := by simpa using h3
  refine bodyPost_ret (v := .tuple #[.agg #[v0, v1], .bool b]) ?_ hd h
  clear hp h3 h hd hb hc
  simp [results, hres, go_sem, hp', h3', y0, y1]
theorem two_drew (w : World) (o1 o2 : Obj) (n : Nat) : (((w.alloc o1).alloc o2).drewN n).heap[w.heap.size + 1]? = some o2 ∧ Below w.heap.size w (((w.alloc o1).alloc o2).drewN n) := by
  refine ⟨?_, ((below_new w o1).alloc (by simp) o2).trans ⟨rfl, rfl, rfl, Nat.le_refl _, fun _ _ => rfl⟩⟩
  have := heap_alloc_new (w.alloc o1) o2
  simpa [World.drewN] using this
set_option maxHeartbeats 2000000 in
theorem allLinks_any (k W M : Int) (w : World) : Calls Tryz.prog 52 #[.agg #[.int .i64 k, .int .i64 W, .int .i64 M]] w fun e w' => e = .returned (.tuple #[.agg #[.int .i64 1048577, .int .i64 2016], .bool (decide (W = 0) && decide (M = 0))]) ∧ Below w.heap.size w w' := by
  obtain ⟨R, HR⟩ : ∃ R, Hid ((decide (W = 0) && decide (M = 0)) = R) := ⟨_, rfl⟩
  rw [HR.out]
  by_cases h1 : W = 0
  · have d1 : (W == 0) = true := by simpa using h1
    go_enter Tryz.func52, Tryz.ntmps52
    go_wp2
    go_region
    all_goals go_wp2
    all_goals
      refine ret_ext (b := R) rfl rfl (w.heap.size + 1) rfl ?_ (two_drew _ _ _ 1).1 ⟨rfl, (two_drew _ _ _ 1).2⟩
      show Value.bool _ = Value.bool R
      congr 1
      rw [← HR.out]
      clear HR
      first | rfl | (simp_all; done) | (rw [Bool.eq_iff_iff]; simp_all; done) | grind
  · have d1 : (W == 0) = false := by simpa using h1
    go_enter Tryz.func52, Tryz.ntmps52
    go_wp2
    go_region
    all_goals go_wp2
    all_goals
      refine ret_ext (b := R) rfl rfl (w.heap.size + 1) rfl ?_ (two_drew _ _ _ 1).1 ⟨rfl, (two_drew _ _ _ 1).2⟩
      show Value.bool _ = Value.bool R
      congr 1
      rw [← HR.out]
      clear HR
      first | rfl | (simp_all; done) | (rw [Bool.eq_iff_iff]; simp_all; done) | grind
set_option maxHeartbeats 2000000 in
theorem recentLinks_any (k W M : Int) (w : World) : Calls Tryz.prog 53 #[.agg #[.int .i64 k, .int .i64 W, .int .i64 M]] w fun e w' => e = .returned (.tuple #[.agg #[.int .i64 W, .int .i64 2016], .bool (decide (1 ≤ W) && decide (W ≤ 1048576) && decide (M = 0))]) ∧ Below w.heap.size w w' := by
  obtain ⟨R, HR⟩ : ∃ R, Hid ((decide (1 ≤ W) && decide (W ≤ 1048576) && decide (M = 0)) = R) := ⟨_, rfl⟩
  rw [HR.out]
  by_cases h2 : 1 ≤ W
  · have d2 : decide (1 ≤ W) = true := by simpa using h2
    by_cases h1 : W ≤ 1048576
    · have d1 : decide (W ≤ 1048576) = true := by simpa using h1
      go_enter Tryz.func53, Tryz.ntmps53
      go_wp2
      go_region
      all_goals go_wp2
      all_goals
        refine ret_ext (b := R) rfl rfl (w.heap.size + 1) rfl ?_ (two_drew _ _ _ 1).1 ⟨rfl, (two_drew _ _ _ 1).2⟩
        show Value.bool _ = Value.bool R
        congr 1
        rw [← HR.out]
        clear HR
        first | rfl | (simp_all; done) | (rw [Bool.eq_iff_iff]; simp_all; done) | grind
    · have d1 : decide (W ≤ 1048576) = false := by simpa using h1
      go_enter Tryz.func53, Tryz.ntmps53
      go_wp2
      go_region
      all_goals go_wp2
      all_goals
        refine ret_ext (b := R) rfl rfl (w.heap.size + 1) rfl ?_ (two_drew _ _ _ 1).1 ⟨rfl, (two_drew _ _ _ 1).2⟩
        show Value.bool _ = Value.bool R
        congr 1
        rw [← HR.out]
        clear HR
        first | rfl | (simp_all; done) | (rw [Bool.eq_iff_iff]; simp_all; done) | grind
  · have d2 : decide (1 ≤ W) = false := by simpa using h2
    go_enter Tryz.func53, Tryz.ntmps53
    go_wp2
    go_region
    all_goals go_wp2
    all_goals
      refine ret_ext (b := R) rfl rfl (w.heap.size + 1) rfl ?_ (two_drew _ _ _ 1).1 ⟨rfl, (two_drew _ _ _ 1).2⟩
      show Value.bool _ = Value.bool R
      congr 1
      rw [← HR.out]
      clear HR
      first | rfl | (simp_all; done) | (rw [Bool.eq_iff_iff]; simp_all; done) | grind
set_option maxHeartbeats 2000000 in
theorem lastLinks_any (k W M : Int) (w : World) : Calls Tryz.prog 54 #[.agg #[.int .i64 k, .int .i64 W, .int .i64 M]] w fun e w' => e = .returned (.tuple #[.agg #[.int .i64 1048577, .int .i64 M], .bool (decide (W = 0) && decide (0 ≤ M) && decide (M ≤ 2016))]) ∧ Below w.heap.size w w' := by
  obtain ⟨R, HR⟩ : ∃ R, Hid ((decide (W = 0) && decide (0 ≤ M) && decide (M ≤ 2016)) = R) := ⟨_, rfl⟩
  rw [HR.out]
  by_cases h2 : W = 0
  · have d2 : (W == 0) = true := by simpa using h2
    by_cases h1 : 0 ≤ M
    · have d1 : decide (0 ≤ M) = true := by simpa using h1
      go_enter Tryz.func54, Tryz.ntmps54
      go_wp2
      go_region
      all_goals go_wp2
      all_goals
        refine ret_ext (b := R) rfl rfl (w.heap.size + 1) rfl ?_ (two_drew _ _ _ 1).1 ⟨rfl, (two_drew _ _ _ 1).2⟩
        show Value.bool _ = Value.bool R
        congr 1
        rw [← HR.out]
        clear HR
        first | rfl | (simp_all; done) | (rw [Bool.eq_iff_iff]; simp_all; done) | grind
    · have d1 : decide (0 ≤ M) = false := by simpa using h1
      go_enter Tryz.func54, Tryz.ntmps54
      go_wp2
      go_region
      all_goals go_wp2
      all_goals
        refine ret_ext (b := R) rfl rfl (w.heap.size + 1) rfl ?_ (two_drew _ _ _ 1).1 ⟨rfl, (two_drew _ _ _ 1).2⟩
        show Value.bool _ = Value.bool R
        congr 1
        rw [← HR.out]
        clear HR
        first | rfl | (simp_all; done) | (rw [Bool.eq_iff_iff]; simp_all; done) | grind
  · have d2 : (W == 0) = false := by simpa using h2
    go_enter Tryz.func54, Tryz.ntmps54
    go_wp2
    go_region
    all_goals go_wp2
    all_goals
      refine ret_ext (b := R) rfl rfl (w.heap.size + 1) rfl ?_ (two_drew _ _ _ 1).1 ⟨rfl, (two_drew _ _ _ 1).2⟩
      show Value.bool _ = Value.bool R
      congr 1
      rw [← HR.out]
      clear HR
      first | rfl | (simp_all; done) | (rw [Bool.eq_iff_iff]; simp_all; done) | grind
end Go.Proofs.YtfapfkaipdcflaaGreat
