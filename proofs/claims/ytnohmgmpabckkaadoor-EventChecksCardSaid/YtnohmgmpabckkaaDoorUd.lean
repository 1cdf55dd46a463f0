/-
  An event with something changed.
-/
import Derived.Test.YtnohmgmpabckkaaDoorVw
import Derived.Test.YtnohmgmpabckkaaDoorIy
namespace Go.Proofs.YtnohmgmpabckkaaDoor
open Go.RowKit Go.Lib

theorem emod_lit (x n : Int) (hn : 0 < n) : 0 ≤ (x.tmod n + n) % n ∧ (x.tmod n + n) % n < n := ⟨Int.emod_nonneg _ (by omega), Int.emod_lt_of_pos _ hn⟩
/-- what odd answers: some event -/
def OddP (w : World) (en : Ending) (w' : World) : Prop :=
  ∃ k t u v x y z : Int, en = .returned (.agg #[.int .i64 k, .int .i64 t, .int .i64 u, .int .i64 v, .int .i64 x, .int .i64 y, .int .i64 z]) ∧ Below w.heap.size w w'
/-- the changed event's block, while it is changed -/
def JO (g : Nat) (w : World) : Prop := ∃ k t u v x y z : Int, w.heap[g]? = some (.cells #[.int .i64 k, .int .i64 t, .int .i64 u, .int .i64 v, .int .i64 x, .int .i64 y, .int .i64 z] 23 (0, 0))
theorem JO.new {g : Nat} {w : World} (h : JO g w) (o : Obj) : JO g (w.alloc o) := by
  obtain ⟨k, t, u, v, x, y, z, h⟩ := h
  exact ⟨k, t, u, v, x, y, z, (heap_alloc_old _ _ (Array.getElem?_eq_some_iff.1 h).1).trans h⟩
theorem JO.set3 {g : Nat} {w : World} (h : JO g w) (q : Int) : JO g (w.setCell ⟨g, 3, none⟩ (.int .i64 q)) := by
  obtain ⟨k, t, u, v, x, y, z, h⟩ := h
  exact ⟨k, t, u, q, x, y, z, by simp [World.setCell, Array.getElem?_modify, h]⟩
/-- a new list of four numbers -/
def L4 (g h : Nat) (w : World) : Prop := h ≠ g ∧ ∃ q : Int, w.heap[h]? = some (.cells #[.int .i64 (-1), .int .i64 63, .int .i64 64, .int .i64 q] 3 (0, 0))
theorem L4.keep {g h : Nat} {w w' : World} (x : L4 g h w) (hg : w.grownBy w' (some g)) : L4 g h w' := by
  obtain ⟨hn, q, hq⟩ := x
  exact ⟨hn, q, (hg.block h (Array.getElem?_eq_some_iff.1 hq).1 (by simpa using hn)).trans hq⟩
theorem L4.cell {g h m : Nat} {w : World} (x : L4 g h w) (hm : m < 4) : ∃ q : Int, w.cell? ⟨h, m, none⟩ = some (.int .i64 q) := by
  obtain ⟨-, q, hq⟩ := x
  have hc := Go.Joins.cell_of_block hq
  obtain h | h | h | h : m = 0 ∨ m = 1 ∨ m = 2 ∨ m = 3 := by omega
  · subst h; exact ⟨_, hc 0⟩
  · subst h; exact ⟨_, hc 1⟩
  · subst h; exact ⟨_, hc 2⟩
  · subst h; exact ⟨_, hc 3⟩
theorem odd_fin {w : World} {a : Act} (hd : a.defers = []) (hp : a.tmps.getD 6 undef = .pointer (some ⟨w.heap.size + 1, 0, none⟩)) (W : World) (hb : W.heap[w.heap.size + 1]? = some (.cells #[.int .i64 0, .int .i64 0, .int .i64 0, .int .i64 0, .int .i64 0, .int .i64 0, .int .i64 0] 23 (0, 0))) (hw : Below w.heap.size w W) (k t u v x y z : Int) :
    bodyPost Tryd.prog Tryd.f11 (OddP w) .ret a (((((((W.setCell ⟨w.heap.size + 1, 0, none⟩ (.int .i64 k)).setCell ⟨w.heap.size + 1, 1, none⟩ (.int .i64 t)).setCell ⟨w.heap.size + 1, 2, none⟩ (.int .i64 u)).setCell ⟨w.heap.size + 1, 3, none⟩ (.int .i64 v)).setCell ⟨w.heap.size + 1, 4, none⟩ (.int .i64 x)).setCell ⟨w.heap.size + 1, 5, none⟩ (.int .i64 y)).setCell ⟨w.heap.size + 1, 6, none⟩ (.int .i64 z)) := by
  have hblk := set7_blk W (w.heap.size + 1) _ _ _ _ _ _ _ hb (.int .i64 k) (.int .i64 t) (.int .i64 u) (.int .i64 v) (.int .i64 x) (.int .i64 y) (.int .i64 z)
  have hbel := below_set7 hw (show w.heap.size ≤ w.heap.size + 1 by omega) (.int .i64 k) (.int .i64 t) (.int .i64 u) (.int .i64 v) (.int .i64 x) (.int .i64 y) (.int .i64 z)
  generalize (((((((W.setCell ⟨w.heap.size + 1, 0, none⟩ (.int .i64 k)).setCell ⟨w.heap.size + 1, 1, none⟩ (.int .i64 t)).setCell ⟨w.heap.size + 1, 2, none⟩ (.int .i64 u)).setCell ⟨w.heap.size + 1, 3, none⟩ (.int .i64 v)).setCell ⟨w.heap.size + 1, 4, none⟩ (.int .i64 x)).setCell ⟨w.heap.size + 1, 5, none⟩ (.int .i64 y)).setCell ⟨w.heap.size + 1, 6, none⟩ (.int .i64 z)) = W9 at hblk hbel ⊢
  exact ret_struct1 (p := 6) Tryd.results11 hd (w.heap.size + 1) hp hblk ⟨k, t, u, v, x, y, z, rfl, hbel⟩
theorem odd_finA {w : World} {a : Act} (hd : a.defers = []) (hp : a.tmps.getD 6 undef = .pointer (some ⟨w.heap.size + 1, 0, none⟩)) (W : World) (hb : W.heap[w.heap.size + 1]? = some (.cells #[.int .i64 0, .int .i64 0, .int .i64 0, .int .i64 0, .int .i64 0, .int .i64 0, .int .i64 0] 23 (0, 0))) (hw : Below w.heap.size w W) (o : Obj) (k t u v x y z : Int) :
    bodyPost Tryd.prog Tryd.f11 (OddP w) .ret a ((((((((W.setCell ⟨w.heap.size + 1, 0, none⟩ (.int .i64 k)).setCell ⟨w.heap.size + 1, 1, none⟩ (.int .i64 t)).setCell ⟨w.heap.size + 1, 2, none⟩ (.int .i64 u)).setCell ⟨w.heap.size + 1, 3, none⟩ (.int .i64 v)).setCell ⟨w.heap.size + 1, 4, none⟩ (.int .i64 x)).setCell ⟨w.heap.size + 1, 5, none⟩ (.int .i64 y)).setCell ⟨w.heap.size + 1, 6, none⟩ (.int .i64 z)).alloc o) := by
  have hblk := set7_blk W (w.heap.size + 1) _ _ _ _ _ _ _ hb (.int .i64 k) (.int .i64 t) (.int .i64 u) (.int .i64 v) (.int .i64 x) (.int .i64 y) (.int .i64 z)
  have hbel := below_set7 hw (show w.heap.size ≤ w.heap.size + 1 by omega) (.int .i64 k) (.int .i64 t) (.int .i64 u) (.int .i64 v) (.int .i64 x) (.int .i64 y) (.int .i64 z)
  generalize (((((((W.setCell ⟨w.heap.size + 1, 0, none⟩ (.int .i64 k)).setCell ⟨w.heap.size + 1, 1, none⟩ (.int .i64 t)).setCell ⟨w.heap.size + 1, 2, none⟩ (.int .i64 u)).setCell ⟨w.heap.size + 1, 3, none⟩ (.int .i64 v)).setCell ⟨w.heap.size + 1, 4, none⟩ (.int .i64 x)).setCell ⟨w.heap.size + 1, 5, none⟩ (.int .i64 y)).setCell ⟨w.heap.size + 1, 6, none⟩ (.int .i64 z)) = W9 at hblk hbel ⊢
  have hs : w.heap.size + 1 < W9.heap.size := (Array.getElem?_eq_some_iff.1 hblk).1
  exact ret_struct1 (p := 6) Tryd.results11 hd (w.heap.size + 1) hp ((heap_alloc_old _ _ hs).trans hblk) ⟨k, t, u, v, x, y, z, rfl, hbel.alloc (by omega) _⟩
set_option maxHeartbeats 4000000 in
set_option maxRecDepth 100000 in
theorem odd_any (k t u v x y z what by' : Int) (w : World) :
    Calls Tryd.prog 11 #[.agg #[.int .i64 k, .int .i64 t, .int .i64 u, .int .i64 v, .int .i64 x, .int .i64 y, .int .i64 z], .int .i64 what, .int .i64 by'] w (OddP w) := by
  have M3 := Lib.hid (fun W => mod_any by' 3 W (by decide) (by decide))
  have M4 := Lib.hid (fun W => mod_any by' 4 W (by decide) (by decide))
  have M5 := Lib.hid (fun W => mod_any by' 5 W (by decide) (by decide))
  have M6 := Lib.hid (fun W => mod_any by' 6 W (by decide) (by decide))
  have B3 := emod_lit by' 3 (by decide)
  have B4 := emod_lit by' 4 (by decide)
  have B5 := emod_lit by' 5 (by decide)
  have B6 := emod_lit by' 6 (by decide)
  generalize (by'.tmod 3 + 3) % 3 = m3 at M3 B3
  generalize (by'.tmod 4 + 4) % 4 = m4 at M4 B4
  generalize (by'.tmod 5 + 5) % 5 = m5 at M5 B5
  generalize (by'.tmod 6 + 6) % 6 = m6 at M6 B6
  go_enter Tryd.func11, Tryd.ntmps11
  go_wp2_with fail
  have hb0 : Hid (((w.alloc (.cells #[.int .i64 k, .int .i64 t, .int .i64 u, .int .i64 v, .int .i64 x, .int .i64 y, .int .i64 z] 23)).alloc (.cells #[.int .i64 0, .int .i64 0, .int .i64 0, .int .i64 0, .int .i64 0, .int .i64 0, .int .i64 0] 23)).heap[w.heap.size]? = some (.cells #[.int .i64 k, .int .i64 t, .int .i64 u, .int .i64 v, .int .i64 x, .int .i64 y, .int .i64 z] 23 (0, 0))) := by
    show _ = _
    rw [heap_alloc_old _ _ (by simp)]; exact heap_alloc_new _ _
  have hb1 : Hid (((w.alloc (.cells #[.int .i64 k, .int .i64 t, .int .i64 u, .int .i64 v, .int .i64 x, .int .i64 y, .int .i64 z] 23)).alloc (.cells #[.int .i64 0, .int .i64 0, .int .i64 0, .int .i64 0, .int .i64 0, .int .i64 0, .int .i64 0] 23)).heap[w.heap.size + 1]? = some (.cells #[.int .i64 0, .int .i64 0, .int .i64 0, .int .i64 0, .int .i64 0, .int .i64 0, .int .i64 0] 23 (0, 0))) := by
    show _ = _
    simpa using heap_alloc_new (w.alloc (.cells #[.int .i64 k, .int .i64 t, .int .i64 u, .int .i64 v, .int .i64 x, .int .i64 y, .int .i64 z] 23)) (.cells #[.int .i64 0, .int .i64 0, .int .i64 0, .int .i64 0, .int .i64 0, .int .i64 0, .int .i64 0] 23)
  have hbw : Hid (Below w.heap.size w ((w.alloc (.cells #[.int .i64 k, .int .i64 t, .int .i64 u, .int .i64 v, .int .i64 x, .int .i64 y, .int .i64 z] 23)).alloc (.cells #[.int .i64 0, .int .i64 0, .int .i64 0, .int .i64 0, .int .i64 0, .int .i64 0, .int .i64 0] 23))) := (below_new _ _).trans ((below_new _ _).mono (by simp))
  generalize hw1 : (w.alloc (.cells #[.int .i64 k, .int .i64 t, .int .i64 u, .int .i64 v, .int .i64 x, .int .i64 y, .int .i64 z] 23)).alloc (.cells #[.int .i64 0, .int .i64 0, .int .i64 0, .int .i64 0, .int .i64 0, .int .i64 0, .int .i64 0] 23) = w1 at hb0 hb1 hbw ⊢
  have hs1 : w1.heap.size = w.heap.size + 2 := by rw [← hw1]; simp
  clear hw1
  have pa := Go.Joins.cell_of_block hb0.out
  have za := Go.Joins.unfrozen_of_block hb0.out
  have ac0 := pa 0; have ac1 := pa 1; have ac2 := pa 2; have ac3 := pa 3; have ac4 := pa 4; have ac5 := pa 5; have ac6 := pa 6
  have af0 := za 0; have af1 := za 1; have af2 := za 2; have af3 := za 3; have af4 := za 4; have af5 := za 5; have af6 := za 6
  simp only [List.getElem?_toArray, List.getElem?_cons_succ, List.getElem?_cons_zero] at ac0 ac1 ac2 ac3 ac4 ac5 ac6
  have zb := Go.Joins.unfrozen_of_block hb1.out
  have bf0 := zb 0; have bf1 := zb 1; have bf2 := zb 2; have bf3 := zb 3; have bf4 := zb 4; have bf5 := zb 5; have bf6 := zb 6
  have pb := Go.Joins.cell_of_block hb1.out
  have bc0 := pb 0; have bc1 := pb 1; have bc2 := pb 2; have bc3 := pb 3; have bc4 := pb 4; have bc5 := pb 5; have bc6 := pb 6
  simp only [List.getElem?_toArray, List.getElem?_cons_succ, List.getElem?_cons_zero] at bc0 bc1 bc2 bc3 bc4 bc5 bc6
  clear pa za pb zb
  refine (mod_any what 9 _ (by decide) (by decide)).mono ?_
  rintro e w2 ⟨rfl, rfl⟩
  have BM := emod_lit what 9 (by decide)
  generalize (what.tmod 9 + 9) % 9 = m at BM ⊢
  obtain h | h | h | h | h | h | h | h : m = 0 ∨ m = 1 ∨ m = 2 ∨ m = 3 ∨ m = 4 ∨ m = 5 ∨ m = 6 ∨ (m = 7 ∨ m = 8) := by omega
  · subst h
    clear BM
    go_wp2_with fail
    refine (M6.out _).mono ?_
    rintro e w2 ⟨rfl, rfl⟩
    have fw : IntKind.i64.wrap (m6 - 1) = m6 - 1 := IntWalk.i64_in _ (by omega)
    clear M3 M4 M5 M6 B3 B4 B5
    go_wp2
    exact odd_fin rfl rfl _ ((Below.heap_setCell w1 ⟨w.heap.size, 0, none⟩ _ (w.heap.size + 1) (by show w.heap.size + 1 ≠ w.heap.size; omega)).trans hb1.out) (hbw.out.setCell (p := ⟨w.heap.size, 0, none⟩) (Nat.le_refl _) _) _ _ _ _ _ _ _
  · subst h
    clear BM
    go_wp2_with fail
    refine (M3.out _).mono ?_
    rintro e w2 ⟨rfl, rfl⟩
    clear M3 M4 M5 M6 B4 B5 B6
    obtain h | h | h : m3 = 0 ∨ m3 = 1 ∨ m3 = 2 := by omega
    · subst h
      clear B3
      go_wp2
      exact odd_finA rfl rfl _ ((Below.heap_setCell w1 ⟨w.heap.size, 1, none⟩ _ (w.heap.size + 1) (by show w.heap.size + 1 ≠ w.heap.size; omega)).trans hb1.out) (hbw.out.setCell (p := ⟨w.heap.size, 1, none⟩) (Nat.le_refl _) _) _ _ _ _ _ _ _ _
    · subst h
      clear B3
      go_wp2
      exact odd_finA rfl rfl _ ((Below.heap_setCell w1 ⟨w.heap.size, 1, none⟩ _ (w.heap.size + 1) (by show w.heap.size + 1 ≠ w.heap.size; omega)).trans hb1.out) (hbw.out.setCell (p := ⟨w.heap.size, 1, none⟩) (Nat.le_refl _) _) _ _ _ _ _ _ _ _
    · subst h
      clear B3
      go_wp2
      exact odd_finA rfl rfl _ ((Below.heap_setCell w1 ⟨w.heap.size, 1, none⟩ _ (w.heap.size + 1) (by show w.heap.size + 1 ≠ w.heap.size; omega)).trans hb1.out) (hbw.out.setCell (p := ⟨w.heap.size, 1, none⟩) (Nat.le_refl _) _) _ _ _ _ _ _ _ _
  · subst h
    clear BM
    go_wp2_with fail
    refine (M3.out _).mono ?_
    rintro e w2 ⟨rfl, rfl⟩
    clear M3 M4 M5 M6 B4 B5 B6
    obtain h | h | h : m3 = 0 ∨ m3 = 1 ∨ m3 = 2 := by omega
    · subst h
      clear B3
      go_wp2
      exact odd_finA rfl rfl _ ((Below.heap_setCell w1 ⟨w.heap.size, 2, none⟩ _ (w.heap.size + 1) (by show w.heap.size + 1 ≠ w.heap.size; omega)).trans hb1.out) (hbw.out.setCell (p := ⟨w.heap.size, 2, none⟩) (Nat.le_refl _) _) _ _ _ _ _ _ _ _
    · subst h
      clear B3
      go_wp2
      exact odd_finA rfl rfl _ ((Below.heap_setCell w1 ⟨w.heap.size, 2, none⟩ _ (w.heap.size + 1) (by show w.heap.size + 1 ≠ w.heap.size; omega)).trans hb1.out) (hbw.out.setCell (p := ⟨w.heap.size, 2, none⟩) (Nat.le_refl _) _) _ _ _ _ _ _ _ _
    · subst h
      clear B3
      go_wp2
      exact odd_finA rfl rfl _ ((Below.heap_setCell w1 ⟨w.heap.size, 2, none⟩ _ (w.heap.size + 1) (by show w.heap.size + 1 ≠ w.heap.size; omega)).trans hb1.out) (hbw.out.setCell (p := ⟨w.heap.size, 2, none⟩) (Nat.le_refl _) _) _ _ _ _ _ _ _ _
  · subst h
    clear BM
    go_wp2_with fail
    obtain ⟨mn, rfl⟩ : ∃ mn : Nat, m4 = mn := ⟨m4.toNat, by omega⟩
    have hmn : mn < 4 := by omega
    clear ac0 ac1 ac2 ac3 ac4 ac5 ac6 af0 af1 af2 af3 af4 af5 af6 bc0 bc1 bc2 bc3 bc4 bc5 bc6 bf0 bf1 bf2 bf3 bf4 bf5 bf6 M3 M5 M6 B3 B4 B5 B6
    refine wp_region_ac 9 64 (fun u v => u.grownBy v (some w.heap.size)) (fun _ _ W => JO w.heap.size W) [(fun q0 _ => q0 = .pointer (some ⟨w.heap.size, 2, none⟩)), (fun q0 _ => ∃ q : Int, q0 = .int .i64 q), (fun q0 W => ∃ h, q0 = .slice (some ⟨h, 0, none⟩) 4 4 ∧ L4 w.heap.size h W), (fun q0 _ => q0 = .int .i64 by'), (fun q0 _ => q0 = .int .i64 (mn : Int)), (fun q0 W => ∃ h, q0 = .pointer (some ⟨h, mn, none⟩) ∧ L4 w.heap.size h W), (fun q0 _ => ∃ q : Int, q0 = .int .i64 q), (fun q0 _ => q0 = .pointer (some ⟨w.heap.size, 3, none⟩)), (fun _ _ => True)] (by kernel_rfl) (by kernel_rfl) rfl (fun _ _ _ h1 h2 => grown_trans h1 h2) (only_drewN 1 w.heap.size) ⟨k, t, u, v, x, y, z, hb0.out⟩ ?_ ?_ ?_
    · intro R hR
      simp only [List.mem_cons, List.not_mem_nil, or_false] at hR
      rcases hR with rfl | rfl | rfl | rfl | rfl | rfl | rfl | rfl | rfl <;> first | exact fun _ _ _ h _ => h | exact fun _ _ _ ⟨h, h1, h2⟩ hg => ⟨h, h1, h2.keep hg⟩
    · simp only [List.take_succ_cons, List.take_zero]
      refine ⟨?_, ?_, ?_, ?_, ?_, ?_, ?_, ?_, ?_, trivial⟩
      · intro a ws f hle hjj hfi hun hdn hag hdep K Q hK
        have d3 : (a.tmps[3]?).getD undef = .pointer (some ⟨w.heap.size, 0, none⟩) := eval_get (hag 3 (freeB_spec (by kernel_rfl)))
        rw [if_pos (show Region.wanted _ _ = true from rfl)]
        unfold Oper.wp
        simp [go_sem, d3]
        exact hK _ _ (grown_refl _ _) hjj rfl
      · intro a ws f hle hjj hfi hun hdn hag hdep K Q hK
        have d33 : (a.tmps[33]?).getD undef = .pointer (some ⟨w.heap.size, 2, none⟩) := eval_get (dep_of hdep 0 33 rfl (by kernel_rfl) rfl rfl)
        rw [if_pos (show Region.wanted _ _ = true from rfl)]
        obtain ⟨q0, q1, q2, q3, q4, q5, q6, hq⟩ := hjj
        have yc := Go.Joins.cell_of_block hq 2
        unfold Oper.wp
        simp [go_sem, d33, yc]
        exact hK _ _ (grown_refl _ _) ⟨q0, q1, q2, q3, q4, q5, q6, hq⟩ ⟨q2, rfl⟩
      · intro a ws f hle hjj hfi hun hdn hag hdep K Q hK
        have d34 : (fun q0 _ => ∃ q : Int, q0 = .int .i64 q) (a.eval (.tmp 34)) ws := dep_of hdep 1 34 rfl (by kernel_rfl) rfl rfl
        rw [if_pos (show Region.wanted _ _ = true from rfl)]
        obtain ⟨q, e34⟩ := d34
        have e34 := eval_get e34
        unfold Oper.wp
        simp [go_sem, e34]
        obtain ⟨q0, q1, q2, q3, q4, q5, q6, hq⟩ := hjj
        have hlt := (Array.getElem?_eq_some_iff.1 hq).1
        exact hK _ _ (World.grownBy_alloc _ _ _) (JO.new ⟨q0, q1, q2, q3, q4, q5, q6, hq⟩ _) ⟨ws.heap.size, rfl, by omega, q, heap_alloc_new _ _⟩
      · intro a ws f hle hjj hfi hun hdn hag hdep K Q hK
        have d2 : (a.tmps[2]?).getD undef = .int .i64 by' := eval_get (hag 2 (freeB_spec (by kernel_rfl)))
        rw [if_pos (show Region.wanted _ _ = true from rfl)]
        unfold Oper.wp
        simp [go_sem, d2]
        exact hK _ _ (grown_refl _ _) hjj rfl
      · intro a ws f hle hjj hfi hun hdn hag hdep K Q hK
        have d36 : (a.tmps[36]?).getD undef = .int .i64 by' := eval_get (dep_of hdep 3 36 rfl (by kernel_rfl) rfl rfl)
        rw [if_pos (show Region.wanted _ _ = true from rfl)]
        have hcon := M4.out ws
        unfold Oper.wp
        simp [go_sem, d36]
        refine hcon.mono ?_
        rintro e w9 ⟨rfl, rfl⟩
        exact hK _ _ (grown_refl _ _) hjj rfl
      · intro a ws f hle hjj hfi hun hdn hag hdep K Q hK
        have d35 : (fun q0 W => ∃ h, q0 = .slice (some ⟨h, 0, none⟩) 4 4 ∧ L4 w.heap.size h W) (a.eval (.tmp 35)) ws := dep_of hdep 2 35 rfl (by kernel_rfl) rfl rfl
        have d37 : (a.tmps[37]?).getD undef = .int .i64 (mn : Int) := eval_get (dep_of hdep 4 37 rfl (by kernel_rfl) rfl rfl)
        rw [if_pos (show Region.wanted _ _ = true from rfl)]
        obtain ⟨h, e35, hL⟩ := d35
        have e35 := eval_get e35
        have hmi : (mn : Int) < 4 := by omega
        unfold Oper.wp
        simp [go_sem, e35, d37, hmi]
        exact hK _ _ (grown_refl _ _) hjj ⟨h, rfl, hL⟩
      · intro a ws f hle hjj hfi hun hdn hag hdep K Q hK
        have d38 : (fun q0 W => ∃ h, q0 = .pointer (some ⟨h, mn, none⟩) ∧ L4 w.heap.size h W) (a.eval (.tmp 38)) ws := dep_of hdep 5 38 rfl (by kernel_rfl) rfl rfl
        rw [if_pos (show Region.wanted _ _ = true from rfl)]
        obtain ⟨h, e38, hL⟩ := d38
        have e38 := eval_get e38
        obtain ⟨q, hq⟩ := hL.cell hmn
        unfold Oper.wp
        simp [go_sem, e38, hq]
        exact hK _ _ (grown_refl _ _) hjj ⟨q, rfl⟩
      · intro a ws f hle hjj hfi hun hdn hag hdep K Q hK
        have d3 : (a.tmps[3]?).getD undef = .pointer (some ⟨w.heap.size, 0, none⟩) := eval_get (hag 3 (freeB_spec (by kernel_rfl)))
        rw [if_pos (show Region.wanted _ _ = true from rfl)]
        unfold Oper.wp
        simp [go_sem, d3]
        exact hK _ _ (grown_refl _ _) hjj rfl
      · intro a ws f hle hjj hfi hun hdn hag hdep K Q hK
        have d40 : (a.tmps[40]?).getD undef = .pointer (some ⟨w.heap.size, 3, none⟩) := eval_get (dep_of hdep 7 40 rfl (by kernel_rfl) rfl rfl)
        have d39 : (fun q0 _ => ∃ q : Int, q0 = .int .i64 q) (a.eval (.tmp 39)) ws := dep_of hdep 6 39 rfl (by kernel_rfl) rfl rfl
        rw [if_pos (show Region.wanted _ _ = true from rfl)]
        obtain ⟨q, e39⟩ := d39
        have e39 := eval_get e39
        have hj2 := hjj.set3 q
        obtain ⟨q0, q1, q2, q3, q4, q5, q6, hq⟩ := hjj
        have yc := Go.Joins.cell_of_block hq 3
        have yf := Go.Joins.unfrozen_of_block hq 3
        unfold Oper.wp
        simp [go_sem, d40, e39, yc, yf]
        exact hK undef _ (only_set 0 _ 3 _) hj2 trivial
    · intro a ws f hle hjj hft hff hsz hdf hag hend
      have f33 : a.eval (.tmp 33) = .pointer (some ⟨w.heap.size, 2, none⟩) := end_of hend 0 33 (by decide) rfl rfl rfl
      have f34 : (fun q0 _ => ∃ q : Int, q0 = .int .i64 q) (a.eval (.tmp 34)) ws := end_of hend 1 34 (by decide) rfl rfl rfl
      have f35 : (fun q0 W => ∃ h, q0 = .slice (some ⟨h, 0, none⟩) 4 4 ∧ L4 w.heap.size h W) (a.eval (.tmp 35)) ws := end_of hend 2 35 (by decide) rfl rfl rfl
      have f36 : a.eval (.tmp 36) = .int .i64 by' := end_of hend 3 36 (by decide) rfl rfl rfl
      have f37 : a.eval (.tmp 37) = .int .i64 (mn : Int) := end_of hend 4 37 (by decide) rfl rfl rfl
      have f38 : (fun q0 W => ∃ h, q0 = .pointer (some ⟨h, mn, none⟩) ∧ L4 w.heap.size h W) (a.eval (.tmp 38)) ws := end_of hend 5 38 (by decide) rfl rfl rfl
      have f39 : (fun q0 _ => ∃ q : Int, q0 = .int .i64 q) (a.eval (.tmp 39)) ws := end_of hend 6 39 (by decide) rfl rfl rfl
      have f40 : a.eval (.tmp 40) = .pointer (some ⟨w.heap.size, 3, none⟩) := end_of hend 7 40 (by decide) rfl rfl rfl
      have ea := act_block 33 8 hsz hdf hag [33, 34, 35, 36, 37, 38, 39, 40] (by kernel_rfl) (by kernel_rfl) (of_decide_eq_true (by kernel_rfl))
      clear hag hend hsz hdf
      simp only [List.map_cons, List.map_nil, f33, f36, f37, f40] at ea
      clear f33 f36 f37 f40
      generalize a.eval (.tmp 34) = x34 at ea f34
      generalize a.eval (.tmp 35) = x35 at ea f35
      generalize a.eval (.tmp 38) = x38 at ea f38
      generalize a.eval (.tmp 39) = x39 at ea f39
      simp only [List.take_succ_cons, List.take_zero, List.drop_succ_cons, List.drop_zero, List.cons_append, List.nil_append] at ea
      subst ea
      obtain ⟨q0, q1, q2, q3, q4, q5, q6, hq⟩ := hjj
      have hlw := (Array.getElem?_eq_some_iff.1 hb0.out).1
      have hb1' : ws.heap[w.heap.size + 1]? = some (.cells #[.int .i64 0, .int .i64 0, .int .i64 0, .int .i64 0, .int .i64 0, .int .i64 0, .int .i64 0] 23 (0, 0)) := (hle.block _ (by omega) (by simp)).trans hb1.out
      have HBW : Hid (Below w.heap.size w ws) := hbw.out.trans (grown_to_below hle (Nat.le_refl _) hbw.out.size)
      have HQ1 := Lib.hid hb1'
      have pa := Go.Joins.cell_of_block hq
      have ac0 := pa 0; have ac1 := pa 1; have ac2 := pa 2; have ac3 := pa 3; have ac4 := pa 4; have ac5 := pa 5; have ac6 := pa 6
      have zb := Go.Joins.unfrozen_of_block hb1'
      have bf0 := zb 0; have bf1 := zb 1; have bf2 := zb 2; have bf3 := zb 3; have bf4 := zb 4; have bf5 := zb 5; have bf6 := zb 6
      have pb := Go.Joins.cell_of_block hb1'
      have bc0 := pb 0; have bc1 := pb 1; have bc2 := pb 2; have bc3 := pb 3; have bc4 := pb 4; have bc5 := pb 5; have bc6 := pb 6
      simp only [List.getElem?_toArray, List.getElem?_cons_succ, List.getElem?_cons_zero] at ac0 ac1 ac2 ac3 ac4 ac5 ac6 bc0 bc1 bc2 bc3 bc4 bc5 bc6
      clear pa pb zb hq hb1' hle hft hff f34 f35 f38 f39 M4 hlw
      simp only [List.drop_succ_cons, List.drop_zero]
      go_wp2
      exact odd_fin rfl rfl _ HQ1.out HBW.out _ _ _ _ _ _ _
  · subst h
    clear BM
    go_wp2_with fail
    refine (M4.out _).mono ?_
    rintro e w2 ⟨rfl, rfl⟩
    clear M3 M4 M5 M6 B3 B5 B6
    obtain h | h | h | h : m4 = 0 ∨ m4 = 1 ∨ m4 = 2 ∨ m4 = 3 := by omega
    · subst h
      clear B4
      go_wp2
      exact odd_finA rfl rfl _ ((Below.heap_setCell w1 ⟨w.heap.size, 4, none⟩ _ (w.heap.size + 1) (by show w.heap.size + 1 ≠ w.heap.size; omega)).trans hb1.out) (hbw.out.setCell (p := ⟨w.heap.size, 4, none⟩) (Nat.le_refl _) _) _ _ _ _ _ _ _ _
    · subst h
      clear B4
      go_wp2
      exact odd_finA rfl rfl _ ((Below.heap_setCell w1 ⟨w.heap.size, 4, none⟩ _ (w.heap.size + 1) (by show w.heap.size + 1 ≠ w.heap.size; omega)).trans hb1.out) (hbw.out.setCell (p := ⟨w.heap.size, 4, none⟩) (Nat.le_refl _) _) _ _ _ _ _ _ _ _
    · subst h
      clear B4
      go_wp2
      exact odd_finA rfl rfl _ ((Below.heap_setCell w1 ⟨w.heap.size, 4, none⟩ _ (w.heap.size + 1) (by show w.heap.size + 1 ≠ w.heap.size; omega)).trans hb1.out) (hbw.out.setCell (p := ⟨w.heap.size, 4, none⟩) (Nat.le_refl _) _) _ _ _ _ _ _ _ _
    · subst h
      clear B4
      go_wp2
      exact odd_finA rfl rfl _ ((Below.heap_setCell w1 ⟨w.heap.size, 4, none⟩ _ (w.heap.size + 1) (by show w.heap.size + 1 ≠ w.heap.size; omega)).trans hb1.out) (hbw.out.setCell (p := ⟨w.heap.size, 4, none⟩) (Nat.le_refl _) _) _ _ _ _ _ _ _ _
  · subst h
    clear BM
    go_wp2_with fail
    refine (M3.out _).mono ?_
    rintro e w2 ⟨rfl, rfl⟩
    clear M3 M4 M5 M6 B4 B5 B6
    obtain h | h | h : m3 = 0 ∨ m3 = 1 ∨ m3 = 2 := by omega
    · subst h
      clear B3
      go_wp2
      exact odd_finA rfl rfl _ ((Below.heap_setCell w1 ⟨w.heap.size, 5, none⟩ _ (w.heap.size + 1) (by show w.heap.size + 1 ≠ w.heap.size; omega)).trans hb1.out) (hbw.out.setCell (p := ⟨w.heap.size, 5, none⟩) (Nat.le_refl _) _) _ _ _ _ _ _ _ _
    · subst h
      clear B3
      go_wp2
      exact odd_finA rfl rfl _ ((Below.heap_setCell w1 ⟨w.heap.size, 5, none⟩ _ (w.heap.size + 1) (by show w.heap.size + 1 ≠ w.heap.size; omega)).trans hb1.out) (hbw.out.setCell (p := ⟨w.heap.size, 5, none⟩) (Nat.le_refl _) _) _ _ _ _ _ _ _ _
    · subst h
      clear B3
      go_wp2
      exact odd_finA rfl rfl _ ((Below.heap_setCell w1 ⟨w.heap.size, 5, none⟩ _ (w.heap.size + 1) (by show w.heap.size + 1 ≠ w.heap.size; omega)).trans hb1.out) (hbw.out.setCell (p := ⟨w.heap.size, 5, none⟩) (Nat.le_refl _) _) _ _ _ _ _ _ _ _
  · subst h
    clear BM
    go_wp2_with fail
    refine (M5.out _).mono ?_
    rintro e w2 ⟨rfl, rfl⟩
    have fw : IntKind.i64.wrap (m5 - 2) = m5 - 2 := IntWalk.i64_in _ (by omega)
    clear M3 M4 M5 M6 B3 B4 B6
    go_wp2
    exact odd_fin rfl rfl _ ((Below.heap_setCell w1 ⟨w.heap.size, 6, none⟩ _ (w.heap.size + 1) (by show w.heap.size + 1 ≠ w.heap.size; omega)).trans hb1.out) (hbw.out.setCell (p := ⟨w.heap.size, 6, none⟩) (Nat.le_refl _) _) _ _ _ _ _ _ _
  · obtain h | h := h
    · subst h
      clear BM M3 M4 M5 M6 B3 B4 B5 B6
      go_wp2
      exact odd_fin rfl rfl _ hb1.out hbw.out _ _ _ _ _ _ _
    · subst h
      clear BM M3 M4 M5 M6 B3 B4 B5 B6
      go_wp2
      exact odd_fin rfl rfl _ hb1.out hbw.out _ _ _ _ _ _ _
end Go.Proofs.YtnohmgmpabckkaaDoor
