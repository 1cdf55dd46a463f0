/-
  Joined texts: Kc, Kd, Ke, Kf.
-/
import Derived.Test.YtfapfkaipdcflaaGreatLm
import Derived.Test.YtfapfkaipdcflaaGreatSd
import Derived.Test.YtfapfkaipdcflaaGreatIn
import Derived.Laws.ResultCell
import Derived.Deep.RegionLaw
/-
  The small functions of package links: links and events of one another; the order of links; the checks.
-/
namespace Go.Proofs.YtfapfkaipdcflaaGreat.K
open Go.RowKit Go.Lib

theorem lbetween_any (u v : Int) (w : World) : Calls Tryz.prog 90 #[.int .i64 u, .int .i64 v] w fun e w' => e = .returned (.agg #[.int .i64 (min u v), .int .i64 (max u v), .int .i64 0, .int .i64 0, .int .i64 0, .int .i64 0]) ∧ Below w.heap.size w w' := by
  go_enter Tryz.func90, Tryz.ntmps90
  go_wp2
  all_goals exact bodyPost_ret (v := .agg #[.int .i64 (min u v), .int .i64 (max u v), .int .i64 0, .int .i64 0, .int .i64 0, .int .i64 0]) (by simp [results, Tryz.results90, go_sem] <;> omega) rfl ⟨rfl, (Below.refl _ _).alloc (Nat.le_refl _) _⟩
theorem setOf_any (u v x y z t : Int) (w : World) : Calls Tryz.prog 74 #[.agg #[.int .i64 u, .int .i64 v, .int .i64 x, .int .i64 y, .int .i64 z, .int .i64 t]] w fun e w' => e = .returned (.agg #[.int .i64 1, .int .i64 t, .int .i64 u, .int .i64 v, .int .i64 x, .int .i64 y, .int .i64 z]) ∧ Below w.heap.size w w' := by
  go_enter Tryz.func74, Tryz.ntmps74
  go_wp2
  exact bodyPost_ret (v := .agg #[.int .i64 1, .int .i64 t, .int .i64 u, .int .i64 v, .int .i64 x, .int .i64 y, .int .i64 z]) (by simp [results, Tryz.results74, go_sem]) rfl ⟨rfl, ((Below.refl _ _).alloc (Nat.le_refl _) _).alloc (by simp) _⟩
theorem checkEvent_any (n k t u v x y z : Int) (w : World) : Calls Tryz.prog 50 #[.int .i64 n, .agg #[.int .i64 k, .int .i64 t, .int .i64 u, .int .i64 v, .int .i64 x, .int .i64 y, .int .i64 z]] w fun e w' => e = .returned (.int .i64 (if chkE ⟨k, t, u, v, x, y, z⟩ ≠ 0 then chkE ⟨k, t, u, v, x, y, z⟩ else if n ≤ u ∨ n ≤ v then 6 else 0)) ∧ Below w.heap.size w w' := by
  obtain ⟨R, HR⟩ : ∃ R, Hid (chkE ⟨k, t, u, v, x, y, z⟩ = R) := ⟨_, rfl⟩
  rw [HR.out]
  have C := Lib.hid (fun w => check_anyE k t u v x y z w)
  simp only [HR.out] at C
  clear HR
  have HA := Lib.hid (below_new w (.cells #[.int .i64 k, .int .i64 t, .int .i64 u, .int .i64 v, .int .i64 x, .int .i64 y, .int .i64 z] 57))
  by_cases h0 : R = 0
  · subst h0
    obtain ⟨X, HX⟩ : ∃ X : Int, Hid (X = if n ≤ u ∨ n ≤ v then 6 else 0) := ⟨_, rfl⟩
    rw [if_neg (by decide), ← HX.out]
    go_enter Tryz.func50, Tryz.ntmps50
    go_wp2_with fail
    refine (C.out _).mono ?_
    rintro e w1 ⟨rfl, hb⟩
    obtain ⟨b0, b1, b2, b3, b4, b5, b6⟩ := box7 hb
    have HB := Lib.hid (below_viaE hb)
    clear hb b0 b1 b4 b5 b6
    go_wp2
    all_goals (go_ret; refine ⟨ret_intN ?_, HB.out⟩; rw [HX.out]; clear HX HB HA C; simp_all; try omega)
  · rw [if_pos h0]
    have hd : (R != 0) = true := by simpa using h0
    have hd' : (R == 0) = false := by simpa using h0
    clear h0
    go_enter Tryz.func50, Tryz.ntmps50
    go_wp2_with fail
    refine (C.out _).mono ?_
    rintro e w1 ⟨rfl, hb⟩
    have HB := Lib.hid (below_viaE hb)
    clear hb
    go_wp2
    go_ret
    exact ⟨rfl, HB.out⟩
end Go.Proofs.YtfapfkaipdcflaaGreat.K

/-
  The link of an event; the order of links.
-/
namespace Go.Proofs.YtfapfkaipdcflaaGreat.K
open Go.RowKit Go.Lib Go.Sort

theorem drop_at_e {α : Type} (l : List α) (y : α) (k : Nat) (h : l[k]? = some y) : l.drop k = y :: l.drop (k + 1) := by
  obtain ⟨hk, rfl⟩ := List.getElem?_eq_some_iff.1 h
  exact List.drop_eq_getElem_cons hk
theorem setCell_only {u : World} {k i : Nat} {v : Value} (q : Nat) (hq : q ≠ k) : (u.setCell ⟨k, i, none⟩ v).heap[q]? = u.heap[q]? := Below.heap_setCell u ⟨k, i, none⟩ v q hq
theorem set_grown {u : World} {k i : Nat} {v : Value} : u.grownBy (u.setCell ⟨k, i, none⟩ v) (some k) := ⟨rfl, rfl, rfl, by simp [World.setCell], fun j _ hj => setCell_only j (fun e => hj (by rw [e]))⟩
theorem new_two (w : World) (o1 o2 : Obj) : ((w.alloc o1).alloc o2).heap[w.heap.size]? = some o1 ∧ ((w.alloc o1).alloc o2).heap[w.heap.size + 1]? = some o2 ∧ ((w.alloc o1).alloc o2).heap.size = w.heap.size + 2 ∧ Below w.heap.size w ((w.alloc o1).alloc o2) :=
  ⟨(Below.heap_alloc _ _ _ (by simp)).trans (heap_alloc_new w _), by have := heap_alloc_new (w.alloc o1) o2; simpa using this, by simp, ((Below.refl _ _).alloc (Nat.le_refl _) _).alloc (by simp) _⟩
/-- six stores into a block -/
theorem below_set6 {B g : Nat} {w w' : World} (h : Below B w w') (hg : B ≤ g) (v0 v1 v2 v3 v4 v5 : Value) :
    Below B w ((((((w'.setCell ⟨g, 0, none⟩ v0).setCell ⟨g, 1, none⟩ v1).setCell ⟨g, 2, none⟩ v2).setCell ⟨g, 3, none⟩ v3).setCell ⟨g, 4, none⟩ v4).setCell ⟨g, 5, none⟩ v5) :=
  ((((((h.setCell (p := ⟨g, 0, none⟩) hg _).setCell (p := ⟨g, 1, none⟩) hg _).setCell (p := ⟨g, 2, none⟩) hg _).setCell (p := ⟨g, 3, none⟩) hg _).setCell (p := ⟨g, 4, none⟩) hg _).setCell (p := ⟨g, 5, none⟩) hg _)
theorem set6_blk (w : World) (g : Nat) (a0 a1 a2 a3 a4 a5 : Value) {T : TypeId} (h : w.heap[g]? = some (.cells #[a0, a1, a2, a3, a4, a5] T (0, 0))) (v0 v1 v2 v3 v4 v5 : Value) :
    ((((((w.setCell ⟨g, 0, none⟩ v0).setCell ⟨g, 1, none⟩ v1).setCell ⟨g, 2, none⟩ v2).setCell ⟨g, 3, none⟩ v3).setCell ⟨g, 4, none⟩ v4).setCell ⟨g, 5, none⟩ v5).heap[g]? = some (.cells #[v0, v1, v2, v3, v4, v5] T (0, 0)) := by
  have := setCell_cells (setCell_cells (setCell_cells (setCell_cells (setCell_cells (setCell_cells h 0 v0) 1 v1) 2 v2) 3 v3) 4 v4) 5 v5
  rw [this]
  rfl
def sel (b : Bool) (x : Int) : Value := .int .i64 (if b = true then x else 0)
section
variable {w : World} {g : Nat} {a0 a1 a2 a3 a4 a5 v : Value} {T : TypeId} (h : w.heap[g]? = some (.cells #[a0, a1, a2, a3, a4, a5] T (0, 0)))
  include h
theorem six_set2 : (w.setCell ⟨g, 2, none⟩ v).heap[g]? = some (.cells #[a0, a1, v, a3, a4, a5] T (0, 0)) := setCell_cells h 2 v
theorem six_set3 : (w.setCell ⟨g, 3, none⟩ v).heap[g]? = some (.cells #[a0, a1, a2, v, a4, a5] T (0, 0)) := setCell_cells h 3 v
theorem six_set4 : (w.setCell ⟨g, 4, none⟩ v).heap[g]? = some (.cells #[a0, a1, a2, a3, v, a5] T (0, 0)) := setCell_cells h 4 v
theorem six_set5 : (w.setCell ⟨g, 5, none⟩ v).heap[g]? = some (.cells #[a0, a1, a2, a3, a4, v] T (0, 0)) := setCell_cells h 5 v
end
/-- a link that is returned -/
theorem ret_link {fn : Func} {R : Ending → World → Prop} {a : Act} {w : World} {p : Nat} (hres : fn.results = #[.cell p 62]) (hd : a.defers = []) (g : Nat) (hp : a.tmps.getD p undef = .pointer (some ⟨g, 0, none⟩))
    {v0 v1 v2 v3 v4 v5 : Value} (hb : w.heap[g]? = some (.cells #[v0, v1, v2, v3, v4, v5] 62 (0, 0))) (h : R (.returned (.agg #[v0, v1, v2, v3, v4, v5])) w) : bodyPost Tryz.prog fn R .ret a w := by
  have hc := Go.Joins.cell_of_block hb
  have y0 := hc 0; have y1 := hc 1; have y2 := hc 2; have y3 := hc 3; have y4 := hc 4; have y5 := hc 5
  simp only [List.getElem?_toArray, List.getElem?_cons_succ, List.getElem?_cons_zero] at y0 y1 y2 y3 y4 y5
  have hp' : (a.tmps[p]?).getD undef = .pointer (some ⟨g, 0, none⟩) := by simpa using hp
  refine bodyPost_ret (v := .agg #[v0, v1, v2, v3, v4, v5]) ?_ hd h
  clear hp h hd hb hc
  simp [results, hres, go_sem, hp', y0, y1, y2, y3, y4, y5]
set_option maxHeartbeats 4000000 in
set_option maxRecDepth 100000 in
theorem linkOf_any (k t u v x y z : Int) (w : World) : Calls Tryz.prog 71 #[.agg #[.int .i64 k, .int .i64 t, .int .i64 u, .int .i64 v, .int .i64 x, .int .i64 y, .int .i64 z]] w fun e w' => e = .returned (.agg #[.int .i64 (min u v), .int .i64 (max u v), .int .i64 x, .int .i64 y, .int .i64 z, .int .i64 t]) ∧ Below w.heap.size w w' := by
  obtain ⟨U, HU⟩ : ∃ U, Hid (min u v = U) := ⟨_, rfl⟩
  obtain ⟨V, HV⟩ : ∃ V, Hid (max u v = V) := ⟨_, rfl⟩
  have C := Lib.hid (fun w => lbetween_any u v w)
  simp only [HU.out, HV.out] at C
  rw [HU.out, HV.out]
  go_enter Tryz.func71, Tryz.ntmps71
  go_wp2_with fail
  refine (C.out _).mono ?_
  rintro e w1 ⟨rfl, hb⟩
  obtain ⟨n0, n1, n2, n3⟩ := new_two w (.cells #[.int .i64 k, .int .i64 t, .int .i64 u, .int .i64 v, .int .i64 x, .int .i64 y, .int .i64 z] 57) (.cells #[.int .i64 0, .int .i64 0, .int .i64 0, .int .i64 0, .int .i64 0, .int .i64 0] 62)
  rw [n2] at hb
  have h0 := (hb.block w.heap.size (by omega)).trans n0
  have h1 := (hb.block (w.heap.size + 1) (by omega)).trans n1
  have hs : w.heap.size + 1 < w1.heap.size := by have := hb.size; omega
  have H0 := Lib.hid h0
  have H1 := Lib.hid h1
  have HB : Hid (Below w.heap.size w w1) := n3.trans (hb.mono (by omega))
  clear n0 n1 n2 n3
  clear hb h0 h1
  go_wp2
  have HP : Hid ((w1.alloc (.cells #[.int .i64 U, .int .i64 V, .int .i64 0, .int .i64 0, .int .i64 0, .int .i64 0] 62)).heap[w.heap.size]? = some (.cells #[.int .i64 k, .int .i64 t, .int .i64 u, .int .i64 v, .int .i64 x, .int .i64 y, .int .i64 z] 57)) := (Below.heap_alloc _ _ _ (by omega)).trans H0.out
  have HG : Hid ((w1.alloc (.cells #[.int .i64 U, .int .i64 V, .int .i64 0, .int .i64 0, .int .i64 0, .int .i64 0] 62)).heap[w1.heap.size]? = some (.cells #[.int .i64 U, .int .i64 V, .int .i64 0, .int .i64 0, .int .i64 0, .int .i64 0] 62)) := heap_alloc_new _ _
  have HR : Hid ((w1.alloc (.cells #[.int .i64 U, .int .i64 V, .int .i64 0, .int .i64 0, .int .i64 0, .int .i64 0] 62)).heap[w.heap.size + 1]? = some (.cells #[.int .i64 0, .int .i64 0, .int .i64 0, .int .i64 0, .int .i64 0, .int .i64 0] 62)) := (Below.heap_alloc _ _ _ (by omega)).trans H1.out
  have HPl : Hid (w.heap.size < (w1.alloc (.cells #[.int .i64 U, .int .i64 V, .int .i64 0, .int .i64 0, .int .i64 0, .int .i64 0] 62)).heap.size) := by show _ < _; simp; omega
  have HRl : Hid (w.heap.size + 1 < (w1.alloc (.cells #[.int .i64 U, .int .i64 V, .int .i64 0, .int .i64 0, .int .i64 0, .int .i64 0] 62)).heap.size) := by show _ < _; simp; omega
  have HW : Hid (Below w.heap.size w (w1.alloc (.cells #[.int .i64 U, .int .i64 V, .int .i64 0, .int .i64 0, .int .i64 0, .int .i64 0] 62))) := HB.out.alloc (by omega) _
  clear H0 H1 HB C
  refine wp_region_ac 15 22 (fun u v => u.grownBy v (some w1.heap.size)) (fun f _ wr => wr.heap[w1.heap.size]? = some (.cells #[.int .i64 U, .int .i64 V, sel (f 9) x, sel (f 11) y, sel (f 13) z, .int .i64 0] 62)) [(fun q0 _ => q0 = .pointer (some ⟨w.heap.size, 4, none⟩)), (fun q0 _ => q0 = .int .i64 x), (fun q0 _ => q0 = .pointer (some ⟨w.heap.size, 5, none⟩)), (fun q0 _ => q0 = .int .i64 y), (fun q0 _ => q0 = .pointer (some ⟨w.heap.size, 6, none⟩)), (fun q0 _ => q0 = .int .i64 z), (fun q0 _ => q0 = .pointer (some ⟨w.heap.size, 1, none⟩)), (fun q0 _ => q0 = .int .i64 t), (fun q0 _ => q0 = .pointer (some ⟨w1.heap.size, 2, none⟩)), (fun _ _ => True), (fun q0 _ => q0 = .pointer (some ⟨w1.heap.size, 3, none⟩)), (fun _ _ => True), (fun q0 _ => q0 = .pointer (some ⟨w1.heap.size, 4, none⟩)), (fun _ _ => True), (fun q0 _ => q0 = .pointer (some ⟨w1.heap.size, 5, none⟩))] (by kernel_rfl) (by kernel_rfl) rfl (fun _ _ _ h1 h2 => grown_trans h1 h2) (only_drewN 1 _) HG.out ?_ ?_ ?_
  · intro R hR
    simp only [List.mem_cons, List.not_mem_nil, or_false] at hR
    rcases hR with rfl | rfl | rfl | rfl | rfl | rfl | rfl | rfl | rfl | rfl | rfl | rfl | rfl | rfl | rfl <;> exact fun _ _ _ h _ => h
  · simp only [List.take_succ_cons, List.take_zero]
    refine ⟨?_, ?_, ?_, ?_, ?_, ?_, ?_, ?_, ?_, ?_, ?_, ?_, ?_, ?_, ?_, trivial⟩
    · intro a ws f hle hjj hfi hun hdn hag hdep K Q hK
      have d1 : (a.tmps[1]?).getD undef = .pointer (some ⟨w.heap.size, 0, none⟩) := eval_get (hag 1 (freeB_spec (by kernel_rfl)))
      rw [if_pos (show Region.wanted _ _ = true from rfl)]
      unfold Oper.wp
      simp [go_sem, d1]
      exact hK _ _ (grown_refl _ _) hjj rfl
    · intro a ws f hle hjj hfi hun hdn hag hdep K Q hK
      have d9 : (a.tmps[9]?).getD undef = .pointer (some ⟨w.heap.size, 4, none⟩) := eval_get (dep_of hdep 0 9 rfl (by kernel_rfl) rfl rfl)
      rw [if_pos (show Region.wanted _ _ = true from rfl)]
      have y := (hle.block w.heap.size HPl.out (by simp; omega)).trans HP.out
      have y0 := Go.Joins.cell_of_block y 4
      unfold Oper.wp
      simp [go_sem, d9, y0]
      exact hK _ _ (grown_refl _ _) hjj rfl
    · intro a ws f hle hjj hfi hun hdn hag hdep K Q hK
      have d1 : (a.tmps[1]?).getD undef = .pointer (some ⟨w.heap.size, 0, none⟩) := eval_get (hag 1 (freeB_spec (by kernel_rfl)))
      rw [if_pos (show Region.wanted _ _ = true from rfl)]
      unfold Oper.wp
      simp [go_sem, d1]
      exact hK _ _ (grown_refl _ _) hjj rfl
    · intro a ws f hle hjj hfi hun hdn hag hdep K Q hK
      have d11 : (a.tmps[11]?).getD undef = .pointer (some ⟨w.heap.size, 5, none⟩) := eval_get (dep_of hdep 2 11 rfl (by kernel_rfl) rfl rfl)
      rw [if_pos (show Region.wanted _ _ = true from rfl)]
      have y := (hle.block w.heap.size HPl.out (by simp; omega)).trans HP.out
      have y0 := Go.Joins.cell_of_block y 5
      unfold Oper.wp
      simp [go_sem, d11, y0]
      exact hK _ _ (grown_refl _ _) hjj rfl
    · intro a ws f hle hjj hfi hun hdn hag hdep K Q hK
      have d1 : (a.tmps[1]?).getD undef = .pointer (some ⟨w.heap.size, 0, none⟩) := eval_get (hag 1 (freeB_spec (by kernel_rfl)))
      rw [if_pos (show Region.wanted _ _ = true from rfl)]
      unfold Oper.wp
      simp [go_sem, d1]
      exact hK _ _ (grown_refl _ _) hjj rfl
    · intro a ws f hle hjj hfi hun hdn hag hdep K Q hK
      have d13 : (a.tmps[13]?).getD undef = .pointer (some ⟨w.heap.size, 6, none⟩) := eval_get (dep_of hdep 4 13 rfl (by kernel_rfl) rfl rfl)
      rw [if_pos (show Region.wanted _ _ = true from rfl)]
      have y := (hle.block w.heap.size HPl.out (by simp; omega)).trans HP.out
      have y0 := Go.Joins.cell_of_block y 6
      unfold Oper.wp
      simp [go_sem, d13, y0]
      exact hK _ _ (grown_refl _ _) hjj rfl
    · intro a ws f hle hjj hfi hun hdn hag hdep K Q hK
      have d1 : (a.tmps[1]?).getD undef = .pointer (some ⟨w.heap.size, 0, none⟩) := eval_get (hag 1 (freeB_spec (by kernel_rfl)))
      rw [if_pos (show Region.wanted _ _ = true from rfl)]
      unfold Oper.wp
      simp [go_sem, d1]
      exact hK _ _ (grown_refl _ _) hjj rfl
    · intro a ws f hle hjj hfi hun hdn hag hdep K Q hK
      have d15 : (a.tmps[15]?).getD undef = .pointer (some ⟨w.heap.size, 1, none⟩) := eval_get (dep_of hdep 6 15 rfl (by kernel_rfl) rfl rfl)
      rw [if_pos (show Region.wanted _ _ = true from rfl)]
      have y := (hle.block w.heap.size HPl.out (by simp; omega)).trans HP.out
      have y0 := Go.Joins.cell_of_block y 1
      unfold Oper.wp
      simp [go_sem, d15, y0]
      exact hK _ _ (grown_refl _ _) hjj rfl
    · intro a ws f hle hjj hfi hun hdn hag hdep K Q hK
      have d3 : (a.tmps[3]?).getD undef = .pointer (some ⟨w1.heap.size, 0, none⟩) := eval_get (hag 3 (freeB_spec (by kernel_rfl)))
      rw [if_pos (show Region.wanted _ _ = true from rfl)]
      unfold Oper.wp
      simp [go_sem, d3]
      exact hK _ _ (grown_refl _ _) hjj rfl
    · intro a ws f hle hjj hfi hun hdn hag hdep K Q hK
      have d17 : (a.tmps[17]?).getD undef = .pointer (some ⟨w1.heap.size, 2, none⟩) := eval_get (dep_of hdep 8 17 rfl (by kernel_rfl) rfl rfl)
      have d10 : (a.tmps[10]?).getD undef = .int .i64 x := eval_get (dep_of hdep 1 10 rfl (by kernel_rfl) rfl rfl)
      rw [if_pos (show Region.wanted _ _ = true from rfl)]
      have y := Go.Joins.cell_of_block hjj 2
      have z := Go.Joins.unfrozen_of_block hjj 2
      unfold Oper.wp
      simp [go_sem, d17, d10, y, z]
      exact hK undef _ set_grown (six_set2 hjj) trivial
    · intro a ws f hle hjj hfi hun hdn hag hdep K Q hK
      have d3 : (a.tmps[3]?).getD undef = .pointer (some ⟨w1.heap.size, 0, none⟩) := eval_get (hag 3 (freeB_spec (by kernel_rfl)))
      rw [if_pos (show Region.wanted _ _ = true from rfl)]
      unfold Oper.wp
      simp [go_sem, d3]
      exact hK _ _ (grown_refl _ _) hjj rfl
    · intro a ws f hle hjj hfi hun hdn hag hdep K Q hK
      have d18 : (a.tmps[18]?).getD undef = .pointer (some ⟨w1.heap.size, 3, none⟩) := eval_get (dep_of hdep 10 18 rfl (by kernel_rfl) rfl rfl)
      have d12 : (a.tmps[12]?).getD undef = .int .i64 y := eval_get (dep_of hdep 3 12 rfl (by kernel_rfl) rfl rfl)
      rw [if_pos (show Region.wanted _ _ = true from rfl)]
      have y := Go.Joins.cell_of_block hjj 3
      have z := Go.Joins.unfrozen_of_block hjj 3
      unfold Oper.wp
      simp [go_sem, d18, d12, y, z]
      exact hK undef _ set_grown (six_set3 hjj) trivial
    · intro a ws f hle hjj hfi hun hdn hag hdep K Q hK
      have d3 : (a.tmps[3]?).getD undef = .pointer (some ⟨w1.heap.size, 0, none⟩) := eval_get (hag 3 (freeB_spec (by kernel_rfl)))
      rw [if_pos (show Region.wanted _ _ = true from rfl)]
      unfold Oper.wp
      simp [go_sem, d3]
      exact hK _ _ (grown_refl _ _) hjj rfl
    · intro a ws f hle hjj hfi hun hdn hag hdep K Q hK
      have d19 : (a.tmps[19]?).getD undef = .pointer (some ⟨w1.heap.size, 4, none⟩) := eval_get (dep_of hdep 12 19 rfl (by kernel_rfl) rfl rfl)
      have d14 : (a.tmps[14]?).getD undef = .int .i64 z := eval_get (dep_of hdep 5 14 rfl (by kernel_rfl) rfl rfl)
      rw [if_pos (show Region.wanted _ _ = true from rfl)]
      have y := Go.Joins.cell_of_block hjj 4
      have z := Go.Joins.unfrozen_of_block hjj 4
      unfold Oper.wp
      simp [go_sem, d19, d14, y, z]
      exact hK undef _ set_grown (six_set4 hjj) trivial
    · intro a ws f hle hjj hfi hun hdn hag hdep K Q hK
      have d3 : (a.tmps[3]?).getD undef = .pointer (some ⟨w1.heap.size, 0, none⟩) := eval_get (hag 3 (freeB_spec (by kernel_rfl)))
      rw [if_pos (show Region.wanted _ _ = true from rfl)]
      unfold Oper.wp
      simp [go_sem, d3]
      exact hK _ _ (grown_refl _ _) hjj rfl
  · intro a ws f hle hjj hft hff hsz hdf hag hend
    have f9 : a.eval (.tmp 9) = .pointer (some ⟨w.heap.size, 4, none⟩) := end_of hend 0 9 (by decide) rfl rfl rfl
    have f10 : a.eval (.tmp 10) = .int .i64 x := end_of hend 1 10 (by decide) rfl rfl rfl
    have f11 : a.eval (.tmp 11) = .pointer (some ⟨w.heap.size, 5, none⟩) := end_of hend 2 11 (by decide) rfl rfl rfl
    have f12 : a.eval (.tmp 12) = .int .i64 y := end_of hend 3 12 (by decide) rfl rfl rfl
    have f13 : a.eval (.tmp 13) = .pointer (some ⟨w.heap.size, 6, none⟩) := end_of hend 4 13 (by decide) rfl rfl rfl
    have f14 : a.eval (.tmp 14) = .int .i64 z := end_of hend 5 14 (by decide) rfl rfl rfl
    have f15 : a.eval (.tmp 15) = .pointer (some ⟨w.heap.size, 1, none⟩) := end_of hend 6 15 (by decide) rfl rfl rfl
    have f16 : a.eval (.tmp 16) = .int .i64 t := end_of hend 7 16 (by decide) rfl rfl rfl
    have f17 : a.eval (.tmp 17) = .pointer (some ⟨w1.heap.size, 2, none⟩) := end_of hend 8 17 (by decide) rfl rfl rfl
    have f18 : a.eval (.tmp 18) = .pointer (some ⟨w1.heap.size, 3, none⟩) := end_of hend 10 18 (by decide) rfl rfl rfl
    have f19 : a.eval (.tmp 19) = .pointer (some ⟨w1.heap.size, 4, none⟩) := end_of hend 12 19 (by decide) rfl rfl rfl
    have f20 : a.eval (.tmp 20) = .pointer (some ⟨w1.heap.size, 5, none⟩) := end_of hend 14 20 (by decide) rfl rfl rfl
    have ea := act_block 9 12 hsz hdf hag [9, 10, 11, 12, 13, 14, 15, 16, 17, 18, 19, 20] (by kernel_rfl) (by kernel_rfl) (of_decide_eq_true (by kernel_rfl))
    clear hag hend hsz hdf
    simp only [List.map_cons, List.map_nil, f9, f10, f11, f12, f13, f14, f15, f16, f17, f18, f19, f20] at ea
    clear f9 f10 f11 f12 f13 f14 f15 f16 f17 f18 f19 f20
    simp only [List.take_succ_cons, List.take_zero, List.drop_succ_cons, List.drop_zero, List.cons_append, List.nil_append] at ea
    subst ea
    have hg := Go.Joins.cell_of_block hjj
    have g0 := hg 0; have g1 := hg 1; have g2 := hg 2; have g3 := hg 3; have g4 := hg 4; have g5 := hg 5
    simp only [List.getElem?_toArray, List.getElem?_cons_succ, List.getElem?_cons_zero, hft 9 (by decide), hft 11 (by decide), hft 13 (by decide), sel, if_true] at g0 g1 g2 g3 g4 g5
    have hr0 := (hle.block _ HRl.out (by simp; omega)).trans HR.out
    have hr := Go.Joins.cell_of_block hr0
    have hz := Go.Joins.unfrozen_of_block hr0
    have r0 := hr 0; have r1 := hr 1; have r2 := hr 2; have r3 := hr 3; have r4 := hr 4; have r5 := hr 5
    have z0 := hz 0; have z1 := hz 1; have z2 := hz 2; have z3 := hz 3; have z4 := hz 4; have z5 := hz 5
    simp only [List.getElem?_toArray, List.getElem?_cons_succ, List.getElem?_cons_zero] at r0 r1 r2 r3 r4 r5
    have HF : Hid (Below w.heap.size w ws) := HW.out.grown hle HW.out.size (fun k hk => by injection hk with hk; omega)
    have hz5 := Go.Joins.unfrozen_of_block hjj 5
    clear hg hr hz hle hjj hft hff
    go_wp2
    have hblk := set6_blk (ws.setCell ⟨w1.heap.size, 5, none⟩ (.int .i64 t)) (w.heap.size + 1) _ _ _ _ _ _ ((Below.heap_setCell _ _ _ _ (by show w.heap.size + 1 ≠ w1.heap.size; omega)).trans hr0) (.int .i64 U) (.int .i64 V) (.int .i64 x) (.int .i64 y) (.int .i64 z) (.int .i64 t)
    have hbel := below_set6 (HF.out.setCell (p := ⟨w1.heap.size, 5, none⟩) (by show w.heap.size ≤ w1.heap.size; omega) (.int .i64 t)) (show w.heap.size ≤ w.heap.size + 1 by omega) (.int .i64 U) (.int .i64 V) (.int .i64 x) (.int .i64 y) (.int .i64 z) (.int .i64 t)
    exact ret_link (p := 2) Tryz.results71 rfl (w.heap.size + 1) rfl hblk ⟨rfl, hbel⟩
end Go.Proofs.YtfapfkaipdcflaaGreat.K

/-
  The order of links; the check of one link; Check of package links.
-/
namespace Go.Proofs.YtfapfkaipdcflaaGreat.K
open Go.RowKit Go.Lib Go.Sort

theorem bcellE {B : Nat} {W w1 : World} (hb : Below B W w1) : ∀ b o, b < B → w1.cell? ⟨b, o, none⟩ = W.cell? ⟨b, o, none⟩ := fun b o h => hb.cell (p := ⟨b, o, none⟩) h
namespace Ls
open Go.Proofs.YtfapfkaipdcflaaGreat.Ls
/-- the order of links, as a number -/
def cmpL (a b : Lk) : Int := orL [Lib.compareInt a.u b.u, Lib.compareInt a.v b.v]
theorem cmpL_neg (a b : Lk) : (cmpL a b < 0) ↔ before a b = true := by
  unfold cmpL before
  simp only [orL, Bool.or_eq_true, Bool.and_eq_true, decide_eq_true_eq]
  rcases Int.lt_trichotomy a.u b.u with h | h | h
  · simp [compareInt_lt _ _ h, h]
  · rw [h, compareInt_eq]
    rcases Int.lt_trichotomy a.v b.v with g | g | g
    · simp [compareInt_lt _ _ g, g]
    · rw [g, compareInt_eq]; simp
    · simp [compareInt_gt _ _ g]; omega
  · simp [compareInt_gt _ _ h]; omega
theorem cmpL_zero (a b : Lk) : (cmpL a b = 0) ↔ same a b = true := by
  unfold cmpL same
  simp only [orL, Bool.and_eq_true, decide_eq_true_eq]
  rcases Int.lt_trichotomy a.u b.u with h | h | h
  · simp [compareInt_lt _ _ h]; omega
  · rw [h, compareInt_eq]
    rcases Int.lt_trichotomy a.v b.v with g | g | g
    · simp [compareInt_lt _ _ g]; omega
    · rw [g, compareInt_eq]; simp
    · simp [compareInt_gt _ _ g]; omega
  · simp [compareInt_gt _ _ h]; omega
end Ls
set_option maxHeartbeats 1000000 in
theorem cmpL_any (u v x y z t u' v' x' y' z' t' : Int) (w : World) : Calls Tryz.prog 56 #[.agg #[.int .i64 u, .int .i64 v, .int .i64 x, .int .i64 y, .int .i64 z, .int .i64 t], .agg #[.int .i64 u', .int .i64 v', .int .i64 x', .int .i64 y', .int .i64 z', .int .i64 t']] w fun e w' => e = .returned (.int .i64 (Ls.cmpL ⟨u, v, x, y, z, t⟩ ⟨u', v', x', y', z', t'⟩)) ∧ Below w.heap.size w w' := by
  have HR := Lib.hid (show Ls.cmpL ⟨u, v, x, y, z, t⟩ ⟨u', v', x', y', z', t'⟩ = orL [Lib.compareInt u u', Lib.compareInt v v'] from rfl)
  have C1 := Lib.hid (fun W => cmpC u u' W)
  have C2 := Lib.hid (fun W => cmpC v v' W)
  generalize Lib.compareInt u u' = p at HR C1
  generalize Lib.compareInt v v' = q at HR C2
  go_enter Tryz.func56, Tryz.ntmps56
  go_wp2
  refine wp_region_drew_tail 10 (by kernel_rfl) (by kernel_rfl) ?_
  simp only [List.take_succ_cons, List.take_zero, List.drop_succ_cons, List.drop_zero]
  repeat (go_big_quiet_step (first | (go_at_call 76; first | with_reducible exact Calls.quiet_of_same (C1.out _) | with_reducible exact Calls.quiet_of_same (C2.out _))))
  refine wpQuiet_nil ?_
  rintro _ ⟨k, rfl⟩
  have C51 : Hid (∀ (W : World) (g : Nat), W.heap.size = g → Calls Tryz.prog 75 #[.slice (some ⟨g, 0, none⟩) 2 2] (W.alloc (.cells #[.int .i64 p, .int .i64 q] 3)) fun e w' => e = .returned (.int .i64 (orL [p, q])) ∧ W.alloc (.cells #[.int .i64 p, .int .i64 q] 3) = w') := by
    intro W g hg
    subst hg
    exact or_any _ 2 [p, q] _ (RD_newL W [p, q] 3) (by simp)
  go_wp2_with fail
  refine (C51.out _ _ (by simp)).mono ?_
  rintro e w' ⟨rfl, rfl⟩
  rw [← HR.out]
  go_wp2
  go_ret
  exact ⟨rfl, ((new_two w _ _).2.2.2.trans ((below_drewN _ k).mono (by simp; omega))).alloc (by simp [World.drewN]; omega) _⟩
/-- the two checks of the event that sets a link, as the check of the link -/
theorem chk_two (n u v x y z t : Int) (h0 : 0 ≤ u) (h1 : u < v) (h2 : v < n) (hn : n ≤ 64) : orL [chkE ⟨1, 0, u, v, x, y, z⟩, chkE ⟨1, t, u, v, x, y, z⟩] = Ls.chkLk n ⟨u, v, x, y, z, t⟩ := by
  have hnod : ∀ t, nodesB ⟨1, t, u, v, x, y, z⟩ = true := by intro t; simp [nodesB, okN]; omega
  have hat : ∀ t, attrB ⟨1, t, u, v, x, y, z⟩ = attrB ⟨1, 0, 0, 0, x, y, z⟩ := fun t => by simp [attrB]
  unfold Ls.chkLk
  rw [if_neg (by show ¬ (u < 0 ∨ v ≤ u ∨ n ≤ v); omega)]
  have e0 : chkE ⟨1, 0, u, v, x, y, z⟩ = if attrB ⟨1, 0, 0, 0, x, y, z⟩ = false then 1 else 0 := by
    unfold chkE
    rw [if_neg (by simp), if_neg (by simp), if_neg (by rw [hnod]; decide), hat]
  have e1 : chkE ⟨1, t, u, v, x, y, z⟩ = if t < 0 ∨ 1048576 < t then 9 else if attrB ⟨1, 0, 0, 0, x, y, z⟩ = false then 1 else 0 := by
    unfold chkE
    rw [if_neg (by simp)]
    simp only [hnod, hat]
    simp
  rw [e0, e1]
  show orL _ = if attrB ⟨1, 0, 0, 0, x, y, z⟩ = false then 1 else if t < 0 ∨ 1048576 < t then 9 else 0
  cases attrB ⟨1, 0, 0, 0, x, y, z⟩ <;> by_cases ht : t < 0 ∨ 1048576 < t <;> simp [orL, ht]
set_option maxHeartbeats 2000000 in
set_option maxRecDepth 100000 in
theorem checkLink_any (n u v x y z t : Int) (hn : n ≤ 64) (w : World) : Calls Tryz.prog 55 #[.int .i64 n, .agg #[.int .i64 u, .int .i64 v, .int .i64 x, .int .i64 y, .int .i64 z, .int .i64 t]] w fun e w' => e = .returned (.int .i64 (Ls.chkLk n ⟨u, v, x, y, z, t⟩)) ∧ Below w.heap.size w w' := by
  by_cases hbad : u < 0 ∨ v ≤ u ∨ n ≤ v
  · have HR := Lib.hid (show Ls.chkLk n ⟨u, v, x, y, z, t⟩ = 6 by unfold Ls.chkLk; rw [if_pos hbad])
    have HB := Lib.hid (below_new w (.cells #[.int .i64 u, .int .i64 v, .int .i64 x, .int .i64 y, .int .i64 z, .int .i64 t] 62))
    rcases (by omega : u < 0 ∨ (0 ≤ u ∧ v ≤ u) ∨ (0 ≤ u ∧ u < v ∧ n ≤ v)) with h1 | ⟨h1, h2⟩ | ⟨h1, h2, h3⟩
    all_goals
      clear hbad
      go_enter Tryz.func55, Tryz.ntmps55
      go_wp2
      go_ret
      exact ⟨ret_int HR.out.symm, HB.out⟩
  · have h1 : 0 ≤ u := by omega
    have h2 : u < v := by omega
    have h3 : v < n := by omega
    have HR := Lib.hid (chk_two n u v x y z t h1 h2 h3 hn)
    clear hbad
    have C0 := Lib.hid (fun w => check_anyE 1 0 u v x y z w)
    have C1 := Lib.hid (fun w => check_anyE 1 t u v x y z w)
    generalize chkE ⟨1, 0, u, v, x, y, z⟩ = p at HR C0
    generalize chkE ⟨1, t, u, v, x, y, z⟩ = q at HR C1
    have CS := Lib.hid (fun w => setOf_any u v x y z t w)
    go_enter Tryz.func55, Tryz.ntmps55
    go_wp2_with fail
    refine (CS.out _).mono ?_
    rintro e w1 ⟨rfl, hb⟩
    have HB := Lib.hid ((below_new w _).trans (hb.mono (by simp)))
    clear hb
    go_wp2
    have HC : Hid (Below w.heap.size w ((w1.alloc (.cells #[.int .i64 1, .int .i64 t, .int .i64 u, .int .i64 v, .int .i64 x, .int .i64 y, .int .i64 z] 57)).alloc (.cells #[.int .i64 1, .int .i64 0, .int .i64 u, .int .i64 v, .int .i64 x, .int .i64 y, .int .i64 z] 57))) := (HB.out.alloc HB.out.size _).alloc (by have := HB.out.size; simp; omega) _
    refine wp_region_over_tail 4 (by kernel_rfl) (by kernel_rfl) ?_
    simp only [List.take_succ_cons, List.take_zero, List.drop_succ_cons, List.drop_zero]
    repeat (go_big_quiet_step (first | (go_at_call 64; first | with_reducible exact calls_over (C0.out _) | with_reducible exact calls_over (C1.out _))))
    refine wpQuiet_nil ?_
    rintro _ ⟨xx, rfl⟩
    have hbx := Lib.hid (over_below _ xx)
    generalize over _ xx = wx at hbx ⊢
    go_wp2_with fail
    have C51 := orE_any _ 2 [p, q] _ (RD_newL wx [p, q] 37) (by simp)
    refine C51.mono ?_
    rintro e w' ⟨rfl, rfl⟩
    rw [HR.out]
    go_wp2
    go_ret
    exact ⟨rfl, (HC.out.trans (hbx.out.mono HC.out.size)).alloc (by have := HC.out.size; have := hbx.out.size; omega) _⟩
end Go.Proofs.YtfapfkaipdcflaaGreat.K

/-
  Check of states of links: package links' and the reference's.
-/
namespace Go.Proofs.YtfapfkaipdcflaaGreat.K
open Go.RowKit Go.Lib

namespace Ls
open Go.Proofs.YtfapfkaipdcflaaGreat.Ls
def preL (l : List Lk) (k : Nat) : Option Lk := if k = 0 then none else l[k - 1]?
theorem preL_succ (l : List Lk) (k : Nat) (e : Lk) (h : l[k]? = some e) : preL l (k + 1) = some e := by simp [preL, h]
theorem cks_bad (n : Int) (l : List Lk) (k : Nat) (e : Lk) (p : Option Lk) (h : l[k]? = some e) (h1 : chkLk n e ≠ 0) : chkLs n p (l.drop k) = chkLk n e := by
  rw [drop_at_e l e k h]; unfold chkLs; rw [if_pos h1]
theorem cks_order (n : Int) (l : List Lk) (k : Nat) (e q : Lk) (h : l[k]? = some e) (h1 : chkLk n e = 0) (hb : before q e = false) : chkLs n (some q) (l.drop k) = 5 := by
  rw [drop_at_e l e k h]; unfold chkLs; rw [if_neg (by simpa using h1), if_pos (by simp [hb])]
theorem cks_next (n : Int) (l : List Lk) (k : Nat) (e q : Lk) (h : l[k]? = some e) (h1 : chkLk n e = 0) (hb : before q e = true) : chkLs n (some q) (l.drop k) = chkLs n (some e) (l.drop (k + 1)) := by
  rw [drop_at_e l e k h]
  show (if _ then _ else if _ then _ else _) = _
  rw [if_neg (by simpa using h1), if_neg (by simp [hb])]
theorem cks_first (n : Int) (l : List Lk) (k : Nat) (e : Lk) (h : l[k]? = some e) (h1 : chkLk n e = 0) : chkLs n none (l.drop k) = chkLs n (some e) (l.drop (k + 1)) := by
  rw [drop_at_e l e k h]
  show (if _ then _ else if _ then _ else _) = _
  rw [if_neg (by simpa using h1), if_neg (by simp)]
theorem cks_end (n : Int) (l : List Lk) (k : Nat) (p : Option Lk) (h : l.length ≤ k) : chkLs n p (l.drop k) = 0 := by rw [List.drop_eq_nil_of_le h]; rfl
end Ls
/-- the box of a link, behind a callee that only makes memory -/
theorem box6 {w w1 : World} {a0 a1 a2 a3 a4 a5 : Value} (hb : Below (w.alloc (.cells #[a0, a1, a2, a3, a4, a5] 62)).heap.size (w.alloc (.cells #[a0, a1, a2, a3, a4, a5] 62)) w1) :
    w1.cell? ⟨w.heap.size, 0, none⟩ = some a0 ∧ w1.cell? ⟨w.heap.size, 1, none⟩ = some a1 ∧ w1.cell? ⟨w.heap.size, 2, none⟩ = some a2 ∧ w1.cell? ⟨w.heap.size, 3, none⟩ = some a3 ∧ w1.cell? ⟨w.heap.size, 4, none⟩ = some a4 ∧ w1.cell? ⟨w.heap.size, 5, none⟩ = some a5 := by
  have h := (hb.block w.heap.size (by simp)).trans (heap_alloc_new _ _)
  exact ⟨Go.Joins.cell_of_block h 0, Go.Joins.cell_of_block h 1, Go.Joins.cell_of_block h 2, Go.Joins.cell_of_block h 3, Go.Joins.cell_of_block h 4, Go.Joins.cell_of_block h 5⟩

set_option maxHeartbeats 4000000 in
theorem lcheck_any (n : Int) (A : Option Addr) (c : Nat) (l : List Ls.Lk) (w : World) (h : RL w.heap.size w A c l) (hl : l.length ≤ 65536) :
    Calls Tryz.prog 35 #[.agg #[.int .i64 n, .slice A l.length c]] w fun e w' => e = .returned (.int .i64 (Ls.chkS n l)) ∧ Below w.heap.size w w' := by
  have hB0 : Below w.heap.size w (w.alloc (.cells #[.int .i64 n, .slice A l.length c] 24)) := (Below.refl _ _).alloc (Nat.le_refl _) _
  have HB0 := Lib.hid hB0
  by_cases h0 : n < 0
  · have HR := Lib.hid (show Ls.chkS n l = 1 by unfold Ls.chkS; rw [if_pos (.inl h0)])
    go_enter Tryz.func35, Tryz.ntmps35
    go_wp2
    go_ret
    exact ⟨ret_int HR.out.symm, HB0.out⟩
  · by_cases h64 : 64 < n
    · have HR := Lib.hid (show Ls.chkS n l = 1 by unfold Ls.chkS; rw [if_pos (.inr h64)])
      go_enter Tryz.func35, Tryz.ntmps35
      go_wp2
      go_ret
      exact ⟨ret_int HR.out.symm, HB0.out⟩
    · have HK := Lib.hid (show Ls.chkS n l = Ls.chkLs n none l by unfold Ls.chkS; rw [if_neg (by omega)])
      have H := Lib.hid h
      clear h hB0
      go_enter Tryz.func35, Tryz.ntmps35
      go_wp2
      obtain ⟨g, HG⟩ : ∃ g, Hid (g = w.heap.size) := ⟨_, rfl⟩
      obtain ⟨W1, HW1⟩ : ∃ W1, Hid (W1 = w.alloc (.cells #[.int .i64 n, .slice A l.length c] 24)) := ⟨_, rfl⟩
      have HBL : Hid (W1.heap[g]? = some (.cells #[.int .i64 n, .slice A l.length c] 24)) := by show _ = _; rw [HW1.out, HG.out]; exact heap_alloc_new _ _
      have HGL : Hid (g < W1.heap.size) := by show _ < _; rw [HW1.out, HG.out]; simp
      have HRE : Hid (RL W1.heap.size W1 A c l) := by show RL _ _ _ _ _; rw [HW1.out]; exact H.out.up HB0.out
      have HB1 : Hid (Below w.heap.size w W1) := by show Below _ _ _; rw [HW1.out]; exact HB0.out
      rw [← HW1.out, ← HG.out]
      clear HW1 HG H HB0
      go_loopw [17] (fun i wr => ∃ (k : Nat), k ≤ l.length ∧ i = .int .i64 k ∧ Hid (Below W1.heap.size W1 wr) ∧ Hid (Ls.chkS n l = Ls.chkLs n (Ls.preL l k) (l.drop k))) (fun i _ => l.length - (RowKit.intOf i).toNat)
      case atStart => exact ⟨0, Nat.zero_le _, rfl, Below.refl _ _, HK.out⟩
      case round =>
        obtain ⟨k, hk, rfl, HBR, HN⟩ := hrel
        have hbl : wr.heap[g]? = some (.cells #[.int .i64 n, .slice A l.length c] 24) := (HBR.out.block g HGL.out).trans HBL.out
        have hg0 : wr.cell? ⟨g, 0, none⟩ = some (.int .i64 n) := Go.Joins.cell_of_block hbl 0
        have hg1 : wr.cell? ⟨g, 1, none⟩ = some (.slice A l.length c) := Go.Joins.cell_of_block hbl 1
        have hgl : g < wr.heap.size := Nat.lt_of_lt_of_le HGL.out HBR.out.size
        have HBL2 := Lib.hid hbl
        clear hbl
        have HRr := Lib.hid (HRE.out.up HBR.out)
        by_cases hlt : k < l.length
        · obtain ⟨b, off, ⟨u, v, x, y, z, t⟩, rfl, hb, hx, hc0, hc1, hc2, hc3, hc4, hc5⟩ := RL.at_ HRr.out hlt
          dsimp only at hc0 hc1 hc2 hc3 hc4 hc5
          have HX := Lib.hid hx
          clear hx
          have C32 := Lib.hid (fun w => checkLink_any n u v x y z t (by omega) w)
          obtain ⟨R, HRR⟩ : ∃ R, Hid (Ls.chkLk n ⟨u, v, x, y, z, t⟩ = R) := ⟨_, rfl⟩
          simp only [HRR.out] at C32
          by_cases hR : R = 0
          · subst hR
            go_wp2_with fail
            refine (C32.out _).mono ?_
            rintro e w1 ⟨rfl, hb1⟩
            obtain ⟨b0, b1, b2, b3, b4, b5⟩ := box6 hb1
            have hbw := (below_new wr _).trans (hb1.mono (by simp))
            have HBa := Lib.hid (HBR.out.trans (hbw.mono HBR.out.size))
            have hc := bcellE hbw
            have p0 := (hc g 0 hgl).trans hg0; have p1 := (hc g 1 hgl).trans hg1
            have q0 := (hc b _ hb).trans hc0; have q1 := (hc b _ hb).trans hc1; have q2 := (hc b _ hb).trans hc2; have q3 := (hc b _ hb).trans hc3; have q4 := (hc b _ hb).trans hc4; have q5 := (hc b _ hb).trans hc5
            have hg1s : g < w1.heap.size := Nat.lt_of_lt_of_le hgl hbw.size
            have hws : wr.heap.size < w1.heap.size := by have := hb1.size; simp at this; omega
            have hbs : b < w1.heap.size := Nat.lt_of_lt_of_le hb hbw.size
            have HRb := Lib.hid (HRr.out.up hbw)
            clear hc hbw hb1 C32
            cases k with
            | zero =>
              have HR := Lib.hid (HN.out.trans (Ls.cks_first n l 0 _ HX.out HRR.out))
              simp only [Nat.zero_mul, Nat.add_zero] at q0 q1 q2 q3 q4 q5 hc0 hc1 hc2 hc3 hc4 hc5
              go_wp2
              refine wp_region_over (by kernel_rfl) (by kernel_rfl) ?_
              repeat (go_big_quiet_step (fail))
              refine wpQuiet_nil ?_
              rintro _ ⟨xx, rfl⟩
              have hbx := Lib.hid (over_below _ xx)
              go_wp2
              go_roundw
              case rel => exact ⟨1, by omega, rfl, HBa.out.trans (hbx.out.mono HBa.out.size), by show _ = _; rw [HR.out, Ls.preL_succ l 0 _ HX.out]⟩
              case measure => simp [RowKit.intOf]; omega
            | succ k =>
              obtain ⟨b', off', ⟨u', v', x', y', z', t'⟩, e1, _, hy, d0, d1, d2, d3, d4, d5⟩ := RL.at_ (k := k) HRb.out (by omega)
              dsimp only at d0 d1 d2 d3 d4 d5
              injection e1 with e1
              injection e1 with e1 e2
              subst e1; subst e2
              have HY := Lib.hid hy
              clear hy
              have HP := Lib.hid (show Ls.preL l (k + 1) = some ⟨u', v', x', y', z', t'⟩ from Ls.preL_succ l k _ HY.out)
              have C33 := Lib.hid (fun w => cmpL_any u' v' x' y' z' t' u v x y z t w)
              obtain ⟨M, HM⟩ : ∃ M, Hid (Ls.cmpL ⟨u', v', x', y', z', t'⟩ ⟨u, v, x, y, z, t⟩ = M) := ⟨_, rfl⟩
              have hneg := Ls.cmpL_neg ⟨u', v', x', y', z', t'⟩ ⟨u, v, x, y, z, t⟩
              simp only [HM.out] at C33 hneg
              have fs : IntKind.i64.wrap (((k + 1 : Nat) : Int) - 1) = (k : Int) := by rw [IntWalk.i64_in _ (by omega)]; omega
              have fk : (0 : Int) < ((k + 1 : Nat) : Int) := by omega
              clear q0 q1 q2 q3 q4 q5 hc0 hc1 hc2 hc3 hc4 hc5
              by_cases hbf : M < 0
              · have HR := Lib.hid ((HN.out.trans (by rw [HP.out])).trans (Ls.cks_next n l (k + 1) _ _ HX.out HRR.out (hneg.1 hbf)))
                clear hneg
                go_wp2
                refine wp_region_over (by kernel_rfl) (by kernel_rfl) ?_
                repeat (go_big_quiet_step (first | (go_at_call 56; exact calls_over (C33.out _))))
                refine wpQuiet_nil ?_
                rintro _ ⟨zz, rfl⟩
                have hbx := Lib.hid (over_below _ zz)
                go_wp2
                go_roundw
                case rel => exact ⟨k + 1 + 1, by omega, by go_num, HBa.out.trans (hbx.out.mono HBa.out.size), by show _ = _; rw [HR.out, Ls.preL_succ l (k + 1) _ HX.out]⟩
                case measure => simp [RowKit.intOf]; omega
              · have HR := Lib.hid ((HN.out.trans (by rw [HP.out])).trans (Ls.cks_order n l (k + 1) _ _ HX.out HRR.out (by rw [← Bool.not_eq_true, ← hneg]; exact hbf)))
                clear hneg
                go_wp2
                refine wp_region_over (by kernel_rfl) (by kernel_rfl) ?_
                repeat (go_big_quiet_step (first | (go_at_call 56; exact calls_over (C33.out _))))
                refine wpQuiet_nil ?_
                rintro _ ⟨zz, rfl⟩
                have hbx := Lib.hid (over_below _ zz)
                go_wp2
                go_ret
                exact ⟨ret_int HR.out.symm, HB1.out.trans ((HBa.out.trans (hbx.out.mono HBa.out.size)).mono HB1.out.size)⟩
          · have HR := Lib.hid ((HN.out.trans (Ls.cks_bad n l k _ _ HX.out (by rw [HRR.out]; exact hR))).trans HRR.out)
            have hd : (R != 0) = true := by simpa using hR
            have hd' : (R == 0) = false := by simpa using hR
            clear hR
            go_wp2_with fail
            refine (C32.out _).mono ?_
            rintro e w1 ⟨rfl, hb1⟩
            have HBa := Lib.hid (HBR.out.trans (((below_new wr _).trans (hb1.mono (by simp))).mono HBR.out.size))
            clear hb1
            go_wp2
            go_ret
            exact ⟨ret_int HR.out.symm, HB1.out.trans (HBa.out.mono HB1.out.size)⟩
        · have HR := Lib.hid (HN.out.trans (Ls.cks_end n l k _ (by omega)))
          go_wp2
          go_ret
          exact ⟨ret_int HR.out.symm, HB1.out.trans (HBR.out.mono HB1.out.size)⟩
end Go.Proofs.YtfapfkaipdcflaaGreat.K
