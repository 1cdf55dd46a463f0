/-
  The link of an event; the order of links.
-/
import Derived.Test.YtfapfkaipdcflaaKc
import Derived.Deep.RegionLaw
namespace Go.Proofs.Ytfapfkaipdcflaa.K
open Go.RowKit Go.Lib Go.Sort

theorem drop_at_e {α : Type} (l : List α) (y : α) (k : Nat) (h : l[k]? = some y) : l.drop k = y :: l.drop (k + 1) := by
  obtain ⟨hk, rfl⟩ := List.getElem?_eq_some_iff.1 h
  exact List.drop_eq_getElem_cons hk
theorem setCell_only {u : World} {k i : Nat} {v : Value} (q : Nat) (hq : q ≠ k) : (u.setCell ⟨k, i, none⟩ v).heap[q]? = u.heap[q]? := Below.heap_setCell u ⟨k, i, none⟩ v q hq
theorem set_grown {u : World} {k i : Nat} {v : Value} : u.grownBy (u.setCell ⟨k, i, none⟩ v) (some k) := ⟨rfl, rfl, rfl, by simp [World.setCell], fun j _ hj => setCell_only j (fun e => hj (by rw [e]))⟩
theorem new_two (w : World) (o1 o2 : Obj) : ((w.alloc o1).alloc o2).heap[w.heap.size]? = some o1 ∧ ((w.alloc o1).alloc o2).heap[w.heap.size + 1]? = some o2 ∧ ((w.alloc o1).alloc o2).heap.size = w.heap.size + 2 ∧ Below w.heap.size w ((w.alloc o1).alloc o2) :=
  ⟨(Below.heap_alloc _ _ _ (by simp)).trans (heap_alloc_new w _), by have := heap_alloc_new (w.alloc o1) o2; simpa using this, by simp, ((Below.refl _ _).alloc (Nat.le_refl _) _).alloc (by simp) _⟩
/-- six stores into a block -/
theorem below_set6 {B g : Nat} {w w' : World} (h : Below B w w') (hg : B ≤ g) (v0 v1 v2 v3 v4 v5 : Value) :
    Below B w ((((((w'.setCell ⟨g, 0, none⟩ v0).setCell ⟨g, 1, none⟩ v1).setCell ⟨g, 2, none⟩ v2).setCell ⟨g, 3, none⟩ v3).setCell ⟨g, 4, none⟩ v4).setCell ⟨g, 5, none⟩ v5) :=
  ((((((h.setCell (p := ⟨g, 0, none⟩) hg _).setCell (p := ⟨g, 1, none⟩) hg _).setCell (p := ⟨g, 2, none⟩) hg _).setCell (p := ⟨g, 3, none⟩) hg _).setCell (p := ⟨g, 4, none⟩) hg _).setCell (p := ⟨g, 5, none⟩) hg _)
theorem set6_blk (w : World) (g : Nat) (a0 a1 a2 a3 a4 a5 : Value) {T : TypeId} (h : w.heap[g]? = some (.cells #[a0, a1, a2, a3, a4, a5] T (0, 0))) (v0 v1 v2 v3 v4 v5 : Value) :
    ((((((w.setCell ⟨g, 0, none⟩ v0).setCell ⟨g, 1, none⟩ v1).setCell ⟨g, 2, none⟩ v2).setCell ⟨g, 3, none⟩ v3).setCell ⟨g, 4, none⟩ v4).setCell ⟨g, 5, none⟩ v5).heap[g]? = some (.cells #[v0, v1, v2, v3, v4, v5] T (0, 0)) := by
  have := setCell_cells (setCell_cells (setCell_cells (setCell_cells (setCell_cells (setCell_cells h 0 v0) 1 v1) 2 v2) 3 v3) 4 v4) 5 v5
  rw [this]
  rfl
def sel (b : Bool) (x : Int) : Value := .int .i64 (if b = true then x else 0)
section
variable {w : World} {g : Nat} {a0 a1 a2 a3 a4 a5 v : Value} {T : TypeId} (h : w.heap[g]? = some (.cells #[a0, a1, a2, a3, a4, a5] T (0, 0)))
  include h
theorem six_set2 : (w.setCell ⟨g, 2, none⟩ v).heap[g]? = some (.cells #[a0, a1, v, a3, a4, a5] T (0, 0)) := setCell_cells h 2 v
theorem six_set3 : (w.setCell ⟨g, 3, none⟩ v).heap[g]? = some (.cells #[a0, a1, a2, v, a4, a5] T (0, 0)) := setCell_cells h 3 v
theorem six_set4 : (w.setCell ⟨g, 4, none⟩ v).heap[g]? = some (.cells #[a0, a1, a2, a3, v, a5] T (0, 0)) := setCell_cells h 4 v
theorem six_set5 : (w.setCell ⟨g, 5, none⟩ v).heap[g]? = some (.cells #[a0, a1, a2, a3, a4, v] T (0, 0)) := setCell_cells h 5 v
end
/-- a link that is returned -/
theorem ret_link {fn : Func} {R : Ending → World → Prop} {a : Act} {w : World} {p : Nat} (hres : fn.results = #[.cell p 57]) (hd : a.defers = []) (g : Nat) (hp : a.tmps.getD p undef = .pointer (some ⟨g, 0, none⟩))
    {v0 v1 v2 v3 v4 v5 : Value} (hb : w.heap[g]? = some (.cells #[v0, v1, v2, v3, v4, v5] 57 (0, 0))) (h : R (.returned (.agg #[v0, v1, v2, v3, v4, v5])) w) : bodyPost Try.prog fn R .ret a w := by
  have hc := Go.Joins.cell_of_block hb
  have y0 := hc 0; have y1 := hc 1; have y2 := hc 2; have y3 := hc 3; have y4 := hc 4; have y5 := hc 5
  simp only [List.getElem?_toArray, List.getElem?_cons_succ, List.getElem?_cons_zero] at y0 y1 y2 y3 y4 y5
  have hp' : (a.tmps[p]?).getD undef = .pointer (some ⟨g, 0, none⟩) := by simpa using hp
  refine bodyPost_ret (v := .agg #[v0, v1, v2, v3, v4, v5]) ?_ hd h
  clear hp h hd hb hc
  simp [results, hres, go_sem, hp', y0, y1, y2, y3, y4, y5]
set_option maxHeartbeats 4000000 in
set_option maxRecDepth 100000 in
theorem linkOf_any (k t u v x y z : Int) (w : World) : Calls Try.prog 74 #[.agg #[.int .i64 k, .int .i64 t, .int .i64 u, .int .i64 v, .int .i64 x, .int .i64 y, .int .i64 z]] w fun e w' => e = .returned (.agg #[.int .i64 (min u v), .int .i64 (max u v), .int .i64 x, .int .i64 y, .int .i64 z, .int .i64 t]) ∧ Below w.heap.size w w' := by
  obtain ⟨U, HU⟩ : ∃ U, Hid (min u v = U) := ⟨_, rfl⟩
  obtain ⟨V, HV⟩ : ∃ V, Hid (max u v = V) := ⟨_, rfl⟩
  have C := Lib.hid (fun w => lbetween_any u v w)
  simp only [HU.out, HV.out] at C
  rw [HU.out, HV.out]
  go_enter Try.func74, Try.ntmps74
  go_wp2_with fail
  refine (C.out _).mono ?_
  rintro e w1 ⟨rfl, hb⟩
  obtain ⟨n0, n1, n2, n3⟩ := new_two w (.cells #[.int .i64 k, .int .i64 t, .int .i64 u, .int .i64 v, .int .i64 x, .int .i64 y, .int .i64 z] 40) (.cells #[.int .i64 0, .int .i64 0, .int .i64 0, .int .i64 0, .int .i64 0, .int .i64 0] 57)
  rw [n2] at hb
  have h0 := (hb.block w.heap.size (by omega)).trans n0
  have h1 := (hb.block (w.heap.size + 1) (by omega)).trans n1
  have hs : w.heap.size + 1 < w1.heap.size := by have := hb.size; omega
  have H0 := Lib.hid h0
  have H1 := Lib.hid h1
  have HB : Hid (Below w.heap.size w w1) := n3.trans (hb.mono (by omega))
  clear n0 n1 n2 n3
  clear hb h0 h1
  go_wp2
  have HP : Hid ((w1.alloc (.cells #[.int .i64 U, .int .i64 V, .int .i64 0, .int .i64 0, .int .i64 0, .int .i64 0] 57)).heap[w.heap.size]? = some (.cells #[.int .i64 k, .int .i64 t, .int .i64 u, .int .i64 v, .int .i64 x, .int .i64 y, .int .i64 z] 40)) := (Below.heap_alloc _ _ _ (by omega)).trans H0.out
  have HG : Hid ((w1.alloc (.cells #[.int .i64 U, .int .i64 V, .int .i64 0, .int .i64 0, .int .i64 0, .int .i64 0] 57)).heap[w1.heap.size]? = some (.cells #[.int .i64 U, .int .i64 V, .int .i64 0, .int .i64 0, .int .i64 0, .int .i64 0] 57)) := heap_alloc_new _ _
  have HR : Hid ((w1.alloc (.cells #[.int .i64 U, .int .i64 V, .int .i64 0, .int .i64 0, .int .i64 0, .int .i64 0] 57)).heap[w.heap.size + 1]? = some (.cells #[.int .i64 0, .int .i64 0, .int .i64 0, .int .i64 0, .int .i64 0, .int .i64 0] 57)) := (Below.heap_alloc _ _ _ (by omega)).trans H1.out
  have HPl : Hid (w.heap.size < (w1.alloc (.cells #[.int .i64 U, .int .i64 V, .int .i64 0, .int .i64 0, .int .i64 0, .int .i64 0] 57)).heap.size) := by show _ < _; simp; omega
  have HRl : Hid (w.heap.size + 1 < (w1.alloc (.cells #[.int .i64 U, .int .i64 V, .int .i64 0, .int .i64 0, .int .i64 0, .int .i64 0] 57)).heap.size) := by show _ < _; simp; omega
  have HW : Hid (Below w.heap.size w (w1.alloc (.cells #[.int .i64 U, .int .i64 V, .int .i64 0, .int .i64 0, .int .i64 0, .int .i64 0] 57))) := HB.out.alloc (by omega) _
  clear H0 H1 HB C
  refine wp_region_ac 15 22 (fun u v => u.grownBy v (some w1.heap.size)) (fun f _ wr => wr.heap[w1.heap.size]? = some (.cells #[.int .i64 U, .int .i64 V, sel (f 9) x, sel (f 11) y, sel (f 13) z, .int .i64 0] 57)) [(fun q0 _ => q0 = .pointer (some ⟨w.heap.size, 4, none⟩)), (fun q0 _ => q0 = .int .i64 x), (fun q0 _ => q0 = .pointer (some ⟨w.heap.size, 5, none⟩)), (fun q0 _ => q0 = .int .i64 y), (fun q0 _ => q0 = .pointer (some ⟨w.heap.size, 6, none⟩)), (fun q0 _ => q0 = .int .i64 z), (fun q0 _ => q0 = .pointer (some ⟨w.heap.size, 1, none⟩)), (fun q0 _ => q0 = .int .i64 t), (fun q0 _ => q0 = .pointer (some ⟨w1.heap.size, 2, none⟩)), (fun _ _ => True), (fun q0 _ => q0 = .pointer (some ⟨w1.heap.size, 3, none⟩)), (fun _ _ => True), (fun q0 _ => q0 = .pointer (some ⟨w1.heap.size, 4, none⟩)), (fun _ _ => True), (fun q0 _ => q0 = .pointer (some ⟨w1.heap.size, 5, none⟩))] (by kernel_rfl) (by kernel_rfl) rfl (fun _ _ _ h1 h2 => grown_trans h1 h2) (only_drewN 1 _) HG.out ?_ ?_ ?_
  · intro R hR
    simp only [List.mem_cons, List.not_mem_nil, or_false] at hR
    rcases hR with rfl | rfl | rfl | rfl | rfl | rfl | rfl | rfl | rfl | rfl | rfl | rfl | rfl | rfl | rfl <;> exact fun _ _ _ h _ => h
  · simp only [List.take_succ_cons, List.take_zero]
    refine ⟨?_, ?_, ?_, ?_, ?_, ?_, ?_, ?_, ?_, ?_, ?_, ?_, ?_, ?_, ?_, trivial⟩
    · intro a ws f hle hjj hfi hun hdn hag hdep K Q hK
      have d1 : (a.tmps[1]?).getD undef = .pointer (some ⟨w.heap.size, 0, none⟩) := eval_get (hag 1 (freeB_spec (by kernel_rfl)))
      rw [if_pos (show Region.wanted _ _ = true from rfl)]
      unfold Oper.wp
      simp [go_sem, d1]
      exact hK _ _ (grown_refl _ _) hjj rfl
    · intro a ws f hle hjj hfi hun hdn hag hdep K Q hK
      have d9 : (a.tmps[9]?).getD undef = .pointer (some ⟨w.heap.size, 4, none⟩) := eval_get (dep_of hdep 0 9 rfl (by kernel_rfl) rfl rfl)
      rw [if_pos (show Region.wanted _ _ = true from rfl)]
      have y := (hle.block w.heap.size HPl.out (by simp; omega)).trans HP.out
      have y0 := Go.Joins.cell_of_block y 4
      unfold Oper.wp
      simp [go_sem, d9, y0]
      exact hK _ _ (grown_refl _ _) hjj rfl
    · intro a ws f hle hjj hfi hun hdn hag hdep K Q hK
      have d1 : (a.tmps[1]?).getD undef = .pointer (some ⟨w.heap.size, 0, none⟩) := eval_get (hag 1 (freeB_spec (by kernel_rfl)))
      rw [if_pos (show Region.wanted _ _ = true from rfl)]
      unfold Oper.wp
      simp [go_sem, d1]
      exact hK _ _ (grown_refl _ _) hjj rfl
    · intro a ws f hle hjj hfi hun hdn hag hdep K Q hK
      have d11 : (a.tmps[11]?).getD undef = .pointer (some ⟨w.heap.size, 5, none⟩) := eval_get (dep_of hdep 2 11 rfl (by kernel_rfl) rfl rfl)
      rw [if_pos (show Region.wanted _ _ = true from rfl)]
      have y := (hle.block w.heap.size HPl.out (by simp; omega)).trans HP.out
      have y0 := Go.Joins.cell_of_block y 5
      unfold Oper.wp
      simp [go_sem, d11, y0]
      exact hK _ _ (grown_refl _ _) hjj rfl
    · intro a ws f hle hjj hfi hun hdn hag hdep K Q hK
      have d1 : (a.tmps[1]?).getD undef = .pointer (some ⟨w.heap.size, 0, none⟩) := eval_get (hag 1 (freeB_spec (by kernel_rfl)))
      rw [if_pos (show Region.wanted _ _ = true from rfl)]
      unfold Oper.wp
      simp [go_sem, d1]
      exact hK _ _ (grown_refl _ _) hjj rfl
    · intro a ws f hle hjj hfi hun hdn hag hdep K Q hK
      have d13 : (a.tmps[13]?).getD undef = .pointer (some ⟨w.heap.size, 6, none⟩) := eval_get (dep_of hdep 4 13 rfl (by kernel_rfl) rfl rfl)
      rw [if_pos (show Region.wanted _ _ = true from rfl)]
      have y := (hle.block w.heap.size HPl.out (by simp; omega)).trans HP.out
      have y0 := Go.Joins.cell_of_block y 6
      unfold Oper.wp
      simp [go_sem, d13, y0]
      exact hK _ _ (grown_refl _ _) hjj rfl
    · intro a ws f hle hjj hfi hun hdn hag hdep K Q hK
      have d1 : (a.tmps[1]?).getD undef = .pointer (some ⟨w.heap.size, 0, none⟩) := eval_get (hag 1 (freeB_spec (by kernel_rfl)))
      rw [if_pos (show Region.wanted _ _ = true from rfl)]
      unfold Oper.wp
      simp [go_sem, d1]
      exact hK _ _ (grown_refl _ _) hjj rfl
    · intro a ws f hle hjj hfi hun hdn hag hdep K Q hK
      have d15 : (a.tmps[15]?).getD undef = .pointer (some ⟨w.heap.size, 1, none⟩) := eval_get (dep_of hdep 6 15 rfl (by kernel_rfl) rfl rfl)
      rw [if_pos (show Region.wanted _ _ = true from rfl)]
      have y := (hle.block w.heap.size HPl.out (by simp; omega)).trans HP.out
      have y0 := Go.Joins.cell_of_block y 1
      unfold Oper.wp
      simp [go_sem, d15, y0]
      exact hK _ _ (grown_refl _ _) hjj rfl
    · intro a ws f hle hjj hfi hun hdn hag hdep K Q hK
      have d3 : (a.tmps[3]?).getD undef = .pointer (some ⟨w1.heap.size, 0, none⟩) := eval_get (hag 3 (freeB_spec (by kernel_rfl)))
      rw [if_pos (show Region.wanted _ _ = true from rfl)]
      unfold Oper.wp
      simp [go_sem, d3]
      exact hK _ _ (grown_refl _ _) hjj rfl
    · intro a ws f hle hjj hfi hun hdn hag hdep K Q hK
      have d17 : (a.tmps[17]?).getD undef = .pointer (some ⟨w1.heap.size, 2, none⟩) := eval_get (dep_of hdep 8 17 rfl (by kernel_rfl) rfl rfl)
      have d10 : (a.tmps[10]?).getD undef = .int .i64 x := eval_get (dep_of hdep 1 10 rfl (by kernel_rfl) rfl rfl)
      rw [if_pos (show Region.wanted _ _ = true from rfl)]
      have y := Go.Joins.cell_of_block hjj 2
      have z := Go.Joins.unfrozen_of_block hjj 2
      unfold Oper.wp
      simp [go_sem, d17, d10, y, z]
      exact hK undef _ set_grown (six_set2 hjj) trivial
    · intro a ws f hle hjj hfi hun hdn hag hdep K Q hK
      have d3 : (a.tmps[3]?).getD undef = .pointer (some ⟨w1.heap.size, 0, none⟩) := eval_get (hag 3 (freeB_spec (by kernel_rfl)))
      rw [if_pos (show Region.wanted _ _ = true from rfl)]
      unfold Oper.wp
      simp [go_sem, d3]
      exact hK _ _ (grown_refl _ _) hjj rfl
    · intro a ws f hle hjj hfi hun hdn hag hdep K Q hK
      have d18 : (a.tmps[18]?).getD undef = .pointer (some ⟨w1.heap.size, 3, none⟩) := eval_get (dep_of hdep 10 18 rfl (by kernel_rfl) rfl rfl)
      have d12 : (a.tmps[12]?).getD undef = .int .i64 y := eval_get (dep_of hdep 3 12 rfl (by kernel_rfl) rfl rfl)
      rw [if_pos (show Region.wanted _ _ = true from rfl)]
      have y := Go.Joins.cell_of_block hjj 3
      have z := Go.Joins.unfrozen_of_block hjj 3
      unfold Oper.wp
      simp [go_sem, d18, d12, y, z]
      exact hK undef _ set_grown (six_set3 hjj) trivial
    · intro a ws f hle hjj hfi hun hdn hag hdep K Q hK
      have d3 : (a.tmps[3]?).getD undef = .pointer (some ⟨w1.heap.size, 0, none⟩) := eval_get (hag 3 (freeB_spec (by kernel_rfl)))
      rw [if_pos (show Region.wanted _ _ = true from rfl)]
      unfold Oper.wp
      simp [go_sem, d3]
      exact hK _ _ (grown_refl _ _) hjj rfl
    · intro a ws f hle hjj hfi hun hdn hag hdep K Q hK
      have d19 : (a.tmps[19]?).getD undef = .pointer (some ⟨w1.heap.size, 4, none⟩) := eval_get (dep_of hdep 12 19 rfl (by kernel_rfl) rfl rfl)
      have d14 : (a.tmps[14]?).getD undef = .int .i64 z := eval_get (dep_of hdep 5 14 rfl (by kernel_rfl) rfl rfl)
      rw [if_pos (show Region.wanted _ _ = true from rfl)]
      have y := Go.Joins.cell_of_block hjj 4
      have z := Go.Joins.unfrozen_of_block hjj 4
      unfold Oper.wp
      simp [go_sem, d19, d14, y, z]
      exact hK undef _ set_grown (six_set4 hjj) trivial
    · intro a ws f hle hjj hfi hun hdn hag hdep K Q hK
      have d3 : (a.tmps[3]?).getD undef = .pointer (some ⟨w1.heap.size, 0, none⟩) := eval_get (hag 3 (freeB_spec (by kernel_rfl)))
      rw [if_pos (show Region.wanted _ _ = true from rfl)]
      unfold Oper.wp
      simp [go_sem, d3]
      exact hK _ _ (grown_refl _ _) hjj rfl
  · intro a ws f hle hjj hft hff hsz hdf hag hend
    have f9 : a.eval (.tmp 9) = .pointer (some ⟨w.heap.size, 4, none⟩) := end_of hend 0 9 (by decide) rfl rfl rfl
    have f10 : a.eval (.tmp 10) = .int .i64 x := end_of hend 1 10 (by decide) rfl rfl rfl
    have f11 : a.eval (.tmp 11) = .pointer (some ⟨w.heap.size, 5, none⟩) := end_of hend 2 11 (by decide) rfl rfl rfl
    have f12 : a.eval (.tmp 12) = .int .i64 y := end_of hend 3 12 (by decide) rfl rfl rfl
    have f13 : a.eval (.tmp 13) = .pointer (some ⟨w.heap.size, 6, none⟩) := end_of hend 4 13 (by decide) rfl rfl rfl
    have f14 : a.eval (.tmp 14) = .int .i64 z := end_of hend 5 14 (by decide) rfl rfl rfl
    have f15 : a.eval (.tmp 15) = .pointer (some ⟨w.heap.size, 1, none⟩) := end_of hend 6 15 (by decide) rfl rfl rfl
    have f16 : a.eval (.tmp 16) = .int .i64 t := end_of hend 7 16 (by decide) rfl rfl rfl
    have f17 : a.eval (.tmp 17) = .pointer (some ⟨w1.heap.size, 2, none⟩) := end_of hend 8 17 (by decide) rfl rfl rfl
    have f18 : a.eval (.tmp 18) = .pointer (some ⟨w1.heap.size, 3, none⟩) := end_of hend 10 18 (by decide) rfl rfl rfl
    have f19 : a.eval (.tmp 19) = .pointer (some ⟨w1.heap.size, 4, none⟩) := end_of hend 12 19 (by decide) rfl rfl rfl
    have f20 : a.eval (.tmp 20) = .pointer (some ⟨w1.heap.size, 5, none⟩) := end_of hend 14 20 (by decide) rfl rfl rfl
    have ea := act_block 9 12 hsz hdf hag [9, 10, 11, 12, 13, 14, 15, 16, 17, 18, 19, 20] (by kernel_rfl) (by kernel_rfl) (of_decide_eq_true (by kernel_rfl))
    clear hag hend hsz hdf
    simp only [List.map_cons, List.map_nil, f9, f10, f11, f12, f13, f14, f15, f16, f17, f18, f19, f20] at ea
    clear f9 f10 f11 f12 f13 f14 f15 f16 f17 f18 f19 f20
    simp only [List.take_succ_cons, List.take_zero, List.drop_succ_cons, List.drop_zero, List.cons_append, List.nil_append] at ea
    subst ea
    have hg := Go.Joins.cell_of_block hjj
    have g0 := hg 0; have g1 := hg 1; have g2 := hg 2; have g3 := hg 3; have g4 := hg 4; have g5 := hg 5
    simp only [List.getElem?_toArray, List.getElem?_cons_succ, List.getElem?_cons_zero, hft 9 (by decide), hft 11 (by decide), hft 13 (by decide), sel, if_true] at g0 g1 g2 g3 g4 g5
    have hr0 := (hle.block _ HRl.out (by simp; omega)).trans HR.out
    have hr := Go.Joins.cell_of_block hr0
    have hz := Go.Joins.unfrozen_of_block hr0
    have r0 := hr 0; have r1 := hr 1; have r2 := hr 2; have r3 := hr 3; have r4 := hr 4; have r5 := hr 5
    have z0 := hz 0; have z1 := hz 1; have z2 := hz 2; have z3 := hz 3; have z4 := hz 4; have z5 := hz 5
    simp only [List.getElem?_toArray, List.getElem?_cons_succ, List.getElem?_cons_zero] at r0 r1 r2 r3 r4 r5
    have HF : Hid (Below w.heap.size w ws) := HW.out.grown hle HW.out.size (fun k hk => by injection hk with hk; omega)
    have hz5 := Go.Joins.unfrozen_of_block hjj 5
    clear hg hr hz hle hjj hft hff
    go_wp2
    have hblk := set6_blk (ws.setCell ⟨w1.heap.size, 5, none⟩ (.int .i64 t)) (w.heap.size + 1) _ _ _ _ _ _ ((Below.heap_setCell _ _ _ _ (by show w.heap.size + 1 ≠ w1.heap.size; omega)).trans hr0) (.int .i64 U) (.int .i64 V) (.int .i64 x) (.int .i64 y) (.int .i64 z) (.int .i64 t)
    have hbel := below_set6 (HF.out.setCell (p := ⟨w1.heap.size, 5, none⟩) (by show w.heap.size ≤ w1.heap.size; omega) (.int .i64 t)) (show w.heap.size ≤ w.heap.size + 1 by omega) (.int .i64 U) (.int .i64 V) (.int .i64 x) (.int .i64 y) (.int .i64 z) (.int .i64 t)
    exact ret_link (p := 2) Try.results74 rfl (w.heap.size + 1) rfl hblk ⟨rfl, hbel⟩
end Go.Proofs.Ytfapfkaipdcflaa.K
