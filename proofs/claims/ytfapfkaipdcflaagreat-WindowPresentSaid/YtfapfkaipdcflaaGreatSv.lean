/-
  The maker's Event and Events; two lists of the same events.
-/
import Derived.Test.YtfapfkaipdcflaaGreatRb
import Derived.Test.YtfapfkaipdcflaaGreatLm
import Derived.Test.YtfapfkaipdcflaaGreatIn
namespace Go.Proofs.YtfapfkaipdcflaaGreat
open Go.RowKit Go.Lib

/-- what Event answers: a valid event, and the deck goes on -/
def EventP (N : Nat) (t : Int) (base g : Nat) (A : Option Addr) (c : Nat) (L : List Int) (w : World) (en : Ending) (w' : World) : Prop :=
  ∃ (e : Ev) (m : Nat), en = .returned (.agg #[.int .i64 e.kind, .int .i64 e.time, .int .i64 e.u, .int .i64 e.v, .int .i64 e.weight, .int .i64 e.label, .int .i64 e.sign]) ∧ (chkE e = 0 ∧ e.u < (N : Int) ∧ e.v < (N : Int) ∧ e.time = t) ∧ Dk base w' g A c L m ∧ w.grownBy w' (some g)
theorem chk_set (t u v x y z : Int) (ht : 0 ≤ t ∧ t ≤ 1048576) (hu : 0 ≤ u ∧ u < 64) (hv : 0 ≤ v ∧ v < 64) (hne : u ≠ v) (hx : 1 ≤ x ∧ x ≤ 1000) (hy : 0 ≤ y ∧ y ≤ 15) (hz : z = 1 ∨ z = -1) : chkE ⟨1, t, u, v, x, y, z⟩ = 0 := by
  simp [chkE, nodesB, okN, attrB]
  omega
theorem chk_cut (t u v : Int) (ht : 0 ≤ t ∧ t ≤ 1048576) (hu : 0 ≤ u ∧ u < 64) (hv : 0 ≤ v ∧ v < 64) (hne : u ≠ v) : chkE ⟨2, t, u, v, 0, 0, 0⟩ = 0 := by
  simp [chkE, nodesB, okN, attrB]
  omega
theorem chk_leave (t u : Int) (ht : 0 ≤ t ∧ t ≤ 1048576) (hu : 0 ≤ u ∧ u < 64) : chkE ⟨3, t, u, 0, 0, 0, 0⟩ = 0 := by
  simp [chkE, nodesB, okN, attrB]
  omega
set_option maxHeartbeats 4000000 in
set_option maxRecDepth 100000 in
theorem event_any (base g : Nat) (A : Option Addr) (c : Nat) (L : List Int) (m : Nat) (N : Nat) (t : Int) (w : World) (D : Dk base w g A c L m) (hL : L.length ≤ 17592186044416) (hN : 2 ≤ N ∧ N ≤ 64) (ht : 0 ≤ t ∧ t ≤ 1048576) :
    Calls Tryz.prog 42 #[.pointer (some ⟨g, 0, none⟩), .int .i64 N, .int .i64 t] w (EventP N t base g A c L w) := by
  have HD0 := Lib.hid D
  have hgw : g < w.heap.size := D.lt
  have HNN := Lib.hid hN
  have HT := Lib.hid ht
  clear D hN ht
  go_enter Tryz.func42, Tryz.ntmps42
  go_wp2_with fail
  refine (next_any base g A c L _ N _ (HD0.out.go (below_new _ _)) hL (by have := HNN.out; omega)).mono ?_
  rintro e w1 ⟨u, m1, rfl, hu1, hu2, D1, g1⟩
  have HU : Hid (0 ≤ u ∧ u < (N : Int)) := by show _ ∧ _; have := HNN.out; omega
  have HD1 := Lib.hid D1
  have HB6 := Lib.hid ((g1.block w.heap.size (by simp) (by simp; omega)).trans (heap_alloc_new _ _))
  have HG1 : Hid (w.grownBy w1 (some g)) := grown_trans (grown_below (grown_refl w g) (below_new _ _) (Nat.le_refl _)) g1
  have hs1 : w.heap.size < w1.heap.size := by have := g1.size; simp at this; omega
  clear D1 g1 hu1 hu2 HD0
  go_wp2_with fail
  have HD1J : Hid (∃ m, Dk base ((w1.alloc (.cells #[.int .i64 1, .int .i64 t, .int .i64 u, .int .i64 0, .int .i64 0, .int .i64 0, .int .i64 0] 57)).drewN 1) g A c L m) := ⟨m1, HD1.out.go ((below_new w1 _).trans ((below_drewN _ 1).mono (by simp)))⟩
  have hg1 : g < w1.heap.size := HD1.out.lt
  refine wp_region_ac 11 56 (fun u v => u.grownBy v (some g)) (fun _ _ w => ∃ m, Dk base w g A c L m) [(fun q0 _ => q0 = .pointer (some ⟨w1.heap.size, 2, none⟩)), (fun q0 _ => q0 = .int .i64 u), (fun q0 _ => q0 = .int .i64 (u + 1)), (fun q0 _ => q0 = .pointer (some ⟨g, 0, none⟩)), (fun q0 _ => q0 = .int .i64 (N : Int)), (fun q0 _ => q0 = .int .i64 ((N : Int) - 1)), (fun q0 _ => ∃ y : Int, 0 ≤ y ∧ y ≤ ((N : Int) - 2) ∧ q0 = .int .i64 y), (fun q0 _ => ∃ y : Int, (u + 1) ≤ y ∧ y ≤ (u + (N : Int) - 1) ∧ q0 = .int .i64 y), (fun q0 _ => q0 = .int .i64 (N : Int)), (fun q0 _ => ∃ y : Int, 0 ≤ y ∧ y < (N : Int) ∧ y ≠ u ∧ q0 = .int .i64 y), (fun q0 _ => q0 = .pointer (some ⟨w1.heap.size, 3, none⟩))] (by kernel_rfl) (by kernel_rfl) rfl (fun _ _ _ h1 h2 => grown_trans h1 h2) (only_drewN 1 g) HD1J.out ?_ ?_ ?_
  · intro R hR
    simp only [List.mem_cons, List.not_mem_nil, or_false] at hR
    rcases hR with rfl | rfl | rfl | rfl | rfl | rfl | rfl | rfl | rfl | rfl | rfl <;> exact fun _ _ _ h _ => h
  · simp only [List.take_succ_cons, List.take_zero]
    refine ⟨?_, ?_, ?_, ?_, ?_, ?_, ?_, ?_, ?_, ?_, ?_, trivial⟩
    · intro a ws f hle hjj hfi hun hdn hag hdep K Q hK
      have d7 : (a.tmps[7]?).getD undef = .pointer (some ⟨w1.heap.size, 0, none⟩) := eval_get (hag 7 (freeB_spec (by kernel_rfl)))
      rw [if_pos (show Region.wanted _ _ = true from rfl)]
      unfold Oper.wp
      simp [go_sem, d7]
      exact hK _ _ (grown_refl _ _) hjj rfl
    · intro a ws f hle hjj hfi hun hdn hag hdep K Q hK
      have d14 : (a.tmps[14]?).getD undef = .pointer (some ⟨w1.heap.size, 2, none⟩) := eval_get (dep_of hdep 0 14 rfl (by kernel_rfl) rfl rfl)
      rw [if_pos (show Region.wanted _ _ = true from rfl)]
      have yc := (hle.block w1.heap.size (by simp) (by simp; omega)).trans (heap_alloc_new w1 _)
      have yc2 := Go.Joins.cell_of_block yc 2
      unfold Oper.wp
      simp [go_sem, d14, yc2]
      exact hK _ _ (grown_refl _ _) hjj rfl
    · intro a ws f hle hjj hfi hun hdn hag hdep K Q hK
      have d15 : (a.tmps[15]?).getD undef = .int .i64 u := eval_get (dep_of hdep 1 15 rfl (by kernel_rfl) rfl rfl)
      rw [if_pos (show Region.wanted _ _ = true from rfl)]
      have hw : IntKind.i64.wrap (u + 1) = u + 1 := IntWalk.i64_in _ (by have := HU.out; have := HNN.out; omega)
      unfold Oper.wp
      simp [go_sem, d15, hw]
      exact hK _ _ (grown_refl _ _) hjj rfl
    · intro a ws f hle hjj hfi hun hdn hag hdep K Q hK
      have d0 : (a.tmps[0]?).getD undef = .pointer (some ⟨g, 0, none⟩) := eval_get (hag 0 (freeB_spec (by kernel_rfl)))
      rw [if_pos (show Region.wanted _ _ = true from rfl)]
      unfold Oper.wp
      simp [go_sem, d0]
      exact hK _ _ (grown_refl _ _) hjj rfl
    · intro a ws f hle hjj hfi hun hdn hag hdep K Q hK
      have d1 : (a.tmps[1]?).getD undef = .int .i64 (N : Int) := eval_get (hag 1 (freeB_spec (by kernel_rfl)))
      rw [if_pos (show Region.wanted _ _ = true from rfl)]
      unfold Oper.wp
      simp [go_sem, d1]
      exact hK _ _ (grown_refl _ _) hjj rfl
    · intro a ws f hle hjj hfi hun hdn hag hdep K Q hK
      have d18 : (a.tmps[18]?).getD undef = .int .i64 (N : Int) := eval_get (dep_of hdep 4 18 rfl (by kernel_rfl) rfl rfl)
      rw [if_pos (show Region.wanted _ _ = true from rfl)]
      have hw : IntKind.i64.wrap ((N : Int) - 1) = (N : Int) - 1 := IntWalk.i64_in _ (by have := HNN.out; omega)
      unfold Oper.wp
      simp [go_sem, d18, hw]
      exact hK _ _ (grown_refl _ _) hjj rfl
    · intro a ws f hle hjj hfi hun hdn hag hdep K Q hK
      have d17 : (a.tmps[17]?).getD undef = .pointer (some ⟨g, 0, none⟩) := eval_get (dep_of hdep 3 17 rfl (by kernel_rfl) rfl rfl)
      have d19 : (a.tmps[19]?).getD undef = .int .i64 ((N : Int) - 1) := eval_get (dep_of hdep 5 19 rfl (by kernel_rfl) rfl rfl)
      rw [if_pos (show Region.wanted _ _ = true from rfl)]
      obtain ⟨mm, hdm⟩ := hjj
      have hcon := next_any base g A c L mm ((N : Int) - 1) ws hdm hL (by have := HNN.out; omega)
      unfold Oper.wp
      simp [go_sem, d17, d19]
      refine hcon.mono ?_
      rintro e w9 ⟨r, m9, rfl, hr0, hr1, hd9, hg9⟩
      exact hK _ _ hg9 ⟨m9, hd9⟩ ⟨r, hr0, by have := HNN.out; omega, rfl⟩
    · intro a ws f hle hjj hfi hun hdn hag hdep K Q hK
      have d16 : (a.tmps[16]?).getD undef = .int .i64 (u + 1) := eval_get (dep_of hdep 2 16 rfl (by kernel_rfl) rfl rfl)
      have d20 : (fun q0 _ => ∃ y : Int, 0 ≤ y ∧ y ≤ ((N : Int) - 2) ∧ q0 = .int .i64 y) (a.eval (.tmp 20)) ws := dep_of hdep 6 20 rfl (by kernel_rfl) rfl rfl
      rw [if_pos (show Region.wanted _ _ = true from rfl)]
      obtain ⟨y, hy0, hy1, e20⟩ := d20
      have e20 := eval_get e20
      have hw : IntKind.i64.wrap (u + 1 + y) = u + 1 + y := IntWalk.i64_in _ (by have := HU.out; have := HNN.out; omega)
      unfold Oper.wp
      simp [go_sem, d16, e20, hw]
      exact hK _ _ (grown_refl _ _) hjj ⟨u + 1 + y, by omega, by omega, rfl⟩
    · intro a ws f hle hjj hfi hun hdn hag hdep K Q hK
      have d1 : (a.tmps[1]?).getD undef = .int .i64 (N : Int) := eval_get (hag 1 (freeB_spec (by kernel_rfl)))
      rw [if_pos (show Region.wanted _ _ = true from rfl)]
      unfold Oper.wp
      simp [go_sem, d1]
      exact hK _ _ (grown_refl _ _) hjj rfl
    · intro a ws f hle hjj hfi hun hdn hag hdep K Q hK
      have d21 : (fun q0 _ => ∃ y : Int, (u + 1) ≤ y ∧ y ≤ (u + (N : Int) - 1) ∧ q0 = .int .i64 y) (a.eval (.tmp 21)) ws := dep_of hdep 7 21 rfl (by kernel_rfl) rfl rfl
      have d22 : (a.tmps[22]?).getD undef = .int .i64 (N : Int) := eval_get (dep_of hdep 8 22 rfl (by kernel_rfl) rfl rfl)
      rw [if_pos (show Region.wanted _ _ = true from rfl)]
      obtain ⟨y, hy0, hy1, e21⟩ := d21
      have e21 := eval_get e21
      have hn := HNN.out
      have hu := HU.out
      have hz0 : ¬ N = 0 := by omega
      have hz1 : (N : Int) ≠ 0 := by omega
      have hmod : y.tmod (N : Int) = y % (N : Int) := Int.tmod_eq_emod_of_nonneg (by omega)
      have q1 := Int.emod_nonneg y hz1
      have q2 := Int.emod_lt_of_pos y (show 0 < (N : Int) by omega)
      have q3 : y % (N : Int) ≠ u := by
        intro e
        by_cases hlt : y < (N : Int)
        · rw [Int.emod_eq_of_lt (by omega) hlt] at e; omega
        · have : y % (N : Int) = (y - N) % (N : Int) := by rw [Int.sub_emod_right]
          rw [this, Int.emod_eq_of_lt (by omega) (by omega)] at e; omega
      unfold Oper.wp
      simp [go_sem, d22, e21, hz0, hmod]
      exact hK _ _ (grown_refl _ _) hjj ⟨y % (N : Int), q1, q2, q3, rfl⟩
    · intro a ws f hle hjj hfi hun hdn hag hdep K Q hK
      have d7 : (a.tmps[7]?).getD undef = .pointer (some ⟨w1.heap.size, 0, none⟩) := eval_get (hag 7 (freeB_spec (by kernel_rfl)))
      rw [if_pos (show Region.wanted _ _ = true from rfl)]
      unfold Oper.wp
      simp [go_sem, d7]
      exact hK _ _ (grown_refl _ _) hjj rfl
  · intro a ws f hle hjj hft hff hsz hdf hag hend
    have f14 : a.eval (.tmp 14) = .pointer (some ⟨w1.heap.size, 2, none⟩) := end_of hend 0 14 (by decide) rfl rfl rfl
    have f15 : a.eval (.tmp 15) = .int .i64 u := end_of hend 1 15 (by decide) rfl rfl rfl
    have f16 : a.eval (.tmp 16) = .int .i64 (u + 1) := end_of hend 2 16 (by decide) rfl rfl rfl
    have f17 : a.eval (.tmp 17) = .pointer (some ⟨g, 0, none⟩) := end_of hend 3 17 (by decide) rfl rfl rfl
    have f18 : a.eval (.tmp 18) = .int .i64 (N : Int) := end_of hend 4 18 (by decide) rfl rfl rfl
    have f19 : a.eval (.tmp 19) = .int .i64 ((N : Int) - 1) := end_of hend 5 19 (by decide) rfl rfl rfl
    have f20 : (fun q0 _ => ∃ y : Int, 0 ≤ y ∧ y ≤ ((N : Int) - 2) ∧ q0 = .int .i64 y) (a.eval (.tmp 20)) ws := end_of hend 6 20 (by decide) rfl rfl rfl
    have f21 : (fun q0 _ => ∃ y : Int, (u + 1) ≤ y ∧ y ≤ (u + (N : Int) - 1) ∧ q0 = .int .i64 y) (a.eval (.tmp 21)) ws := end_of hend 7 21 (by decide) rfl rfl rfl
    have f22 : a.eval (.tmp 22) = .int .i64 (N : Int) := end_of hend 8 22 (by decide) rfl rfl rfl
    have f23 : (fun q0 _ => ∃ y : Int, 0 ≤ y ∧ y < (N : Int) ∧ y ≠ u ∧ q0 = .int .i64 y) (a.eval (.tmp 23)) ws := end_of hend 9 23 (by decide) rfl rfl rfl
    have f24 : a.eval (.tmp 24) = .pointer (some ⟨w1.heap.size, 3, none⟩) := end_of hend 10 24 (by decide) rfl rfl rfl
    have ea := act_block 14 11 hsz hdf hag [14, 15, 16, 17, 18, 19, 20, 21, 22, 23, 24] (by kernel_rfl) (by kernel_rfl) (of_decide_eq_true (by kernel_rfl))
    clear hag hend hsz hdf
    simp only [List.map_cons, List.map_nil, f14, f15, f16, f17, f18, f19, f22, f24] at ea
    clear f14 f15 f16 f17 f18 f19 f22 f24
    generalize a.eval (.tmp 20) = x20 at ea f20
    generalize a.eval (.tmp 21) = x21 at ea f21
    generalize a.eval (.tmp 23) = x23 at ea f23
    simp only [List.take_succ_cons, List.take_zero, List.drop_succ_cons, List.drop_zero, List.cons_append, List.nil_append] at ea
    subst ea
    clear f20 f21
    obtain ⟨v, hv0, hv1, hvu, rfl⟩ := f23
    obtain ⟨m2, hd2⟩ := hjj
    clear hft hff
    have hb7 := (hle.block w1.heap.size (by simp) (by simp; omega)).trans (heap_alloc_new w1 _)
    have HB7 : Hid ((ws.setCell ⟨w1.heap.size, 3, none⟩ (.int .i64 v)).heap[w1.heap.size]? = some (.cells #[.int .i64 1, .int .i64 t, .int .i64 u, .int .i64 v, .int .i64 0, .int .i64 0, .int .i64 0] 57 (0, 0))) := by
      show _ = _
      simp [World.setCell, Array.getElem?_modify, hb7]
    have hsl : w1.heap.size < ws.heap.size := (Array.getElem?_eq_some_iff.1 hb7).1
    have hb6 : ws.heap[w.heap.size]? = some (.cells #[.int .i64 0, .int .i64 0, .int .i64 0, .int .i64 0, .int .i64 0, .int .i64 0, .int .i64 0] 57 (0, 0)) := (hle.block w.heap.size (by simp; omega) (by simp; omega)).trans ((heap_alloc_old w1 _ hs1).trans HB6.out)
    have HB6' : Hid ((ws.setCell ⟨w1.heap.size, 3, none⟩ (.int .i64 v)).heap[w.heap.size]? = some (.cells #[.int .i64 0, .int .i64 0, .int .i64 0, .int .i64 0, .int .i64 0, .int .i64 0, .int .i64 0] 57 (0, 0))) := (Below.heap_setCell ws ⟨w1.heap.size, 3, none⟩ _ w.heap.size (by show w.heap.size ≠ w1.heap.size; omega)).trans hb6
    have hbs : Below w1.heap.size ws (ws.setCell ⟨w1.heap.size, 3, none⟩ (.int .i64 v)) := (Below.refl _ _).setCell (p := ⟨w1.heap.size, 3, none⟩) (Nat.le_refl _) _
    have HD3 := Lib.hid (hd2.goB hbs hg1)
    have HG3 : Hid (w.grownBy (ws.setCell ⟨w1.heap.size, 3, none⟩ (.int .i64 v)) (some g)) := grown_below (grown_trans (grown_below HG1.out (below_new w1 _) HG1.out.size) hle) hbs HG1.out.size
    have c3 := Go.Joins.cell_of_block hb7 3
    have q3 := Go.Joins.unfrozen_of_block hb7 3
    simp only [List.getElem?_toArray, List.getElem?_cons_succ, List.getElem?_cons_zero] at c3
    clear hb7 hb6 hbs hd2 hle HD1J HD1
    simp only [List.drop_succ_cons, List.drop_zero]
    go_wp2_with fail
    clear c3 q3
    generalize ws.setCell ⟨w1.heap.size, 3, none⟩ (.int .i64 v) = W3 at HB7 HB6' HD3 HG3 ⊢
    have h63 : w.heap.size < W3.heap.size := (Array.getElem?_eq_some_iff.1 HB6'.out).1
    have h73 : w1.heap.size < W3.heap.size := (Array.getElem?_eq_some_iff.1 HB7.out).1
    refine (next_any base g A c L _ 10 _ HD3.out hL (by decide)).mono ?_
    rintro e w4 ⟨k, m4, rfl, hk1, hk2, D4, g4⟩
    have HD4 := Lib.hid D4
    have HG4 := Lib.hid (grown_trans HG3.out g4)
    have HB64 := Lib.hid ((g4.block w.heap.size h63 (by simp; omega)).trans HB6'.out)
    have HB74 := Lib.hid ((g4.block w1.heap.size h73 (by simp; omega)).trans HB7.out)
    have h64 : w.heap.size < w4.heap.size := (Array.getElem?_eq_some_iff.1 HB64.out).1
    have h74 : w1.heap.size < w4.heap.size := (Array.getElem?_eq_some_iff.1 HB74.out).1
    clear D4 g4 HD3 HG3 HB6' HB7 HB6 hk2
    have HVB : Hid (0 ≤ v ∧ v < 64 ∧ 0 ≤ u ∧ u < 64 ∧ u ≠ v) := by show _ ∧ _; have := HNN.out; have := HU.out; omega
    by_cases hk8 : 8 ≤ k
    · have hd8 : decide (k ≥ 8) = true := by simpa using hk8
      have pa := Go.Joins.cell_of_block HB64.out
      have za := Go.Joins.unfrozen_of_block HB64.out
      have ac0 := pa 0; have ac1 := pa 1; have ac2 := pa 2; have ac3 := pa 3; have ac4 := pa 4; have ac5 := pa 5; have ac6 := pa 6
      have af0 := za 0; have af1 := za 1; have af2 := za 2; have af3 := za 3; have af4 := za 4; have af5 := za 5; have af6 := za 6
      simp only [List.getElem?_toArray, List.getElem?_cons_succ, List.getElem?_cons_zero] at ac0 ac1 ac2 ac3 ac4 ac5 ac6
      clear pa za
      have pb := Go.Joins.cell_of_block HB74.out
      have zb := Go.Joins.unfrozen_of_block HB74.out
      have bc0 := pb 0; have bc1 := pb 1; have bc2 := pb 2; have bc3 := pb 3; have bc4 := pb 4; have bc5 := pb 5; have bc6 := pb 6
      have bf0 := zb 0; have bf1 := zb 1; have bf2 := zb 2; have bf3 := zb 3; have bf4 := zb 4; have bf5 := zb 5; have bf6 := zb 6
      simp only [List.getElem?_toArray, List.getElem?_cons_succ, List.getElem?_cons_zero] at bc0 bc1 bc2 bc3 bc4 bc5 bc6
      clear pb zb
      go_wp2
      have hblk := set7_blkT w4 w.heap.size _ _ _ _ _ _ _ HB64.out (.int .i64 3) (.int .i64 t) (.int .i64 u) (.int .i64 0) (.int .i64 0) (.int .i64 0) (.int .i64 0)
      have hbel : Below w.heap.size w4 _ := below_set7 (Below.refl _ _) (Nat.le_refl _) (.int .i64 3) (.int .i64 t) (.int .i64 u) (.int .i64 0) (.int .i64 0) (.int .i64 0) (.int .i64 0)
      generalize (((((((w4.setCell ⟨w.heap.size, 0, none⟩ (.int .i64 3)).setCell ⟨w.heap.size, 1, none⟩ (.int .i64 t)).setCell ⟨w.heap.size, 2, none⟩ (.int .i64 u)).setCell ⟨w.heap.size, 3, none⟩ (.int .i64 0)).setCell ⟨w.heap.size, 4, none⟩ (.int .i64 0)).setCell ⟨w.heap.size, 5, none⟩ (.int .i64 0)).setCell ⟨w.heap.size, 6, none⟩ (.int .i64 0)) = W9 at hblk hbel ⊢
      exact ret_struct1 (p := 6) Tryz.results42 rfl w.heap.size rfl hblk ⟨⟨3, t, u, 0, 0, 0, 0⟩, _, rfl, ⟨chk_leave t u HT.out (by have := HVB.out; omega), (by have := HU.out; show u < (N : Int); omega), (by have := HU.out; show (0 : Int) < (N : Int); omega), rfl⟩, HD4.out.goB hbel hgw, grown_below HG4.out hbel (Nat.le_refl _)⟩
    · by_cases hk5 : 5 ≤ k
      · have hd8 : decide (k ≥ 8) = false := by simpa using hk8
        have hd5 : decide (k ≥ 5) = true := by simpa using hk5
        have pa := Go.Joins.cell_of_block HB64.out
        have za := Go.Joins.unfrozen_of_block HB64.out
        have ac0 := pa 0; have ac1 := pa 1; have ac2 := pa 2; have ac3 := pa 3; have ac4 := pa 4; have ac5 := pa 5; have ac6 := pa 6
        have af0 := za 0; have af1 := za 1; have af2 := za 2; have af3 := za 3; have af4 := za 4; have af5 := za 5; have af6 := za 6
        simp only [List.getElem?_toArray, List.getElem?_cons_succ, List.getElem?_cons_zero] at ac0 ac1 ac2 ac3 ac4 ac5 ac6
        clear pa za
        have pb := Go.Joins.cell_of_block HB74.out
        have zb := Go.Joins.unfrozen_of_block HB74.out
        have bc0 := pb 0; have bc1 := pb 1; have bc2 := pb 2; have bc3 := pb 3; have bc4 := pb 4; have bc5 := pb 5; have bc6 := pb 6
        have bf0 := zb 0; have bf1 := zb 1; have bf2 := zb 2; have bf3 := zb 3; have bf4 := zb 4; have bf5 := zb 5; have bf6 := zb 6
        simp only [List.getElem?_toArray, List.getElem?_cons_succ, List.getElem?_cons_zero] at bc0 bc1 bc2 bc3 bc4 bc5 bc6
        clear pb zb
        go_wp2
        have hblk := set7_blkT w4 w.heap.size _ _ _ _ _ _ _ HB64.out (.int .i64 2) (.int .i64 t) (.int .i64 u) (.int .i64 v) (.int .i64 0) (.int .i64 0) (.int .i64 0)
        have hbel : Below w.heap.size w4 _ := below_set7 (Below.refl _ _) (Nat.le_refl _) (.int .i64 2) (.int .i64 t) (.int .i64 u) (.int .i64 v) (.int .i64 0) (.int .i64 0) (.int .i64 0)
        generalize (((((((w4.setCell ⟨w.heap.size, 0, none⟩ (.int .i64 2)).setCell ⟨w.heap.size, 1, none⟩ (.int .i64 t)).setCell ⟨w.heap.size, 2, none⟩ (.int .i64 u)).setCell ⟨w.heap.size, 3, none⟩ (.int .i64 v)).setCell ⟨w.heap.size, 4, none⟩ (.int .i64 0)).setCell ⟨w.heap.size, 5, none⟩ (.int .i64 0)).setCell ⟨w.heap.size, 6, none⟩ (.int .i64 0)) = W9 at hblk hbel ⊢
        exact ret_struct1 (p := 6) Tryz.results42 rfl w.heap.size rfl hblk ⟨⟨2, t, u, v, 0, 0, 0⟩, _, rfl, ⟨chk_cut t u v HT.out (by have := HVB.out; omega) (by have := HVB.out; omega) (by have := HVB.out; omega), (by have := HU.out; show u < (N : Int); omega), (by have := HVB.out; show v < (N : Int); omega), rfl⟩, HD4.out.goB hbel hgw, grown_below HG4.out hbel (Nat.le_refl _)⟩
      · have hd8 : decide (k ≥ 8) = false := by simpa using hk8
        have hd5 : decide (k ≥ 5) = false := by simpa using hk5
        go_wp2_with fail
        refine (next_any base g A c L _ 6 _ HD4.out hL (by decide)).mono ?_
        rintro e w5 ⟨x, m5, rfl, hx1, hx2, D5, g5⟩
        have HD5 := Lib.hid D5
        have HG5 := Lib.hid (grown_trans HG4.out g5)
        have HB65 := Lib.hid ((g5.block w.heap.size h64 (by simp; omega)).trans HB64.out)
        have HB75 := Lib.hid ((g5.block w1.heap.size h74 (by simp; omega)).trans HB74.out)
        have h65 : w.heap.size < w5.heap.size := (Array.getElem?_eq_some_iff.1 HB65.out).1
        have h75 : w1.heap.size < w5.heap.size := (Array.getElem?_eq_some_iff.1 HB75.out).1
        clear D5 g5 HD4 HG4 HB64 HB74
        go_wp2_with fail
        refine (next_any base g A c L _ 4 _ HD5.out hL (by decide)).mono ?_
        rintro e w6 ⟨y, m6, rfl, hy1, hy2, D6, g6⟩
        have HD6 := Lib.hid D6
        have HG6 := Lib.hid (grown_trans HG5.out g6)
        have HB66 := Lib.hid ((g6.block w.heap.size h65 (by simp; omega)).trans HB65.out)
        have HB76 := Lib.hid ((g6.block w1.heap.size h75 (by simp; omega)).trans HB75.out)
        have h66 : w.heap.size < w6.heap.size := (Array.getElem?_eq_some_iff.1 HB66.out).1
        have h76 : w1.heap.size < w6.heap.size := (Array.getElem?_eq_some_iff.1 HB76.out).1
        clear D6 g6 HD5 HG5 HB65 HB75
        go_wp2_with fail
        refine (next_any base g A c L _ 2 _ HD6.out hL (by decide)).mono ?_
        rintro e w7 ⟨z, m7, rfl, hz1, hz2, D7, g7⟩
        have HD7 := Lib.hid D7
        have HG7 := Lib.hid (grown_trans HG6.out g7)
        have HB67 := Lib.hid ((g7.block w.heap.size h66 (by simp; omega)).trans HB66.out)
        have HB77 := Lib.hid ((g7.block w1.heap.size h76 (by simp; omega)).trans HB76.out)
        have h67 : w.heap.size < w7.heap.size := (Array.getElem?_eq_some_iff.1 HB67.out).1
        have h77 : w1.heap.size < w7.heap.size := (Array.getElem?_eq_some_iff.1 HB77.out).1
        clear D7 g7 HD6 HG6 HB66 HB76
        have f1 : IntKind.i64.wrap (1 + x) = 1 + x := IntWalk.i64_in _ (by omega)
        have f2 : IntKind.i64.wrap (2 * z) = 2 * z := IntWalk.i64_in _ (by omega)
        have f3 : IntKind.i64.wrap (1 - 2 * z) = 1 - 2 * z := IntWalk.i64_in _ (by omega)
        have HXB : Hid (0 ≤ x ∧ x ≤ 5 ∧ 0 ≤ y ∧ y ≤ 3 ∧ 0 ≤ z ∧ z ≤ 1) := by show _ ∧ _; omega
        clear hx1 hx2 hy1 hy2 hz1 hz2
        have pa := Go.Joins.cell_of_block HB67.out
        have za := Go.Joins.unfrozen_of_block HB67.out
        have ac0 := pa 0; have ac1 := pa 1; have ac2 := pa 2; have ac3 := pa 3; have ac4 := pa 4; have ac5 := pa 5; have ac6 := pa 6
        have af0 := za 0; have af1 := za 1; have af2 := za 2; have af3 := za 3; have af4 := za 4; have af5 := za 5; have af6 := za 6
        simp only [List.getElem?_toArray, List.getElem?_cons_succ, List.getElem?_cons_zero] at ac0 ac1 ac2 ac3 ac4 ac5 ac6
        clear pa za
        have pb := Go.Joins.cell_of_block HB77.out
        have zb := Go.Joins.unfrozen_of_block HB77.out
        have bc0 := pb 0; have bc1 := pb 1; have bc2 := pb 2; have bc3 := pb 3; have bc4 := pb 4; have bc5 := pb 5; have bc6 := pb 6
        have bf0 := zb 0; have bf1 := zb 1; have bf2 := zb 2; have bf3 := zb 3; have bf4 := zb 4; have bf5 := zb 5; have bf6 := zb 6
        simp only [List.getElem?_toArray, List.getElem?_cons_succ, List.getElem?_cons_zero] at bc0 bc1 bc2 bc3 bc4 bc5 bc6
        clear pb zb
        go_wp2
        have hb67 : (((w7.setCell ⟨w1.heap.size, 4, none⟩ (.int .i64 (1 + x))).setCell ⟨w1.heap.size, 5, none⟩ (.int .i64 y)).setCell ⟨w1.heap.size, 6, none⟩ (.int .i64 (1 - 2 * z))).heap[w.heap.size]? = some (.cells #[.int .i64 0, .int .i64 0, .int .i64 0, .int .i64 0, .int .i64 0, .int .i64 0, .int .i64 0] 57 (0, 0)) := by
          rw [Below.heap_setCell _ _ _ w.heap.size (by show w.heap.size ≠ w1.heap.size; omega), Below.heap_setCell _ _ _ w.heap.size (by show w.heap.size ≠ w1.heap.size; omega), Below.heap_setCell _ _ _ w.heap.size (by show w.heap.size ≠ w1.heap.size; omega)]
          exact HB67.out
        have hbw : Below w1.heap.size w7 (((w7.setCell ⟨w1.heap.size, 4, none⟩ (.int .i64 (1 + x))).setCell ⟨w1.heap.size, 5, none⟩ (.int .i64 y)).setCell ⟨w1.heap.size, 6, none⟩ (.int .i64 (1 - 2 * z))) := (((Below.refl _ _).setCell (p := ⟨w1.heap.size, 4, none⟩) (Nat.le_refl _) _).setCell (p := ⟨w1.heap.size, 5, none⟩) (Nat.le_refl _) _).setCell (p := ⟨w1.heap.size, 6, none⟩) (Nat.le_refl _) _
        generalize (((w7.setCell ⟨w1.heap.size, 4, none⟩ (.int .i64 (1 + x))).setCell ⟨w1.heap.size, 5, none⟩ (.int .i64 y)).setCell ⟨w1.heap.size, 6, none⟩ (.int .i64 (1 - 2 * z))) = W8 at hb67 hbw ⊢
        have HD8 := Lib.hid (HD7.out.goB hbw hg1)
        have HG8 := Lib.hid (grown_below HG7.out hbw HG1.out.size)
        have hblk := set7_blkT W8 w.heap.size _ _ _ _ _ _ _ hb67 (.int .i64 1) (.int .i64 t) (.int .i64 u) (.int .i64 v) (.int .i64 (1 + x)) (.int .i64 y) (.int .i64 (1 - 2 * z))
        have hbel : Below w.heap.size W8 _ := below_set7 (Below.refl _ _) (Nat.le_refl _) (.int .i64 1) (.int .i64 t) (.int .i64 u) (.int .i64 v) (.int .i64 (1 + x)) (.int .i64 y) (.int .i64 (1 - 2 * z))
        generalize (((((((W8.setCell ⟨w.heap.size, 0, none⟩ (.int .i64 1)).setCell ⟨w.heap.size, 1, none⟩ (.int .i64 t)).setCell ⟨w.heap.size, 2, none⟩ (.int .i64 u)).setCell ⟨w.heap.size, 3, none⟩ (.int .i64 v)).setCell ⟨w.heap.size, 4, none⟩ (.int .i64 (1 + x))).setCell ⟨w.heap.size, 5, none⟩ (.int .i64 y)).setCell ⟨w.heap.size, 6, none⟩ (.int .i64 (1 - 2 * z))) = W9 at hblk hbel ⊢
        exact ret_struct1 (p := 6) Tryz.results42 rfl w.heap.size rfl hblk ⟨⟨1, t, u, v, 1 + x, y, 1 - 2 * z⟩, _, rfl, ⟨chk_set t u v _ y _ HT.out (by have := HVB.out; omega) (by have := HVB.out; omega) (by have := HVB.out; omega) (by have := HXB.out; omega) (by have := HXB.out; omega) (by have := HXB.out; omega), (by have := HU.out; show u < (N : Int); omega), (by have := HVB.out; show v < (N : Int); omega), rfl⟩, HD8.out.goB hbel hgw, grown_below HG8.out hbel (Nat.le_refl _)⟩
/-- what Events answers: a short list of valid events among N nodes, whose times do not descend, in memory of its own -/
def EventsP (base g : Nat) (A : Option Addr) (c : Nat) (L : List Int) (N M : Nat) (w : World) (en : Ending) (w' : World) : Prop :=
  ∃ (l : List Ev) (A1 : Option Addr) (c1 m : Nat), en = .returned (.slice A1 l.length c1) ∧ l.length ≤ M ∧ (∀ e ∈ l, Ls.Good N e ∧ e.time ≤ 3 + 3 * (M : Int)) ∧ l.Pairwise (fun a b => a.time ≤ b.time) ∧
    w'.ownsRow w.heap.size 57 7 (.slice A1 l.length c1) l.length (cl Ev.cells l) ∧ Dk base w' g A c L m ∧ w.grownBy w' (some g)
theorem RV_newE (w : World) (e : Ev) : RV (w.alloc (.cells #[.int .i64 e.kind, .int .i64 e.time, .int .i64 e.u, .int .i64 e.v, .int .i64 e.weight, .int .i64 e.label, .int .i64 e.sign] 57)).heap.size (w.alloc (.cells #[.int .i64 e.kind, .int .i64 e.time, .int .i64 e.u, .int .i64 e.v, .int .i64 e.weight, .int .i64 e.label, .int .i64 e.sign] 57)) (some ⟨w.heap.size, 0, none⟩) 1 [e] := RX_new encE w [e] 57
set_option maxHeartbeats 4000000 in
set_option maxRecDepth 100000 in
theorem evlist_any (base g : Nat) (A : Option Addr) (c : Nat) (L : List Int) (m : Nat) (N M : Nat) (w : World) (D : Dk base w g A c L m) (hL : L.length ≤ 17592186044416) (hN : 2 ≤ N ∧ N ≤ 64) (hM : M ≤ 40) :
    Calls Tryz.prog 23 #[.pointer (some ⟨g, 0, none⟩), .int .i64 N, .int .i64 M] w (EventsP base g A c L N M w) := by
  have HD0 := Lib.hid D
  have hgw : Hid (g < w.heap.size) := D.lt
  have HNN := Lib.hid hN
  have HMM := Lib.hid hM
  clear D
  have hn1 : decide ((N : Int) > 1) = true := by rw [decide_eq_true_eq]; omega
  clear hN
  have HO0 : Hid (w.ownsRow w.heap.size 57 7 (.slice none 0 0) 0 (cl Ev.cells [])) := World.ownsRow_nil _ _ _ _
  have HG0 : Hid (w.grownBy w (some g)) := grown_refl _ _
  have fM : IntKind.i64.wrap ((M : Int) + 1) = (M : Int) + 1 := IntWalk.i64_in _ (by omega)
  go_enter Tryz.func23, Tryz.ntmps23
  go_wp2_with fail
  refine (next_any base g A c L _ 4 _ HD0.out hL (by omega)).mono ?_
  rintro e w0 ⟨tm0, m0, rfl, ht1, ht2, D0, g0⟩
  have HD00 := Lib.hid D0
  have HO00 := Lib.hid (own_kept HO0.out g0 hgw.out)
  have HG00 := Lib.hid (grown_trans HG0.out g0)
  have HTM0 : Hid (0 ≤ tm0 ∧ tm0 ≤ 3) := by show _ ∧ _; omega
  clear D0 g0 ht1 ht2
  go_wp2_with fail
  refine (next_any base g A c L _ ((M : Int) + 1) _ HD00.out hL (by omega)).mono ?_
  rintro e w1 ⟨z, m1, rfl, hz1, hz2, D1, g1⟩
  have HD1 := Lib.hid D1
  have HO1 := Lib.hid (own_kept HO00.out g1 hgw.out)
  have HG1 := Lib.hid (grown_trans HG00.out g1)
  clear D1 g1
  obtain ⟨z, rfl⟩ : ∃ j : Nat, z = j := ⟨z.toNat, by omega⟩
  have hz3 : z ≤ M := by omega
  clear hz1 hz2
  go_wp2
  go_loopw [7, 8, 9] (fun o t i wr => ∃ (j : Nat) (tm : Int) (A2 : Option Addr) (c2 : Nat) (ks : List Ev) (m' : Nat), i = .int .i64 j ∧ t = .int .i64 tm ∧ o = .slice A2 ks.length c2 ∧ ks.length + j ≤ M ∧ Hid (0 ≤ tm ∧ tm ≤ 3 + 3 * (ks.length : Int)) ∧ Hid ((∀ e ∈ ks, Ls.Good N e ∧ e.time ≤ tm) ∧ ks.Pairwise (fun a b => a.time ≤ b.time)) ∧
      Hid (wr.ownsRow w.heap.size 57 7 (.slice A2 ks.length c2) ks.length (cl Ev.cells ks)) ∧ Hid (Dk base wr g A c L m') ∧ Hid (w.grownBy wr (some g))) (fun _ _ i _ => (RowKit.intOf i).toNat)
  case atStart => exact ⟨z, tm0, none, 0, [], m1, rfl, rfl, rfl, by simp; omega, by show _ ∧ _; have := HTM0.out; simp; omega, ⟨by simp, List.Pairwise.nil⟩, HO1.out, HD1.out, HG1.out⟩
  case round =>
    clear HO0 HO1 HD0 HD1 HG0 HG1 HD00 HO00 HG00 HTM0
    obtain ⟨j, tm, A2, c2, ks, m', rfl, rfl, rfl, hj, HTM, HK, HO0, HD0, HG0⟩ := hrel
    cases j with
    | zero =>
      go_wp2
      go_ret
      exact ⟨ks, A2, c2, m', rfl, by omega, fun e he => ⟨(HK.out.1 e he).1, by have := (HK.out.1 e he).2; have := HTM.out; omega⟩, HK.out.2, HO0.out, HD0.out, HG0.out⟩
    | succ j =>
      have hj1 : 0 < ((j + 1 : Nat) : Int) := by omega
      go_wp2_with fail
      refine (event_any base g A c L _ N _ _ HD0.out hL HNN.out (by have := HTM.out; have := HMM.out; omega)).mono ?_
      rintro en w2 ⟨e, m2, rfl, ⟨hce, hu, hv, hte⟩, D2, g2⟩
      have HD2 := Lib.hid D2
      have HO2 := Lib.hid (own_kept HO0.out g2 hgw.out)
      have HG2 := Lib.hid (grown_trans HG0.out g2)
      have HCE : Hid (Ls.Good N e ∧ e.time = tm) := ⟨⟨hce, hu, hv⟩, hte⟩
      clear D2 g2 hce hu hv hte
      go_wp2_with (at_builtin; (refine wpList_applV _ rfl (.tmp 24) (.tmp 29) w.heap.size A2 c2 rfl ks (by simp [Act.eval]) (HO2.out.alloc _) (some ⟨w2.heap.size, 0, none⟩) 1 1 [e] rfl (by simp [Act.eval]) (RV_newE _ _) (by omega) (by have := HG2.out.size; simp; omega) ?_; intro A6 c6 w6 HO6 HB6 _))
      have HB7 : Hid (Below w.heap.size w2 w6) := ((Below.refl _ _).alloc HG2.out.size _).trans HB6.out
      have HD6 := Lib.hid (HD2.out.goB HB7.out hgw.out)
      have HG6 := Lib.hid (grown_below HG2.out HB7.out (Nat.le_refl _))
      clear HB6 HD2 HG2 HO2 HO0 HD0 HG0
      refine (next_any base g A c L _ 4 _ HD6.out hL (by decide)).mono ?_
      rintro en w7 ⟨q, m7, rfl, hq1, hq2, D7, g7⟩
      have HD7 := Lib.hid D7
      have HO7 := Lib.hid (own_kept HO6.out g7 hgw.out)
      have HG7 := Lib.hid (grown_trans HG6.out g7)
      clear D7 g7 HO6 HD6 HG6
      have hq3 : 0 ≤ q ∧ q ≤ 3 := by omega
      have HK7 : Hid ((∀ x ∈ ks ++ [e], Ls.Good N x ∧ x.time ≤ tm + q) ∧ (ks ++ [e]).Pairwise (fun a b => a.time ≤ b.time)) := by
        refine ⟨fun x hx => ?_, List.pairwise_append.2 ⟨HK.out.2, List.pairwise_cons.2 ⟨fun _ h => (by cases h), List.Pairwise.nil⟩, fun a ha b hb => ?_⟩⟩
        · rcases List.mem_append.1 hx with h | h
          · have := HK.out.1 x h; exact ⟨this.1, by omega⟩
          · rw [List.mem_singleton.1 h]; exact ⟨HCE.out.1, by have := HCE.out.2; omega⟩
        · rw [List.mem_singleton.1 hb, HCE.out.2]
          exact (HK.out.1 a ha).2
      have fT : IntKind.i64.wrap (tm + q) = tm + q := IntWalk.i64_in _ (by have := HTM.out; have := HMM.out; omega)
      go_wp2
      go_roundw
      case rel => exact ⟨j, tm + q, A6, c6, ks ++ [e], m7, by go_num, by go_num, by simp, by simp; omega, by show _ ∧ _; have := HTM.out; simp; omega, HK7.out, HO7.out, HD7.out, HG7.out⟩
      case measure => simp [RowKit.intOf]; try omega
set_option maxHeartbeats 2000000 in
theorem same_any (A B : Option Addr) (c d : Nat) (l : List Ev) (w : World) (h : RV w.heap.size w A c l) (g : RV w.heap.size w B d l) (hl : l.length ≤ 1000000) :
    Calls Tryz.prog 18 #[.slice A l.length c, .slice B l.length d] w fun e w' => e = .returned (.bool true) ∧ Below w.heap.size w w' := by
  have H := Lib.hid h
  have G := Lib.hid g
  clear h g
  go_enter Tryz.func18, Tryz.ntmps18
  go_wp2
  go_loopw [13] (fun i wr => ∃ (k : Nat), k ≤ l.length ∧ i = .int .i64 k ∧ Hid (Below w.heap.size w wr)) (fun i _ => l.length - (RowKit.intOf i).toNat)
  case atStart => exact ⟨0, Nat.zero_le _, rfl, Below.refl _ _⟩
  case round =>
    obtain ⟨k, hk, rfl, HB⟩ := hrel
    by_cases hlt : k < l.length
    · obtain ⟨b, off, a, rfl, hb, ha, c0, c1, c2, c3, c4, c5, c6⟩ := RV.at_ (H.out.go HB.out) hlt
      obtain ⟨b', off', a', rfl, hb', ha', e0, e1, e2, e3, e4, e5, e6⟩ := RV.at_ (G.out.go HB.out) hlt
      obtain rfl : a = a' := by rw [ha] at ha'; injection ha'
      go_wp2_with fail
      go_quiet (fail)
      clear c0 c1 c2 c3 c4 c5 c6 e0 e1 e2 e3 e4 e5 e6
      go_wp2
      go_roundw
      case rel => exact ⟨k + 1, hlt, by go_num, HB.out.trans ((below_drewN wr nq).mono HB.out.size)⟩
      case measure => simp [RowKit.intOf]; try omega
    · obtain rfl : k = l.length := by omega
      go_wp2
      go_ret
      exact ⟨rfl, HB.out⟩
end Go.Proofs.YtfapfkaipdcflaaGreat
