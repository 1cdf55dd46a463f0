/-
  fromWords.
-/
import Derived.Test.YtnohmgmpabckkaaDoorVn
import Derived.Test.YtnohmgmpabckkaaDoorIy
namespace Go.Proofs.YtnohmgmpabckkaaDoor
open Go.RowKit Go.Lib

/-- the word that goes along: the struct's new block, before and behind the store into it -/
def JW (B : Nat) (ec : Array Value) (f : Nat → Bool) (a : Act) (w : World) : Prop :=
  a.tmps.size = 26 ∧ (f 9 = true → ∃ g, a.eval (.tmp 4) = .pointer (some ⟨g, 0, none⟩) ∧ B ≤ g ∧ w.heap[g]? = some (.cells (if f 10 = true then ec else #[.int .i64 0, .int .i64 0, .int .i64 0, .int .i64 0, .int .i64 0, .int .i64 0, .int .i64 0]) 23 (0, 0)))
theorem JW.keep {B : Nat} {ec : Array Value} {f : Nat → Bool} {a : Act} {w w' : World} (h : JW B ec f a w) (i d : Nat) (v : Value) (h9 : i ≠ 9) (h10 : i ≠ 10) (hd : d ≠ 4) (hb : Below w.heap.size w w') :
    JW B ec (fun k => if k = i then true else f k) (a.put (some d) v) w' := by
  refine ⟨(size_put _ _ _).trans h.1, fun hf => ?_⟩
  have hf' : f 9 = true := by simpa [Ne.symm h9] using hf
  have e10 : (if (10 : Nat) = i then true else f 10) = f 10 := if_neg (Ne.symm h10)
  simp only [e10]
  obtain ⟨g, h1, h2, h3⟩ := h.2 hf'
  exact ⟨g, (eval_put_other hd).trans h1, h2, (hb.block g (Array.getElem?_eq_some_iff.1 h3).1).trans h3⟩
theorem JW.new {B : Nat} {ec : Array Value} {f : Nat → Bool} {a : Act} {w : World} (h : JW B ec f a w) (h10 : f 10 = false) (hB : B ≤ w.heap.size) :
    JW B ec (fun k => if k = 9 then true else f k) (a.put (some 4) (.pointer (some ⟨w.heap.size, 0, none⟩))) (w.alloc (.cells #[.int .i64 0, .int .i64 0, .int .i64 0, .int .i64 0, .int .i64 0, .int .i64 0, .int .i64 0] 23)) := by
  refine ⟨(size_put _ _ _).trans h.1, fun _ => ⟨w.heap.size, eval_put_same (by rw [h.1]; decide), hB, ?_⟩⟩
  have e10 : (if (10 : Nat) = 9 then true else f 10) = false := h10
  simp only [e10]
  rw [if_neg (by decide)]
  exact heap_alloc_new _ _
set_option maxHeartbeats 2000000 in
set_option maxRecDepth 100000 in
theorem fromWords1_any (A : Option Addr) (c : Nat) (t u v x y z : Int) (ht : 0 ≤ t ∧ t ≤ 1048576) (hu : 0 ≤ u ∧ u < 64) (hv : 0 ≤ v ∧ v < 64) (hx : 0 ≤ x ∧ x ≤ 1000) (hy : 0 ≤ y ∧ y ≤ 15) (hz : z = 1 ∨ z = -1) (HC : Hid (chkE ⟨1, t, u, v, x, y, z⟩ = 0)) (w : World) (K : KW w)
    (h : RSt w.heap.size w A c [⟨#[115, 101, 116]⟩, mk (Lib.itoa t), mk (Lib.itoa u), mk (Lib.itoa v), mk (Lib.itoa x), mk (Lib.itoa y), mk (if z = -1 then [45] else [43])]) :
    Calls Tryd.prog 41 #[.slice A 7 c] w fun e w' => e = .returned (.tuple #[.agg #[.int .i64 1, .int .i64 t, .int .i64 u, .int .i64 v, .int .i64 x, .int .i64 y, .int .i64 z], .int .i64 0]) ∧ Below w.heap.size w w' := by
  obtain ⟨L, HL⟩ : ∃ L, Hid ([mk (Lib.itoa t), mk (Lib.itoa u), mk (Lib.itoa v), mk (Lib.itoa x), mk (Lib.itoa y), mk (if z = -1 then [45] else [43])] = L) := ⟨_, rfl⟩
  have CR := Lib.hid (fun A (W : World) (K : KW W) (h : RSt W.heap.size W A (c - 1) L) => readEvent1_any A (c - 1) t u v x y z ht hu hv hx hy hz W K (HL.out ▸ h))
  have hc0 := h.1
  simp only [List.length_cons, List.length_nil] at hc0
  have hc1 : ¬ c = 1 := by omega
  have HK := Lib.hid (K.up (below_new w (.cells #[.int .i64 0, .int .i64 0, .int .i64 0, .int .i64 0, .int .i64 0, .int .i64 0, .int .i64 0] 23)))
  obtain ⟨b, off, a9, rfl, hb, ha, h0⟩ := RSt.at_ h (k := 0) (by simp)
  simp only [List.getElem?_cons_zero, Option.some.injEq, Nat.add_zero] at ha h0
  subst ha
  have hcell : Hid ((w.alloc (.cells #[.int .i64 0, .int .i64 0, .int .i64 0, .int .i64 0, .int .i64 0, .int .i64 0, .int .i64 0] 23)).cell? ⟨b, off, none⟩ = some (.string ⟨#[115, 101, 116]⟩)) := (World.cell?_alloc_lt w _ ⟨b, off, none⟩ hb).trans h0
  have hbs : b < (w.alloc (.cells #[.int .i64 0, .int .i64 0, .int .i64 0, .int .i64 0, .int .i64 0, .int .i64 0, .int .i64 0] 23)).heap.size := by simp; omega
  have HT : Hid (RSt (w.alloc (.cells #[.int .i64 0, .int .i64 0, .int .i64 0, .int .i64 0, .int .i64 0, .int .i64 0, .int .i64 0] 23)).heap.size (w.alloc (.cells #[.int .i64 0, .int .i64 0, .int .i64 0, .int .i64 0, .int .i64 0, .int .i64 0, .int .i64 0] 23)) (some ⟨b, off + 1, none⟩) (c - 1) L) := by
    have h1 := RX.cut encS (RX.up h (below_new w (.cells #[.int .i64 0, .int .i64 0, .int .i64 0, .int .i64 0, .int .i64 0, .int .i64 0, .int .i64 0] 23))) (k := 1) (by simp)
    rw [if_neg hc1] at h1
    have h2 := HL.out
    subst h2
    show RSt _ _ _ _ _
    simpa [Addr.add] using h1
  clear h K ht hu hv hx hy hz h0 hc0
  go_enter Tryd.func41, Tryd.ntmps41
  go_wp2_with fail
  refine wp_region_ac 11 26 (fun u v => Below (w.alloc (.cells #[.int .i64 0, .int .i64 0, .int .i64 0, .int .i64 0, .int .i64 0, .int .i64 0, .int .i64 0] 23)).heap.size u v) (JW (w.alloc (.cells #[.int .i64 0, .int .i64 0, .int .i64 0, .int .i64 0, .int .i64 0, .int .i64 0, .int .i64 0] 23)).heap.size #[.int .i64 1, .int .i64 t, .int .i64 u, .int .i64 v, .int .i64 x, .int .i64 y, .int .i64 z]) [(fun q0 _ => q0 = .slice (some ⟨b, off, none⟩) 7 c), (fun q0 _ => q0 = .pointer (some ⟨b, off, none⟩)), (fun q0 _ => q0 = .string (⟨#[115, 101, 116]⟩ : ByteArray)), (fun q0 _ => q0 = .slice (some ⟨b, off, none⟩) 7 c), (fun q0 _ => q0 = .slice (some ⟨b, off + 1, none⟩) 6 (c - 1)), (fun q0 _ => q0 = .tuple #[.agg #[.int .i64 1, .int .i64 t, .int .i64 u, .int .i64 v, .int .i64 x, .int .i64 y, .int .i64 z], .bool true]), (fun q0 _ => q0 = .tuple #[.agg #[.int .i64 1, .int .i64 t, .int .i64 u, .int .i64 v, .int .i64 x, .int .i64 y, .int .i64 z], .bool true]), (fun q0 _ => q0 = .agg #[.int .i64 1, .int .i64 t, .int .i64 u, .int .i64 v, .int .i64 x, .int .i64 y, .int .i64 z]), (fun q0 _ => q0 = .bool true), (fun _ _ => True), (fun _ _ => True)] (by kernel_rfl) (by kernel_rfl) rfl (fun _ _ _ h1 h2 => h1.trans h2) (below_drewN _ 1) ⟨rfl, fun h => by cases h⟩ ?_ ?_ ?_
  · intro R hR
    simp only [List.mem_cons, List.not_mem_nil, or_false] at hR
    rcases hR with rfl | rfl | rfl | rfl | rfl | rfl | rfl | rfl | rfl | rfl | rfl <;> exact fun _ _ _ h _ => h
  · simp only [List.take_succ_cons, List.take_zero]
    refine ⟨?_, ?_, ?_, ?_, ?_, ?_, ?_, ?_, ?_, ?_, ?_, trivial⟩
    · intro a ws f hle hjj hfi hun hdn hag hdep K Q hK
      have d0 : (a.tmps[0]?).getD undef = .slice (some ⟨b, off, none⟩) 7 c := eval_get (hag 0 (freeB_spec (by kernel_rfl)))
      rw [if_pos (show Region.wanted _ _ = true from rfl)]
      unfold Oper.wp
      simp [go_sem, d0]
      exact hK _ _ (Below.refl _ _) (hjj.keep 0 8 _ (by decide) (by decide) (by decide) (Below.refl _ _)) rfl
    · intro a ws f hle hjj hfi hun hdn hag hdep K Q hK
      have d8 : (a.tmps[8]?).getD undef = .slice (some ⟨b, off, none⟩) 7 c := eval_get (dep_of hdep 0 8 rfl (by kernel_rfl) rfl rfl)
      rw [if_pos (show Region.wanted _ _ = true from rfl)]
      unfold Oper.wp
      simp [go_sem, d8]
      exact hK _ _ (Below.refl _ _) (hjj.keep 1 9 _ (by decide) (by decide) (by decide) (Below.refl _ _)) rfl
    · intro a ws f hle hjj hfi hun hdn hag hdep K Q hK
      have d9 : (a.tmps[9]?).getD undef = .pointer (some ⟨b, off, none⟩) := eval_get (dep_of hdep 1 9 rfl (by kernel_rfl) rfl rfl)
      rw [if_pos (show Region.wanted _ _ = true from rfl)]
      have yc := (hle.cell (p := ⟨b, off, none⟩) hbs).trans hcell.out
      unfold Oper.wp
      simp [go_sem, d9, yc]
      exact hK _ _ (Below.refl _ _) (hjj.keep 2 10 _ (by decide) (by decide) (by decide) (Below.refl _ _)) rfl
    · intro a ws f hle hjj hfi hun hdn hag hdep K Q hK
      have d0 : (a.tmps[0]?).getD undef = .slice (some ⟨b, off, none⟩) 7 c := eval_get (hag 0 (freeB_spec (by kernel_rfl)))
      rw [if_pos (show Region.wanted _ _ = true from rfl)]
      unfold Oper.wp
      simp [go_sem, d0]
      exact hK _ _ (Below.refl _ _) (hjj.keep 3 11 _ (by decide) (by decide) (by decide) (Below.refl _ _)) rfl
    · intro a ws f hle hjj hfi hun hdn hag hdep K Q hK
      have d11 : (a.tmps[11]?).getD undef = .slice (some ⟨b, off, none⟩) 7 c := eval_get (dep_of hdep 3 11 rfl (by kernel_rfl) rfl rfl)
      rw [if_pos (show Region.wanted _ _ = true from rfl)]
      unfold Oper.wp
      simp [go_sem, d11, hc1]
      exact hK _ _ (Below.refl _ _) (hjj.keep 4 12 _ (by decide) (by decide) (by decide) (Below.refl _ _)) rfl
    · intro a ws f hle hjj hfi hun hdn hag hdep K Q hK
      have d10 : (a.tmps[10]?).getD undef = .string (⟨#[115, 101, 116]⟩ : ByteArray) := eval_get (dep_of hdep 2 10 rfl (by kernel_rfl) rfl rfl)
      have d12 : (a.tmps[12]?).getD undef = .slice (some ⟨b, off + 1, none⟩) 6 (c - 1) := eval_get (dep_of hdep 4 12 rfl (by kernel_rfl) rfl rfl)
      rw [if_pos (show Region.wanted _ _ = true from rfl)]
      have HKs := HK.out.up hle
      unfold Oper.wp
      simp [go_sem, d10, d12]
      refine (CR.out _ _ HKs ((HT.out.go hle).more hle.size)).mono ?_
      rintro e w3 ⟨rfl, hb3⟩
      exact hK _ _ (hb3.mono hle.size) (hjj.keep 5 13 _ (by decide) (by decide) (by decide) hb3) rfl
    · intro a ws f hle hjj hfi hun hdn hag hdep K Q hK
      have d13 : (a.tmps[13]?).getD undef = .tuple #[.agg #[.int .i64 1, .int .i64 t, .int .i64 u, .int .i64 v, .int .i64 x, .int .i64 y, .int .i64 z], .bool true] := eval_get (dep_of hdep 5 13 rfl (by kernel_rfl) rfl rfl)
      rw [if_pos (show Region.wanted _ _ = true from rfl)]
      unfold Oper.wp
      simp [go_sem, d13]
      exact hK _ _ (Below.refl _ _) (hjj.keep 6 7 _ (by decide) (by decide) (by decide) (Below.refl _ _)) rfl
    · intro a ws f hle hjj hfi hun hdn hag hdep K Q hK
      have d7 : (a.tmps[7]?).getD undef = .tuple #[.agg #[.int .i64 1, .int .i64 t, .int .i64 u, .int .i64 v, .int .i64 x, .int .i64 y, .int .i64 z], .bool true] := eval_get (dep_of hdep 6 7 rfl (by kernel_rfl) rfl rfl)
      rw [if_pos (show Region.wanted _ _ = true from rfl)]
      unfold Oper.wp
      simp [go_sem, d7]
      exact hK _ _ (Below.refl _ _) (hjj.keep 7 14 _ (by decide) (by decide) (by decide) (Below.refl _ _)) rfl
    · intro a ws f hle hjj hfi hun hdn hag hdep K Q hK
      have d7 : (a.tmps[7]?).getD undef = .tuple #[.agg #[.int .i64 1, .int .i64 t, .int .i64 u, .int .i64 v, .int .i64 x, .int .i64 y, .int .i64 z], .bool true] := eval_get (dep_of hdep 6 7 rfl (by kernel_rfl) rfl rfl)
      rw [if_pos (show Region.wanted _ _ = true from rfl)]
      unfold Oper.wp
      simp [go_sem, d7]
      exact hK _ _ (Below.refl _ _) (hjj.keep 8 15 _ (by decide) (by decide) (by decide) (Below.refl _ _)) rfl
    · intro a ws f hle hjj hfi hun hdn hag hdep K Q hK
      rw [if_pos (show Region.wanted _ _ = true from rfl)]
      have h10 : f 10 = false := hun 10 _ rfl (by kernel_rfl)
      unfold Oper.wp
      simp [go_sem]
      exact hK _ _ ((below_new _ _).mono hle.size) (hjj.new h10 hle.size) trivial
    · intro a ws f hle hjj hfi hun hdn hag hdep K Q hK
      have d14 : (a.tmps[14]?).getD undef = .agg #[.int .i64 1, .int .i64 t, .int .i64 u, .int .i64 v, .int .i64 x, .int .i64 y, .int .i64 z] := eval_get (dep_of hdep 7 14 rfl (by kernel_rfl) rfl rfl)
      rw [if_pos (show Region.wanted _ _ = true from rfl)]
      have h9 : f 9 = true := hdn 9 _ rfl (by kernel_rfl)
      obtain ⟨hs9, hj9⟩ := hjj
      obtain ⟨g, e4, hg1, hg2⟩ := hj9 h9
      have e4 := eval_get e4
      rw [hfi, if_neg (by decide)] at hg2
      have hcl := Go.Joins.cell_of_block hg2
      have hfz := Go.Joins.unfrozen_of_block hg2
      have y0 := hcl 0; have y1 := hcl 1; have y2 := hcl 2; have y3 := hcl 3; have y4 := hcl 4; have y5 := hcl 5; have y6 := hcl 6
      have q0 := hfz 0; have q1 := hfz 1; have q2 := hfz 2; have q3 := hfz 3; have q4 := hfz 4; have q5 := hfz 5; have q6 := hfz 6
      simp only [List.getElem?_toArray, List.getElem?_cons_succ, List.getElem?_cons_zero] at y0 y1 y2 y3 y4 y5 y6
      unfold Oper.wp
      simp [go_sem, d14, e4, y0, y1, y2, y3, y4, y5, y6, q0, q1, q2, q3, q4, q5, q6]
      refine hK undef _ (below_set7 (Below.refl _ _) hg1 _ _ _ _ _ _ _) ⟨hs9, fun _ => ⟨g, ?_, hg1, ?_⟩⟩ trivial
      · show a.eval (.tmp 4) = _
        simpa [Act.eval] using e4
      · simp only [if_true]
        exact set7_blk ws g _ _ _ _ _ _ _ hg2 (.int .i64 1) (.int .i64 t) (.int .i64 u) (.int .i64 v) (.int .i64 x) (.int .i64 y) (.int .i64 z)
  · intro a ws f hle hjj hft hff hsz hdf hag hend
    have f8 : a.eval (.tmp 8) = .slice (some ⟨b, off, none⟩) 7 c := end_of hend 0 8 (by decide) rfl rfl rfl
    have f9 : a.eval (.tmp 9) = .pointer (some ⟨b, off, none⟩) := end_of hend 1 9 (by decide) rfl rfl rfl
    have f10 : a.eval (.tmp 10) = .string (⟨#[115, 101, 116]⟩ : ByteArray) := end_of hend 2 10 (by decide) rfl rfl rfl
    have f11 : a.eval (.tmp 11) = .slice (some ⟨b, off, none⟩) 7 c := end_of hend 3 11 (by decide) rfl rfl rfl
    have f12 : a.eval (.tmp 12) = .slice (some ⟨b, off + 1, none⟩) 6 (c - 1) := end_of hend 4 12 (by decide) rfl rfl rfl
    have f13 : a.eval (.tmp 13) = .tuple #[.agg #[.int .i64 1, .int .i64 t, .int .i64 u, .int .i64 v, .int .i64 x, .int .i64 y, .int .i64 z], .bool true] := end_of hend 5 13 (by decide) rfl rfl rfl
    have f7 : a.eval (.tmp 7) = .tuple #[.agg #[.int .i64 1, .int .i64 t, .int .i64 u, .int .i64 v, .int .i64 x, .int .i64 y, .int .i64 z], .bool true] := end_of hend 6 7 (by decide) rfl rfl rfl
    have f14 : a.eval (.tmp 14) = .agg #[.int .i64 1, .int .i64 t, .int .i64 u, .int .i64 v, .int .i64 x, .int .i64 y, .int .i64 z] := end_of hend 7 14 (by decide) rfl rfl rfl
    have f15 : a.eval (.tmp 15) = .bool true := end_of hend 8 15 (by decide) rfl rfl rfl
    have f0 : a.eval (.tmp 0) = .slice (some ⟨b, off, none⟩) 7 c := hag 0 (freeB_spec (by kernel_rfl))
    have f2 : a.eval (.tmp 2) = .pointer (some ⟨w.heap.size, 0, none⟩) := hag 2 (freeB_spec (by kernel_rfl))
    obtain ⟨g, f4, hg1, hg2⟩ := hjj.2 (hft 9 (by decide))
    rw [if_pos (hft 10 (by decide))] at hg2
    obtain ⟨T, D⟩ := a
    obtain rfl : D = [] := hdf
    obtain ⟨us, rfl⟩ : ∃ us : List Value, T = us.toArray := ⟨T.toList, by simp⟩
    replace hsz : us.length = 26 := by simpa using hsz
    obtain _ | ⟨x0, us⟩ := us
    · simp at hsz
    obtain _ | ⟨x1, us⟩ := us
    · simp at hsz
    obtain _ | ⟨x2, us⟩ := us
    · simp at hsz
    obtain _ | ⟨x3, us⟩ := us
    · simp at hsz
    obtain _ | ⟨x4, us⟩ := us
    · simp at hsz
    obtain _ | ⟨x5, us⟩ := us
    · simp at hsz
    obtain _ | ⟨x6, us⟩ := us
    · simp at hsz
    obtain _ | ⟨x7, us⟩ := us
    · simp at hsz
    obtain _ | ⟨x8, us⟩ := us
    · simp at hsz
    obtain _ | ⟨x9, us⟩ := us
    · simp at hsz
    obtain _ | ⟨x10, us⟩ := us
    · simp at hsz
    obtain _ | ⟨x11, us⟩ := us
    · simp at hsz
    obtain _ | ⟨x12, us⟩ := us
    · simp at hsz
    obtain _ | ⟨x13, us⟩ := us
    · simp at hsz
    obtain _ | ⟨x14, us⟩ := us
    · simp at hsz
    obtain _ | ⟨x15, us⟩ := us
    · simp at hsz
    obtain _ | ⟨x16, us⟩ := us
    · simp at hsz
    obtain _ | ⟨x17, us⟩ := us
    · simp at hsz
    obtain _ | ⟨x18, us⟩ := us
    · simp at hsz
    obtain _ | ⟨x19, us⟩ := us
    · simp at hsz
    obtain _ | ⟨x20, us⟩ := us
    · simp at hsz
    obtain _ | ⟨x21, us⟩ := us
    · simp at hsz
    obtain _ | ⟨x22, us⟩ := us
    · simp at hsz
    obtain _ | ⟨x23, us⟩ := us
    · simp at hsz
    obtain _ | ⟨x24, us⟩ := us
    · simp at hsz
    obtain _ | ⟨x25, us⟩ := us
    · simp at hsz
    obtain rfl : us = [] := by cases us with | nil => rfl | cons _ _ => simp at hsz
    clear hag hend hsz hjj hft hff
    obtain rfl : x0 = .slice (some ⟨b, off, none⟩) 7 c := f0
    obtain rfl : x2 = .pointer (some ⟨w.heap.size, 0, none⟩) := f2
    obtain rfl : x4 = .pointer (some ⟨g, 0, none⟩) := f4
    obtain rfl : x7 = .tuple #[.agg #[.int .i64 1, .int .i64 t, .int .i64 u, .int .i64 v, .int .i64 x, .int .i64 y, .int .i64 z], .bool true] := f7
    obtain rfl : x8 = .slice (some ⟨b, off, none⟩) 7 c := f8
    obtain rfl : x9 = .pointer (some ⟨b, off, none⟩) := f9
    obtain rfl : x10 = .string (⟨#[115, 101, 116]⟩ : ByteArray) := f10
    obtain rfl : x11 = .slice (some ⟨b, off, none⟩) 7 c := f11
    obtain rfl : x12 = .slice (some ⟨b, off + 1, none⟩) 6 (c - 1) := f12
    obtain rfl : x13 = .tuple #[.agg #[.int .i64 1, .int .i64 t, .int .i64 u, .int .i64 v, .int .i64 x, .int .i64 y, .int .i64 z], .bool true] := f13
    obtain rfl : x14 = .agg #[.int .i64 1, .int .i64 t, .int .i64 u, .int .i64 v, .int .i64 x, .int .i64 y, .int .i64 z] := f14
    obtain rfl : x15 = .bool true := f15

    have HBL := Lib.hid ((hle.block w.heap.size (by simp)).trans (heap_alloc_new _ _))
    have hb1 := hle.size
    have HB : Hid (Below w.heap.size w ws) := below_via hle
    have hcl := Go.Joins.cell_of_block hg2
    have y0 := hcl 0; have y1 := hcl 1; have y2 := hcl 2; have y3 := hcl 3; have y4 := hcl 4; have y5 := hcl 5; have y6 := hcl 6
    simp only [List.getElem?_toArray, List.getElem?_cons_succ, List.getElem?_cons_zero] at y0 y1 y2 y3 y4 y5 y6
    have HG2 := Lib.hid hg2
    have hgs : g < ws.heap.size := (Array.getElem?_eq_some_iff.1 hg2).1
    have hws : w.heap.size < ws.heap.size := by simp at hb1; omega
    clear hle hg2 hcl hg1 hb1
    simp only [List.drop_succ_cons, List.drop_zero]
    go_wp2_with fail
    refine (check_any _ _ _ _ _ _ _ _).mono ?_
    rintro e w5 ⟨rfl, hb5⟩
    have HB5 : Hid (Below w.heap.size w w5) := HB.out.trans (hb5.mono HB.out.size)
    have p1 := Go.Joins.cell_of_block ((hb5.block g hgs).trans HG2.out)
    have p2 := Go.Joins.cell_of_block ((hb5.block w.heap.size hws).trans HBL.out)
    have p3 := Go.Joins.unfrozen_of_block ((hb5.block w.heap.size hws).trans HBL.out)
    have HBL5 := Lib.hid ((hb5.block w.heap.size hws).trans HBL.out)
    clear y0 y1 y2 y3 y4 y5 y6
    have y0 := p1 0; have y1 := p1 1; have y2 := p1 2; have y3 := p1 3; have y4 := p1 4; have y5 := p1 5; have y6 := p1 6
    have z0 := p2 0; have z1 := p2 1; have z2 := p2 2; have z3 := p2 3; have z4 := p2 4; have z5 := p2 5; have z6 := p2 6
    have q0 := p3 0; have q1 := p3 1; have q2 := p3 2; have q3 := p3 3; have q4 := p3 4; have q5 := p3 5; have q6 := p3 6
    simp only [List.getElem?_toArray, List.getElem?_cons_succ, List.getElem?_cons_zero] at y0 y1 y2 y3 y4 y5 y6 z0 z1 z2 z3 z4 z5 z6
    clear hb5 p1 p2 p3 HG2 HBL HB
    rw [HC.out]
    go_wp2
    have hblk := set7_blk w5 w.heap.size _ _ _ _ _ _ _ HBL5.out (.int .i64 1) (.int .i64 t) (.int .i64 u) (.int .i64 v) (.int .i64 x) (.int .i64 y) (.int .i64 z)
    have hbel := below_set7 HB5.out (Nat.le_refl _) (.int .i64 1) (.int .i64 t) (.int .i64 u) (.int .i64 v) (.int .i64 x) (.int .i64 y) (.int .i64 z)
    generalize (((((((w5.setCell ⟨w.heap.size, 0, none⟩ (.int .i64 1)).setCell ⟨w.heap.size, 1, none⟩ (.int .i64 t)).setCell ⟨w.heap.size, 2, none⟩ (.int .i64 u)).setCell ⟨w.heap.size, 3, none⟩ (.int .i64 v)).setCell ⟨w.heap.size, 4, none⟩ (.int .i64 x)).setCell ⟨w.heap.size, 5, none⟩ (.int .i64 y)).setCell ⟨w.heap.size, 6, none⟩ (.int .i64 z)) = W5 at hblk hbel ⊢
    exact ret_struct (p := 2) (u := 3) Tryd.results41 rfl w.heap.size rfl (.int .i64 0) rfl hblk ⟨rfl, hbel⟩
set_option maxHeartbeats 2000000 in
set_option maxRecDepth 100000 in
theorem fromWords2_any (A : Option Addr) (c : Nat) (t u v : Int) (ht : 0 ≤ t ∧ t ≤ 1048576) (hu : 0 ≤ u ∧ u < 64) (hv : 0 ≤ v ∧ v < 64) (HC : Hid (chkE ⟨2, t, u, v, 0, 0, 0⟩ = 0)) (w : World) (K : KW w)
    (h : RSt w.heap.size w A c [⟨#[99, 117, 116]⟩, mk (Lib.itoa t), mk (Lib.itoa u), mk (Lib.itoa v)]) :
    Calls Tryd.prog 41 #[.slice A 4 c] w fun e w' => e = .returned (.tuple #[.agg #[.int .i64 2, .int .i64 t, .int .i64 u, .int .i64 v, .int .i64 0, .int .i64 0, .int .i64 0], .int .i64 0]) ∧ Below w.heap.size w w' := by
  obtain ⟨L, HL⟩ : ∃ L, Hid ([mk (Lib.itoa t), mk (Lib.itoa u), mk (Lib.itoa v)] = L) := ⟨_, rfl⟩
  have CR := Lib.hid (fun A (W : World) (K : KW W) (h : RSt W.heap.size W A (c - 1) L) => readEvent2_any A (c - 1) t u v ht hu hv W K (HL.out ▸ h))
  have hc0 := h.1
  simp only [List.length_cons, List.length_nil] at hc0
  have hc1 : ¬ c = 1 := by omega
  have HK := Lib.hid (K.up (below_new w (.cells #[.int .i64 0, .int .i64 0, .int .i64 0, .int .i64 0, .int .i64 0, .int .i64 0, .int .i64 0] 23)))
  obtain ⟨b, off, a9, rfl, hb, ha, h0⟩ := RSt.at_ h (k := 0) (by simp)
  simp only [List.getElem?_cons_zero, Option.some.injEq, Nat.add_zero] at ha h0
  subst ha
  have hcell : Hid ((w.alloc (.cells #[.int .i64 0, .int .i64 0, .int .i64 0, .int .i64 0, .int .i64 0, .int .i64 0, .int .i64 0] 23)).cell? ⟨b, off, none⟩ = some (.string ⟨#[99, 117, 116]⟩)) := (World.cell?_alloc_lt w _ ⟨b, off, none⟩ hb).trans h0
  have hbs : b < (w.alloc (.cells #[.int .i64 0, .int .i64 0, .int .i64 0, .int .i64 0, .int .i64 0, .int .i64 0, .int .i64 0] 23)).heap.size := by simp; omega
  have HT : Hid (RSt (w.alloc (.cells #[.int .i64 0, .int .i64 0, .int .i64 0, .int .i64 0, .int .i64 0, .int .i64 0, .int .i64 0] 23)).heap.size (w.alloc (.cells #[.int .i64 0, .int .i64 0, .int .i64 0, .int .i64 0, .int .i64 0, .int .i64 0, .int .i64 0] 23)) (some ⟨b, off + 1, none⟩) (c - 1) L) := by
    have h1 := RX.cut encS (RX.up h (below_new w (.cells #[.int .i64 0, .int .i64 0, .int .i64 0, .int .i64 0, .int .i64 0, .int .i64 0, .int .i64 0] 23))) (k := 1) (by simp)
    rw [if_neg hc1] at h1
    have h2 := HL.out
    subst h2
    show RSt _ _ _ _ _
    simpa [Addr.add] using h1
  clear h K ht hu hv h0 hc0
  go_enter Tryd.func41, Tryd.ntmps41
  go_wp2_with fail
  refine wp_region_ac 11 26 (fun u v => Below (w.alloc (.cells #[.int .i64 0, .int .i64 0, .int .i64 0, .int .i64 0, .int .i64 0, .int .i64 0, .int .i64 0] 23)).heap.size u v) (JW (w.alloc (.cells #[.int .i64 0, .int .i64 0, .int .i64 0, .int .i64 0, .int .i64 0, .int .i64 0, .int .i64 0] 23)).heap.size #[.int .i64 2, .int .i64 t, .int .i64 u, .int .i64 v, .int .i64 0, .int .i64 0, .int .i64 0]) [(fun q0 _ => q0 = .slice (some ⟨b, off, none⟩) 4 c), (fun q0 _ => q0 = .pointer (some ⟨b, off, none⟩)), (fun q0 _ => q0 = .string (⟨#[99, 117, 116]⟩ : ByteArray)), (fun q0 _ => q0 = .slice (some ⟨b, off, none⟩) 4 c), (fun q0 _ => q0 = .slice (some ⟨b, off + 1, none⟩) 3 (c - 1)), (fun q0 _ => q0 = .tuple #[.agg #[.int .i64 2, .int .i64 t, .int .i64 u, .int .i64 v, .int .i64 0, .int .i64 0, .int .i64 0], .bool true]), (fun q0 _ => q0 = .tuple #[.agg #[.int .i64 2, .int .i64 t, .int .i64 u, .int .i64 v, .int .i64 0, .int .i64 0, .int .i64 0], .bool true]), (fun q0 _ => q0 = .agg #[.int .i64 2, .int .i64 t, .int .i64 u, .int .i64 v, .int .i64 0, .int .i64 0, .int .i64 0]), (fun q0 _ => q0 = .bool true), (fun _ _ => True), (fun _ _ => True)] (by kernel_rfl) (by kernel_rfl) rfl (fun _ _ _ h1 h2 => h1.trans h2) (below_drewN _ 1) ⟨rfl, fun h => by cases h⟩ ?_ ?_ ?_
  · intro R hR
    simp only [List.mem_cons, List.not_mem_nil, or_false] at hR
    rcases hR with rfl | rfl | rfl | rfl | rfl | rfl | rfl | rfl | rfl | rfl | rfl <;> exact fun _ _ _ h _ => h
  · simp only [List.take_succ_cons, List.take_zero]
    refine ⟨?_, ?_, ?_, ?_, ?_, ?_, ?_, ?_, ?_, ?_, ?_, trivial⟩
    · intro a ws f hle hjj hfi hun hdn hag hdep K Q hK
      have d0 : (a.tmps[0]?).getD undef = .slice (some ⟨b, off, none⟩) 4 c := eval_get (hag 0 (freeB_spec (by kernel_rfl)))
      rw [if_pos (show Region.wanted _ _ = true from rfl)]
      unfold Oper.wp
      simp [go_sem, d0]
      exact hK _ _ (Below.refl _ _) (hjj.keep 0 8 _ (by decide) (by decide) (by decide) (Below.refl _ _)) rfl
    · intro a ws f hle hjj hfi hun hdn hag hdep K Q hK
      have d8 : (a.tmps[8]?).getD undef = .slice (some ⟨b, off, none⟩) 4 c := eval_get (dep_of hdep 0 8 rfl (by kernel_rfl) rfl rfl)
      rw [if_pos (show Region.wanted _ _ = true from rfl)]
      unfold Oper.wp
      simp [go_sem, d8]
      exact hK _ _ (Below.refl _ _) (hjj.keep 1 9 _ (by decide) (by decide) (by decide) (Below.refl _ _)) rfl
    · intro a ws f hle hjj hfi hun hdn hag hdep K Q hK
      have d9 : (a.tmps[9]?).getD undef = .pointer (some ⟨b, off, none⟩) := eval_get (dep_of hdep 1 9 rfl (by kernel_rfl) rfl rfl)
      rw [if_pos (show Region.wanted _ _ = true from rfl)]
      have yc := (hle.cell (p := ⟨b, off, none⟩) hbs).trans hcell.out
      unfold Oper.wp
      simp [go_sem, d9, yc]
      exact hK _ _ (Below.refl _ _) (hjj.keep 2 10 _ (by decide) (by decide) (by decide) (Below.refl _ _)) rfl
    · intro a ws f hle hjj hfi hun hdn hag hdep K Q hK
      have d0 : (a.tmps[0]?).getD undef = .slice (some ⟨b, off, none⟩) 4 c := eval_get (hag 0 (freeB_spec (by kernel_rfl)))
      rw [if_pos (show Region.wanted _ _ = true from rfl)]
      unfold Oper.wp
      simp [go_sem, d0]
      exact hK _ _ (Below.refl _ _) (hjj.keep 3 11 _ (by decide) (by decide) (by decide) (Below.refl _ _)) rfl
    · intro a ws f hle hjj hfi hun hdn hag hdep K Q hK
      have d11 : (a.tmps[11]?).getD undef = .slice (some ⟨b, off, none⟩) 4 c := eval_get (dep_of hdep 3 11 rfl (by kernel_rfl) rfl rfl)
      rw [if_pos (show Region.wanted _ _ = true from rfl)]
      unfold Oper.wp
      simp [go_sem, d11, hc1]
      exact hK _ _ (Below.refl _ _) (hjj.keep 4 12 _ (by decide) (by decide) (by decide) (Below.refl _ _)) rfl
    · intro a ws f hle hjj hfi hun hdn hag hdep K Q hK
      have d10 : (a.tmps[10]?).getD undef = .string (⟨#[99, 117, 116]⟩ : ByteArray) := eval_get (dep_of hdep 2 10 rfl (by kernel_rfl) rfl rfl)
      have d12 : (a.tmps[12]?).getD undef = .slice (some ⟨b, off + 1, none⟩) 3 (c - 1) := eval_get (dep_of hdep 4 12 rfl (by kernel_rfl) rfl rfl)
      rw [if_pos (show Region.wanted _ _ = true from rfl)]
      have HKs := HK.out.up hle
      unfold Oper.wp
      simp [go_sem, d10, d12]
      refine (CR.out _ _ HKs ((HT.out.go hle).more hle.size)).mono ?_
      rintro e w3 ⟨rfl, hb3⟩
      exact hK _ _ (hb3.mono hle.size) (hjj.keep 5 13 _ (by decide) (by decide) (by decide) hb3) rfl
    · intro a ws f hle hjj hfi hun hdn hag hdep K Q hK
      have d13 : (a.tmps[13]?).getD undef = .tuple #[.agg #[.int .i64 2, .int .i64 t, .int .i64 u, .int .i64 v, .int .i64 0, .int .i64 0, .int .i64 0], .bool true] := eval_get (dep_of hdep 5 13 rfl (by kernel_rfl) rfl rfl)
      rw [if_pos (show Region.wanted _ _ = true from rfl)]
      unfold Oper.wp
      simp [go_sem, d13]
      exact hK _ _ (Below.refl _ _) (hjj.keep 6 7 _ (by decide) (by decide) (by decide) (Below.refl _ _)) rfl
    · intro a ws f hle hjj hfi hun hdn hag hdep K Q hK
      have d7 : (a.tmps[7]?).getD undef = .tuple #[.agg #[.int .i64 2, .int .i64 t, .int .i64 u, .int .i64 v, .int .i64 0, .int .i64 0, .int .i64 0], .bool true] := eval_get (dep_of hdep 6 7 rfl (by kernel_rfl) rfl rfl)
      rw [if_pos (show Region.wanted _ _ = true from rfl)]
      unfold Oper.wp
      simp [go_sem, d7]
      exact hK _ _ (Below.refl _ _) (hjj.keep 7 14 _ (by decide) (by decide) (by decide) (Below.refl _ _)) rfl
    · intro a ws f hle hjj hfi hun hdn hag hdep K Q hK
      have d7 : (a.tmps[7]?).getD undef = .tuple #[.agg #[.int .i64 2, .int .i64 t, .int .i64 u, .int .i64 v, .int .i64 0, .int .i64 0, .int .i64 0], .bool true] := eval_get (dep_of hdep 6 7 rfl (by kernel_rfl) rfl rfl)
      rw [if_pos (show Region.wanted _ _ = true from rfl)]
      unfold Oper.wp
      simp [go_sem, d7]
      exact hK _ _ (Below.refl _ _) (hjj.keep 8 15 _ (by decide) (by decide) (by decide) (Below.refl _ _)) rfl
    · intro a ws f hle hjj hfi hun hdn hag hdep K Q hK
      rw [if_pos (show Region.wanted _ _ = true from rfl)]
      have h10 : f 10 = false := hun 10 _ rfl (by kernel_rfl)
      unfold Oper.wp
      simp [go_sem]
      exact hK _ _ ((below_new _ _).mono hle.size) (hjj.new h10 hle.size) trivial
    · intro a ws f hle hjj hfi hun hdn hag hdep K Q hK
      have d14 : (a.tmps[14]?).getD undef = .agg #[.int .i64 2, .int .i64 t, .int .i64 u, .int .i64 v, .int .i64 0, .int .i64 0, .int .i64 0] := eval_get (dep_of hdep 7 14 rfl (by kernel_rfl) rfl rfl)
      rw [if_pos (show Region.wanted _ _ = true from rfl)]
      have h9 : f 9 = true := hdn 9 _ rfl (by kernel_rfl)
      obtain ⟨hs9, hj9⟩ := hjj
      obtain ⟨g, e4, hg1, hg2⟩ := hj9 h9
      have e4 := eval_get e4
      rw [hfi, if_neg (by decide)] at hg2
      have hcl := Go.Joins.cell_of_block hg2
      have hfz := Go.Joins.unfrozen_of_block hg2
      have y0 := hcl 0; have y1 := hcl 1; have y2 := hcl 2; have y3 := hcl 3; have y4 := hcl 4; have y5 := hcl 5; have y6 := hcl 6
      have q0 := hfz 0; have q1 := hfz 1; have q2 := hfz 2; have q3 := hfz 3; have q4 := hfz 4; have q5 := hfz 5; have q6 := hfz 6
      simp only [List.getElem?_toArray, List.getElem?_cons_succ, List.getElem?_cons_zero] at y0 y1 y2 y3 y4 y5 y6
      unfold Oper.wp
      simp [go_sem, d14, e4, y0, y1, y2, y3, y4, y5, y6, q0, q1, q2, q3, q4, q5, q6]
      refine hK undef _ (below_set7 (Below.refl _ _) hg1 _ _ _ _ _ _ _) ⟨hs9, fun _ => ⟨g, ?_, hg1, ?_⟩⟩ trivial
      · show a.eval (.tmp 4) = _
        simpa [Act.eval] using e4
      · simp only [if_true]
        exact set7_blk ws g _ _ _ _ _ _ _ hg2 (.int .i64 2) (.int .i64 t) (.int .i64 u) (.int .i64 v) (.int .i64 0) (.int .i64 0) (.int .i64 0)
  · intro a ws f hle hjj hft hff hsz hdf hag hend
    have f8 : a.eval (.tmp 8) = .slice (some ⟨b, off, none⟩) 4 c := end_of hend 0 8 (by decide) rfl rfl rfl
    have f9 : a.eval (.tmp 9) = .pointer (some ⟨b, off, none⟩) := end_of hend 1 9 (by decide) rfl rfl rfl
    have f10 : a.eval (.tmp 10) = .string (⟨#[99, 117, 116]⟩ : ByteArray) := end_of hend 2 10 (by decide) rfl rfl rfl
    have f11 : a.eval (.tmp 11) = .slice (some ⟨b, off, none⟩) 4 c := end_of hend 3 11 (by decide) rfl rfl rfl
    have f12 : a.eval (.tmp 12) = .slice (some ⟨b, off + 1, none⟩) 3 (c - 1) := end_of hend 4 12 (by decide) rfl rfl rfl
    have f13 : a.eval (.tmp 13) = .tuple #[.agg #[.int .i64 2, .int .i64 t, .int .i64 u, .int .i64 v, .int .i64 0, .int .i64 0, .int .i64 0], .bool true] := end_of hend 5 13 (by decide) rfl rfl rfl
    have f7 : a.eval (.tmp 7) = .tuple #[.agg #[.int .i64 2, .int .i64 t, .int .i64 u, .int .i64 v, .int .i64 0, .int .i64 0, .int .i64 0], .bool true] := end_of hend 6 7 (by decide) rfl rfl rfl
    have f14 : a.eval (.tmp 14) = .agg #[.int .i64 2, .int .i64 t, .int .i64 u, .int .i64 v, .int .i64 0, .int .i64 0, .int .i64 0] := end_of hend 7 14 (by decide) rfl rfl rfl
    have f15 : a.eval (.tmp 15) = .bool true := end_of hend 8 15 (by decide) rfl rfl rfl
    have f0 : a.eval (.tmp 0) = .slice (some ⟨b, off, none⟩) 4 c := hag 0 (freeB_spec (by kernel_rfl))
    have f2 : a.eval (.tmp 2) = .pointer (some ⟨w.heap.size, 0, none⟩) := hag 2 (freeB_spec (by kernel_rfl))
    obtain ⟨g, f4, hg1, hg2⟩ := hjj.2 (hft 9 (by decide))
    rw [if_pos (hft 10 (by decide))] at hg2
    obtain ⟨T, D⟩ := a
    obtain rfl : D = [] := hdf
    obtain ⟨us, rfl⟩ : ∃ us : List Value, T = us.toArray := ⟨T.toList, by simp⟩
    replace hsz : us.length = 26 := by simpa using hsz
    obtain _ | ⟨x0, us⟩ := us
    · simp at hsz
    obtain _ | ⟨x1, us⟩ := us
    · simp at hsz
    obtain _ | ⟨x2, us⟩ := us
    · simp at hsz
    obtain _ | ⟨x3, us⟩ := us
    · simp at hsz
    obtain _ | ⟨x4, us⟩ := us
    · simp at hsz
    obtain _ | ⟨x5, us⟩ := us
    · simp at hsz
    obtain _ | ⟨x6, us⟩ := us
    · simp at hsz
    obtain _ | ⟨x7, us⟩ := us
    · simp at hsz
    obtain _ | ⟨x8, us⟩ := us
    · simp at hsz
    obtain _ | ⟨x9, us⟩ := us
    · simp at hsz
    obtain _ | ⟨x10, us⟩ := us
    · simp at hsz
    obtain _ | ⟨x11, us⟩ := us
    · simp at hsz
    obtain _ | ⟨x12, us⟩ := us
    · simp at hsz
    obtain _ | ⟨x13, us⟩ := us
    · simp at hsz
    obtain _ | ⟨x14, us⟩ := us
    · simp at hsz
    obtain _ | ⟨x15, us⟩ := us
    · simp at hsz
    obtain _ | ⟨x16, us⟩ := us
    · simp at hsz
    obtain _ | ⟨x17, us⟩ := us
    · simp at hsz
    obtain _ | ⟨x18, us⟩ := us
    · simp at hsz
    obtain _ | ⟨x19, us⟩ := us
    · simp at hsz
    obtain _ | ⟨x20, us⟩ := us
    · simp at hsz
    obtain _ | ⟨x21, us⟩ := us
    · simp at hsz
    obtain _ | ⟨x22, us⟩ := us
    · simp at hsz
    obtain _ | ⟨x23, us⟩ := us
    · simp at hsz
    obtain _ | ⟨x24, us⟩ := us
    · simp at hsz
    obtain _ | ⟨x25, us⟩ := us
    · simp at hsz
    obtain rfl : us = [] := by cases us with | nil => rfl | cons _ _ => simp at hsz
    clear hag hend hsz hjj hft hff
    obtain rfl : x0 = .slice (some ⟨b, off, none⟩) 4 c := f0
    obtain rfl : x2 = .pointer (some ⟨w.heap.size, 0, none⟩) := f2
    obtain rfl : x4 = .pointer (some ⟨g, 0, none⟩) := f4
    obtain rfl : x7 = .tuple #[.agg #[.int .i64 2, .int .i64 t, .int .i64 u, .int .i64 v, .int .i64 0, .int .i64 0, .int .i64 0], .bool true] := f7
    obtain rfl : x8 = .slice (some ⟨b, off, none⟩) 4 c := f8
    obtain rfl : x9 = .pointer (some ⟨b, off, none⟩) := f9
    obtain rfl : x10 = .string (⟨#[99, 117, 116]⟩ : ByteArray) := f10
    obtain rfl : x11 = .slice (some ⟨b, off, none⟩) 4 c := f11
    obtain rfl : x12 = .slice (some ⟨b, off + 1, none⟩) 3 (c - 1) := f12
    obtain rfl : x13 = .tuple #[.agg #[.int .i64 2, .int .i64 t, .int .i64 u, .int .i64 v, .int .i64 0, .int .i64 0, .int .i64 0], .bool true] := f13
    obtain rfl : x14 = .agg #[.int .i64 2, .int .i64 t, .int .i64 u, .int .i64 v, .int .i64 0, .int .i64 0, .int .i64 0] := f14
    obtain rfl : x15 = .bool true := f15

    have HBL := Lib.hid ((hle.block w.heap.size (by simp)).trans (heap_alloc_new _ _))
    have hb1 := hle.size
    have HB : Hid (Below w.heap.size w ws) := below_via hle
    have hcl := Go.Joins.cell_of_block hg2
    have y0 := hcl 0; have y1 := hcl 1; have y2 := hcl 2; have y3 := hcl 3; have y4 := hcl 4; have y5 := hcl 5; have y6 := hcl 6
    simp only [List.getElem?_toArray, List.getElem?_cons_succ, List.getElem?_cons_zero] at y0 y1 y2 y3 y4 y5 y6
    have HG2 := Lib.hid hg2
    have hgs : g < ws.heap.size := (Array.getElem?_eq_some_iff.1 hg2).1
    have hws : w.heap.size < ws.heap.size := by simp at hb1; omega
    clear hle hg2 hcl hg1 hb1
    simp only [List.drop_succ_cons, List.drop_zero]
    go_wp2_with fail
    refine (check_any _ _ _ _ _ _ _ _).mono ?_
    rintro e w5 ⟨rfl, hb5⟩
    have HB5 : Hid (Below w.heap.size w w5) := HB.out.trans (hb5.mono HB.out.size)
    have p1 := Go.Joins.cell_of_block ((hb5.block g hgs).trans HG2.out)
    have p2 := Go.Joins.cell_of_block ((hb5.block w.heap.size hws).trans HBL.out)
    have p3 := Go.Joins.unfrozen_of_block ((hb5.block w.heap.size hws).trans HBL.out)
    have HBL5 := Lib.hid ((hb5.block w.heap.size hws).trans HBL.out)
    clear y0 y1 y2 y3 y4 y5 y6
    have y0 := p1 0; have y1 := p1 1; have y2 := p1 2; have y3 := p1 3; have y4 := p1 4; have y5 := p1 5; have y6 := p1 6
    have z0 := p2 0; have z1 := p2 1; have z2 := p2 2; have z3 := p2 3; have z4 := p2 4; have z5 := p2 5; have z6 := p2 6
    have q0 := p3 0; have q1 := p3 1; have q2 := p3 2; have q3 := p3 3; have q4 := p3 4; have q5 := p3 5; have q6 := p3 6
    simp only [List.getElem?_toArray, List.getElem?_cons_succ, List.getElem?_cons_zero] at y0 y1 y2 y3 y4 y5 y6 z0 z1 z2 z3 z4 z5 z6
    clear hb5 p1 p2 p3 HG2 HBL HB
    rw [HC.out]
    go_wp2
    have hblk := set7_blk w5 w.heap.size _ _ _ _ _ _ _ HBL5.out (.int .i64 2) (.int .i64 t) (.int .i64 u) (.int .i64 v) (.int .i64 0) (.int .i64 0) (.int .i64 0)
    have hbel := below_set7 HB5.out (Nat.le_refl _) (.int .i64 2) (.int .i64 t) (.int .i64 u) (.int .i64 v) (.int .i64 0) (.int .i64 0) (.int .i64 0)
    generalize (((((((w5.setCell ⟨w.heap.size, 0, none⟩ (.int .i64 2)).setCell ⟨w.heap.size, 1, none⟩ (.int .i64 t)).setCell ⟨w.heap.size, 2, none⟩ (.int .i64 u)).setCell ⟨w.heap.size, 3, none⟩ (.int .i64 v)).setCell ⟨w.heap.size, 4, none⟩ (.int .i64 0)).setCell ⟨w.heap.size, 5, none⟩ (.int .i64 0)).setCell ⟨w.heap.size, 6, none⟩ (.int .i64 0)) = W5 at hblk hbel ⊢
    exact ret_struct (p := 2) (u := 3) Tryd.results41 rfl w.heap.size rfl (.int .i64 0) rfl hblk ⟨rfl, hbel⟩
set_option maxHeartbeats 2000000 in
set_option maxRecDepth 100000 in
theorem fromWords3_any (A : Option Addr) (c : Nat) (t u : Int) (ht : 0 ≤ t ∧ t ≤ 1048576) (hu : 0 ≤ u ∧ u < 64) (HC : Hid (chkE ⟨3, t, u, 0, 0, 0, 0⟩ = 0)) (w : World) (K : KW w)
    (h : RSt w.heap.size w A c [⟨#[108, 101, 97, 118, 101]⟩, mk (Lib.itoa t), mk (Lib.itoa u)]) :
    Calls Tryd.prog 41 #[.slice A 3 c] w fun e w' => e = .returned (.tuple #[.agg #[.int .i64 3, .int .i64 t, .int .i64 u, .int .i64 0, .int .i64 0, .int .i64 0, .int .i64 0], .int .i64 0]) ∧ Below w.heap.size w w' := by
  obtain ⟨L, HL⟩ : ∃ L, Hid ([mk (Lib.itoa t), mk (Lib.itoa u)] = L) := ⟨_, rfl⟩
  have CR := Lib.hid (fun A (W : World) (K : KW W) (h : RSt W.heap.size W A (c - 1) L) => readEvent3_any A (c - 1) t u ht hu W K (HL.out ▸ h))
  have hc0 := h.1
  simp only [List.length_cons, List.length_nil] at hc0
  have hc1 : ¬ c = 1 := by omega
  have HK := Lib.hid (K.up (below_new w (.cells #[.int .i64 0, .int .i64 0, .int .i64 0, .int .i64 0, .int .i64 0, .int .i64 0, .int .i64 0] 23)))
  obtain ⟨b, off, a9, rfl, hb, ha, h0⟩ := RSt.at_ h (k := 0) (by simp)
  simp only [List.getElem?_cons_zero, Option.some.injEq, Nat.add_zero] at ha h0
  subst ha
  have hcell : Hid ((w.alloc (.cells #[.int .i64 0, .int .i64 0, .int .i64 0, .int .i64 0, .int .i64 0, .int .i64 0, .int .i64 0] 23)).cell? ⟨b, off, none⟩ = some (.string ⟨#[108, 101, 97, 118, 101]⟩)) := (World.cell?_alloc_lt w _ ⟨b, off, none⟩ hb).trans h0
  have hbs : b < (w.alloc (.cells #[.int .i64 0, .int .i64 0, .int .i64 0, .int .i64 0, .int .i64 0, .int .i64 0, .int .i64 0] 23)).heap.size := by simp; omega
  have HT : Hid (RSt (w.alloc (.cells #[.int .i64 0, .int .i64 0, .int .i64 0, .int .i64 0, .int .i64 0, .int .i64 0, .int .i64 0] 23)).heap.size (w.alloc (.cells #[.int .i64 0, .int .i64 0, .int .i64 0, .int .i64 0, .int .i64 0, .int .i64 0, .int .i64 0] 23)) (some ⟨b, off + 1, none⟩) (c - 1) L) := by
    have h1 := RX.cut encS (RX.up h (below_new w (.cells #[.int .i64 0, .int .i64 0, .int .i64 0, .int .i64 0, .int .i64 0, .int .i64 0, .int .i64 0] 23))) (k := 1) (by simp)
    rw [if_neg hc1] at h1
    have h2 := HL.out
    subst h2
    show RSt _ _ _ _ _
    simpa [Addr.add] using h1
  clear h K ht hu h0 hc0
  go_enter Tryd.func41, Tryd.ntmps41
  go_wp2_with fail
  refine wp_region_ac 11 26 (fun u v => Below (w.alloc (.cells #[.int .i64 0, .int .i64 0, .int .i64 0, .int .i64 0, .int .i64 0, .int .i64 0, .int .i64 0] 23)).heap.size u v) (JW (w.alloc (.cells #[.int .i64 0, .int .i64 0, .int .i64 0, .int .i64 0, .int .i64 0, .int .i64 0, .int .i64 0] 23)).heap.size #[.int .i64 3, .int .i64 t, .int .i64 u, .int .i64 0, .int .i64 0, .int .i64 0, .int .i64 0]) [(fun q0 _ => q0 = .slice (some ⟨b, off, none⟩) 3 c), (fun q0 _ => q0 = .pointer (some ⟨b, off, none⟩)), (fun q0 _ => q0 = .string (⟨#[108, 101, 97, 118, 101]⟩ : ByteArray)), (fun q0 _ => q0 = .slice (some ⟨b, off, none⟩) 3 c), (fun q0 _ => q0 = .slice (some ⟨b, off + 1, none⟩) 2 (c - 1)), (fun q0 _ => q0 = .tuple #[.agg #[.int .i64 3, .int .i64 t, .int .i64 u, .int .i64 0, .int .i64 0, .int .i64 0, .int .i64 0], .bool true]), (fun q0 _ => q0 = .tuple #[.agg #[.int .i64 3, .int .i64 t, .int .i64 u, .int .i64 0, .int .i64 0, .int .i64 0, .int .i64 0], .bool true]), (fun q0 _ => q0 = .agg #[.int .i64 3, .int .i64 t, .int .i64 u, .int .i64 0, .int .i64 0, .int .i64 0, .int .i64 0]), (fun q0 _ => q0 = .bool true), (fun _ _ => True), (fun _ _ => True)] (by kernel_rfl) (by kernel_rfl) rfl (fun _ _ _ h1 h2 => h1.trans h2) (below_drewN _ 1) ⟨rfl, fun h => by cases h⟩ ?_ ?_ ?_
  · intro R hR
    simp only [List.mem_cons, List.not_mem_nil, or_false] at hR
    rcases hR with rfl | rfl | rfl | rfl | rfl | rfl | rfl | rfl | rfl | rfl | rfl <;> exact fun _ _ _ h _ => h
  · simp only [List.take_succ_cons, List.take_zero]
    refine ⟨?_, ?_, ?_, ?_, ?_, ?_, ?_, ?_, ?_, ?_, ?_, trivial⟩
    · intro a ws f hle hjj hfi hun hdn hag hdep K Q hK
      have d0 : (a.tmps[0]?).getD undef = .slice (some ⟨b, off, none⟩) 3 c := eval_get (hag 0 (freeB_spec (by kernel_rfl)))
      rw [if_pos (show Region.wanted _ _ = true from rfl)]
      unfold Oper.wp
      simp [go_sem, d0]
      exact hK _ _ (Below.refl _ _) (hjj.keep 0 8 _ (by decide) (by decide) (by decide) (Below.refl _ _)) rfl
    · intro a ws f hle hjj hfi hun hdn hag hdep K Q hK
      have d8 : (a.tmps[8]?).getD undef = .slice (some ⟨b, off, none⟩) 3 c := eval_get (dep_of hdep 0 8 rfl (by kernel_rfl) rfl rfl)
      rw [if_pos (show Region.wanted _ _ = true from rfl)]
      unfold Oper.wp
      simp [go_sem, d8]
      exact hK _ _ (Below.refl _ _) (hjj.keep 1 9 _ (by decide) (by decide) (by decide) (Below.refl _ _)) rfl
    · intro a ws f hle hjj hfi hun hdn hag hdep K Q hK
      have d9 : (a.tmps[9]?).getD undef = .pointer (some ⟨b, off, none⟩) := eval_get (dep_of hdep 1 9 rfl (by kernel_rfl) rfl rfl)
      rw [if_pos (show Region.wanted _ _ = true from rfl)]
      have yc := (hle.cell (p := ⟨b, off, none⟩) hbs).trans hcell.out
      unfold Oper.wp
      simp [go_sem, d9, yc]
      exact hK _ _ (Below.refl _ _) (hjj.keep 2 10 _ (by decide) (by decide) (by decide) (Below.refl _ _)) rfl
    · intro a ws f hle hjj hfi hun hdn hag hdep K Q hK
      have d0 : (a.tmps[0]?).getD undef = .slice (some ⟨b, off, none⟩) 3 c := eval_get (hag 0 (freeB_spec (by kernel_rfl)))
      rw [if_pos (show Region.wanted _ _ = true from rfl)]
      unfold Oper.wp
      simp [go_sem, d0]
      exact hK _ _ (Below.refl _ _) (hjj.keep 3 11 _ (by decide) (by decide) (by decide) (Below.refl _ _)) rfl
    · intro a ws f hle hjj hfi hun hdn hag hdep K Q hK
      have d11 : (a.tmps[11]?).getD undef = .slice (some ⟨b, off, none⟩) 3 c := eval_get (dep_of hdep 3 11 rfl (by kernel_rfl) rfl rfl)
      rw [if_pos (show Region.wanted _ _ = true from rfl)]
      unfold Oper.wp
      simp [go_sem, d11, hc1]
      exact hK _ _ (Below.refl _ _) (hjj.keep 4 12 _ (by decide) (by decide) (by decide) (Below.refl _ _)) rfl
    · intro a ws f hle hjj hfi hun hdn hag hdep K Q hK
      have d10 : (a.tmps[10]?).getD undef = .string (⟨#[108, 101, 97, 118, 101]⟩ : ByteArray) := eval_get (dep_of hdep 2 10 rfl (by kernel_rfl) rfl rfl)
      have d12 : (a.tmps[12]?).getD undef = .slice (some ⟨b, off + 1, none⟩) 2 (c - 1) := eval_get (dep_of hdep 4 12 rfl (by kernel_rfl) rfl rfl)
      rw [if_pos (show Region.wanted _ _ = true from rfl)]
      have HKs := HK.out.up hle
      unfold Oper.wp
      simp [go_sem, d10, d12]
      refine (CR.out _ _ HKs ((HT.out.go hle).more hle.size)).mono ?_
      rintro e w3 ⟨rfl, hb3⟩
      exact hK _ _ (hb3.mono hle.size) (hjj.keep 5 13 _ (by decide) (by decide) (by decide) hb3) rfl
    · intro a ws f hle hjj hfi hun hdn hag hdep K Q hK
      have d13 : (a.tmps[13]?).getD undef = .tuple #[.agg #[.int .i64 3, .int .i64 t, .int .i64 u, .int .i64 0, .int .i64 0, .int .i64 0, .int .i64 0], .bool true] := eval_get (dep_of hdep 5 13 rfl (by kernel_rfl) rfl rfl)
      rw [if_pos (show Region.wanted _ _ = true from rfl)]
      unfold Oper.wp
      simp [go_sem, d13]
      exact hK _ _ (Below.refl _ _) (hjj.keep 6 7 _ (by decide) (by decide) (by decide) (Below.refl _ _)) rfl
    · intro a ws f hle hjj hfi hun hdn hag hdep K Q hK
      have d7 : (a.tmps[7]?).getD undef = .tuple #[.agg #[.int .i64 3, .int .i64 t, .int .i64 u, .int .i64 0, .int .i64 0, .int .i64 0, .int .i64 0], .bool true] := eval_get (dep_of hdep 6 7 rfl (by kernel_rfl) rfl rfl)
      rw [if_pos (show Region.wanted _ _ = true from rfl)]
      unfold Oper.wp
      simp [go_sem, d7]
      exact hK _ _ (Below.refl _ _) (hjj.keep 7 14 _ (by decide) (by decide) (by decide) (Below.refl _ _)) rfl
    · intro a ws f hle hjj hfi hun hdn hag hdep K Q hK
      have d7 : (a.tmps[7]?).getD undef = .tuple #[.agg #[.int .i64 3, .int .i64 t, .int .i64 u, .int .i64 0, .int .i64 0, .int .i64 0, .int .i64 0], .bool true] := eval_get (dep_of hdep 6 7 rfl (by kernel_rfl) rfl rfl)
      rw [if_pos (show Region.wanted _ _ = true from rfl)]
      unfold Oper.wp
      simp [go_sem, d7]
      exact hK _ _ (Below.refl _ _) (hjj.keep 8 15 _ (by decide) (by decide) (by decide) (Below.refl _ _)) rfl
    · intro a ws f hle hjj hfi hun hdn hag hdep K Q hK
      rw [if_pos (show Region.wanted _ _ = true from rfl)]
      have h10 : f 10 = false := hun 10 _ rfl (by kernel_rfl)
      unfold Oper.wp
      simp [go_sem]
      exact hK _ _ ((below_new _ _).mono hle.size) (hjj.new h10 hle.size) trivial
    · intro a ws f hle hjj hfi hun hdn hag hdep K Q hK
      have d14 : (a.tmps[14]?).getD undef = .agg #[.int .i64 3, .int .i64 t, .int .i64 u, .int .i64 0, .int .i64 0, .int .i64 0, .int .i64 0] := eval_get (dep_of hdep 7 14 rfl (by kernel_rfl) rfl rfl)
      rw [if_pos (show Region.wanted _ _ = true from rfl)]
      have h9 : f 9 = true := hdn 9 _ rfl (by kernel_rfl)
      obtain ⟨hs9, hj9⟩ := hjj
      obtain ⟨g, e4, hg1, hg2⟩ := hj9 h9
      have e4 := eval_get e4
      rw [hfi, if_neg (by decide)] at hg2
      have hcl := Go.Joins.cell_of_block hg2
      have hfz := Go.Joins.unfrozen_of_block hg2
      have y0 := hcl 0; have y1 := hcl 1; have y2 := hcl 2; have y3 := hcl 3; have y4 := hcl 4; have y5 := hcl 5; have y6 := hcl 6
      have q0 := hfz 0; have q1 := hfz 1; have q2 := hfz 2; have q3 := hfz 3; have q4 := hfz 4; have q5 := hfz 5; have q6 := hfz 6
      simp only [List.getElem?_toArray, List.getElem?_cons_succ, List.getElem?_cons_zero] at y0 y1 y2 y3 y4 y5 y6
      unfold Oper.wp
      simp [go_sem, d14, e4, y0, y1, y2, y3, y4, y5, y6, q0, q1, q2, q3, q4, q5, q6]
      refine hK undef _ (below_set7 (Below.refl _ _) hg1 _ _ _ _ _ _ _) ⟨hs9, fun _ => ⟨g, ?_, hg1, ?_⟩⟩ trivial
      · show a.eval (.tmp 4) = _
        simpa [Act.eval] using e4
      · simp only [if_true]
        exact set7_blk ws g _ _ _ _ _ _ _ hg2 (.int .i64 3) (.int .i64 t) (.int .i64 u) (.int .i64 0) (.int .i64 0) (.int .i64 0) (.int .i64 0)
  · intro a ws f hle hjj hft hff hsz hdf hag hend
    have f8 : a.eval (.tmp 8) = .slice (some ⟨b, off, none⟩) 3 c := end_of hend 0 8 (by decide) rfl rfl rfl
    have f9 : a.eval (.tmp 9) = .pointer (some ⟨b, off, none⟩) := end_of hend 1 9 (by decide) rfl rfl rfl
    have f10 : a.eval (.tmp 10) = .string (⟨#[108, 101, 97, 118, 101]⟩ : ByteArray) := end_of hend 2 10 (by decide) rfl rfl rfl
    have f11 : a.eval (.tmp 11) = .slice (some ⟨b, off, none⟩) 3 c := end_of hend 3 11 (by decide) rfl rfl rfl
    have f12 : a.eval (.tmp 12) = .slice (some ⟨b, off + 1, none⟩) 2 (c - 1) := end_of hend 4 12 (by decide) rfl rfl rfl
    have f13 : a.eval (.tmp 13) = .tuple #[.agg #[.int .i64 3, .int .i64 t, .int .i64 u, .int .i64 0, .int .i64 0, .int .i64 0, .int .i64 0], .bool true] := end_of hend 5 13 (by decide) rfl rfl rfl
    have f7 : a.eval (.tmp 7) = .tuple #[.agg #[.int .i64 3, .int .i64 t, .int .i64 u, .int .i64 0, .int .i64 0, .int .i64 0, .int .i64 0], .bool true] := end_of hend 6 7 (by decide) rfl rfl rfl
    have f14 : a.eval (.tmp 14) = .agg #[.int .i64 3, .int .i64 t, .int .i64 u, .int .i64 0, .int .i64 0, .int .i64 0, .int .i64 0] := end_of hend 7 14 (by decide) rfl rfl rfl
    have f15 : a.eval (.tmp 15) = .bool true := end_of hend 8 15 (by decide) rfl rfl rfl
    have f0 : a.eval (.tmp 0) = .slice (some ⟨b, off, none⟩) 3 c := hag 0 (freeB_spec (by kernel_rfl))
    have f2 : a.eval (.tmp 2) = .pointer (some ⟨w.heap.size, 0, none⟩) := hag 2 (freeB_spec (by kernel_rfl))
    obtain ⟨g, f4, hg1, hg2⟩ := hjj.2 (hft 9 (by decide))
    rw [if_pos (hft 10 (by decide))] at hg2
    obtain ⟨T, D⟩ := a
    obtain rfl : D = [] := hdf
    obtain ⟨us, rfl⟩ : ∃ us : List Value, T = us.toArray := ⟨T.toList, by simp⟩
    replace hsz : us.length = 26 := by simpa using hsz
    obtain _ | ⟨x0, us⟩ := us
    · simp at hsz
    obtain _ | ⟨x1, us⟩ := us
    · simp at hsz
    obtain _ | ⟨x2, us⟩ := us
    · simp at hsz
    obtain _ | ⟨x3, us⟩ := us
    · simp at hsz
    obtain _ | ⟨x4, us⟩ := us
    · simp at hsz
    obtain _ | ⟨x5, us⟩ := us
    · simp at hsz
    obtain _ | ⟨x6, us⟩ := us
    · simp at hsz
    obtain _ | ⟨x7, us⟩ := us
    · simp at hsz
    obtain _ | ⟨x8, us⟩ := us
    · simp at hsz
    obtain _ | ⟨x9, us⟩ := us
    · simp at hsz
    obtain _ | ⟨x10, us⟩ := us
    · simp at hsz
    obtain _ | ⟨x11, us⟩ := us
    · simp at hsz
    obtain _ | ⟨x12, us⟩ := us
    · simp at hsz
    obtain _ | ⟨x13, us⟩ := us
    · simp at hsz
    obtain _ | ⟨x14, us⟩ := us
    · simp at hsz
    obtain _ | ⟨x15, us⟩ := us
    · simp at hsz
    obtain _ | ⟨x16, us⟩ := us
    · simp at hsz
    obtain _ | ⟨x17, us⟩ := us
    · simp at hsz
    obtain _ | ⟨x18, us⟩ := us
    · simp at hsz
    obtain _ | ⟨x19, us⟩ := us
    · simp at hsz
    obtain _ | ⟨x20, us⟩ := us
    · simp at hsz
    obtain _ | ⟨x21, us⟩ := us
    · simp at hsz
    obtain _ | ⟨x22, us⟩ := us
    · simp at hsz
    obtain _ | ⟨x23, us⟩ := us
    · simp at hsz
    obtain _ | ⟨x24, us⟩ := us
    · simp at hsz
    obtain _ | ⟨x25, us⟩ := us
    · simp at hsz
    obtain rfl : us = [] := by cases us with | nil => rfl | cons _ _ => simp at hsz
    clear hag hend hsz hjj hft hff
    obtain rfl : x0 = .slice (some ⟨b, off, none⟩) 3 c := f0
    obtain rfl : x2 = .pointer (some ⟨w.heap.size, 0, none⟩) := f2
    obtain rfl : x4 = .pointer (some ⟨g, 0, none⟩) := f4
    obtain rfl : x7 = .tuple #[.agg #[.int .i64 3, .int .i64 t, .int .i64 u, .int .i64 0, .int .i64 0, .int .i64 0, .int .i64 0], .bool true] := f7
    obtain rfl : x8 = .slice (some ⟨b, off, none⟩) 3 c := f8
    obtain rfl : x9 = .pointer (some ⟨b, off, none⟩) := f9
    obtain rfl : x10 = .string (⟨#[108, 101, 97, 118, 101]⟩ : ByteArray) := f10
    obtain rfl : x11 = .slice (some ⟨b, off, none⟩) 3 c := f11
    obtain rfl : x12 = .slice (some ⟨b, off + 1, none⟩) 2 (c - 1) := f12
    obtain rfl : x13 = .tuple #[.agg #[.int .i64 3, .int .i64 t, .int .i64 u, .int .i64 0, .int .i64 0, .int .i64 0, .int .i64 0], .bool true] := f13
    obtain rfl : x14 = .agg #[.int .i64 3, .int .i64 t, .int .i64 u, .int .i64 0, .int .i64 0, .int .i64 0, .int .i64 0] := f14
    obtain rfl : x15 = .bool true := f15

    have HBL := Lib.hid ((hle.block w.heap.size (by simp)).trans (heap_alloc_new _ _))
    have hb1 := hle.size
    have HB : Hid (Below w.heap.size w ws) := below_via hle
    have hcl := Go.Joins.cell_of_block hg2
    have y0 := hcl 0; have y1 := hcl 1; have y2 := hcl 2; have y3 := hcl 3; have y4 := hcl 4; have y5 := hcl 5; have y6 := hcl 6
    simp only [List.getElem?_toArray, List.getElem?_cons_succ, List.getElem?_cons_zero] at y0 y1 y2 y3 y4 y5 y6
    have HG2 := Lib.hid hg2
    have hgs : g < ws.heap.size := (Array.getElem?_eq_some_iff.1 hg2).1
    have hws : w.heap.size < ws.heap.size := by simp at hb1; omega
    clear hle hg2 hcl hg1 hb1
    simp only [List.drop_succ_cons, List.drop_zero]
    go_wp2_with fail
    refine (check_any _ _ _ _ _ _ _ _).mono ?_
    rintro e w5 ⟨rfl, hb5⟩
    have HB5 : Hid (Below w.heap.size w w5) := HB.out.trans (hb5.mono HB.out.size)
    have p1 := Go.Joins.cell_of_block ((hb5.block g hgs).trans HG2.out)
    have p2 := Go.Joins.cell_of_block ((hb5.block w.heap.size hws).trans HBL.out)
    have p3 := Go.Joins.unfrozen_of_block ((hb5.block w.heap.size hws).trans HBL.out)
    have HBL5 := Lib.hid ((hb5.block w.heap.size hws).trans HBL.out)
    clear y0 y1 y2 y3 y4 y5 y6
    have y0 := p1 0; have y1 := p1 1; have y2 := p1 2; have y3 := p1 3; have y4 := p1 4; have y5 := p1 5; have y6 := p1 6
    have z0 := p2 0; have z1 := p2 1; have z2 := p2 2; have z3 := p2 3; have z4 := p2 4; have z5 := p2 5; have z6 := p2 6
    have q0 := p3 0; have q1 := p3 1; have q2 := p3 2; have q3 := p3 3; have q4 := p3 4; have q5 := p3 5; have q6 := p3 6
    simp only [List.getElem?_toArray, List.getElem?_cons_succ, List.getElem?_cons_zero] at y0 y1 y2 y3 y4 y5 y6 z0 z1 z2 z3 z4 z5 z6
    clear hb5 p1 p2 p3 HG2 HBL HB
    rw [HC.out]
    go_wp2
    have hblk := set7_blk w5 w.heap.size _ _ _ _ _ _ _ HBL5.out (.int .i64 3) (.int .i64 t) (.int .i64 u) (.int .i64 0) (.int .i64 0) (.int .i64 0) (.int .i64 0)
    have hbel := below_set7 HB5.out (Nat.le_refl _) (.int .i64 3) (.int .i64 t) (.int .i64 u) (.int .i64 0) (.int .i64 0) (.int .i64 0) (.int .i64 0)
    generalize (((((((w5.setCell ⟨w.heap.size, 0, none⟩ (.int .i64 3)).setCell ⟨w.heap.size, 1, none⟩ (.int .i64 t)).setCell ⟨w.heap.size, 2, none⟩ (.int .i64 u)).setCell ⟨w.heap.size, 3, none⟩ (.int .i64 0)).setCell ⟨w.heap.size, 4, none⟩ (.int .i64 0)).setCell ⟨w.heap.size, 5, none⟩ (.int .i64 0)).setCell ⟨w.heap.size, 6, none⟩ (.int .i64 0)) = W5 at hblk hbel ⊢
    exact ret_struct (p := 2) (u := 3) Tryd.results41 rfl w.heap.size rfl (.int .i64 0) rfl hblk ⟨rfl, hbel⟩
end Go.Proofs.YtnohmgmpabckkaaDoor
