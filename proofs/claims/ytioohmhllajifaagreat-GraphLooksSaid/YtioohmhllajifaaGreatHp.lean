/-
  The common neighbours of two nodes: package graph's and the reference's.
-/
import Derived.Test.YtioohmhllajifaaGreatHg
import Derived.Test.YtioohmhllajifaaGreatNh
import Derived.Test.YtioohmhllajifaaGreatIv
namespace Go.Proofs.YtioohmhllajifaaGreat
open Go.RowKit Go.Lib

/-- a value that reads as a list of numbers -/
def FR (l : List Int) : Fact := fun z W => ∃ A c, z = .slice A l.length c ∧ RD W A c l
theorem FR_mono (l : List Int) : Mono (FR l) := fun _ _ _ ⟨A, c, h1, h2⟩ hb => ⟨A, c, h1, h2.go hb⟩
/-- the nodes next to both of two -/
def comE (n : Int) (l : List Ed) (u v : Int) : List Int := if u = v then [] else Ns.mee (nbr n l u) (nbr n l v)
theorem len_comE (n : Int) (l : List Ed) (u v : Int) : (comE n l u v).length ≤ 2 * l.length := by
  unfold comE; split
  · simp
  · have h1 : (Ns.mee (nbr n l u) (nbr n l v)).length ≤ (Ns.norm (nbr n l u)).length := List.length_filter_le _ _
    have h2 := Ns.len_norm (nbr n l u)
    have h3 := nbr_len n l u
    omega
set_option maxRecDepth 100000 in
set_option maxHeartbeats 2000000 in
theorem gcom_any (n : Int) (A : Option Addr) (c : Nat) (l : List Ed) (u v : Int) (w : World) (h : RE w.heap.size w A c l) (hl : l.length ≤ 32768) :
    Calls Tryz.prog 16 #[.agg #[.int .i64 n, .slice A l.length c], .int .i64 u, .int .i64 v] w (Gives w (comE n l u v)) := by
  have HG0 := Lib.hid (Gb.start (n := n) h)
  clear h
  by_cases huv : u = v
  · have HR : Hid (comE n l u v = []) := by show _ = _; unfold comE; rw [if_pos huv]
    have e1 : (u == v) = true := by simpa using huv
    rw [HR.out]
    clear huv
    go_enter Tryz.func16, Tryz.ntmps16
    go_wp2
    go_ret
    exact ⟨none, 0, rfl, RD.nil_ _ _ _, HG0.out.bel⟩
  · have HR : Hid (comE n l u v = Ns.mee (nbr n l u) (nbr n l v)) := by show _ = _; unfold comE; rw [if_neg huv]
    have e1 : (u == v) = false := by simpa using huv
    rw [HR.out]
    clear huv HR
    go_enter Tryz.func16, Tryz.ntmps16
    go_wp2
    refine wp_region_inv 8 17 [(fun z _ => z = .agg #[.int .i64 n, .slice A l.length c]), (fun z _ => z = .int .i64 u), (FR (nbr n l u)), (fun z _ => z = .agg #[.int .i64 n, .slice A l.length c]), (fun z _ => z = .int .i64 v), (FR (nbr n l v)), (FR (Ns.mee (nbr n l u) (nbr n l v))), (FR (Ns.mee (nbr n l u) (nbr n l v)))] (by kernel_rfl) (by kernel_rfl) rfl ?_ ?_ ?_
    · intro R hR
      simp only [List.mem_cons, List.not_mem_nil, or_false] at hR
      rcases hR with rfl | rfl | rfl | rfl | rfl | rfl | rfl | rfl
      · exact mono_eq _
      · exact mono_eq _
      · exact FR_mono _
      · exact mono_eq _
      · exact mono_eq _
      · exact FR_mono _
      · exact FR_mono _
      · exact FR_mono _
    · simp only [List.take_succ_cons, List.take_zero]
      refine ⟨?_, ?_, ?_, ?_, ?_, ?_, ?_, ?_, trivial⟩
      · intro a ws hb hag hdep K Q hK
        have d3 : (a.tmps[3]?).getD undef = .pointer (some ⟨w.heap.size, 0, none⟩) := eval_get (hag 3 (freeB_spec (by kernel_rfl)))
        rw [if_pos (show Region.wanted _ _ = true from rfl)]
        have HS2 := HG0.out.go hb
        have y0 := HS2.c0; have y1 := HS2.c1; have yl := HS2.lt
        unfold Oper.wp
        simp [go_sem, d3, y0, y1]
        exact hK _ _ (Below.refl _ _) rfl
      · intro a ws hb hag hdep K Q hK
        have d1 : (a.tmps[1]?).getD undef = .int .i64 u := eval_get (hag 1 (freeB_spec (by kernel_rfl)))
        rw [if_pos (show Region.wanted _ _ = true from rfl)]
        unfold Oper.wp
        simp [go_sem, d1]
        exact hK _ _ (Below.refl _ _) rfl
      · intro a ws hb hag hdep K Q hK
        have d10 : (a.tmps[10]?).getD undef = .agg #[.int .i64 n, .slice A l.length c] := eval_get (dep_of hdep 0 10 rfl (by kernel_rfl) rfl rfl)
        have d11 : (a.tmps[11]?).getD undef = .int .i64 u := eval_get (dep_of hdep 1 11 rfl (by kernel_rfl) rfl rfl)
        rw [if_pos (show Region.wanted _ _ = true from rfl)]
        have HS2 := HG0.out.go hb
        have hcon := gnbr_any n A c l u ws HS2.re hl
        unfold Oper.wp
        simp [go_sem, d10, d11]
        refine hcon.mono ?_
        rintro e w3 ⟨A9, c9, rfl, h9, hb3⟩
        exact hK _ _ hb3 ⟨A9, c9, rfl, h9⟩
      · intro a ws hb hag hdep K Q hK
        have d3 : (a.tmps[3]?).getD undef = .pointer (some ⟨w.heap.size, 0, none⟩) := eval_get (hag 3 (freeB_spec (by kernel_rfl)))
        rw [if_pos (show Region.wanted _ _ = true from rfl)]
        have HS2 := HG0.out.go hb
        have y0 := HS2.c0; have y1 := HS2.c1; have yl := HS2.lt
        unfold Oper.wp
        simp [go_sem, d3, y0, y1]
        exact hK _ _ (Below.refl _ _) rfl
      · intro a ws hb hag hdep K Q hK
        have d2 : (a.tmps[2]?).getD undef = .int .i64 v := eval_get (hag 2 (freeB_spec (by kernel_rfl)))
        rw [if_pos (show Region.wanted _ _ = true from rfl)]
        unfold Oper.wp
        simp [go_sem, d2]
        exact hK _ _ (Below.refl _ _) rfl
      · intro a ws hb hag hdep K Q hK
        have d13 : (a.tmps[13]?).getD undef = .agg #[.int .i64 n, .slice A l.length c] := eval_get (dep_of hdep 3 13 rfl (by kernel_rfl) rfl rfl)
        have d14 : (a.tmps[14]?).getD undef = .int .i64 v := eval_get (dep_of hdep 4 14 rfl (by kernel_rfl) rfl rfl)
        rw [if_pos (show Region.wanted _ _ = true from rfl)]
        have HS2 := HG0.out.go hb
        have hcon := gnbr_any n A c l v ws HS2.re hl
        unfold Oper.wp
        simp [go_sem, d13, d14]
        refine hcon.mono ?_
        rintro e w3 ⟨A9, c9, rfl, h9, hb3⟩
        exact hK _ _ hb3 ⟨A9, c9, rfl, h9⟩
      · intro a ws hb hag hdep K Q hK
        have d12 : (FR (nbr n l u)) (a.eval (.tmp 12)) ws := dep_of hdep 2 12 rfl (by kernel_rfl) rfl rfl
        have d15 : (FR (nbr n l v)) (a.eval (.tmp 15)) ws := dep_of hdep 5 15 rfl (by kernel_rfl) rfl rfl
        rw [if_pos (show Region.wanted _ _ = true from rfl)]
        obtain ⟨A7, c7, e12, h7⟩ := d12
        have e12 := eval_get e12
        obtain ⟨A8, c8, e15, h8⟩ := d15
        have e15 := eval_get e15
        have hcon := meet_any A7 A8 c7 c8 (nbr n l u) (nbr n l v) ws h7 h8 (by have := nbr_len n l u; omega) (by have := nbr_len n l v; omega)
        unfold Oper.wp
        simp [go_sem, e12, e15]
        refine hcon.mono ?_
        rintro e w3 ⟨A9, c9, rfl, h9, hb3⟩
        exact hK _ _ hb3 ⟨A9, c9, rfl, h9⟩
      · intro a ws hb hag hdep K Q hK
        have d16 : (FR (Ns.mee (nbr n l u) (nbr n l v))) (a.eval (.tmp 16)) ws := dep_of hdep 6 16 rfl (by kernel_rfl) rfl rfl
        rw [if_pos (show Region.wanted _ _ = true from rfl)]
        obtain ⟨A7, c7, e16, h7⟩ := d16
        have e16 := eval_get e16
        unfold Oper.wp
        simp [go_sem, e16]
        exact hK _ _ (Below.refl _ _) ⟨A7, c7, rfl, h7⟩
    · intro a ws hb hsz hdf hag hend
      have f10 : a.eval (.tmp 10) = .agg #[.int .i64 n, .slice A l.length c] := end_of hend 0 10 (by decide) rfl rfl rfl
      have f11 : a.eval (.tmp 11) = .int .i64 u := end_of hend 1 11 (by decide) rfl rfl rfl
      have f12 : (FR (nbr n l u)) (a.eval (.tmp 12)) ws := end_of hend 2 12 (by decide) rfl rfl rfl
      have f13 : a.eval (.tmp 13) = .agg #[.int .i64 n, .slice A l.length c] := end_of hend 3 13 (by decide) rfl rfl rfl
      have f14 : a.eval (.tmp 14) = .int .i64 v := end_of hend 4 14 (by decide) rfl rfl rfl
      have f15 : (FR (nbr n l v)) (a.eval (.tmp 15)) ws := end_of hend 5 15 (by decide) rfl rfl rfl
      have f16 : (FR (Ns.mee (nbr n l u) (nbr n l v))) (a.eval (.tmp 16)) ws := end_of hend 6 16 (by decide) rfl rfl rfl
      have f6 : (FR (Ns.mee (nbr n l u) (nbr n l v))) (a.eval (.tmp 6)) ws := end_of hend 7 6 (by decide) rfl rfl rfl
      have f1 : a.eval (.tmp 1) = .int .i64 u := hag 1 (freeB_spec (by kernel_rfl))
      have f2 : a.eval (.tmp 2) = .int .i64 v := hag 2 (freeB_spec (by kernel_rfl))
      have f3 : a.eval (.tmp 3) = .pointer (some ⟨w.heap.size, 0, none⟩) := hag 3 (freeB_spec (by kernel_rfl))
      obtain ⟨T, D⟩ := a
      obtain rfl : D = [] := hdf
      obtain ⟨us, rfl⟩ : ∃ us : List Value, T = us.toArray := ⟨T.toList, by simp⟩
      replace hsz : us.length = 17 := by simpa using hsz
      obtain _ | ⟨x0, us⟩ := us
      · simp at hsz
      obtain _ | ⟨x1, us⟩ := us
      · simp at hsz
      obtain _ | ⟨x2, us⟩ := us
      · simp at hsz
      obtain _ | ⟨x3, us⟩ := us
      · simp at hsz
      obtain _ | ⟨x4, us⟩ := us
      · simp at hsz
      obtain _ | ⟨x5, us⟩ := us
      · simp at hsz
      obtain _ | ⟨x6, us⟩ := us
      · simp at hsz
      obtain _ | ⟨x7, us⟩ := us
      · simp at hsz
      obtain _ | ⟨x8, us⟩ := us
      · simp at hsz
      obtain _ | ⟨x9, us⟩ := us
      · simp at hsz
      obtain _ | ⟨x10, us⟩ := us
      · simp at hsz
      obtain _ | ⟨x11, us⟩ := us
      · simp at hsz
      obtain _ | ⟨x12, us⟩ := us
      · simp at hsz
      obtain _ | ⟨x13, us⟩ := us
      · simp at hsz
      obtain _ | ⟨x14, us⟩ := us
      · simp at hsz
      obtain _ | ⟨x15, us⟩ := us
      · simp at hsz
      obtain _ | ⟨x16, us⟩ := us
      · simp at hsz
      obtain rfl : us = [] := by cases us with | nil => rfl | cons _ _ => simp at hsz
      clear hag hend hsz
      obtain rfl : x1 = .int .i64 u := f1
      obtain rfl : x2 = .int .i64 v := f2
      obtain rfl : x3 = .pointer (some ⟨w.heap.size, 0, none⟩) := f3
      replace f6 : (FR (Ns.mee (nbr n l u) (nbr n l v))) x6 ws := f6
      obtain rfl : x10 = .agg #[.int .i64 n, .slice A l.length c] := f10
      obtain rfl : x11 = .int .i64 u := f11
      replace f12 : (FR (nbr n l u)) x12 ws := f12
      obtain rfl : x13 = .agg #[.int .i64 n, .slice A l.length c] := f13
      obtain rfl : x14 = .int .i64 v := f14
      replace f15 : (FR (nbr n l v)) x15 ws := f15
      replace f16 : (FR (Ns.mee (nbr n l u) (nbr n l v))) x16 ws := f16
      obtain ⟨A6, c6, rfl, h6⟩ := f6
      have HB := Lib.hid (HG0.out.go hb).bel
      clear hb f12 f15 f16
      simp only [List.drop_succ_cons, List.drop_zero]
      go_wp2
      go_ret
      exact ⟨A6, c6, rfl, h6, HB.out⟩
set_option maxRecDepth 100000 in
set_option maxHeartbeats 2000000 in
theorem rcom_any (n : Int) (A : Option Addr) (c : Nat) (l : List Ed) (u v : Int) (w : World) (h : RE w.heap.size w A c l) (hl : l.length ≤ 32768) :
    Calls Tryz.prog 17 #[.agg #[.int .i64 n, .slice A l.length c], .int .i64 u, .int .i64 v] w (Gives w (comE n l u v)) := by
  have HG0 := Lib.hid (Gb.start (n := n) h)
  clear h
  by_cases huv : u = v
  · have HR : Hid (comE n l u v = []) := by show _ = _; unfold comE; rw [if_pos huv]
    have e1 : (u == v) = true := by simpa using huv
    rw [HR.out]
    clear huv
    go_enter Tryz.func17, Tryz.ntmps17
    go_wp2
    go_ret
    exact ⟨none, 0, rfl, RD.nil_ _ _ _, HG0.out.bel⟩
  · have HR : Hid (comE n l u v = Ns.mee (nbr n l u) (nbr n l v)) := by show _ = _; unfold comE; rw [if_neg huv]
    have e1 : (u == v) = false := by simpa using huv
    rw [HR.out]
    clear huv HR
    go_enter Tryz.func17, Tryz.ntmps17
    go_wp2
    refine wp_region_inv 8 17 [(fun z _ => z = .agg #[.int .i64 n, .slice A l.length c]), (fun z _ => z = .int .i64 u), (FR (nbr n l u)), (fun z _ => z = .agg #[.int .i64 n, .slice A l.length c]), (fun z _ => z = .int .i64 v), (FR (nbr n l v)), (FR (Ns.mee (nbr n l u) (nbr n l v))), (FR (Ns.mee (nbr n l u) (nbr n l v)))] (by kernel_rfl) (by kernel_rfl) rfl ?_ ?_ ?_
    · intro R hR
      simp only [List.mem_cons, List.not_mem_nil, or_false] at hR
      rcases hR with rfl | rfl | rfl | rfl | rfl | rfl | rfl | rfl
      · exact mono_eq _
      · exact mono_eq _
      · exact FR_mono _
      · exact mono_eq _
      · exact mono_eq _
      · exact FR_mono _
      · exact FR_mono _
      · exact FR_mono _
    · simp only [List.take_succ_cons, List.take_zero]
      refine ⟨?_, ?_, ?_, ?_, ?_, ?_, ?_, ?_, trivial⟩
      · intro a ws hb hag hdep K Q hK
        have d3 : (a.tmps[3]?).getD undef = .pointer (some ⟨w.heap.size, 0, none⟩) := eval_get (hag 3 (freeB_spec (by kernel_rfl)))
        rw [if_pos (show Region.wanted _ _ = true from rfl)]
        have HS2 := HG0.out.go hb
        have y0 := HS2.c0; have y1 := HS2.c1; have yl := HS2.lt
        unfold Oper.wp
        simp [go_sem, d3, y0, y1]
        exact hK _ _ (Below.refl _ _) rfl
      · intro a ws hb hag hdep K Q hK
        have d1 : (a.tmps[1]?).getD undef = .int .i64 u := eval_get (hag 1 (freeB_spec (by kernel_rfl)))
        rw [if_pos (show Region.wanted _ _ = true from rfl)]
        unfold Oper.wp
        simp [go_sem, d1]
        exact hK _ _ (Below.refl _ _) rfl
      · intro a ws hb hag hdep K Q hK
        have d10 : (a.tmps[10]?).getD undef = .agg #[.int .i64 n, .slice A l.length c] := eval_get (dep_of hdep 0 10 rfl (by kernel_rfl) rfl rfl)
        have d11 : (a.tmps[11]?).getD undef = .int .i64 u := eval_get (dep_of hdep 1 11 rfl (by kernel_rfl) rfl rfl)
        rw [if_pos (show Region.wanted _ _ = true from rfl)]
        have HS2 := HG0.out.go hb
        have hcon := rnbr_any n A c l u ws HS2.re hl
        unfold Oper.wp
        simp [go_sem, d10, d11]
        refine hcon.mono ?_
        rintro e w3 ⟨A9, c9, rfl, h9, hb3⟩
        exact hK _ _ hb3 ⟨A9, c9, rfl, h9⟩
      · intro a ws hb hag hdep K Q hK
        have d3 : (a.tmps[3]?).getD undef = .pointer (some ⟨w.heap.size, 0, none⟩) := eval_get (hag 3 (freeB_spec (by kernel_rfl)))
        rw [if_pos (show Region.wanted _ _ = true from rfl)]
        have HS2 := HG0.out.go hb
        have y0 := HS2.c0; have y1 := HS2.c1; have yl := HS2.lt
        unfold Oper.wp
        simp [go_sem, d3, y0, y1]
        exact hK _ _ (Below.refl _ _) rfl
      · intro a ws hb hag hdep K Q hK
        have d2 : (a.tmps[2]?).getD undef = .int .i64 v := eval_get (hag 2 (freeB_spec (by kernel_rfl)))
        rw [if_pos (show Region.wanted _ _ = true from rfl)]
        unfold Oper.wp
        simp [go_sem, d2]
        exact hK _ _ (Below.refl _ _) rfl
      · intro a ws hb hag hdep K Q hK
        have d13 : (a.tmps[13]?).getD undef = .agg #[.int .i64 n, .slice A l.length c] := eval_get (dep_of hdep 3 13 rfl (by kernel_rfl) rfl rfl)
        have d14 : (a.tmps[14]?).getD undef = .int .i64 v := eval_get (dep_of hdep 4 14 rfl (by kernel_rfl) rfl rfl)
        rw [if_pos (show Region.wanted _ _ = true from rfl)]
        have HS2 := HG0.out.go hb
        have hcon := rnbr_any n A c l v ws HS2.re hl
        unfold Oper.wp
        simp [go_sem, d13, d14]
        refine hcon.mono ?_
        rintro e w3 ⟨A9, c9, rfl, h9, hb3⟩
        exact hK _ _ hb3 ⟨A9, c9, rfl, h9⟩
      · intro a ws hb hag hdep K Q hK
        have d12 : (FR (nbr n l u)) (a.eval (.tmp 12)) ws := dep_of hdep 2 12 rfl (by kernel_rfl) rfl rfl
        have d15 : (FR (nbr n l v)) (a.eval (.tmp 15)) ws := dep_of hdep 5 15 rfl (by kernel_rfl) rfl rfl
        rw [if_pos (show Region.wanted _ _ = true from rfl)]
        obtain ⟨A7, c7, e12, h7⟩ := d12
        have e12 := eval_get e12
        obtain ⟨A8, c8, e15, h8⟩ := d15
        have e15 := eval_get e15
        have hcon := rmeet_any A7 A8 c7 c8 (nbr n l u) (nbr n l v) ws h7 h8 (by have := nbr_len n l u; omega) (by have := nbr_len n l v; omega)
        unfold Oper.wp
        simp [go_sem, e12, e15]
        refine hcon.mono ?_
        rintro e w3 ⟨A9, c9, rfl, h9, hb3⟩
        exact hK _ _ hb3 ⟨A9, c9, rfl, h9⟩
      · intro a ws hb hag hdep K Q hK
        have d16 : (FR (Ns.mee (nbr n l u) (nbr n l v))) (a.eval (.tmp 16)) ws := dep_of hdep 6 16 rfl (by kernel_rfl) rfl rfl
        rw [if_pos (show Region.wanted _ _ = true from rfl)]
        obtain ⟨A7, c7, e16, h7⟩ := d16
        have e16 := eval_get e16
        unfold Oper.wp
        simp [go_sem, e16]
        exact hK _ _ (Below.refl _ _) ⟨A7, c7, rfl, h7⟩
    · intro a ws hb hsz hdf hag hend
      have f10 : a.eval (.tmp 10) = .agg #[.int .i64 n, .slice A l.length c] := end_of hend 0 10 (by decide) rfl rfl rfl
      have f11 : a.eval (.tmp 11) = .int .i64 u := end_of hend 1 11 (by decide) rfl rfl rfl
      have f12 : (FR (nbr n l u)) (a.eval (.tmp 12)) ws := end_of hend 2 12 (by decide) rfl rfl rfl
      have f13 : a.eval (.tmp 13) = .agg #[.int .i64 n, .slice A l.length c] := end_of hend 3 13 (by decide) rfl rfl rfl
      have f14 : a.eval (.tmp 14) = .int .i64 v := end_of hend 4 14 (by decide) rfl rfl rfl
      have f15 : (FR (nbr n l v)) (a.eval (.tmp 15)) ws := end_of hend 5 15 (by decide) rfl rfl rfl
      have f16 : (FR (Ns.mee (nbr n l u) (nbr n l v))) (a.eval (.tmp 16)) ws := end_of hend 6 16 (by decide) rfl rfl rfl
      have f6 : (FR (Ns.mee (nbr n l u) (nbr n l v))) (a.eval (.tmp 6)) ws := end_of hend 7 6 (by decide) rfl rfl rfl
      have f1 : a.eval (.tmp 1) = .int .i64 u := hag 1 (freeB_spec (by kernel_rfl))
      have f2 : a.eval (.tmp 2) = .int .i64 v := hag 2 (freeB_spec (by kernel_rfl))
      have f3 : a.eval (.tmp 3) = .pointer (some ⟨w.heap.size, 0, none⟩) := hag 3 (freeB_spec (by kernel_rfl))
      obtain ⟨T, D⟩ := a
      obtain rfl : D = [] := hdf
      obtain ⟨us, rfl⟩ : ∃ us : List Value, T = us.toArray := ⟨T.toList, by simp⟩
      replace hsz : us.length = 17 := by simpa using hsz
      obtain _ | ⟨x0, us⟩ := us
      · simp at hsz
      obtain _ | ⟨x1, us⟩ := us
      · simp at hsz
      obtain _ | ⟨x2, us⟩ := us
      · simp at hsz
      obtain _ | ⟨x3, us⟩ := us
      · simp at hsz
      obtain _ | ⟨x4, us⟩ := us
      · simp at hsz
      obtain _ | ⟨x5, us⟩ := us
      · simp at hsz
      obtain _ | ⟨x6, us⟩ := us
      · simp at hsz
      obtain _ | ⟨x7, us⟩ := us
      · simp at hsz
      obtain _ | ⟨x8, us⟩ := us
      · simp at hsz
      obtain _ | ⟨x9, us⟩ := us
      · simp at hsz
      obtain _ | ⟨x10, us⟩ := us
      · simp at hsz
      obtain _ | ⟨x11, us⟩ := us
      · simp at hsz
      obtain _ | ⟨x12, us⟩ := us
      · simp at hsz
      obtain _ | ⟨x13, us⟩ := us
      · simp at hsz
      obtain _ | ⟨x14, us⟩ := us
      · simp at hsz
      obtain _ | ⟨x15, us⟩ := us
      · simp at hsz
      obtain _ | ⟨x16, us⟩ := us
      · simp at hsz
      obtain rfl : us = [] := by cases us with | nil => rfl | cons _ _ => simp at hsz
      clear hag hend hsz
      obtain rfl : x1 = .int .i64 u := f1
      obtain rfl : x2 = .int .i64 v := f2
      obtain rfl : x3 = .pointer (some ⟨w.heap.size, 0, none⟩) := f3
      replace f6 : (FR (Ns.mee (nbr n l u) (nbr n l v))) x6 ws := f6
      obtain rfl : x10 = .agg #[.int .i64 n, .slice A l.length c] := f10
      obtain rfl : x11 = .int .i64 u := f11
      replace f12 : (FR (nbr n l u)) x12 ws := f12
      obtain rfl : x13 = .agg #[.int .i64 n, .slice A l.length c] := f13
      obtain rfl : x14 = .int .i64 v := f14
      replace f15 : (FR (nbr n l v)) x15 ws := f15
      replace f16 : (FR (Ns.mee (nbr n l u) (nbr n l v))) x16 ws := f16
      obtain ⟨A6, c6, rfl, h6⟩ := f6
      have HB := Lib.hid (HG0.out.go hb).bel
      clear hb f12 f15 f16
      simp only [List.drop_succ_cons, List.drop_zero]
      go_wp2
      go_ret
      exact ⟨A6, c6, rfl, h6, HB.out⟩
end Go.Proofs.YtioohmhllajifaaGreat
