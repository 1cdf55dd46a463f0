/-
  The walk of GraphParts.
-/
import Derived.Test.YtioohmhllajifaaLb
import Derived.Test.YtioohmhllajifaaGg
namespace Go.Proofs.Ytioohmhllajifaa
open Go.RowKit Go.Lib

/-- a value that reads as a list of numbers -/
def FD (l : List Int) : Fact := fun z W => ∃ A c, z = .slice A l.length c ∧ RD W A c l
theorem FD_mono (l : List Int) : Mono (FD l) := fun _ _ _ ⟨A, c, h1, h2⟩ hb => ⟨A, c, h1, h2.go hb⟩

theorem insL_ok (n : Int) (l : List Ed) (S : List Int) (h : chk n l = 0) : insL n l S = ind l S := by unfold insL; rw [if_pos h]
theorem parts_le (l : List Ed) (a b : List Int) : (ind l a).length + (ind l b).length ≤ (ind l (Ns.uni a b)).length + (ind l (Ns.mee a b)).length := by
  induction l with
  | nil => simp [ind]
  | cons e l ih =>
    have hU : ∀ x, hasB (Ns.uni a b) x = (hasB a x || hasB b x) := fun x => by
      rw [Bool.eq_iff_iff]; simp only [Bool.or_eq_true, hasB_iff, Ns.mem_uni]
    have hM : ∀ x, hasB (Ns.mee a b) x = (hasB a x && hasB b x) := fun x => by
      rw [Bool.eq_iff_iff]; simp only [Bool.and_eq_true, hasB_iff, Ns.mem_mee]
    have h1 : ∀ S, (ind (e :: l) S).length = (if ins2 S e then 1 else 0) + (ind l S).length := fun S => by
      unfold ind; rw [List.filter_cons]; split <;> simp <;> omega
    rw [h1, h1, h1, h1]
    have h2 : (if ins2 a e then 1 else 0) + (if ins2 b e then 1 else 0) ≤ (if ins2 (Ns.uni a b) e then 1 else 0) + (if ins2 (Ns.mee a b) e then 1 else 0) := by
      unfold ins2
      rw [hU, hU, hM, hM]
      cases hasB a e.1 <;> cases hasB a e.2 <;> cases hasB b e.1 <;> cases hasB b e.2 <;> simp
    omega
theorem ind_all (n : Nat) (l : List Ed) (hn : n ≤ 64) (h : ∀ e ∈ l, 0 ≤ e.1 ∧ e.1 < e.2 ∧ e.2 < (n : Int)) : ind l (upto (cut64 n)) = l := by
  unfold ind
  refine List.filter_eq_self.2 fun e he => ?_
  have := h e he
  have hc : ((cut64 (n : Int) : Nat) : Int) = n := by rw [cut64_min _ (by omega)]; omega
  unfold ins2
  rw [Bool.and_eq_true, hasB_iff, hasB_iff, mem_upto, mem_upto]
  omega
theorem ind_nil (l : List Ed) : ind l [] = [] := by
  unfold ind
  refine List.filter_eq_nil_iff.2 fun e _ => ?_
  simp [ins2, hasB]

set_option maxHeartbeats 4000000 in
set_option maxRecDepth 100000 in
theorem parts_any (A : Option Addr) (c : Nat) (L : List Int) (w : World) (h : RD w A c L) (hL : L.length ≤ 17592186044416) :
    Calls Try.prog 6 #[.slice A L.length c] w fun e w' => e = .returned (.bool true) ∧ Below w.heap.size w w' := by
  have H := Lib.hid h
  clear h
  go_enter Try.func6, Try.ntmps6
  go_wp2_with fail
  refine (new_any A c L _ H.out).mono ?_
  rintro e w1 ⟨rfl, hd, hb⟩
  have HD := Lib.hid hd
  have HB := Lib.hid hb
  clear hd hb
  go_wp2_with fail
  refine (graph_any w.heap.size w.heap.size A c L 0 9 _ HD.out hL (by omega)).mono ?_
  rintro e w2 ⟨N, l, A1, c1, m, rfl, hN, hck, hl, ho, hdk, hgr⟩
  have HS0 := Lib.hid (LS.start (n := (N : Int)) (Nat.le_refl _) HD.out.lt HB.out hdk hgr ho)
  have HC := Lib.hid hck
  clear hck ho hdk hgr HD HB
  have z2 := HS0.out.lt
  go_wp2_with fail
  obtain ⟨m1, hd1⟩ := HS0.out.dk
  refine (set_any w.heap.size w.heap.size A c L m1 9 _ hd1 hL (by omega)).mono ?_
  rintro e w3 ⟨sa, A5, c5, m2, rfl, -, -, hsa, ho5, hdk, hgr⟩
  have HS3 := Lib.hid (HS0.out.next hdk hgr)
  have HD3 := Lib.hid hdk
  have HO5 := Lib.hid ho5
  clear hd1 hdk hgr ho5
  go_wp2_with fail
  refine (set_any w.heap.size w.heap.size A c L m2 9 _ HD3.out hL (by omega)).mono ?_
  rintro e w4 ⟨sb, A6, c6, m3, rfl, -, -, hsb, ho6, hdk, hgr⟩
  have HS := Lib.hid (HS3.out.next hdk hgr)
  have HRa := Lib.hid (RD.of_own (own_kept HO5.out hgr (by have := HS0.out.bel.size; have := HS0.out.l4; have := HS0.out.lt; omega)))
  have HRb := Lib.hid (RD.of_own ho6)
  clear hdk hgr ho6 HD3 HO5 z2
  obtain ⟨i1, Hi1⟩ : ∃ i1, Hid ((insL (N : Int) l sa).length = i1) := ⟨_, rfl⟩
  obtain ⟨i2, Hi2⟩ : ∃ i2, Hid ((insL (N : Int) l sb).length = i2) := ⟨_, rfl⟩
  obtain ⟨U, HU⟩ : ∃ U, Hid (Ns.uni sa sb = U) := ⟨_, rfl⟩
  obtain ⟨M, HM⟩ : ∃ M, Hid (Ns.mee sa sb = M) := ⟨_, rfl⟩
  obtain ⟨R, HR⟩ : ∃ R, Hid (upto (cut64 (N : Int)) = R) := ⟨_, rfl⟩
  obtain ⟨i3, Hi3⟩ : ∃ i3, Hid ((insL (N : Int) l U).length = i3) := ⟨_, rfl⟩
  obtain ⟨i4, Hi4⟩ : ∃ i4, Hid ((insL (N : Int) l M).length = i4) := ⟨_, rfl⟩
  have hle : (i1 : Int) + (i2 : Int) ≤ (i3 : Int) + (i4 : Int) := by
    have := parts_le l sa sb
    rw [← Hi1.out, ← Hi2.out, ← Hi3.out, ← Hi4.out, ← HU.out, ← HM.out, insL_ok _ _ _ HC.out, insL_ok _ _ _ HC.out, insL_ok _ _ _ HC.out, insL_ok _ _ _ HC.out]
    omega
  have hUl : U.length ≤ 65536 := by
    rw [← HU.out]; have := Ns.len_norm (sa ++ sb); rw [List.length_append] at this; unfold Ns.uni; omega
  have hMl : M.length ≤ 65536 := by
    rw [← HM.out]; have := Ns.len_norm sa; have h2 : (Ns.mee sa sb).length ≤ (Ns.norm sa).length := List.length_filter_le _ _; omega
  have hRl : R.length ≤ 65536 := by rw [← HR.out, len_upto]; have := cut64_le (N : Int); omega
  have b1 : i1 ≤ 10000 := by rw [← Hi1.out]; exact Nat.le_trans (len_insL _ _ _) hl
  have b2 : i2 ≤ 10000 := by rw [← Hi2.out]; exact Nat.le_trans (len_insL _ _ _) hl
  have b3 : i3 ≤ 10000 := by rw [← Hi3.out]; exact Nat.le_trans (len_insL _ _ _) hl
  have b4 : i4 ≤ 10000 := by rw [← Hi4.out]; exact Nat.le_trans (len_insL _ _ _) hl
  have CI1 := Lib.hid (fun (W : World) (h1 : RE W.heap.size W A1 c1 l) (h2 : RD W A5 c5 sa) => gins_any (N : Int) A1 A5 c1 c5 l sa W h1 h2 (by omega) (by omega))
  have CI2 := Lib.hid (fun (W : World) (h1 : RE W.heap.size W A1 c1 l) (h2 : RD W A6 c6 sb) => gins_any (N : Int) A1 A6 c1 c6 l sb W h1 h2 (by omega) (by omega))
  have CI3 := Lib.hid (fun (W : World) (B : Option Addr) (d : Nat) (h1 : RE W.heap.size W A1 c1 l) (h2 : RD W B d U) => gins_any (N : Int) A1 B c1 d l U W h1 h2 (by omega) hUl)
  have CI4 := Lib.hid (fun (W : World) (B : Option Addr) (d : Nat) (h1 : RE W.heap.size W A1 c1 l) (h2 : RD W B d M) => gins_any (N : Int) A1 B c1 d l M W h1 h2 (by omega) hMl)
  have CI5 := Lib.hid (fun (W : World) (B : Option Addr) (d : Nat) (h1 : RE W.heap.size W A1 c1 l) (h2 : RD W B d R) => gins_any (N : Int) A1 B c1 d l R W h1 h2 (by omega) hRl)
  have CI6 := Lib.hid (fun (W : World) (h1 : RE W.heap.size W A1 c1 l) => gins_any (N : Int) A1 none c1 0 l [] W h1 (RD.nil_ _ _ _) (by omega) (by simp))
  have CU := Lib.hid (fun (W : World) (h1 : RD W A5 c5 sa) (h2 : RD W A6 c6 sb) => runion_any A5 A6 c5 c6 sa sb W h1 h2 (by omega) (by omega))
  have CM := Lib.hid (fun (W : World) (h1 : RD W A5 c5 sa) (h2 : RD W A6 c6 sb) => rmeet_any A5 A6 c5 c6 sa sb W h1 h2 (by omega) (by omega))
  have CR := Lib.hid (fun (W : World) => rrange_any (N : Int) W)
  rw [Hi1.out] at CI1
  rw [Hi2.out] at CI2
  rw [Hi3.out] at CI3
  rw [Hi4.out] at CI4
  rw [HU.out] at CU
  rw [HM.out] at CM
  rw [HR.out] at CR
  rw [show insL (N : Int) l R = l by rw [insL_ok _ _ _ HC.out, ← HR.out]; exact ind_all N l (by omega) ((chk_zero _ _).1 HC.out).2.2.1] at CI5
  rw [show insL (N : Int) l [] = [] by rw [insL_ok _ _ _ HC.out]; exact ind_nil l] at CI6
  go_wp2
  refine wp_region_inv 38 53 [(fun z _ => z = .agg #[.int .i64 (N : Int), .slice A1 l.length c1]), (fun z _ => z = .slice A5 sa.length c5), (fun z _ => z = .int .i64 ((i1 : Nat) : Int)), (fun z _ => z = .agg #[.int .i64 (N : Int), .slice A1 l.length c1]), (fun z _ => z = .slice A6 sb.length c6), (fun z _ => z = .int .i64 ((i2 : Nat) : Int)), (fun z _ => z = .int .i64 ((i1 : Int) + (i2 : Int))), (fun z _ => z = .agg #[.int .i64 (N : Int), .slice A1 l.length c1]), (fun z _ => z = .slice A5 sa.length c5), (fun z _ => z = .slice A6 sb.length c6), (FD U), (fun z _ => z = .int .i64 ((i3 : Nat) : Int)), (fun z _ => z = .agg #[.int .i64 (N : Int), .slice A1 l.length c1]), (fun z _ => z = .slice A5 sa.length c5), (fun z _ => z = .slice A6 sb.length c6), (FD M), (fun z _ => z = .int .i64 ((i4 : Nat) : Int)), (fun z _ => z = .int .i64 ((i3 : Int) + (i4 : Int))), (fun z _ => z = .bool true), (fun z _ => z = .bool true), (fun z _ => z = .agg #[.int .i64 (N : Int), .slice A1 l.length c1]), (fun z _ => z = .pointer (some ⟨w2.heap.size, 0, none⟩)), (fun z _ => z = .int .i64 (N : Int)), (FD R), (fun z _ => z = .int .i64 (l.length : Int)), (fun z _ => z = .pointer (some ⟨w2.heap.size, 1, none⟩)), (fun z _ => z = .slice A1 l.length c1), (fun z _ => z = .int .i64 (l.length : Int)), (fun z _ => z = .bool true), (fun z _ => z = .bool true), (fun z _ => z = .bool true), (fun z _ => z = .agg #[.int .i64 (N : Int), .slice A1 l.length c1]), (fun z _ => z = .int .i64 0), (fun z _ => z = .bool true), (fun z _ => z = .bool true), (fun z _ => z = .bool true), (fun z _ => z = .bool true), (fun z _ => z = .bool true)] (by kernel_rfl) (by kernel_rfl) rfl ?_ ?_ ?_
  · intro R hR
    simp only [List.mem_cons, List.not_mem_nil, or_false] at hR
    rcases hR with rfl | rfl | rfl | rfl | rfl | rfl | rfl | rfl | rfl | rfl | rfl | rfl | rfl | rfl | rfl | rfl | rfl | rfl | rfl | rfl | rfl | rfl | rfl | rfl | rfl | rfl | rfl | rfl | rfl | rfl | rfl | rfl | rfl | rfl | rfl | rfl | rfl | rfl
    · exact mono_eq _
    · exact mono_eq _
    · exact mono_eq _
    · exact mono_eq _
    · exact mono_eq _
    · exact mono_eq _
    · exact mono_eq _
    · exact mono_eq _
    · exact mono_eq _
    · exact mono_eq _
    · exact FD_mono U
    · exact mono_eq _
    · exact mono_eq _
    · exact mono_eq _
    · exact mono_eq _
    · exact FD_mono M
    · exact mono_eq _
    · exact mono_eq _
    · exact mono_eq _
    · exact mono_eq _
    · exact mono_eq _
    · exact mono_eq _
    · exact mono_eq _
    · exact FD_mono R
    · exact mono_eq _
    · exact mono_eq _
    · exact mono_eq _
    · exact mono_eq _
    · exact mono_eq _
    · exact mono_eq _
    · exact mono_eq _
    · exact mono_eq _
    · exact mono_eq _
    · exact mono_eq _
    · exact mono_eq _
    · exact mono_eq _
    · exact mono_eq _
    · exact mono_eq _
  · simp only [List.take_succ_cons, List.take_zero]
    refine ⟨?_, ?_, ?_, ?_, ?_, ?_, ?_, ?_, ?_, ?_, ?_, ?_, ?_, ?_, ?_, ?_, ?_, ?_, ?_, ?_, ?_, ?_, ?_, ?_, ?_, ?_, ?_, ?_, ?_, ?_, ?_, ?_, ?_, ?_, ?_, ?_, ?_, ?_, trivial⟩
    · intro a ws hb hag hdep K Q hK
      have d4 : (a.tmps[4]?).getD undef = .pointer (some ⟨w2.heap.size, 0, none⟩) := eval_get (hag 4 (freeB_spec (by kernel_rfl)))
      rw [if_pos (show Region.wanted _ _ = true from rfl)]
      have HS2 := HS.out.go hb
      have y0 := HS2.c0; have y1 := HS2.c1'; have yl := HS2.lt
      unfold Oper.wp
      simp [go_sem, *]
      exact hK _ _ (Below.refl _ _) rfl
    · intro a ws hb hag hdep K Q hK
      have d5 : (a.tmps[5]?).getD undef = .slice A5 sa.length c5 := eval_get (hag 5 (freeB_spec (by kernel_rfl)))
      rw [if_pos (show Region.wanted _ _ = true from rfl)]
      have HS2 := HS.out.go hb
      have y0 := HS2.c0; have y1 := HS2.c1'; have yl := HS2.lt
      unfold Oper.wp
      simp [go_sem, *]
      exact hK _ _ (Below.refl _ _) rfl
    · intro a ws hb hag hdep K Q hK
      have d15 : (a.tmps[15]?).getD undef = .agg #[.int .i64 (N : Int), .slice A1 l.length c1] := eval_get (dep_of hdep 0 15 rfl (by kernel_rfl) rfl rfl)
      have d16 : (a.tmps[16]?).getD undef = .slice A5 sa.length c5 := eval_get (dep_of hdep 1 16 rfl (by kernel_rfl) rfl rfl)
      rw [if_pos (show Region.wanted _ _ = true from rfl)]
      have HS2 := HS.out.go hb
      have hcon := CI1.out ws HS2.re (HRa.out.go hb)
      unfold Oper.wp
      simp [go_sem, d15, d16]
      refine hcon.mono ?_
      rintro e w3 ⟨rfl, hb3⟩
      exact hK _ _ hb3 rfl
    · intro a ws hb hag hdep K Q hK
      have d4 : (a.tmps[4]?).getD undef = .pointer (some ⟨w2.heap.size, 0, none⟩) := eval_get (hag 4 (freeB_spec (by kernel_rfl)))
      rw [if_pos (show Region.wanted _ _ = true from rfl)]
      have HS2 := HS.out.go hb
      have y0 := HS2.c0; have y1 := HS2.c1'; have yl := HS2.lt
      unfold Oper.wp
      simp [go_sem, *]
      exact hK _ _ (Below.refl _ _) rfl
    · intro a ws hb hag hdep K Q hK
      have d6 : (a.tmps[6]?).getD undef = .slice A6 sb.length c6 := eval_get (hag 6 (freeB_spec (by kernel_rfl)))
      rw [if_pos (show Region.wanted _ _ = true from rfl)]
      have HS2 := HS.out.go hb
      have y0 := HS2.c0; have y1 := HS2.c1'; have yl := HS2.lt
      unfold Oper.wp
      simp [go_sem, *]
      exact hK _ _ (Below.refl _ _) rfl
    · intro a ws hb hag hdep K Q hK
      have d18 : (a.tmps[18]?).getD undef = .agg #[.int .i64 (N : Int), .slice A1 l.length c1] := eval_get (dep_of hdep 3 18 rfl (by kernel_rfl) rfl rfl)
      have d19 : (a.tmps[19]?).getD undef = .slice A6 sb.length c6 := eval_get (dep_of hdep 4 19 rfl (by kernel_rfl) rfl rfl)
      rw [if_pos (show Region.wanted _ _ = true from rfl)]
      have HS2 := HS.out.go hb
      have hcon := CI2.out ws HS2.re (HRb.out.go hb)
      unfold Oper.wp
      simp [go_sem, d18, d19]
      refine hcon.mono ?_
      rintro e w3 ⟨rfl, hb3⟩
      exact hK _ _ hb3 rfl
    · intro a ws hb hag hdep K Q hK
      have d17 : (a.tmps[17]?).getD undef = .int .i64 ((i1 : Nat) : Int) := eval_get (dep_of hdep 2 17 rfl (by kernel_rfl) rfl rfl)
      have d20 : (a.tmps[20]?).getD undef = .int .i64 ((i2 : Nat) : Int) := eval_get (dep_of hdep 5 20 rfl (by kernel_rfl) rfl rfl)
      rw [if_pos (show Region.wanted _ _ = true from rfl)]
      have hw : IntKind.i64.wrap ((i1 : Int) + (i2 : Int)) = (i1 : Int) + (i2 : Int) := IntWalk.i64_in _ (by omega)
      unfold Oper.wp
      simp [go_sem, d17, d20, hw]
      exact hK _ _ (Below.refl _ _) rfl
    · intro a ws hb hag hdep K Q hK
      have d4 : (a.tmps[4]?).getD undef = .pointer (some ⟨w2.heap.size, 0, none⟩) := eval_get (hag 4 (freeB_spec (by kernel_rfl)))
      rw [if_pos (show Region.wanted _ _ = true from rfl)]
      have HS2 := HS.out.go hb
      have y0 := HS2.c0; have y1 := HS2.c1'; have yl := HS2.lt
      unfold Oper.wp
      simp [go_sem, *]
      exact hK _ _ (Below.refl _ _) rfl
    · intro a ws hb hag hdep K Q hK
      have d5 : (a.tmps[5]?).getD undef = .slice A5 sa.length c5 := eval_get (hag 5 (freeB_spec (by kernel_rfl)))
      rw [if_pos (show Region.wanted _ _ = true from rfl)]
      have HS2 := HS.out.go hb
      have y0 := HS2.c0; have y1 := HS2.c1'; have yl := HS2.lt
      unfold Oper.wp
      simp [go_sem, *]
      exact hK _ _ (Below.refl _ _) rfl
    · intro a ws hb hag hdep K Q hK
      have d6 : (a.tmps[6]?).getD undef = .slice A6 sb.length c6 := eval_get (hag 6 (freeB_spec (by kernel_rfl)))
      rw [if_pos (show Region.wanted _ _ = true from rfl)]
      have HS2 := HS.out.go hb
      have y0 := HS2.c0; have y1 := HS2.c1'; have yl := HS2.lt
      unfold Oper.wp
      simp [go_sem, *]
      exact hK _ _ (Below.refl _ _) rfl
    · intro a ws hb hag hdep K Q hK
      have d23 : (a.tmps[23]?).getD undef = .slice A5 sa.length c5 := eval_get (dep_of hdep 8 23 rfl (by kernel_rfl) rfl rfl)
      have d24 : (a.tmps[24]?).getD undef = .slice A6 sb.length c6 := eval_get (dep_of hdep 9 24 rfl (by kernel_rfl) rfl rfl)
      rw [if_pos (show Region.wanted _ _ = true from rfl)]
      have HS2 := HS.out.go hb
      have hcon := CU.out ws (HRa.out.go hb) (HRb.out.go hb)
      unfold Oper.wp
      simp [go_sem, d23, d24]
      refine hcon.mono ?_
      rintro e w3 ⟨A9, c9, rfl, h9, hb3⟩
      exact hK _ _ hb3 ⟨A9, c9, rfl, h9⟩
    · intro a ws hb hag hdep K Q hK
      have d22 : (a.tmps[22]?).getD undef = .agg #[.int .i64 (N : Int), .slice A1 l.length c1] := eval_get (dep_of hdep 7 22 rfl (by kernel_rfl) rfl rfl)
      have d25 : (FD U) (a.eval (.tmp 25)) ws := dep_of hdep 10 25 rfl (by kernel_rfl) rfl rfl
      rw [if_pos (show Region.wanted _ _ = true from rfl)]
      obtain ⟨A8, c8, e25, h8⟩ := d25
      have e25 := eval_get e25
      have HS2 := HS.out.go hb
      have hcon := CI3.out ws A8 c8 HS2.re h8
      unfold Oper.wp
      simp [go_sem, d22, e25]
      refine hcon.mono ?_
      rintro e w3 ⟨rfl, hb3⟩
      exact hK _ _ hb3 rfl
    · intro a ws hb hag hdep K Q hK
      have d4 : (a.tmps[4]?).getD undef = .pointer (some ⟨w2.heap.size, 0, none⟩) := eval_get (hag 4 (freeB_spec (by kernel_rfl)))
      rw [if_pos (show Region.wanted _ _ = true from rfl)]
      have HS2 := HS.out.go hb
      have y0 := HS2.c0; have y1 := HS2.c1'; have yl := HS2.lt
      unfold Oper.wp
      simp [go_sem, *]
      exact hK _ _ (Below.refl _ _) rfl
    · intro a ws hb hag hdep K Q hK
      have d5 : (a.tmps[5]?).getD undef = .slice A5 sa.length c5 := eval_get (hag 5 (freeB_spec (by kernel_rfl)))
      rw [if_pos (show Region.wanted _ _ = true from rfl)]
      have HS2 := HS.out.go hb
      have y0 := HS2.c0; have y1 := HS2.c1'; have yl := HS2.lt
      unfold Oper.wp
      simp [go_sem, *]
      exact hK _ _ (Below.refl _ _) rfl
    · intro a ws hb hag hdep K Q hK
      have d6 : (a.tmps[6]?).getD undef = .slice A6 sb.length c6 := eval_get (hag 6 (freeB_spec (by kernel_rfl)))
      rw [if_pos (show Region.wanted _ _ = true from rfl)]
      have HS2 := HS.out.go hb
      have y0 := HS2.c0; have y1 := HS2.c1'; have yl := HS2.lt
      unfold Oper.wp
      simp [go_sem, *]
      exact hK _ _ (Below.refl _ _) rfl
    · intro a ws hb hag hdep K Q hK
      have d28 : (a.tmps[28]?).getD undef = .slice A5 sa.length c5 := eval_get (dep_of hdep 13 28 rfl (by kernel_rfl) rfl rfl)
      have d29 : (a.tmps[29]?).getD undef = .slice A6 sb.length c6 := eval_get (dep_of hdep 14 29 rfl (by kernel_rfl) rfl rfl)
      rw [if_pos (show Region.wanted _ _ = true from rfl)]
      have HS2 := HS.out.go hb
      have hcon := CM.out ws (HRa.out.go hb) (HRb.out.go hb)
      unfold Oper.wp
      simp [go_sem, d28, d29]
      refine hcon.mono ?_
      rintro e w3 ⟨A9, c9, rfl, h9, hb3⟩
      exact hK _ _ hb3 ⟨A9, c9, rfl, h9⟩
    · intro a ws hb hag hdep K Q hK
      have d27 : (a.tmps[27]?).getD undef = .agg #[.int .i64 (N : Int), .slice A1 l.length c1] := eval_get (dep_of hdep 12 27 rfl (by kernel_rfl) rfl rfl)
      have d30 : (FD M) (a.eval (.tmp 30)) ws := dep_of hdep 15 30 rfl (by kernel_rfl) rfl rfl
      rw [if_pos (show Region.wanted _ _ = true from rfl)]
      obtain ⟨A8, c8, e30, h8⟩ := d30
      have e30 := eval_get e30
      have HS2 := HS.out.go hb
      have hcon := CI4.out ws A8 c8 HS2.re h8
      unfold Oper.wp
      simp [go_sem, d27, e30]
      refine hcon.mono ?_
      rintro e w3 ⟨rfl, hb3⟩
      exact hK _ _ hb3 rfl
    · intro a ws hb hag hdep K Q hK
      have d26 : (a.tmps[26]?).getD undef = .int .i64 ((i3 : Nat) : Int) := eval_get (dep_of hdep 11 26 rfl (by kernel_rfl) rfl rfl)
      have d31 : (a.tmps[31]?).getD undef = .int .i64 ((i4 : Nat) : Int) := eval_get (dep_of hdep 16 31 rfl (by kernel_rfl) rfl rfl)
      rw [if_pos (show Region.wanted _ _ = true from rfl)]
      have hw : IntKind.i64.wrap ((i3 : Int) + (i4 : Int)) = (i3 : Int) + (i4 : Int) := IntWalk.i64_in _ (by omega)
      unfold Oper.wp
      simp [go_sem, d26, d31, hw]
      exact hK _ _ (Below.refl _ _) rfl
    · intro a ws hb hag hdep K Q hK
      have d21 : (a.tmps[21]?).getD undef = .int .i64 ((i1 : Int) + (i2 : Int)) := eval_get (dep_of hdep 6 21 rfl (by kernel_rfl) rfl rfl)
      have d32 : (a.tmps[32]?).getD undef = .int .i64 ((i3 : Int) + (i4 : Int)) := eval_get (dep_of hdep 17 32 rfl (by kernel_rfl) rfl rfl)
      rw [if_pos (show Region.wanted _ _ = true from rfl)]
      unfold Oper.wp
      simp [go_sem, d21, d32, hle]
      exact hK _ _ (Below.refl _ _) rfl
    · intro a ws hb hag hdep K Q hK
      have d33 : (a.tmps[33]?).getD undef = .bool true := eval_get (dep_of hdep 18 33 rfl (by kernel_rfl) rfl rfl)
      rw [if_pos (show Region.wanted _ _ = true from rfl)]
      have HS2 := HS.out.go hb
      have y0 := HS2.c0; have y1 := HS2.c1'; have yl := HS2.lt
      unfold Oper.wp
      simp [go_sem, *]
      exact hK _ _ (Below.refl _ _) rfl
    · intro a ws hb hag hdep K Q hK
      have d4 : (a.tmps[4]?).getD undef = .pointer (some ⟨w2.heap.size, 0, none⟩) := eval_get (hag 4 (freeB_spec (by kernel_rfl)))
      have dg : a.eval (.tmp 34) = .bool true := dep_of hdep 19 34 rfl (by kernel_rfl) rfl rfl
      rw [if_pos (wanted_at (l := _) rfl rfl rfl dg)]
      have HS2 := HS.out.go hb
      have y0 := HS2.c0; have y1 := HS2.c1'; have yl := HS2.lt
      unfold Oper.wp
      simp [go_sem, *]
      exact hK _ _ (Below.refl _ _) rfl
    · intro a ws hb hag hdep K Q hK
      have d4 : (a.tmps[4]?).getD undef = .pointer (some ⟨w2.heap.size, 0, none⟩) := eval_get (hag 4 (freeB_spec (by kernel_rfl)))
      have dg : a.eval (.tmp 34) = .bool true := dep_of hdep 19 34 rfl (by kernel_rfl) rfl rfl
      rw [if_pos (wanted_at (l := _) rfl rfl rfl dg)]
      have HS2 := HS.out.go hb
      have y0 := HS2.c0; have y1 := HS2.c1'; have yl := HS2.lt
      unfold Oper.wp
      simp [go_sem, *]
      exact hK _ _ (Below.refl _ _) rfl
    · intro a ws hb hag hdep K Q hK
      have d36 : (a.tmps[36]?).getD undef = .pointer (some ⟨w2.heap.size, 0, none⟩) := eval_get (dep_of hdep 21 36 rfl (by kernel_rfl) rfl rfl)
      have dg : a.eval (.tmp 34) = .bool true := dep_of hdep 19 34 rfl (by kernel_rfl) rfl rfl
      rw [if_pos (wanted_at (l := _) rfl rfl rfl dg)]
      have HS2 := HS.out.go hb
      have y0 := HS2.c0; have y1 := HS2.c1'; have yl := HS2.lt
      unfold Oper.wp
      simp [go_sem, *]
      exact hK _ _ (Below.refl _ _) rfl
    · intro a ws hb hag hdep K Q hK
      have d37 : (a.tmps[37]?).getD undef = .int .i64 (N : Int) := eval_get (dep_of hdep 22 37 rfl (by kernel_rfl) rfl rfl)
      have dg : a.eval (.tmp 34) = .bool true := dep_of hdep 19 34 rfl (by kernel_rfl) rfl rfl
      rw [if_pos (wanted_at (l := _) rfl rfl rfl dg)]
      have HS2 := HS.out.go hb
      have hcon := CR.out ws
      unfold Oper.wp
      simp [go_sem, d37]
      refine hcon.mono ?_
      rintro e w3 ⟨A9, c9, rfl, h9, hb3⟩
      exact hK _ _ hb3 ⟨A9, c9, rfl, h9⟩
    · intro a ws hb hag hdep K Q hK
      have d35 : (a.tmps[35]?).getD undef = .agg #[.int .i64 (N : Int), .slice A1 l.length c1] := eval_get (dep_of hdep 20 35 rfl (by kernel_rfl) rfl rfl)
      have d38 : (FD R) (a.eval (.tmp 38)) ws := dep_of hdep 23 38 rfl (by kernel_rfl) rfl rfl
      have dg : a.eval (.tmp 34) = .bool true := dep_of hdep 19 34 rfl (by kernel_rfl) rfl rfl
      rw [if_pos (wanted_at (l := _) rfl rfl rfl dg)]
      obtain ⟨A8, c8, e38, h8⟩ := d38
      have e38 := eval_get e38
      have HS2 := HS.out.go hb
      have hcon := CI5.out ws A8 c8 HS2.re h8
      unfold Oper.wp
      simp [go_sem, d35, e38]
      refine hcon.mono ?_
      rintro e w3 ⟨rfl, hb3⟩
      exact hK _ _ hb3 rfl
    · intro a ws hb hag hdep K Q hK
      have d4 : (a.tmps[4]?).getD undef = .pointer (some ⟨w2.heap.size, 0, none⟩) := eval_get (hag 4 (freeB_spec (by kernel_rfl)))
      have dg : a.eval (.tmp 34) = .bool true := dep_of hdep 19 34 rfl (by kernel_rfl) rfl rfl
      rw [if_pos (wanted_at (l := _) rfl rfl rfl dg)]
      have HS2 := HS.out.go hb
      have y0 := HS2.c0; have y1 := HS2.c1'; have yl := HS2.lt
      unfold Oper.wp
      simp [go_sem, *]
      exact hK _ _ (Below.refl _ _) rfl
    · intro a ws hb hag hdep K Q hK
      have d40 : (a.tmps[40]?).getD undef = .pointer (some ⟨w2.heap.size, 1, none⟩) := eval_get (dep_of hdep 25 40 rfl (by kernel_rfl) rfl rfl)
      have dg : a.eval (.tmp 34) = .bool true := dep_of hdep 19 34 rfl (by kernel_rfl) rfl rfl
      rw [if_pos (wanted_at (l := _) rfl rfl rfl dg)]
      have HS2 := HS.out.go hb
      have y0 := HS2.c0; have y1 := HS2.c1'; have yl := HS2.lt
      unfold Oper.wp
      simp [go_sem, *]
      exact hK _ _ (Below.refl _ _) rfl
    · intro a ws hb hag hdep K Q hK
      have d41 : (a.tmps[41]?).getD undef = .slice A1 l.length c1 := eval_get (dep_of hdep 26 41 rfl (by kernel_rfl) rfl rfl)
      have dg : a.eval (.tmp 34) = .bool true := dep_of hdep 19 34 rfl (by kernel_rfl) rfl rfl
      rw [if_pos (wanted_at (l := _) rfl rfl rfl dg)]
      have HS2 := HS.out.go hb
      have y0 := HS2.c0; have y1 := HS2.c1'; have yl := HS2.lt
      unfold Oper.wp
      simp [go_sem, *]
      exact hK _ _ (Below.refl _ _) rfl
    · intro a ws hb hag hdep K Q hK
      have d39 : (a.tmps[39]?).getD undef = .int .i64 (l.length : Int) := eval_get (dep_of hdep 24 39 rfl (by kernel_rfl) rfl rfl)
      have d42 : (a.tmps[42]?).getD undef = .int .i64 (l.length : Int) := eval_get (dep_of hdep 27 42 rfl (by kernel_rfl) rfl rfl)
      have dg : a.eval (.tmp 34) = .bool true := dep_of hdep 19 34 rfl (by kernel_rfl) rfl rfl
      rw [if_pos (wanted_at (l := _) rfl rfl rfl dg)]
      unfold Oper.wp
      simp [go_sem, d39, d42]
      exact hK _ _ (Below.refl _ _) rfl
    · intro a ws hb hag hdep K Q hK
      have d34 : (a.tmps[34]?).getD undef = .bool true := eval_get (dep_of hdep 19 34 rfl (by kernel_rfl) rfl rfl)
      have d43 : (a.tmps[43]?).getD undef = .bool true := eval_get (dep_of hdep 28 43 rfl (by kernel_rfl) rfl rfl)
      rw [if_pos (show Region.wanted _ _ = true from rfl)]
      unfold Oper.wp
      simp [go_sem, d34, d43]
      exact hK _ _ (Below.refl _ _) rfl
    · intro a ws hb hag hdep K Q hK
      have d44 : (a.tmps[44]?).getD undef = .bool true := eval_get (dep_of hdep 29 44 rfl (by kernel_rfl) rfl rfl)
      rw [if_pos (show Region.wanted _ _ = true from rfl)]
      have HS2 := HS.out.go hb
      have y0 := HS2.c0; have y1 := HS2.c1'; have yl := HS2.lt
      unfold Oper.wp
      simp [go_sem, *]
      exact hK _ _ (Below.refl _ _) rfl
    · intro a ws hb hag hdep K Q hK
      have d4 : (a.tmps[4]?).getD undef = .pointer (some ⟨w2.heap.size, 0, none⟩) := eval_get (hag 4 (freeB_spec (by kernel_rfl)))
      have dg : a.eval (.tmp 45) = .bool true := dep_of hdep 30 45 rfl (by kernel_rfl) rfl rfl
      rw [if_pos (wanted_at (l := _) rfl rfl rfl dg)]
      have HS2 := HS.out.go hb
      have y0 := HS2.c0; have y1 := HS2.c1'; have yl := HS2.lt
      unfold Oper.wp
      simp [go_sem, *]
      exact hK _ _ (Below.refl _ _) rfl
    · intro a ws hb hag hdep K Q hK
      have d46 : (a.tmps[46]?).getD undef = .agg #[.int .i64 (N : Int), .slice A1 l.length c1] := eval_get (dep_of hdep 31 46 rfl (by kernel_rfl) rfl rfl)
      have dg : a.eval (.tmp 45) = .bool true := dep_of hdep 30 45 rfl (by kernel_rfl) rfl rfl
      rw [if_pos (wanted_at (l := _) rfl rfl rfl dg)]
      have HS2 := HS.out.go hb
      have hcon := CI6.out ws HS2.re
      unfold Oper.wp
      simp [go_sem, d46]
      refine hcon.mono ?_
      rintro e w3 ⟨rfl, hb3⟩
      exact hK _ _ hb3 rfl
    · intro a ws hb hag hdep K Q hK
      have d47 : (a.tmps[47]?).getD undef = .int .i64 0 := eval_get (dep_of hdep 32 47 rfl (by kernel_rfl) rfl rfl)
      have dg : a.eval (.tmp 45) = .bool true := dep_of hdep 30 45 rfl (by kernel_rfl) rfl rfl
      rw [if_pos (wanted_at (l := _) rfl rfl rfl dg)]
      unfold Oper.wp
      simp [go_sem, d47]
      exact hK _ _ (Below.refl _ _) rfl
    · intro a ws hb hag hdep K Q hK
      have d45 : (a.tmps[45]?).getD undef = .bool true := eval_get (dep_of hdep 30 45 rfl (by kernel_rfl) rfl rfl)
      have d48 : (a.tmps[48]?).getD undef = .bool true := eval_get (dep_of hdep 33 48 rfl (by kernel_rfl) rfl rfl)
      rw [if_pos (show Region.wanted _ _ = true from rfl)]
      unfold Oper.wp
      simp [go_sem, d45, d48]
      exact hK _ _ (Below.refl _ _) rfl
    · intro a ws hb hag hdep K Q hK
      have d49 : (a.tmps[49]?).getD undef = .bool true := eval_get (dep_of hdep 34 49 rfl (by kernel_rfl) rfl rfl)
      rw [if_pos (show Region.wanted _ _ = true from rfl)]
      have HS2 := HS.out.go hb
      have y0 := HS2.c0; have y1 := HS2.c1'; have yl := HS2.lt
      unfold Oper.wp
      simp [go_sem, *]
      exact hK _ _ (Below.refl _ _) rfl
    · intro a ws hb hag hdep K Q hK
      have dg : a.eval (.tmp 50) = .bool true := dep_of hdep 35 50 rfl (by kernel_rfl) rfl rfl
      rw [if_pos (wanted_at (l := _) rfl rfl rfl dg)]
      have HS2 := HS.out.go hb
      have hcon := awake3_any ws
      unfold Oper.wp
      simp [go_sem]
      refine hcon.mono ?_
      rintro e w3 ⟨rfl, hb3⟩
      exact hK _ _ hb3 rfl
    · intro a ws hb hag hdep K Q hK
      have d50 : (a.tmps[50]?).getD undef = .bool true := eval_get (dep_of hdep 35 50 rfl (by kernel_rfl) rfl rfl)
      have d51 : (a.tmps[51]?).getD undef = .bool true := eval_get (dep_of hdep 36 51 rfl (by kernel_rfl) rfl rfl)
      rw [if_pos (show Region.wanted _ _ = true from rfl)]
      unfold Oper.wp
      simp [go_sem, d50, d51]
      exact hK _ _ (Below.refl _ _) rfl
  · intro a ws hb hsz hdf hag hend
    have f15 : a.eval (.tmp 15) = .agg #[.int .i64 (N : Int), .slice A1 l.length c1] := end_of hend 0 15 (by decide) rfl rfl rfl
    have f16 : a.eval (.tmp 16) = .slice A5 sa.length c5 := end_of hend 1 16 (by decide) rfl rfl rfl
    have f17 : a.eval (.tmp 17) = .int .i64 ((i1 : Nat) : Int) := end_of hend 2 17 (by decide) rfl rfl rfl
    have f18 : a.eval (.tmp 18) = .agg #[.int .i64 (N : Int), .slice A1 l.length c1] := end_of hend 3 18 (by decide) rfl rfl rfl
    have f19 : a.eval (.tmp 19) = .slice A6 sb.length c6 := end_of hend 4 19 (by decide) rfl rfl rfl
    have f20 : a.eval (.tmp 20) = .int .i64 ((i2 : Nat) : Int) := end_of hend 5 20 (by decide) rfl rfl rfl
    have f21 : a.eval (.tmp 21) = .int .i64 ((i1 : Int) + (i2 : Int)) := end_of hend 6 21 (by decide) rfl rfl rfl
    have f22 : a.eval (.tmp 22) = .agg #[.int .i64 (N : Int), .slice A1 l.length c1] := end_of hend 7 22 (by decide) rfl rfl rfl
    have f23 : a.eval (.tmp 23) = .slice A5 sa.length c5 := end_of hend 8 23 (by decide) rfl rfl rfl
    have f24 : a.eval (.tmp 24) = .slice A6 sb.length c6 := end_of hend 9 24 (by decide) rfl rfl rfl
    have f25 : (FD U) (a.eval (.tmp 25)) ws := end_of hend 10 25 (by decide) rfl rfl rfl
    have f26 : a.eval (.tmp 26) = .int .i64 ((i3 : Nat) : Int) := end_of hend 11 26 (by decide) rfl rfl rfl
    have f27 : a.eval (.tmp 27) = .agg #[.int .i64 (N : Int), .slice A1 l.length c1] := end_of hend 12 27 (by decide) rfl rfl rfl
    have f28 : a.eval (.tmp 28) = .slice A5 sa.length c5 := end_of hend 13 28 (by decide) rfl rfl rfl
    have f29 : a.eval (.tmp 29) = .slice A6 sb.length c6 := end_of hend 14 29 (by decide) rfl rfl rfl
    have f30 : (FD M) (a.eval (.tmp 30)) ws := end_of hend 15 30 (by decide) rfl rfl rfl
    have f31 : a.eval (.tmp 31) = .int .i64 ((i4 : Nat) : Int) := end_of hend 16 31 (by decide) rfl rfl rfl
    have f32 : a.eval (.tmp 32) = .int .i64 ((i3 : Int) + (i4 : Int)) := end_of hend 17 32 (by decide) rfl rfl rfl
    have f33 : a.eval (.tmp 33) = .bool true := end_of hend 18 33 (by decide) rfl rfl rfl
    have f34 : a.eval (.tmp 34) = .bool true := end_of hend 19 34 (by decide) rfl rfl rfl
    have f35 : a.eval (.tmp 35) = .agg #[.int .i64 (N : Int), .slice A1 l.length c1] := end_of hend 20 35 (by decide) rfl rfl rfl
    have f36 : a.eval (.tmp 36) = .pointer (some ⟨w2.heap.size, 0, none⟩) := end_of hend 21 36 (by decide) rfl rfl rfl
    have f37 : a.eval (.tmp 37) = .int .i64 (N : Int) := end_of hend 22 37 (by decide) rfl rfl rfl
    have f38 : (FD R) (a.eval (.tmp 38)) ws := end_of hend 23 38 (by decide) rfl rfl rfl
    have f39 : a.eval (.tmp 39) = .int .i64 (l.length : Int) := end_of hend 24 39 (by decide) rfl rfl rfl
    have f40 : a.eval (.tmp 40) = .pointer (some ⟨w2.heap.size, 1, none⟩) := end_of hend 25 40 (by decide) rfl rfl rfl
    have f41 : a.eval (.tmp 41) = .slice A1 l.length c1 := end_of hend 26 41 (by decide) rfl rfl rfl
    have f42 : a.eval (.tmp 42) = .int .i64 (l.length : Int) := end_of hend 27 42 (by decide) rfl rfl rfl
    have f43 : a.eval (.tmp 43) = .bool true := end_of hend 28 43 (by decide) rfl rfl rfl
    have f44 : a.eval (.tmp 44) = .bool true := end_of hend 29 44 (by decide) rfl rfl rfl
    have f45 : a.eval (.tmp 45) = .bool true := end_of hend 30 45 (by decide) rfl rfl rfl
    have f46 : a.eval (.tmp 46) = .agg #[.int .i64 (N : Int), .slice A1 l.length c1] := end_of hend 31 46 (by decide) rfl rfl rfl
    have f47 : a.eval (.tmp 47) = .int .i64 0 := end_of hend 32 47 (by decide) rfl rfl rfl
    have f48 : a.eval (.tmp 48) = .bool true := end_of hend 33 48 (by decide) rfl rfl rfl
    have f49 : a.eval (.tmp 49) = .bool true := end_of hend 34 49 (by decide) rfl rfl rfl
    have f50 : a.eval (.tmp 50) = .bool true := end_of hend 35 50 (by decide) rfl rfl rfl
    have f51 : a.eval (.tmp 51) = .bool true := end_of hend 36 51 (by decide) rfl rfl rfl
    have f52 : a.eval (.tmp 52) = .bool true := end_of hend 37 52 (by decide) rfl rfl rfl
    have f4 : a.eval (.tmp 4) = .pointer (some ⟨w2.heap.size, 0, none⟩) := hag 4 (freeB_spec (by kernel_rfl))
    have f5 : a.eval (.tmp 5) = .slice A5 sa.length c5 := hag 5 (freeB_spec (by kernel_rfl))
    have f6 : a.eval (.tmp 6) = .slice A6 sb.length c6 := hag 6 (freeB_spec (by kernel_rfl))
    obtain ⟨T, D⟩ := a
    obtain rfl : D = [] := hdf
    obtain ⟨us, rfl⟩ : ∃ us : List Value, T = us.toArray := ⟨T.toList, by simp⟩
    replace hsz : us.length = 53 := by simpa using hsz
    obtain _ | ⟨x0, us⟩ := us
    · simp at hsz
    obtain _ | ⟨x1, us⟩ := us
    · simp at hsz
    obtain _ | ⟨x2, us⟩ := us
    · simp at hsz
    obtain _ | ⟨x3, us⟩ := us
    · simp at hsz
    obtain _ | ⟨x4, us⟩ := us
    · simp at hsz
    obtain _ | ⟨x5, us⟩ := us
    · simp at hsz
    obtain _ | ⟨x6, us⟩ := us
    · simp at hsz
    obtain _ | ⟨x7, us⟩ := us
    · simp at hsz
    obtain _ | ⟨x8, us⟩ := us
    · simp at hsz
    obtain _ | ⟨x9, us⟩ := us
    · simp at hsz
    obtain _ | ⟨x10, us⟩ := us
    · simp at hsz
    obtain _ | ⟨x11, us⟩ := us
    · simp at hsz
    obtain _ | ⟨x12, us⟩ := us
    · simp at hsz
    obtain _ | ⟨x13, us⟩ := us
    · simp at hsz
    obtain _ | ⟨x14, us⟩ := us
    · simp at hsz
    obtain _ | ⟨x15, us⟩ := us
    · simp at hsz
    obtain _ | ⟨x16, us⟩ := us
    · simp at hsz
    obtain _ | ⟨x17, us⟩ := us
    · simp at hsz
    obtain _ | ⟨x18, us⟩ := us
    · simp at hsz
    obtain _ | ⟨x19, us⟩ := us
    · simp at hsz
    obtain _ | ⟨x20, us⟩ := us
    · simp at hsz
    obtain _ | ⟨x21, us⟩ := us
    · simp at hsz
    obtain _ | ⟨x22, us⟩ := us
    · simp at hsz
    obtain _ | ⟨x23, us⟩ := us
    · simp at hsz
    obtain _ | ⟨x24, us⟩ := us
    · simp at hsz
    obtain _ | ⟨x25, us⟩ := us
    · simp at hsz
    obtain _ | ⟨x26, us⟩ := us
    · simp at hsz
    obtain _ | ⟨x27, us⟩ := us
    · simp at hsz
    obtain _ | ⟨x28, us⟩ := us
    · simp at hsz
    obtain _ | ⟨x29, us⟩ := us
    · simp at hsz
    obtain _ | ⟨x30, us⟩ := us
    · simp at hsz
    obtain _ | ⟨x31, us⟩ := us
    · simp at hsz
    obtain _ | ⟨x32, us⟩ := us
    · simp at hsz
    obtain _ | ⟨x33, us⟩ := us
    · simp at hsz
    obtain _ | ⟨x34, us⟩ := us
    · simp at hsz
    obtain _ | ⟨x35, us⟩ := us
    · simp at hsz
    obtain _ | ⟨x36, us⟩ := us
    · simp at hsz
    obtain _ | ⟨x37, us⟩ := us
    · simp at hsz
    obtain _ | ⟨x38, us⟩ := us
    · simp at hsz
    obtain _ | ⟨x39, us⟩ := us
    · simp at hsz
    obtain _ | ⟨x40, us⟩ := us
    · simp at hsz
    obtain _ | ⟨x41, us⟩ := us
    · simp at hsz
    obtain _ | ⟨x42, us⟩ := us
    · simp at hsz
    obtain _ | ⟨x43, us⟩ := us
    · simp at hsz
    obtain _ | ⟨x44, us⟩ := us
    · simp at hsz
    obtain _ | ⟨x45, us⟩ := us
    · simp at hsz
    obtain _ | ⟨x46, us⟩ := us
    · simp at hsz
    obtain _ | ⟨x47, us⟩ := us
    · simp at hsz
    obtain _ | ⟨x48, us⟩ := us
    · simp at hsz
    obtain _ | ⟨x49, us⟩ := us
    · simp at hsz
    obtain _ | ⟨x50, us⟩ := us
    · simp at hsz
    obtain _ | ⟨x51, us⟩ := us
    · simp at hsz
    obtain _ | ⟨x52, us⟩ := us
    · simp at hsz
    obtain rfl : us = [] := by cases us with | nil => rfl | cons _ _ => simp at hsz
    clear hag hend hsz
    obtain rfl : x4 = .pointer (some ⟨w2.heap.size, 0, none⟩) := f4
    obtain rfl : x5 = .slice A5 sa.length c5 := f5
    obtain rfl : x6 = .slice A6 sb.length c6 := f6
    obtain rfl : x15 = .agg #[.int .i64 (N : Int), .slice A1 l.length c1] := f15
    obtain rfl : x16 = .slice A5 sa.length c5 := f16
    obtain rfl : x17 = .int .i64 ((i1 : Nat) : Int) := f17
    obtain rfl : x18 = .agg #[.int .i64 (N : Int), .slice A1 l.length c1] := f18
    obtain rfl : x19 = .slice A6 sb.length c6 := f19
    obtain rfl : x20 = .int .i64 ((i2 : Nat) : Int) := f20
    obtain rfl : x21 = .int .i64 ((i1 : Int) + (i2 : Int)) := f21
    obtain rfl : x22 = .agg #[.int .i64 (N : Int), .slice A1 l.length c1] := f22
    obtain rfl : x23 = .slice A5 sa.length c5 := f23
    obtain rfl : x24 = .slice A6 sb.length c6 := f24
    replace f25 : (FD U) x25 ws := f25
    obtain rfl : x26 = .int .i64 ((i3 : Nat) : Int) := f26
    obtain rfl : x27 = .agg #[.int .i64 (N : Int), .slice A1 l.length c1] := f27
    obtain rfl : x28 = .slice A5 sa.length c5 := f28
    obtain rfl : x29 = .slice A6 sb.length c6 := f29
    replace f30 : (FD M) x30 ws := f30
    obtain rfl : x31 = .int .i64 ((i4 : Nat) : Int) := f31
    obtain rfl : x32 = .int .i64 ((i3 : Int) + (i4 : Int)) := f32
    obtain rfl : x33 = .bool true := f33
    obtain rfl : x34 = .bool true := f34
    obtain rfl : x35 = .agg #[.int .i64 (N : Int), .slice A1 l.length c1] := f35
    obtain rfl : x36 = .pointer (some ⟨w2.heap.size, 0, none⟩) := f36
    obtain rfl : x37 = .int .i64 (N : Int) := f37
    replace f38 : (FD R) x38 ws := f38
    obtain rfl : x39 = .int .i64 (l.length : Int) := f39
    obtain rfl : x40 = .pointer (some ⟨w2.heap.size, 1, none⟩) := f40
    obtain rfl : x41 = .slice A1 l.length c1 := f41
    obtain rfl : x42 = .int .i64 (l.length : Int) := f42
    obtain rfl : x43 = .bool true := f43
    obtain rfl : x44 = .bool true := f44
    obtain rfl : x45 = .bool true := f45
    obtain rfl : x46 = .agg #[.int .i64 (N : Int), .slice A1 l.length c1] := f46
    obtain rfl : x47 = .int .i64 0 := f47
    obtain rfl : x48 = .bool true := f48
    obtain rfl : x49 = .bool true := f49
    obtain rfl : x50 = .bool true := f50
    obtain rfl : x51 = .bool true := f51
    obtain rfl : x52 = .bool true := f52
    have HS2 := Lib.hid (HS.out.go hb)
    simp only [List.drop_succ_cons, List.drop_zero]
    go_wp2
    go_ret
    exact ⟨rfl, HS2.out.bel⟩
end Go.Proofs.Ytioohmhllajifaa
