/-
  WindowCounts: the walk of the law.
-/
import Derived.Test.YtfapfkaipdcflaaGreatTa
import Derived.Test.YtfapfkaipdcflaaGreatTy
import Derived.Test.YtfapfkaipdcflaaGreatLm
import Derived.Test.YtfapfkaipdcflaaGreatTcd
import Derived.Test.YtfapfkaipdcflaaGreatMr
namespace Go.Proofs.YtfapfkaipdcflaaGreat
open Go.RowKit Go.Lib

/-- the box of the state that goes on -/
def CB (P : Nat) (N : Int) (S : List Ls.Lk) (w : World) : Prop := ∃ A c, w.heap[P]? = some (.cells #[.int .i64 N, .slice A S.length c] 24 (0, 0)) ∧ RL w.heap.size w A c S
theorem slide_pos (W M : Int) (e : Ev) (es : List Ev) (l : List Ls.Lk) : 0 < (Ls.slideA W M l (e :: es)).length := by
  rw [Ls.slideA_cons]
  simp only [List.length_append, List.length_cons]
  omega
set_option maxHeartbeats 8000000 in
set_option maxRecDepth 100000 in
theorem counts_law (A : Option Addr) (c : Nat) (L : List Int) (xm : Int) (W : World) (h : RD W A c L) (hL : L.length ≤ 17592186044416) :
    Calls Tryz.prog 6 #[.slice A L.length c, .int .i64 xm] W fun e W' => e = .returned (.bool true) ∧ Below W.heap.size W W' := by
  have CN := Lib.hid (new_any A c L W h)
  clear h
  go_enter Tryz.func6, Tryz.ntmps6
  go_wp2_with fail
  refine CN.out.mono ?_
  rintro e w1 ⟨rfl, D1, hb1⟩
  have HD1 := Lib.hid D1
  have HB1 := Lib.hid hb1
  clear D1 hb1 CN
  go_wp2_with fail
  refine (next_any W.heap.size W.heap.size A c L 0 5 w1 HD1.out hL (by decide)).mono ?_
  rintro e w2 ⟨r, m2, rfl, hr1, hr2, D2, g2⟩
  have HD2 := Lib.hid D2
  have HB2 : Hid (Below W.heap.size W w2) := HB1.out.grown g2 HB1.out.size (fun k hk => by injection hk with hk; omega)
  obtain ⟨N, hN⟩ : ∃ N : Nat, 2 + r = N := ⟨(2 + r).toNat, by omega⟩
  have hNB : 2 ≤ N ∧ N ≤ 6 := by omega
  have f1 : IntKind.i64.wrap (2 + r) = N := by rw [← hN]; exact IntWalk.i64_in _ (by omega)
  clear D2 g2 hr1 hr2 HD1 HB1
  obtain ⟨k, HK⟩ : ∃ k, Hid ((xm.tmod 6 + 6) % 6 = k) := ⟨_, rfl⟩
  have HKB : Hid (0 ≤ k ∧ k ≤ 5) := by show _ ∧ _; have := HK.out; omega
  go_wp2_with fail
  refine (mod_any xm 6 w2 (by decide) (by decide)).mono ?_
  rintro e w2' ⟨he, rfl⟩
  rw [HK.out] at he
  subst he
  go_wp2_with fail
  refine (evlist_any W.heap.size W.heap.size A c L m2 N 12 w2 HD2.out hL (by omega) (by decide)).mono ?_
  rintro e w3 ⟨l, Al, cl', m3, rfl, hll, hlv, hlp, ho, hd, hg⟩
  have HB3 : Hid (Below W.heap.size W w3) := HB2.out.grown hg HB2.out.size (fun k hk => by injection hk with hk; omega)
  have HOK := Lib.hid (okEv_of hlv hlp)
  have HRL := Lib.hid (RX.of_own ho)
  have HLL := Lib.hid hll
  clear hlv hlp ho hd hg HD2 HB2 hN f1
  obtain ⟨w4, HW4⟩ : ∃ w4, Hid (w4 = w3.alloc (.cells #[.int .i64 3, .int .i64 0, .int .i64 k] 26)) := ⟨_, rfl⟩
  have hb4 : Below w3.heap.size w3 w4 := by rw [HW4.out]; exact below_new _ _
  have HWX : Hid (w4.heap[w3.heap.size]? = some (.cells #[.int .i64 3, .int .i64 0, .int .i64 k] 26 (0, 0))) := by show _ = _; rw [HW4.out]; exact heap_alloc_new _ _
  obtain ⟨G, HG⟩ : ∃ G, Hid (w3.heap.size = G) := ⟨_, rfl⟩
  have HL4 := Lib.hid (HRL.out.up hb4)
  have HB4 := Lib.hid (HB3.out.trans (hb4.mono HB3.out.size))
  clear hb4 HRL HB3 hll
  have HX : extW 3 0 = 1048577 := rfl
  have HM : extM 3 k = k := rfl
  have HCW : Hid (chkW 3 0 k = 0) := by
    have h := HKB.out
    have h1 : kindB 3 = true := rfl
    have h2 : kindR 3 0 k = true := by simp [kindR]; omega
    show _ = _
    simp [chkW, h1, h2]
  have C1 := Lib.hid (slide_ok N (by omega) 3 0 k rfl HCW.out Al cl' l w4 HL4.out (by have := HLL.out; omega) HOK.out)
  rw [HX, HM] at C1
  obtain ⟨O0, HO0⟩ : ∃ O, Hid (Ls.slideA 1048577 k [] l = O) := ⟨_, rfl⟩
  rw [HO0.out] at C1
  rw [HW4.out] at C1
  go_wp2_with fail
  refine C1.out.mono ?_
  rw [← HW4.out]
  rintro e w7 ⟨A7, c7, rfl, ho7, hb7⟩
  have HR7 := Lib.hid (RX.of_own ho7)
  have HL7 := Lib.hid (HL4.out.up hb7)
  have HB7 := Lib.hid (HB4.out.trans (hb7.mono HB4.out.size))
  have HG7 := Lib.hid ((hb7.block _ (lt_of_some HWX.out)).trans HWX.out)
  rw [HG.out] at HG7
  clear ho7 hb7 C1 HWX HL4 HB4 HX HM
  have VE : Hid (Ls.V (N : Int) []) := ⟨by omega, by omega, List.Pairwise.nil, fun _ h => (by cases h)⟩
  obtain ⟨n, HN⟩ : ∃ n, Hid (l.length = n) := ⟨_, rfl⟩
  have hn12 : n ≤ 12 := by rw [← HN.out]; exact HLL.out
  obtain ⟨P, HP⟩ : ∃ P, Hid (w7.heap.size = P) := ⟨_, rfl⟩
  go_wp2_with fail
  obtain ⟨nW, HNW⟩ : ∃ n, Hid (O0.length = n) := ⟨_, rfl⟩
  simp only [HP.out, HN.out, HG.out, HNW.out]
  go_loopw [49] (fun i wr => ∃ (j : Nat), j ≤ n ∧ i = .int .i64 j ∧ Hid (Below w7.heap.size w7 wr) ∧ Hid (CB P N (Ls.stC k [] (l.take j)) wr)) (fun i _ => n - (RowKit.intOf i).toNat)
  case atStart => exact ⟨0, Nat.zero_le _, rfl, below_new _ _, none, 0, by rw [← HP.out]; exact heap_alloc_new _ _, RX.nil_ _ _ _ _⟩
  case round =>
    obtain ⟨j, hj, rfl, HB, HC⟩ := hrel
    obtain ⟨S, HS⟩ : ∃ S, Hid (Ls.stC k [] (l.take j) = S) := ⟨_, rfl⟩
    rw [HS.out] at HC
    obtain ⟨Ac, cc, hcb, hcr⟩ := HC.out
    have HCB := Lib.hid hcb
    have HCR := Lib.hid hcr
    clear hcb hcr HC
    have HSL : Hid ((S.length : Int) ≤ k) := by show _ ≤ _; rw [← HS.out]; exact Ls.stC_len k N HKB.out.1 l ⟨by omega, by omega⟩ (fun e he => (HOK.out.1 e he).1) j
    by_cases hlt : j < n
    · obtain ⟨b, off, ⟨kk, t, u, v, x, y, z⟩, rfl, hb, he, q0, q1, q2, q3, q4, q5, q6⟩ := K.RV_at (k := j) (HL7.out.go HB.out) (by rw [HN.out]; exact hlt)
      dsimp only at q0 q1 q2 q3 q4 q5 q6
      have HQ : Hid (wr.cell? ⟨b, off + j * 7, none⟩ = some (.int .i64 kk) ∧ wr.cell? ⟨b, off + j * 7 + 1, none⟩ = some (.int .i64 t) ∧ wr.cell? ⟨b, off + j * 7 + 2, none⟩ = some (.int .i64 u) ∧ wr.cell? ⟨b, off + j * 7 + 3, none⟩ = some (.int .i64 v) ∧ wr.cell? ⟨b, off + j * 7 + 4, none⟩ = some (.int .i64 x) ∧ wr.cell? ⟨b, off + j * 7 + 5, none⟩ = some (.int .i64 y) ∧ wr.cell? ⟨b, off + j * 7 + 6, none⟩ = some (.int .i64 z)) := ⟨q0, q1, q2, q3, q4, q5, q6⟩
      have HE := Lib.hid he
      have HBL := Lib.hid (Nat.lt_of_lt_of_le hb HB.out.size)
      clear q0 q1 q2 q3 q4 q5 q6 he hb
      -- the mathematics of a round
      have hgo := (HOK.out.1 _ (List.mem_of_getElem? HE.out)).1
      have HGD := Lib.hid hgo
      have htk : (l.take (j + 1)).length = j + 1 := by rw [List.length_take, HN.out]; omega
      have hok : Ls.OkEv N 0 (l.take (j + 1)) := ⟨fun e he => HOK.out.1 e (List.mem_of_mem_take he), List.Pairwise.sublist (List.take_sublist _ _) HOK.out.2⟩
      obtain ⟨m1, m2', m3', m4⟩ := Ls.slide_count k N HKB.out.1 (l.take (j + 1)) [] [] Ls.rl_nil VE.out (fun e he => (hok.1 e he).1)
      obtain ⟨mm1, mm2, mm3, -⟩ := Ls.slide_count k N HKB.out.1 (l.take j) [] [] Ls.rl_nil VE.out (fun e he => (HOK.out.1 e (List.mem_of_mem_take he)).1)
      have hsucc := Ls.stC_succ k l j _ HE.out
      rw [HS.out] at hsucc mm3
      obtain ⟨S2, HS2⟩ : ∃ S, Hid (Ls.stC k [] (l.take (j + 1)) = S) := ⟨_, rfl⟩
      obtain ⟨O, HO⟩ : ∃ O, Hid (Ls.slideA 1048577 k [] (l.take (j + 1)) = O) := ⟨_, rfl⟩
      rw [HS2.out] at m1 m3' hsucc
      rw [HO.out] at m1 m4
      have HRUN := Lib.hid m1
      have HGO := Lib.hid m4
      have HV2 := Lib.hid m3'
      have HV := Lib.hid mm3
      have HSU := Lib.hid hsucc
      have HSL2 : Hid ((S2.length : Int) ≤ k) := by show _ ≤ _; rw [← HS2.out]; exact Ls.stC_len k N HKB.out.1 l ⟨by omega, by omega⟩ (fun e he => (HOK.out.1 e he).1) (j + 1)
      have hpre := Ls.slide_prefix k l (j + 1)
      rw [HO.out, HO0.out] at hpre
      have HPR := Lib.hid hpre
      have HOL : Hid (O.length ≤ 100) := by
        show _ ≤ _
        have h1 := Ls.slide_len 1048577 k (l.take (j + 1)) []
        rw [HO.out, List.length_nil, htk] at h1
        omega
      have HOP : Hid (0 < O.length) := by
        show _ < _
        rw [← HO.out]
        cases hq : l.take (j + 1) with
        | nil => rw [hq] at htk; simp at htk
        | cons a r => exact slide_pos _ _ _ _ _
      have HTM := Lib.hid (Ls.count_time k N l HOK.out j _ HE.out)
      have HTB := Lib.hid (Ls.good_kind hgo).2
      have C13 : Hid (∀ ws : World, Below wr.heap.size wr ws → Calls Tryz.prog 25 #[.int .i64 N, .slice (some ⟨b, off, none⟩) (j + 1) cl', .agg #[.int .i64 3, .int .i64 0, .int .i64 k]] ws (SlideP 0 O ws)) := by
        intro ws hws
        have h := slide_ok N (by omega) 3 0 k rfl HCW.out (some ⟨b, off, none⟩) cl' (l.take (j + 1)) ws (((HL7.out.up (HB.out.trans (hws.mono HB.out.size)))).front encE (by rw [HN.out]; omega)) (by rw [htk]; omega) hok
        rw [htk, show extW 3 0 = 1048577 from rfl, show extM 3 k = k from rfl, HO.out] at h
        exact h
      have HGR := Lib.hid ((HB.out.block G (lt_of_some HG7.out)).trans HG7.out)
      clear hgo htk hok m1 m2' m3' m4 mm1 mm2 mm3 hsucc hpre
      have hw1 : IntKind.i64.wrap ((j : Int) + 1) = ((j + 1 : Nat) : Int) := by have h1 : ((j + 1 : Nat) : Int) = (j : Int) + 1 := (by omega); rw [h1]; exact IntWalk.i64_in _ (by omega)
      have HLC : Hid (n ≤ cl') := by show _ ≤ _; rw [← HN.out]; exact HL7.out.1
      go_wp2_with fail
      refine wp_region_inv 11 138 [(fun q0 _ => q0 = .int .i64 (N : Int)), (fun q0 _ => q0 = (.slice (some ⟨b, off, none⟩) n cl')), (fun q0 _ => q0 = .int .i64 (j : Int)), (fun q0 _ => q0 = .int .i64 ((j + 1 : Nat) : Int)), (fun q0 _ => q0 = (.slice (some ⟨b, off, none⟩) (j + 1) cl')), (fun q0 _ => q0 = .agg #[.int .i64 3, .int .i64 0, .int .i64 k]), (fun q0 w5 => ∃ A1 c1, q0 = .tuple #[.slice A1 O.length c1, .int .i64 0] ∧ RV w5.heap.size w5 A1 c1 O), (fun q0 w5 => ∃ A1 c1, q0 = .tuple #[.slice A1 O.length c1, .int .i64 0] ∧ RV w5.heap.size w5 A1 c1 O), (fun q0 w5 => ∃ A1 c1, q0 = .slice A1 O.length c1 ∧ RV w5.heap.size w5 A1 c1 O), (fun q0 _ => q0 = .int .i64 0), (fun q0 w5 => ∃ A1 c1, q0 = .slice A1 O.length c1 ∧ RV w5.heap.size w5 A1 c1 O)] (by kernel_rfl) (by kernel_rfl) rfl ?_ ?_ ?_
      · intro R hR
        simp only [List.mem_cons, List.not_mem_nil, or_false] at hR
        rcases hR with rfl | rfl | rfl | rfl | rfl | rfl | rfl | rfl | rfl | rfl | rfl
        · exact mono_eq _
        · exact mono_eq _
        · exact mono_eq _
        · exact mono_eq _
        · exact mono_eq _
        · exact mono_eq _
        · exact (fun _ _ _ h hb => by obtain ⟨A1, c1, h1, h2⟩ := h; exact ⟨A1, c1, h1, h2.up hb⟩)
        · exact (fun _ _ _ h hb => by obtain ⟨A1, c1, h1, h2⟩ := h; exact ⟨A1, c1, h1, h2.up hb⟩)
        · exact (fun _ _ _ h hb => by obtain ⟨A1, c1, h1, h2⟩ := h; exact ⟨A1, c1, h1, h2.up hb⟩)
        · exact mono_eq _
        · exact (fun _ _ _ h hb => by obtain ⟨A1, c1, h1, h2⟩ := h; exact ⟨A1, c1, h1, h2.up hb⟩)
      · simp only [List.take_succ_cons, List.take_zero]
        refine ⟨?_, ?_, ?_, ?_, ?_, ?_, ?_, ?_, ?_, ?_, ?_, trivial⟩
        · intro a w5 hb hag hdep K Q hK
          have d6 : (a.tmps[6]?).getD undef = .int .i64 (N : Int) := eval_get (hag 6 (freeB_spec (by kernel_rfl)))
          rw [if_pos (show Region.wanted _ _ = true from rfl)]
          unfold Oper.wp
          simp [go_sem, *]
          exact hK _ _ (Below.refl _ _) rfl
        · intro a w5 hb hag hdep K Q hK
          have d8 : (a.tmps[8]?).getD undef = (.slice (some ⟨b, off, none⟩) n cl') := eval_get (hag 8 (freeB_spec (by kernel_rfl)))
          rw [if_pos (show Region.wanted _ _ = true from rfl)]
          unfold Oper.wp
          simp [go_sem, *]
          exact hK _ _ (Below.refl _ _) rfl
        · intro a w5 hb hag hdep K Q hK
          have d13 : (a.tmps[13]?).getD undef = .int .i64 (j : Int) := eval_get (hag 13 (freeB_spec (by kernel_rfl)))
          rw [if_pos (show Region.wanted _ _ = true from rfl)]
          unfold Oper.wp
          simp [go_sem, *]
          exact hK _ _ (Below.refl _ _) rfl
        · intro a w5 hb hag hdep K Q hK
          have d55 : (a.tmps[55]?).getD undef = .int .i64 (j : Int) := eval_get (dep_of hdep 2 55 rfl (by kernel_rfl) rfl rfl)
          rw [if_pos (show Region.wanted _ _ = true from rfl)]
          unfold Oper.wp
          simp [go_sem, d55, hw1]
          exact hK _ _ (Below.refl _ _) rfl
        · intro a w5 hb hag hdep K Q hK
          have d54 : (a.tmps[54]?).getD undef = (.slice (some ⟨b, off, none⟩) n cl') := eval_get (dep_of hdep 1 54 rfl (by kernel_rfl) rfl rfl)
          have d56 : (a.tmps[56]?).getD undef = .int .i64 ((j + 1 : Nat) : Int) := eval_get (dep_of hdep 3 56 rfl (by kernel_rfl) rfl rfl)
          rw [if_pos (show Region.wanted _ _ = true from rfl)]
          have hlc := HLC.out
          have z1 : (0 : Int) ≤ (j : Int) + 1 ∧ (j : Int) + 1 ≤ (cl' : Int) := by omega
          unfold Oper.wp
          simp [go_sem, d54, d56, z1]
          exact hK _ _ (Below.refl _ _) rfl
        · intro a w5 hb hag hdep K Q hK
          have d9 : (a.tmps[9]?).getD undef = .pointer (some ⟨G, 0, none⟩) := eval_get (hag 9 (freeB_spec (by kernel_rfl)))
          rw [if_pos (show Region.wanted _ _ = true from rfl)]
          have yy := Go.Joins.cell_of_block ((hb.block G (lt_of_some HGR.out)).trans HGR.out)
          have y0 := yy 0; have y1 := yy 1; have y2 := yy 2
          simp only [List.getElem?_toArray, List.getElem?_cons_succ, List.getElem?_cons_zero] at y0 y1 y2
          clear yy
          unfold Oper.wp
          simp [go_sem, d9, y0, y1, y2]
          exact hK _ _ (Below.refl _ _) rfl
        · intro a w5 hb hag hdep K Q hK
          have d53 : (a.tmps[53]?).getD undef = .int .i64 (N : Int) := eval_get (dep_of hdep 0 53 rfl (by kernel_rfl) rfl rfl)
          have d57 : (a.tmps[57]?).getD undef = (.slice (some ⟨b, off, none⟩) (j + 1) cl') := eval_get (dep_of hdep 4 57 rfl (by kernel_rfl) rfl rfl)
          have d58 : (a.tmps[58]?).getD undef = .agg #[.int .i64 3, .int .i64 0, .int .i64 k] := eval_get (dep_of hdep 5 58 rfl (by kernel_rfl) rfl rfl)
          rw [if_pos (show Region.wanted _ _ = true from rfl)]
          have hcon := C13.out w5 hb
          unfold Oper.wp
          simp [go_sem, d53, d57, d58]
          refine hcon.mono ?_
          rintro e w10 ⟨A1, c1, rfl, ho10, hb10⟩
          exact hK _ _ hb10 ⟨A1, c1, rfl, RX.of_own ho10⟩
        · intro a w5 hb hag hdep K Q hK
          have d59 : (fun q0 w5 => ∃ A1 c1, q0 = .tuple #[.slice A1 O.length c1, .int .i64 0] ∧ RV w5.heap.size w5 A1 c1 O) (a.eval (.tmp 59)) w5 := dep_of hdep 6 59 rfl (by kernel_rfl) rfl rfl
          rw [if_pos (show Region.wanted _ _ = true from rfl)]
          obtain ⟨A1, c1, e9, hr⟩ := d59
          have e9 := eval_get e9
          unfold Oper.wp
          simp [go_sem, e9]
          exact hK _ _ (Below.refl _ _) ⟨A1, c1, rfl, hr⟩
        · intro a w5 hb hag hdep K Q hK
          have d52 : (fun q0 w5 => ∃ A1 c1, q0 = .tuple #[.slice A1 O.length c1, .int .i64 0] ∧ RV w5.heap.size w5 A1 c1 O) (a.eval (.tmp 52)) w5 := dep_of hdep 7 52 rfl (by kernel_rfl) rfl rfl
          rw [if_pos (show Region.wanted _ _ = true from rfl)]
          obtain ⟨A1, c1, e9, hr⟩ := d52
          have e9 := eval_get e9
          unfold Oper.wp
          simp [go_sem, e9]
          exact hK _ _ (Below.refl _ _) ⟨A1, c1, rfl, hr⟩
        · intro a w5 hb hag hdep K Q hK
          have d52 : (fun q0 w5 => ∃ A1 c1, q0 = .tuple #[.slice A1 O.length c1, .int .i64 0] ∧ RV w5.heap.size w5 A1 c1 O) (a.eval (.tmp 52)) w5 := dep_of hdep 7 52 rfl (by kernel_rfl) rfl rfl
          rw [if_pos (show Region.wanted _ _ = true from rfl)]
          obtain ⟨A1, c1, e9, hr⟩ := d52
          have e9 := eval_get e9
          unfold Oper.wp
          simp [go_sem, e9]
          exact hK _ _ (Below.refl _ _) rfl
        · intro a w5 hb hag hdep K Q hK
          have d60 : (fun q0 w5 => ∃ A1 c1, q0 = .slice A1 O.length c1 ∧ RV w5.heap.size w5 A1 c1 O) (a.eval (.tmp 60)) w5 := dep_of hdep 8 60 rfl (by kernel_rfl) rfl rfl
          rw [if_pos (show Region.wanted _ _ = true from rfl)]
          obtain ⟨A1, c1, e9, hr⟩ := d60
          have e9 := eval_get e9
          unfold Oper.wp
          simp [go_sem, e9]
          exact hK _ _ (Below.refl _ _) ⟨A1, c1, rfl, hr⟩
      · intro a w5 hb hsz hdf hag hend
        have f53 : a.eval (.tmp 53) = .int .i64 (N : Int) := end_of hend 0 53 (by decide) rfl rfl rfl
        have f54 : a.eval (.tmp 54) = (.slice (some ⟨b, off, none⟩) n cl') := end_of hend 1 54 (by decide) rfl rfl rfl
        have f55 : a.eval (.tmp 55) = .int .i64 (j : Int) := end_of hend 2 55 (by decide) rfl rfl rfl
        have f56 : a.eval (.tmp 56) = .int .i64 ((j + 1 : Nat) : Int) := end_of hend 3 56 (by decide) rfl rfl rfl
        have f57 : a.eval (.tmp 57) = (.slice (some ⟨b, off, none⟩) (j + 1) cl') := end_of hend 4 57 (by decide) rfl rfl rfl
        have f58 : a.eval (.tmp 58) = .agg #[.int .i64 3, .int .i64 0, .int .i64 k] := end_of hend 5 58 (by decide) rfl rfl rfl
        have f59 : (fun q0 w5 => ∃ A1 c1, q0 = .tuple #[.slice A1 O.length c1, .int .i64 0] ∧ RV w5.heap.size w5 A1 c1 O) (a.eval (.tmp 59)) w5 := end_of hend 6 59 (by decide) rfl rfl rfl
        have f52 : (fun q0 w5 => ∃ A1 c1, q0 = .tuple #[.slice A1 O.length c1, .int .i64 0] ∧ RV w5.heap.size w5 A1 c1 O) (a.eval (.tmp 52)) w5 := end_of hend 7 52 (by decide) rfl rfl rfl
        have f60 : (fun q0 w5 => ∃ A1 c1, q0 = .slice A1 O.length c1 ∧ RV w5.heap.size w5 A1 c1 O) (a.eval (.tmp 60)) w5 := end_of hend 8 60 (by decide) rfl rfl rfl
        have f61 : a.eval (.tmp 61) = .int .i64 0 := end_of hend 9 61 (by decide) rfl rfl rfl
        have f14 : (fun q0 w5 => ∃ A1 c1, q0 = .slice A1 O.length c1 ∧ RV w5.heap.size w5 A1 c1 O) (a.eval (.tmp 14)) w5 := end_of hend 10 14 (by decide) rfl rfl rfl
        have ea := act_blocks [14] 52 10 hsz hdf hag [53, 54, 55, 56, 57, 58, 59, 52, 60, 61, 14] [52, 53, 54, 55, 56, 57, 58, 59, 60, 61] (by kernel_rfl) (by kernel_rfl) (by kernel_rfl) (by kernel_rfl) (of_decide_eq_true (by kernel_rfl))
        clear hag hend hsz hdf
        simp only [List.map_cons, List.map_nil, List.foldl_cons, List.foldl_nil, f53, f54, f55, f56, f57, f58, f61] at ea
        clear f53 f54 f55 f56 f57 f58 f61
        generalize a.eval (.tmp 59) = x59 at ea f59
        generalize a.eval (.tmp 52) = x52 at ea f52
        generalize a.eval (.tmp 60) = x60 at ea f60
        generalize a.eval (.tmp 14) = x14 at ea f14
        simp only [List.take_succ_cons, List.take_zero, List.drop_succ_cons, List.drop_zero, List.cons_append, List.nil_append, List.set_cons_succ, List.set_cons_zero] at ea
        subst ea
        obtain ⟨A9, c9, rfl, hr9⟩ := f14
        have HB5 := Lib.hid hb
        have HR9 := Lib.hid hr9
        clear hb hr9 f59 f52 f60 C13 hw1
        obtain ⟨b7, o7, -, rfl, -⟩ := RX.let_ encE (by decide) HR7.out (k := 0) (by have := HPR.out.2; have := HOP.out; omega)
        simp only [List.drop_succ_cons, List.drop_zero]
        have CA := Lib.hid (K.rall_any N none A9 0 c9 [] O w5 (RX.nil_ _ _ _ _) HR9.out (by have := HOL.out; simp; omega))
        have HAR : Hid (K.Ls.allR N [] O = (S2, ((Ls.numL [] O : Nat) : Int), 0)) := by
          show _ = _
          unfold K.Ls.allR
          rw [if_neg (by rw [(Ls.chkS_zero N []).2 VE.out]; decide), Ls.allS_ok N O HGO.out 0 [], HRUN.out]
        go_wp2_with fail
        refine CA.out.mono ?_
        rintro e w6 ⟨n6, S6, A6, c6, rfl, hS, hn6, hr6, hb6⟩
        rw [HAR.out] at hS hn6 ⊢
        dsimp only at hS hn6 ⊢
        rw [if_pos rfl] at hn6
        subst hn6
        subst hS
        obtain ⟨cn1, HC1⟩ : ∃ x : Int, Hid (((Ls.numL [] O : Nat) : Int) = x) := ⟨_, rfl⟩
        simp only [HC1.out]
        have hb10 : Below w6.heap.size w6 (w6.alloc (.cells #[.int .i64 N, .slice A6 S6.length c6] 24)) := below_new _ _
        obtain ⟨w10, HW10⟩ : ∃ w10, Hid (w10 = w6.alloc (.cells #[.int .i64 N, .slice A6 S6.length c6] 24)) := ⟨_, rfl⟩
        rw [← HW10.out] at hb10
        obtain ⟨P1, HP1⟩ : ∃ P, Hid (w6.heap.size = P) := ⟨_, rfl⟩
        have HXA : Hid (w10.heap[P1]? = some (.cells #[.int .i64 N, .slice A6 S6.length c6] 24 (0, 0))) := by show _ = _; rw [HW10.out, ← HP1.out]; exact heap_alloc_new _ _
        have hb5a := hb6.trans (hb10.mono hb6.size)
        have HRA := Lib.hid (hr6.up hb10)
        have HOA := Lib.hid (HR9.out.up hb5a)
        have HBA := Lib.hid (HB5.out.trans (hb5a.mono HB5.out.size))
        clear hr6 hb6 hb10 hb5a CA HR9 HAR HB5
        have HWA := Lib.hid (((HR7.out.up (HB.out.trans (HBA.out.mono HB.out.size)))).front encE (k := O.length) HPR.out.2)
        obtain ⟨nO, HNO⟩ : ∃ n, Hid (O.length = n) := ⟨_, rfl⟩
        have hnO : nO ≤ nW := by rw [← HNO.out, ← HNW.out]; exact HPR.out.2
        have hnc : nO ≤ c7 := by have := HR7.out.1; rw [HNW.out] at this; omega
        have CSM := same_any A9 (some ⟨b7, o7, none⟩) c9 c7 O w10 HOA.out (by have := HWA.out; rw [HPR.out.1] at this; exact this) (by have := HOL.out; omega)
        rw [HNO.out] at CSM
        have HSM := Lib.hid CSM
        obtain ⟨nS, HNS⟩ : ∃ n, Hid (S6.length = n) := ⟨_, rfl⟩
        have dgk : ¬ (k < (nS : Int)) := by have := HSL2.out; rw [HNS.out] at this; omega
        have dgo : ¬ ((nW : Int) < (nO : Int)) := by omega
        clear CSM
        rw [HNS.out] at HXA HW10
        simp only [HNO.out, HNS.out]
        rw [HW10.out] at HSM
        go_wp2_with fail
        simp only [HP1.out]
        refine HSM.out.mono ?_
        rw [← HW10.out]
        rintro e wS ⟨rfl, hbS⟩
        have HBS := Lib.hid (HBA.out.trans (hbS.mono HBA.out.size))
        have HXS := Lib.hid ((hbS.block _ (lt_of_some HXA.out)).trans HXA.out)
        have HRS := Lib.hid (HRA.out.up hbS)
        have HCS := Lib.hid ((HBS.out.block P (lt_of_some HCB.out)).trans HCB.out)
        have HCRS := Lib.hid (HCR.out.up HBS.out)
        have HGS := Lib.hid ((HBS.out.block G (lt_of_some HGR.out)).trans HGR.out)
        have HBLS := Lib.hid (Nat.lt_of_lt_of_le HBL.out HBS.out.size)
        have HQS : Hid (wS.cell? ⟨b, off + j * 7, none⟩ = some (.int .i64 kk) ∧ wS.cell? ⟨b, off + j * 7 + 1, none⟩ = some (.int .i64 t) ∧ wS.cell? ⟨b, off + j * 7 + 2, none⟩ = some (.int .i64 u) ∧ wS.cell? ⟨b, off + j * 7 + 3, none⟩ = some (.int .i64 v) ∧ wS.cell? ⟨b, off + j * 7 + 4, none⟩ = some (.int .i64 x) ∧ wS.cell? ⟨b, off + j * 7 + 5, none⟩ = some (.int .i64 y) ∧ wS.cell? ⟨b, off + j * 7 + 6, none⟩ = some (.int .i64 z)) := by
          obtain ⟨q0, q1, q2, q3, q4, q5, q6⟩ := HQ.out
          exact ⟨(HBS.out.cell (p := ⟨b, _, none⟩) HBL.out).trans q0, (HBS.out.cell (p := ⟨b, _, none⟩) HBL.out).trans q1, (HBS.out.cell (p := ⟨b, _, none⟩) HBL.out).trans q2, (HBS.out.cell (p := ⟨b, _, none⟩) HBL.out).trans q3, (HBS.out.cell (p := ⟨b, _, none⟩) HBL.out).trans q4, (HBS.out.cell (p := ⟨b, _, none⟩) HBL.out).trans q5, (HBS.out.cell (p := ⟨b, _, none⟩) HBL.out).trans q6⟩
        have hy := Go.Joins.cell_of_block HXS.out
        have y1 := hy 1
        simp only [List.getElem?_toArray, List.getElem?_cons_succ, List.getElem?_cons_zero] at y1
        clear hy hbS HSM HXA HRA HBA HCB HCR HGR HBL HQ HW10 HWA HOA
        go_wp2_with fail
        obtain ⟨F, HF⟩ : ∃ F, Hid (Ls.nextL S ⟨kk, t, u, v, x, y, z⟩ = F) := ⟨_, rfl⟩
        have HFL : Hid (F.length ≤ 100) := by
          show _ ≤ _
          rw [← HF.out]
          have h1 := Ls.len_next S ⟨kk, t, u, v, x, y, z⟩ HV.out.2.2.1
          have h2 := HSL.out
          have h3 := HKB.out
          omega
        have HAP : Hid (∀ ws : World, Below wS.heap.size wS ws → Calls Tryz.prog 28 #[.agg #[.int .i64 N, .slice Ac S.length cc], .agg #[.int .i64 kk, .int .i64 t, .int .i64 u, .int .i64 v, .int .i64 x, .int .i64 y, .int .i64 z]] ws fun en w' => ∃ A1 c1 v1, en = .returned (.tuple #[.agg #[.int .i64 N, .slice A1 F.length c1], v1, .int .i64 0]) ∧ RL w'.heap.size w' A1 c1 F ∧ Below ws.heap.size ws w') := by
          intro ws hws
          refine (K.rapply_any N Ac cc S kk t u v x y z ws (HCRS.out.up hws) (by have h2 := HSL.out; have h3 := HKB.out; omega)).mono ?_
          rintro e w9 ⟨n9, l9, ev9, A9, A1, c9, c1, rfl, hif, hrl, hrv, hb9⟩
          have h0 : K.Ls.apE N S ⟨kk, t, u, v, x, y, z⟩ = 0 := (K.Ls.apE_zero _ _ _).2 ⟨HV.out, HGD.out⟩
          rw [if_pos h0] at hif
          obtain ⟨rfl, rfl, rfl⟩ := hif
          rw [h0]
          rw [HF.out] at hrl ⊢
          exact ⟨_, _, _, rfl, hrl, hb9⟩
        have HPS : Hid (∀ (A1 : Option Addr) (c1 : Nat) (ws : World), RL ws.heap.size ws A1 c1 F → Calls Tryz.prog 13 #[.agg #[.int .i64 N, .slice A1 F.length c1], .agg #[.int .i64 3, .int .i64 0, .int .i64 k], .int .i64 t] ws (PrsP 0 N S6 ws)) := by
          intro A1 c1 ws hr
          have h := present_any N A1 c1 F 3 0 k rfl t ws hr (by have := HFL.out; omega)
          have h1 : Ls.chkS N F = 0 := by rw [← HF.out]; exact (Ls.chkS_zero _ _).2 (Ls.next_valid HV.out HGD.out)
          have h2 : Ls.chkT t F = 0 := by have := HTM.out; rw [HS.out, HF.out] at this; exact this
          have h3 : wrongS 3 0 k N t F = 0 := by unfold wrongS; rw [HCW.out, h1, h2]; rfl
          have h4 : Ls.keepS (extW 3 0) (extM 3 k) t F = S6 := by rw [HSU.out, ← HF.out]; rfl
          rw [h3, h4] at h
          exact h
        refine wp_region_ac 13 138 (Below wS.heap.size) (JB wS.heap.size N F (fun t => ∃ v1, t = [v1, .int .i64 0]) 138 105 99 106 19 5 6 7 10 11) [(fun q0 _ => q0 = .agg #[.int .i64 (N : Int), .slice Ac S.length cc]), (fun q0 _ => q0 = (.slice (some ⟨b, off, none⟩) n cl')), (fun q0 _ => q0 = .int .i64 (j : Int)), (fun q0 _ => q0 = .pointer (some ⟨b, off + j * 7, none⟩)), (fun q0 _ => q0 = .agg #[.int .i64 kk, .int .i64 t, .int .i64 u, .int .i64 v, .int .i64 x, .int .i64 y, .int .i64 z]), (fun _ _ => True), (fun _ _ => True), (fun _ _ => True), (fun _ _ => True), (fun _ _ => True), (fun _ _ => True), (fun _ _ => True), (fun _ _ => True)] (by kernel_rfl) (by kernel_rfl) rfl (fun _ _ _ => Below.trans) (below_drewN _ _) (JB.start rfl) ?_ ?_ ?_
        · intro R hR
          simp only [List.mem_cons, List.not_mem_nil, or_false] at hR
          rcases hR with rfl | rfl | rfl | rfl | rfl | rfl | rfl | rfl | rfl | rfl | rfl | rfl | rfl <;> (first | exact (fun _ _ _ h _ => h) | exact (fun _ _ _ _ _ => trivial))
        · simp only [List.take_succ_cons, List.take_zero]
          refine ⟨?_, ?_, ?_, ?_, ?_, ?_, ?_, ?_, ?_, ?_, ?_, ?_, ?_, trivial⟩
          · intro a w12 f hle hjj hfi hun hdn hag hdep K Q hK
            have d12 : (a.tmps[12]?).getD undef = .pointer (some ⟨P, 0, none⟩) := eval_get (hag 12 (freeB_spec (by kernel_rfl)))
            rw [if_pos (show Region.wanted _ _ = true from rfl)]
            have yy := Go.Joins.cell_of_block ((hle.block P (lt_of_some HCS.out)).trans HCS.out)
            have y0 := yy 0; have y1 := yy 1
            simp only [List.getElem?_toArray, List.getElem?_cons_succ, List.getElem?_cons_zero] at y0 y1
            clear yy
            unfold Oper.wp
            simp [go_sem, d12, y0, y1]
            exact hK _ _ (Below.refl _ _) (hjj.keep (Below.refl _ _) (by decide) (by decide)) rfl
          · intro a w12 f hle hjj hfi hun hdn hag hdep K Q hK
            have d8 : (a.tmps[8]?).getD undef = (.slice (some ⟨b, off, none⟩) n cl') := eval_get (hag 8 (freeB_spec (by kernel_rfl)))
            rw [if_pos (show Region.wanted _ _ = true from rfl)]
            unfold Oper.wp
            simp [go_sem, d8]
            exact hK _ _ (Below.refl _ _) (hjj.keep (Below.refl _ _) (by decide) (by decide)) rfl
          · intro a w12 f hle hjj hfi hun hdn hag hdep K Q hK
            have d13 : (a.tmps[13]?).getD undef = .int .i64 (j : Int) := eval_get (hag 13 (freeB_spec (by kernel_rfl)))
            rw [if_pos (show Region.wanted _ _ = true from rfl)]
            unfold Oper.wp
            simp [go_sem, d13]
            exact hK _ _ (Below.refl _ _) (hjj.keep (Below.refl _ _) (by decide) (by decide)) rfl
          · intro a w12 f hle hjj hfi hun hdn hag hdep K Q hK
            have d101 : (a.tmps[101]?).getD undef = (.slice (some ⟨b, off, none⟩) n cl') := eval_get (dep_of hdep 1 101 rfl (by kernel_rfl) rfl rfl)
            have d102 : (a.tmps[102]?).getD undef = .int .i64 (j : Int) := eval_get (dep_of hdep 2 102 rfl (by kernel_rfl) rfl rfl)
            rw [if_pos (show Region.wanted _ _ = true from rfl)]
            unfold Oper.wp
            simp [go_sem, d101, d102, hlt]
            exact hK _ _ (Below.refl _ _) (hjj.keep (Below.refl _ _) (by decide) (by decide)) rfl
          · intro a w12 f hle hjj hfi hun hdn hag hdep K Q hK
            have d103 : (a.tmps[103]?).getD undef = .pointer (some ⟨b, off + j * 7, none⟩) := eval_get (dep_of hdep 3 103 rfl (by kernel_rfl) rfl rfl)
            rw [if_pos (show Region.wanted _ _ = true from rfl)]
            obtain ⟨y0, y1, y2, y3, y4, y5, y6⟩ := HQS.out
            rw [← hle.cell (p := ⟨b, _, none⟩) HBLS.out] at y0
            rw [← hle.cell (p := ⟨b, _, none⟩) HBLS.out] at y1
            rw [← hle.cell (p := ⟨b, _, none⟩) HBLS.out] at y2
            rw [← hle.cell (p := ⟨b, _, none⟩) HBLS.out] at y3
            rw [← hle.cell (p := ⟨b, _, none⟩) HBLS.out] at y4
            rw [← hle.cell (p := ⟨b, _, none⟩) HBLS.out] at y5
            rw [← hle.cell (p := ⟨b, _, none⟩) HBLS.out] at y6
            unfold Oper.wp
            simp [go_sem, d103, y0, y1, y2, y3, y4, y5, y6]
            exact hK _ _ (Below.refl _ _) (hjj.keep (Below.refl _ _) (by decide) (by decide)) rfl
          · intro a w12 f hle hjj hfi hun hdn hag hdep K Q hK
            have d100 : (a.tmps[100]?).getD undef = .agg #[.int .i64 (N : Int), .slice Ac S.length cc] := eval_get (dep_of hdep 0 100 rfl (by kernel_rfl) rfl rfl)
            have d104 : (a.tmps[104]?).getD undef = .agg #[.int .i64 kk, .int .i64 t, .int .i64 u, .int .i64 v, .int .i64 x, .int .i64 y, .int .i64 z] := eval_get (dep_of hdep 4 104 rfl (by kernel_rfl) rfl rfl)
            rw [if_pos (show Region.wanted _ _ = true from rfl)]
            have hcon := HAP.out w12 hle
            unfold Oper.wp
            simp [go_sem, d100, d104]
            refine hcon.mono ?_
            rintro e w10 ⟨A1, c1, v1, rfl, hr, hb10⟩
            exact hK _ _ (hb10.mono hle.size) (hjj.call hb10 (t := [v1, .int .i64 0]) ⟨v1, rfl⟩ ⟨A1, c1, rfl, hr⟩ (by decide) (by decide) (by decide)) trivial
          · intro a w12 f hle hjj hfi hun hdn hag hdep K Q hK
            have d105 : (fun _ _ => True) (a.eval (.tmp 105)) w12 := dep_of hdep 5 105 rfl (by kernel_rfl) rfl rfl
            rw [if_pos (show Region.wanted _ _ = true from rfl)]
            obtain ⟨X, t, em, hT, hX⟩ := hjj.rc (hdn 5 _ rfl (by kernel_rfl))
            have em := eval_get em
            unfold Oper.wp
            simp [go_sem, em]
            exact hK _ _ (Below.refl _ _) (hjj.move hT hX (by decide) (by decide) (by decide)) trivial
          · intro a w12 f hle hjj hfi hun hdn hag hdep K Q hK
            have d99 : (fun _ _ => True) (a.eval (.tmp 99)) w12 := dep_of hdep 6 99 rfl (by kernel_rfl) rfl rfl
            rw [if_pos (show Region.wanted _ _ = true from rfl)]
            obtain ⟨X, t, em, hT, hX⟩ := hjj.rm (hdn 6 _ rfl (by kernel_rfl))
            have em := eval_get em
            unfold Oper.wp
            simp [go_sem, em]
            exact hK _ _ (Below.refl _ _) (hjj.ext hX (by decide) (by decide) (by decide)) trivial
          · intro a w12 f hle hjj hfi hun hdn hag hdep K Q hK
            have d99 : (fun _ _ => True) (a.eval (.tmp 99)) w12 := dep_of hdep 6 99 rfl (by kernel_rfl) rfl rfl
            rw [if_pos (show Region.wanted _ _ = true from rfl)]
            obtain ⟨X, t, em, hT, hX⟩ := hjj.rm (hdn 6 _ rfl (by kernel_rfl))
            have em := eval_get em
            obtain ⟨v1, rfl⟩ := hT
            unfold Oper.wp
            simp [go_sem, em]
            exact hK _ _ (Below.refl _ _) (hjj.keep (Below.refl _ _) (by decide) (by decide)) trivial
          · intro a w12 f hle hjj hfi hun hdn hag hdep K Q hK
            have d99 : (fun _ _ => True) (a.eval (.tmp 99)) w12 := dep_of hdep 6 99 rfl (by kernel_rfl) rfl rfl
            rw [if_pos (show Region.wanted _ _ = true from rfl)]
            obtain ⟨X, t, em, hT, hX⟩ := hjj.rm (hdn 6 _ rfl (by kernel_rfl))
            have em := eval_get em
            obtain ⟨v1, rfl⟩ := hT
            unfold Oper.wp
            simp [go_sem, em]
            exact hK _ _ (Below.refl _ _) (hjj.keep (Below.refl _ _) (by decide) (by decide)) trivial
          · intro a w12 f hle hjj hfi hun hdn hag hdep K Q hK
            rw [if_pos (show Region.wanted _ _ = true from rfl)]
            unfold Oper.wp
            simp [go_sem]
            exact hK _ _ ((below_new _ _).mono hle.size) (hjj.box hle.size (hun 11 _ rfl (by kernel_rfl)) (by decide) (by decide) (by decide)) trivial
          · intro a w12 f hle hjj hfi hun hdn hag hdep K Q hK
            have d19 : (fun _ _ => True) (a.eval (.tmp 19)) w12 := dep_of hdep 10 19 rfl (by kernel_rfl) rfl rfl
            have d106 : (fun _ _ => True) (a.eval (.tmp 106)) w12 := dep_of hdep 7 106 rfl (by kernel_rfl) rfl rfl
            rw [if_pos (show Region.wanted _ _ = true from rfl)]
            obtain ⟨B, eB, hB1, hB2⟩ := hjj.rb (hdn 10 _ rfl (by kernel_rfl)) hfi
            obtain ⟨X, eX, A1, c1, rfl, hr⟩ := hjj.rx (hdn 7 _ rfl (by kernel_rfl))
            have eB' := eval_get eB
            have eX' := eval_get eX
            have hq := Go.Joins.cell_of_block hB2
            have q0 := hq 0; have q1 := hq 1
            simp only [List.getElem?_toArray, List.getElem?_cons_succ, List.getElem?_cons_zero] at q0 q1
            have u0 := Go.Joins.unfrozen_of_block hB2 0; have u1 := Go.Joins.unfrozen_of_block hB2 1
            clear hq
            obtain ⟨hj2, hl2⟩ := hjj.put eB hB1 hB2 hr undef (by decide)
            unfold Oper.wp
            simp [go_sem, eB', eX', q0, q1, u0, u1]
            exact hK _ _ hl2 hj2 trivial
          · intro a w12 f hle hjj hfi hun hdn hag hdep K Q hK
            have d107 : (fun _ _ => True) (a.eval (.tmp 107)) w12 := dep_of hdep 8 107 rfl (by kernel_rfl) rfl rfl
            rw [if_pos (show Region.wanted _ _ = true from rfl)]
            unfold Oper.wp
            simp [go_sem]
            exact hK _ _ (Below.refl _ _) (hjj.keep (Below.refl _ _) (by decide) (by decide)) trivial
        · intro a w12 f hle hjj hft hff hsz hdf hag hend
          have f100 : a.eval (.tmp 100) = .agg #[.int .i64 (N : Int), .slice Ac S.length cc] := end_of hend 0 100 (by decide) rfl rfl rfl
          have f101 : a.eval (.tmp 101) = (.slice (some ⟨b, off, none⟩) n cl') := end_of hend 1 101 (by decide) rfl rfl rfl
          have f102 : a.eval (.tmp 102) = .int .i64 (j : Int) := end_of hend 2 102 (by decide) rfl rfl rfl
          have f103 : a.eval (.tmp 103) = .pointer (some ⟨b, off + j * 7, none⟩) := end_of hend 3 103 (by decide) rfl rfl rfl
          have f104 : a.eval (.tmp 104) = .agg #[.int .i64 kk, .int .i64 t, .int .i64 u, .int .i64 v, .int .i64 x, .int .i64 y, .int .i64 z] := end_of hend 4 104 (by decide) rfl rfl rfl
          have f105 : (fun _ _ => True) (a.eval (.tmp 105)) w12 := end_of hend 5 105 (by decide) rfl rfl rfl
          have f99 : (fun _ _ => True) (a.eval (.tmp 99)) w12 := end_of hend 6 99 (by decide) rfl rfl rfl
          have f106 : (fun _ _ => True) (a.eval (.tmp 106)) w12 := end_of hend 7 106 (by decide) rfl rfl rfl
          have f107 : (fun _ _ => True) (a.eval (.tmp 107)) w12 := end_of hend 8 107 (by decide) rfl rfl rfl
          have f108 : (fun _ _ => True) (a.eval (.tmp 108)) w12 := end_of hend 9 108 (by decide) rfl rfl rfl
          have f19 : (fun _ _ => True) (a.eval (.tmp 19)) w12 := end_of hend 10 19 (by decide) rfl rfl rfl
          have f20 : (fun _ _ => True) (a.eval (.tmp 20)) w12 := end_of hend 12 20 (by decide) rfl rfl rfl
          have hbs := hjj.rs (hft 11 (by decide))
          have ea := act_blocks [19, 20] 99 10 hsz hdf hag [100, 101, 102, 103, 104, 105, 99, 106, 107, 108, 19, 20] [99, 100, 101, 102, 103, 104, 105, 106, 107, 108] (by kernel_rfl) (by kernel_rfl) (by kernel_rfl) (by kernel_rfl) (of_decide_eq_true (by kernel_rfl))
          clear hag hend hsz hdf
          simp only [List.map_cons, List.map_nil, List.foldl_cons, List.foldl_nil, f100, f101, f102, f103, f104] at ea
          clear f100 f101 f102 f103 f104
          generalize a.eval (.tmp 105) = x105 at ea f105
          generalize a.eval (.tmp 99) = x99 at ea f99
          generalize a.eval (.tmp 106) = x106 at ea f106
          generalize a.eval (.tmp 107) = x107 at ea f107
          generalize a.eval (.tmp 108) = x108 at ea f108
          generalize a.eval (.tmp 19) = x19 at ea f19 hbs
          generalize a.eval (.tmp 20) = x20 at ea f20
          simp only [List.take_succ_cons, List.take_zero, List.drop_succ_cons, List.drop_zero, List.cons_append, List.nil_append, List.set_cons_succ, List.set_cons_zero] at ea
          subst ea
          obtain ⟨B1, A11, c11, rfl, hB1, hB2, hr⟩ := hbs
          have HF1 := Lib.hid hB2
          have HFR := Lib.hid hr
          have H12 := Lib.hid (HBS.out.trans (hle.mono HBS.out.size))
          have HX2 := Lib.hid ((hle.block _ (lt_of_some HXS.out)).trans HXS.out)
          have HR2 := Lib.hid (HRS.out.up hle)
          have HC2 := Lib.hid ((hle.block _ (lt_of_some HCS.out)).trans HCS.out)
          have HG2 := Lib.hid ((hle.block _ (lt_of_some HGS.out)).trans HGS.out)
          have HT2 : Hid (w12.cell? ⟨b, off + j * 7 + 1, none⟩ = some (.int .i64 t)) := (hle.cell (p := ⟨b, _, none⟩) HBLS.out).trans HQS.out.2.1
          have HBL2 := Lib.hid (Nat.lt_of_lt_of_le HBLS.out hle.size)
          clear hB1 hB2 hr hle hjj hft hff HAP HXS HRS HCS HCRS HGS HBLS HQS HBS
          simp only [List.drop_succ_cons, List.drop_zero]
          go_wp2_with fail
          refine wp_region_ac 13 138 (Below w12.heap.size) (JB w12.heap.size N S6 (fun t => t = [.int .i64 0]) 138 117 109 118 22 7 8 9 11 12) [(fun q0 _ => q0 = .agg #[.int .i64 (N : Int), .slice A11 F.length c11]), (fun q0 _ => q0 = .agg #[.int .i64 3, .int .i64 0, .int .i64 k]), (fun q0 _ => q0 = (.slice (some ⟨b, off, none⟩) n cl')), (fun q0 _ => q0 = .int .i64 (j : Int)), (fun q0 _ => q0 = .pointer (some ⟨b, off + j * 7, none⟩)), (fun q0 _ => q0 = .pointer (some ⟨b, off + j * 7 + 1, none⟩)), (fun q0 _ => q0 = .int .i64 t), (fun _ _ => True), (fun _ _ => True), (fun _ _ => True), (fun q0 _ => q0 = .int .i64 0), (fun _ _ => True), (fun _ _ => True)] (by kernel_rfl) (by kernel_rfl) rfl (fun _ _ _ => Below.trans) (below_drewN _ _) (JB.start rfl) ?_ ?_ ?_
          · intro R hR
            simp only [List.mem_cons, List.not_mem_nil, or_false] at hR
            rcases hR with rfl | rfl | rfl | rfl | rfl | rfl | rfl | rfl | rfl | rfl | rfl | rfl | rfl <;> (first | exact (fun _ _ _ h _ => h) | exact (fun _ _ _ _ _ => trivial))
          · simp only [List.take_succ_cons, List.take_zero]
            refine ⟨?_, ?_, ?_, ?_, ?_, ?_, ?_, ?_, ?_, ?_, ?_, ?_, ?_, trivial⟩
            · intro a w14 f hle hjj hfi hun hdn hag hdep K Q hK
              have d19 : (a.tmps[19]?).getD undef = .pointer (some ⟨B1, 0, none⟩) := eval_get (hag 19 (freeB_spec (by kernel_rfl)))
              rw [if_pos (show Region.wanted _ _ = true from rfl)]
              have yy := Go.Joins.cell_of_block ((hle.block B1 (lt_of_some HF1.out)).trans HF1.out)
              have y0 := yy 0; have y1 := yy 1
              simp only [List.getElem?_toArray, List.getElem?_cons_succ, List.getElem?_cons_zero] at y0 y1
              clear yy
              unfold Oper.wp
              simp [go_sem, d19, y0, y1]
              exact hK _ _ (Below.refl _ _) (hjj.keep (Below.refl _ _) (by decide) (by decide)) rfl
            · intro a w14 f hle hjj hfi hun hdn hag hdep K Q hK
              have d9 : (a.tmps[9]?).getD undef = .pointer (some ⟨G, 0, none⟩) := eval_get (hag 9 (freeB_spec (by kernel_rfl)))
              rw [if_pos (show Region.wanted _ _ = true from rfl)]
              have yy := Go.Joins.cell_of_block ((hle.block G (lt_of_some HG2.out)).trans HG2.out)
              have y0 := yy 0; have y1 := yy 1; have y2 := yy 2
              simp only [List.getElem?_toArray, List.getElem?_cons_succ, List.getElem?_cons_zero] at y0 y1 y2
              clear yy
              unfold Oper.wp
              simp [go_sem, d9, y0, y1, y2]
              exact hK _ _ (Below.refl _ _) (hjj.keep (Below.refl _ _) (by decide) (by decide)) rfl
            · intro a w14 f hle hjj hfi hun hdn hag hdep K Q hK
              have d8 : (a.tmps[8]?).getD undef = (.slice (some ⟨b, off, none⟩) n cl') := eval_get (hag 8 (freeB_spec (by kernel_rfl)))
              rw [if_pos (show Region.wanted _ _ = true from rfl)]
              unfold Oper.wp
              simp [go_sem, d8]
              exact hK _ _ (Below.refl _ _) (hjj.keep (Below.refl _ _) (by decide) (by decide)) rfl
            · intro a w14 f hle hjj hfi hun hdn hag hdep K Q hK
              have d13 : (a.tmps[13]?).getD undef = .int .i64 (j : Int) := eval_get (hag 13 (freeB_spec (by kernel_rfl)))
              rw [if_pos (show Region.wanted _ _ = true from rfl)]
              unfold Oper.wp
              simp [go_sem, d13]
              exact hK _ _ (Below.refl _ _) (hjj.keep (Below.refl _ _) (by decide) (by decide)) rfl
            · intro a w14 f hle hjj hfi hun hdn hag hdep K Q hK
              have d112 : (a.tmps[112]?).getD undef = (.slice (some ⟨b, off, none⟩) n cl') := eval_get (dep_of hdep 2 112 rfl (by kernel_rfl) rfl rfl)
              have d113 : (a.tmps[113]?).getD undef = .int .i64 (j : Int) := eval_get (dep_of hdep 3 113 rfl (by kernel_rfl) rfl rfl)
              rw [if_pos (show Region.wanted _ _ = true from rfl)]
              unfold Oper.wp
              simp [go_sem, d112, d113, hlt]
              exact hK _ _ (Below.refl _ _) (hjj.keep (Below.refl _ _) (by decide) (by decide)) rfl
            · intro a w14 f hle hjj hfi hun hdn hag hdep K Q hK
              have d114 : (a.tmps[114]?).getD undef = .pointer (some ⟨b, off + j * 7, none⟩) := eval_get (dep_of hdep 4 114 rfl (by kernel_rfl) rfl rfl)
              rw [if_pos (show Region.wanted _ _ = true from rfl)]
              unfold Oper.wp
              simp [go_sem, d114]
              exact hK _ _ (Below.refl _ _) (hjj.keep (Below.refl _ _) (by decide) (by decide)) rfl
            · intro a w14 f hle hjj hfi hun hdn hag hdep K Q hK
              have d115 : (a.tmps[115]?).getD undef = .pointer (some ⟨b, off + j * 7 + 1, none⟩) := eval_get (dep_of hdep 5 115 rfl (by kernel_rfl) rfl rfl)
              rw [if_pos (show Region.wanted _ _ = true from rfl)]
              have y1 := (hle.cell (p := ⟨b, _, none⟩) HBL2.out).trans HT2.out
              unfold Oper.wp
              simp [go_sem, d115, y1]
              exact hK _ _ (Below.refl _ _) (hjj.keep (Below.refl _ _) (by decide) (by decide)) rfl
            · intro a w14 f hle hjj hfi hun hdn hag hdep K Q hK
              have d110 : (a.tmps[110]?).getD undef = .agg #[.int .i64 (N : Int), .slice A11 F.length c11] := eval_get (dep_of hdep 0 110 rfl (by kernel_rfl) rfl rfl)
              have d111 : (a.tmps[111]?).getD undef = .agg #[.int .i64 3, .int .i64 0, .int .i64 k] := eval_get (dep_of hdep 1 111 rfl (by kernel_rfl) rfl rfl)
              have d116 : (a.tmps[116]?).getD undef = .int .i64 t := eval_get (dep_of hdep 6 116 rfl (by kernel_rfl) rfl rfl)
              rw [if_pos (show Region.wanted _ _ = true from rfl)]
              have hcon := HPS.out A11 c11 w14 (HFR.out.up hle)
              unfold Oper.wp
              simp [go_sem, d110, d111, d116]
              refine hcon.mono ?_
              rintro e w10 ⟨A1, c1, rfl, hr, hb10⟩
              exact hK _ _ (hb10.mono hle.size) (hjj.call hb10 (t := [.int .i64 0]) rfl ⟨A1, c1, rfl, hr⟩ (by decide) (by decide) (by decide)) trivial
            · intro a w14 f hle hjj hfi hun hdn hag hdep K Q hK
              have d117 : (fun _ _ => True) (a.eval (.tmp 117)) w14 := dep_of hdep 7 117 rfl (by kernel_rfl) rfl rfl
              rw [if_pos (show Region.wanted _ _ = true from rfl)]
              obtain ⟨X, t, em, hT, hX⟩ := hjj.rc (hdn 7 _ rfl (by kernel_rfl))
              have em := eval_get em
              unfold Oper.wp
              simp [go_sem, em]
              exact hK _ _ (Below.refl _ _) (hjj.move hT hX (by decide) (by decide) (by decide)) trivial
            · intro a w14 f hle hjj hfi hun hdn hag hdep K Q hK
              have d109 : (fun _ _ => True) (a.eval (.tmp 109)) w14 := dep_of hdep 8 109 rfl (by kernel_rfl) rfl rfl
              rw [if_pos (show Region.wanted _ _ = true from rfl)]
              obtain ⟨X, t, em, hT, hX⟩ := hjj.rm (hdn 8 _ rfl (by kernel_rfl))
              have em := eval_get em
              unfold Oper.wp
              simp [go_sem, em]
              exact hK _ _ (Below.refl _ _) (hjj.ext hX (by decide) (by decide) (by decide)) trivial
            · intro a w14 f hle hjj hfi hun hdn hag hdep K Q hK
              have d109 : (fun _ _ => True) (a.eval (.tmp 109)) w14 := dep_of hdep 8 109 rfl (by kernel_rfl) rfl rfl
              rw [if_pos (show Region.wanted _ _ = true from rfl)]
              obtain ⟨X, t, em, hT, hX⟩ := hjj.rm (hdn 8 _ rfl (by kernel_rfl))
              have em := eval_get em
              obtain rfl := hT
              unfold Oper.wp
              simp [go_sem, em]
              exact hK _ _ (Below.refl _ _) (hjj.keep (Below.refl _ _) (by decide) (by decide)) rfl
            · intro a w14 f hle hjj hfi hun hdn hag hdep K Q hK
              rw [if_pos (show Region.wanted _ _ = true from rfl)]
              unfold Oper.wp
              simp [go_sem]
              exact hK _ _ ((below_new _ _).mono hle.size) (hjj.box hle.size (hun 12 _ rfl (by kernel_rfl)) (by decide) (by decide) (by decide)) trivial
            · intro a w14 f hle hjj hfi hun hdn hag hdep K Q hK
              have d22 : (fun _ _ => True) (a.eval (.tmp 22)) w14 := dep_of hdep 11 22 rfl (by kernel_rfl) rfl rfl
              have d118 : (fun _ _ => True) (a.eval (.tmp 118)) w14 := dep_of hdep 9 118 rfl (by kernel_rfl) rfl rfl
              rw [if_pos (show Region.wanted _ _ = true from rfl)]
              obtain ⟨B, eB, hB1, hB2⟩ := hjj.rb (hdn 11 _ rfl (by kernel_rfl)) hfi
              obtain ⟨X, eX, A1, c1, rfl, hr⟩ := hjj.rx (hdn 9 _ rfl (by kernel_rfl))
              have eB' := eval_get eB
              have eX' := eval_get eX
              have hq := Go.Joins.cell_of_block hB2
              have q0 := hq 0; have q1 := hq 1
              simp only [List.getElem?_toArray, List.getElem?_cons_succ, List.getElem?_cons_zero] at q0 q1
              have u0 := Go.Joins.unfrozen_of_block hB2 0; have u1 := Go.Joins.unfrozen_of_block hB2 1
              clear hq
              obtain ⟨hj2, hl2⟩ := hjj.put eB hB1 hB2 hr undef (by decide)
              unfold Oper.wp
              simp [go_sem, eB', eX', q0, q1, u0, u1]
              exact hK _ _ hl2 hj2 trivial
          · intro a w14 f hle hjj hft hff hsz hdf hag hend
            have f110 : a.eval (.tmp 110) = .agg #[.int .i64 (N : Int), .slice A11 F.length c11] := end_of hend 0 110 (by decide) rfl rfl rfl
            have f111 : a.eval (.tmp 111) = .agg #[.int .i64 3, .int .i64 0, .int .i64 k] := end_of hend 1 111 (by decide) rfl rfl rfl
            have f112 : a.eval (.tmp 112) = (.slice (some ⟨b, off, none⟩) n cl') := end_of hend 2 112 (by decide) rfl rfl rfl
            have f113 : a.eval (.tmp 113) = .int .i64 (j : Int) := end_of hend 3 113 (by decide) rfl rfl rfl
            have f114 : a.eval (.tmp 114) = .pointer (some ⟨b, off + j * 7, none⟩) := end_of hend 4 114 (by decide) rfl rfl rfl
            have f115 : a.eval (.tmp 115) = .pointer (some ⟨b, off + j * 7 + 1, none⟩) := end_of hend 5 115 (by decide) rfl rfl rfl
            have f116 : a.eval (.tmp 116) = .int .i64 t := end_of hend 6 116 (by decide) rfl rfl rfl
            have f117 : (fun _ _ => True) (a.eval (.tmp 117)) w14 := end_of hend 7 117 (by decide) rfl rfl rfl
            have f109 : (fun _ _ => True) (a.eval (.tmp 109)) w14 := end_of hend 8 109 (by decide) rfl rfl rfl
            have f118 : (fun _ _ => True) (a.eval (.tmp 118)) w14 := end_of hend 9 118 (by decide) rfl rfl rfl
            have f119 : a.eval (.tmp 119) = .int .i64 0 := end_of hend 10 119 (by decide) rfl rfl rfl
            have f22 : (fun _ _ => True) (a.eval (.tmp 22)) w14 := end_of hend 11 22 (by decide) rfl rfl rfl
            have hbs := hjj.rs (hft 12 (by decide))
            have ea := act_blocks [22] 109 11 hsz hdf hag [110, 111, 112, 113, 114, 115, 116, 117, 109, 118, 119, 22] [109, 110, 111, 112, 113, 114, 115, 116, 117, 118, 119] (by kernel_rfl) (by kernel_rfl) (by kernel_rfl) (by kernel_rfl) (of_decide_eq_true (by kernel_rfl))
            clear hag hend hsz hdf
            simp only [List.map_cons, List.map_nil, List.foldl_cons, List.foldl_nil, f110, f111, f112, f113, f114, f115, f116, f119] at ea
            clear f110 f111 f112 f113 f114 f115 f116 f119
            generalize a.eval (.tmp 117) = x117 at ea f117
            generalize a.eval (.tmp 109) = x109 at ea f109
            generalize a.eval (.tmp 118) = x118 at ea f118
            generalize a.eval (.tmp 22) = x22 at ea f22 hbs
            simp only [List.take_succ_cons, List.take_zero, List.drop_succ_cons, List.drop_zero, List.cons_append, List.nil_append, List.set_cons_succ, List.set_cons_zero] at ea
            subst ea
            obtain ⟨B2, A14, c14, rfl, hB1, hB2, hr⟩ := hbs
            have HP1 := Lib.hid hB2
            have HPR2 := Lib.hid hr
            have H14 := Lib.hid (H12.out.trans (hle.mono H12.out.size))
            have HX4 := Lib.hid ((hle.block _ (lt_of_some HX2.out)).trans HX2.out)
            have HR4 := Lib.hid (HR2.out.up hle)
            have HC4 := Lib.hid ((hle.block _ (lt_of_some HC2.out)).trans HC2.out)
            clear hB1 hB2 hr hle hjj hft hff HPS HX2 HR2 HC2 HG2 HT2 HBL2 HF1 HFR H12
            simp only [List.drop_succ_cons, List.drop_zero]
            have y := Go.Joins.cell_of_block HX4.out; have x := Go.Joins.cell_of_block HP1.out
            have y0 := y 0; have y1 := y 1; have x0 := x 0; have x1 := x 1
            simp only [List.getElem?_toArray, List.getElem?_cons_succ, List.getElem?_cons_zero] at y0 y1 x0 x1
            clear y x
            have CS := sameS_any N N A6 A14 c6 c14 S6 S6 w14 HR4.out HPR2.out (by have h1 := HSL2.out; have h2 := HKB.out; omega)
            rw [show sameS (N : Int) (N : Int) S6 S6 = true by simp [sameS], HNS.out] at CS
            rw [HNS.out] at x1
            have HCSS := Lib.hid CS
            clear CS
            go_wp2_with fail
            refine HCSS.out.mono ?_
            rintro e w15 ⟨rfl, hb15⟩
            have H15 := Lib.hid (H14.out.trans (hb15.mono H14.out.size))
            have HX5 := Lib.hid ((hb15.block _ (lt_of_some HX4.out)).trans HX4.out)
            have HR5 := Lib.hid (HR4.out.up hb15)
            have HC5 := Lib.hid ((hb15.block _ (lt_of_some HC4.out)).trans HC4.out)
            clear hb15 HX4 HR4 HC4 H14 y0 y1 x0 x1 HCSS
            have y := Go.Joins.cell_of_block HX5.out; have x := Go.Joins.cell_of_block HC5.out
            have y0 := y 0; have y1 := y 1; have x0 := x 0; have x1 := x 1
            simp only [List.getElem?_toArray, List.getElem?_cons_succ, List.getElem?_cons_zero] at y0 y1 x0 x1
            have u0 := Go.Joins.unfrozen_of_block HC5.out 0; have u1 := Go.Joins.unfrozen_of_block HC5.out 1
            clear y x
            have hw1 : IntKind.i64.wrap ((j : Int) + 1) = (j : Int) + 1 := IntWalk.i64_in _ (by omega)
            go_wp2
            go_roundw
            case rel =>
              have hPP : w7.heap.size ≤ P := by rw [HP.out]; exact Nat.le_refl _
              have hgr : w15.grownBy ((w15.setCell ⟨P, 0, none⟩ (.int .i64 (N : Int))).setCell ⟨P, 1, none⟩ (.slice A6 nS c6)) (some P) := grown_trans (only_set1 _ _ _ rfl) (only_set1 _ _ _ rfl)
              have hk := HR5.out.keepG encL (n := 6) (by decide) HC5.out hgr
              refine ⟨j + 1, hlt, by go_num, ((HB.out.trans (H15.out.mono HB.out.size)).setCell (p := ⟨P, 0, none⟩) hPP _).setCell (p := ⟨P, 1, none⟩) hPP _, A6, c6, ?_, ?_⟩
              · rw [HS2.out, HNS.out]
                exact setCell_cells (setCell_cells HC5.out 0 (.int .i64 (N : Int))) 1 (.slice A6 nS c6)
              · rw [HS2.out]
                exact hk.2
            case measure => simp [RowKit.intOf]; omega

    · have HXO := Lib.hid HCB.out
      have x := Go.Joins.cell_of_block HXO.out
      have x1 := x 1
      simp only [List.getElem?_toArray, List.getElem?_cons_succ, List.getElem?_cons_zero] at x1
      have hlP := lt_of_some HXO.out
      obtain ⟨nS, HNS⟩ : ∃ n, Hid (S.length = n) := ⟨_, rfl⟩
      have dk : (nS : Int) ≤ k := by have := HSL.out; rw [HNS.out] at this; exact this
      rw [HNS.out] at x1
      clear x
      go_wp2_with fail
      refine (awake_any wr).mono ?_
      rintro e wc ⟨rfl, hbc⟩
      have HBC := Lib.hid (HB.out.trans (hbc.mono HB.out.size))
      clear hbc
      go_wp2
      go_ret
      exact ⟨rfl, HB7.out.trans (HBC.out.mono HB7.out.size)⟩
end Go.Proofs.YtfapfkaipdcflaaGreat
