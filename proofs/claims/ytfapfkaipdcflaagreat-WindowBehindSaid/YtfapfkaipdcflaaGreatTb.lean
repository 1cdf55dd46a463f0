/-
  WindowBehind: the walk of the law.
-/
import Derived.Test.YtfapfkaipdcflaaGreatTa
import Derived.Test.YtfapfkaipdcflaaGreatTy
import Derived.Test.YtfapfkaipdcflaaGreatLm
import Derived.Test.YtfapfkaipdcflaaGreatTcd
import Derived.Test.YtfapfkaipdcflaaGreatMr
namespace Go.Proofs.YtfapfkaipdcflaaGreat
open Go.RowKit Go.Lib

set_option maxHeartbeats 8000000 in
set_option maxRecDepth 100000 in
theorem behind_law (A : Option Addr) (c : Nat) (L : List Int) (xw : Int) (W : World) (h : RD W A c L) (hL : L.length ≤ 17592186044416) :
    Calls Tryz.prog 5 #[.slice A L.length c, .int .i64 xw] W fun e W' => e = .returned (.bool true) ∧ Below W.heap.size W W' := by
  have CN := Lib.hid (new_any A c L W h)
  clear h
  go_enter Tryz.func5, Tryz.ntmps5
  go_wp2_with fail
  refine CN.out.mono ?_
  rintro e w1 ⟨rfl, D1, hb1⟩
  have HD1 := Lib.hid D1
  have HB1 := Lib.hid hb1
  clear D1 hb1 CN
  go_wp2_with fail
  refine (next_any W.heap.size W.heap.size A c L 0 5 w1 HD1.out hL (by decide)).mono ?_
  rintro e w2 ⟨r, m2, rfl, hr1, hr2, D2, g2⟩
  have HD2 := Lib.hid D2
  have HB2 : Hid (Below W.heap.size W w2) := HB1.out.grown g2 HB1.out.size (fun k hk => by injection hk with hk; omega)
  obtain ⟨N, hN⟩ : ∃ N : Nat, 2 + r = N := ⟨(2 + r).toNat, by omega⟩
  have hNB : 2 ≤ N ∧ N ≤ 6 := by omega
  have f1 : IntKind.i64.wrap (2 + r) = N := by rw [← hN]; exact IntWalk.i64_in _ (by omega)
  clear D2 g2 hr1 hr2 HD1 HB1
  go_wp2_with fail
  refine (evlist_any W.heap.size W.heap.size A c L m2 N 14 w2 HD2.out hL (by omega) (by decide)).mono ?_
  rintro e w3 ⟨l, Al, cl', m3, rfl, hll, hlv, hlp, ho, hd, hg⟩
  have HB3 : Hid (Below W.heap.size W w3) := HB2.out.grown hg HB2.out.size (fun k hk => by injection hk with hk; omega)
  have HOK := Lib.hid (okEv_of hlv hlp)
  have HRL := Lib.hid (RX.of_own ho)
  have HLL := Lib.hid hll
  clear hlv hlp ho hd hg HD2 HB2 hN f1
  obtain ⟨q, HQ⟩ : ∃ q, Hid ((xw.tmod 12 + 12) % 12 = q) := ⟨_, rfl⟩
  have hq : 0 ≤ q ∧ q ≤ 11 := by have := HQ.out; omega
  obtain ⟨wd, hwd⟩ : ∃ wd, 1 + q = wd := ⟨_, rfl⟩
  have HWB : Hid (1 ≤ wd ∧ wd ≤ 12) := by show _ ∧ _; omega
  have f2 : IntKind.i64.wrap (1 + q) = wd := by rw [hwd]; exact IntWalk.i64_in _ (by omega)
  clear hq hwd
  obtain ⟨w4, HW4⟩ : ∃ w4, Hid (w4 = w3.alloc (.cells #[.int .i64 2, .int .i64 wd, .int .i64 0] 26)) := ⟨_, rfl⟩
  have hb4 : Below w3.heap.size w3 w4 := by rw [HW4.out]; exact below_new _ _
  have HWX : Hid (w4.heap[w3.heap.size]? = some (.cells #[.int .i64 2, .int .i64 wd, .int .i64 0] 26 (0, 0))) := by show _ = _; rw [HW4.out]; exact heap_alloc_new _ _
  obtain ⟨G, HG⟩ : ∃ G, Hid (w3.heap.size = G) := ⟨_, rfl⟩
  have HL4 := Lib.hid (HRL.out.up hb4)
  have HB4 := Lib.hid (HB3.out.trans (hb4.mono HB3.out.size))
  clear hb4 HRL HB3
  -- the mathematics of it
  have hz : (([] : List Ls.Lk).filter (Ls.inW wd 0)) = [] := rfl
  have MA := Ls.slide_age wd 2016 N HWB.out.1 (by have := HWB.out.2; omega) (by decide) l [] [] 0 Ls.rl_nil ⟨by omega, by omega, List.Pairwise.nil, fun _ h => (by cases h)⟩ HOK.out (by have := HLL.out; show ((0 : Nat) : Int) + _ ≤ 2016; omega) (fun _ h => (by cases h))
  rw [hz] at MA
  have HX : extW 2 wd = wd := rfl
  have HM : extM 2 0 = 2016 := rfl
  have C1 := Lib.hid (slide_ok N (by omega) 2 wd 0 rfl (by have h := HWB.out; have h1 : kindB 2 = true := rfl; have h2 : kindR 2 wd 0 = true := (by simp [kindR]; omega); simp [chkW, h1, h2]) Al cl' l w4 HL4.out (by have := HLL.out; omega) HOK.out)
  rw [HX, HM] at C1
  obtain ⟨O, HO⟩ : ∃ O, Hid (Ls.slideA wd 2016 [] l = O) := ⟨_, rfl⟩
  rw [HO.out] at C1 MA
  have HOL : Hid (O.length ≤ 100) := by
    show _ ≤ _
    have h1 := Ls.slide_len wd 2016 l []
    rw [HO.out, List.length_nil] at h1
    have h2 := HLL.out
    omega
  have HMA := Lib.hid MA
  clear MA hz HX HM
  go_wp2_with fail
  refine (mod_any xw 12 w3 (by decide) (by decide)).mono ?_
  rintro e w3' ⟨he, rfl⟩
  rw [HQ.out] at he
  subst he
  go_wp2_with fail
  rw [HW4.out] at C1
  refine C1.out.mono ?_
  rw [← HW4.out]
  rintro e w5 ⟨A5, c5, rfl, ho5, hb5⟩
  have HR5 := Lib.hid (RX.of_own ho5)
  have HL5 := Lib.hid (HL4.out.up hb5)
  have HB5 := Lib.hid (HB4.out.trans (hb5.mono HB4.out.size))
  have HW5 := Lib.hid ((hb5.block _ (lt_of_some HWX.out)).trans HWX.out)
  rw [HG.out] at HW5
  clear ho5 hb5 C1 HWX HL4 HB4 f2
  have VN := Lib.hid HMA.out.2.2.2.1
  by_cases hl0 : l.length = 0
  · have hl1 : l = [] := List.length_eq_zero_iff.1 hl0
    have hO : O = [] := by rw [← HO.out, hl1]; rfl
    subst hl1
    subst hO
    clear hl0
    go_wp2_with fail
    refine (awake_any w5).mono ?_
    rintro e w6 ⟨rfl, hb6⟩
    have HB6 := Lib.hid (HB5.out.trans (hb6.mono HB5.out.size))
    clear hb6
    go_wp2
    go_ret
    exact ⟨rfl, HB6.out⟩
  have dl : ((l.length : Int) == 0) = false := by rw [beq_eq_false_iff_ne]; omega
  have HL0 := Lib.hid hl0
  clear hl0
  -- all of what was put out, and of the stream itself
  have CA := Lib.hid (K.rall_any N none A5 0 c5 [] O w5 (RX.nil_ _ _ _ _) HR5.out (by have := HOL.out; simp; omega))
  have CB : Hid (∀ u : World, Below w5.heap.size w5 u → Calls Tryz.prog 27 #[.agg #[.int .i64 N, .slice none 0 0], .slice Al l.length cl'] u (K.AllP N [] l u)) := fun u hu => K.rall_any N none Al 0 cl' [] l u (RX.nil_ _ _ _ _) (HL5.out.up hu) (by have := HLL.out; simp; omega)
  have VE : Ls.V (N : Int) [] := ⟨by omega, by omega, List.Pairwise.nil, fun _ h => (by cases h)⟩
  have HAR : Hid (K.Ls.allR N [] O = (Ls.runL [] O, ((Ls.numL [] O : Nat) : Int), 0)) := by
    show _ = _
    unfold K.Ls.allR
    rw [if_neg (by rw [(Ls.chkS_zero N []).2 VE]; decide)]
    exact Ls.allS_ok N O (fun e he => (HMA.out.2.2.1.1 e he).1) 0 []
  have HBR : Hid (K.Ls.allR N [] l = (Ls.runL [] l, ((Ls.numL [] l : Nat) : Int), 0)) := by
    show _ = _
    unfold K.Ls.allR
    rw [if_neg (by rw [(Ls.chkS_zero N []).2 VE]; decide)]
    exact Ls.allS_ok N l (fun e he => (HOK.out.1 e he).1) 0 []
  clear VE
  go_wp2_with fail
  refine CA.out.mono ?_
  rintro e w6 ⟨n6, S, A6, c6, rfl, hS, hn6, hr6, hb6⟩
  rw [HAR.out] at hS hn6 ⊢
  dsimp only at hS hn6 ⊢
  rw [if_pos rfl] at hn6
  subst hn6
  obtain ⟨cn1, HC1⟩ : ∃ x : Int, Hid (((Ls.numL [] O : Nat) : Int) = x) := ⟨_, rfl⟩
  obtain ⟨cn2, HC2⟩ : ∃ x : Int, Hid (((Ls.numL [] l : Nat) : Int) = x) := ⟨_, rfl⟩
  simp only [HC1.out]
  have HS := Lib.hid hS
  have hb7 : Below w6.heap.size w6 (w6.alloc (.cells #[.int .i64 N, .slice A6 S.length c6] 24)) := below_new _ _
  obtain ⟨w7, HW7⟩ : ∃ w7, Hid (w7 = w6.alloc (.cells #[.int .i64 N, .slice A6 S.length c6] 24)) := ⟨_, rfl⟩
  rw [← HW7.out] at hb7
  obtain ⟨P1, HP1⟩ : ∃ P, Hid (w6.heap.size = P) := ⟨_, rfl⟩
  have HX7 : Hid (w7.heap[P1]? = some (.cells #[.int .i64 N, .slice A6 S.length c6] 24 (0, 0))) := by show _ = _; rw [HW7.out, ← HP1.out]; exact heap_alloc_new _ _
  have hb57 := hb6.trans (hb7.mono hb6.size)
  have HR7 := Lib.hid (hr6.up hb7)
  have HO7 := Lib.hid (HR5.out.up hb57)
  have HL7 := Lib.hid (HL5.out.up hb57)
  have HB7 := Lib.hid (HB5.out.trans (hb57.mono HB5.out.size))
  have HG7 := Lib.hid ((hb57.block _ (lt_of_some HW5.out)).trans HW5.out)
  have CC := Lib.hid (CB.out w7 hb57)
  clear hS hr6 hb6 hb7 hb57 CA CB HR5 HL5 HB5 HW5 HAR HW4
  rw [HW7.out] at CC
  go_wp2_with fail
  simp only [HP1.out]
  refine CC.out.mono ?_
  rw [← HW7.out]
  rintro e w8 ⟨n8, S2, A8, c8, rfl, hS, hn8, hr8, hb8⟩
  rw [HBR.out] at hS hn8 ⊢
  dsimp only at hS hn8 ⊢
  rw [if_pos rfl] at hn8
  subst hn8
  simp only [HC2.out]
  have HS2 := Lib.hid hS
  have hb9 : Below w8.heap.size w8 (w8.alloc (.cells #[.int .i64 N, .slice A8 S2.length c8] 24)) := below_new _ _
  obtain ⟨w9, HW9⟩ : ∃ w9, Hid (w9 = w8.alloc (.cells #[.int .i64 N, .slice A8 S2.length c8] 24)) := ⟨_, rfl⟩
  rw [← HW9.out] at hb9
  obtain ⟨P2, HP2⟩ : ∃ P, Hid (w8.heap.size = P) := ⟨_, rfl⟩
  have HX9 : Hid (w9.heap[P2]? = some (.cells #[.int .i64 N, .slice A8 S2.length c8] 24 (0, 0))) := by show _ = _; rw [HW9.out, ← HP2.out]; exact heap_alloc_new _ _
  have hb79 := hb8.trans (hb9.mono hb8.size)
  have HR9 := Lib.hid (hr8.up hb9)
  have HA9 := Lib.hid (HR7.out.up hb79)
  have HO9 := Lib.hid (HO7.out.up hb79)
  have HL9 := Lib.hid (HL7.out.up hb79)
  have HB9 := Lib.hid (HB7.out.trans (hb79.mono HB7.out.size))
  have HG9 := Lib.hid ((hb79.block _ (lt_of_some HG7.out)).trans HG7.out)
  have HY9 := Lib.hid ((hb79.block _ (lt_of_some HX7.out)).trans HX7.out)
  clear hS hr8 hb8 hb9 hb79 CC HR7 HO7 HL7 HB7 HG7 HX7 HBR HW7
  -- the last event's time
  obtain ⟨le, hle⟩ : ∃ le, l[l.length - 1]? = some le := ⟨_, List.getElem?_eq_getElem (by have := HL0.out; omega)⟩
  have HLE := Lib.hid hle
  obtain ⟨T, HT⟩ : ∃ T, Hid (le.time = T) := ⟨_, rfl⟩
  have HLT : Hid (Ls.lastT 0 l = T) := by show _ = _; rw [Ls.lastT_last 0 l le HLE.out, HT.out]
  have HTB : Hid (0 ≤ T ∧ T ≤ 1048576) := by
    have := (Ls.good_kind (HOK.out.1 le (List.mem_of_getElem? HLE.out)).1).2
    rw [HT.out] at this
    exact ⟨this.1, this.2.1⟩
  have HPW : Hid (wrongS 2 wd 0 N T S2 = 0) := by
    have h0 : chkW 2 wd 0 = 0 := by have h := HWB.out; have h1 : kindB 2 = true := rfl; have h2 : kindR 2 wd 0 = true := (by simp [kindR]; omega); simp [chkW, h1, h2]
    have h1 : Ls.chkS N S2 = 0 := by rw [HS2.out]; exact (Ls.chkS_zero _ _).2 VN.out
    have h2 : Ls.chkT T S2 = 0 := Ls.chkT_zero _ _ HTB.out (by rw [HS2.out, ← HLT.out]; exact HMA.out.2.1)
    show _ = _
    unfold wrongS
    rw [h0, h1, h2]; rfl
  have HSL : Hid (S2.length ≤ 100) := by
    show _ ≤ _
    rw [HS2.out]
    have := Ls.run_len l [] List.Pairwise.nil
    have := HLL.out
    simp only [List.length_nil] at *
    omega
  have HPK : Hid (Ls.keepS (extW 2 wd) (extM 2 0) T S2 = S) := by
    have h1 : extW 2 wd = wd := rfl
    have h2 : extM 2 0 = 2016 := rfl
    show _ = _
    rw [h1, h2, Ls.keep_age wd 2016 T S2 (by have := HSL.out; omega), HS2.out, HS.out, ← HLT.out]
    exact HMA.out.1.symm
  have HPR : Hid (∀ u : World, Below w9.heap.size w9 u → Calls Tryz.prog 13 #[.agg #[.int .i64 N, .slice A8 S2.length c8], .agg #[.int .i64 2, .int .i64 wd, .int .i64 0], .int .i64 T] u (PrsP 0 N S u)) := by
    intro u hu
    have := present_any N A8 c8 S2 2 wd 0 rfl T u (HR9.out.up hu) (by have := HSL.out; omega)
    rw [HPW.out, HPK.out] at this
    exact this
  obtain ⟨M, hM⟩ : ∃ M, l.length = M + 1 := ⟨l.length - 1, by have := HL0.out; omega⟩
  obtain ⟨b, off, le', rfl, hb, hle', -, k1, -, -, -, -, -⟩ := K.RV_at (k := M) HL9.out (by omega)
  have he : le' = le := by rw [hM, Nat.add_sub_cancel, hle'] at hle; injection hle
  subst he
  rw [HT.out] at k1
  have HK1 := Lib.hid k1
  have HBL := Lib.hid hb
  have hw72 : IntKind.i64.wrap ((l.length : Int) - 1) = M := by rw [hM]; have : ((M + 1 : Nat) : Int) - 1 = M := (by omega); rw [this]; exact IntWalk.i64_in _ (by have := HLL.out; omega)
  have hi72 : M < l.length := by omega
  have HMM := Lib.hid hM
  clear hM
  clear hle hle' k1 hb
  rw [HW9.out] at HX9
  go_wp2_with fail
  simp only [HP2.out, HG.out]
  rw [← HW9.out] at HX9 ⊢
  refine wp_region_ac 15 111 (Below w9.heap.size) (JB w9.heap.size N S (fun t => t = [.int .i64 0]) 111 76 66 77 17 9 10 11 13 14) [(fun q0 _ => q0 = .agg #[.int .i64 (N : Int), .slice A8 S2.length c8]), (fun q0 _ => q0 = .agg #[.int .i64 2, .int .i64 wd, .int .i64 0]), (fun q0 _ => q0 = .slice (some ⟨b, off, none⟩) l.length cl'), (fun q0 _ => q0 = .slice (some ⟨b, off, none⟩) l.length cl'), (fun q0 _ => q0 = .int .i64 (l.length : Int)), (fun q0 _ => q0 = .int .i64 (M : Int)), (fun q0 _ => q0 = .pointer (some ⟨b, off + M * 7, none⟩)), (fun q0 _ => q0 = .pointer (some ⟨b, off + M * 7 + 1, none⟩)), (fun q0 _ => q0 = .int .i64 T), (fun _ _ => True), (fun _ _ => True), (fun _ _ => True), (fun q0 _ => q0 = .int .i64 0), (fun _ _ => True), (fun _ _ => True)] (by kernel_rfl) (by kernel_rfl) rfl (fun _ _ _ => Below.trans) (below_drewN _ _) (JB.start rfl) ?_ ?_ ?_
  · intro R hR
    simp only [List.mem_cons, List.not_mem_nil, or_false] at hR
    rcases hR with rfl | rfl | rfl | rfl | rfl | rfl | rfl | rfl | rfl | rfl | rfl | rfl | rfl | rfl | rfl <;> (first | exact (fun _ _ _ h _ => h) | exact (fun _ _ _ _ _ => trivial))
  · simp only [List.take_succ_cons, List.take_zero]
    refine ⟨?_, ?_, ?_, ?_, ?_, ?_, ?_, ?_, ?_, ?_, ?_, ?_, ?_, ?_, ?_, trivial⟩
    · intro a ws f hle hjj hfi hun hdn hag hdep K Q hK
      have d14 : (a.tmps[14]?).getD undef = .pointer (some ⟨P2, 0, none⟩) := eval_get (hag 14 (freeB_spec (by kernel_rfl)))
      rw [if_pos (show Region.wanted _ _ = true from rfl)]
      have yy := Go.Joins.cell_of_block ((hle.block P2 (lt_of_some HX9.out)).trans HX9.out)
      have y0 := yy 0; have y1 := yy 1
      simp only [List.getElem?_toArray, List.getElem?_cons_succ, List.getElem?_cons_zero] at y0 y1
      clear yy
      unfold Oper.wp
      simp [go_sem, d14, y0, y1]
      exact hK _ _ (Below.refl _ _) (hjj.keep (Below.refl _ _) (by decide) (by decide)) rfl
    · intro a ws f hle hjj hfi hun hdn hag hdep K Q hK
      have d8 : (a.tmps[8]?).getD undef = .pointer (some ⟨G, 0, none⟩) := eval_get (hag 8 (freeB_spec (by kernel_rfl)))
      rw [if_pos (show Region.wanted _ _ = true from rfl)]
      have yy := Go.Joins.cell_of_block ((hle.block G (lt_of_some HG9.out)).trans HG9.out)
      have y0 := yy 0; have y1 := yy 1; have y2 := yy 2
      simp only [List.getElem?_toArray, List.getElem?_cons_succ, List.getElem?_cons_zero] at y0 y1 y2
      clear yy
      unfold Oper.wp
      simp [go_sem, d8, y0, y1, y2]
      exact hK _ _ (Below.refl _ _) (hjj.keep (Below.refl _ _) (by decide) (by decide)) rfl
    · intro a ws f hle hjj hfi hun hdn hag hdep K Q hK
      have d7 : (a.tmps[7]?).getD undef = .slice (some ⟨b, off, none⟩) l.length cl' := eval_get (hag 7 (freeB_spec (by kernel_rfl)))
      rw [if_pos (show Region.wanted _ _ = true from rfl)]
      unfold Oper.wp
      simp [go_sem, d7]
      exact hK _ _ (Below.refl _ _) (hjj.keep (Below.refl _ _) (by decide) (by decide)) rfl
    · intro a ws f hle hjj hfi hun hdn hag hdep K Q hK
      have d7 : (a.tmps[7]?).getD undef = .slice (some ⟨b, off, none⟩) l.length cl' := eval_get (hag 7 (freeB_spec (by kernel_rfl)))
      rw [if_pos (show Region.wanted _ _ = true from rfl)]
      unfold Oper.wp
      simp [go_sem, d7]
      exact hK _ _ (Below.refl _ _) (hjj.keep (Below.refl _ _) (by decide) (by decide)) rfl
    · intro a ws f hle hjj hfi hun hdn hag hdep K Q hK
      have d70 : (a.tmps[70]?).getD undef = .slice (some ⟨b, off, none⟩) l.length cl' := eval_get (dep_of hdep 3 70 rfl (by kernel_rfl) rfl rfl)
      rw [if_pos (show Region.wanted _ _ = true from rfl)]
      unfold Oper.wp
      simp [go_sem, d70]
      exact hK _ _ (Below.refl _ _) (hjj.keep (Below.refl _ _) (by decide) (by decide)) rfl
    · intro a ws f hle hjj hfi hun hdn hag hdep K Q hK
      have d71 : (a.tmps[71]?).getD undef = .int .i64 (l.length : Int) := eval_get (dep_of hdep 4 71 rfl (by kernel_rfl) rfl rfl)
      rw [if_pos (show Region.wanted _ _ = true from rfl)]
      unfold Oper.wp
      simp [go_sem, d71, hw72]
      exact hK _ _ (Below.refl _ _) (hjj.keep (Below.refl _ _) (by decide) (by decide)) rfl
    · intro a ws f hle hjj hfi hun hdn hag hdep K Q hK
      have d69 : (a.tmps[69]?).getD undef = .slice (some ⟨b, off, none⟩) l.length cl' := eval_get (dep_of hdep 2 69 rfl (by kernel_rfl) rfl rfl)
      have d72 : (a.tmps[72]?).getD undef = .int .i64 (M : Int) := eval_get (dep_of hdep 5 72 rfl (by kernel_rfl) rfl rfl)
      rw [if_pos (show Region.wanted _ _ = true from rfl)]
      unfold Oper.wp
      simp [go_sem, d69, d72, hi72]
      exact hK _ _ (Below.refl _ _) (hjj.keep (Below.refl _ _) (by decide) (by decide)) rfl
    · intro a ws f hle hjj hfi hun hdn hag hdep K Q hK
      have d73 : (a.tmps[73]?).getD undef = .pointer (some ⟨b, off + M * 7, none⟩) := eval_get (dep_of hdep 6 73 rfl (by kernel_rfl) rfl rfl)
      rw [if_pos (show Region.wanted _ _ = true from rfl)]
      unfold Oper.wp
      simp [go_sem, d73]
      exact hK _ _ (Below.refl _ _) (hjj.keep (Below.refl _ _) (by decide) (by decide)) rfl
    · intro a ws f hle hjj hfi hun hdn hag hdep K Q hK
      have d74 : (a.tmps[74]?).getD undef = .pointer (some ⟨b, off + M * 7 + 1, none⟩) := eval_get (dep_of hdep 7 74 rfl (by kernel_rfl) rfl rfl)
      rw [if_pos (show Region.wanted _ _ = true from rfl)]
      have y1 := (hle.cell (p := ⟨b, off + M * 7 + 1, none⟩) HBL.out).trans HK1.out
      unfold Oper.wp
      simp [go_sem, d74, y1]
      exact hK _ _ (Below.refl _ _) (hjj.keep (Below.refl _ _) (by decide) (by decide)) rfl
    · intro a ws f hle hjj hfi hun hdn hag hdep K Q hK
      have d67 : (a.tmps[67]?).getD undef = .agg #[.int .i64 (N : Int), .slice A8 S2.length c8] := eval_get (dep_of hdep 0 67 rfl (by kernel_rfl) rfl rfl)
      have d68 : (a.tmps[68]?).getD undef = .agg #[.int .i64 2, .int .i64 wd, .int .i64 0] := eval_get (dep_of hdep 1 68 rfl (by kernel_rfl) rfl rfl)
      have d75 : (a.tmps[75]?).getD undef = .int .i64 T := eval_get (dep_of hdep 8 75 rfl (by kernel_rfl) rfl rfl)
      rw [if_pos (show Region.wanted _ _ = true from rfl)]
      have hcon := HPR.out ws hle
      unfold Oper.wp
      simp [go_sem, d67, d68, d75]
      refine hcon.mono ?_
      rintro e w10 ⟨A1, c1, rfl, hr, hb10⟩
      exact hK _ _ (hb10.mono hle.size) (hjj.call hb10 (t := [.int .i64 0]) rfl ⟨A1, c1, rfl, hr⟩ (by decide) (by decide) (by decide)) trivial
    · intro a ws f hle hjj hfi hun hdn hag hdep K Q hK
      have d76 : (fun _ _ => True) (a.eval (.tmp 76)) ws := dep_of hdep 9 76 rfl (by kernel_rfl) rfl rfl
      rw [if_pos (show Region.wanted _ _ = true from rfl)]
      obtain ⟨X, t, e76, rfl, hX⟩ := hjj.rc (hdn 9 _ rfl (by kernel_rfl))
      have e76 := eval_get e76
      unfold Oper.wp
      simp [go_sem, e76]
      exact hK _ _ (Below.refl _ _) (hjj.move (t := [.int .i64 0]) rfl hX (by decide) (by decide) (by decide)) trivial
    · intro a ws f hle hjj hfi hun hdn hag hdep K Q hK
      have d66 : (fun _ _ => True) (a.eval (.tmp 66)) ws := dep_of hdep 10 66 rfl (by kernel_rfl) rfl rfl
      rw [if_pos (show Region.wanted _ _ = true from rfl)]
      obtain ⟨X, t, e66, rfl, hX⟩ := hjj.rm (hdn 10 _ rfl (by kernel_rfl))
      have e66 := eval_get e66
      unfold Oper.wp
      simp [go_sem, e66]
      exact hK _ _ (Below.refl _ _) (hjj.ext hX (by decide) (by decide) (by decide)) trivial
    · intro a ws f hle hjj hfi hun hdn hag hdep K Q hK
      have d66 : (fun _ _ => True) (a.eval (.tmp 66)) ws := dep_of hdep 10 66 rfl (by kernel_rfl) rfl rfl
      rw [if_pos (show Region.wanted _ _ = true from rfl)]
      obtain ⟨X, t, e66, rfl, hX⟩ := hjj.rm (hdn 10 _ rfl (by kernel_rfl))
      have e66 := eval_get e66
      unfold Oper.wp
      simp [go_sem, e66]
      exact hK _ _ (Below.refl _ _) (hjj.keep (Below.refl _ _) (by decide) (by decide)) rfl
    · intro a ws f hle hjj hfi hun hdn hag hdep K Q hK
      rw [if_pos (show Region.wanted _ _ = true from rfl)]
      unfold Oper.wp
      simp [go_sem]
      exact hK _ _ ((below_new _ _).mono hle.size) (hjj.box hle.size (hun 14 _ rfl (by kernel_rfl)) (by decide) (by decide) (by decide)) trivial
    · intro a ws f hle hjj hfi hun hdn hag hdep K Q hK
      have d17 : (fun _ _ => True) (a.eval (.tmp 17)) ws := dep_of hdep 13 17 rfl (by kernel_rfl) rfl rfl
      have d77 : (fun _ _ => True) (a.eval (.tmp 77)) ws := dep_of hdep 11 77 rfl (by kernel_rfl) rfl rfl
      rw [if_pos (show Region.wanted _ _ = true from rfl)]
      obtain ⟨B, eB, hB1, hB2⟩ := hjj.rb (hdn 13 _ rfl (by kernel_rfl)) hfi
      obtain ⟨X, eX, A1, c1, rfl, hr⟩ := hjj.rx (hdn 11 _ rfl (by kernel_rfl))
      have eB' := eval_get eB
      have eX' := eval_get eX
      have hq := Go.Joins.cell_of_block hB2
      have q0 := hq 0; have q1 := hq 1
      simp only [List.getElem?_toArray, List.getElem?_cons_succ, List.getElem?_cons_zero] at q0 q1
      have u0 := Go.Joins.unfrozen_of_block hB2 0; have u1 := Go.Joins.unfrozen_of_block hB2 1
      clear hq
      obtain ⟨hj2, hl2⟩ := hjj.put eB hB1 hB2 hr undef (by decide)
      unfold Oper.wp
      simp [go_sem, eB', eX', q0, q1, u0, u1]
      exact hK _ _ hl2 hj2 trivial
  · intro a ws f hle hjj hft hff hsz hdf hag hend
    have f67 : a.eval (.tmp 67) = .agg #[.int .i64 (N : Int), .slice A8 S2.length c8] := end_of hend 0 67 (by decide) rfl rfl rfl
    have f68 : a.eval (.tmp 68) = .agg #[.int .i64 2, .int .i64 wd, .int .i64 0] := end_of hend 1 68 (by decide) rfl rfl rfl
    have f69 : a.eval (.tmp 69) = .slice (some ⟨b, off, none⟩) l.length cl' := end_of hend 2 69 (by decide) rfl rfl rfl
    have f70 : a.eval (.tmp 70) = .slice (some ⟨b, off, none⟩) l.length cl' := end_of hend 3 70 (by decide) rfl rfl rfl
    have f71 : a.eval (.tmp 71) = .int .i64 (l.length : Int) := end_of hend 4 71 (by decide) rfl rfl rfl
    have f72 : a.eval (.tmp 72) = .int .i64 (M : Int) := end_of hend 5 72 (by decide) rfl rfl rfl
    have f73 : a.eval (.tmp 73) = .pointer (some ⟨b, off + M * 7, none⟩) := end_of hend 6 73 (by decide) rfl rfl rfl
    have f74 : a.eval (.tmp 74) = .pointer (some ⟨b, off + M * 7 + 1, none⟩) := end_of hend 7 74 (by decide) rfl rfl rfl
    have f75 : a.eval (.tmp 75) = .int .i64 T := end_of hend 8 75 (by decide) rfl rfl rfl
    have f76 : (fun _ _ => True) (a.eval (.tmp 76)) ws := end_of hend 9 76 (by decide) rfl rfl rfl
    have f66 : (fun _ _ => True) (a.eval (.tmp 66)) ws := end_of hend 10 66 (by decide) rfl rfl rfl
    have f77 : (fun _ _ => True) (a.eval (.tmp 77)) ws := end_of hend 11 77 (by decide) rfl rfl rfl
    have f78 : a.eval (.tmp 78) = .int .i64 0 := end_of hend 12 78 (by decide) rfl rfl rfl
    have f17 : (fun _ _ => True) (a.eval (.tmp 17)) ws := end_of hend 13 17 (by decide) rfl rfl rfl
    have hbs := hjj.rs (hft 14 (by decide))
    have ea := act_blocks [17] 66 13 hsz hdf hag [67, 68, 69, 70, 71, 72, 73, 74, 75, 76, 66, 77, 78, 17] [66, 67, 68, 69, 70, 71, 72, 73, 74, 75, 76, 77, 78] (by kernel_rfl) (by kernel_rfl) (by kernel_rfl) (by kernel_rfl) (of_decide_eq_true (by kernel_rfl))
    clear hag hend hsz hdf
    simp only [List.map_cons, List.map_nil, List.foldl_cons, List.foldl_nil, f67, f68, f69, f70, f71, f72, f73, f74, f75, f78] at ea
    clear f67 f68 f69 f70 f71 f72 f73 f74 f75 f78
    generalize a.eval (.tmp 76) = x76 at ea f76
    generalize a.eval (.tmp 66) = x66 at ea f66
    generalize a.eval (.tmp 77) = x77 at ea f77
    generalize a.eval (.tmp 17) = x17 at ea f17 hbs
    simp only [List.take_succ_cons, List.take_zero, List.drop_succ_cons, List.drop_zero, List.cons_append, List.nil_append, List.set_cons_succ, List.set_cons_zero] at ea
    subst ea
    obtain ⟨B, A1, c1, rfl, hB1, hB2, hr⟩ := hbs
    have HBB := Lib.hid hB2
    have HB1 := Lib.hid hB1
    have HRS := Lib.hid hr
    have HBW := Lib.hid hle
    clear hB1 hB2 hr hle hjj hft hff HPR HPK HPW HK1 HBL hw72 hi72
    simp only [List.drop_succ_cons, List.drop_zero]
    go_wp2_with fail
    have HPO : Hid (O.Pairwise fun a b => a.time ≤ b.time) := HMA.out.2.2.1.2
    obtain ⟨nO, HNO⟩ : ∃ n, Hid (O.length = n) := ⟨_, rfl⟩
    simp only [HNO.out]
    go_loopw [19] (fun i wr => ∃ (k : Nat), 1 ≤ k ∧ k ≤ nO + 1 ∧ i = .int .i64 k ∧ Hid (Below ws.heap.size ws wr)) (fun i _ => nO + 1 - (RowKit.intOf i).toNat)
    case atStart => exact ⟨1, Nat.le_refl _, by omega, rfl, Below.refl _ _⟩
    case round =>
      obtain ⟨k, hk1, hk2, rfl, HB⟩ := hrel
      have HOR := Lib.hid (HO9.out.go (HBW.out.trans (HB.out.mono HBW.out.size)))
      by_cases hlt : k < nO
      · obtain ⟨m, hm⟩ : ∃ m, k = m + 1 := ⟨k - 1, by omega⟩
        have HM1 := Lib.hid hm
        obtain ⟨b1, o1, e1, rfl, hb1, ha1, -, x1, -, -, -, -, -⟩ := K.RV_at (k := m) HOR.out (by rw [HNO.out]; omega)
        obtain ⟨b2, o2, e2, he, -, ha2, -, x2, -, -, -, -, -⟩ := K.RV_at (k := k) HOR.out (by rw [HNO.out]; exact hlt)
        injection he with he
        injection he with he1 he2
        subst he1
        subst he2
        have hpr : e1.time ≤ e2.time := by
          obtain ⟨q1, r1⟩ := List.getElem?_eq_some_iff.1 ha1
          obtain ⟨q2, r2⟩ := List.getElem?_eq_some_iff.1 ha2
          have := List.pairwise_iff_getElem.1 HPO.out m k q1 q2 (by omega)
          rw [r1, r2] at this
          exact this
        have hg : decide (e1.time > e2.time) = false := by rw [decide_eq_false_iff_not]; omega
        have hw : IntKind.i64.wrap ((k : Int) - 1) = m := by rw [hm]; have : ((m + 1 : Nat) : Int) - 1 = m := (by omega); rw [this]; exact IntWalk.i64_in _ (by have := HOL.out; have := HNO.out; omega)
        have hm1 : m < nO := by omega
        have hbw : b1 < wr.heap.size := Nat.lt_of_lt_of_le hb1 (Nat.le_trans HBW.out.size HB.out.size)
        have hnO : nO ≤ 100 := by have := HOL.out; have := HNO.out; omega
        have hw2 : IntKind.i64.wrap ((k : Int) + 1) = (k : Int) + 1 := IntWalk.i64_in _ (by omega)
        clear hm ha1 ha2 hpr hb1
        go_wp2
        go_quiet (fail)
        go_wp2
        go_roundw
        case rel => exact ⟨k + 1, by omega, by omega, by go_num, HB.out.trans ((below_drewN wr nq).mono HB.out.size)⟩
        case measure => simp [RowKit.intOf]; omega
      · have HXS := Lib.hid ((HB.out.block B (lt_of_some HBB.out)).trans HBB.out)
        have HXO := Lib.hid (((HBW.out.trans (HB.out.mono HBW.out.size)).block P1 (lt_of_some HY9.out)).trans HY9.out)
        have y := Go.Joins.cell_of_block HXS.out; have x := Go.Joins.cell_of_block HXO.out
        have y0 := y 0; have y1 := y 1; have x0 := x 0; have x1 := x 1
        simp only [List.getElem?_toArray, List.getElem?_cons_succ, List.getElem?_cons_zero] at y0 y1 x0 x1
        have hlB := lt_of_some HXS.out; have hlP := lt_of_some HXO.out
        clear x y
        have CS := Lib.hid (sameS_any N N A6 A1 c6 c1 S S wr (HA9.out.up (HBW.out.trans (HB.out.mono HBW.out.size))) (HRS.out.up HB.out) (by
          have := Ls.run_len O [] List.Pairwise.nil
          rw [← HS.out, List.length_nil] at this
          have := HOL.out
          omega))
        have HSS : Hid (sameS N N S S = true) := by show _ = _; simp [sameS]
        rw [HSS.out] at CS
        have hkn : ¬ k < nO := hlt
        go_wp2_with fail
        refine CS.out.mono ?_
        rintro e wa ⟨rfl, hba⟩
        have HBA := Lib.hid (HB.out.trans (hba.mono HB.out.size))
        clear hba CS
        go_wp2_with fail
        refine (awake_any wa).mono ?_
        rintro e wc ⟨rfl, hbc⟩
        have HBC := Lib.hid (HBA.out.trans (hbc.mono HBA.out.size))
        clear hbc
        go_wp2
        go_ret
        exact ⟨rfl, (HB9.out.trans (HBW.out.mono HB9.out.size)).trans (HBC.out.mono (Nat.le_trans HB9.out.size HBW.out.size))⟩
end Go.Proofs.YtfapfkaipdcflaaGreat
