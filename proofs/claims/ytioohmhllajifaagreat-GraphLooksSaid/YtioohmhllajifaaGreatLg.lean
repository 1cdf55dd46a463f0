/-
  The walk of GraphLooks.
-/
import Derived.Test.YtioohmhllajifaaGreatLa
import Derived.Test.YtioohmhllajifaaGreatGt
import Derived.Test.YtioohmhllajifaaGreatHf
import Derived.Test.YtioohmhllajifaaGreatHj
import Derived.Test.YtioohmhllajifaaGreatHq
import Derived.Test.YtioohmhllajifaaGreatIx
namespace Go.Proofs.YtioohmhllajifaaGreat
open Go.RowKit Go.Lib

section
variable {w : World} {g g4 : Nat} {A A1 : Option Addr} {c c1 : Nat} {L : List Int} {n : Int} {l : List Ed} {wr w' : World}
/-- what stands in the first loop: the pairs too -/
def CI (w : World) (g g4 : Nat) (A : Option Addr) (c : Nat) (L : List Int) (n : Int) (A1 : Option Addr) (c1 : Nat) (l : List Ed) (gp : Nat) (ps : List Ed) (wr : World) : Prop :=
  LS w g g4 A c L n A1 c1 l wr ∧ RE wr.heap.size wr (some ⟨gp, 0, none⟩) 3 ps
theorem CI.go {gp : Nat} {ps : List Ed} (h : CI w g g4 A c L n A1 c1 l gp ps wr) (hb : Below wr.heap.size wr w') : CI w g g4 A c L n A1 c1 l gp ps w' := ⟨h.1.go hb, h.2.up hb⟩
end
theorem eqB_self (l : List Int) : eqB l l = true := by simp [eqB]
/-- a block of two numbers -/
def B2 (k : Nat) (u v : Int) (t : TypeId) (w : World) : Prop := w.heap[k]? = some (.cells #[.int .i64 u, .int .i64 v] t)
theorem B2.go {k : Nat} {u v : Int} {t : TypeId} {w w' : World} (h : B2 k u v t w) (hb : Below w.heap.size w w') : B2 k u v t w' := (hb.block _ (lt_of_some h)).trans h
theorem B2.c0 {k : Nat} {u v : Int} {t : TypeId} {w : World} (h : B2 k u v t w) : w.cell? ⟨k, 0, none⟩ = some (.int .i64 u) := Go.Joins.cell_of_block h 0
theorem B2.c1 {k : Nat} {u v : Int} {t : TypeId} {w : World} (h : B2 k u v t w) : w.cell? ⟨k, 1, none⟩ = some (.int .i64 v) := Go.Joins.cell_of_block h 1
/-- what stands in the second loop: the two sets, in block gs -/
structure CK (w : World) (g g4 : Nat) (A : Option Addr) (c : Nat) (L : List Int) (n : Int) (A1 : Option Addr) (c1 : Nat) (l : List Ed) (gs : Nat) (AR : Option Addr) (cR : Nat) (R : List Int) (A5 : Option Addr) (c5 : Nat) (sa : List Int) (wr : World) : Prop where
  ls : LS w g g4 A c L n A1 c1 l wr
  b : wr.heap[gs]? = some (.cells #[.slice AR R.length cR, .slice A5 sa.length c5] 22)
  r0 : RD wr AR cR R
  r1 : RD wr A5 c5 sa
section
variable {w : World} {g g4 : Nat} {A A1 AR A5 : Option Addr} {c c1 cR c5 gs : Nat} {L R sa : List Int} {n : Int} {l : List Ed} {wr w' : World}
theorem CK.go (h : CK w g g4 A c L n A1 c1 l gs AR cR R A5 c5 sa wr) (hb : Below wr.heap.size wr w') : CK w g g4 A c L n A1 c1 l gs AR cR R A5 c5 sa w' :=
  ⟨h.ls.go hb, (hb.block _ (lt_of_some h.b)).trans h.b, h.r0.go hb, h.r1.go hb⟩
theorem CK.at_ (h : CK w g g4 A c L n A1 c1 l gs AR cR R A5 c5 sa wr) (hR : R.length ≤ 65536) (hsa : sa.length ≤ 65536) {k : Nat} (hk : k < 2) : ∃ (AS : Option Addr) (cS : Nat) (S : List Int), wr.cell? ⟨gs, k, none⟩ = some (.slice AS S.length cS) ∧ RD wr AS cS S ∧ S.length ≤ 65536 := by
  rcases (by omega : k = 0 ∨ k = 1) with rfl | rfl
  · exact ⟨AR, cR, R, Go.Joins.cell_of_block h.b 0, h.r0, hR⟩
  · exact ⟨A5, c5, sa, Go.Joins.cell_of_block h.b 1, h.r1, hsa⟩
end
theorem B2.lt {k : Nat} {u v : Int} {t : TypeId} {w : World} (h : B2 k u v t w) : k < w.heap.size := lt_of_some h
set_option maxHeartbeats 16000000 in
set_option maxRecDepth 100000 in
theorem looks_any (AR : Option Addr) (cR : Nat) (R : List Int) (A : Option Addr) (c : Nat) (L : List Int) (u v : Int) (w : World) (hR : RD w AR cR R) (h : RD w A c L) (hL : L.length ≤ 17592186044416) :
    Calls Tryz.prog 3 #[.slice AR R.length cR, .slice A L.length c, .int .i64 u, .int .i64 v] w fun e w' => e = .returned (.bool true) ∧ Below w.heap.size w w' := by
  have H := Lib.hid h
  have HRAW := Lib.hid hR
  clear h hR
  by_cases h40 : 40 < R.length
  · have hd40 : decide ((40 : Int) < (R.length : Int)) = true := by rw [decide_eq_true_iff]; omega
    go_enter Tryz.func3, Tryz.ntmps3
    go_wp2_with fail
    refine (awake3_any _).mono ?_
    rintro e w9 ⟨rfl, hb9⟩
    have HB9 := Lib.hid hb9
    clear hb9
    go_wp2
    go_ret
    exact ⟨rfl, HB9.out⟩
  have hd40 : decide ((40 : Int) < (R.length : Int)) = false := by rw [decide_eq_false_iff_not]; omega
  go_enter Tryz.func3, Tryz.ntmps3
  go_wp2_with fail
  refine (new_any A c L _ H.out).mono ?_
  rintro e w1 ⟨rfl, hd, hb⟩
  have HD := Lib.hid hd
  have HB := Lib.hid hb
  clear hd hb
  go_wp2_with fail
  refine (graph_any w.heap.size w.heap.size A c L 0 8 _ HD.out hL (by omega)).mono ?_
  rintro e w2 ⟨N, l0, A0, c0, m, rfl, hN, hck, hl0, ho, hdk, hgr⟩
  obtain ⟨g4, Hg4⟩ : ∃ x, Hid (w2.heap.size = x) := ⟨_, rfl⟩
  obtain ⟨W2, HW2⟩ : ∃ x, Hid (w2.alloc (.cells #[.int .i64 (N : Int), .slice A0 l0.length c0] 28) = x) := ⟨_, rfl⟩
  have HS : Hid (LS w w.heap.size g4 A c L (N : Int) A0 c0 l0 W2) := by show LS _ _ _ _ _ _ _ _ _ _ _; rw [← HW2.out, ← Hg4.out]; exact LS.start (n := (N : Int)) (Nat.le_refl _) HD.out.lt HB.out hdk hgr ho
  have HM := Lib.hid (inM_valid hck)
  clear hck ho hdk hgr HD HB
  go_wp2_with fail
  rw [HW2.out, Hg4.out]
  obtain ⟨m0, hd0⟩ := HS.out.dk
  refine (next_any w.heap.size w.heap.size A c L m0 6 _ hd0 hL (by omega)).mono ?_
  rintro e w3 ⟨t, m3, rfl, ht0, ht1, hdk, hgr⟩
  have HS3 := Lib.hid (HS.out.next hdk hgr)
  clear hd0 hdk hgr HS
  by_cases h0 : t = 0
  · subst h0
    obtain ⟨m4, hd4⟩ := HS3.out.dk
    have HD4 := Lib.hid hd4
    clear hd4
    have z0 := HS3.out.c0; have z1 := HS3.out.c1'; have z2 := HS3.out.lt
    go_wp2_with fail
    refine (spoilt_any w.heap.size w.heap.size A c L m4 (N : Int) 64 A0 c0 l0 _ HD4.out HS3.out.re (by omega) hL (by omega) HM.out).mono ?_
    rintro e w4 ⟨n, l, A1, c1, m5, rfl, -, hl1, -, ho, hdk, hgr⟩
    have hl : l.length ≤ 10001 := by omega
    have hb4 := (hgr.block _ HS3.out.lt (fun e => by injection e with e; have := HS3.out.l4; omega)).trans HS3.out.b4
    have z0 := Go.Joins.cell_of_block hb4 0; have z1 := Go.Joins.cell_of_block hb4 1; have d0 := Go.Joins.unfrozen_of_block hb4 0; have d1 := Go.Joins.unfrozen_of_block hb4 1; have z2 := lt_of_some hb4
    simp at z0 z1
    obtain ⟨W4, HW4⟩ : ∃ x, Hid ((w4.setCell ⟨g4, 0, none⟩ (.int .i64 n)).setCell ⟨g4, 1, none⟩ (.slice A1 l.length c1) = x) := ⟨_, rfl⟩
    have HS4 : Hid (LS w w.heap.size g4 A c L n A1 c1 l W4) := by show LS _ _ _ _ _ _ _ _ _ _ _; rw [← HW4.out]; exact HS3.out.spoil ho hdk hgr
    clear ho hdk hgr HS3 HD4 hb4 HM
    go_wp2_with fail
    rw [HW4.out]
    clear z0 z1 z2 d0 d1
    clear HW4
    obtain ⟨m6, hd6⟩ := HS4.out.dk
    have HD6 := Lib.hid hd6
    clear hd6
    refine (next_any w.heap.size w.heap.size A c L _ 9 _ HD6.out hL (by omega)).mono ?_
    rintro e w6 ⟨r6, m7, rfl, -, -, hdk, hgr⟩
    have HS5 := Lib.hid (HS4.out.next hdk hgr)
    have HD7 := Lib.hid hdk
    clear hdk hgr HS4 HD6
    go_wp2_with fail
    refine (next_any w.heap.size w.heap.size A c L _ 9 _ HD7.out hL (by omega)).mono ?_
    rintro e w7 ⟨r7, m8, rfl, -, -, hdk, hgr⟩
    have HS6 := Lib.hid (HS5.out.next hdk hgr)
    have HD8 := Lib.hid hdk
    clear hdk hgr HS5 HD7
    go_wp2_with fail
    refine (next_any w.heap.size w.heap.size A c L _ 9 _ HD8.out hL (by omega)).mono ?_
    rintro e w8 ⟨r8, m9, rfl, hr0, hr1, hdk, hgr⟩
    have HS7 := Lib.hid (HS6.out.next hdk hgr)
    have HD9 := Lib.hid hdk
    clear hdk hgr HS6 HD8
    have hwr : IntKind.i64.wrap (r8 - 1) = r8 - 1 := IntWalk.i64_in _ (by omega)
    go_wp2_with fail
    refine (next_any w.heap.size w.heap.size A c L _ 9 _ HD9.out hL (by omega)).mono ?_
    rintro e w9 ⟨r9, m10, rfl, -, -, hdk, hgr⟩
    have HS8 := Lib.hid (HS7.out.next hdk hgr)
    have HD10 := Lib.hid hdk
    clear hdk hgr HS7 HD9
    go_wp2_with fail
    clear hwr hr0 hr1 HD10
    obtain ⟨gp, Hgp⟩ : ∃ x, Hid (w9.heap.size = x) := ⟨_, rfl⟩
    obtain ⟨ps, Hps⟩ : ∃ x, Hid ([(u, v), (r6, r7), (r8 - 1, r9)] = x) := ⟨_, rfl⟩
    have hps : 3 ≤ ps.length := by rw [← Hps.out]; simp
    have HI : Hid (CI w w.heap.size g4 A c L n A1 c1 l gp ps (w9.alloc (.cells #[.int .i64 u, .int .i64 v, .int .i64 r6, .int .i64 r7, .int .i64 (r8 - 1), .int .i64 r9] 32))) := by
      refine ⟨HS8.out.go (alloc_new _ _), ?_⟩
      rw [← Hgp.out, ← Hps.out]
      exact RE_block (l := [(u, v), (r6, r7), (r8 - 1, r9)]) (heap_alloc_new _ _) (by simp)
    rw [Hgp.out]
    clear HS8 Hps
    go_loopw [53] (fun i wr => ∃ (k : Nat), k ≤ 3 ∧ i = .int .i64 k ∧ Hid (CI w w.heap.size g4 A c L n A1 c1 l gp ps wr)) (fun i _ => 3 - (RowKit.intOf i).toNat)
    case atStart => exact ⟨0, Nat.zero_le _, rfl, HI.out⟩
    case round =>
      clear HI
      obtain ⟨k, hk, rfl, HR⟩ := hrel
      by_cases hlt : k < 3
      · obtain ⟨b9, o9, pu, pv, e9, hbp, _, p0, p1⟩ := HR.out.2.let_ (k := k) (by omega)
        simp only [Option.some.injEq, Addr.mk.injEq, and_true] at e9
        obtain ⟨rfl, rfl⟩ := e9
        simp only [Nat.zero_add] at p0 p1
        obtain ⟨fi, Hfi⟩ : ∃ x, Hid (find n l pu pv = x) := ⟨_, rfl⟩
        obtain ⟨dg, Hdg⟩ : ∃ x, Hid ((nbr n l pv).length = x) := ⟨_, rfl⟩
        obtain ⟨nb, Hnb⟩ : ∃ x, Hid (nbr n l pu = x) := ⟨_, rfl⟩
        obtain ⟨cm, Hcm⟩ : ∃ x, Hid (comE n l pu pv = x) := ⟨_, rfl⟩
        have hnb : nb.length ≤ 65536 := by rw [← Hnb.out]; have := nbr_len n l pu; omega
        have hcm : cm.length ≤ 65536 := by rw [← Hcm.out]; have := len_comE n l pu pv; omega
        have CF9 := Lib.hid (fun (W : World) (h : RE W.heap.size W A1 c1 l) => gfind_any n A1 c1 l pu pv W h (by omega))
        have CF10 := Lib.hid (fun (W : World) (h : RE W.heap.size W A1 c1 l) => find_any n A1 c1 l pu pv W h (by omega))
        have CF12 := Lib.hid (fun (W : World) (h : RE W.heap.size W A1 c1 l) => gnbr_any n A1 c1 l pu W h (by omega))
        have CF13 := Lib.hid (fun (W : World) (h : RE W.heap.size W A1 c1 l) => rnbr_any n A1 c1 l pu W h (by omega))
        have CF14 := Lib.hid (fun (W : World) (h : RE W.heap.size W A1 c1 l) => gdeg_any n A1 c1 l pv W h (by omega))
        have CF15 := Lib.hid (fun (W : World) (h : RE W.heap.size W A1 c1 l) => rdeg_any n A1 c1 l pv W h (by omega))
        have CF16 := Lib.hid (fun (W : World) (h : RE W.heap.size W A1 c1 l) => gcom_any n A1 c1 l pu pv W h (by omega))
        have CF17 := Lib.hid (fun (W : World) (h : RE W.heap.size W A1 c1 l) => rcom_any n A1 c1 l pu pv W h (by omega))
        simp only [Hfi.out] at CF9 CF10
        simp only [Hnb.out] at CF12 CF13
        simp only [Hdg.out] at CF14 CF15
        simp only [Hcm.out] at CF16 CF17
        obtain ⟨gq, Hgq⟩ : ∃ x, Hid (wr.heap.size = x) := ⟨_, rfl⟩
        obtain ⟨W3, HW3⟩ : ∃ x, Hid (wr.alloc (.cells #[.int .i64 pu, .int .i64 pv] 32) = x) := ⟨_, rfl⟩
        have HR3 : Hid (CI w w.heap.size g4 A c L n A1 c1 l gp ps W3) := by show CI _ _ _ _ _ _ _ _ _ _ _ _ _; rw [← HW3.out]; exact HR.out.go (alloc_new _ _)
        have HQ : Hid (B2 gq pu pv 32 W3) := by show B2 _ _ _ _ _; rw [← HW3.out, ← Hgq.out]; exact heap_alloc_new _ _
        go_wp2_with fail
        rw [HW3.out, Hgq.out]
        clear p0 p1 hbp
        refine wp_region_inv 52 173 [(fun z _ => z = .agg #[.int .i64 n, .slice A1 l.length c1]), (fun z _ => z = .pointer (some ⟨gq, 0, none⟩)), (fun z _ => z = .int .i64 pu), (fun z _ => z = .pointer (some ⟨gq, 1, none⟩)), (fun z _ => z = .int .i64 pv), (fun z _ => z = .int .i64 fi), (fun z _ => z = .agg #[.int .i64 n, .slice A1 l.length c1]), (fun z _ => z = .pointer (some ⟨gq, 0, none⟩)), (fun z _ => z = .int .i64 pu), (fun z _ => z = .pointer (some ⟨gq, 1, none⟩)), (fun z _ => z = .int .i64 pv), (fun z _ => z = .int .i64 fi), (fun z _ => z = .bool false), (fun z _ => z = .bool false), (fun z _ => z = .agg #[.int .i64 n, .slice A1 l.length c1]), (fun z _ => z = .pointer (some ⟨gq, 0, none⟩)), (fun z _ => z = .int .i64 pu), (FR nb), (fun z _ => z = .agg #[.int .i64 n, .slice A1 l.length c1]), (fun z _ => z = .pointer (some ⟨gq, 0, none⟩)), (fun z _ => z = .int .i64 pu), (FR nb), (fun z _ => z = .bool true), (fun z _ => z = .bool false), (fun z _ => z = .bool false), (fun z _ => z = .bool false), (fun z _ => z = .agg #[.int .i64 n, .slice A1 l.length c1]), (fun z _ => z = .pointer (some ⟨gq, 1, none⟩)), (fun z _ => z = .int .i64 pv), (fun z _ => z = .int .i64 (dg : Int)), (fun z _ => z = .agg #[.int .i64 n, .slice A1 l.length c1]), (fun z _ => z = .pointer (some ⟨gq, 1, none⟩)), (fun z _ => z = .int .i64 pv), (fun z _ => z = .int .i64 (dg : Int)), (fun z _ => z = .bool false), (fun z _ => z = .bool false), (fun z _ => z = .bool false), (fun z _ => z = .agg #[.int .i64 n, .slice A1 l.length c1]), (fun z _ => z = .pointer (some ⟨gq, 0, none⟩)), (fun z _ => z = .int .i64 pu), (fun z _ => z = .pointer (some ⟨gq, 1, none⟩)), (fun z _ => z = .int .i64 pv), (FR cm), (fun z _ => z = .agg #[.int .i64 n, .slice A1 l.length c1]), (fun z _ => z = .pointer (some ⟨gq, 0, none⟩)), (fun z _ => z = .int .i64 pu), (fun z _ => z = .pointer (some ⟨gq, 1, none⟩)), (fun z _ => z = .int .i64 pv), (FR cm), (fun z _ => z = .bool true), (fun z _ => z = .bool false), (fun z _ => z = .bool false)] (by kernel_rfl) (by kernel_rfl) rfl ?_ ?_ ?_
        · intro R hR
          simp only [List.mem_cons, List.not_mem_nil, or_false] at hR
          rcases hR with rfl | rfl | rfl | rfl | rfl | rfl | rfl | rfl | rfl | rfl | rfl | rfl | rfl | rfl | rfl | rfl | rfl | rfl | rfl | rfl | rfl | rfl | rfl | rfl | rfl | rfl | rfl | rfl | rfl | rfl | rfl | rfl | rfl | rfl | rfl | rfl | rfl | rfl | rfl | rfl | rfl | rfl | rfl | rfl | rfl | rfl | rfl | rfl | rfl | rfl | rfl | rfl
          · exact mono_eq _
          · exact mono_eq _
          · exact mono_eq _
          · exact mono_eq _
          · exact mono_eq _
          · exact mono_eq _
          · exact mono_eq _
          · exact mono_eq _
          · exact mono_eq _
          · exact mono_eq _
          · exact mono_eq _
          · exact mono_eq _
          · exact mono_eq _
          · exact mono_eq _
          · exact mono_eq _
          · exact mono_eq _
          · exact mono_eq _
          · exact FR_mono _
          · exact mono_eq _
          · exact mono_eq _
          · exact mono_eq _
          · exact FR_mono _
          · exact mono_eq _
          · exact mono_eq _
          · exact mono_eq _
          · exact mono_eq _
          · exact mono_eq _
          · exact mono_eq _
          · exact mono_eq _
          · exact mono_eq _
          · exact mono_eq _
          · exact mono_eq _
          · exact mono_eq _
          · exact mono_eq _
          · exact mono_eq _
          · exact mono_eq _
          · exact mono_eq _
          · exact mono_eq _
          · exact mono_eq _
          · exact mono_eq _
          · exact mono_eq _
          · exact mono_eq _
          · exact FR_mono _
          · exact mono_eq _
          · exact mono_eq _
          · exact mono_eq _
          · exact mono_eq _
          · exact mono_eq _
          · exact FR_mono _
          · exact mono_eq _
          · exact mono_eq _
          · exact mono_eq _
        · simp only [List.take_succ_cons, List.take_zero]
          refine ⟨?_, ?_, ?_, ?_, ?_, ?_, ?_, ?_, ?_, ?_, ?_, ?_, ?_, ?_, ?_, ?_, ?_, ?_, ?_, ?_, ?_, ?_, ?_, ?_, ?_, ?_, ?_, ?_, ?_, ?_, ?_, ?_, ?_, ?_, ?_, ?_, ?_, ?_, ?_, ?_, ?_, ?_, ?_, ?_, ?_, ?_, ?_, ?_, ?_, ?_, ?_, ?_, trivial⟩
          · intro a ws hb hag hdep K Q hK
            have d10 : (a.tmps[10]?).getD undef = .pointer (some ⟨g4, 0, none⟩) := eval_get (hag 10 (freeB_spec (by kernel_rfl)))
            rw [if_pos (show Region.wanted _ _ = true from rfl)]
            have HS2 := HR3.out.1.go hb
            have y0 := HS2.c0; have y1 := HS2.c1'; have yl := HS2.lt
            unfold Oper.wp
            simp [go_sem, d10, y0, y1]
            exact hK _ _ (Below.refl _ _) rfl
          · intro a ws hb hag hdep K Q hK
            have d12 : (a.tmps[12]?).getD undef = .pointer (some ⟨gq, 0, none⟩) := eval_get (hag 12 (freeB_spec (by kernel_rfl)))
            rw [if_pos (show Region.wanted _ _ = true from rfl)]
            have hB2 := HQ.out.go hb
            have yl := hB2.lt
            unfold Oper.wp
            simp [go_sem, d12]
            exact hK _ _ (Below.refl _ _) rfl
          · intro a ws hb hag hdep K Q hK
            have d58 : (a.tmps[58]?).getD undef = .pointer (some ⟨gq, 0, none⟩) := eval_get (dep_of hdep 1 58 rfl (by kernel_rfl) rfl rfl)
            rw [if_pos (show Region.wanted _ _ = true from rfl)]
            have hB2 := HQ.out.go hb
            have yc := hB2.c0
            unfold Oper.wp
            simp [go_sem, d58, yc]
            exact hK _ _ (Below.refl _ _) rfl
          · intro a ws hb hag hdep K Q hK
            have d12 : (a.tmps[12]?).getD undef = .pointer (some ⟨gq, 0, none⟩) := eval_get (hag 12 (freeB_spec (by kernel_rfl)))
            rw [if_pos (show Region.wanted _ _ = true from rfl)]
            have hB2 := HQ.out.go hb
            have yl := hB2.lt
            unfold Oper.wp
            simp [go_sem, d12]
            exact hK _ _ (Below.refl _ _) rfl
          · intro a ws hb hag hdep K Q hK
            have d60 : (a.tmps[60]?).getD undef = .pointer (some ⟨gq, 1, none⟩) := eval_get (dep_of hdep 3 60 rfl (by kernel_rfl) rfl rfl)
            rw [if_pos (show Region.wanted _ _ = true from rfl)]
            have hB2 := HQ.out.go hb
            have yc := hB2.c1
            unfold Oper.wp
            simp [go_sem, d60, yc]
            exact hK _ _ (Below.refl _ _) rfl
          · intro a ws hb hag hdep K Q hK
            have d57 : (a.tmps[57]?).getD undef = .agg #[.int .i64 n, .slice A1 l.length c1] := eval_get (dep_of hdep 0 57 rfl (by kernel_rfl) rfl rfl)
            have d59 : (a.tmps[59]?).getD undef = .int .i64 pu := eval_get (dep_of hdep 2 59 rfl (by kernel_rfl) rfl rfl)
            have d61 : (a.tmps[61]?).getD undef = .int .i64 pv := eval_get (dep_of hdep 4 61 rfl (by kernel_rfl) rfl rfl)
            rw [if_pos (show Region.wanted _ _ = true from rfl)]
            have HS2 := HR3.out.1.go hb
            have hcon := CF9.out ws HS2.re
            unfold Oper.wp
            simp [go_sem, d57, d59, d61]
            refine hcon.mono ?_
            rintro e w3 ⟨rfl, hb3⟩
            exact hK _ _ hb3 rfl
          · intro a ws hb hag hdep K Q hK
            have d10 : (a.tmps[10]?).getD undef = .pointer (some ⟨g4, 0, none⟩) := eval_get (hag 10 (freeB_spec (by kernel_rfl)))
            rw [if_pos (show Region.wanted _ _ = true from rfl)]
            have HS2 := HR3.out.1.go hb
            have y0 := HS2.c0; have y1 := HS2.c1'; have yl := HS2.lt
            unfold Oper.wp
            simp [go_sem, d10, y0, y1]
            exact hK _ _ (Below.refl _ _) rfl
          · intro a ws hb hag hdep K Q hK
            have d12 : (a.tmps[12]?).getD undef = .pointer (some ⟨gq, 0, none⟩) := eval_get (hag 12 (freeB_spec (by kernel_rfl)))
            rw [if_pos (show Region.wanted _ _ = true from rfl)]
            have hB2 := HQ.out.go hb
            have yl := hB2.lt
            unfold Oper.wp
            simp [go_sem, d12]
            exact hK _ _ (Below.refl _ _) rfl
          · intro a ws hb hag hdep K Q hK
            have d64 : (a.tmps[64]?).getD undef = .pointer (some ⟨gq, 0, none⟩) := eval_get (dep_of hdep 7 64 rfl (by kernel_rfl) rfl rfl)
            rw [if_pos (show Region.wanted _ _ = true from rfl)]
            have hB2 := HQ.out.go hb
            have yc := hB2.c0
            unfold Oper.wp
            simp [go_sem, d64, yc]
            exact hK _ _ (Below.refl _ _) rfl
          · intro a ws hb hag hdep K Q hK
            have d12 : (a.tmps[12]?).getD undef = .pointer (some ⟨gq, 0, none⟩) := eval_get (hag 12 (freeB_spec (by kernel_rfl)))
            rw [if_pos (show Region.wanted _ _ = true from rfl)]
            have hB2 := HQ.out.go hb
            have yl := hB2.lt
            unfold Oper.wp
            simp [go_sem, d12]
            exact hK _ _ (Below.refl _ _) rfl
          · intro a ws hb hag hdep K Q hK
            have d66 : (a.tmps[66]?).getD undef = .pointer (some ⟨gq, 1, none⟩) := eval_get (dep_of hdep 9 66 rfl (by kernel_rfl) rfl rfl)
            rw [if_pos (show Region.wanted _ _ = true from rfl)]
            have hB2 := HQ.out.go hb
            have yc := hB2.c1
            unfold Oper.wp
            simp [go_sem, d66, yc]
            exact hK _ _ (Below.refl _ _) rfl
          · intro a ws hb hag hdep K Q hK
            have d63 : (a.tmps[63]?).getD undef = .agg #[.int .i64 n, .slice A1 l.length c1] := eval_get (dep_of hdep 6 63 rfl (by kernel_rfl) rfl rfl)
            have d65 : (a.tmps[65]?).getD undef = .int .i64 pu := eval_get (dep_of hdep 8 65 rfl (by kernel_rfl) rfl rfl)
            have d67 : (a.tmps[67]?).getD undef = .int .i64 pv := eval_get (dep_of hdep 10 67 rfl (by kernel_rfl) rfl rfl)
            rw [if_pos (show Region.wanted _ _ = true from rfl)]
            have HS2 := HR3.out.1.go hb
            have hcon := CF10.out ws HS2.re
            unfold Oper.wp
            simp [go_sem, d63, d65, d67]
            refine hcon.mono ?_
            rintro e w3 ⟨rfl, hb3⟩
            exact hK _ _ hb3 rfl
          · intro a ws hb hag hdep K Q hK
            have d62 : (a.tmps[62]?).getD undef = .int .i64 fi := eval_get (dep_of hdep 5 62 rfl (by kernel_rfl) rfl rfl)
            have d68 : (a.tmps[68]?).getD undef = .int .i64 fi := eval_get (dep_of hdep 11 68 rfl (by kernel_rfl) rfl rfl)
            rw [if_pos (show Region.wanted _ _ = true from rfl)]
            unfold Oper.wp
            simp [go_sem, d62, d68]
            exact hK _ _ (Below.refl _ _) rfl
          · intro a ws hb hag hdep K Q hK
            have d69 : (a.tmps[69]?).getD undef = .bool false := eval_get (dep_of hdep 12 69 rfl (by kernel_rfl) rfl rfl)
            rw [if_pos (show Region.wanted _ _ = true from rfl)]
            unfold Oper.wp
            simp [go_sem, d69]
            exact hK _ _ (Below.refl _ _) rfl
          · intro a ws hb hag hdep K Q hK
            have d10 : (a.tmps[10]?).getD undef = .pointer (some ⟨g4, 0, none⟩) := eval_get (hag 10 (freeB_spec (by kernel_rfl)))
            have dg : a.eval (.tmp 70) = .bool false := dep_of hdep 13 70 rfl (by kernel_rfl) rfl rfl
            rw [if_pos (wanted_at (l := _) rfl rfl rfl dg)]
            have HS2 := HR3.out.1.go hb
            have y0 := HS2.c0; have y1 := HS2.c1'; have yl := HS2.lt
            unfold Oper.wp
            simp [go_sem, d10, y0, y1]
            exact hK _ _ (Below.refl _ _) rfl
          · intro a ws hb hag hdep K Q hK
            have d12 : (a.tmps[12]?).getD undef = .pointer (some ⟨gq, 0, none⟩) := eval_get (hag 12 (freeB_spec (by kernel_rfl)))
            have dg : a.eval (.tmp 70) = .bool false := dep_of hdep 13 70 rfl (by kernel_rfl) rfl rfl
            rw [if_pos (wanted_at (l := _) rfl rfl rfl dg)]
            have hB2 := HQ.out.go hb
            have yl := hB2.lt
            unfold Oper.wp
            simp [go_sem, d12]
            exact hK _ _ (Below.refl _ _) rfl
          · intro a ws hb hag hdep K Q hK
            have d72 : (a.tmps[72]?).getD undef = .pointer (some ⟨gq, 0, none⟩) := eval_get (dep_of hdep 15 72 rfl (by kernel_rfl) rfl rfl)
            have dg : a.eval (.tmp 70) = .bool false := dep_of hdep 13 70 rfl (by kernel_rfl) rfl rfl
            rw [if_pos (wanted_at (l := _) rfl rfl rfl dg)]
            have hB2 := HQ.out.go hb
            have yc := hB2.c0
            unfold Oper.wp
            simp [go_sem, d72, yc]
            exact hK _ _ (Below.refl _ _) rfl
          · intro a ws hb hag hdep K Q hK
            have d71 : (a.tmps[71]?).getD undef = .agg #[.int .i64 n, .slice A1 l.length c1] := eval_get (dep_of hdep 14 71 rfl (by kernel_rfl) rfl rfl)
            have d73 : (a.tmps[73]?).getD undef = .int .i64 pu := eval_get (dep_of hdep 16 73 rfl (by kernel_rfl) rfl rfl)
            have dg : a.eval (.tmp 70) = .bool false := dep_of hdep 13 70 rfl (by kernel_rfl) rfl rfl
            rw [if_pos (wanted_at (l := _) rfl rfl rfl dg)]
            have HS2 := HR3.out.1.go hb
            have hcon := CF12.out ws HS2.re
            unfold Oper.wp
            simp [go_sem, d71, d73]
            refine hcon.mono ?_
            rintro e w3 ⟨A9, c9, rfl, h9, hb3⟩
            exact hK _ _ hb3 ⟨A9, c9, rfl, h9⟩
          · intro a ws hb hag hdep K Q hK
            have d10 : (a.tmps[10]?).getD undef = .pointer (some ⟨g4, 0, none⟩) := eval_get (hag 10 (freeB_spec (by kernel_rfl)))
            have dg : a.eval (.tmp 70) = .bool false := dep_of hdep 13 70 rfl (by kernel_rfl) rfl rfl
            rw [if_pos (wanted_at (l := _) rfl rfl rfl dg)]
            have HS2 := HR3.out.1.go hb
            have y0 := HS2.c0; have y1 := HS2.c1'; have yl := HS2.lt
            unfold Oper.wp
            simp [go_sem, d10, y0, y1]
            exact hK _ _ (Below.refl _ _) rfl
          · intro a ws hb hag hdep K Q hK
            have d12 : (a.tmps[12]?).getD undef = .pointer (some ⟨gq, 0, none⟩) := eval_get (hag 12 (freeB_spec (by kernel_rfl)))
            have dg : a.eval (.tmp 70) = .bool false := dep_of hdep 13 70 rfl (by kernel_rfl) rfl rfl
            rw [if_pos (wanted_at (l := _) rfl rfl rfl dg)]
            have hB2 := HQ.out.go hb
            have yl := hB2.lt
            unfold Oper.wp
            simp [go_sem, d12]
            exact hK _ _ (Below.refl _ _) rfl
          · intro a ws hb hag hdep K Q hK
            have d76 : (a.tmps[76]?).getD undef = .pointer (some ⟨gq, 0, none⟩) := eval_get (dep_of hdep 19 76 rfl (by kernel_rfl) rfl rfl)
            have dg : a.eval (.tmp 70) = .bool false := dep_of hdep 13 70 rfl (by kernel_rfl) rfl rfl
            rw [if_pos (wanted_at (l := _) rfl rfl rfl dg)]
            have hB2 := HQ.out.go hb
            have yc := hB2.c0
            unfold Oper.wp
            simp [go_sem, d76, yc]
            exact hK _ _ (Below.refl _ _) rfl
          · intro a ws hb hag hdep K Q hK
            have d75 : (a.tmps[75]?).getD undef = .agg #[.int .i64 n, .slice A1 l.length c1] := eval_get (dep_of hdep 18 75 rfl (by kernel_rfl) rfl rfl)
            have d77 : (a.tmps[77]?).getD undef = .int .i64 pu := eval_get (dep_of hdep 20 77 rfl (by kernel_rfl) rfl rfl)
            have dg : a.eval (.tmp 70) = .bool false := dep_of hdep 13 70 rfl (by kernel_rfl) rfl rfl
            rw [if_pos (wanted_at (l := _) rfl rfl rfl dg)]
            have HS2 := HR3.out.1.go hb
            have hcon := CF13.out ws HS2.re
            unfold Oper.wp
            simp [go_sem, d75, d77]
            refine hcon.mono ?_
            rintro e w3 ⟨A9, c9, rfl, h9, hb3⟩
            exact hK _ _ hb3 ⟨A9, c9, rfl, h9⟩
          · intro a ws hb hag hdep K Q hK
            have d74 : (FR nb) (a.eval (.tmp 74)) ws := dep_of hdep 17 74 rfl (by kernel_rfl) rfl rfl
            have d78 : (FR nb) (a.eval (.tmp 78)) ws := dep_of hdep 21 78 rfl (by kernel_rfl) rfl rfl
            have dg : a.eval (.tmp 70) = .bool false := dep_of hdep 13 70 rfl (by kernel_rfl) rfl rfl
            rw [if_pos (wanted_at (l := _) rfl rfl rfl dg)]
            obtain ⟨A7, c7, ea, h7⟩ := d74
            have ea := eval_get ea
            obtain ⟨A8, c8, eb, h8⟩ := d78
            have eb := eval_get eb
            have hcon := same_any A7 A8 c7 c8 nb nb ws h7 h8 hnb hnb
            rw [eqB_self] at hcon
            unfold Oper.wp
            simp [go_sem, ea, eb]
            refine hcon.mono ?_
            rintro e w3 ⟨rfl, hb3⟩
            exact hK _ _ hb3 rfl
          · intro a ws hb hag hdep K Q hK
            have d79 : (a.tmps[79]?).getD undef = .bool true := eval_get (dep_of hdep 22 79 rfl (by kernel_rfl) rfl rfl)
            have dg : a.eval (.tmp 70) = .bool false := dep_of hdep 13 70 rfl (by kernel_rfl) rfl rfl
            rw [if_pos (wanted_at (l := _) rfl rfl rfl dg)]
            unfold Oper.wp
            simp [go_sem, d79]
            exact hK _ _ (Below.refl _ _) rfl
          · intro a ws hb hag hdep K Q hK
            have d70 : (a.tmps[70]?).getD undef = .bool false := eval_get (dep_of hdep 13 70 rfl (by kernel_rfl) rfl rfl)
            have d80 : (a.tmps[80]?).getD undef = .bool false := eval_get (dep_of hdep 23 80 rfl (by kernel_rfl) rfl rfl)
            rw [if_pos (show Region.wanted _ _ = true from rfl)]
            unfold Oper.wp
            simp [go_sem, d70, d80]
            exact hK _ _ (Below.refl _ _) rfl
          · intro a ws hb hag hdep K Q hK
            have d81 : (a.tmps[81]?).getD undef = .bool false := eval_get (dep_of hdep 24 81 rfl (by kernel_rfl) rfl rfl)
            rw [if_pos (show Region.wanted _ _ = true from rfl)]
            unfold Oper.wp
            simp [go_sem, d81]
            exact hK _ _ (Below.refl _ _) rfl
          · intro a ws hb hag hdep K Q hK
            have d10 : (a.tmps[10]?).getD undef = .pointer (some ⟨g4, 0, none⟩) := eval_get (hag 10 (freeB_spec (by kernel_rfl)))
            have dg : a.eval (.tmp 82) = .bool false := dep_of hdep 25 82 rfl (by kernel_rfl) rfl rfl
            rw [if_pos (wanted_at (l := _) rfl rfl rfl dg)]
            have HS2 := HR3.out.1.go hb
            have y0 := HS2.c0; have y1 := HS2.c1'; have yl := HS2.lt
            unfold Oper.wp
            simp [go_sem, d10, y0, y1]
            exact hK _ _ (Below.refl _ _) rfl
          · intro a ws hb hag hdep K Q hK
            have d12 : (a.tmps[12]?).getD undef = .pointer (some ⟨gq, 0, none⟩) := eval_get (hag 12 (freeB_spec (by kernel_rfl)))
            have dg : a.eval (.tmp 82) = .bool false := dep_of hdep 25 82 rfl (by kernel_rfl) rfl rfl
            rw [if_pos (wanted_at (l := _) rfl rfl rfl dg)]
            have hB2 := HQ.out.go hb
            have yl := hB2.lt
            unfold Oper.wp
            simp [go_sem, d12]
            exact hK _ _ (Below.refl _ _) rfl
          · intro a ws hb hag hdep K Q hK
            have d84 : (a.tmps[84]?).getD undef = .pointer (some ⟨gq, 1, none⟩) := eval_get (dep_of hdep 27 84 rfl (by kernel_rfl) rfl rfl)
            have dg : a.eval (.tmp 82) = .bool false := dep_of hdep 25 82 rfl (by kernel_rfl) rfl rfl
            rw [if_pos (wanted_at (l := _) rfl rfl rfl dg)]
            have hB2 := HQ.out.go hb
            have yc := hB2.c1
            unfold Oper.wp
            simp [go_sem, d84, yc]
            exact hK _ _ (Below.refl _ _) rfl
          · intro a ws hb hag hdep K Q hK
            have d83 : (a.tmps[83]?).getD undef = .agg #[.int .i64 n, .slice A1 l.length c1] := eval_get (dep_of hdep 26 83 rfl (by kernel_rfl) rfl rfl)
            have d85 : (a.tmps[85]?).getD undef = .int .i64 pv := eval_get (dep_of hdep 28 85 rfl (by kernel_rfl) rfl rfl)
            have dg : a.eval (.tmp 82) = .bool false := dep_of hdep 25 82 rfl (by kernel_rfl) rfl rfl
            rw [if_pos (wanted_at (l := _) rfl rfl rfl dg)]
            have HS2 := HR3.out.1.go hb
            have hcon := CF14.out ws HS2.re
            unfold Oper.wp
            simp [go_sem, d83, d85]
            refine hcon.mono ?_
            rintro e w3 ⟨rfl, hb3⟩
            exact hK _ _ hb3 rfl
          · intro a ws hb hag hdep K Q hK
            have d10 : (a.tmps[10]?).getD undef = .pointer (some ⟨g4, 0, none⟩) := eval_get (hag 10 (freeB_spec (by kernel_rfl)))
            have dg : a.eval (.tmp 82) = .bool false := dep_of hdep 25 82 rfl (by kernel_rfl) rfl rfl
            rw [if_pos (wanted_at (l := _) rfl rfl rfl dg)]
            have HS2 := HR3.out.1.go hb
            have y0 := HS2.c0; have y1 := HS2.c1'; have yl := HS2.lt
            unfold Oper.wp
            simp [go_sem, d10, y0, y1]
            exact hK _ _ (Below.refl _ _) rfl
          · intro a ws hb hag hdep K Q hK
            have d12 : (a.tmps[12]?).getD undef = .pointer (some ⟨gq, 0, none⟩) := eval_get (hag 12 (freeB_spec (by kernel_rfl)))
            have dg : a.eval (.tmp 82) = .bool false := dep_of hdep 25 82 rfl (by kernel_rfl) rfl rfl
            rw [if_pos (wanted_at (l := _) rfl rfl rfl dg)]
            have hB2 := HQ.out.go hb
            have yl := hB2.lt
            unfold Oper.wp
            simp [go_sem, d12]
            exact hK _ _ (Below.refl _ _) rfl
          · intro a ws hb hag hdep K Q hK
            have d88 : (a.tmps[88]?).getD undef = .pointer (some ⟨gq, 1, none⟩) := eval_get (dep_of hdep 31 88 rfl (by kernel_rfl) rfl rfl)
            have dg : a.eval (.tmp 82) = .bool false := dep_of hdep 25 82 rfl (by kernel_rfl) rfl rfl
            rw [if_pos (wanted_at (l := _) rfl rfl rfl dg)]
            have hB2 := HQ.out.go hb
            have yc := hB2.c1
            unfold Oper.wp
            simp [go_sem, d88, yc]
            exact hK _ _ (Below.refl _ _) rfl
          · intro a ws hb hag hdep K Q hK
            have d87 : (a.tmps[87]?).getD undef = .agg #[.int .i64 n, .slice A1 l.length c1] := eval_get (dep_of hdep 30 87 rfl (by kernel_rfl) rfl rfl)
            have d89 : (a.tmps[89]?).getD undef = .int .i64 pv := eval_get (dep_of hdep 32 89 rfl (by kernel_rfl) rfl rfl)
            have dg : a.eval (.tmp 82) = .bool false := dep_of hdep 25 82 rfl (by kernel_rfl) rfl rfl
            rw [if_pos (wanted_at (l := _) rfl rfl rfl dg)]
            have HS2 := HR3.out.1.go hb
            have hcon := CF15.out ws HS2.re
            unfold Oper.wp
            simp [go_sem, d87, d89]
            refine hcon.mono ?_
            rintro e w3 ⟨rfl, hb3⟩
            exact hK _ _ hb3 rfl
          · intro a ws hb hag hdep K Q hK
            have d86 : (a.tmps[86]?).getD undef = .int .i64 (dg : Int) := eval_get (dep_of hdep 29 86 rfl (by kernel_rfl) rfl rfl)
            have d90 : (a.tmps[90]?).getD undef = .int .i64 (dg : Int) := eval_get (dep_of hdep 33 90 rfl (by kernel_rfl) rfl rfl)
            have dg : a.eval (.tmp 82) = .bool false := dep_of hdep 25 82 rfl (by kernel_rfl) rfl rfl
            rw [if_pos (wanted_at (l := _) rfl rfl rfl dg)]
            unfold Oper.wp
            simp [go_sem, d86, d90]
            exact hK _ _ (Below.refl _ _) rfl
          · intro a ws hb hag hdep K Q hK
            have d82 : (a.tmps[82]?).getD undef = .bool false := eval_get (dep_of hdep 25 82 rfl (by kernel_rfl) rfl rfl)
            have d91 : (a.tmps[91]?).getD undef = .bool false := eval_get (dep_of hdep 34 91 rfl (by kernel_rfl) rfl rfl)
            rw [if_pos (show Region.wanted _ _ = true from rfl)]
            unfold Oper.wp
            simp [go_sem, d82, d91]
            exact hK _ _ (Below.refl _ _) rfl
          · intro a ws hb hag hdep K Q hK
            have d92 : (a.tmps[92]?).getD undef = .bool false := eval_get (dep_of hdep 35 92 rfl (by kernel_rfl) rfl rfl)
            rw [if_pos (show Region.wanted _ _ = true from rfl)]
            unfold Oper.wp
            simp [go_sem, d92]
            exact hK _ _ (Below.refl _ _) rfl
          · intro a ws hb hag hdep K Q hK
            have d10 : (a.tmps[10]?).getD undef = .pointer (some ⟨g4, 0, none⟩) := eval_get (hag 10 (freeB_spec (by kernel_rfl)))
            have dg : a.eval (.tmp 93) = .bool false := dep_of hdep 36 93 rfl (by kernel_rfl) rfl rfl
            rw [if_pos (wanted_at (l := _) rfl rfl rfl dg)]
            have HS2 := HR3.out.1.go hb
            have y0 := HS2.c0; have y1 := HS2.c1'; have yl := HS2.lt
            unfold Oper.wp
            simp [go_sem, d10, y0, y1]
            exact hK _ _ (Below.refl _ _) rfl
          · intro a ws hb hag hdep K Q hK
            have d12 : (a.tmps[12]?).getD undef = .pointer (some ⟨gq, 0, none⟩) := eval_get (hag 12 (freeB_spec (by kernel_rfl)))
            have dg : a.eval (.tmp 93) = .bool false := dep_of hdep 36 93 rfl (by kernel_rfl) rfl rfl
            rw [if_pos (wanted_at (l := _) rfl rfl rfl dg)]
            have hB2 := HQ.out.go hb
            have yl := hB2.lt
            unfold Oper.wp
            simp [go_sem, d12]
            exact hK _ _ (Below.refl _ _) rfl
          · intro a ws hb hag hdep K Q hK
            have d95 : (a.tmps[95]?).getD undef = .pointer (some ⟨gq, 0, none⟩) := eval_get (dep_of hdep 38 95 rfl (by kernel_rfl) rfl rfl)
            have dg : a.eval (.tmp 93) = .bool false := dep_of hdep 36 93 rfl (by kernel_rfl) rfl rfl
            rw [if_pos (wanted_at (l := _) rfl rfl rfl dg)]
            have hB2 := HQ.out.go hb
            have yc := hB2.c0
            unfold Oper.wp
            simp [go_sem, d95, yc]
            exact hK _ _ (Below.refl _ _) rfl
          · intro a ws hb hag hdep K Q hK
            have d12 : (a.tmps[12]?).getD undef = .pointer (some ⟨gq, 0, none⟩) := eval_get (hag 12 (freeB_spec (by kernel_rfl)))
            have dg : a.eval (.tmp 93) = .bool false := dep_of hdep 36 93 rfl (by kernel_rfl) rfl rfl
            rw [if_pos (wanted_at (l := _) rfl rfl rfl dg)]
            have hB2 := HQ.out.go hb
            have yl := hB2.lt
            unfold Oper.wp
            simp [go_sem, d12]
            exact hK _ _ (Below.refl _ _) rfl
          · intro a ws hb hag hdep K Q hK
            have d97 : (a.tmps[97]?).getD undef = .pointer (some ⟨gq, 1, none⟩) := eval_get (dep_of hdep 40 97 rfl (by kernel_rfl) rfl rfl)
            have dg : a.eval (.tmp 93) = .bool false := dep_of hdep 36 93 rfl (by kernel_rfl) rfl rfl
            rw [if_pos (wanted_at (l := _) rfl rfl rfl dg)]
            have hB2 := HQ.out.go hb
            have yc := hB2.c1
            unfold Oper.wp
            simp [go_sem, d97, yc]
            exact hK _ _ (Below.refl _ _) rfl
          · intro a ws hb hag hdep K Q hK
            have d94 : (a.tmps[94]?).getD undef = .agg #[.int .i64 n, .slice A1 l.length c1] := eval_get (dep_of hdep 37 94 rfl (by kernel_rfl) rfl rfl)
            have d96 : (a.tmps[96]?).getD undef = .int .i64 pu := eval_get (dep_of hdep 39 96 rfl (by kernel_rfl) rfl rfl)
            have d98 : (a.tmps[98]?).getD undef = .int .i64 pv := eval_get (dep_of hdep 41 98 rfl (by kernel_rfl) rfl rfl)
            have dg : a.eval (.tmp 93) = .bool false := dep_of hdep 36 93 rfl (by kernel_rfl) rfl rfl
            rw [if_pos (wanted_at (l := _) rfl rfl rfl dg)]
            have HS2 := HR3.out.1.go hb
            have hcon := CF16.out ws HS2.re
            unfold Oper.wp
            simp [go_sem, d94, d96, d98]
            refine hcon.mono ?_
            rintro e w3 ⟨A9, c9, rfl, h9, hb3⟩
            exact hK _ _ hb3 ⟨A9, c9, rfl, h9⟩
          · intro a ws hb hag hdep K Q hK
            have d10 : (a.tmps[10]?).getD undef = .pointer (some ⟨g4, 0, none⟩) := eval_get (hag 10 (freeB_spec (by kernel_rfl)))
            have dg : a.eval (.tmp 93) = .bool false := dep_of hdep 36 93 rfl (by kernel_rfl) rfl rfl
            rw [if_pos (wanted_at (l := _) rfl rfl rfl dg)]
            have HS2 := HR3.out.1.go hb
            have y0 := HS2.c0; have y1 := HS2.c1'; have yl := HS2.lt
            unfold Oper.wp
            simp [go_sem, d10, y0, y1]
            exact hK _ _ (Below.refl _ _) rfl
          · intro a ws hb hag hdep K Q hK
            have d12 : (a.tmps[12]?).getD undef = .pointer (some ⟨gq, 0, none⟩) := eval_get (hag 12 (freeB_spec (by kernel_rfl)))
            have dg : a.eval (.tmp 93) = .bool false := dep_of hdep 36 93 rfl (by kernel_rfl) rfl rfl
            rw [if_pos (wanted_at (l := _) rfl rfl rfl dg)]
            have hB2 := HQ.out.go hb
            have yl := hB2.lt
            unfold Oper.wp
            simp [go_sem, d12]
            exact hK _ _ (Below.refl _ _) rfl
          · intro a ws hb hag hdep K Q hK
            have d101 : (a.tmps[101]?).getD undef = .pointer (some ⟨gq, 0, none⟩) := eval_get (dep_of hdep 44 101 rfl (by kernel_rfl) rfl rfl)
            have dg : a.eval (.tmp 93) = .bool false := dep_of hdep 36 93 rfl (by kernel_rfl) rfl rfl
            rw [if_pos (wanted_at (l := _) rfl rfl rfl dg)]
            have hB2 := HQ.out.go hb
            have yc := hB2.c0
            unfold Oper.wp
            simp [go_sem, d101, yc]
            exact hK _ _ (Below.refl _ _) rfl
          · intro a ws hb hag hdep K Q hK
            have d12 : (a.tmps[12]?).getD undef = .pointer (some ⟨gq, 0, none⟩) := eval_get (hag 12 (freeB_spec (by kernel_rfl)))
            have dg : a.eval (.tmp 93) = .bool false := dep_of hdep 36 93 rfl (by kernel_rfl) rfl rfl
            rw [if_pos (wanted_at (l := _) rfl rfl rfl dg)]
            have hB2 := HQ.out.go hb
            have yl := hB2.lt
            unfold Oper.wp
            simp [go_sem, d12]
            exact hK _ _ (Below.refl _ _) rfl
          · intro a ws hb hag hdep K Q hK
            have d103 : (a.tmps[103]?).getD undef = .pointer (some ⟨gq, 1, none⟩) := eval_get (dep_of hdep 46 103 rfl (by kernel_rfl) rfl rfl)
            have dg : a.eval (.tmp 93) = .bool false := dep_of hdep 36 93 rfl (by kernel_rfl) rfl rfl
            rw [if_pos (wanted_at (l := _) rfl rfl rfl dg)]
            have hB2 := HQ.out.go hb
            have yc := hB2.c1
            unfold Oper.wp
            simp [go_sem, d103, yc]
            exact hK _ _ (Below.refl _ _) rfl
          · intro a ws hb hag hdep K Q hK
            have d100 : (a.tmps[100]?).getD undef = .agg #[.int .i64 n, .slice A1 l.length c1] := eval_get (dep_of hdep 43 100 rfl (by kernel_rfl) rfl rfl)
            have d102 : (a.tmps[102]?).getD undef = .int .i64 pu := eval_get (dep_of hdep 45 102 rfl (by kernel_rfl) rfl rfl)
            have d104 : (a.tmps[104]?).getD undef = .int .i64 pv := eval_get (dep_of hdep 47 104 rfl (by kernel_rfl) rfl rfl)
            have dg : a.eval (.tmp 93) = .bool false := dep_of hdep 36 93 rfl (by kernel_rfl) rfl rfl
            rw [if_pos (wanted_at (l := _) rfl rfl rfl dg)]
            have HS2 := HR3.out.1.go hb
            have hcon := CF17.out ws HS2.re
            unfold Oper.wp
            simp [go_sem, d100, d102, d104]
            refine hcon.mono ?_
            rintro e w3 ⟨A9, c9, rfl, h9, hb3⟩
            exact hK _ _ hb3 ⟨A9, c9, rfl, h9⟩
          · intro a ws hb hag hdep K Q hK
            have d99 : (FR cm) (a.eval (.tmp 99)) ws := dep_of hdep 42 99 rfl (by kernel_rfl) rfl rfl
            have d105 : (FR cm) (a.eval (.tmp 105)) ws := dep_of hdep 48 105 rfl (by kernel_rfl) rfl rfl
            have dg : a.eval (.tmp 93) = .bool false := dep_of hdep 36 93 rfl (by kernel_rfl) rfl rfl
            rw [if_pos (wanted_at (l := _) rfl rfl rfl dg)]
            obtain ⟨A7, c7, ea, h7⟩ := d99
            have ea := eval_get ea
            obtain ⟨A8, c8, eb, h8⟩ := d105
            have eb := eval_get eb
            have hcon := same_any A7 A8 c7 c8 cm cm ws h7 h8 hcm hcm
            rw [eqB_self] at hcon
            unfold Oper.wp
            simp [go_sem, ea, eb]
            refine hcon.mono ?_
            rintro e w3 ⟨rfl, hb3⟩
            exact hK _ _ hb3 rfl
          · intro a ws hb hag hdep K Q hK
            have d106 : (a.tmps[106]?).getD undef = .bool true := eval_get (dep_of hdep 49 106 rfl (by kernel_rfl) rfl rfl)
            have dg : a.eval (.tmp 93) = .bool false := dep_of hdep 36 93 rfl (by kernel_rfl) rfl rfl
            rw [if_pos (wanted_at (l := _) rfl rfl rfl dg)]
            unfold Oper.wp
            simp [go_sem, d106]
            exact hK _ _ (Below.refl _ _) rfl
          · intro a ws hb hag hdep K Q hK
            have d93 : (a.tmps[93]?).getD undef = .bool false := eval_get (dep_of hdep 36 93 rfl (by kernel_rfl) rfl rfl)
            have d107 : (a.tmps[107]?).getD undef = .bool false := eval_get (dep_of hdep 50 107 rfl (by kernel_rfl) rfl rfl)
            rw [if_pos (show Region.wanted _ _ = true from rfl)]
            unfold Oper.wp
            simp [go_sem, d93, d107]
            exact hK _ _ (Below.refl _ _) rfl
        · intro a ws hb hsz hdf hag hend
          have f57 : a.eval (.tmp 57) = .agg #[.int .i64 n, .slice A1 l.length c1] := end_of hend 0 57 (by decide) rfl rfl rfl
          have f58 : a.eval (.tmp 58) = .pointer (some ⟨gq, 0, none⟩) := end_of hend 1 58 (by decide) rfl rfl rfl
          have f59 : a.eval (.tmp 59) = .int .i64 pu := end_of hend 2 59 (by decide) rfl rfl rfl
          have f60 : a.eval (.tmp 60) = .pointer (some ⟨gq, 1, none⟩) := end_of hend 3 60 (by decide) rfl rfl rfl
          have f61 : a.eval (.tmp 61) = .int .i64 pv := end_of hend 4 61 (by decide) rfl rfl rfl
          have f62 : a.eval (.tmp 62) = .int .i64 fi := end_of hend 5 62 (by decide) rfl rfl rfl
          have f63 : a.eval (.tmp 63) = .agg #[.int .i64 n, .slice A1 l.length c1] := end_of hend 6 63 (by decide) rfl rfl rfl
          have f64 : a.eval (.tmp 64) = .pointer (some ⟨gq, 0, none⟩) := end_of hend 7 64 (by decide) rfl rfl rfl
          have f65 : a.eval (.tmp 65) = .int .i64 pu := end_of hend 8 65 (by decide) rfl rfl rfl
          have f66 : a.eval (.tmp 66) = .pointer (some ⟨gq, 1, none⟩) := end_of hend 9 66 (by decide) rfl rfl rfl
          have f67 : a.eval (.tmp 67) = .int .i64 pv := end_of hend 10 67 (by decide) rfl rfl rfl
          have f68 : a.eval (.tmp 68) = .int .i64 fi := end_of hend 11 68 (by decide) rfl rfl rfl
          have f69 : a.eval (.tmp 69) = .bool false := end_of hend 12 69 (by decide) rfl rfl rfl
          have f70 : a.eval (.tmp 70) = .bool false := end_of hend 13 70 (by decide) rfl rfl rfl
          have f71 : a.eval (.tmp 71) = .agg #[.int .i64 n, .slice A1 l.length c1] := end_of hend 14 71 (by decide) rfl rfl rfl
          have f72 : a.eval (.tmp 72) = .pointer (some ⟨gq, 0, none⟩) := end_of hend 15 72 (by decide) rfl rfl rfl
          have f73 : a.eval (.tmp 73) = .int .i64 pu := end_of hend 16 73 (by decide) rfl rfl rfl
          have f74 : (FR nb) (a.eval (.tmp 74)) ws := end_of hend 17 74 (by decide) rfl rfl rfl
          have f75 : a.eval (.tmp 75) = .agg #[.int .i64 n, .slice A1 l.length c1] := end_of hend 18 75 (by decide) rfl rfl rfl
          have f76 : a.eval (.tmp 76) = .pointer (some ⟨gq, 0, none⟩) := end_of hend 19 76 (by decide) rfl rfl rfl
          have f77 : a.eval (.tmp 77) = .int .i64 pu := end_of hend 20 77 (by decide) rfl rfl rfl
          have f78 : (FR nb) (a.eval (.tmp 78)) ws := end_of hend 21 78 (by decide) rfl rfl rfl
          have f79 : a.eval (.tmp 79) = .bool true := end_of hend 22 79 (by decide) rfl rfl rfl
          have f80 : a.eval (.tmp 80) = .bool false := end_of hend 23 80 (by decide) rfl rfl rfl
          have f81 : a.eval (.tmp 81) = .bool false := end_of hend 24 81 (by decide) rfl rfl rfl
          have f82 : a.eval (.tmp 82) = .bool false := end_of hend 25 82 (by decide) rfl rfl rfl
          have f83 : a.eval (.tmp 83) = .agg #[.int .i64 n, .slice A1 l.length c1] := end_of hend 26 83 (by decide) rfl rfl rfl
          have f84 : a.eval (.tmp 84) = .pointer (some ⟨gq, 1, none⟩) := end_of hend 27 84 (by decide) rfl rfl rfl
          have f85 : a.eval (.tmp 85) = .int .i64 pv := end_of hend 28 85 (by decide) rfl rfl rfl
          have f86 : a.eval (.tmp 86) = .int .i64 (dg : Int) := end_of hend 29 86 (by decide) rfl rfl rfl
          have f87 : a.eval (.tmp 87) = .agg #[.int .i64 n, .slice A1 l.length c1] := end_of hend 30 87 (by decide) rfl rfl rfl
          have f88 : a.eval (.tmp 88) = .pointer (some ⟨gq, 1, none⟩) := end_of hend 31 88 (by decide) rfl rfl rfl
          have f89 : a.eval (.tmp 89) = .int .i64 pv := end_of hend 32 89 (by decide) rfl rfl rfl
          have f90 : a.eval (.tmp 90) = .int .i64 (dg : Int) := end_of hend 33 90 (by decide) rfl rfl rfl
          have f91 : a.eval (.tmp 91) = .bool false := end_of hend 34 91 (by decide) rfl rfl rfl
          have f92 : a.eval (.tmp 92) = .bool false := end_of hend 35 92 (by decide) rfl rfl rfl
          have f93 : a.eval (.tmp 93) = .bool false := end_of hend 36 93 (by decide) rfl rfl rfl
          have f94 : a.eval (.tmp 94) = .agg #[.int .i64 n, .slice A1 l.length c1] := end_of hend 37 94 (by decide) rfl rfl rfl
          have f95 : a.eval (.tmp 95) = .pointer (some ⟨gq, 0, none⟩) := end_of hend 38 95 (by decide) rfl rfl rfl
          have f96 : a.eval (.tmp 96) = .int .i64 pu := end_of hend 39 96 (by decide) rfl rfl rfl
          have f97 : a.eval (.tmp 97) = .pointer (some ⟨gq, 1, none⟩) := end_of hend 40 97 (by decide) rfl rfl rfl
          have f98 : a.eval (.tmp 98) = .int .i64 pv := end_of hend 41 98 (by decide) rfl rfl rfl
          have f99 : (FR cm) (a.eval (.tmp 99)) ws := end_of hend 42 99 (by decide) rfl rfl rfl
          have f100 : a.eval (.tmp 100) = .agg #[.int .i64 n, .slice A1 l.length c1] := end_of hend 43 100 (by decide) rfl rfl rfl
          have f101 : a.eval (.tmp 101) = .pointer (some ⟨gq, 0, none⟩) := end_of hend 44 101 (by decide) rfl rfl rfl
          have f102 : a.eval (.tmp 102) = .int .i64 pu := end_of hend 45 102 (by decide) rfl rfl rfl
          have f103 : a.eval (.tmp 103) = .pointer (some ⟨gq, 1, none⟩) := end_of hend 46 103 (by decide) rfl rfl rfl
          have f104 : a.eval (.tmp 104) = .int .i64 pv := end_of hend 47 104 (by decide) rfl rfl rfl
          have f105 : (FR cm) (a.eval (.tmp 105)) ws := end_of hend 48 105 (by decide) rfl rfl rfl
          have f106 : a.eval (.tmp 106) = .bool true := end_of hend 49 106 (by decide) rfl rfl rfl
          have f107 : a.eval (.tmp 107) = .bool false := end_of hend 50 107 (by decide) rfl rfl rfl
          have f108 : a.eval (.tmp 108) = .bool false := end_of hend 51 108 (by decide) rfl rfl rfl
          have ea := act_block 57 52 hsz hdf hag [57, 58, 59, 60, 61, 62, 63, 64, 65, 66, 67, 68, 69, 70, 71, 72, 73, 74, 75, 76, 77, 78, 79, 80, 81, 82, 83, 84, 85, 86, 87, 88, 89, 90, 91, 92, 93, 94, 95, 96, 97, 98, 99, 100, 101, 102, 103, 104, 105, 106, 107, 108] (by kernel_rfl) (by kernel_rfl) (of_decide_eq_true (by kernel_rfl))
          clear hag hend hsz hdf
          simp only [List.map_cons, List.map_nil, f57, f58, f59, f60, f61, f62, f63, f64, f65, f66, f67, f68, f69, f70, f71, f72, f73, f75, f76, f77, f79, f80, f81, f82, f83, f84, f85, f86, f87, f88, f89, f90, f91, f92, f93, f94, f95, f96, f97, f98, f100, f101, f102, f103, f104, f106, f107, f108] at ea
          clear f57 f58 f59 f60 f61 f62 f63 f64 f65 f66 f67 f68 f69 f70 f71 f72 f73 f75 f76 f77 f79 f80 f81 f82 f83 f84 f85 f86 f87 f88 f89 f90 f91 f92 f93 f94 f95 f96 f97 f98 f100 f101 f102 f103 f104 f106 f107 f108
          generalize a.eval (.tmp 74) = x74 at ea f74
          generalize a.eval (.tmp 78) = x78 at ea f78
          generalize a.eval (.tmp 99) = x99 at ea f99
          generalize a.eval (.tmp 105) = x105 at ea f105
          simp only [List.take_succ_cons, List.take_zero, List.drop_succ_cons, List.drop_zero, List.cons_append, List.nil_append] at ea
          subst ea
          have HR4 := Lib.hid (HR3.out.go hb)
          clear hb
          simp only [List.drop_succ_cons, List.drop_zero]
          go_wp2
          go_roundw
          case rel => exact ⟨k + 1, by omega, by go_num, HR4.out⟩
          case measure => simp [RowKit.intOf]; omega
      · obtain rfl : k = 3 := by omega
        obtain ⟨m7, hd7⟩ := HR.out.1.dk
        have z9 := HR.out.1.lt
        go_wp2_with fail
        refine (set_any w.heap.size w.heap.size A c L m7 8 _ hd7 hL (by omega)).mono ?_
        rintro e w3 ⟨sa, A5, c5, m8, rfl, -, -, hsa, ho5, hdk, hgr⟩
        have HS3 := Lib.hid (HR.out.1.next hdk hgr)
        have HD5 := Lib.hid (RD.of_own ho5)
        have HRR := Lib.hid (HRAW.out.go HS3.out.bel)
        clear hd7 hdk hgr ho5 HR hk hlt z9
        obtain ⟨gs, Hgs⟩ : ∃ x, Hid (w3.heap.size = x) := ⟨_, rfl⟩
        obtain ⟨W4, HW4⟩ : ∃ x, Hid (w3.alloc (.cells #[.slice AR R.length cR, .slice A5 sa.length c5] 22) = x) := ⟨_, rfl⟩
        have HI : Hid (CK w w.heap.size g4 A c L n A1 c1 l gs AR cR R A5 c5 sa W4) := by
          show CK _ _ _ _ _ _ _ _ _ _ _ _ _ _ _ _ _ _
          rw [← HW4.out, ← Hgs.out]
          exact ⟨HS3.out.go (alloc_new _ _), heap_alloc_new _ _, HRR.out.go (alloc_new _ _), HD5.out.go (alloc_new _ _)⟩
        go_wp2_with fail
        rw [HW4.out, Hgs.out]
        clear HW4 Hgs HS3 HD5 HRR
        go_loopw [115] (fun i wr => ∃ (k : Nat), k ≤ 2 ∧ i = .int .i64 k ∧ Hid (CK w w.heap.size g4 A c L n A1 c1 l gs AR cR R A5 c5 sa wr)) (fun i _ => 2 - (RowKit.intOf i).toNat)
        case atStart => exact ⟨0, Nat.zero_le _, rfl, HI.out⟩
        case round =>
          clear HI
          obtain ⟨k, hk, rfl, HR⟩ := hrel
          by_cases hlt : k < 2
          · obtain ⟨AS, cS, S, p0, hrd, hS⟩ := HR.out.at_ (by omega) (by omega) hlt
            have pl := lt_of_some HR.out.b
            have HRD := Lib.hid hrd
            clear hrd
            obtain ⟨ce, Hce⟩ : ∃ x, Hid (chk n l = x) := ⟨_, rfl⟩
            obtain ⟨ni, Hni⟩ : ∃ x, Hid ((if ce = 0 then n else 0) = x) := ⟨_, rfl⟩
            obtain ⟨li, Hli⟩ : ∃ x, Hid ((if ce = 0 then ind l S else []) = x) := ⟨_, rfl⟩
            obtain ⟨dn, Hdn⟩ : ∃ x, Hid (denN n l S = x) := ⟨_, rfl⟩
            obtain ⟨dd, Hdd⟩ : ∃ x, Hid (denD n l S = x) := ⟨_, rfl⟩
            obtain ⟨il, Hil⟩ : ∃ x, Hid ((insL n l S).length = x) := ⟨_, rfl⟩
            have hli : li.length ≤ 65536 := by
              rw [← Hli.out]; split
              · exact Nat.le_trans (List.length_filter_le _ _) (by omega)
              · simp
            have CG19 := Lib.hid (fun (W : World) (h : RE W.heap.size W A1 c1 l) (h' : RD W AS cS S) => gind_any n A1 AS c1 cS l S W h h' (by omega) hS)
            have CG20 := Lib.hid (fun (W : World) (h : RE W.heap.size W A1 c1 l) (h' : RD W AS cS S) => rind_any n A1 AS c1 cS l S W h h' (by omega) hS)
            have CG21 := Lib.hid (fun (W : World) (h : RE W.heap.size W A1 c1 l) (h' : RD W AS cS S) => gden_any n A1 AS c1 cS l S W h h' (by omega) hS)
            have CG22 := Lib.hid (fun (W : World) (h : RE W.heap.size W A1 c1 l) (h' : RD W AS cS S) => rden_any n A1 AS c1 cS l S W h h' (by omega) hS)
            have CG24 := Lib.hid (fun (W : World) (h : RE W.heap.size W A1 c1 l) (h' : RD W AS cS S) => gins_any n A1 AS c1 cS l S W h h' (by omega) hS)
            have CG25 := Lib.hid (fun (W : World) (h : RE W.heap.size W A1 c1 l) (h' : RD W AS cS S) => rins_any n A1 AS c1 cS l S W h h' (by omega) hS)
            simp only [Hce.out, Hni.out, Hli.out] at CG19 CG20
            simp only [Hce.out, Hdn.out, Hdd.out] at CG21 CG22
            simp only [Hil.out] at CG24 CG25
            have z0 := HR.out.ls.c0; have z1 := HR.out.ls.c1'; have z2 := HR.out.ls.lt
            go_wp2_with fail
            clear p0 pl z0 z1 z2
            refine (CG19.out wr HR.out.ls.re HRD.out).mono ?_
            rintro e v1 ⟨Aa, ca, rfl, ho, hb⟩
            have HV := Lib.hid (HR.out.go hb)
            have HU := Lib.hid (HRD.out.go hb)
            have HO : Hid (RE v1.heap.size v1 Aa ca li) := RE.of_own ho
            clear hb CG19 ho HR HRD
            obtain ⟨ga, Hga⟩ : ∃ x, Hid (v1.heap.size = x) := ⟨_, rfl⟩
            obtain ⟨V1, HV1⟩ : ∃ x, Hid (v1.alloc (.cells #[.int .i64 ni, .slice Aa li.length ca] 28) = x) := ⟨_, rfl⟩
            have HR1 : Hid (CK w w.heap.size g4 A c L n A1 c1 l gs AR cR R A5 c5 sa V1) := by show CK _ _ _ _ _ _ _ _ _ _ _ _ _ _ _ _ _ _; rw [← HV1.out]; exact HV.out.go (alloc_new _ _)
            have HD1 : Hid (RD V1 AS cS S) := by show RD _ _ _ _; rw [← HV1.out]; exact HU.out.go (alloc_new _ _)
            have Ha1 : Hid (BX ga ni Aa ca li V1) := by show BX _ _ _ _ _ _; rw [← HV1.out, ← Hga.out]; exact BX.new HO.out _
            have z0 := HV.out.ls.c0; have z1 := HV.out.ls.c1'; have z2 := HV.out.ls.lt
            go_wp2_with fail
            rw [HV1.out, Hga.out]
            clear z0 z1 z2 HV HU HO
            refine (CG20.out V1 HR1.out.ls.re HD1.out).mono ?_
            rintro e v2 ⟨Ab, cb, rfl, ho, hb⟩
            have HV := Lib.hid (HR1.out.go hb)
            have HU := Lib.hid (HD1.out.go hb)
            have HO : Hid (RE v2.heap.size v2 Ab cb li) := RE.of_own ho
            have HEa := Lib.hid (Ha1.out.go hb)
            clear hb CG20 ho HR1 HD1 Ha1
            obtain ⟨gb, Hgb⟩ : ∃ x, Hid (v2.heap.size = x) := ⟨_, rfl⟩
            obtain ⟨V2, HV2⟩ : ∃ x, Hid (v2.alloc (.cells #[.int .i64 ni, .slice Ab li.length cb] 28) = x) := ⟨_, rfl⟩
            have HR2 : Hid (CK w w.heap.size g4 A c L n A1 c1 l gs AR cR R A5 c5 sa V2) := by show CK _ _ _ _ _ _ _ _ _ _ _ _ _ _ _ _ _ _; rw [← HV2.out]; exact HV.out.go (alloc_new _ _)
            have HD2 : Hid (RD V2 AS cS S) := by show RD _ _ _ _; rw [← HV2.out]; exact HU.out.go (alloc_new _ _)
            have Hb2 : Hid (BX gb ni Ab cb li V2) := by show BX _ _ _ _ _ _; rw [← HV2.out, ← Hgb.out]; exact BX.new HO.out _
            have Ha2 : Hid (BX ga ni Aa ca li V2) := by show BX _ _ _ _ _ _; rw [← HV2.out]; exact HEa.out.go (alloc_new _ _)
            have z0 := HV.out.ls.c0; have z1 := HV.out.ls.c1'; have z2 := HV.out.ls.lt
            go_wp2_with fail
            rw [HV2.out, Hgb.out]
            clear z0 z1 z2 HV HU HO HEa
            refine (CG21.out V2 HR2.out.ls.re HD2.out).mono ?_
            rintro e v3 ⟨rfl, hb⟩
            have HV := Lib.hid (HR2.out.go hb)
            have HU := Lib.hid (HD2.out.go hb)
            have HEa := Lib.hid (Ha2.out.go hb)
            have HEb := Lib.hid (Hb2.out.go hb)
            clear hb CG21 HR2 HD2 Ha2 Hb2
            obtain ⟨gx, Hgx⟩ : ∃ x, Hid (v3.heap.size = x) := ⟨_, rfl⟩
            obtain ⟨V3, HV3⟩ : ∃ x, Hid (v3.alloc (.cells #[.int .i64 dn, .int .i64 dd] 45) = x) := ⟨_, rfl⟩
            have HR3 : Hid (CK w w.heap.size g4 A c L n A1 c1 l gs AR cR R A5 c5 sa V3) := by show CK _ _ _ _ _ _ _ _ _ _ _ _ _ _ _ _ _ _; rw [← HV3.out]; exact HV.out.go (alloc_new _ _)
            have HD3 : Hid (RD V3 AS cS S) := by show RD _ _ _ _; rw [← HV3.out]; exact HU.out.go (alloc_new _ _)
            have Hx3 : Hid (B2 gx dn dd 45 V3) := by show B2 _ _ _ _ _; rw [← HV3.out, ← Hgx.out]; exact heap_alloc_new _ _
            have Ha3 : Hid (BX ga ni Aa ca li V3) := by show BX _ _ _ _ _ _; rw [← HV3.out]; exact HEa.out.go (alloc_new _ _)
            have Hb3 : Hid (BX gb ni Ab cb li V3) := by show BX _ _ _ _ _ _; rw [← HV3.out]; exact HEb.out.go (alloc_new _ _)
            have z0 := HV.out.ls.c0; have z1 := HV.out.ls.c1'; have z2 := HV.out.ls.lt
            go_wp2_with fail
            rw [HV3.out, Hgx.out]
            clear z0 z1 z2 HV HU HEa HEb
            refine (CG22.out V3 HR3.out.ls.re HD3.out).mono ?_
            rintro e v4 ⟨rfl, hb⟩
            have HV := Lib.hid (HR3.out.go hb)
            have HU := Lib.hid (HD3.out.go hb)
            have HEa := Lib.hid (Ha3.out.go hb)
            have HEb := Lib.hid (Hb3.out.go hb)
            have HEx := Lib.hid (Hx3.out.go hb)
            clear hb CG22 HR3 HD3 Ha3 Hb3 Hx3
            obtain ⟨gy, Hgy⟩ : ∃ x, Hid (v4.heap.size = x) := ⟨_, rfl⟩
            obtain ⟨V4, HV4⟩ : ∃ x, Hid (v4.alloc (.cells #[.int .i64 dn, .int .i64 dd] 45) = x) := ⟨_, rfl⟩
            have HR4 : Hid (CK w w.heap.size g4 A c L n A1 c1 l gs AR cR R A5 c5 sa V4) := by show CK _ _ _ _ _ _ _ _ _ _ _ _ _ _ _ _ _ _; rw [← HV4.out]; exact HV.out.go (alloc_new _ _)
            have HD4 : Hid (RD V4 AS cS S) := by show RD _ _ _ _; rw [← HV4.out]; exact HU.out.go (alloc_new _ _)
            have Hy4 : Hid (B2 gy dn dd 45 V4) := by show B2 _ _ _ _ _; rw [← HV4.out, ← Hgy.out]; exact heap_alloc_new _ _
            have Ha4 : Hid (BX ga ni Aa ca li V4) := by show BX _ _ _ _ _ _; rw [← HV4.out]; exact HEa.out.go (alloc_new _ _)
            have Hb4 : Hid (BX gb ni Ab cb li V4) := by show BX _ _ _ _ _ _; rw [← HV4.out]; exact HEb.out.go (alloc_new _ _)
            have Hx4 : Hid (B2 gx dn dd 45 V4) := by show B2 _ _ _ _ _; rw [← HV4.out]; exact HEx.out.go (alloc_new _ _)
            go_wp2_with fail
            rw [HV4.out, Hgy.out]
            clear HV HU HEa HEb HEx
            have a0 := Ha4.out.c0; have a1 := Ha4.out.c1; have al := Ha4.out.lt; have b0 := Hb4.out.c0; have b1 := Hb4.out.c1; have bl := Hb4.out.lt
            have x0 := Hx4.out.c0; have x1 := Hx4.out.c1; have xl := Hx4.out.lt; have y0 := Hy4.out.c0; have y1 := Hy4.out.c1; have yl := Hy4.out.lt
            have z0 := HR4.out.ls.c0; have z1 := HR4.out.ls.c1'; have z2 := HR4.out.ls.lt
            have CS := Lib.hid (fun (x : More V4) => sameG_any ni ni Aa Ab ca cb li li (over V4 x) (Ha4.out.go (over_below _ x)).re (Hb4.out.go (over_below _ x)).re hli hli)
            simp only [sameG_self] at CS
            have CT := Lib.hid (fun (x : More V4) => CG24.out (over V4 x) (HR4.out.go (over_below _ x)).ls.re (HD4.out.go (over_below _ x)))
            have CU := Lib.hid (fun (x : More V4) => CG25.out (over V4 x) (HR4.out.go (over_below _ x)).ls.re (HD4.out.go (over_below _ x)))
            clear CG24 CG25
            refine wp_region_over (by kernel_rfl) (by kernel_rfl) ?_
            repeat (go_big_quiet_step (first | (go_at_call 23; exact calls_over (CS.out _)) | (go_at_call 24; exact calls_over (CT.out _)) | (go_at_call 25; exact calls_over (CU.out _))))
            refine wpQuiet_nil ?_
            rintro _ ⟨z, rfl⟩
            have HR5 := Lib.hid (HR4.out.go (over_below _ z))
            go_wp2
            go_roundw
            case rel => exact ⟨k + 1, by omega, by go_num, HR5.out⟩
            case measure => simp [RowKit.intOf]; omega
          · obtain rfl : k = 2 := by omega
            go_wp2_with fail
            refine (awake3_any _).mono ?_
            rintro e w10 ⟨rfl, hb10⟩
            have HB11 := Lib.hid (HR.out.ls.bel.trans (hb10.mono HR.out.ls.bel.size))
            clear hb10
            go_wp2
            go_ret
            exact ⟨rfl, HB11.out⟩
  · have e0 : (t == 0) = false := by simpa using h0
    have hl : l0.length ≤ 10001 := by omega
    have HS4 := HS3
    clear HS3
    obtain ⟨n, Hn⟩ : ∃ x : Int, Hid ((N : Int) = x) := ⟨_, rfl⟩
    go_wp2_with fail
    clear e0 h0
    rw [Hn.out] at HS4
    obtain ⟨m6, hd6⟩ := HS4.out.dk
    have HD6 := Lib.hid hd6
    clear hd6
    refine (next_any w.heap.size w.heap.size A c L _ 9 _ HD6.out hL (by omega)).mono ?_
    rintro e w6 ⟨r6, m7, rfl, -, -, hdk, hgr⟩
    have HS5 := Lib.hid (HS4.out.next hdk hgr)
    have HD7 := Lib.hid hdk
    clear hdk hgr HS4 HD6
    go_wp2_with fail
    refine (next_any w.heap.size w.heap.size A c L _ 9 _ HD7.out hL (by omega)).mono ?_
    rintro e w7 ⟨r7, m8, rfl, -, -, hdk, hgr⟩
    have HS6 := Lib.hid (HS5.out.next hdk hgr)
    have HD8 := Lib.hid hdk
    clear hdk hgr HS5 HD7
    go_wp2_with fail
    refine (next_any w.heap.size w.heap.size A c L _ 9 _ HD8.out hL (by omega)).mono ?_
    rintro e w8 ⟨r8, m9, rfl, hr0, hr1, hdk, hgr⟩
    have HS7 := Lib.hid (HS6.out.next hdk hgr)
    have HD9 := Lib.hid hdk
    clear hdk hgr HS6 HD8
    have hwr : IntKind.i64.wrap (r8 - 1) = r8 - 1 := IntWalk.i64_in _ (by omega)
    go_wp2_with fail
    refine (next_any w.heap.size w.heap.size A c L _ 9 _ HD9.out hL (by omega)).mono ?_
    rintro e w9 ⟨r9, m10, rfl, -, -, hdk, hgr⟩
    have HS8 := Lib.hid (HS7.out.next hdk hgr)
    have HD10 := Lib.hid hdk
    clear hdk hgr HS7 HD9
    go_wp2_with fail
    clear hwr hr0 hr1 HD10
    obtain ⟨gp, Hgp⟩ : ∃ x, Hid (w9.heap.size = x) := ⟨_, rfl⟩
    obtain ⟨ps, Hps⟩ : ∃ x, Hid ([(u, v), (r6, r7), (r8 - 1, r9)] = x) := ⟨_, rfl⟩
    have hps : 3 ≤ ps.length := by rw [← Hps.out]; simp
    have HI : Hid (CI w w.heap.size g4 A c L n A0 c0 l0 gp ps (w9.alloc (.cells #[.int .i64 u, .int .i64 v, .int .i64 r6, .int .i64 r7, .int .i64 (r8 - 1), .int .i64 r9] 32))) := by
      refine ⟨HS8.out.go (alloc_new _ _), ?_⟩
      rw [← Hgp.out, ← Hps.out]
      exact RE_block (l := [(u, v), (r6, r7), (r8 - 1, r9)]) (heap_alloc_new _ _) (by simp)
    rw [Hgp.out]
    clear HS8 Hps
    go_loopw [53] (fun i wr => ∃ (k : Nat), k ≤ 3 ∧ i = .int .i64 k ∧ Hid (CI w w.heap.size g4 A c L n A0 c0 l0 gp ps wr)) (fun i _ => 3 - (RowKit.intOf i).toNat)
    case atStart => exact ⟨0, Nat.zero_le _, rfl, HI.out⟩
    case round =>
      clear HI
      obtain ⟨k, hk, rfl, HR⟩ := hrel
      by_cases hlt : k < 3
      · obtain ⟨b9, o9, pu, pv, e9, hbp, _, p0, p1⟩ := HR.out.2.let_ (k := k) (by omega)
        simp only [Option.some.injEq, Addr.mk.injEq, and_true] at e9
        obtain ⟨rfl, rfl⟩ := e9
        simp only [Nat.zero_add] at p0 p1
        obtain ⟨fi, Hfi⟩ : ∃ x, Hid (find n l0 pu pv = x) := ⟨_, rfl⟩
        obtain ⟨dg, Hdg⟩ : ∃ x, Hid ((nbr n l0 pv).length = x) := ⟨_, rfl⟩
        obtain ⟨nb, Hnb⟩ : ∃ x, Hid (nbr n l0 pu = x) := ⟨_, rfl⟩
        obtain ⟨cm, Hcm⟩ : ∃ x, Hid (comE n l0 pu pv = x) := ⟨_, rfl⟩
        have hnb : nb.length ≤ 65536 := by rw [← Hnb.out]; have := nbr_len n l0 pu; omega
        have hcm : cm.length ≤ 65536 := by rw [← Hcm.out]; have := len_comE n l0 pu pv; omega
        have CF9 := Lib.hid (fun (W : World) (h : RE W.heap.size W A0 c0 l0) => gfind_any n A0 c0 l0 pu pv W h (by omega))
        have CF10 := Lib.hid (fun (W : World) (h : RE W.heap.size W A0 c0 l0) => find_any n A0 c0 l0 pu pv W h (by omega))
        have CF12 := Lib.hid (fun (W : World) (h : RE W.heap.size W A0 c0 l0) => gnbr_any n A0 c0 l0 pu W h (by omega))
        have CF13 := Lib.hid (fun (W : World) (h : RE W.heap.size W A0 c0 l0) => rnbr_any n A0 c0 l0 pu W h (by omega))
        have CF14 := Lib.hid (fun (W : World) (h : RE W.heap.size W A0 c0 l0) => gdeg_any n A0 c0 l0 pv W h (by omega))
        have CF15 := Lib.hid (fun (W : World) (h : RE W.heap.size W A0 c0 l0) => rdeg_any n A0 c0 l0 pv W h (by omega))
        have CF16 := Lib.hid (fun (W : World) (h : RE W.heap.size W A0 c0 l0) => gcom_any n A0 c0 l0 pu pv W h (by omega))
        have CF17 := Lib.hid (fun (W : World) (h : RE W.heap.size W A0 c0 l0) => rcom_any n A0 c0 l0 pu pv W h (by omega))
        simp only [Hfi.out] at CF9 CF10
        simp only [Hnb.out] at CF12 CF13
        simp only [Hdg.out] at CF14 CF15
        simp only [Hcm.out] at CF16 CF17
        obtain ⟨gq, Hgq⟩ : ∃ x, Hid (wr.heap.size = x) := ⟨_, rfl⟩
        obtain ⟨W3, HW3⟩ : ∃ x, Hid (wr.alloc (.cells #[.int .i64 pu, .int .i64 pv] 32) = x) := ⟨_, rfl⟩
        have HR3 : Hid (CI w w.heap.size g4 A c L n A0 c0 l0 gp ps W3) := by show CI _ _ _ _ _ _ _ _ _ _ _ _ _; rw [← HW3.out]; exact HR.out.go (alloc_new _ _)
        have HQ : Hid (B2 gq pu pv 32 W3) := by show B2 _ _ _ _ _; rw [← HW3.out, ← Hgq.out]; exact heap_alloc_new _ _
        go_wp2_with fail
        rw [HW3.out, Hgq.out]
        clear p0 p1 hbp
        refine wp_region_inv 52 173 [(fun z _ => z = .agg #[.int .i64 n, .slice A0 l0.length c0]), (fun z _ => z = .pointer (some ⟨gq, 0, none⟩)), (fun z _ => z = .int .i64 pu), (fun z _ => z = .pointer (some ⟨gq, 1, none⟩)), (fun z _ => z = .int .i64 pv), (fun z _ => z = .int .i64 fi), (fun z _ => z = .agg #[.int .i64 n, .slice A0 l0.length c0]), (fun z _ => z = .pointer (some ⟨gq, 0, none⟩)), (fun z _ => z = .int .i64 pu), (fun z _ => z = .pointer (some ⟨gq, 1, none⟩)), (fun z _ => z = .int .i64 pv), (fun z _ => z = .int .i64 fi), (fun z _ => z = .bool false), (fun z _ => z = .bool false), (fun z _ => z = .agg #[.int .i64 n, .slice A0 l0.length c0]), (fun z _ => z = .pointer (some ⟨gq, 0, none⟩)), (fun z _ => z = .int .i64 pu), (FR nb), (fun z _ => z = .agg #[.int .i64 n, .slice A0 l0.length c0]), (fun z _ => z = .pointer (some ⟨gq, 0, none⟩)), (fun z _ => z = .int .i64 pu), (FR nb), (fun z _ => z = .bool true), (fun z _ => z = .bool false), (fun z _ => z = .bool false), (fun z _ => z = .bool false), (fun z _ => z = .agg #[.int .i64 n, .slice A0 l0.length c0]), (fun z _ => z = .pointer (some ⟨gq, 1, none⟩)), (fun z _ => z = .int .i64 pv), (fun z _ => z = .int .i64 (dg : Int)), (fun z _ => z = .agg #[.int .i64 n, .slice A0 l0.length c0]), (fun z _ => z = .pointer (some ⟨gq, 1, none⟩)), (fun z _ => z = .int .i64 pv), (fun z _ => z = .int .i64 (dg : Int)), (fun z _ => z = .bool false), (fun z _ => z = .bool false), (fun z _ => z = .bool false), (fun z _ => z = .agg #[.int .i64 n, .slice A0 l0.length c0]), (fun z _ => z = .pointer (some ⟨gq, 0, none⟩)), (fun z _ => z = .int .i64 pu), (fun z _ => z = .pointer (some ⟨gq, 1, none⟩)), (fun z _ => z = .int .i64 pv), (FR cm), (fun z _ => z = .agg #[.int .i64 n, .slice A0 l0.length c0]), (fun z _ => z = .pointer (some ⟨gq, 0, none⟩)), (fun z _ => z = .int .i64 pu), (fun z _ => z = .pointer (some ⟨gq, 1, none⟩)), (fun z _ => z = .int .i64 pv), (FR cm), (fun z _ => z = .bool true), (fun z _ => z = .bool false), (fun z _ => z = .bool false)] (by kernel_rfl) (by kernel_rfl) rfl ?_ ?_ ?_
        · intro R hR
          simp only [List.mem_cons, List.not_mem_nil, or_false] at hR
          rcases hR with rfl | rfl | rfl | rfl | rfl | rfl | rfl | rfl | rfl | rfl | rfl | rfl | rfl | rfl | rfl | rfl | rfl | rfl | rfl | rfl | rfl | rfl | rfl | rfl | rfl | rfl | rfl | rfl | rfl | rfl | rfl | rfl | rfl | rfl | rfl | rfl | rfl | rfl | rfl | rfl | rfl | rfl | rfl | rfl | rfl | rfl | rfl | rfl | rfl | rfl | rfl | rfl
          · exact mono_eq _
          · exact mono_eq _
          · exact mono_eq _
          · exact mono_eq _
          · exact mono_eq _
          · exact mono_eq _
          · exact mono_eq _
          · exact mono_eq _
          · exact mono_eq _
          · exact mono_eq _
          · exact mono_eq _
          · exact mono_eq _
          · exact mono_eq _
          · exact mono_eq _
          · exact mono_eq _
          · exact mono_eq _
          · exact mono_eq _
          · exact FR_mono _
          · exact mono_eq _
          · exact mono_eq _
          · exact mono_eq _
          · exact FR_mono _
          · exact mono_eq _
          · exact mono_eq _
          · exact mono_eq _
          · exact mono_eq _
          · exact mono_eq _
          · exact mono_eq _
          · exact mono_eq _
          · exact mono_eq _
          · exact mono_eq _
          · exact mono_eq _
          · exact mono_eq _
          · exact mono_eq _
          · exact mono_eq _
          · exact mono_eq _
          · exact mono_eq _
          · exact mono_eq _
          · exact mono_eq _
          · exact mono_eq _
          · exact mono_eq _
          · exact mono_eq _
          · exact FR_mono _
          · exact mono_eq _
          · exact mono_eq _
          · exact mono_eq _
          · exact mono_eq _
          · exact mono_eq _
          · exact FR_mono _
          · exact mono_eq _
          · exact mono_eq _
          · exact mono_eq _
        · simp only [List.take_succ_cons, List.take_zero]
          refine ⟨?_, ?_, ?_, ?_, ?_, ?_, ?_, ?_, ?_, ?_, ?_, ?_, ?_, ?_, ?_, ?_, ?_, ?_, ?_, ?_, ?_, ?_, ?_, ?_, ?_, ?_, ?_, ?_, ?_, ?_, ?_, ?_, ?_, ?_, ?_, ?_, ?_, ?_, ?_, ?_, ?_, ?_, ?_, ?_, ?_, ?_, ?_, ?_, ?_, ?_, ?_, ?_, trivial⟩
          · intro a ws hb hag hdep K Q hK
            have d10 : (a.tmps[10]?).getD undef = .pointer (some ⟨g4, 0, none⟩) := eval_get (hag 10 (freeB_spec (by kernel_rfl)))
            rw [if_pos (show Region.wanted _ _ = true from rfl)]
            have HS2 := HR3.out.1.go hb
            have y0 := HS2.c0; have y1 := HS2.c1'; have yl := HS2.lt
            unfold Oper.wp
            simp [go_sem, d10, y0, y1]
            exact hK _ _ (Below.refl _ _) rfl
          · intro a ws hb hag hdep K Q hK
            have d12 : (a.tmps[12]?).getD undef = .pointer (some ⟨gq, 0, none⟩) := eval_get (hag 12 (freeB_spec (by kernel_rfl)))
            rw [if_pos (show Region.wanted _ _ = true from rfl)]
            have hB2 := HQ.out.go hb
            have yl := hB2.lt
            unfold Oper.wp
            simp [go_sem, d12]
            exact hK _ _ (Below.refl _ _) rfl
          · intro a ws hb hag hdep K Q hK
            have d58 : (a.tmps[58]?).getD undef = .pointer (some ⟨gq, 0, none⟩) := eval_get (dep_of hdep 1 58 rfl (by kernel_rfl) rfl rfl)
            rw [if_pos (show Region.wanted _ _ = true from rfl)]
            have hB2 := HQ.out.go hb
            have yc := hB2.c0
            unfold Oper.wp
            simp [go_sem, d58, yc]
            exact hK _ _ (Below.refl _ _) rfl
          · intro a ws hb hag hdep K Q hK
            have d12 : (a.tmps[12]?).getD undef = .pointer (some ⟨gq, 0, none⟩) := eval_get (hag 12 (freeB_spec (by kernel_rfl)))
            rw [if_pos (show Region.wanted _ _ = true from rfl)]
            have hB2 := HQ.out.go hb
            have yl := hB2.lt
            unfold Oper.wp
            simp [go_sem, d12]
            exact hK _ _ (Below.refl _ _) rfl
          · intro a ws hb hag hdep K Q hK
            have d60 : (a.tmps[60]?).getD undef = .pointer (some ⟨gq, 1, none⟩) := eval_get (dep_of hdep 3 60 rfl (by kernel_rfl) rfl rfl)
            rw [if_pos (show Region.wanted _ _ = true from rfl)]
            have hB2 := HQ.out.go hb
            have yc := hB2.c1
            unfold Oper.wp
            simp [go_sem, d60, yc]
            exact hK _ _ (Below.refl _ _) rfl
          · intro a ws hb hag hdep K Q hK
            have d57 : (a.tmps[57]?).getD undef = .agg #[.int .i64 n, .slice A0 l0.length c0] := eval_get (dep_of hdep 0 57 rfl (by kernel_rfl) rfl rfl)
            have d59 : (a.tmps[59]?).getD undef = .int .i64 pu := eval_get (dep_of hdep 2 59 rfl (by kernel_rfl) rfl rfl)
            have d61 : (a.tmps[61]?).getD undef = .int .i64 pv := eval_get (dep_of hdep 4 61 rfl (by kernel_rfl) rfl rfl)
            rw [if_pos (show Region.wanted _ _ = true from rfl)]
            have HS2 := HR3.out.1.go hb
            have hcon := CF9.out ws HS2.re
            unfold Oper.wp
            simp [go_sem, d57, d59, d61]
            refine hcon.mono ?_
            rintro e w3 ⟨rfl, hb3⟩
            exact hK _ _ hb3 rfl
          · intro a ws hb hag hdep K Q hK
            have d10 : (a.tmps[10]?).getD undef = .pointer (some ⟨g4, 0, none⟩) := eval_get (hag 10 (freeB_spec (by kernel_rfl)))
            rw [if_pos (show Region.wanted _ _ = true from rfl)]
            have HS2 := HR3.out.1.go hb
            have y0 := HS2.c0; have y1 := HS2.c1'; have yl := HS2.lt
            unfold Oper.wp
            simp [go_sem, d10, y0, y1]
            exact hK _ _ (Below.refl _ _) rfl
          · intro a ws hb hag hdep K Q hK
            have d12 : (a.tmps[12]?).getD undef = .pointer (some ⟨gq, 0, none⟩) := eval_get (hag 12 (freeB_spec (by kernel_rfl)))
            rw [if_pos (show Region.wanted _ _ = true from rfl)]
            have hB2 := HQ.out.go hb
            have yl := hB2.lt
            unfold Oper.wp
            simp [go_sem, d12]
            exact hK _ _ (Below.refl _ _) rfl
          · intro a ws hb hag hdep K Q hK
            have d64 : (a.tmps[64]?).getD undef = .pointer (some ⟨gq, 0, none⟩) := eval_get (dep_of hdep 7 64 rfl (by kernel_rfl) rfl rfl)
            rw [if_pos (show Region.wanted _ _ = true from rfl)]
            have hB2 := HQ.out.go hb
            have yc := hB2.c0
            unfold Oper.wp
            simp [go_sem, d64, yc]
            exact hK _ _ (Below.refl _ _) rfl
          · intro a ws hb hag hdep K Q hK
            have d12 : (a.tmps[12]?).getD undef = .pointer (some ⟨gq, 0, none⟩) := eval_get (hag 12 (freeB_spec (by kernel_rfl)))
            rw [if_pos (show Region.wanted _ _ = true from rfl)]
            have hB2 := HQ.out.go hb
            have yl := hB2.lt
            unfold Oper.wp
            simp [go_sem, d12]
            exact hK _ _ (Below.refl _ _) rfl
          · intro a ws hb hag hdep K Q hK
            have d66 : (a.tmps[66]?).getD undef = .pointer (some ⟨gq, 1, none⟩) := eval_get (dep_of hdep 9 66 rfl (by kernel_rfl) rfl rfl)
            rw [if_pos (show Region.wanted _ _ = true from rfl)]
            have hB2 := HQ.out.go hb
            have yc := hB2.c1
            unfold Oper.wp
            simp [go_sem, d66, yc]
            exact hK _ _ (Below.refl _ _) rfl
          · intro a ws hb hag hdep K Q hK
            have d63 : (a.tmps[63]?).getD undef = .agg #[.int .i64 n, .slice A0 l0.length c0] := eval_get (dep_of hdep 6 63 rfl (by kernel_rfl) rfl rfl)
            have d65 : (a.tmps[65]?).getD undef = .int .i64 pu := eval_get (dep_of hdep 8 65 rfl (by kernel_rfl) rfl rfl)
            have d67 : (a.tmps[67]?).getD undef = .int .i64 pv := eval_get (dep_of hdep 10 67 rfl (by kernel_rfl) rfl rfl)
            rw [if_pos (show Region.wanted _ _ = true from rfl)]
            have HS2 := HR3.out.1.go hb
            have hcon := CF10.out ws HS2.re
            unfold Oper.wp
            simp [go_sem, d63, d65, d67]
            refine hcon.mono ?_
            rintro e w3 ⟨rfl, hb3⟩
            exact hK _ _ hb3 rfl
          · intro a ws hb hag hdep K Q hK
            have d62 : (a.tmps[62]?).getD undef = .int .i64 fi := eval_get (dep_of hdep 5 62 rfl (by kernel_rfl) rfl rfl)
            have d68 : (a.tmps[68]?).getD undef = .int .i64 fi := eval_get (dep_of hdep 11 68 rfl (by kernel_rfl) rfl rfl)
            rw [if_pos (show Region.wanted _ _ = true from rfl)]
            unfold Oper.wp
            simp [go_sem, d62, d68]
            exact hK _ _ (Below.refl _ _) rfl
          · intro a ws hb hag hdep K Q hK
            have d69 : (a.tmps[69]?).getD undef = .bool false := eval_get (dep_of hdep 12 69 rfl (by kernel_rfl) rfl rfl)
            rw [if_pos (show Region.wanted _ _ = true from rfl)]
            unfold Oper.wp
            simp [go_sem, d69]
            exact hK _ _ (Below.refl _ _) rfl
          · intro a ws hb hag hdep K Q hK
            have d10 : (a.tmps[10]?).getD undef = .pointer (some ⟨g4, 0, none⟩) := eval_get (hag 10 (freeB_spec (by kernel_rfl)))
            have dg : a.eval (.tmp 70) = .bool false := dep_of hdep 13 70 rfl (by kernel_rfl) rfl rfl
            rw [if_pos (wanted_at (l := _) rfl rfl rfl dg)]
            have HS2 := HR3.out.1.go hb
            have y0 := HS2.c0; have y1 := HS2.c1'; have yl := HS2.lt
            unfold Oper.wp
            simp [go_sem, d10, y0, y1]
            exact hK _ _ (Below.refl _ _) rfl
          · intro a ws hb hag hdep K Q hK
            have d12 : (a.tmps[12]?).getD undef = .pointer (some ⟨gq, 0, none⟩) := eval_get (hag 12 (freeB_spec (by kernel_rfl)))
            have dg : a.eval (.tmp 70) = .bool false := dep_of hdep 13 70 rfl (by kernel_rfl) rfl rfl
            rw [if_pos (wanted_at (l := _) rfl rfl rfl dg)]
            have hB2 := HQ.out.go hb
            have yl := hB2.lt
            unfold Oper.wp
            simp [go_sem, d12]
            exact hK _ _ (Below.refl _ _) rfl
          · intro a ws hb hag hdep K Q hK
            have d72 : (a.tmps[72]?).getD undef = .pointer (some ⟨gq, 0, none⟩) := eval_get (dep_of hdep 15 72 rfl (by kernel_rfl) rfl rfl)
            have dg : a.eval (.tmp 70) = .bool false := dep_of hdep 13 70 rfl (by kernel_rfl) rfl rfl
            rw [if_pos (wanted_at (l := _) rfl rfl rfl dg)]
            have hB2 := HQ.out.go hb
            have yc := hB2.c0
            unfold Oper.wp
            simp [go_sem, d72, yc]
            exact hK _ _ (Below.refl _ _) rfl
          · intro a ws hb hag hdep K Q hK
            have d71 : (a.tmps[71]?).getD undef = .agg #[.int .i64 n, .slice A0 l0.length c0] := eval_get (dep_of hdep 14 71 rfl (by kernel_rfl) rfl rfl)
            have d73 : (a.tmps[73]?).getD undef = .int .i64 pu := eval_get (dep_of hdep 16 73 rfl (by kernel_rfl) rfl rfl)
            have dg : a.eval (.tmp 70) = .bool false := dep_of hdep 13 70 rfl (by kernel_rfl) rfl rfl
            rw [if_pos (wanted_at (l := _) rfl rfl rfl dg)]
            have HS2 := HR3.out.1.go hb
            have hcon := CF12.out ws HS2.re
            unfold Oper.wp
            simp [go_sem, d71, d73]
            refine hcon.mono ?_
            rintro e w3 ⟨A9, c9, rfl, h9, hb3⟩
            exact hK _ _ hb3 ⟨A9, c9, rfl, h9⟩
          · intro a ws hb hag hdep K Q hK
            have d10 : (a.tmps[10]?).getD undef = .pointer (some ⟨g4, 0, none⟩) := eval_get (hag 10 (freeB_spec (by kernel_rfl)))
            have dg : a.eval (.tmp 70) = .bool false := dep_of hdep 13 70 rfl (by kernel_rfl) rfl rfl
            rw [if_pos (wanted_at (l := _) rfl rfl rfl dg)]
            have HS2 := HR3.out.1.go hb
            have y0 := HS2.c0; have y1 := HS2.c1'; have yl := HS2.lt
            unfold Oper.wp
            simp [go_sem, d10, y0, y1]
            exact hK _ _ (Below.refl _ _) rfl
          · intro a ws hb hag hdep K Q hK
            have d12 : (a.tmps[12]?).getD undef = .pointer (some ⟨gq, 0, none⟩) := eval_get (hag 12 (freeB_spec (by kernel_rfl)))
            have dg : a.eval (.tmp 70) = .bool false := dep_of hdep 13 70 rfl (by kernel_rfl) rfl rfl
            rw [if_pos (wanted_at (l := _) rfl rfl rfl dg)]
            have hB2 := HQ.out.go hb
            have yl := hB2.lt
            unfold Oper.wp
            simp [go_sem, d12]
            exact hK _ _ (Below.refl _ _) rfl
          · intro a ws hb hag hdep K Q hK
            have d76 : (a.tmps[76]?).getD undef = .pointer (some ⟨gq, 0, none⟩) := eval_get (dep_of hdep 19 76 rfl (by kernel_rfl) rfl rfl)
            have dg : a.eval (.tmp 70) = .bool false := dep_of hdep 13 70 rfl (by kernel_rfl) rfl rfl
            rw [if_pos (wanted_at (l := _) rfl rfl rfl dg)]
            have hB2 := HQ.out.go hb
            have yc := hB2.c0
            unfold Oper.wp
            simp [go_sem, d76, yc]
            exact hK _ _ (Below.refl _ _) rfl
          · intro a ws hb hag hdep K Q hK
            have d75 : (a.tmps[75]?).getD undef = .agg #[.int .i64 n, .slice A0 l0.length c0] := eval_get (dep_of hdep 18 75 rfl (by kernel_rfl) rfl rfl)
            have d77 : (a.tmps[77]?).getD undef = .int .i64 pu := eval_get (dep_of hdep 20 77 rfl (by kernel_rfl) rfl rfl)
            have dg : a.eval (.tmp 70) = .bool false := dep_of hdep 13 70 rfl (by kernel_rfl) rfl rfl
            rw [if_pos (wanted_at (l := _) rfl rfl rfl dg)]
            have HS2 := HR3.out.1.go hb
            have hcon := CF13.out ws HS2.re
            unfold Oper.wp
            simp [go_sem, d75, d77]
            refine hcon.mono ?_
            rintro e w3 ⟨A9, c9, rfl, h9, hb3⟩
            exact hK _ _ hb3 ⟨A9, c9, rfl, h9⟩
          · intro a ws hb hag hdep K Q hK
            have d74 : (FR nb) (a.eval (.tmp 74)) ws := dep_of hdep 17 74 rfl (by kernel_rfl) rfl rfl
            have d78 : (FR nb) (a.eval (.tmp 78)) ws := dep_of hdep 21 78 rfl (by kernel_rfl) rfl rfl
            have dg : a.eval (.tmp 70) = .bool false := dep_of hdep 13 70 rfl (by kernel_rfl) rfl rfl
            rw [if_pos (wanted_at (l := _) rfl rfl rfl dg)]
            obtain ⟨A7, c7, ea, h7⟩ := d74
            have ea := eval_get ea
            obtain ⟨A8, c8, eb, h8⟩ := d78
            have eb := eval_get eb
            have hcon := same_any A7 A8 c7 c8 nb nb ws h7 h8 hnb hnb
            rw [eqB_self] at hcon
            unfold Oper.wp
            simp [go_sem, ea, eb]
            refine hcon.mono ?_
            rintro e w3 ⟨rfl, hb3⟩
            exact hK _ _ hb3 rfl
          · intro a ws hb hag hdep K Q hK
            have d79 : (a.tmps[79]?).getD undef = .bool true := eval_get (dep_of hdep 22 79 rfl (by kernel_rfl) rfl rfl)
            have dg : a.eval (.tmp 70) = .bool false := dep_of hdep 13 70 rfl (by kernel_rfl) rfl rfl
            rw [if_pos (wanted_at (l := _) rfl rfl rfl dg)]
            unfold Oper.wp
            simp [go_sem, d79]
            exact hK _ _ (Below.refl _ _) rfl
          · intro a ws hb hag hdep K Q hK
            have d70 : (a.tmps[70]?).getD undef = .bool false := eval_get (dep_of hdep 13 70 rfl (by kernel_rfl) rfl rfl)
            have d80 : (a.tmps[80]?).getD undef = .bool false := eval_get (dep_of hdep 23 80 rfl (by kernel_rfl) rfl rfl)
            rw [if_pos (show Region.wanted _ _ = true from rfl)]
            unfold Oper.wp
            simp [go_sem, d70, d80]
            exact hK _ _ (Below.refl _ _) rfl
          · intro a ws hb hag hdep K Q hK
            have d81 : (a.tmps[81]?).getD undef = .bool false := eval_get (dep_of hdep 24 81 rfl (by kernel_rfl) rfl rfl)
            rw [if_pos (show Region.wanted _ _ = true from rfl)]
            unfold Oper.wp
            simp [go_sem, d81]
            exact hK _ _ (Below.refl _ _) rfl
          · intro a ws hb hag hdep K Q hK
            have d10 : (a.tmps[10]?).getD undef = .pointer (some ⟨g4, 0, none⟩) := eval_get (hag 10 (freeB_spec (by kernel_rfl)))
            have dg : a.eval (.tmp 82) = .bool false := dep_of hdep 25 82 rfl (by kernel_rfl) rfl rfl
            rw [if_pos (wanted_at (l := _) rfl rfl rfl dg)]
            have HS2 := HR3.out.1.go hb
            have y0 := HS2.c0; have y1 := HS2.c1'; have yl := HS2.lt
            unfold Oper.wp
            simp [go_sem, d10, y0, y1]
            exact hK _ _ (Below.refl _ _) rfl
          · intro a ws hb hag hdep K Q hK
            have d12 : (a.tmps[12]?).getD undef = .pointer (some ⟨gq, 0, none⟩) := eval_get (hag 12 (freeB_spec (by kernel_rfl)))
            have dg : a.eval (.tmp 82) = .bool false := dep_of hdep 25 82 rfl (by kernel_rfl) rfl rfl
            rw [if_pos (wanted_at (l := _) rfl rfl rfl dg)]
            have hB2 := HQ.out.go hb
            have yl := hB2.lt
            unfold Oper.wp
            simp [go_sem, d12]
            exact hK _ _ (Below.refl _ _) rfl
          · intro a ws hb hag hdep K Q hK
            have d84 : (a.tmps[84]?).getD undef = .pointer (some ⟨gq, 1, none⟩) := eval_get (dep_of hdep 27 84 rfl (by kernel_rfl) rfl rfl)
            have dg : a.eval (.tmp 82) = .bool false := dep_of hdep 25 82 rfl (by kernel_rfl) rfl rfl
            rw [if_pos (wanted_at (l := _) rfl rfl rfl dg)]
            have hB2 := HQ.out.go hb
            have yc := hB2.c1
            unfold Oper.wp
            simp [go_sem, d84, yc]
            exact hK _ _ (Below.refl _ _) rfl
          · intro a ws hb hag hdep K Q hK
            have d83 : (a.tmps[83]?).getD undef = .agg #[.int .i64 n, .slice A0 l0.length c0] := eval_get (dep_of hdep 26 83 rfl (by kernel_rfl) rfl rfl)
            have d85 : (a.tmps[85]?).getD undef = .int .i64 pv := eval_get (dep_of hdep 28 85 rfl (by kernel_rfl) rfl rfl)
            have dg : a.eval (.tmp 82) = .bool false := dep_of hdep 25 82 rfl (by kernel_rfl) rfl rfl
            rw [if_pos (wanted_at (l := _) rfl rfl rfl dg)]
            have HS2 := HR3.out.1.go hb
            have hcon := CF14.out ws HS2.re
            unfold Oper.wp
            simp [go_sem, d83, d85]
            refine hcon.mono ?_
            rintro e w3 ⟨rfl, hb3⟩
            exact hK _ _ hb3 rfl
          · intro a ws hb hag hdep K Q hK
            have d10 : (a.tmps[10]?).getD undef = .pointer (some ⟨g4, 0, none⟩) := eval_get (hag 10 (freeB_spec (by kernel_rfl)))
            have dg : a.eval (.tmp 82) = .bool false := dep_of hdep 25 82 rfl (by kernel_rfl) rfl rfl
            rw [if_pos (wanted_at (l := _) rfl rfl rfl dg)]
            have HS2 := HR3.out.1.go hb
            have y0 := HS2.c0; have y1 := HS2.c1'; have yl := HS2.lt
            unfold Oper.wp
            simp [go_sem, d10, y0, y1]
            exact hK _ _ (Below.refl _ _) rfl
          · intro a ws hb hag hdep K Q hK
            have d12 : (a.tmps[12]?).getD undef = .pointer (some ⟨gq, 0, none⟩) := eval_get (hag 12 (freeB_spec (by kernel_rfl)))
            have dg : a.eval (.tmp 82) = .bool false := dep_of hdep 25 82 rfl (by kernel_rfl) rfl rfl
            rw [if_pos (wanted_at (l := _) rfl rfl rfl dg)]
            have hB2 := HQ.out.go hb
            have yl := hB2.lt
            unfold Oper.wp
            simp [go_sem, d12]
            exact hK _ _ (Below.refl _ _) rfl
          · intro a ws hb hag hdep K Q hK
            have d88 : (a.tmps[88]?).getD undef = .pointer (some ⟨gq, 1, none⟩) := eval_get (dep_of hdep 31 88 rfl (by kernel_rfl) rfl rfl)
            have dg : a.eval (.tmp 82) = .bool false := dep_of hdep 25 82 rfl (by kernel_rfl) rfl rfl
            rw [if_pos (wanted_at (l := _) rfl rfl rfl dg)]
            have hB2 := HQ.out.go hb
            have yc := hB2.c1
            unfold Oper.wp
            simp [go_sem, d88, yc]
            exact hK _ _ (Below.refl _ _) rfl
          · intro a ws hb hag hdep K Q hK
            have d87 : (a.tmps[87]?).getD undef = .agg #[.int .i64 n, .slice A0 l0.length c0] := eval_get (dep_of hdep 30 87 rfl (by kernel_rfl) rfl rfl)
            have d89 : (a.tmps[89]?).getD undef = .int .i64 pv := eval_get (dep_of hdep 32 89 rfl (by kernel_rfl) rfl rfl)
            have dg : a.eval (.tmp 82) = .bool false := dep_of hdep 25 82 rfl (by kernel_rfl) rfl rfl
            rw [if_pos (wanted_at (l := _) rfl rfl rfl dg)]
            have HS2 := HR3.out.1.go hb
            have hcon := CF15.out ws HS2.re
            unfold Oper.wp
            simp [go_sem, d87, d89]
            refine hcon.mono ?_
            rintro e w3 ⟨rfl, hb3⟩
            exact hK _ _ hb3 rfl
          · intro a ws hb hag hdep K Q hK
            have d86 : (a.tmps[86]?).getD undef = .int .i64 (dg : Int) := eval_get (dep_of hdep 29 86 rfl (by kernel_rfl) rfl rfl)
            have d90 : (a.tmps[90]?).getD undef = .int .i64 (dg : Int) := eval_get (dep_of hdep 33 90 rfl (by kernel_rfl) rfl rfl)
            have dg : a.eval (.tmp 82) = .bool false := dep_of hdep 25 82 rfl (by kernel_rfl) rfl rfl
            rw [if_pos (wanted_at (l := _) rfl rfl rfl dg)]
            unfold Oper.wp
            simp [go_sem, d86, d90]
            exact hK _ _ (Below.refl _ _) rfl
          · intro a ws hb hag hdep K Q hK
            have d82 : (a.tmps[82]?).getD undef = .bool false := eval_get (dep_of hdep 25 82 rfl (by kernel_rfl) rfl rfl)
            have d91 : (a.tmps[91]?).getD undef = .bool false := eval_get (dep_of hdep 34 91 rfl (by kernel_rfl) rfl rfl)
            rw [if_pos (show Region.wanted _ _ = true from rfl)]
            unfold Oper.wp
            simp [go_sem, d82, d91]
            exact hK _ _ (Below.refl _ _) rfl
          · intro a ws hb hag hdep K Q hK
            have d92 : (a.tmps[92]?).getD undef = .bool false := eval_get (dep_of hdep 35 92 rfl (by kernel_rfl) rfl rfl)
            rw [if_pos (show Region.wanted _ _ = true from rfl)]
            unfold Oper.wp
            simp [go_sem, d92]
            exact hK _ _ (Below.refl _ _) rfl
          · intro a ws hb hag hdep K Q hK
            have d10 : (a.tmps[10]?).getD undef = .pointer (some ⟨g4, 0, none⟩) := eval_get (hag 10 (freeB_spec (by kernel_rfl)))
            have dg : a.eval (.tmp 93) = .bool false := dep_of hdep 36 93 rfl (by kernel_rfl) rfl rfl
            rw [if_pos (wanted_at (l := _) rfl rfl rfl dg)]
            have HS2 := HR3.out.1.go hb
            have y0 := HS2.c0; have y1 := HS2.c1'; have yl := HS2.lt
            unfold Oper.wp
            simp [go_sem, d10, y0, y1]
            exact hK _ _ (Below.refl _ _) rfl
          · intro a ws hb hag hdep K Q hK
            have d12 : (a.tmps[12]?).getD undef = .pointer (some ⟨gq, 0, none⟩) := eval_get (hag 12 (freeB_spec (by kernel_rfl)))
            have dg : a.eval (.tmp 93) = .bool false := dep_of hdep 36 93 rfl (by kernel_rfl) rfl rfl
            rw [if_pos (wanted_at (l := _) rfl rfl rfl dg)]
            have hB2 := HQ.out.go hb
            have yl := hB2.lt
            unfold Oper.wp
            simp [go_sem, d12]
            exact hK _ _ (Below.refl _ _) rfl
          · intro a ws hb hag hdep K Q hK
            have d95 : (a.tmps[95]?).getD undef = .pointer (some ⟨gq, 0, none⟩) := eval_get (dep_of hdep 38 95 rfl (by kernel_rfl) rfl rfl)
            have dg : a.eval (.tmp 93) = .bool false := dep_of hdep 36 93 rfl (by kernel_rfl) rfl rfl
            rw [if_pos (wanted_at (l := _) rfl rfl rfl dg)]
            have hB2 := HQ.out.go hb
            have yc := hB2.c0
            unfold Oper.wp
            simp [go_sem, d95, yc]
            exact hK _ _ (Below.refl _ _) rfl
          · intro a ws hb hag hdep K Q hK
            have d12 : (a.tmps[12]?).getD undef = .pointer (some ⟨gq, 0, none⟩) := eval_get (hag 12 (freeB_spec (by kernel_rfl)))
            have dg : a.eval (.tmp 93) = .bool false := dep_of hdep 36 93 rfl (by kernel_rfl) rfl rfl
            rw [if_pos (wanted_at (l := _) rfl rfl rfl dg)]
            have hB2 := HQ.out.go hb
            have yl := hB2.lt
            unfold Oper.wp
            simp [go_sem, d12]
            exact hK _ _ (Below.refl _ _) rfl
          · intro a ws hb hag hdep K Q hK
            have d97 : (a.tmps[97]?).getD undef = .pointer (some ⟨gq, 1, none⟩) := eval_get (dep_of hdep 40 97 rfl (by kernel_rfl) rfl rfl)
            have dg : a.eval (.tmp 93) = .bool false := dep_of hdep 36 93 rfl (by kernel_rfl) rfl rfl
            rw [if_pos (wanted_at (l := _) rfl rfl rfl dg)]
            have hB2 := HQ.out.go hb
            have yc := hB2.c1
            unfold Oper.wp
            simp [go_sem, d97, yc]
            exact hK _ _ (Below.refl _ _) rfl
          · intro a ws hb hag hdep K Q hK
            have d94 : (a.tmps[94]?).getD undef = .agg #[.int .i64 n, .slice A0 l0.length c0] := eval_get (dep_of hdep 37 94 rfl (by kernel_rfl) rfl rfl)
            have d96 : (a.tmps[96]?).getD undef = .int .i64 pu := eval_get (dep_of hdep 39 96 rfl (by kernel_rfl) rfl rfl)
            have d98 : (a.tmps[98]?).getD undef = .int .i64 pv := eval_get (dep_of hdep 41 98 rfl (by kernel_rfl) rfl rfl)
            have dg : a.eval (.tmp 93) = .bool false := dep_of hdep 36 93 rfl (by kernel_rfl) rfl rfl
            rw [if_pos (wanted_at (l := _) rfl rfl rfl dg)]
            have HS2 := HR3.out.1.go hb
            have hcon := CF16.out ws HS2.re
            unfold Oper.wp
            simp [go_sem, d94, d96, d98]
            refine hcon.mono ?_
            rintro e w3 ⟨A9, c9, rfl, h9, hb3⟩
            exact hK _ _ hb3 ⟨A9, c9, rfl, h9⟩
          · intro a ws hb hag hdep K Q hK
            have d10 : (a.tmps[10]?).getD undef = .pointer (some ⟨g4, 0, none⟩) := eval_get (hag 10 (freeB_spec (by kernel_rfl)))
            have dg : a.eval (.tmp 93) = .bool false := dep_of hdep 36 93 rfl (by kernel_rfl) rfl rfl
            rw [if_pos (wanted_at (l := _) rfl rfl rfl dg)]
            have HS2 := HR3.out.1.go hb
            have y0 := HS2.c0; have y1 := HS2.c1'; have yl := HS2.lt
            unfold Oper.wp
            simp [go_sem, d10, y0, y1]
            exact hK _ _ (Below.refl _ _) rfl
          · intro a ws hb hag hdep K Q hK
            have d12 : (a.tmps[12]?).getD undef = .pointer (some ⟨gq, 0, none⟩) := eval_get (hag 12 (freeB_spec (by kernel_rfl)))
            have dg : a.eval (.tmp 93) = .bool false := dep_of hdep 36 93 rfl (by kernel_rfl) rfl rfl
            rw [if_pos (wanted_at (l := _) rfl rfl rfl dg)]
            have hB2 := HQ.out.go hb
            have yl := hB2.lt
            unfold Oper.wp
            simp [go_sem, d12]
            exact hK _ _ (Below.refl _ _) rfl
          · intro a ws hb hag hdep K Q hK
            have d101 : (a.tmps[101]?).getD undef = .pointer (some ⟨gq, 0, none⟩) := eval_get (dep_of hdep 44 101 rfl (by kernel_rfl) rfl rfl)
            have dg : a.eval (.tmp 93) = .bool false := dep_of hdep 36 93 rfl (by kernel_rfl) rfl rfl
            rw [if_pos (wanted_at (l := _) rfl rfl rfl dg)]
            have hB2 := HQ.out.go hb
            have yc := hB2.c0
            unfold Oper.wp
            simp [go_sem, d101, yc]
            exact hK _ _ (Below.refl _ _) rfl
          · intro a ws hb hag hdep K Q hK
            have d12 : (a.tmps[12]?).getD undef = .pointer (some ⟨gq, 0, none⟩) := eval_get (hag 12 (freeB_spec (by kernel_rfl)))
            have dg : a.eval (.tmp 93) = .bool false := dep_of hdep 36 93 rfl (by kernel_rfl) rfl rfl
            rw [if_pos (wanted_at (l := _) rfl rfl rfl dg)]
            have hB2 := HQ.out.go hb
            have yl := hB2.lt
            unfold Oper.wp
            simp [go_sem, d12]
            exact hK _ _ (Below.refl _ _) rfl
          · intro a ws hb hag hdep K Q hK
            have d103 : (a.tmps[103]?).getD undef = .pointer (some ⟨gq, 1, none⟩) := eval_get (dep_of hdep 46 103 rfl (by kernel_rfl) rfl rfl)
            have dg : a.eval (.tmp 93) = .bool false := dep_of hdep 36 93 rfl (by kernel_rfl) rfl rfl
            rw [if_pos (wanted_at (l := _) rfl rfl rfl dg)]
            have hB2 := HQ.out.go hb
            have yc := hB2.c1
            unfold Oper.wp
            simp [go_sem, d103, yc]
            exact hK _ _ (Below.refl _ _) rfl
          · intro a ws hb hag hdep K Q hK
            have d100 : (a.tmps[100]?).getD undef = .agg #[.int .i64 n, .slice A0 l0.length c0] := eval_get (dep_of hdep 43 100 rfl (by kernel_rfl) rfl rfl)
            have d102 : (a.tmps[102]?).getD undef = .int .i64 pu := eval_get (dep_of hdep 45 102 rfl (by kernel_rfl) rfl rfl)
            have d104 : (a.tmps[104]?).getD undef = .int .i64 pv := eval_get (dep_of hdep 47 104 rfl (by kernel_rfl) rfl rfl)
            have dg : a.eval (.tmp 93) = .bool false := dep_of hdep 36 93 rfl (by kernel_rfl) rfl rfl
            rw [if_pos (wanted_at (l := _) rfl rfl rfl dg)]
            have HS2 := HR3.out.1.go hb
            have hcon := CF17.out ws HS2.re
            unfold Oper.wp
            simp [go_sem, d100, d102, d104]
            refine hcon.mono ?_
            rintro e w3 ⟨A9, c9, rfl, h9, hb3⟩
            exact hK _ _ hb3 ⟨A9, c9, rfl, h9⟩
          · intro a ws hb hag hdep K Q hK
            have d99 : (FR cm) (a.eval (.tmp 99)) ws := dep_of hdep 42 99 rfl (by kernel_rfl) rfl rfl
            have d105 : (FR cm) (a.eval (.tmp 105)) ws := dep_of hdep 48 105 rfl (by kernel_rfl) rfl rfl
            have dg : a.eval (.tmp 93) = .bool false := dep_of hdep 36 93 rfl (by kernel_rfl) rfl rfl
            rw [if_pos (wanted_at (l := _) rfl rfl rfl dg)]
            obtain ⟨A7, c7, ea, h7⟩ := d99
            have ea := eval_get ea
            obtain ⟨A8, c8, eb, h8⟩ := d105
            have eb := eval_get eb
            have hcon := same_any A7 A8 c7 c8 cm cm ws h7 h8 hcm hcm
            rw [eqB_self] at hcon
            unfold Oper.wp
            simp [go_sem, ea, eb]
            refine hcon.mono ?_
            rintro e w3 ⟨rfl, hb3⟩
            exact hK _ _ hb3 rfl
          · intro a ws hb hag hdep K Q hK
            have d106 : (a.tmps[106]?).getD undef = .bool true := eval_get (dep_of hdep 49 106 rfl (by kernel_rfl) rfl rfl)
            have dg : a.eval (.tmp 93) = .bool false := dep_of hdep 36 93 rfl (by kernel_rfl) rfl rfl
            rw [if_pos (wanted_at (l := _) rfl rfl rfl dg)]
            unfold Oper.wp
            simp [go_sem, d106]
            exact hK _ _ (Below.refl _ _) rfl
          · intro a ws hb hag hdep K Q hK
            have d93 : (a.tmps[93]?).getD undef = .bool false := eval_get (dep_of hdep 36 93 rfl (by kernel_rfl) rfl rfl)
            have d107 : (a.tmps[107]?).getD undef = .bool false := eval_get (dep_of hdep 50 107 rfl (by kernel_rfl) rfl rfl)
            rw [if_pos (show Region.wanted _ _ = true from rfl)]
            unfold Oper.wp
            simp [go_sem, d93, d107]
            exact hK _ _ (Below.refl _ _) rfl
        · intro a ws hb hsz hdf hag hend
          have f57 : a.eval (.tmp 57) = .agg #[.int .i64 n, .slice A0 l0.length c0] := end_of hend 0 57 (by decide) rfl rfl rfl
          have f58 : a.eval (.tmp 58) = .pointer (some ⟨gq, 0, none⟩) := end_of hend 1 58 (by decide) rfl rfl rfl
          have f59 : a.eval (.tmp 59) = .int .i64 pu := end_of hend 2 59 (by decide) rfl rfl rfl
          have f60 : a.eval (.tmp 60) = .pointer (some ⟨gq, 1, none⟩) := end_of hend 3 60 (by decide) rfl rfl rfl
          have f61 : a.eval (.tmp 61) = .int .i64 pv := end_of hend 4 61 (by decide) rfl rfl rfl
          have f62 : a.eval (.tmp 62) = .int .i64 fi := end_of hend 5 62 (by decide) rfl rfl rfl
          have f63 : a.eval (.tmp 63) = .agg #[.int .i64 n, .slice A0 l0.length c0] := end_of hend 6 63 (by decide) rfl rfl rfl
          have f64 : a.eval (.tmp 64) = .pointer (some ⟨gq, 0, none⟩) := end_of hend 7 64 (by decide) rfl rfl rfl
          have f65 : a.eval (.tmp 65) = .int .i64 pu := end_of hend 8 65 (by decide) rfl rfl rfl
          have f66 : a.eval (.tmp 66) = .pointer (some ⟨gq, 1, none⟩) := end_of hend 9 66 (by decide) rfl rfl rfl
          have f67 : a.eval (.tmp 67) = .int .i64 pv := end_of hend 10 67 (by decide) rfl rfl rfl
          have f68 : a.eval (.tmp 68) = .int .i64 fi := end_of hend 11 68 (by decide) rfl rfl rfl
          have f69 : a.eval (.tmp 69) = .bool false := end_of hend 12 69 (by decide) rfl rfl rfl
          have f70 : a.eval (.tmp 70) = .bool false := end_of hend 13 70 (by decide) rfl rfl rfl
          have f71 : a.eval (.tmp 71) = .agg #[.int .i64 n, .slice A0 l0.length c0] := end_of hend 14 71 (by decide) rfl rfl rfl
          have f72 : a.eval (.tmp 72) = .pointer (some ⟨gq, 0, none⟩) := end_of hend 15 72 (by decide) rfl rfl rfl
          have f73 : a.eval (.tmp 73) = .int .i64 pu := end_of hend 16 73 (by decide) rfl rfl rfl
          have f74 : (FR nb) (a.eval (.tmp 74)) ws := end_of hend 17 74 (by decide) rfl rfl rfl
          have f75 : a.eval (.tmp 75) = .agg #[.int .i64 n, .slice A0 l0.length c0] := end_of hend 18 75 (by decide) rfl rfl rfl
          have f76 : a.eval (.tmp 76) = .pointer (some ⟨gq, 0, none⟩) := end_of hend 19 76 (by decide) rfl rfl rfl
          have f77 : a.eval (.tmp 77) = .int .i64 pu := end_of hend 20 77 (by decide) rfl rfl rfl
          have f78 : (FR nb) (a.eval (.tmp 78)) ws := end_of hend 21 78 (by decide) rfl rfl rfl
          have f79 : a.eval (.tmp 79) = .bool true := end_of hend 22 79 (by decide) rfl rfl rfl
          have f80 : a.eval (.tmp 80) = .bool false := end_of hend 23 80 (by decide) rfl rfl rfl
          have f81 : a.eval (.tmp 81) = .bool false := end_of hend 24 81 (by decide) rfl rfl rfl
          have f82 : a.eval (.tmp 82) = .bool false := end_of hend 25 82 (by decide) rfl rfl rfl
          have f83 : a.eval (.tmp 83) = .agg #[.int .i64 n, .slice A0 l0.length c0] := end_of hend 26 83 (by decide) rfl rfl rfl
          have f84 : a.eval (.tmp 84) = .pointer (some ⟨gq, 1, none⟩) := end_of hend 27 84 (by decide) rfl rfl rfl
          have f85 : a.eval (.tmp 85) = .int .i64 pv := end_of hend 28 85 (by decide) rfl rfl rfl
          have f86 : a.eval (.tmp 86) = .int .i64 (dg : Int) := end_of hend 29 86 (by decide) rfl rfl rfl
          have f87 : a.eval (.tmp 87) = .agg #[.int .i64 n, .slice A0 l0.length c0] := end_of hend 30 87 (by decide) rfl rfl rfl
          have f88 : a.eval (.tmp 88) = .pointer (some ⟨gq, 1, none⟩) := end_of hend 31 88 (by decide) rfl rfl rfl
          have f89 : a.eval (.tmp 89) = .int .i64 pv := end_of hend 32 89 (by decide) rfl rfl rfl
          have f90 : a.eval (.tmp 90) = .int .i64 (dg : Int) := end_of hend 33 90 (by decide) rfl rfl rfl
          have f91 : a.eval (.tmp 91) = .bool false := end_of hend 34 91 (by decide) rfl rfl rfl
          have f92 : a.eval (.tmp 92) = .bool false := end_of hend 35 92 (by decide) rfl rfl rfl
          have f93 : a.eval (.tmp 93) = .bool false := end_of hend 36 93 (by decide) rfl rfl rfl
          have f94 : a.eval (.tmp 94) = .agg #[.int .i64 n, .slice A0 l0.length c0] := end_of hend 37 94 (by decide) rfl rfl rfl
          have f95 : a.eval (.tmp 95) = .pointer (some ⟨gq, 0, none⟩) := end_of hend 38 95 (by decide) rfl rfl rfl
          have f96 : a.eval (.tmp 96) = .int .i64 pu := end_of hend 39 96 (by decide) rfl rfl rfl
          have f97 : a.eval (.tmp 97) = .pointer (some ⟨gq, 1, none⟩) := end_of hend 40 97 (by decide) rfl rfl rfl
          have f98 : a.eval (.tmp 98) = .int .i64 pv := end_of hend 41 98 (by decide) rfl rfl rfl
          have f99 : (FR cm) (a.eval (.tmp 99)) ws := end_of hend 42 99 (by decide) rfl rfl rfl
          have f100 : a.eval (.tmp 100) = .agg #[.int .i64 n, .slice A0 l0.length c0] := end_of hend 43 100 (by decide) rfl rfl rfl
          have f101 : a.eval (.tmp 101) = .pointer (some ⟨gq, 0, none⟩) := end_of hend 44 101 (by decide) rfl rfl rfl
          have f102 : a.eval (.tmp 102) = .int .i64 pu := end_of hend 45 102 (by decide) rfl rfl rfl
          have f103 : a.eval (.tmp 103) = .pointer (some ⟨gq, 1, none⟩) := end_of hend 46 103 (by decide) rfl rfl rfl
          have f104 : a.eval (.tmp 104) = .int .i64 pv := end_of hend 47 104 (by decide) rfl rfl rfl
          have f105 : (FR cm) (a.eval (.tmp 105)) ws := end_of hend 48 105 (by decide) rfl rfl rfl
          have f106 : a.eval (.tmp 106) = .bool true := end_of hend 49 106 (by decide) rfl rfl rfl
          have f107 : a.eval (.tmp 107) = .bool false := end_of hend 50 107 (by decide) rfl rfl rfl
          have f108 : a.eval (.tmp 108) = .bool false := end_of hend 51 108 (by decide) rfl rfl rfl
          have ea := act_block 57 52 hsz hdf hag [57, 58, 59, 60, 61, 62, 63, 64, 65, 66, 67, 68, 69, 70, 71, 72, 73, 74, 75, 76, 77, 78, 79, 80, 81, 82, 83, 84, 85, 86, 87, 88, 89, 90, 91, 92, 93, 94, 95, 96, 97, 98, 99, 100, 101, 102, 103, 104, 105, 106, 107, 108] (by kernel_rfl) (by kernel_rfl) (of_decide_eq_true (by kernel_rfl))
          clear hag hend hsz hdf
          simp only [List.map_cons, List.map_nil, f57, f58, f59, f60, f61, f62, f63, f64, f65, f66, f67, f68, f69, f70, f71, f72, f73, f75, f76, f77, f79, f80, f81, f82, f83, f84, f85, f86, f87, f88, f89, f90, f91, f92, f93, f94, f95, f96, f97, f98, f100, f101, f102, f103, f104, f106, f107, f108] at ea
          clear f57 f58 f59 f60 f61 f62 f63 f64 f65 f66 f67 f68 f69 f70 f71 f72 f73 f75 f76 f77 f79 f80 f81 f82 f83 f84 f85 f86 f87 f88 f89 f90 f91 f92 f93 f94 f95 f96 f97 f98 f100 f101 f102 f103 f104 f106 f107 f108
          generalize a.eval (.tmp 74) = x74 at ea f74
          generalize a.eval (.tmp 78) = x78 at ea f78
          generalize a.eval (.tmp 99) = x99 at ea f99
          generalize a.eval (.tmp 105) = x105 at ea f105
          simp only [List.take_succ_cons, List.take_zero, List.drop_succ_cons, List.drop_zero, List.cons_append, List.nil_append] at ea
          subst ea
          have HR4 := Lib.hid (HR3.out.go hb)
          clear hb
          simp only [List.drop_succ_cons, List.drop_zero]
          go_wp2
          go_roundw
          case rel => exact ⟨k + 1, by omega, by go_num, HR4.out⟩
          case measure => simp [RowKit.intOf]; omega
      · obtain rfl : k = 3 := by omega
        obtain ⟨m7, hd7⟩ := HR.out.1.dk
        have z9 := HR.out.1.lt
        go_wp2_with fail
        refine (set_any w.heap.size w.heap.size A c L m7 8 _ hd7 hL (by omega)).mono ?_
        rintro e w3 ⟨sa, A5, c5, m8, rfl, -, -, hsa, ho5, hdk, hgr⟩
        have HS3 := Lib.hid (HR.out.1.next hdk hgr)
        have HD5 := Lib.hid (RD.of_own ho5)
        have HRR := Lib.hid (HRAW.out.go HS3.out.bel)
        clear hd7 hdk hgr ho5 HR hk hlt z9
        obtain ⟨gs, Hgs⟩ : ∃ x, Hid (w3.heap.size = x) := ⟨_, rfl⟩
        obtain ⟨W4, HW4⟩ : ∃ x, Hid (w3.alloc (.cells #[.slice AR R.length cR, .slice A5 sa.length c5] 22) = x) := ⟨_, rfl⟩
        have HI : Hid (CK w w.heap.size g4 A c L n A0 c0 l0 gs AR cR R A5 c5 sa W4) := by
          show CK _ _ _ _ _ _ _ _ _ _ _ _ _ _ _ _ _ _
          rw [← HW4.out, ← Hgs.out]
          exact ⟨HS3.out.go (alloc_new _ _), heap_alloc_new _ _, HRR.out.go (alloc_new _ _), HD5.out.go (alloc_new _ _)⟩
        go_wp2_with fail
        rw [HW4.out, Hgs.out]
        clear HW4 Hgs HS3 HD5 HRR
        go_loopw [115] (fun i wr => ∃ (k : Nat), k ≤ 2 ∧ i = .int .i64 k ∧ Hid (CK w w.heap.size g4 A c L n A0 c0 l0 gs AR cR R A5 c5 sa wr)) (fun i _ => 2 - (RowKit.intOf i).toNat)
        case atStart => exact ⟨0, Nat.zero_le _, rfl, HI.out⟩
        case round =>
          clear HI
          obtain ⟨k, hk, rfl, HR⟩ := hrel
          by_cases hlt : k < 2
          · obtain ⟨AS, cS, S, p0, hrd, hS⟩ := HR.out.at_ (by omega) (by omega) hlt
            have pl := lt_of_some HR.out.b
            have HRD := Lib.hid hrd
            clear hrd
            obtain ⟨ce, Hce⟩ : ∃ x, Hid (chk n l0 = x) := ⟨_, rfl⟩
            obtain ⟨ni, Hni⟩ : ∃ x, Hid ((if ce = 0 then n else 0) = x) := ⟨_, rfl⟩
            obtain ⟨li, Hli⟩ : ∃ x, Hid ((if ce = 0 then ind l0 S else []) = x) := ⟨_, rfl⟩
            obtain ⟨dn, Hdn⟩ : ∃ x, Hid (denN n l0 S = x) := ⟨_, rfl⟩
            obtain ⟨dd, Hdd⟩ : ∃ x, Hid (denD n l0 S = x) := ⟨_, rfl⟩
            obtain ⟨il, Hil⟩ : ∃ x, Hid ((insL n l0 S).length = x) := ⟨_, rfl⟩
            have hli : li.length ≤ 65536 := by
              rw [← Hli.out]; split
              · exact Nat.le_trans (List.length_filter_le _ _) (by omega)
              · simp
            have CG19 := Lib.hid (fun (W : World) (h : RE W.heap.size W A0 c0 l0) (h' : RD W AS cS S) => gind_any n A0 AS c0 cS l0 S W h h' (by omega) hS)
            have CG20 := Lib.hid (fun (W : World) (h : RE W.heap.size W A0 c0 l0) (h' : RD W AS cS S) => rind_any n A0 AS c0 cS l0 S W h h' (by omega) hS)
            have CG21 := Lib.hid (fun (W : World) (h : RE W.heap.size W A0 c0 l0) (h' : RD W AS cS S) => gden_any n A0 AS c0 cS l0 S W h h' (by omega) hS)
            have CG22 := Lib.hid (fun (W : World) (h : RE W.heap.size W A0 c0 l0) (h' : RD W AS cS S) => rden_any n A0 AS c0 cS l0 S W h h' (by omega) hS)
            have CG24 := Lib.hid (fun (W : World) (h : RE W.heap.size W A0 c0 l0) (h' : RD W AS cS S) => gins_any n A0 AS c0 cS l0 S W h h' (by omega) hS)
            have CG25 := Lib.hid (fun (W : World) (h : RE W.heap.size W A0 c0 l0) (h' : RD W AS cS S) => rins_any n A0 AS c0 cS l0 S W h h' (by omega) hS)
            simp only [Hce.out, Hni.out, Hli.out] at CG19 CG20
            simp only [Hce.out, Hdn.out, Hdd.out] at CG21 CG22
            simp only [Hil.out] at CG24 CG25
            have z0 := HR.out.ls.c0; have z1 := HR.out.ls.c1'; have z2 := HR.out.ls.lt
            go_wp2_with fail
            clear p0 pl z0 z1 z2
            refine (CG19.out wr HR.out.ls.re HRD.out).mono ?_
            rintro e v1 ⟨Aa, ca, rfl, ho, hb⟩
            have HV := Lib.hid (HR.out.go hb)
            have HU := Lib.hid (HRD.out.go hb)
            have HO : Hid (RE v1.heap.size v1 Aa ca li) := RE.of_own ho
            clear hb CG19 ho HR HRD
            obtain ⟨ga, Hga⟩ : ∃ x, Hid (v1.heap.size = x) := ⟨_, rfl⟩
            obtain ⟨V1, HV1⟩ : ∃ x, Hid (v1.alloc (.cells #[.int .i64 ni, .slice Aa li.length ca] 28) = x) := ⟨_, rfl⟩
            have HR1 : Hid (CK w w.heap.size g4 A c L n A0 c0 l0 gs AR cR R A5 c5 sa V1) := by show CK _ _ _ _ _ _ _ _ _ _ _ _ _ _ _ _ _ _; rw [← HV1.out]; exact HV.out.go (alloc_new _ _)
            have HD1 : Hid (RD V1 AS cS S) := by show RD _ _ _ _; rw [← HV1.out]; exact HU.out.go (alloc_new _ _)
            have Ha1 : Hid (BX ga ni Aa ca li V1) := by show BX _ _ _ _ _ _; rw [← HV1.out, ← Hga.out]; exact BX.new HO.out _
            have z0 := HV.out.ls.c0; have z1 := HV.out.ls.c1'; have z2 := HV.out.ls.lt
            go_wp2_with fail
            rw [HV1.out, Hga.out]
            clear z0 z1 z2 HV HU HO
            refine (CG20.out V1 HR1.out.ls.re HD1.out).mono ?_
            rintro e v2 ⟨Ab, cb, rfl, ho, hb⟩
            have HV := Lib.hid (HR1.out.go hb)
            have HU := Lib.hid (HD1.out.go hb)
            have HO : Hid (RE v2.heap.size v2 Ab cb li) := RE.of_own ho
            have HEa := Lib.hid (Ha1.out.go hb)
            clear hb CG20 ho HR1 HD1 Ha1
            obtain ⟨gb, Hgb⟩ : ∃ x, Hid (v2.heap.size = x) := ⟨_, rfl⟩
            obtain ⟨V2, HV2⟩ : ∃ x, Hid (v2.alloc (.cells #[.int .i64 ni, .slice Ab li.length cb] 28) = x) := ⟨_, rfl⟩
            have HR2 : Hid (CK w w.heap.size g4 A c L n A0 c0 l0 gs AR cR R A5 c5 sa V2) := by show CK _ _ _ _ _ _ _ _ _ _ _ _ _ _ _ _ _ _; rw [← HV2.out]; exact HV.out.go (alloc_new _ _)
            have HD2 : Hid (RD V2 AS cS S) := by show RD _ _ _ _; rw [← HV2.out]; exact HU.out.go (alloc_new _ _)
            have Hb2 : Hid (BX gb ni Ab cb li V2) := by show BX _ _ _ _ _ _; rw [← HV2.out, ← Hgb.out]; exact BX.new HO.out _
            have Ha2 : Hid (BX ga ni Aa ca li V2) := by show BX _ _ _ _ _ _; rw [← HV2.out]; exact HEa.out.go (alloc_new _ _)
            have z0 := HV.out.ls.c0; have z1 := HV.out.ls.c1'; have z2 := HV.out.ls.lt
            go_wp2_with fail
            rw [HV2.out, Hgb.out]
            clear z0 z1 z2 HV HU HO HEa
            refine (CG21.out V2 HR2.out.ls.re HD2.out).mono ?_
            rintro e v3 ⟨rfl, hb⟩
            have HV := Lib.hid (HR2.out.go hb)
            have HU := Lib.hid (HD2.out.go hb)
            have HEa := Lib.hid (Ha2.out.go hb)
            have HEb := Lib.hid (Hb2.out.go hb)
            clear hb CG21 HR2 HD2 Ha2 Hb2
            obtain ⟨gx, Hgx⟩ : ∃ x, Hid (v3.heap.size = x) := ⟨_, rfl⟩
            obtain ⟨V3, HV3⟩ : ∃ x, Hid (v3.alloc (.cells #[.int .i64 dn, .int .i64 dd] 45) = x) := ⟨_, rfl⟩
            have HR3 : Hid (CK w w.heap.size g4 A c L n A0 c0 l0 gs AR cR R A5 c5 sa V3) := by show CK _ _ _ _ _ _ _ _ _ _ _ _ _ _ _ _ _ _; rw [← HV3.out]; exact HV.out.go (alloc_new _ _)
            have HD3 : Hid (RD V3 AS cS S) := by show RD _ _ _ _; rw [← HV3.out]; exact HU.out.go (alloc_new _ _)
            have Hx3 : Hid (B2 gx dn dd 45 V3) := by show B2 _ _ _ _ _; rw [← HV3.out, ← Hgx.out]; exact heap_alloc_new _ _
            have Ha3 : Hid (BX ga ni Aa ca li V3) := by show BX _ _ _ _ _ _; rw [← HV3.out]; exact HEa.out.go (alloc_new _ _)
            have Hb3 : Hid (BX gb ni Ab cb li V3) := by show BX _ _ _ _ _ _; rw [← HV3.out]; exact HEb.out.go (alloc_new _ _)
            have z0 := HV.out.ls.c0; have z1 := HV.out.ls.c1'; have z2 := HV.out.ls.lt
            go_wp2_with fail
            rw [HV3.out, Hgx.out]
            clear z0 z1 z2 HV HU HEa HEb
            refine (CG22.out V3 HR3.out.ls.re HD3.out).mono ?_
            rintro e v4 ⟨rfl, hb⟩
            have HV := Lib.hid (HR3.out.go hb)
            have HU := Lib.hid (HD3.out.go hb)
            have HEa := Lib.hid (Ha3.out.go hb)
            have HEb := Lib.hid (Hb3.out.go hb)
            have HEx := Lib.hid (Hx3.out.go hb)
            clear hb CG22 HR3 HD3 Ha3 Hb3 Hx3
            obtain ⟨gy, Hgy⟩ : ∃ x, Hid (v4.heap.size = x) := ⟨_, rfl⟩
            obtain ⟨V4, HV4⟩ : ∃ x, Hid (v4.alloc (.cells #[.int .i64 dn, .int .i64 dd] 45) = x) := ⟨_, rfl⟩
            have HR4 : Hid (CK w w.heap.size g4 A c L n A0 c0 l0 gs AR cR R A5 c5 sa V4) := by show CK _ _ _ _ _ _ _ _ _ _ _ _ _ _ _ _ _ _; rw [← HV4.out]; exact HV.out.go (alloc_new _ _)
            have HD4 : Hid (RD V4 AS cS S) := by show RD _ _ _ _; rw [← HV4.out]; exact HU.out.go (alloc_new _ _)
            have Hy4 : Hid (B2 gy dn dd 45 V4) := by show B2 _ _ _ _ _; rw [← HV4.out, ← Hgy.out]; exact heap_alloc_new _ _
            have Ha4 : Hid (BX ga ni Aa ca li V4) := by show BX _ _ _ _ _ _; rw [← HV4.out]; exact HEa.out.go (alloc_new _ _)
            have Hb4 : Hid (BX gb ni Ab cb li V4) := by show BX _ _ _ _ _ _; rw [← HV4.out]; exact HEb.out.go (alloc_new _ _)
            have Hx4 : Hid (B2 gx dn dd 45 V4) := by show B2 _ _ _ _ _; rw [← HV4.out]; exact HEx.out.go (alloc_new _ _)
            go_wp2_with fail
            rw [HV4.out, Hgy.out]
            clear HV HU HEa HEb HEx
            have a0 := Ha4.out.c0; have a1 := Ha4.out.c1; have al := Ha4.out.lt; have b0 := Hb4.out.c0; have b1 := Hb4.out.c1; have bl := Hb4.out.lt
            have x0 := Hx4.out.c0; have x1 := Hx4.out.c1; have xl := Hx4.out.lt; have y0 := Hy4.out.c0; have y1 := Hy4.out.c1; have yl := Hy4.out.lt
            have z0 := HR4.out.ls.c0; have z1 := HR4.out.ls.c1'; have z2 := HR4.out.ls.lt
            have CS := Lib.hid (fun (x : More V4) => sameG_any ni ni Aa Ab ca cb li li (over V4 x) (Ha4.out.go (over_below _ x)).re (Hb4.out.go (over_below _ x)).re hli hli)
            simp only [sameG_self] at CS
            have CT := Lib.hid (fun (x : More V4) => CG24.out (over V4 x) (HR4.out.go (over_below _ x)).ls.re (HD4.out.go (over_below _ x)))
            have CU := Lib.hid (fun (x : More V4) => CG25.out (over V4 x) (HR4.out.go (over_below _ x)).ls.re (HD4.out.go (over_below _ x)))
            clear CG24 CG25
            refine wp_region_over (by kernel_rfl) (by kernel_rfl) ?_
            repeat (go_big_quiet_step (first | (go_at_call 23; exact calls_over (CS.out _)) | (go_at_call 24; exact calls_over (CT.out _)) | (go_at_call 25; exact calls_over (CU.out _))))
            refine wpQuiet_nil ?_
            rintro _ ⟨z, rfl⟩
            have HR5 := Lib.hid (HR4.out.go (over_below _ z))
            go_wp2
            go_roundw
            case rel => exact ⟨k + 1, by omega, by go_num, HR5.out⟩
            case measure => simp [RowKit.intOf]; omega
          · obtain rfl : k = 2 := by omega
            go_wp2_with fail
            refine (awake3_any _).mono ?_
            rintro e w10 ⟨rfl, hb10⟩
            have HB11 := Lib.hid (HR.out.ls.bel.trans (hb10.mono HR.out.ls.bel.size))
            clear hb10
            go_wp2
            go_ret
            exact ⟨rfl, HB11.out⟩
end Go.Proofs.YtioohmhllajifaaGreat
