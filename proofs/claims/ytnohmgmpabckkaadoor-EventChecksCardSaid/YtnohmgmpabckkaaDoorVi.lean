/-
  Print of the reference.
-/
import Derived.Test.YtnohmgmpabckkaaDoorVh
namespace Go.Proofs.YtnohmgmpabckkaaDoor
open Go.RowKit Go.Lib

/-- a block of the four words -/
def F4 (z : Value) (w : World) : Prop := ∃ g, z = .slice (some ⟨g, 0, none⟩) 4 4 ∧ g < w.heap.size ∧ w.cell? ⟨g, 1, none⟩ = some (.string ⟨#[115, 101, 116]⟩) ∧ w.cell? ⟨g, 2, none⟩ = some (.string ⟨#[99, 117, 116]⟩) ∧ w.cell? ⟨g, 3, none⟩ = some (.string ⟨#[108, 101, 97, 118, 101]⟩)
theorem F4_mono : Mono F4 := fun _ _ _ ⟨g, h1, h2, h3, h4, h5⟩ hb => ⟨g, h1, by have := hb.size; omega, (hb.cell (p := ⟨g, 1, none⟩) h2).trans h3, (hb.cell (p := ⟨g, 2, none⟩) h2).trans h4, (hb.cell (p := ⟨g, 3, none⟩) h2).trans h5⟩
def PW (s : ByteArray) (z : Value) (w : World) : Prop := ∃ g i, z = .pointer (some ⟨g, i, none⟩) ∧ g < w.heap.size ∧ w.cell? ⟨g, i, none⟩ = some (.string s)
theorem PW_mono (s : ByteArray) : Mono (PW s) := fun _ _ _ ⟨g, i, h1, h2, h3⟩ hb => ⟨g, i, h1, by have := hb.size; omega, (hb.cell (p := ⟨g, i, none⟩) h2).trans h3⟩
theorem rwords_any (w : World) : Calls Tryd.prog 34 #[] w fun e w' => ∃ v, e = .returned v ∧ F4 v w' ∧ Below w.heap.size w w' := by
  go_enter Tryd.func34, Tryd.ntmps34
  go_wp2
  go_ret
  have h := heap_alloc_new w (.cells #[.string ⟨#[]⟩, .string ⟨#[115, 101, 116]⟩, .string ⟨#[99, 117, 116]⟩, .string ⟨#[108, 101, 97, 118, 101]⟩] 9)
  exact ⟨_, rfl, ⟨w.heap.size, rfl, by simp, Go.Joins.cell_of_block h 1, Go.Joins.cell_of_block h 2, Go.Joins.cell_of_block h 3⟩, below_new _ _⟩
theorem mk_lit32 : (⟨#[32]⟩ : ByteArray) = mk [32] := rfl
theorem mk_lit10 : (⟨#[10]⟩ : ByteArray) = mk [10] := rfl
theorem mk_p : (⟨#[32, 43]⟩ : ByteArray) = mk [32, 43] := rfl
theorem mk_m : (⟨#[32, 45]⟩ : ByteArray) = mk [32, 45] := rfl
theorem mk_set : (⟨#[115, 101, 116]⟩ : ByteArray) = mk [115, 101, 116] := rfl
theorem mk_cut : (⟨#[99, 117, 116]⟩ : ByteArray) = mk [99, 117, 116] := rfl
theorem mk_leave : (⟨#[108, 101, 97, 118, 101]⟩ : ByteArray) = mk [108, 101, 97, 118, 101] := rfl
set_option maxHeartbeats 8000000 in
set_option maxRecDepth 100000 in
theorem rprint_any (A : Option Addr) (c : Nat) (l : List Ev) (w : World) (h : RE w.heap.size w A c l) (K : KW w) (hl : l.length ≤ 1000000) :
    Calls Tryd.prog 15 #[.slice A l.length c] w (PrintP l w) := by
  have H := Lib.hid h
  have HKW := Lib.hid K
  clear h K
  obtain ⟨R, HR⟩ : ∃ R, Hid (chkT l = R) := ⟨_, rfl⟩
  by_cases h0 : R = 0
  · subst h0
    have HV := Lib.hid (vb_all l HR.out)
    have HE : Hid (txtT l = txtL l) := by show _ = _; rw [txtT, if_pos HR.out]
    unfold PrintP
    rw [HE.out, HR.out]
    go_enter Tryd.func15, Tryd.ntmps15
    go_wp2_with fail
    refine (rcheckAll_any _ _ _ _ H.out hl).mono ?_
    rintro e w1 ⟨rfl, hb⟩
    have HB0 := Lib.hid hb
    clear hb
    rw [HR.out]
    go_wp2
    go_loopw [5, 15] (fun s i wr => ∃ (k : Nat), k ≤ l.length ∧ i = .int .i64 k ∧ s = .string (mk (txtL (l.take k))) ∧ Hid (Below w.heap.size w wr)) (fun _ i _ => l.length - (RowKit.intOf i).toNat)
    case atStart => exact ⟨0, Nat.zero_le _, rfl, rfl, HB0.out⟩
    case round =>
      clear HB0
      obtain ⟨k, hk, rfl, rfl, HB⟩ := hrel
      obtain ⟨S, HS⟩ : ∃ S, Hid (mk (txtL (l.take k)) = S) := ⟨_, rfl⟩
      rw [HS.out]
      by_cases hlt : k < l.length
      · obtain ⟨bb, off, x, rfl, hb, ha, c0, c1, c2, c3, c4, c5, c6⟩ := RE.at_ (H.out.go HB.out) hlt
        have HA := Lib.hid ha
        have HX := Lib.hid (HV.out x (List.mem_of_getElem? ha))
        clear ha
        obtain ⟨xk, t, u, v, p, q, z⟩ := x
        simp only at c0 c1 c2 c3 c4 c5 c6
        have HBX : Hid (Below w.heap.size w (wr.alloc (.cells #[.int .i64 xk, .int .i64 t, .int .i64 u, .int .i64 v, .int .i64 p, .int .i64 q, .int .i64 z] 23))) := HB.out.trans ((below_new _ _).mono HB.out.size)
        have HKX := Lib.hid (HKW.out.go HBX.out HKW.out.sz)
        obtain ⟨T, HT⟩ : ∃ T, Hid (mk (Lib.itoa t) = T) := ⟨_, rfl⟩
        have CT := Lib.hid (fun W (h : KW W) => HT.out ▸ itoa_any t HX.out.t.1 (by have := HX.out.t; simp only at this; omega) W h)
        obtain ⟨U, HU⟩ : ∃ U, Hid (mk (Lib.itoa u) = U) := ⟨_, rfl⟩
        have CU := Lib.hid (fun W (h : KW W) => HU.out ▸ itoa_any u HX.out.u.1 (by have := HX.out.u; simp only at this; omega) W h)
        obtain ⟨V, HVV⟩ : ∃ V, Hid (mk (Lib.itoa v) = V) := ⟨_, rfl⟩
        have CV := Lib.hid (fun W (h : KW W) => HVV.out ▸ itoa_any v HX.out.v.1 (by have := HX.out.v; simp only at this; omega) W h)
        obtain ⟨P, HP⟩ : ∃ P, Hid (mk (Lib.itoa p) = P) := ⟨_, rfl⟩
        have CP := Lib.hid (fun W (h : KW W) => HP.out ▸ itoa_any p HX.out.w.1 (by have := HX.out.w; simp only at this; omega) W h)
        obtain ⟨Q, HQ⟩ : ∃ Q, Hid (mk (Lib.itoa q) = Q) := ⟨_, rfl⟩
        have CQ := Lib.hid (fun W (h : KW W) => HQ.out ▸ itoa_any q HX.out.l.1 (by have := HX.out.l; simp only at this; omega) W h)
        have HSZ : Hid (S.size ≤ 60000000 ∧ T.size ≤ 7 ∧ U.size ≤ 7 ∧ V.size ≤ 7 ∧ P.size ≤ 7 ∧ Q.size ≤ 7) := by
          show _ ∧ _
          rw [← HT.out, ← HU.out, ← HVV.out, ← HP.out, ← HQ.out, ← HS.out]
          simp only [mk_size]
          have b := HX.out
          refine ⟨?_, itoa_len _ b.t.1 (by have := b.t; simp only at this; omega), itoa_len _ b.u.1 (by have := b.u; simp only at this; omega), itoa_len _ b.v.1 (by have := b.v; simp only at this; omega), itoa_len _ b.w.1 (by have := b.w; simp only at this; omega), itoa_len _ b.l.1 (by have := b.l; simp only at this; omega)⟩
          have := txtL_len (l.take k) (fun e he => HV.out e (List.mem_of_mem_take he))
          rw [List.length_take, Nat.min_eq_left hk] at this
          omega
        obtain ⟨hk9⟩ : Nonempty (xk = 1 ∨ xk = 2 ∨ xk = 3) := ⟨HX.out.k⟩
        have HS1 := Lib.hid HX.out.s1
        simp only at HS1
        rcases hk9 with rfl | rfl | rfl
        · have hz9 := HS1.out rfl
          clear HX HS1
          rcases hz9 with rfl | rfl
          · go_wp2_with fail
            refine wp_region_inv 17 70 [(fun q0 _ => q0 = .string S), F4, (fun q0 _ => q0 = .pointer (some ⟨wr.heap.size, 0, none⟩)), (fun q0 _ => q0 = .int .i64 1), (PW ⟨#[115, 101, 116]⟩), (fun q0 _ => q0 = .string ⟨#[115, 101, 116]⟩), (fun q0 _ => q0 = .string ((⟨#[115, 101, 116]⟩ : ByteArray) ++ (⟨#[32]⟩ : ByteArray))), (fun q0 _ => q0 = .pointer (some ⟨wr.heap.size, 1, none⟩)), (fun q0 _ => q0 = .int .i64 t), (fun q0 _ => q0 = .string T), (fun q0 _ => q0 = .string ((⟨#[115, 101, 116]⟩ : ByteArray) ++ (⟨#[32]⟩ : ByteArray) ++ T)), (fun q0 _ => q0 = .string ((⟨#[115, 101, 116]⟩ : ByteArray) ++ (⟨#[32]⟩ : ByteArray) ++ T ++ (⟨#[32]⟩ : ByteArray))), (fun q0 _ => q0 = .pointer (some ⟨wr.heap.size, 2, none⟩)), (fun q0 _ => q0 = .int .i64 u), (fun q0 _ => q0 = .string U), (fun q0 _ => q0 = .string ((⟨#[115, 101, 116]⟩ : ByteArray) ++ (⟨#[32]⟩ : ByteArray) ++ T ++ (⟨#[32]⟩ : ByteArray) ++ U)), (fun q0 _ => q0 = .string (S ++ ((⟨#[115, 101, 116]⟩ : ByteArray) ++ (⟨#[32]⟩ : ByteArray) ++ T ++ (⟨#[32]⟩ : ByteArray) ++ U)))] (by kernel_rfl) (by kernel_rfl) rfl ?_ ?_ ?_
            · intro R hR
              simp only [List.mem_cons, List.not_mem_nil, or_false] at hR
              rcases hR with rfl | rfl | rfl | rfl | rfl | rfl | rfl | rfl | rfl | rfl | rfl | rfl | rfl | rfl | rfl | rfl | rfl
              · exact mono_eq _
              · exact F4_mono
              · exact mono_eq _
              · exact mono_eq _
              · exact PW_mono _
              · exact mono_eq _
              · exact mono_eq _
              · exact mono_eq _
              · exact mono_eq _
              · exact mono_eq _
              · exact mono_eq _
              · exact mono_eq _
              · exact mono_eq _
              · exact mono_eq _
              · exact mono_eq _
              · exact mono_eq _
              · exact mono_eq _
            · simp only [List.take_succ_cons, List.take_zero]
              refine ⟨?_, ?_, ?_, ?_, ?_, ?_, ?_, ?_, ?_, ?_, ?_, ?_, ?_, ?_, ?_, ?_, ?_, trivial⟩
              · intro a ws hb hag hdep K Q hK
                have d5 : (a.tmps[5]?).getD undef = .string S := eval_get (hag 5 (freeB_spec (by kernel_rfl)))
                rw [if_pos (show Region.wanted _ _ = true from rfl)]
                obtain ⟨y0, y1, y2, y3, y4, y5, y6⟩ := box7 hb
                unfold Oper.wp
                simp [go_sem, *]
                exact hK _ _ (Below.refl _ _) rfl
              · intro a ws hb hag hdep K Q hK
                rw [if_pos (show Region.wanted _ _ = true from rfl)]
                unfold Oper.wp
                simp [go_sem]
                refine (rwords_any _).mono ?_
                rintro e w3 ⟨v9, rfl, hf, hb3⟩
                exact hK _ _ hb3 hf
              · intro a ws hb hag hdep K Q hK
                have d7 : (a.tmps[7]?).getD undef = .pointer (some ⟨wr.heap.size, 0, none⟩) := eval_get (hag 7 (freeB_spec (by kernel_rfl)))
                rw [if_pos (show Region.wanted _ _ = true from rfl)]
                obtain ⟨y0, y1, y2, y3, y4, y5, y6⟩ := box7 hb
                unfold Oper.wp
                simp [go_sem, *]
                exact hK _ _ (Below.refl _ _) rfl
              · intro a ws hb hag hdep K Q hK
                have d21 : (a.tmps[21]?).getD undef = .pointer (some ⟨wr.heap.size, 0, none⟩) := eval_get (dep_of hdep 2 21 rfl (by kernel_rfl) rfl rfl)
                rw [if_pos (show Region.wanted _ _ = true from rfl)]
                obtain ⟨y0, y1, y2, y3, y4, y5, y6⟩ := box7 hb
                unfold Oper.wp
                simp [go_sem, *]
                exact hK _ _ (Below.refl _ _) rfl
              · intro a ws hb hag hdep K Q hK
                have d20 : F4 (a.eval (.tmp 20)) ws := dep_of hdep 1 20 rfl (by kernel_rfl) rfl rfl
                have d22 : (a.tmps[22]?).getD undef = .int .i64 1 := eval_get (dep_of hdep 3 22 rfl (by kernel_rfl) rfl rfl)
                rw [if_pos (show Region.wanted _ _ = true from rfl)]
                obtain ⟨g, e20, hg, h1, h2, h3⟩ := d20
                have e20 := eval_get e20
                unfold Oper.wp
                simp [go_sem, e20, d22]
                exact hK _ _ (Below.refl _ _) ⟨g, 1, rfl, hg, h1⟩
              · intro a ws hb hag hdep K Q hK
                have d23 : (PW ⟨#[115, 101, 116]⟩) (a.eval (.tmp 23)) ws := dep_of hdep 4 23 rfl (by kernel_rfl) rfl rfl
                rw [if_pos (show Region.wanted _ _ = true from rfl)]
                obtain ⟨g, i9, e23, hg, h1⟩ := d23
                have e23 := eval_get e23
                unfold Oper.wp
                simp [go_sem, e23, h1]
                exact hK _ _ (Below.refl _ _) rfl
              · intro a ws hb hag hdep K Q hK
                have d24 : (a.tmps[24]?).getD undef = .string ⟨#[115, 101, 116]⟩ := eval_get (dep_of hdep 5 24 rfl (by kernel_rfl) rfl rfl)
                rw [if_pos (show Region.wanted _ _ = true from rfl)]
                unfold Oper.wp
                simp [go_sem, d24]
                exact hK _ _ (Below.refl _ _) rfl
              · intro a ws hb hag hdep K Q hK
                have d7 : (a.tmps[7]?).getD undef = .pointer (some ⟨wr.heap.size, 0, none⟩) := eval_get (hag 7 (freeB_spec (by kernel_rfl)))
                rw [if_pos (show Region.wanted _ _ = true from rfl)]
                obtain ⟨y0, y1, y2, y3, y4, y5, y6⟩ := box7 hb
                unfold Oper.wp
                simp [go_sem, *]
                exact hK _ _ (Below.refl _ _) rfl
              · intro a ws hb hag hdep K Q hK
                have d26 : (a.tmps[26]?).getD undef = .pointer (some ⟨wr.heap.size, 1, none⟩) := eval_get (dep_of hdep 7 26 rfl (by kernel_rfl) rfl rfl)
                rw [if_pos (show Region.wanted _ _ = true from rfl)]
                obtain ⟨y0, y1, y2, y3, y4, y5, y6⟩ := box7 hb
                unfold Oper.wp
                simp [go_sem, *]
                exact hK _ _ (Below.refl _ _) rfl
              · intro a ws hb hag hdep K Q hK
                have d27 : (a.tmps[27]?).getD undef = .int .i64 t := eval_get (dep_of hdep 8 27 rfl (by kernel_rfl) rfl rfl)
                rw [if_pos (show Region.wanted _ _ = true from rfl)]
                have HKs := HKX.out.up hb
                unfold Oper.wp
                simp [go_sem, d27]
                refine (CT.out _ HKs).mono ?_
                rintro e w3 ⟨rfl, hb3⟩
                exact hK _ _ hb3 rfl
              · intro a ws hb hag hdep K Q hK
                have d25 : (a.tmps[25]?).getD undef = .string ((⟨#[115, 101, 116]⟩ : ByteArray) ++ (⟨#[32]⟩ : ByteArray)) := eval_get (dep_of hdep 6 25 rfl (by kernel_rfl) rfl rfl)
                have d28 : (a.tmps[28]?).getD undef = .string T := eval_get (dep_of hdep 9 28 rfl (by kernel_rfl) rfl rfl)
                rw [if_pos (show Region.wanted _ _ = true from rfl)]
                unfold Oper.wp
                simp [go_sem, d25, d28]
                rw [if_neg (by have := HSZ.out; omega)]
                exact hK _ _ (Below.refl _ _) rfl
              · intro a ws hb hag hdep K Q hK
                have d29 : (a.tmps[29]?).getD undef = .string ((⟨#[115, 101, 116]⟩ : ByteArray) ++ (⟨#[32]⟩ : ByteArray) ++ T) := eval_get (dep_of hdep 10 29 rfl (by kernel_rfl) rfl rfl)
                rw [if_pos (show Region.wanted _ _ = true from rfl)]
                unfold Oper.wp
                simp [go_sem, d29]
                rw [if_neg (by have := HSZ.out; omega)]
                exact hK _ _ (Below.refl _ _) rfl
              · intro a ws hb hag hdep K Q hK
                have d7 : (a.tmps[7]?).getD undef = .pointer (some ⟨wr.heap.size, 0, none⟩) := eval_get (hag 7 (freeB_spec (by kernel_rfl)))
                rw [if_pos (show Region.wanted _ _ = true from rfl)]
                obtain ⟨y0, y1, y2, y3, y4, y5, y6⟩ := box7 hb
                unfold Oper.wp
                simp [go_sem, *]
                exact hK _ _ (Below.refl _ _) rfl
              · intro a ws hb hag hdep K Q hK
                have d31 : (a.tmps[31]?).getD undef = .pointer (some ⟨wr.heap.size, 2, none⟩) := eval_get (dep_of hdep 12 31 rfl (by kernel_rfl) rfl rfl)
                rw [if_pos (show Region.wanted _ _ = true from rfl)]
                obtain ⟨y0, y1, y2, y3, y4, y5, y6⟩ := box7 hb
                unfold Oper.wp
                simp [go_sem, *]
                exact hK _ _ (Below.refl _ _) rfl
              · intro a ws hb hag hdep K Q hK
                have d32 : (a.tmps[32]?).getD undef = .int .i64 u := eval_get (dep_of hdep 13 32 rfl (by kernel_rfl) rfl rfl)
                rw [if_pos (show Region.wanted _ _ = true from rfl)]
                have HKs := HKX.out.up hb
                unfold Oper.wp
                simp [go_sem, d32]
                refine (CU.out _ HKs).mono ?_
                rintro e w3 ⟨rfl, hb3⟩
                exact hK _ _ hb3 rfl
              · intro a ws hb hag hdep K Q hK
                have d30 : (a.tmps[30]?).getD undef = .string ((⟨#[115, 101, 116]⟩ : ByteArray) ++ (⟨#[32]⟩ : ByteArray) ++ T ++ (⟨#[32]⟩ : ByteArray)) := eval_get (dep_of hdep 11 30 rfl (by kernel_rfl) rfl rfl)
                have d33 : (a.tmps[33]?).getD undef = .string U := eval_get (dep_of hdep 14 33 rfl (by kernel_rfl) rfl rfl)
                rw [if_pos (show Region.wanted _ _ = true from rfl)]
                unfold Oper.wp
                simp [go_sem, d30, d33]
                rw [if_neg (by have := HSZ.out; omega)]
                exact hK _ _ (Below.refl _ _) rfl
              · intro a ws hb hag hdep K Q hK
                have d19 : (a.tmps[19]?).getD undef = .string S := eval_get (dep_of hdep 0 19 rfl (by kernel_rfl) rfl rfl)
                have d34 : (a.tmps[34]?).getD undef = .string ((⟨#[115, 101, 116]⟩ : ByteArray) ++ (⟨#[32]⟩ : ByteArray) ++ T ++ (⟨#[32]⟩ : ByteArray) ++ U) := eval_get (dep_of hdep 15 34 rfl (by kernel_rfl) rfl rfl)
                rw [if_pos (show Region.wanted _ _ = true from rfl)]
                unfold Oper.wp
                simp [go_sem, d19, d34]
                rw [if_neg (by have := HSZ.out; omega)]
                exact hK _ _ (Below.refl _ _) rfl
            · intro a ws hb hsz hdf hag hend
              have f19 : a.eval (.tmp 19) = .string S := end_of hend 0 19 (by decide) rfl rfl rfl
              have f20 : F4 (a.eval (.tmp 20)) ws := end_of hend 1 20 (by decide) rfl rfl rfl
              have f21 : a.eval (.tmp 21) = .pointer (some ⟨wr.heap.size, 0, none⟩) := end_of hend 2 21 (by decide) rfl rfl rfl
              have f22 : a.eval (.tmp 22) = .int .i64 1 := end_of hend 3 22 (by decide) rfl rfl rfl
              have f23 : (PW ⟨#[115, 101, 116]⟩) (a.eval (.tmp 23)) ws := end_of hend 4 23 (by decide) rfl rfl rfl
              have f24 : a.eval (.tmp 24) = .string ⟨#[115, 101, 116]⟩ := end_of hend 5 24 (by decide) rfl rfl rfl
              have f25 : a.eval (.tmp 25) = .string ((⟨#[115, 101, 116]⟩ : ByteArray) ++ (⟨#[32]⟩ : ByteArray)) := end_of hend 6 25 (by decide) rfl rfl rfl
              have f26 : a.eval (.tmp 26) = .pointer (some ⟨wr.heap.size, 1, none⟩) := end_of hend 7 26 (by decide) rfl rfl rfl
              have f27 : a.eval (.tmp 27) = .int .i64 t := end_of hend 8 27 (by decide) rfl rfl rfl
              have f28 : a.eval (.tmp 28) = .string T := end_of hend 9 28 (by decide) rfl rfl rfl
              have f29 : a.eval (.tmp 29) = .string ((⟨#[115, 101, 116]⟩ : ByteArray) ++ (⟨#[32]⟩ : ByteArray) ++ T) := end_of hend 10 29 (by decide) rfl rfl rfl
              have f30 : a.eval (.tmp 30) = .string ((⟨#[115, 101, 116]⟩ : ByteArray) ++ (⟨#[32]⟩ : ByteArray) ++ T ++ (⟨#[32]⟩ : ByteArray)) := end_of hend 11 30 (by decide) rfl rfl rfl
              have f31 : a.eval (.tmp 31) = .pointer (some ⟨wr.heap.size, 2, none⟩) := end_of hend 12 31 (by decide) rfl rfl rfl
              have f32 : a.eval (.tmp 32) = .int .i64 u := end_of hend 13 32 (by decide) rfl rfl rfl
              have f33 : a.eval (.tmp 33) = .string U := end_of hend 14 33 (by decide) rfl rfl rfl
              have f34 : a.eval (.tmp 34) = .string ((⟨#[115, 101, 116]⟩ : ByteArray) ++ (⟨#[32]⟩ : ByteArray) ++ T ++ (⟨#[32]⟩ : ByteArray) ++ U) := end_of hend 15 34 (by decide) rfl rfl rfl
              have f35 : a.eval (.tmp 35) = .string (S ++ ((⟨#[115, 101, 116]⟩ : ByteArray) ++ (⟨#[32]⟩ : ByteArray) ++ T ++ (⟨#[32]⟩ : ByteArray) ++ U)) := end_of hend 16 35 (by decide) rfl rfl rfl
              have ea := act_block 19 17 hsz hdf hag [19, 20, 21, 22, 23, 24, 25, 26, 27, 28, 29, 30, 31, 32, 33, 34, 35] (by kernel_rfl) (by kernel_rfl) (of_decide_eq_true (by kernel_rfl))
              clear hag hend hsz hdf
              simp only [List.map_cons, List.map_nil, f19, f21, f22, f24, f25, f26, f27, f28, f29, f30, f31, f32, f33, f34, f35] at ea
              clear f19 f21 f22 f24 f25 f26 f27 f28 f29 f30 f31 f32 f33 f34 f35
              generalize a.eval (.tmp 20) = x20 at ea f20
              generalize a.eval (.tmp 23) = x23 at ea f23
              simp only [List.take_succ_cons, List.take_zero, List.drop_succ_cons, List.drop_zero, List.cons_append, List.nil_append] at ea
              subst ea
              clear f20 f23
              obtain ⟨y0, y1, y2, y3, y4, y5, y6⟩ := box7 hb
              have HKs := Lib.hid (HKX.out.up hb)
              have HBs : Hid (Below w.heap.size w ws) := HBX.out.trans (hb.mono HBX.out.size)
              have hs1 : wr.heap.size < ws.heap.size := by have := hb.size; simp at this; omega
              clear hb c0 c1 c2 c3 c4 c5 c6
              simp only [List.drop_succ_cons, List.drop_zero]
              have hq0 : ¬ 9223372036854775807 < 1 + V.size := by have := HSZ.out; omega
              have hq1 : ¬ 9223372036854775807 < S.size + (4 + T.size + 1 + U.size) + (1 + V.size) := by have := HSZ.out; omega
              have hq2 : ¬ 9223372036854775807 < 1 + P.size := by have := HSZ.out; omega
              have hq3 : ¬ 9223372036854775807 < 1 + P.size + 1 := by have := HSZ.out; omega
              have hq4 : ¬ 9223372036854775807 < 1 + P.size + 1 + Q.size := by have := HSZ.out; omega
              have hq5 : ¬ 9223372036854775807 < S.size + (4 + T.size + 1 + U.size) + (1 + V.size) + (1 + P.size + 1 + Q.size) := by have := HSZ.out; omega
              have hq6 : ¬ 9223372036854775807 < S.size + (4 + T.size + 1 + U.size) + (1 + V.size) + (1 + P.size + 1 + Q.size) + 2 := by have := HSZ.out; omega
              have hq7 : ¬ 9223372036854775807 < S.size + (4 + T.size + 1 + U.size) + (1 + V.size) + (1 + P.size + 1 + Q.size) + 2 + 1 := by have := HSZ.out; omega
              go_wp2_with fail
              refine (CV.out _ HKs.out).mono ?_
              rintro e w5 ⟨rfl, hb5⟩
              have HK5 := Lib.hid (HKs.out.up hb5)
              have HB5 : Hid (Below w.heap.size w w5) := HBs.out.trans (hb5.mono HBs.out.size)
              have z0 := (hb5.cell (p := ⟨wr.heap.size, 0, none⟩) hs1).trans y0
              have z4 := (hb5.cell (p := ⟨wr.heap.size, 4, none⟩) hs1).trans y4
              have z5 := (hb5.cell (p := ⟨wr.heap.size, 5, none⟩) hs1).trans y5
              have z6 := (hb5.cell (p := ⟨wr.heap.size, 6, none⟩) hs1).trans y6
              have hs5 : wr.heap.size < w5.heap.size := by have := hb5.size; omega
              clear hb5 y0 y1 y2 y3 y4 y5 y6 HKs HBs hs1
              go_wp2_with fail
              refine wp_region_over (by kernel_rfl) (by kernel_rfl) ?_
              repeat (go_big_quiet_step (first | (go_at_call 35; first | with_reducible exact calls_over (CP.out _ (HK5.out.over _)) | with_reducible exact calls_over (CQ.out _ (HK5.out.over _)))))
              refine wpQuiet_nil ?_
              rintro _ ⟨x1, rfl⟩
              have hb6 := over_below _ x1
              have HB6 : Hid (Below w.heap.size w (over w5 x1)) := HB5.out.trans (hb6.mono HB5.out.size)
              clear hb6
              go_wp2
              go_roundw
              case rel => exact ⟨k + 1, hlt, by go_num, by rw [txtL_succ l _ k HA.out, ← mk_append, HS.out]; simp only [mk_lit32, mk_lit10, mk_p, mk_set, ← HT.out, ← HU.out, ← HVV.out, ← HP.out, ← HQ.out, mk_append, List.append_assoc, ByteArray.append_assoc]; simp [txtE, wl, Lib.join_cons, Lib.joinTail], HB6.out⟩
              case measure => simp [RowKit.intOf]; omega
          · go_wp2_with fail
            refine wp_region_inv 17 70 [(fun q0 _ => q0 = .string S), F4, (fun q0 _ => q0 = .pointer (some ⟨wr.heap.size, 0, none⟩)), (fun q0 _ => q0 = .int .i64 1), (PW ⟨#[115, 101, 116]⟩), (fun q0 _ => q0 = .string ⟨#[115, 101, 116]⟩), (fun q0 _ => q0 = .string ((⟨#[115, 101, 116]⟩ : ByteArray) ++ (⟨#[32]⟩ : ByteArray))), (fun q0 _ => q0 = .pointer (some ⟨wr.heap.size, 1, none⟩)), (fun q0 _ => q0 = .int .i64 t), (fun q0 _ => q0 = .string T), (fun q0 _ => q0 = .string ((⟨#[115, 101, 116]⟩ : ByteArray) ++ (⟨#[32]⟩ : ByteArray) ++ T)), (fun q0 _ => q0 = .string ((⟨#[115, 101, 116]⟩ : ByteArray) ++ (⟨#[32]⟩ : ByteArray) ++ T ++ (⟨#[32]⟩ : ByteArray))), (fun q0 _ => q0 = .pointer (some ⟨wr.heap.size, 2, none⟩)), (fun q0 _ => q0 = .int .i64 u), (fun q0 _ => q0 = .string U), (fun q0 _ => q0 = .string ((⟨#[115, 101, 116]⟩ : ByteArray) ++ (⟨#[32]⟩ : ByteArray) ++ T ++ (⟨#[32]⟩ : ByteArray) ++ U)), (fun q0 _ => q0 = .string (S ++ ((⟨#[115, 101, 116]⟩ : ByteArray) ++ (⟨#[32]⟩ : ByteArray) ++ T ++ (⟨#[32]⟩ : ByteArray) ++ U)))] (by kernel_rfl) (by kernel_rfl) rfl ?_ ?_ ?_
            · intro R hR
              simp only [List.mem_cons, List.not_mem_nil, or_false] at hR
              rcases hR with rfl | rfl | rfl | rfl | rfl | rfl | rfl | rfl | rfl | rfl | rfl | rfl | rfl | rfl | rfl | rfl | rfl
              · exact mono_eq _
              · exact F4_mono
              · exact mono_eq _
              · exact mono_eq _
              · exact PW_mono _
              · exact mono_eq _
              · exact mono_eq _
              · exact mono_eq _
              · exact mono_eq _
              · exact mono_eq _
              · exact mono_eq _
              · exact mono_eq _
              · exact mono_eq _
              · exact mono_eq _
              · exact mono_eq _
              · exact mono_eq _
              · exact mono_eq _
            · simp only [List.take_succ_cons, List.take_zero]
              refine ⟨?_, ?_, ?_, ?_, ?_, ?_, ?_, ?_, ?_, ?_, ?_, ?_, ?_, ?_, ?_, ?_, ?_, trivial⟩
              · intro a ws hb hag hdep K Q hK
                have d5 : (a.tmps[5]?).getD undef = .string S := eval_get (hag 5 (freeB_spec (by kernel_rfl)))
                rw [if_pos (show Region.wanted _ _ = true from rfl)]
                obtain ⟨y0, y1, y2, y3, y4, y5, y6⟩ := box7 hb
                unfold Oper.wp
                simp [go_sem, *]
                exact hK _ _ (Below.refl _ _) rfl
              · intro a ws hb hag hdep K Q hK
                rw [if_pos (show Region.wanted _ _ = true from rfl)]
                unfold Oper.wp
                simp [go_sem]
                refine (rwords_any _).mono ?_
                rintro e w3 ⟨v9, rfl, hf, hb3⟩
                exact hK _ _ hb3 hf
              · intro a ws hb hag hdep K Q hK
                have d7 : (a.tmps[7]?).getD undef = .pointer (some ⟨wr.heap.size, 0, none⟩) := eval_get (hag 7 (freeB_spec (by kernel_rfl)))
                rw [if_pos (show Region.wanted _ _ = true from rfl)]
                obtain ⟨y0, y1, y2, y3, y4, y5, y6⟩ := box7 hb
                unfold Oper.wp
                simp [go_sem, *]
                exact hK _ _ (Below.refl _ _) rfl
              · intro a ws hb hag hdep K Q hK
                have d21 : (a.tmps[21]?).getD undef = .pointer (some ⟨wr.heap.size, 0, none⟩) := eval_get (dep_of hdep 2 21 rfl (by kernel_rfl) rfl rfl)
                rw [if_pos (show Region.wanted _ _ = true from rfl)]
                obtain ⟨y0, y1, y2, y3, y4, y5, y6⟩ := box7 hb
                unfold Oper.wp
                simp [go_sem, *]
                exact hK _ _ (Below.refl _ _) rfl
              · intro a ws hb hag hdep K Q hK
                have d20 : F4 (a.eval (.tmp 20)) ws := dep_of hdep 1 20 rfl (by kernel_rfl) rfl rfl
                have d22 : (a.tmps[22]?).getD undef = .int .i64 1 := eval_get (dep_of hdep 3 22 rfl (by kernel_rfl) rfl rfl)
                rw [if_pos (show Region.wanted _ _ = true from rfl)]
                obtain ⟨g, e20, hg, h1, h2, h3⟩ := d20
                have e20 := eval_get e20
                unfold Oper.wp
                simp [go_sem, e20, d22]
                exact hK _ _ (Below.refl _ _) ⟨g, 1, rfl, hg, h1⟩
              · intro a ws hb hag hdep K Q hK
                have d23 : (PW ⟨#[115, 101, 116]⟩) (a.eval (.tmp 23)) ws := dep_of hdep 4 23 rfl (by kernel_rfl) rfl rfl
                rw [if_pos (show Region.wanted _ _ = true from rfl)]
                obtain ⟨g, i9, e23, hg, h1⟩ := d23
                have e23 := eval_get e23
                unfold Oper.wp
                simp [go_sem, e23, h1]
                exact hK _ _ (Below.refl _ _) rfl
              · intro a ws hb hag hdep K Q hK
                have d24 : (a.tmps[24]?).getD undef = .string ⟨#[115, 101, 116]⟩ := eval_get (dep_of hdep 5 24 rfl (by kernel_rfl) rfl rfl)
                rw [if_pos (show Region.wanted _ _ = true from rfl)]
                unfold Oper.wp
                simp [go_sem, d24]
                exact hK _ _ (Below.refl _ _) rfl
              · intro a ws hb hag hdep K Q hK
                have d7 : (a.tmps[7]?).getD undef = .pointer (some ⟨wr.heap.size, 0, none⟩) := eval_get (hag 7 (freeB_spec (by kernel_rfl)))
                rw [if_pos (show Region.wanted _ _ = true from rfl)]
                obtain ⟨y0, y1, y2, y3, y4, y5, y6⟩ := box7 hb
                unfold Oper.wp
                simp [go_sem, *]
                exact hK _ _ (Below.refl _ _) rfl
              · intro a ws hb hag hdep K Q hK
                have d26 : (a.tmps[26]?).getD undef = .pointer (some ⟨wr.heap.size, 1, none⟩) := eval_get (dep_of hdep 7 26 rfl (by kernel_rfl) rfl rfl)
                rw [if_pos (show Region.wanted _ _ = true from rfl)]
                obtain ⟨y0, y1, y2, y3, y4, y5, y6⟩ := box7 hb
                unfold Oper.wp
                simp [go_sem, *]
                exact hK _ _ (Below.refl _ _) rfl
              · intro a ws hb hag hdep K Q hK
                have d27 : (a.tmps[27]?).getD undef = .int .i64 t := eval_get (dep_of hdep 8 27 rfl (by kernel_rfl) rfl rfl)
                rw [if_pos (show Region.wanted _ _ = true from rfl)]
                have HKs := HKX.out.up hb
                unfold Oper.wp
                simp [go_sem, d27]
                refine (CT.out _ HKs).mono ?_
                rintro e w3 ⟨rfl, hb3⟩
                exact hK _ _ hb3 rfl
              · intro a ws hb hag hdep K Q hK
                have d25 : (a.tmps[25]?).getD undef = .string ((⟨#[115, 101, 116]⟩ : ByteArray) ++ (⟨#[32]⟩ : ByteArray)) := eval_get (dep_of hdep 6 25 rfl (by kernel_rfl) rfl rfl)
                have d28 : (a.tmps[28]?).getD undef = .string T := eval_get (dep_of hdep 9 28 rfl (by kernel_rfl) rfl rfl)
                rw [if_pos (show Region.wanted _ _ = true from rfl)]
                unfold Oper.wp
                simp [go_sem, d25, d28]
                rw [if_neg (by have := HSZ.out; omega)]
                exact hK _ _ (Below.refl _ _) rfl
              · intro a ws hb hag hdep K Q hK
                have d29 : (a.tmps[29]?).getD undef = .string ((⟨#[115, 101, 116]⟩ : ByteArray) ++ (⟨#[32]⟩ : ByteArray) ++ T) := eval_get (dep_of hdep 10 29 rfl (by kernel_rfl) rfl rfl)
                rw [if_pos (show Region.wanted _ _ = true from rfl)]
                unfold Oper.wp
                simp [go_sem, d29]
                rw [if_neg (by have := HSZ.out; omega)]
                exact hK _ _ (Below.refl _ _) rfl
              · intro a ws hb hag hdep K Q hK
                have d7 : (a.tmps[7]?).getD undef = .pointer (some ⟨wr.heap.size, 0, none⟩) := eval_get (hag 7 (freeB_spec (by kernel_rfl)))
                rw [if_pos (show Region.wanted _ _ = true from rfl)]
                obtain ⟨y0, y1, y2, y3, y4, y5, y6⟩ := box7 hb
                unfold Oper.wp
                simp [go_sem, *]
                exact hK _ _ (Below.refl _ _) rfl
              · intro a ws hb hag hdep K Q hK
                have d31 : (a.tmps[31]?).getD undef = .pointer (some ⟨wr.heap.size, 2, none⟩) := eval_get (dep_of hdep 12 31 rfl (by kernel_rfl) rfl rfl)
                rw [if_pos (show Region.wanted _ _ = true from rfl)]
                obtain ⟨y0, y1, y2, y3, y4, y5, y6⟩ := box7 hb
                unfold Oper.wp
                simp [go_sem, *]
                exact hK _ _ (Below.refl _ _) rfl
              · intro a ws hb hag hdep K Q hK
                have d32 : (a.tmps[32]?).getD undef = .int .i64 u := eval_get (dep_of hdep 13 32 rfl (by kernel_rfl) rfl rfl)
                rw [if_pos (show Region.wanted _ _ = true from rfl)]
                have HKs := HKX.out.up hb
                unfold Oper.wp
                simp [go_sem, d32]
                refine (CU.out _ HKs).mono ?_
                rintro e w3 ⟨rfl, hb3⟩
                exact hK _ _ hb3 rfl
              · intro a ws hb hag hdep K Q hK
                have d30 : (a.tmps[30]?).getD undef = .string ((⟨#[115, 101, 116]⟩ : ByteArray) ++ (⟨#[32]⟩ : ByteArray) ++ T ++ (⟨#[32]⟩ : ByteArray)) := eval_get (dep_of hdep 11 30 rfl (by kernel_rfl) rfl rfl)
                have d33 : (a.tmps[33]?).getD undef = .string U := eval_get (dep_of hdep 14 33 rfl (by kernel_rfl) rfl rfl)
                rw [if_pos (show Region.wanted _ _ = true from rfl)]
                unfold Oper.wp
                simp [go_sem, d30, d33]
                rw [if_neg (by have := HSZ.out; omega)]
                exact hK _ _ (Below.refl _ _) rfl
              · intro a ws hb hag hdep K Q hK
                have d19 : (a.tmps[19]?).getD undef = .string S := eval_get (dep_of hdep 0 19 rfl (by kernel_rfl) rfl rfl)
                have d34 : (a.tmps[34]?).getD undef = .string ((⟨#[115, 101, 116]⟩ : ByteArray) ++ (⟨#[32]⟩ : ByteArray) ++ T ++ (⟨#[32]⟩ : ByteArray) ++ U) := eval_get (dep_of hdep 15 34 rfl (by kernel_rfl) rfl rfl)
                rw [if_pos (show Region.wanted _ _ = true from rfl)]
                unfold Oper.wp
                simp [go_sem, d19, d34]
                rw [if_neg (by have := HSZ.out; omega)]
                exact hK _ _ (Below.refl _ _) rfl
            · intro a ws hb hsz hdf hag hend
              have f19 : a.eval (.tmp 19) = .string S := end_of hend 0 19 (by decide) rfl rfl rfl
              have f20 : F4 (a.eval (.tmp 20)) ws := end_of hend 1 20 (by decide) rfl rfl rfl
              have f21 : a.eval (.tmp 21) = .pointer (some ⟨wr.heap.size, 0, none⟩) := end_of hend 2 21 (by decide) rfl rfl rfl
              have f22 : a.eval (.tmp 22) = .int .i64 1 := end_of hend 3 22 (by decide) rfl rfl rfl
              have f23 : (PW ⟨#[115, 101, 116]⟩) (a.eval (.tmp 23)) ws := end_of hend 4 23 (by decide) rfl rfl rfl
              have f24 : a.eval (.tmp 24) = .string ⟨#[115, 101, 116]⟩ := end_of hend 5 24 (by decide) rfl rfl rfl
              have f25 : a.eval (.tmp 25) = .string ((⟨#[115, 101, 116]⟩ : ByteArray) ++ (⟨#[32]⟩ : ByteArray)) := end_of hend 6 25 (by decide) rfl rfl rfl
              have f26 : a.eval (.tmp 26) = .pointer (some ⟨wr.heap.size, 1, none⟩) := end_of hend 7 26 (by decide) rfl rfl rfl
              have f27 : a.eval (.tmp 27) = .int .i64 t := end_of hend 8 27 (by decide) rfl rfl rfl
              have f28 : a.eval (.tmp 28) = .string T := end_of hend 9 28 (by decide) rfl rfl rfl
              have f29 : a.eval (.tmp 29) = .string ((⟨#[115, 101, 116]⟩ : ByteArray) ++ (⟨#[32]⟩ : ByteArray) ++ T) := end_of hend 10 29 (by decide) rfl rfl rfl
              have f30 : a.eval (.tmp 30) = .string ((⟨#[115, 101, 116]⟩ : ByteArray) ++ (⟨#[32]⟩ : ByteArray) ++ T ++ (⟨#[32]⟩ : ByteArray)) := end_of hend 11 30 (by decide) rfl rfl rfl
              have f31 : a.eval (.tmp 31) = .pointer (some ⟨wr.heap.size, 2, none⟩) := end_of hend 12 31 (by decide) rfl rfl rfl
              have f32 : a.eval (.tmp 32) = .int .i64 u := end_of hend 13 32 (by decide) rfl rfl rfl
              have f33 : a.eval (.tmp 33) = .string U := end_of hend 14 33 (by decide) rfl rfl rfl
              have f34 : a.eval (.tmp 34) = .string ((⟨#[115, 101, 116]⟩ : ByteArray) ++ (⟨#[32]⟩ : ByteArray) ++ T ++ (⟨#[32]⟩ : ByteArray) ++ U) := end_of hend 15 34 (by decide) rfl rfl rfl
              have f35 : a.eval (.tmp 35) = .string (S ++ ((⟨#[115, 101, 116]⟩ : ByteArray) ++ (⟨#[32]⟩ : ByteArray) ++ T ++ (⟨#[32]⟩ : ByteArray) ++ U)) := end_of hend 16 35 (by decide) rfl rfl rfl
              have ea := act_block 19 17 hsz hdf hag [19, 20, 21, 22, 23, 24, 25, 26, 27, 28, 29, 30, 31, 32, 33, 34, 35] (by kernel_rfl) (by kernel_rfl) (of_decide_eq_true (by kernel_rfl))
              clear hag hend hsz hdf
              simp only [List.map_cons, List.map_nil, f19, f21, f22, f24, f25, f26, f27, f28, f29, f30, f31, f32, f33, f34, f35] at ea
              clear f19 f21 f22 f24 f25 f26 f27 f28 f29 f30 f31 f32 f33 f34 f35
              generalize a.eval (.tmp 20) = x20 at ea f20
              generalize a.eval (.tmp 23) = x23 at ea f23
              simp only [List.take_succ_cons, List.take_zero, List.drop_succ_cons, List.drop_zero, List.cons_append, List.nil_append] at ea
              subst ea
              clear f20 f23
              obtain ⟨y0, y1, y2, y3, y4, y5, y6⟩ := box7 hb
              have HKs := Lib.hid (HKX.out.up hb)
              have HBs : Hid (Below w.heap.size w ws) := HBX.out.trans (hb.mono HBX.out.size)
              have hs1 : wr.heap.size < ws.heap.size := by have := hb.size; simp at this; omega
              clear hb c0 c1 c2 c3 c4 c5 c6
              simp only [List.drop_succ_cons, List.drop_zero]
              have hq0 : ¬ 9223372036854775807 < 1 + V.size := by have := HSZ.out; omega
              have hq1 : ¬ 9223372036854775807 < S.size + (4 + T.size + 1 + U.size) + (1 + V.size) := by have := HSZ.out; omega
              have hq2 : ¬ 9223372036854775807 < 1 + P.size := by have := HSZ.out; omega
              have hq3 : ¬ 9223372036854775807 < 1 + P.size + 1 := by have := HSZ.out; omega
              have hq4 : ¬ 9223372036854775807 < 1 + P.size + 1 + Q.size := by have := HSZ.out; omega
              have hq5 : ¬ 9223372036854775807 < S.size + (4 + T.size + 1 + U.size) + (1 + V.size) + (1 + P.size + 1 + Q.size) := by have := HSZ.out; omega
              have hq6 : ¬ 9223372036854775807 < S.size + (4 + T.size + 1 + U.size) + (1 + V.size) + (1 + P.size + 1 + Q.size) + 2 := by have := HSZ.out; omega
              have hq7 : ¬ 9223372036854775807 < S.size + (4 + T.size + 1 + U.size) + (1 + V.size) + (1 + P.size + 1 + Q.size) + 2 + 1 := by have := HSZ.out; omega
              go_wp2_with fail
              refine (CV.out _ HKs.out).mono ?_
              rintro e w5 ⟨rfl, hb5⟩
              have HK5 := Lib.hid (HKs.out.up hb5)
              have HB5 : Hid (Below w.heap.size w w5) := HBs.out.trans (hb5.mono HBs.out.size)
              have z0 := (hb5.cell (p := ⟨wr.heap.size, 0, none⟩) hs1).trans y0
              have z4 := (hb5.cell (p := ⟨wr.heap.size, 4, none⟩) hs1).trans y4
              have z5 := (hb5.cell (p := ⟨wr.heap.size, 5, none⟩) hs1).trans y5
              have z6 := (hb5.cell (p := ⟨wr.heap.size, 6, none⟩) hs1).trans y6
              have hs5 : wr.heap.size < w5.heap.size := by have := hb5.size; omega
              clear hb5 y0 y1 y2 y3 y4 y5 y6 HKs HBs hs1
              go_wp2_with fail
              refine wp_region_over (by kernel_rfl) (by kernel_rfl) ?_
              repeat (go_big_quiet_step (first | (go_at_call 35; first | with_reducible exact calls_over (CP.out _ (HK5.out.over _)) | with_reducible exact calls_over (CQ.out _ (HK5.out.over _)))))
              refine wpQuiet_nil ?_
              rintro _ ⟨x1, rfl⟩
              have hb6 := over_below _ x1
              have HB6 : Hid (Below w.heap.size w (over w5 x1)) := HB5.out.trans (hb6.mono HB5.out.size)
              clear hb6
              go_wp2
              go_roundw
              case rel => exact ⟨k + 1, hlt, by go_num, by rw [txtL_succ l _ k HA.out, ← mk_append, HS.out]; simp only [mk_lit32, mk_lit10, mk_m, mk_set, ← HT.out, ← HU.out, ← HVV.out, ← HP.out, ← HQ.out, mk_append, List.append_assoc, ByteArray.append_assoc]; simp [txtE, wl, Lib.join_cons, Lib.joinTail], HB6.out⟩
              case measure => simp [RowKit.intOf]; omega
        · clear HX HS1
          go_wp2_with fail
          refine wp_region_inv 17 70 [(fun q0 _ => q0 = .string S), F4, (fun q0 _ => q0 = .pointer (some ⟨wr.heap.size, 0, none⟩)), (fun q0 _ => q0 = .int .i64 2), (PW ⟨#[99, 117, 116]⟩), (fun q0 _ => q0 = .string ⟨#[99, 117, 116]⟩), (fun q0 _ => q0 = .string ((⟨#[99, 117, 116]⟩ : ByteArray) ++ (⟨#[32]⟩ : ByteArray))), (fun q0 _ => q0 = .pointer (some ⟨wr.heap.size, 1, none⟩)), (fun q0 _ => q0 = .int .i64 t), (fun q0 _ => q0 = .string T), (fun q0 _ => q0 = .string ((⟨#[99, 117, 116]⟩ : ByteArray) ++ (⟨#[32]⟩ : ByteArray) ++ T)), (fun q0 _ => q0 = .string ((⟨#[99, 117, 116]⟩ : ByteArray) ++ (⟨#[32]⟩ : ByteArray) ++ T ++ (⟨#[32]⟩ : ByteArray))), (fun q0 _ => q0 = .pointer (some ⟨wr.heap.size, 2, none⟩)), (fun q0 _ => q0 = .int .i64 u), (fun q0 _ => q0 = .string U), (fun q0 _ => q0 = .string ((⟨#[99, 117, 116]⟩ : ByteArray) ++ (⟨#[32]⟩ : ByteArray) ++ T ++ (⟨#[32]⟩ : ByteArray) ++ U)), (fun q0 _ => q0 = .string (S ++ ((⟨#[99, 117, 116]⟩ : ByteArray) ++ (⟨#[32]⟩ : ByteArray) ++ T ++ (⟨#[32]⟩ : ByteArray) ++ U)))] (by kernel_rfl) (by kernel_rfl) rfl ?_ ?_ ?_
          · intro R hR
            simp only [List.mem_cons, List.not_mem_nil, or_false] at hR
            rcases hR with rfl | rfl | rfl | rfl | rfl | rfl | rfl | rfl | rfl | rfl | rfl | rfl | rfl | rfl | rfl | rfl | rfl
            · exact mono_eq _
            · exact F4_mono
            · exact mono_eq _
            · exact mono_eq _
            · exact PW_mono _
            · exact mono_eq _
            · exact mono_eq _
            · exact mono_eq _
            · exact mono_eq _
            · exact mono_eq _
            · exact mono_eq _
            · exact mono_eq _
            · exact mono_eq _
            · exact mono_eq _
            · exact mono_eq _
            · exact mono_eq _
            · exact mono_eq _
          · simp only [List.take_succ_cons, List.take_zero]
            refine ⟨?_, ?_, ?_, ?_, ?_, ?_, ?_, ?_, ?_, ?_, ?_, ?_, ?_, ?_, ?_, ?_, ?_, trivial⟩
            · intro a ws hb hag hdep K Q hK
              have d5 : (a.tmps[5]?).getD undef = .string S := eval_get (hag 5 (freeB_spec (by kernel_rfl)))
              rw [if_pos (show Region.wanted _ _ = true from rfl)]
              obtain ⟨y0, y1, y2, y3, y4, y5, y6⟩ := box7 hb
              unfold Oper.wp
              simp [go_sem, *]
              exact hK _ _ (Below.refl _ _) rfl
            · intro a ws hb hag hdep K Q hK
              rw [if_pos (show Region.wanted _ _ = true from rfl)]
              unfold Oper.wp
              simp [go_sem]
              refine (rwords_any _).mono ?_
              rintro e w3 ⟨v9, rfl, hf, hb3⟩
              exact hK _ _ hb3 hf
            · intro a ws hb hag hdep K Q hK
              have d7 : (a.tmps[7]?).getD undef = .pointer (some ⟨wr.heap.size, 0, none⟩) := eval_get (hag 7 (freeB_spec (by kernel_rfl)))
              rw [if_pos (show Region.wanted _ _ = true from rfl)]
              obtain ⟨y0, y1, y2, y3, y4, y5, y6⟩ := box7 hb
              unfold Oper.wp
              simp [go_sem, *]
              exact hK _ _ (Below.refl _ _) rfl
            · intro a ws hb hag hdep K Q hK
              have d21 : (a.tmps[21]?).getD undef = .pointer (some ⟨wr.heap.size, 0, none⟩) := eval_get (dep_of hdep 2 21 rfl (by kernel_rfl) rfl rfl)
              rw [if_pos (show Region.wanted _ _ = true from rfl)]
              obtain ⟨y0, y1, y2, y3, y4, y5, y6⟩ := box7 hb
              unfold Oper.wp
              simp [go_sem, *]
              exact hK _ _ (Below.refl _ _) rfl
            · intro a ws hb hag hdep K Q hK
              have d20 : F4 (a.eval (.tmp 20)) ws := dep_of hdep 1 20 rfl (by kernel_rfl) rfl rfl
              have d22 : (a.tmps[22]?).getD undef = .int .i64 2 := eval_get (dep_of hdep 3 22 rfl (by kernel_rfl) rfl rfl)
              rw [if_pos (show Region.wanted _ _ = true from rfl)]
              obtain ⟨g, e20, hg, h1, h2, h3⟩ := d20
              have e20 := eval_get e20
              unfold Oper.wp
              simp [go_sem, e20, d22]
              exact hK _ _ (Below.refl _ _) ⟨g, 2, rfl, hg, h2⟩
            · intro a ws hb hag hdep K Q hK
              have d23 : (PW ⟨#[99, 117, 116]⟩) (a.eval (.tmp 23)) ws := dep_of hdep 4 23 rfl (by kernel_rfl) rfl rfl
              rw [if_pos (show Region.wanted _ _ = true from rfl)]
              obtain ⟨g, i9, e23, hg, h1⟩ := d23
              have e23 := eval_get e23
              unfold Oper.wp
              simp [go_sem, e23, h1]
              exact hK _ _ (Below.refl _ _) rfl
            · intro a ws hb hag hdep K Q hK
              have d24 : (a.tmps[24]?).getD undef = .string ⟨#[99, 117, 116]⟩ := eval_get (dep_of hdep 5 24 rfl (by kernel_rfl) rfl rfl)
              rw [if_pos (show Region.wanted _ _ = true from rfl)]
              unfold Oper.wp
              simp [go_sem, d24]
              exact hK _ _ (Below.refl _ _) rfl
            · intro a ws hb hag hdep K Q hK
              have d7 : (a.tmps[7]?).getD undef = .pointer (some ⟨wr.heap.size, 0, none⟩) := eval_get (hag 7 (freeB_spec (by kernel_rfl)))
              rw [if_pos (show Region.wanted _ _ = true from rfl)]
              obtain ⟨y0, y1, y2, y3, y4, y5, y6⟩ := box7 hb
              unfold Oper.wp
              simp [go_sem, *]
              exact hK _ _ (Below.refl _ _) rfl
            · intro a ws hb hag hdep K Q hK
              have d26 : (a.tmps[26]?).getD undef = .pointer (some ⟨wr.heap.size, 1, none⟩) := eval_get (dep_of hdep 7 26 rfl (by kernel_rfl) rfl rfl)
              rw [if_pos (show Region.wanted _ _ = true from rfl)]
              obtain ⟨y0, y1, y2, y3, y4, y5, y6⟩ := box7 hb
              unfold Oper.wp
              simp [go_sem, *]
              exact hK _ _ (Below.refl _ _) rfl
            · intro a ws hb hag hdep K Q hK
              have d27 : (a.tmps[27]?).getD undef = .int .i64 t := eval_get (dep_of hdep 8 27 rfl (by kernel_rfl) rfl rfl)
              rw [if_pos (show Region.wanted _ _ = true from rfl)]
              have HKs := HKX.out.up hb
              unfold Oper.wp
              simp [go_sem, d27]
              refine (CT.out _ HKs).mono ?_
              rintro e w3 ⟨rfl, hb3⟩
              exact hK _ _ hb3 rfl
            · intro a ws hb hag hdep K Q hK
              have d25 : (a.tmps[25]?).getD undef = .string ((⟨#[99, 117, 116]⟩ : ByteArray) ++ (⟨#[32]⟩ : ByteArray)) := eval_get (dep_of hdep 6 25 rfl (by kernel_rfl) rfl rfl)
              have d28 : (a.tmps[28]?).getD undef = .string T := eval_get (dep_of hdep 9 28 rfl (by kernel_rfl) rfl rfl)
              rw [if_pos (show Region.wanted _ _ = true from rfl)]
              unfold Oper.wp
              simp [go_sem, d25, d28]
              rw [if_neg (by have := HSZ.out; omega)]
              exact hK _ _ (Below.refl _ _) rfl
            · intro a ws hb hag hdep K Q hK
              have d29 : (a.tmps[29]?).getD undef = .string ((⟨#[99, 117, 116]⟩ : ByteArray) ++ (⟨#[32]⟩ : ByteArray) ++ T) := eval_get (dep_of hdep 10 29 rfl (by kernel_rfl) rfl rfl)
              rw [if_pos (show Region.wanted _ _ = true from rfl)]
              unfold Oper.wp
              simp [go_sem, d29]
              rw [if_neg (by have := HSZ.out; omega)]
              exact hK _ _ (Below.refl _ _) rfl
            · intro a ws hb hag hdep K Q hK
              have d7 : (a.tmps[7]?).getD undef = .pointer (some ⟨wr.heap.size, 0, none⟩) := eval_get (hag 7 (freeB_spec (by kernel_rfl)))
              rw [if_pos (show Region.wanted _ _ = true from rfl)]
              obtain ⟨y0, y1, y2, y3, y4, y5, y6⟩ := box7 hb
              unfold Oper.wp
              simp [go_sem, *]
              exact hK _ _ (Below.refl _ _) rfl
            · intro a ws hb hag hdep K Q hK
              have d31 : (a.tmps[31]?).getD undef = .pointer (some ⟨wr.heap.size, 2, none⟩) := eval_get (dep_of hdep 12 31 rfl (by kernel_rfl) rfl rfl)
              rw [if_pos (show Region.wanted _ _ = true from rfl)]
              obtain ⟨y0, y1, y2, y3, y4, y5, y6⟩ := box7 hb
              unfold Oper.wp
              simp [go_sem, *]
              exact hK _ _ (Below.refl _ _) rfl
            · intro a ws hb hag hdep K Q hK
              have d32 : (a.tmps[32]?).getD undef = .int .i64 u := eval_get (dep_of hdep 13 32 rfl (by kernel_rfl) rfl rfl)
              rw [if_pos (show Region.wanted _ _ = true from rfl)]
              have HKs := HKX.out.up hb
              unfold Oper.wp
              simp [go_sem, d32]
              refine (CU.out _ HKs).mono ?_
              rintro e w3 ⟨rfl, hb3⟩
              exact hK _ _ hb3 rfl
            · intro a ws hb hag hdep K Q hK
              have d30 : (a.tmps[30]?).getD undef = .string ((⟨#[99, 117, 116]⟩ : ByteArray) ++ (⟨#[32]⟩ : ByteArray) ++ T ++ (⟨#[32]⟩ : ByteArray)) := eval_get (dep_of hdep 11 30 rfl (by kernel_rfl) rfl rfl)
              have d33 : (a.tmps[33]?).getD undef = .string U := eval_get (dep_of hdep 14 33 rfl (by kernel_rfl) rfl rfl)
              rw [if_pos (show Region.wanted _ _ = true from rfl)]
              unfold Oper.wp
              simp [go_sem, d30, d33]
              rw [if_neg (by have := HSZ.out; omega)]
              exact hK _ _ (Below.refl _ _) rfl
            · intro a ws hb hag hdep K Q hK
              have d19 : (a.tmps[19]?).getD undef = .string S := eval_get (dep_of hdep 0 19 rfl (by kernel_rfl) rfl rfl)
              have d34 : (a.tmps[34]?).getD undef = .string ((⟨#[99, 117, 116]⟩ : ByteArray) ++ (⟨#[32]⟩ : ByteArray) ++ T ++ (⟨#[32]⟩ : ByteArray) ++ U) := eval_get (dep_of hdep 15 34 rfl (by kernel_rfl) rfl rfl)
              rw [if_pos (show Region.wanted _ _ = true from rfl)]
              unfold Oper.wp
              simp [go_sem, d19, d34]
              rw [if_neg (by have := HSZ.out; omega)]
              exact hK _ _ (Below.refl _ _) rfl
          · intro a ws hb hsz hdf hag hend
            have f19 : a.eval (.tmp 19) = .string S := end_of hend 0 19 (by decide) rfl rfl rfl
            have f20 : F4 (a.eval (.tmp 20)) ws := end_of hend 1 20 (by decide) rfl rfl rfl
            have f21 : a.eval (.tmp 21) = .pointer (some ⟨wr.heap.size, 0, none⟩) := end_of hend 2 21 (by decide) rfl rfl rfl
            have f22 : a.eval (.tmp 22) = .int .i64 2 := end_of hend 3 22 (by decide) rfl rfl rfl
            have f23 : (PW ⟨#[99, 117, 116]⟩) (a.eval (.tmp 23)) ws := end_of hend 4 23 (by decide) rfl rfl rfl
            have f24 : a.eval (.tmp 24) = .string ⟨#[99, 117, 116]⟩ := end_of hend 5 24 (by decide) rfl rfl rfl
            have f25 : a.eval (.tmp 25) = .string ((⟨#[99, 117, 116]⟩ : ByteArray) ++ (⟨#[32]⟩ : ByteArray)) := end_of hend 6 25 (by decide) rfl rfl rfl
            have f26 : a.eval (.tmp 26) = .pointer (some ⟨wr.heap.size, 1, none⟩) := end_of hend 7 26 (by decide) rfl rfl rfl
            have f27 : a.eval (.tmp 27) = .int .i64 t := end_of hend 8 27 (by decide) rfl rfl rfl
            have f28 : a.eval (.tmp 28) = .string T := end_of hend 9 28 (by decide) rfl rfl rfl
            have f29 : a.eval (.tmp 29) = .string ((⟨#[99, 117, 116]⟩ : ByteArray) ++ (⟨#[32]⟩ : ByteArray) ++ T) := end_of hend 10 29 (by decide) rfl rfl rfl
            have f30 : a.eval (.tmp 30) = .string ((⟨#[99, 117, 116]⟩ : ByteArray) ++ (⟨#[32]⟩ : ByteArray) ++ T ++ (⟨#[32]⟩ : ByteArray)) := end_of hend 11 30 (by decide) rfl rfl rfl
            have f31 : a.eval (.tmp 31) = .pointer (some ⟨wr.heap.size, 2, none⟩) := end_of hend 12 31 (by decide) rfl rfl rfl
            have f32 : a.eval (.tmp 32) = .int .i64 u := end_of hend 13 32 (by decide) rfl rfl rfl
            have f33 : a.eval (.tmp 33) = .string U := end_of hend 14 33 (by decide) rfl rfl rfl
            have f34 : a.eval (.tmp 34) = .string ((⟨#[99, 117, 116]⟩ : ByteArray) ++ (⟨#[32]⟩ : ByteArray) ++ T ++ (⟨#[32]⟩ : ByteArray) ++ U) := end_of hend 15 34 (by decide) rfl rfl rfl
            have f35 : a.eval (.tmp 35) = .string (S ++ ((⟨#[99, 117, 116]⟩ : ByteArray) ++ (⟨#[32]⟩ : ByteArray) ++ T ++ (⟨#[32]⟩ : ByteArray) ++ U)) := end_of hend 16 35 (by decide) rfl rfl rfl
            have ea := act_block 19 17 hsz hdf hag [19, 20, 21, 22, 23, 24, 25, 26, 27, 28, 29, 30, 31, 32, 33, 34, 35] (by kernel_rfl) (by kernel_rfl) (of_decide_eq_true (by kernel_rfl))
            clear hag hend hsz hdf
            simp only [List.map_cons, List.map_nil, f19, f21, f22, f24, f25, f26, f27, f28, f29, f30, f31, f32, f33, f34, f35] at ea
            clear f19 f21 f22 f24 f25 f26 f27 f28 f29 f30 f31 f32 f33 f34 f35
            generalize a.eval (.tmp 20) = x20 at ea f20
            generalize a.eval (.tmp 23) = x23 at ea f23
            simp only [List.take_succ_cons, List.take_zero, List.drop_succ_cons, List.drop_zero, List.cons_append, List.nil_append] at ea
            subst ea
            clear f20 f23
            obtain ⟨y0, y1, y2, y3, y4, y5, y6⟩ := box7 hb
            have HKs := Lib.hid (HKX.out.up hb)
            have HBs : Hid (Below w.heap.size w ws) := HBX.out.trans (hb.mono HBX.out.size)
            have hs1 : wr.heap.size < ws.heap.size := by have := hb.size; simp at this; omega
            clear hb c0 c1 c2 c3 c4 c5 c6
            simp only [List.drop_succ_cons, List.drop_zero]
            have hq0 : ¬ 9223372036854775807 < 1 + V.size := by have := HSZ.out; omega
            have hq1 : ¬ 9223372036854775807 < S.size + (4 + T.size + 1 + U.size) + (1 + V.size) := by have := HSZ.out; omega
            have hq2 : ¬ 9223372036854775807 < S.size + (4 + T.size + 1 + U.size) + (1 + V.size) + 1 := by have := HSZ.out; omega
            go_wp2_with fail
            refine (CV.out _ HKs.out).mono ?_
            rintro e w5 ⟨rfl, hb5⟩
            have HK5 := Lib.hid (HKs.out.up hb5)
            have HB5 : Hid (Below w.heap.size w w5) := HBs.out.trans (hb5.mono HBs.out.size)
            have z0 := (hb5.cell (p := ⟨wr.heap.size, 0, none⟩) hs1).trans y0
            have z4 := (hb5.cell (p := ⟨wr.heap.size, 4, none⟩) hs1).trans y4
            have z5 := (hb5.cell (p := ⟨wr.heap.size, 5, none⟩) hs1).trans y5
            have z6 := (hb5.cell (p := ⟨wr.heap.size, 6, none⟩) hs1).trans y6
            have hs5 : wr.heap.size < w5.heap.size := by have := hb5.size; omega
            clear hb5 y0 y1 y2 y3 y4 y5 y6 HKs HBs hs1
            go_wp2
            go_roundw
            case rel => exact ⟨k + 1, hlt, by go_num, by rw [txtL_succ l _ k HA.out, ← mk_append, HS.out]; simp only [mk_lit32, mk_lit10, mk_cut, ← HT.out, ← HU.out, ← HVV.out, mk_append, List.append_assoc, ByteArray.append_assoc]; simp [txtE, wl, Lib.join_cons, Lib.joinTail], HB5.out⟩
            case measure => simp [RowKit.intOf]; omega
        · clear HX HS1
          go_wp2_with fail
          refine wp_region_inv 17 70 [(fun q0 _ => q0 = .string S), F4, (fun q0 _ => q0 = .pointer (some ⟨wr.heap.size, 0, none⟩)), (fun q0 _ => q0 = .int .i64 3), (PW ⟨#[108, 101, 97, 118, 101]⟩), (fun q0 _ => q0 = .string ⟨#[108, 101, 97, 118, 101]⟩), (fun q0 _ => q0 = .string ((⟨#[108, 101, 97, 118, 101]⟩ : ByteArray) ++ (⟨#[32]⟩ : ByteArray))), (fun q0 _ => q0 = .pointer (some ⟨wr.heap.size, 1, none⟩)), (fun q0 _ => q0 = .int .i64 t), (fun q0 _ => q0 = .string T), (fun q0 _ => q0 = .string ((⟨#[108, 101, 97, 118, 101]⟩ : ByteArray) ++ (⟨#[32]⟩ : ByteArray) ++ T)), (fun q0 _ => q0 = .string ((⟨#[108, 101, 97, 118, 101]⟩ : ByteArray) ++ (⟨#[32]⟩ : ByteArray) ++ T ++ (⟨#[32]⟩ : ByteArray))), (fun q0 _ => q0 = .pointer (some ⟨wr.heap.size, 2, none⟩)), (fun q0 _ => q0 = .int .i64 u), (fun q0 _ => q0 = .string U), (fun q0 _ => q0 = .string ((⟨#[108, 101, 97, 118, 101]⟩ : ByteArray) ++ (⟨#[32]⟩ : ByteArray) ++ T ++ (⟨#[32]⟩ : ByteArray) ++ U)), (fun q0 _ => q0 = .string (S ++ ((⟨#[108, 101, 97, 118, 101]⟩ : ByteArray) ++ (⟨#[32]⟩ : ByteArray) ++ T ++ (⟨#[32]⟩ : ByteArray) ++ U)))] (by kernel_rfl) (by kernel_rfl) rfl ?_ ?_ ?_
          · intro R hR
            simp only [List.mem_cons, List.not_mem_nil, or_false] at hR
            rcases hR with rfl | rfl | rfl | rfl | rfl | rfl | rfl | rfl | rfl | rfl | rfl | rfl | rfl | rfl | rfl | rfl | rfl
            · exact mono_eq _
            · exact F4_mono
            · exact mono_eq _
            · exact mono_eq _
            · exact PW_mono _
            · exact mono_eq _
            · exact mono_eq _
            · exact mono_eq _
            · exact mono_eq _
            · exact mono_eq _
            · exact mono_eq _
            · exact mono_eq _
            · exact mono_eq _
            · exact mono_eq _
            · exact mono_eq _
            · exact mono_eq _
            · exact mono_eq _
          · simp only [List.take_succ_cons, List.take_zero]
            refine ⟨?_, ?_, ?_, ?_, ?_, ?_, ?_, ?_, ?_, ?_, ?_, ?_, ?_, ?_, ?_, ?_, ?_, trivial⟩
            · intro a ws hb hag hdep K Q hK
              have d5 : (a.tmps[5]?).getD undef = .string S := eval_get (hag 5 (freeB_spec (by kernel_rfl)))
              rw [if_pos (show Region.wanted _ _ = true from rfl)]
              obtain ⟨y0, y1, y2, y3, y4, y5, y6⟩ := box7 hb
              unfold Oper.wp
              simp [go_sem, *]
              exact hK _ _ (Below.refl _ _) rfl
            · intro a ws hb hag hdep K Q hK
              rw [if_pos (show Region.wanted _ _ = true from rfl)]
              unfold Oper.wp
              simp [go_sem]
              refine (rwords_any _).mono ?_
              rintro e w3 ⟨v9, rfl, hf, hb3⟩
              exact hK _ _ hb3 hf
            · intro a ws hb hag hdep K Q hK
              have d7 : (a.tmps[7]?).getD undef = .pointer (some ⟨wr.heap.size, 0, none⟩) := eval_get (hag 7 (freeB_spec (by kernel_rfl)))
              rw [if_pos (show Region.wanted _ _ = true from rfl)]
              obtain ⟨y0, y1, y2, y3, y4, y5, y6⟩ := box7 hb
              unfold Oper.wp
              simp [go_sem, *]
              exact hK _ _ (Below.refl _ _) rfl
            · intro a ws hb hag hdep K Q hK
              have d21 : (a.tmps[21]?).getD undef = .pointer (some ⟨wr.heap.size, 0, none⟩) := eval_get (dep_of hdep 2 21 rfl (by kernel_rfl) rfl rfl)
              rw [if_pos (show Region.wanted _ _ = true from rfl)]
              obtain ⟨y0, y1, y2, y3, y4, y5, y6⟩ := box7 hb
              unfold Oper.wp
              simp [go_sem, *]
              exact hK _ _ (Below.refl _ _) rfl
            · intro a ws hb hag hdep K Q hK
              have d20 : F4 (a.eval (.tmp 20)) ws := dep_of hdep 1 20 rfl (by kernel_rfl) rfl rfl
              have d22 : (a.tmps[22]?).getD undef = .int .i64 3 := eval_get (dep_of hdep 3 22 rfl (by kernel_rfl) rfl rfl)
              rw [if_pos (show Region.wanted _ _ = true from rfl)]
              obtain ⟨g, e20, hg, h1, h2, h3⟩ := d20
              have e20 := eval_get e20
              unfold Oper.wp
              simp [go_sem, e20, d22]
              exact hK _ _ (Below.refl _ _) ⟨g, 3, rfl, hg, h3⟩
            · intro a ws hb hag hdep K Q hK
              have d23 : (PW ⟨#[108, 101, 97, 118, 101]⟩) (a.eval (.tmp 23)) ws := dep_of hdep 4 23 rfl (by kernel_rfl) rfl rfl
              rw [if_pos (show Region.wanted _ _ = true from rfl)]
              obtain ⟨g, i9, e23, hg, h1⟩ := d23
              have e23 := eval_get e23
              unfold Oper.wp
              simp [go_sem, e23, h1]
              exact hK _ _ (Below.refl _ _) rfl
            · intro a ws hb hag hdep K Q hK
              have d24 : (a.tmps[24]?).getD undef = .string ⟨#[108, 101, 97, 118, 101]⟩ := eval_get (dep_of hdep 5 24 rfl (by kernel_rfl) rfl rfl)
              rw [if_pos (show Region.wanted _ _ = true from rfl)]
              unfold Oper.wp
              simp [go_sem, d24]
              exact hK _ _ (Below.refl _ _) rfl
            · intro a ws hb hag hdep K Q hK
              have d7 : (a.tmps[7]?).getD undef = .pointer (some ⟨wr.heap.size, 0, none⟩) := eval_get (hag 7 (freeB_spec (by kernel_rfl)))
              rw [if_pos (show Region.wanted _ _ = true from rfl)]
              obtain ⟨y0, y1, y2, y3, y4, y5, y6⟩ := box7 hb
              unfold Oper.wp
              simp [go_sem, *]
              exact hK _ _ (Below.refl _ _) rfl
            · intro a ws hb hag hdep K Q hK
              have d26 : (a.tmps[26]?).getD undef = .pointer (some ⟨wr.heap.size, 1, none⟩) := eval_get (dep_of hdep 7 26 rfl (by kernel_rfl) rfl rfl)
              rw [if_pos (show Region.wanted _ _ = true from rfl)]
              obtain ⟨y0, y1, y2, y3, y4, y5, y6⟩ := box7 hb
              unfold Oper.wp
              simp [go_sem, *]
              exact hK _ _ (Below.refl _ _) rfl
            · intro a ws hb hag hdep K Q hK
              have d27 : (a.tmps[27]?).getD undef = .int .i64 t := eval_get (dep_of hdep 8 27 rfl (by kernel_rfl) rfl rfl)
              rw [if_pos (show Region.wanted _ _ = true from rfl)]
              have HKs := HKX.out.up hb
              unfold Oper.wp
              simp [go_sem, d27]
              refine (CT.out _ HKs).mono ?_
              rintro e w3 ⟨rfl, hb3⟩
              exact hK _ _ hb3 rfl
            · intro a ws hb hag hdep K Q hK
              have d25 : (a.tmps[25]?).getD undef = .string ((⟨#[108, 101, 97, 118, 101]⟩ : ByteArray) ++ (⟨#[32]⟩ : ByteArray)) := eval_get (dep_of hdep 6 25 rfl (by kernel_rfl) rfl rfl)
              have d28 : (a.tmps[28]?).getD undef = .string T := eval_get (dep_of hdep 9 28 rfl (by kernel_rfl) rfl rfl)
              rw [if_pos (show Region.wanted _ _ = true from rfl)]
              unfold Oper.wp
              simp [go_sem, d25, d28]
              rw [if_neg (by have := HSZ.out; omega)]
              exact hK _ _ (Below.refl _ _) rfl
            · intro a ws hb hag hdep K Q hK
              have d29 : (a.tmps[29]?).getD undef = .string ((⟨#[108, 101, 97, 118, 101]⟩ : ByteArray) ++ (⟨#[32]⟩ : ByteArray) ++ T) := eval_get (dep_of hdep 10 29 rfl (by kernel_rfl) rfl rfl)
              rw [if_pos (show Region.wanted _ _ = true from rfl)]
              unfold Oper.wp
              simp [go_sem, d29]
              rw [if_neg (by have := HSZ.out; omega)]
              exact hK _ _ (Below.refl _ _) rfl
            · intro a ws hb hag hdep K Q hK
              have d7 : (a.tmps[7]?).getD undef = .pointer (some ⟨wr.heap.size, 0, none⟩) := eval_get (hag 7 (freeB_spec (by kernel_rfl)))
              rw [if_pos (show Region.wanted _ _ = true from rfl)]
              obtain ⟨y0, y1, y2, y3, y4, y5, y6⟩ := box7 hb
              unfold Oper.wp
              simp [go_sem, *]
              exact hK _ _ (Below.refl _ _) rfl
            · intro a ws hb hag hdep K Q hK
              have d31 : (a.tmps[31]?).getD undef = .pointer (some ⟨wr.heap.size, 2, none⟩) := eval_get (dep_of hdep 12 31 rfl (by kernel_rfl) rfl rfl)
              rw [if_pos (show Region.wanted _ _ = true from rfl)]
              obtain ⟨y0, y1, y2, y3, y4, y5, y6⟩ := box7 hb
              unfold Oper.wp
              simp [go_sem, *]
              exact hK _ _ (Below.refl _ _) rfl
            · intro a ws hb hag hdep K Q hK
              have d32 : (a.tmps[32]?).getD undef = .int .i64 u := eval_get (dep_of hdep 13 32 rfl (by kernel_rfl) rfl rfl)
              rw [if_pos (show Region.wanted _ _ = true from rfl)]
              have HKs := HKX.out.up hb
              unfold Oper.wp
              simp [go_sem, d32]
              refine (CU.out _ HKs).mono ?_
              rintro e w3 ⟨rfl, hb3⟩
              exact hK _ _ hb3 rfl
            · intro a ws hb hag hdep K Q hK
              have d30 : (a.tmps[30]?).getD undef = .string ((⟨#[108, 101, 97, 118, 101]⟩ : ByteArray) ++ (⟨#[32]⟩ : ByteArray) ++ T ++ (⟨#[32]⟩ : ByteArray)) := eval_get (dep_of hdep 11 30 rfl (by kernel_rfl) rfl rfl)
              have d33 : (a.tmps[33]?).getD undef = .string U := eval_get (dep_of hdep 14 33 rfl (by kernel_rfl) rfl rfl)
              rw [if_pos (show Region.wanted _ _ = true from rfl)]
              unfold Oper.wp
              simp [go_sem, d30, d33]
              rw [if_neg (by have := HSZ.out; omega)]
              exact hK _ _ (Below.refl _ _) rfl
            · intro a ws hb hag hdep K Q hK
              have d19 : (a.tmps[19]?).getD undef = .string S := eval_get (dep_of hdep 0 19 rfl (by kernel_rfl) rfl rfl)
              have d34 : (a.tmps[34]?).getD undef = .string ((⟨#[108, 101, 97, 118, 101]⟩ : ByteArray) ++ (⟨#[32]⟩ : ByteArray) ++ T ++ (⟨#[32]⟩ : ByteArray) ++ U) := eval_get (dep_of hdep 15 34 rfl (by kernel_rfl) rfl rfl)
              rw [if_pos (show Region.wanted _ _ = true from rfl)]
              unfold Oper.wp
              simp [go_sem, d19, d34]
              rw [if_neg (by have := HSZ.out; omega)]
              exact hK _ _ (Below.refl _ _) rfl
          · intro a ws hb hsz hdf hag hend
            have f19 : a.eval (.tmp 19) = .string S := end_of hend 0 19 (by decide) rfl rfl rfl
            have f20 : F4 (a.eval (.tmp 20)) ws := end_of hend 1 20 (by decide) rfl rfl rfl
            have f21 : a.eval (.tmp 21) = .pointer (some ⟨wr.heap.size, 0, none⟩) := end_of hend 2 21 (by decide) rfl rfl rfl
            have f22 : a.eval (.tmp 22) = .int .i64 3 := end_of hend 3 22 (by decide) rfl rfl rfl
            have f23 : (PW ⟨#[108, 101, 97, 118, 101]⟩) (a.eval (.tmp 23)) ws := end_of hend 4 23 (by decide) rfl rfl rfl
            have f24 : a.eval (.tmp 24) = .string ⟨#[108, 101, 97, 118, 101]⟩ := end_of hend 5 24 (by decide) rfl rfl rfl
            have f25 : a.eval (.tmp 25) = .string ((⟨#[108, 101, 97, 118, 101]⟩ : ByteArray) ++ (⟨#[32]⟩ : ByteArray)) := end_of hend 6 25 (by decide) rfl rfl rfl
            have f26 : a.eval (.tmp 26) = .pointer (some ⟨wr.heap.size, 1, none⟩) := end_of hend 7 26 (by decide) rfl rfl rfl
            have f27 : a.eval (.tmp 27) = .int .i64 t := end_of hend 8 27 (by decide) rfl rfl rfl
            have f28 : a.eval (.tmp 28) = .string T := end_of hend 9 28 (by decide) rfl rfl rfl
            have f29 : a.eval (.tmp 29) = .string ((⟨#[108, 101, 97, 118, 101]⟩ : ByteArray) ++ (⟨#[32]⟩ : ByteArray) ++ T) := end_of hend 10 29 (by decide) rfl rfl rfl
            have f30 : a.eval (.tmp 30) = .string ((⟨#[108, 101, 97, 118, 101]⟩ : ByteArray) ++ (⟨#[32]⟩ : ByteArray) ++ T ++ (⟨#[32]⟩ : ByteArray)) := end_of hend 11 30 (by decide) rfl rfl rfl
            have f31 : a.eval (.tmp 31) = .pointer (some ⟨wr.heap.size, 2, none⟩) := end_of hend 12 31 (by decide) rfl rfl rfl
            have f32 : a.eval (.tmp 32) = .int .i64 u := end_of hend 13 32 (by decide) rfl rfl rfl
            have f33 : a.eval (.tmp 33) = .string U := end_of hend 14 33 (by decide) rfl rfl rfl
            have f34 : a.eval (.tmp 34) = .string ((⟨#[108, 101, 97, 118, 101]⟩ : ByteArray) ++ (⟨#[32]⟩ : ByteArray) ++ T ++ (⟨#[32]⟩ : ByteArray) ++ U) := end_of hend 15 34 (by decide) rfl rfl rfl
            have f35 : a.eval (.tmp 35) = .string (S ++ ((⟨#[108, 101, 97, 118, 101]⟩ : ByteArray) ++ (⟨#[32]⟩ : ByteArray) ++ T ++ (⟨#[32]⟩ : ByteArray) ++ U)) := end_of hend 16 35 (by decide) rfl rfl rfl
            have ea := act_block 19 17 hsz hdf hag [19, 20, 21, 22, 23, 24, 25, 26, 27, 28, 29, 30, 31, 32, 33, 34, 35] (by kernel_rfl) (by kernel_rfl) (of_decide_eq_true (by kernel_rfl))
            clear hag hend hsz hdf
            simp only [List.map_cons, List.map_nil, f19, f21, f22, f24, f25, f26, f27, f28, f29, f30, f31, f32, f33, f34, f35] at ea
            clear f19 f21 f22 f24 f25 f26 f27 f28 f29 f30 f31 f32 f33 f34 f35
            generalize a.eval (.tmp 20) = x20 at ea f20
            generalize a.eval (.tmp 23) = x23 at ea f23
            simp only [List.take_succ_cons, List.take_zero, List.drop_succ_cons, List.drop_zero, List.cons_append, List.nil_append] at ea
            subst ea
            clear f20 f23
            obtain ⟨y0, y1, y2, y3, y4, y5, y6⟩ := box7 hb
            have HKs := Lib.hid (HKX.out.up hb)
            have HBs : Hid (Below w.heap.size w ws) := HBX.out.trans (hb.mono HBX.out.size)
            have hs1 : wr.heap.size < ws.heap.size := by have := hb.size; simp at this; omega
            clear hb c0 c1 c2 c3 c4 c5 c6
            simp only [List.drop_succ_cons, List.drop_zero]
            have hq0 : ¬ 9223372036854775807 < S.size + (6 + T.size + 1 + U.size) + 1 := by have := HSZ.out; omega
            go_wp2
            go_roundw
            case rel => exact ⟨k + 1, hlt, by go_num, by rw [txtL_succ l _ k HA.out, ← mk_append, HS.out]; simp only [mk_lit32, mk_lit10, mk_leave, ← HT.out, ← HU.out, mk_append, List.append_assoc, ByteArray.append_assoc]; simp [txtE, wl, Lib.join_cons, Lib.joinTail], HBs.out⟩
            case measure => simp [RowKit.intOf]; omega
      · obtain rfl : k = l.length := by omega
        have HS2 : Hid (mk (txtL l) = S) := by have := HS.out; rwa [List.take_length] at this
        go_wp2
        rw [HS2.out]
        exact bodyPost_ret (v := .tuple #[.string S, .int .i64 0]) (by simp [results, Tryd.results15, go_sem]) rfl ⟨rfl, HB.out⟩
  · have HE := Lib.hid (show txtT l = [] by rw [txtT, if_neg (by rw [HR.out]; exact h0)])
    have hd : (R != 0) = true := by simpa using h0
    clear h0
    unfold PrintP
    rw [HE.out, HR.out]
    go_enter Tryd.func15, Tryd.ntmps15
    go_wp2_with fail
    refine (rcheckAll_any _ _ _ _ H.out hl).mono ?_
    rintro e w1 ⟨rfl, hb⟩
    have HB0 := Lib.hid hb
    clear hb
    rw [HR.out]
    go_wp2
    exact bodyPost_ret (v := .tuple #[.string ⟨#[]⟩, .int .i64 R]) (by simp [results, Tryd.results15, go_sem]) rfl ⟨rfl, HB0.out⟩
end Go.Proofs.YtnohmgmpabckkaaDoor
