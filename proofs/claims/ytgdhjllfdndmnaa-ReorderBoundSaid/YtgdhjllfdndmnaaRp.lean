/-
  ReorderBound: the walk of the law.
-/
import Derived.Test.YtgdhjllfdndmnaaRn
namespace Go.Proofs.Ytgdhjllfdndmnaa
open Go.RowKit Go.Lib

theorem sortF_run {k : Int} (h0 : 0 ≤ k) (h1 : k ≤ 1048576) (l : List Ev) (hl : ∀ e ∈ l, chkE e = 0) (hn : l.length < 4096) :
    ∃ tk : List Ev, sortF k l = (Rd.stab tk, (Rd.lates k (-1) l : Int), 0) ∧ tk.length + Rd.lates k (-1) l = l.length ∧ (Rd.lates k (-1) l = 0 → tk = l) := by
  have hok : okB k = true := by simp [okB]; omega
  obtain ⟨tk, h2, h3, h4⟩ := Rd.sort_run l (Rd.opened k) [] [] 0 (Rd.run_start h0 h1) (fun e he => ⟨hl e he, (chk_time (hl e he)).2⟩) (by simpa using hn)
  refine ⟨tk, ?_, h3, h4⟩
  rw [sortF, if_pos hok, h2, List.nil_append, Int.zero_add]
  rfl
theorem far_zero {k : Int} (h0 : 0 ≤ k) (l : List Ev) (hl : ∀ e ∈ l, chkE e = 0) (h : Rd.far k 0 l = false) : Rd.lates k (-1) l = 0 :=
  Rd.far_late k h0 l (-1) (fun e he => (chk_time (hl e he)).1) (by rw [Rd.far_start k h0 l (fun e he => (chk_time (hl e he)).1)]; exact h)
set_option maxHeartbeats 8000000 in
set_option maxRecDepth 100000 in
theorem bound_law (A : Option Addr) (c : Nat) (L : List Int) (bound : Int) (W : World) (h : RD W A c L) (hL : L.length ≤ 17592186044416) :
    Calls Try.prog 5 #[.slice A L.length c, .int .i64 bound] W fun e W' => e = .returned (.bool true) ∧ Below W.heap.size W W' := by
  have CN := Lib.hid (new_any A c L W h)
  clear h
  go_enter Try.func5, Try.ntmps5
  go_wp2_with fail
  refine CN.out.mono ?_
  rintro e w1 ⟨rfl, D1, hb1⟩
  have HD1 := Lib.hid D1
  have HB1 := Lib.hid hb1
  clear D1 hb1 CN
  go_wp2_with fail
  refine (mixed_any W.heap.size W.heap.size A c L 0 6 20 w1 HD1.out hL (by decide) (by decide)).mono ?_
  rintro e w2 ⟨l, Al, cl', m2, rfl, hll, hlv, ho, hd, hg⟩
  have HB2 : Hid (Below W.heap.size W w2) := HB1.out.grown hg HB1.out.size (fun k hk => by injection hk with hk; omega)
  have HLV := Lib.hid hlv
  have HRL := Lib.hid (RX.of_own ho)
  clear hlv ho hd hg HD1
  go_wp2_with fail
  refine (mod_any bound 7 _ (by decide) (by decide)).mono ?_
  rintro e w3 ⟨rfl, h3⟩
  subst h3
  have hk : 0 ≤ (bound.tmod 7 + 7) % 7 ∧ (bound.tmod 7 + 7) % 7 < 7 := by omega
  generalize (bound.tmod 7 + 7) % 7 = k at hk ⊢
  obtain ⟨tk1, S1, S2, S3⟩ := sortF_run (k := k) (by omega) (by omega) l HLV.out (by omega)
  obtain ⟨tk2, S4, S5, -⟩ := sortF_run (k := k + 1) (by omega) (by omega) l HLV.out (by omega)
  have HMN := Lib.hid (Rd.lates_more k l (-1))
  have HFZ := Lib.hid (far_zero (k := k) (by omega) l HLV.out)
  obtain ⟨n1, HN1⟩ : ∃ n1, Hid (Rd.lates k (-1) l = n1) := ⟨_, rfl⟩
  obtain ⟨n2, HN2⟩ : ∃ n2, Hid (Rd.lates (k + 1) (-1) l = n2) := ⟨_, rfl⟩
  rw [HN1.out] at S1 S2 S3
  rw [HN2.out] at S4 S5
  rw [HN1.out, HN2.out] at HMN
  rw [HN1.out] at HFZ
  have HS1 := Lib.hid S1
  have HS2 := Lib.hid S2
  have HS3 := Lib.hid S3
  have HS4 := Lib.hid S4
  have HLL := Lib.hid hll
  have HKK := Lib.hid hk
  have f1 : IntKind.i64.wrap (k + 1) = k + 1 := IntWalk.i64_in _ (by omega)
  clear S1 S2 S3 S4 S5
  go_wp2_with fail
  refine (sort_any k Al cl' l w2 HRL.out (by omega)).mono ?_
  rintro e w4 ⟨x, nn, er, A4, c4, rfl, hs, hr4, hb4⟩
  rw [HS1.out] at hs
  injection hs with h1 h2
  injection h2 with h2 h3
  subst h1; subst h2; subst h3
  have HR4 := Lib.hid hr4
  have HB4 := Lib.hid hb4
  clear hr4 hb4
  go_wp2_with fail
  refine (sort_any (k + 1) Al cl' l w4 (HRL.out.up HB4.out) (by omega)).mono ?_
  rintro e w5 ⟨x, nn, er, A5, c5, rfl, hs, hr5, hb5⟩
  rw [HS4.out] at hs
  injection hs with h1 h2
  injection h2 with h2 h3
  subst h1; subst h2; subst h3
  have HR5 := Lib.hid (HR4.out.up hb5)
  have HB5 : Hid (Below w2.heap.size w2 w5) := HB4.out.trans (hb5.mono HB4.out.size)
  have HRL5 := Lib.hid (HRL.out.up HB5.out)
  clear hr5 hb5 f1
  generalize (Rd.stab tk2).length = n5
  obtain ⟨n4, HN4⟩ : ∃ n4, Hid ((Rd.stab tk1).length = n4) := ⟨_, rfl⟩
  rw [HN4.out]
  have HN4l : Hid (n4 + n1 = l.length) := by show _ = _; rw [← HN4.out, Rd.stab_len]; exact HS2.out
  obtain ⟨FR, HFR⟩ : ∃ FR, Hid (Rd.far k 0 l = FR) := ⟨_, rfl⟩
  rw [HFR.out] at HFZ
  go_wp2_with fail
  go_loopw [14, 15, 41] (fun sl sf i wr => ∃ (j : Nat) (Lt : Int) (fr : Bool), sl = .int .i64 Lt ∧ sf = .bool fr ∧ i = .int .i64 j ∧ j ≤ l.length ∧ (0 ≤ Lt ∧ Lt ≤ 1048576) ∧ Hid ((fr || Rd.far k Lt (l.drop j)) = FR) ∧ Hid (Below w5.heap.size w5 wr)) (fun _ _ i _ => l.length - (RowKit.intOf i).toNat)
  case atStart => exact ⟨0, 0, false, rfl, rfl, rfl, Nat.zero_le _, ⟨by omega, by omega⟩, HFR.out, Below.refl _ _⟩
  case round =>
    obtain ⟨j, Lt, fr, rfl, rfl, rfl, hj, ⟨hLt0, hLt1⟩, HF, HB⟩ := hrel
    have hkk := HKK.out
    by_cases hlt : j < l.length
    · obtain ⟨bb, off, ⟨k1, t1, u1, v1, x1, y1, z1⟩, rfl, hbb, ha, d0, d1, d2, d3, d4, d5, d6⟩ := RV.at_ (HRL5.out.up HB.out) hlt
      dsimp only at d0 d1 d2 d3 d4 d5 d6
      have hct := chk_time (HLV.out _ (List.mem_of_getElem? ha))
      dsimp only at hct
      have HF2 : Hid ((fr || (decide (Lt - t1 > k) || Rd.far k (max Lt t1) (l.drop (j + 1)))) = FR) := by
        show _ = _
        have := HF.out
        rwa [List.drop_eq_getElem_cons hlt, (List.getElem?_eq_some_iff.1 ha).2] at this
      have f2 : IntKind.i64.wrap (Lt - t1) = Lt - t1 := IntWalk.i64_in _ (by omega)
      clear ha HF
      have HCT := Lib.hid hct
      obtain ⟨mx, HX⟩ : ∃ mx, Hid (max Lt t1 = mx) := ⟨_, rfl⟩
      rw [HX.out] at HF2
      have hmx : (t1 ≤ Lt ∧ mx = Lt) ∨ (Lt < t1 ∧ mx = t1) := by have := HX.out; omega
      clear HX hct
      obtain ⟨dd, HDD⟩ : ∃ dd, Hid (decide (Lt - t1 > k) = dd) := ⟨_, rfl⟩
      rw [HDD.out] at HF2
      have hdd := HDD.out
      cases fr with
      | true =>
        have HF3 : Hid ((true || Rd.far k mx (l.drop (j + 1))) = FR) := by show _ = _; rw [← HF2.out]; simp
        clear HF2 hdd HDD f2
        rcases hmx with ⟨hmx, h9⟩ | ⟨hmx, h9⟩
        all_goals
          subst h9
          go_wp2
          go_roundw
          case rel => exact ⟨j + 1, _, true, rfl, rfl, by go_num, by omega, ⟨by have := HCT.out; omega, by have := HCT.out; omega⟩, HF3.out, HB.out.trans ((below_new _ _).mono HB.out.size)⟩
          case measure => simp [RowKit.intOf]; try omega
      | false =>
        have HF3 : Hid ((dd || Rd.far k mx (l.drop (j + 1))) = FR) := by show _ = _; rw [← HF2.out]; simp
        clear HF2
        cases dd with
        | true =>
          clear HDD
          rcases hmx with ⟨hmx, h9⟩ | ⟨hmx, h9⟩
          all_goals
            subst h9
            go_wp2
            go_roundw
            case rel => exact ⟨j + 1, _, true, rfl, rfl, by go_num, by omega, ⟨by have := HCT.out; omega, by have := HCT.out; omega⟩, HF3.out, HB.out.trans ((below_new _ _).mono HB.out.size)⟩
            case measure => simp [RowKit.intOf]; try omega
        | false =>
          clear HDD
          rcases hmx with ⟨hmx, h9⟩ | ⟨hmx, h9⟩
          all_goals
            subst h9
            go_wp2
            go_roundw
            case rel => exact ⟨j + 1, _, false, rfl, rfl, by go_num, by omega, ⟨by have := HCT.out; omega, by have := HCT.out; omega⟩, HF3.out, HB.out.trans ((below_new _ _).mono HB.out.size)⟩
            case measure => simp [RowKit.intOf]; try omega
    · obtain rfl : j = l.length := by omega
      obtain rfl : fr = FR := by have := HF.out; rw [List.drop_length] at this; simpa [Rd.far] using this
      have hmn : decide ((n2 : Int) ≤ (n1 : Int)) = true := by rw [decide_eq_true_eq]; have := HMN.out; omega
      have hnl : ((n4 : Int) + (n1 : Int)) = (l.length : Int) := by have := HN4l.out; omega
      have hq : IntKind.i64.wrap ((n4 : Int) + (n1 : Int)) = (l.length : Int) := by rw [hnl]; exact IntWalk.i64_in _ (by omega)
      have HBr : Hid (Below w2.heap.size w2 wr) := HB5.out.trans (HB.out.mono HB5.out.size)
      clear HF hnl
      cases fr with
      | true =>
        go_wp2_with fail
        refine (awake_any _).mono ?_
        rintro e v3 ⟨rfl, hb9⟩
        have HB9 : Hid (Below w2.heap.size w2 v3) := HBr.out.trans (hb9.mono HBr.out.size)
        clear hb9
        go_wp2
        go_ret
        exact ⟨rfl, HB2.out.trans (HB9.out.mono HB2.out.size)⟩
      | false =>
        have hn1 : n1 = 0 := HFZ.out rfl
        have d74 : ((n1 : Int) == 0) = true := by rw [beq_iff_eq]; omega
        obtain rfl : tk1 = l := HS3.out hn1
        clear hn1
        have HST := Lib.hid (stable_any Al cl' tk1 wr (HRL5.out.up HB.out) (by omega))
        go_wp2_with fail
        refine HST.out.mono ?_
        rintro e v1 ⟨A7, c7, rfl, hr7, hb7⟩
        have HB7 : Hid (Below w5.heap.size w5 v1) := HB.out.trans (hb7.mono HB.out.size)
        have CM := Lib.hid (same_any A4 A7 c4 c7 (Rd.stab tk1) v1 (HR5.out.up HB7.out) hr7 (by rw [Rd.stab_len]; omega))
        rw [HN4.out] at CM ⊢
        clear hr7 hb7 HST
        go_wp2_with fail
        refine CM.out.mono ?_
        rintro e v2 ⟨rfl, hb8⟩
        have HB8 : Hid (Below w5.heap.size w5 v2) := HB7.out.trans (hb8.mono HB7.out.size)
        clear hb8 CM
        go_wp2_with fail
        refine (awake_any v2).mono ?_
        rintro e v3 ⟨rfl, hb9⟩
        have HB9 : Hid (Below w5.heap.size w5 v3) := HB8.out.trans (hb9.mono HB8.out.size)
        clear hb9
        go_wp2
        go_ret
        exact ⟨rfl, HB2.out.trans ((HB5.out.trans (HB9.out.mono HB5.out.size)).mono HB2.out.size)⟩
end Go.Proofs.Ytgdhjllfdndmnaa
