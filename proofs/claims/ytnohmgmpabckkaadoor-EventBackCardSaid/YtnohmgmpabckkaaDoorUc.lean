/-
  EventBack, walked.
-/
import Derived.Test.YtnohmgmpabckkaaDoorUb
import Derived.Test.YtnohmgmpabckkaaDoorVw
namespace Go.Proofs.YtnohmgmpabckkaaDoor
open Go.RowKit Go.Lib

theorem parse_ok (l : List Ev) (w : World) (K : KW w) (hl : l.length ≤ 1000) (h0 : ∀ e ∈ l, chkE e = 0) : Calls Tryd.prog 18 #[.string (mk (txtL l))] w (ParseP l w) := by
  have e : Lib.join (lns l true) [10] = txtL l := by rw [txtL_join]; rfl
  have h := parse_any l true w K (by omega) (by simp [lns]) h0 (by rw [e]; have := txtL_len l (fun x hx => vb_of x (h0 x hx)); omega)
  rw [e] at h
  exact h
set_option maxHeartbeats 4000000 in
set_option maxRecDepth 100000 in
theorem back_walk (A1 : Option Addr) (c1 : Nat) (L1 : List Int) (w : World) (h1 : RD w A1 c1 L1) (K : KW w) (hL1 : L1.length ≤ 17592186044416) :
    Calls Tryd.prog 4 #[.slice A1 L1.length c1] w fun e w' => e = .returned (.bool true) ∧ Below w.heap.size w w' := by
  have H1 := Lib.hid h1
  have HK0 := Lib.hid K
  clear h1 K
  go_enter Tryd.func4, Tryd.ntmps4
  go_wp2_with fail
  refine (new_any A1 c1 L1 _ H1.out).mono ?_
  rintro e w1 ⟨rfl, D1, hb1⟩
  have HB1 := Lib.hid hb1
  have HD1 := Lib.hid D1
  clear hb1 D1
  go_wp2_with fail
  refine (next_any w.heap.size w.heap.size A1 c1 L1 _ 62 _ HD1.out hL1 (by decide)).mono ?_
  rintro e w2 ⟨z, m2, rfl, hz1, hz2, D2, hg1⟩
  obtain ⟨z, rfl⟩ : ∃ j : Nat, z = j := ⟨z.toNat, by omega⟩
  have HD2 := Lib.hid D2
  have HB2 : Hid (Below w.heap.size w w2) := HB1.out.trans (grown_to_below hg1 (Nat.le_refl _) HB1.out.size)
  have CM := mixed_any w.heap.size w.heap.size A1 c1 L1 m2 (2 + z) 12 _ HD2.out hL1 (by omega) (by decide)
  rw [show ((2 + z : Nat) : Int) = 2 + (z : Int) by omega] at CM
  have HCM := Lib.hid CM
  clear D2 hg1 HB1 HD1 CM
  go_wp2_with fail
  refine HCM.out.mono ?_
  rintro e w4 ⟨l, B1, d1, m1, rfl, hl, hv, ho1, -, hg1⟩
  have HB4 : Hid (Below w.heap.size w w4) := HB2.out.trans (grown_to_below hg1 (Nat.le_refl _) HB2.out.size)
  have HV := Lib.hid hv
  have HX := Lib.hid (RX.of_own ho1)
  have HK4 := Lib.hid (HK0.out.go HB4.out HK0.out.sz)
  clear hv ho1 hg1 HB2 HD2 HCM HK0 hz1 hz2
  go_wp2_with fail
  refine (enc_ok B1 d1 l _ HX.out (by omega) HV.out).mono ?_
  rintro e w5 ⟨X, x, rfl, hr, hb⟩
  have CD := Lib.hid (decode_any X x l _ hr (by omega) (chkL_zero l HV.out))
  rw [encL_len]
  replace HX := Lib.hid (RX.up HX.out hb)
  have HB5 : Hid (Below w.heap.size w w5) := HB4.out.trans (hb.mono HB4.out.size)
  replace HK4 := Lib.hid (HK4.out.up hb)
  clear hr hb HB4
  go_wp2_with fail
  refine CD.out.mono ?_
  rintro e w6 ⟨Y, y, rfl, hr, hb⟩
  have HY := Lib.hid hr
  replace HX := Lib.hid (RX.up HX.out hb)
  have HB6 : Hid (Below w.heap.size w w6) := HB5.out.trans (hb.mono HB5.out.size)
  replace HK4 := Lib.hid (HK4.out.up hb)
  clear hr hb HB5 CD
  go_wp2_with fail
  refine (print_ok B1 d1 l _ HX.out HK4.out (by omega) HV.out).mono ?_
  rintro e w7 ⟨rfl, hb⟩
  replace HX := Lib.hid (RX.up HX.out hb)
  replace HY := Lib.hid (RX.up HY.out hb)
  have HB7 : Hid (Below w.heap.size w w7) := HB6.out.trans (hb.mono HB6.out.size)
  replace HK4 := Lib.hid (HK4.out.up hb)
  clear hb HB6
  have CP := Lib.hid (parse_ok l _ HK4.out (by omega) HV.out)
  generalize mk (txtL l) = T at *
  go_wp2_with fail
  refine CP.out.mono ?_
  rintro e w8 ⟨Z, z', rfl, hr, hb⟩
  have HZ := Lib.hid hr
  replace HX := Lib.hid (RX.up HX.out hb)
  replace HY := Lib.hid (RX.up HY.out hb)
  have HB8 : Hid (Below w.heap.size w w8) := HB7.out.trans (hb.mono HB7.out.size)
  replace HK4 := Lib.hid (HK4.out.up hb)
  clear hr hb HB7 CP
  have q1 : IntKind.i64.wrap (10 * (l.length : Int)) = 10 * (l.length : Int) := IntWalk.i64_in _ (by omega)
  go_wp2_with fail
  refine (same_any Y B1 y d1 l _ HY.out HX.out (by omega)).mono ?_
  rintro e w9 ⟨rfl, hb⟩
  replace HZ := Lib.hid (RX.up HZ.out hb)
  replace HX := Lib.hid (RX.up HX.out hb)
  have HB9 : Hid (Below w.heap.size w w9) := HB8.out.trans (hb.mono HB8.out.size)
  replace HK4 := Lib.hid (HK4.out.up hb)
  clear hb HB8 HY
  go_wp2_with fail
  refine (same_any Z B1 z' d1 l _ HZ.out HX.out (by omega)).mono ?_
  rintro e w10 ⟨rfl, hb⟩
  have HB10 : Hid (Below w.heap.size w w10) := HB9.out.trans (hb.mono HB9.out.size)
  replace HK4 := Lib.hid (HK4.out.up hb)
  clear hb HB9 HX HZ
  go_wp2_with fail
  refine (awake_any _ HK4.out).mono ?_
  rintro e w11 ⟨rfl, hb⟩
  go_wp2
  go_ret
  exact ⟨rfl, HB10.out.trans (hb.mono HB10.out.size)⟩
end Go.Proofs.YtnohmgmpabckkaaDoor
