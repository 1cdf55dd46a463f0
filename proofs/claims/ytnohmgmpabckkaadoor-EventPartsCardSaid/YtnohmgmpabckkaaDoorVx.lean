/-
  EventParts, walked.
-/
import Derived.Test.YtnohmgmpabckkaaDoorVw
namespace Go.Proofs.YtnohmgmpabckkaaDoor
open Go.RowKit Go.Lib

set_option maxHeartbeats 4000000 in
set_option maxRecDepth 100000 in
theorem parts_walk (A1 A2 : Option Addr) (c1 c2 : Nat) (L1 L2 : List Int) (w : World) (h1 : RD w A1 c1 L1) (h2 : RD w A2 c2 L2) (K : KW w) (hL1 : L1.length ≤ 17592186044416) (hL2 : L2.length ≤ 17592186044416) :
    Calls Tryd.prog 5 #[.slice A1 L1.length c1, .slice A2 L2.length c2] w fun e w' => e = .returned (.bool true) ∧ Below w.heap.size w w' := by
  have H1 := Lib.hid h1
  have H2 := Lib.hid h2
  have HK0 := Lib.hid K
  clear h1 h2 K
  go_enter Tryd.func5, Tryd.ntmps5
  go_wp2_with fail
  refine (new_any A1 c1 L1 _ H1.out).mono ?_
  rintro e w1 ⟨rfl, D1, hb1⟩
  have HB1 := Lib.hid hb1
  have HD1 := Lib.hid D1
  clear hb1 D1
  go_wp2_with fail
  refine (mixed_any w.heap.size w.heap.size A1 c1 L1 0 9 6 _ HD1.out hL1 (by decide) (by decide)).mono ?_
  rintro e w2 ⟨l1, B1, d1, m1, rfl, hl1, hv1, ho1, -, hg1⟩
  have HB2 : Hid (Below w.heap.size w w2) := HB1.out.trans (grown_to_below hg1 (Nat.le_refl _) HB1.out.size)
  have HV1 := Lib.hid hv1
  have HL1 := Lib.hid hl1
  have HR1 := Lib.hid (RX.of_own ho1)
  clear hv1 hl1 ho1 hg1 HB1 HD1
  go_wp2_with fail
  refine (new_any A2 c2 L2 _ (H2.out.go HB2.out)).mono ?_
  rintro e w3 ⟨rfl, D3, hb3⟩
  have HD3 := Lib.hid D3
  have HR13 := Lib.hid (HR1.out.go hb3)
  have HB3 : Hid (Below w.heap.size w w3) := HB2.out.trans (hb3.mono HB2.out.size)
  have hs3 := hb3.size
  clear D3 hb3 HR1
  go_wp2_with fail
  refine (mixed_any w2.heap.size w2.heap.size A2 c2 L2 0 9 6 _ HD3.out hL2 (by decide) (by decide)).mono ?_
  rintro e w4 ⟨l2, B2, d2, m2, rfl, hl2, hv2, ho2, -, hg2⟩
  have HB4 : Hid (Below w.heap.size w w4) := HB3.out.trans (grown_to_below hg2 HB2.out.size HB3.out.size)
  have HV2 := Lib.hid hv2
  have HL2 := Lib.hid hl2
  have HR2 := Lib.hid (RX.of_own ho2)
  have HR14 : Hid (RE w4.heap.size w4 B1 d1 l1) := (HR13.out.go (grown_to_below hg2 (Nat.le_refl _) hs3)).more (Nat.le_trans hs3 hg2.size)
  clear hl2 hv2 ho2 hg2 hs3 HB3 HD3 HR13 HB2
  have HO4 : Hid (w4.ownsRow w4.heap.size 23 7 (.slice none 0 0) 0 (cl Ev.cells [])) := World.ownsRow_nil _ _ _ _
  go_wp2_with (at_builtin; first
    | (refine wpList_applE _ rfl (.const (.slice none 0 0)) (.tmp 26) w4.heap.size none 0 rfl [] (by simp [Act.eval]) HO4.out B1 d1 l1.length l1 rfl (by simp [Act.eval]) HR14.out (by have := HL1.out; simp; omega) (Nat.le_refl _) ?_; intro A5 c5 w5 HO5 HB5 _; have HR25 := Lib.hid (RX.up HR2.out HB5.out); have HR15 := Lib.hid (RX.up HR14.out HB5.out))
    | (refine wpList_applE _ rfl (.tmp 27) (.tmp 28) w4.heap.size A5 c5 rfl ([] ++ l1) (by simp [Act.eval]) HO5.out B2 d2 l2.length l2 rfl (by simp [Act.eval]) HR25.out (by have := HL1.out; have := HL2.out; simp; omega) HB5.out.size ?_; intro A6 c6 w6 HO6 HB6 _))
  obtain ⟨l3, HL3⟩ : ∃ l3 : List Ev, Hid ((([] : List Ev) ++ l1) ++ l2 = l3) := ⟨(([] : List Ev) ++ l1) ++ l2, rfl⟩
  have hn3 : l3.length = l1.length + l2.length := by rw [← HL3.out]; simp
  have HB46 : Hid (Below w4.heap.size w4 w6) := HB5.out.trans HB6.out
  have HX1 : Hid (RE w6.heap.size w6 B1 d1 l1) := (HR14.out.go HB46.out).more HB46.out.size
  have HX2 : Hid (RE w6.heap.size w6 B2 d2 l2) := (HR2.out.go HB46.out).more HB46.out.size
  have HX3 : Hid (RE w6.heap.size w6 A6 c6 l3) := by
    have h := HO6.out
    have e := HL3.out
    rw [e] at h
    exact RX.of_own h
  have HV3 : Hid (∀ e ∈ l3, chkE e = 0) := by
    show ∀ e ∈ _, _
    intro e he
    rw [← HL3.out] at he
    simp at he
    rcases he with h | h
    · exact HV1.out e h
    · exact HV2.out e h
  have HB6' : Hid (Below w.heap.size w w6) := HB4.out.trans (HB46.out.mono HB4.out.size)
  have HK6 := Lib.hid (HK0.out.go HB6'.out HK0.out.sz)
  clear HO4 HO5 HB5 HR25 HR15 HO6 HB6 HB46 HR14 HR2 HB4 HK0
  go_wp2_with fail
  refine (enc_ok B1 d1 l1 _ HX1.out (by have := HL1.out; have := HL2.out; omega) HV1.out).mono ?_
  rintro e w7 ⟨X1, x1, rfl, hr, hb⟩
  have HY1 := Lib.hid hr
  replace HX1 := Lib.hid (RX.up HX1.out hb)
  replace HX2 := Lib.hid (RX.up HX2.out hb)
  replace HX3 := Lib.hid (RX.up HX3.out hb)
  have HB7 : Hid (Below w.heap.size w w7) := HB6'.out.trans (hb.mono HB6'.out.size)
  replace HK6 := Lib.hid (HK6.out.up hb)
  clear hb hr HB6'
  go_wp2_with fail
  refine (enc_ok B2 d2 l2 _ HX2.out (by have := HL1.out; have := HL2.out; omega) HV2.out).mono ?_
  rintro e w8 ⟨X2, x2, rfl, hr, hb⟩
  have HY2 := Lib.hid hr
  replace HX1 := Lib.hid (RX.up HX1.out hb)
  replace HX2 := Lib.hid (RX.up HX2.out hb)
  replace HX3 := Lib.hid (RX.up HX3.out hb)
  replace HY1 := Lib.hid (RX.up HY1.out hb)
  have HB8 : Hid (Below w.heap.size w w8) := HB7.out.trans (hb.mono HB7.out.size)
  replace HK6 := Lib.hid (HK6.out.up hb)
  clear hb hr HB7
  have CC2 := enc_ok A6 c6 l3 w8 HX3.out (by have := HL1.out; have := HL2.out; omega) HV3.out
  rw [hn3] at CC2
  go_wp2_with fail
  refine (CC2).mono ?_
  rintro e w9 ⟨X3, x3, rfl, hr, hb⟩
  have HY3 := Lib.hid hr
  replace HX1 := Lib.hid (RX.up HX1.out hb)
  replace HX2 := Lib.hid (RX.up HX2.out hb)
  replace HX3 := Lib.hid (RX.up HX3.out hb)
  replace HY1 := Lib.hid (RX.up HY1.out hb)
  replace HY2 := Lib.hid (RX.up HY2.out hb)
  have HB9 : Hid (Below w.heap.size w w9) := HB8.out.trans (hb.mono HB8.out.size)
  replace HK6 := Lib.hid (HK6.out.up hb)
  clear hb hr HB8 CC2
  go_wp2_with fail
  refine (print_ok B1 d1 l1 _ HX1.out HK6.out (by have := HL1.out; have := HL2.out; omega) HV1.out).mono ?_
  rintro e w10 ⟨rfl, hb⟩
  replace HX1 := Lib.hid (RX.up HX1.out hb)
  replace HX2 := Lib.hid (RX.up HX2.out hb)
  replace HX3 := Lib.hid (RX.up HX3.out hb)
  replace HY1 := Lib.hid (RX.up HY1.out hb)
  replace HY2 := Lib.hid (RX.up HY2.out hb)
  replace HY3 := Lib.hid (RX.up HY3.out hb)
  have HB10 : Hid (Below w.heap.size w w10) := HB9.out.trans (hb.mono HB9.out.size)
  replace HK6 := Lib.hid (HK6.out.up hb)
  clear hb HB9
  go_wp2_with fail
  refine (print_ok B2 d2 l2 _ HX2.out HK6.out (by have := HL1.out; have := HL2.out; omega) HV2.out).mono ?_
  rintro e w11 ⟨rfl, hb⟩
  replace HX1 := Lib.hid (RX.up HX1.out hb)
  replace HX2 := Lib.hid (RX.up HX2.out hb)
  replace HX3 := Lib.hid (RX.up HX3.out hb)
  replace HY1 := Lib.hid (RX.up HY1.out hb)
  replace HY2 := Lib.hid (RX.up HY2.out hb)
  replace HY3 := Lib.hid (RX.up HY3.out hb)
  have HB11 : Hid (Below w.heap.size w w11) := HB10.out.trans (hb.mono HB10.out.size)
  replace HK6 := Lib.hid (HK6.out.up hb)
  clear hb HB10
  have CC5 := print_ok A6 c6 l3 w11 HX3.out HK6.out (by have := HL1.out; have := HL2.out; omega) HV3.out
  rw [hn3] at CC5
  go_wp2_with fail
  refine (CC5).mono ?_
  rintro e w12 ⟨rfl, hb⟩
  replace HX1 := Lib.hid (RX.up HX1.out hb)
  replace HX2 := Lib.hid (RX.up HX2.out hb)
  replace HX3 := Lib.hid (RX.up HX3.out hb)
  replace HY1 := Lib.hid (RX.up HY1.out hb)
  replace HY2 := Lib.hid (RX.up HY2.out hb)
  replace HY3 := Lib.hid (RX.up HY3.out hb)
  have HB12 : Hid (Below w.heap.size w w12) := HB11.out.trans (hb.mono HB11.out.size)
  replace HK6 := Lib.hid (HK6.out.up hb)
  clear hb HB11 CC5
  clear HX1 HX2 HX3
  have q1 := conv_any HY1.out
  have q2 := conv_any HY2.out
  have q3 := conv_any HY3.out
  have HE : Hid (mk (encL l1) ++ mk (encL l2) = mk (encL l3)) := by show _ = _; rw [mk_append, ← encL_append, ← HL3.out, List.nil_append]
  have HT : Hid (mk (txtL l1) ++ mk (txtL l2) = mk (txtL l3)) := by show _ = _; rw [mk_append, ← txtL_append, ← HL3.out, List.nil_append]
  have s1 : (mk (encL l1)).size ≤ 60 := by rw [mk_size, encL_len]; have := HL1.out; omega
  have s2 : (mk (encL l2)).size ≤ 60 := by rw [mk_size, encL_len]; have := HL2.out; omega
  have t1 : (mk (txtL l1)).size ≤ 360 := by rw [mk_size]; have := txtL_len l1 (fun e he => vb_of e (HV1.out e he)); have := HL1.out; omega
  have t2 : (mk (txtL l2)).size ≤ 360 := by rw [mk_size]; have := txtL_len l2 (fun e he => vb_of e (HV2.out e he)); have := HL2.out; omega
  generalize mk (encL l1) = E1 at *
  generalize mk (encL l2) = E2 at *
  generalize mk (encL l3) = E3 at *
  generalize mk (txtL l1) = T1 at *
  generalize mk (txtL l2) = T2 at *
  generalize mk (txtL l3) = T3 at *
  have u1 : ¬ 9223372036854775807 < E1.size + E2.size := by omega
  have u2 : ¬ 9223372036854775807 < T1.size + T2.size := by omega
  have u3 : (E1 ++ E2).toList = E3.toList := by rw [HE.out]
  have u4 : (T1 ++ T2).toList = T3.toList := by rw [HT.out]
  clear s1 s2 t1 t2 hn3
  go_wp2_with fail
  refine (awake_any _ HK6.out).mono ?_
  rintro e w13 ⟨rfl, hb⟩
  go_wp2
  go_ret
  exact ⟨rfl, HB12.out.trans (hb.mono HB12.out.size)⟩
end Go.Proofs.YtnohmgmpabckkaaDoor
