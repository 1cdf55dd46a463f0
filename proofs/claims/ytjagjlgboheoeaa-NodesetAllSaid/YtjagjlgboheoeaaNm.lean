/-
  The law NodesetAll, walked.
-/
import Derived.Test.YtjagjlgboheoeaaNk
import Derived.Deep.RegionHeld3
namespace Go.Proofs.Ytjagjlgboheoeaa
open Go.RowKit Go.Lib

theorem eqB_self (a : List Int) : eqB a a = true := eqB_of rfl
theorem rcmp_below (A B : Option Addr) (c d : Nat) (a b : List Int) (w : World) (h : RD w A c a) (h' : RD w B d b) (hl : a.length ≤ 65536) (hl' : b.length ≤ 65536) :
    Calls Try.prog 24 #[.slice A a.length c, .slice B b.length d] w fun e w' => e = .returned (.int .i64 (Ns.cm a b)) ∧ Below w.heap.size w w' :=
  (rcmp_any A B c d a b w h h' hl hl').mono fun _ _ ⟨he, n, hn⟩ => ⟨he, hn ▸ below_drewN w n⟩
set_option maxHeartbeats 2000000 in
set_option maxRecDepth 100000 in
theorem law3_near (A B : Option Addr) (c d : Nat) (a b : List Int) (n x : Int) (w : World) (h1 : RD w A c a) (h2 : RD w B d b) (hla : a.length ≤ 120) (hlb : b.length ≤ 120)
    (hn1 : -9223372036854775808 ≤ n) (hn2 : n < 9223372036854775808) :
    Calls Try.prog 3 #[.slice A a.length c, .slice B b.length d, .int .i64 n, .int .i64 x] w fun e w' => e = .returned (.bool true) ∧ Below w.heap.size w w' := by
  have HA := Lib.hid h1
  have HBb := Lib.hid h2
  have HB := Lib.hid (Below.refl w.heap.size w)
  clear h1 h2
  obtain ⟨na, HNA⟩ : ∃ na, Hid (na = Ns.norm a) := ⟨_, rfl⟩
  obtain ⟨nb, HNB⟩ : ∃ nb, Hid (nb = Ns.norm b) := ⟨_, rfl⟩
  have hna : na.length ≤ 120 := by rw [HNA.out]; exact Nat.le_trans (Ns.len_norm a) hla
  have hnb : nb.length ≤ 120 := by rw [HNB.out]; exact Nat.le_trans (Ns.len_norm b) hlb
  go_enter Try.func3, Try.ntmps3
  go_wp2_with fail
  refine (rof_any A c a _ HA.out (by omega)).mono ?_
  rintro e w1 ⟨A1, c1, rfl, hf, hb⟩
  rw [← HNA.out] at hf ⊢
  replace HA := Lib.hid (HA.out.go hb)
  replace HBb := Lib.hid (HBb.out.go hb)
  replace HB := Lib.hid (HB.out.trans (hb.mono HB.out.size))
  have F1 := Lib.hid hf
  clear hf hb
  go_wp2_with fail
  refine (rof_any A c a _ HA.out (by omega)).mono ?_
  rintro e w2 ⟨A2, c2, rfl, hf, hb⟩
  rw [← HNA.out] at hf ⊢
  replace HA := Lib.hid (HA.out.go hb)
  replace HBb := Lib.hid (HBb.out.go hb)
  replace F1 := Lib.hid (F1.out.go hb)
  replace HB := Lib.hid (HB.out.trans (hb.mono HB.out.size))
  have F2 := Lib.hid hf
  clear hf hb
  go_wp2_with fail
  refine (rof_any B d b _ HBb.out (by omega)).mono ?_
  rintro e w3 ⟨A3, c3, rfl, hf, hb⟩
  rw [← HNB.out] at hf ⊢
  replace HA := Lib.hid (HA.out.go hb)
  replace HBb := Lib.hid (HBb.out.go hb)
  replace F1 := Lib.hid (F1.out.go hb)
  replace F2 := Lib.hid (F2.out.go hb)
  replace HB := Lib.hid (HB.out.trans (hb.mono HB.out.size))
  have F3 := Lib.hid hf
  clear hf hb
  go_wp2
  obtain ⟨g, HG⟩ : ∃ g, Hid (g = w3.heap.size) := ⟨_, rfl⟩
  obtain ⟨W4, HW4⟩ : ∃ W4, Hid (W4 = (w3.alloc (Obj.cells #[Value.slice A a.length c, Value.slice B b.length d, Value.slice A1 na.length c1, Value.slice B b.length d, Value.slice A2 na.length c2, Value.slice A3 nb.length c3] 24))) := ⟨_, rfl⟩
  have hbw : Below w3.heap.size w3 W4 := by rw [HW4.out]; exact below_new _ _
  have HBL : Hid (W4.heap[g]? = some (.cells #[Value.slice A a.length c, Value.slice B b.length d, Value.slice A1 na.length c1, Value.slice B b.length d, Value.slice A2 na.length c2, Value.slice A3 nb.length c3] 24)) := by
    show _ = _
    rw [HW4.out, HG.out]; exact heap_alloc_new _ _
  have HGL : Hid (g < W4.heap.size) := by show _ < _; rw [HW4.out, HG.out]; simp
  rw [← HW4.out, ← HG.out]
  replace HA := Lib.hid (HA.out.go hbw)
  replace HBb := Lib.hid (HBb.out.go hbw)
  replace F1 := Lib.hid (F1.out.go hbw)
  replace F2 := Lib.hid (F2.out.go hbw)
  replace F3 := Lib.hid (F3.out.go hbw)
  replace HB := Lib.hid (HB.out.trans (hbw.mono HB.out.size))
  clear hbw HW4 HG
  go_loopw [37] (fun i wr => ∃ k : Nat, k ≤ 3 ∧ i = .int .i64 k ∧ Hid (Below W4.heap.size W4 wr)) (fun i _ => 3 - (intOf i).toNat)
  case atStart => exact ⟨0, by omega, rfl, Below.refl _ _⟩
  case round =>
    obtain ⟨k, hk, rfl, HBR⟩ := hrel
    have HAr := Lib.hid (HA.out.go HBR.out)
    have HBr := Lib.hid (HBb.out.go HBR.out)
    have F1r := Lib.hid (F1.out.go HBR.out)
    have F2r := Lib.hid (F2.out.go HBR.out)
    have F3r := Lib.hid (F3.out.go HBR.out)
    have HBLr : Hid (wr.heap[g]? = some (.cells #[Value.slice A a.length c, Value.slice B b.length d, Value.slice A1 na.length c1, Value.slice B b.length d, Value.slice A2 na.length c2, Value.slice A3 nb.length c3] 24)) := by
      show _ = _
      rw [← HBL.out]; exact HBR.out.block g HGL.out
    by_cases hlt : k < 3
    · have pk : ∃ (Au Av : Option Addr) (cu cv : Nat) (lu lv : List Int), Hid (RD wr Au cu lu) ∧ Hid (RD wr Av cv lv) ∧ lu.length ≤ 120 ∧ lv.length ≤ 120 ∧
          wr.cell? ⟨g, k * 2, none⟩ = some (.slice Au lu.length cu) ∧ wr.cell? ⟨g, k * 2 + 1, none⟩ = some (.slice Av lv.length cv) := by
        have hc := fun i => Go.Joins.cell_of_block HBLr.out i
        rcases (by omega : k = 0 ∨ k = 1 ∨ k = 2) with rfl | rfl | rfl
        · exact ⟨A, B, c, d, a, b, HAr, HBr, hla, hlb, hc 0, hc 1⟩
        · exact ⟨A1, B, c1, d, na, b, F1r, HBr, hna, hlb, hc 2, hc 3⟩
        · exact ⟨A2, A3, c2, c3, na, nb, F2r, F3r, hna, hnb, hc 4, hc 5⟩
      obtain ⟨Au, Av, cu, cv, lu, lv, HU, HV, hlu, hlv, hs0, hs1⟩ := pk
      clear HAr HBr F1r F2r F3r HBLr
      have M1 := Ns.len_norm lu
      have M2 := Ns.len_uni lu lv
      have M3 := Ns.len_mee lu lv
      have M4 := Ns.len_mns lu lv
      go_wp2
      go_quiet (fail)
      have hb : Below wr.heap.size wr ((wr.alloc (Obj.cells #[Value.slice Au lu.length cu, Value.slice Av lv.length cv] 24)).drewN nq) := (below_new wr _).trans ⟨rfl, rfl, rfl, Nat.le_refl _, fun _ _ => rfl⟩
      go_wp2_with fail
      generalize ((wr.alloc (Obj.cells #[Value.slice Au lu.length cu, Value.slice Av lv.length cv] 24)).drewN nq) = W5 at hb ⊢
      replace HU := Lib.hid (HU.out.go hb)
      replace HV := Lib.hid (HV.out.go hb)
      replace HBR := Lib.hid (HBR.out.trans (hb.mono HBR.out.size))
      clear hb hs0 hs1
      refine (valid_any Au cu lu n _ HU.out (by omega)).mono ?_
      rintro e y0 ⟨rfl, rfl⟩
      go_wp2_with fail
      refine (rvalid_any Au cu lu n _ HU.out (by omega)).mono ?_
      rintro e x1 ⟨rfl, rfl⟩
      go_wp2_with fail
      refine (of_any Au cu lu _ HU.out (by omega)).mono ?_
      rintro e w2 ⟨X1, e1, rfl, hf, hb⟩
      replace HU := Lib.hid (HU.out.go hb)
      replace HV := Lib.hid (HV.out.go hb)
      replace HBR := Lib.hid (HBR.out.trans (hb.mono HBR.out.size))
      have G1 := Lib.hid hf
      clear hf hb
      go_wp2_with fail
      refine (rof_any Au cu lu _ HU.out (by omega)).mono ?_
      rintro e w3 ⟨X2, e2, rfl, hf, hb⟩
      replace HU := Lib.hid (HU.out.go hb)
      replace HV := Lib.hid (HV.out.go hb)
      replace G1 := Lib.hid (G1.out.go hb)
      replace HBR := Lib.hid (HBR.out.trans (hb.mono HBR.out.size))
      have G2 := Lib.hid hf
      clear hf hb
      go_wp2_with fail
      refine (same_any X1 X2 e1 e2 _ _ _ G1.out G2.out (by omega) (by omega)).mono ?_
      rintro e w4 ⟨rfl, hb⟩
      rw [eqB_self]
      replace HU := Lib.hid (HU.out.go hb)
      replace HV := Lib.hid (HV.out.go hb)
      replace G1 := Lib.hid (G1.out.go hb)
      replace G2 := Lib.hid (G2.out.go hb)
      replace HBR := Lib.hid (HBR.out.trans (hb.mono HBR.out.size))
      clear hb
      go_wp2_with fail
      refine (has_any Au cu lu x _ HU.out (by omega)).mono ?_
      rintro e x5 ⟨rfl, rfl⟩
      go_wp2_with fail
      refine (rhas_any Au cu lu x _ HU.out (by omega)).mono ?_
      rintro e x6 ⟨rfl, rfl⟩
      go_wp2_with fail
      refine (union_any Au Av cu cv lu lv _ HU.out HV.out (by omega) (by omega)).mono ?_
      rintro e w7 ⟨X3, e3, rfl, hf, hb⟩
      replace HU := Lib.hid (HU.out.go hb)
      replace HV := Lib.hid (HV.out.go hb)
      replace G1 := Lib.hid (G1.out.go hb)
      replace G2 := Lib.hid (G2.out.go hb)
      replace HBR := Lib.hid (HBR.out.trans (hb.mono HBR.out.size))
      have G3 := Lib.hid hf
      clear hf hb
      go_wp2_with fail
      refine (runion_any Au Av cu cv lu lv _ HU.out HV.out (by omega) (by omega)).mono ?_
      rintro e w8 ⟨X4, e4, rfl, hf, hb⟩
      replace HU := Lib.hid (HU.out.go hb)
      replace HV := Lib.hid (HV.out.go hb)
      replace G1 := Lib.hid (G1.out.go hb)
      replace G2 := Lib.hid (G2.out.go hb)
      replace G3 := Lib.hid (G3.out.go hb)
      replace HBR := Lib.hid (HBR.out.trans (hb.mono HBR.out.size))
      have G4 := Lib.hid hf
      clear hf hb
      go_wp2_with fail
      refine (same_any X3 X4 e3 e4 _ _ _ G3.out G4.out (by omega) (by omega)).mono ?_
      rintro e w9 ⟨rfl, hb⟩
      rw [eqB_self]
      replace HU := Lib.hid (HU.out.go hb)
      replace HV := Lib.hid (HV.out.go hb)
      replace G1 := Lib.hid (G1.out.go hb)
      replace G2 := Lib.hid (G2.out.go hb)
      replace G3 := Lib.hid (G3.out.go hb)
      replace G4 := Lib.hid (G4.out.go hb)
      replace HBR := Lib.hid (HBR.out.trans (hb.mono HBR.out.size))
      clear hb
      go_wp2_with fail
      refine (meet_any Au Av cu cv lu lv _ HU.out HV.out (by omega) (by omega)).mono ?_
      rintro e w10 ⟨X5, e5, rfl, hf, hb⟩
      replace HU := Lib.hid (HU.out.go hb)
      replace HV := Lib.hid (HV.out.go hb)
      replace G1 := Lib.hid (G1.out.go hb)
      replace G2 := Lib.hid (G2.out.go hb)
      replace G3 := Lib.hid (G3.out.go hb)
      replace G4 := Lib.hid (G4.out.go hb)
      replace HBR := Lib.hid (HBR.out.trans (hb.mono HBR.out.size))
      have G5 := Lib.hid hf
      clear hf hb
      go_wp2_with fail
      refine (rmeet_any Au Av cu cv lu lv _ HU.out HV.out (by omega) (by omega)).mono ?_
      rintro e w11 ⟨X6, e6, rfl, hf, hb⟩
      replace HU := Lib.hid (HU.out.go hb)
      replace HV := Lib.hid (HV.out.go hb)
      replace G1 := Lib.hid (G1.out.go hb)
      replace G2 := Lib.hid (G2.out.go hb)
      replace G3 := Lib.hid (G3.out.go hb)
      replace G4 := Lib.hid (G4.out.go hb)
      replace G5 := Lib.hid (G5.out.go hb)
      replace HBR := Lib.hid (HBR.out.trans (hb.mono HBR.out.size))
      have G6 := Lib.hid hf
      clear hf hb
      go_wp2_with fail
      refine (same_any X5 X6 e5 e6 _ _ _ G5.out G6.out (by omega) (by omega)).mono ?_
      rintro e w12 ⟨rfl, hb⟩
      rw [eqB_self]
      replace HU := Lib.hid (HU.out.go hb)
      replace HV := Lib.hid (HV.out.go hb)
      replace G1 := Lib.hid (G1.out.go hb)
      replace G2 := Lib.hid (G2.out.go hb)
      replace G3 := Lib.hid (G3.out.go hb)
      replace G4 := Lib.hid (G4.out.go hb)
      replace G5 := Lib.hid (G5.out.go hb)
      replace G6 := Lib.hid (G6.out.go hb)
      replace HBR := Lib.hid (HBR.out.trans (hb.mono HBR.out.size))
      clear hb
      go_wp2_with fail
      refine (minus_any Au Av cu cv lu lv _ HU.out HV.out (by omega) (by omega)).mono ?_
      rintro e w13 ⟨X7, e7, rfl, hf, hb⟩
      replace HU := Lib.hid (HU.out.go hb)
      replace HV := Lib.hid (HV.out.go hb)
      replace G1 := Lib.hid (G1.out.go hb)
      replace G2 := Lib.hid (G2.out.go hb)
      replace G3 := Lib.hid (G3.out.go hb)
      replace G4 := Lib.hid (G4.out.go hb)
      replace G5 := Lib.hid (G5.out.go hb)
      replace G6 := Lib.hid (G6.out.go hb)
      replace HBR := Lib.hid (HBR.out.trans (hb.mono HBR.out.size))
      have G7 := Lib.hid hf
      clear hf hb
      go_wp2_with fail
      refine (rminus_any Au Av cu cv lu lv _ HU.out HV.out (by omega) (by omega)).mono ?_
      rintro e w14 ⟨X8, e8, rfl, hf, hb⟩
      replace HU := Lib.hid (HU.out.go hb)
      replace HV := Lib.hid (HV.out.go hb)
      replace G1 := Lib.hid (G1.out.go hb)
      replace G2 := Lib.hid (G2.out.go hb)
      replace G3 := Lib.hid (G3.out.go hb)
      replace G4 := Lib.hid (G4.out.go hb)
      replace G5 := Lib.hid (G5.out.go hb)
      replace G6 := Lib.hid (G6.out.go hb)
      replace G7 := Lib.hid (G7.out.go hb)
      replace HBR := Lib.hid (HBR.out.trans (hb.mono HBR.out.size))
      have G8 := Lib.hid hf
      clear hf hb
      go_wp2_with fail
      refine (same_any X7 X8 e7 e8 _ _ _ G7.out G8.out (by omega) (by omega)).mono ?_
      rintro e w15 ⟨rfl, hb⟩
      rw [eqB_self]
      replace HU := Lib.hid (HU.out.go hb)
      replace HV := Lib.hid (HV.out.go hb)
      replace G1 := Lib.hid (G1.out.go hb)
      replace G2 := Lib.hid (G2.out.go hb)
      replace G3 := Lib.hid (G3.out.go hb)
      replace G4 := Lib.hid (G4.out.go hb)
      replace G5 := Lib.hid (G5.out.go hb)
      replace G6 := Lib.hid (G6.out.go hb)
      replace G7 := Lib.hid (G7.out.go hb)
      replace G8 := Lib.hid (G8.out.go hb)
      replace HBR := Lib.hid (HBR.out.trans (hb.mono HBR.out.size))
      clear hb
      go_wp2_with fail
      refine (within_any Au Av cu cv lu lv _ HU.out HV.out (by omega) (by omega)).mono ?_
      rintro e w16 ⟨rfl, hb⟩
      replace HU := Lib.hid (HU.out.go hb)
      replace HV := Lib.hid (HV.out.go hb)
      replace G1 := Lib.hid (G1.out.go hb)
      replace G2 := Lib.hid (G2.out.go hb)
      replace G3 := Lib.hid (G3.out.go hb)
      replace G4 := Lib.hid (G4.out.go hb)
      replace G5 := Lib.hid (G5.out.go hb)
      replace G6 := Lib.hid (G6.out.go hb)
      replace G7 := Lib.hid (G7.out.go hb)
      replace G8 := Lib.hid (G8.out.go hb)
      replace HBR := Lib.hid (HBR.out.trans (hb.mono HBR.out.size))
      clear hb
      go_wp2_with fail
      refine (rwithin_any Au Av cu cv lu lv _ HU.out HV.out (by omega) (by omega)).mono ?_
      rintro e x17 ⟨rfl, rfl⟩
      go_wp2_with fail
      refine (cmp_any Au Av cu cv lu lv _ HU.out HV.out (by omega) (by omega)).mono ?_
      rintro e x18 ⟨rfl, rfl⟩
      go_wp2_with fail
      refine (rcmp_below Au Av cu cv lu lv _ HU.out HV.out (by omega) (by omega)).mono ?_
      rintro e w19 ⟨rfl, hb⟩
      replace HU := Lib.hid (HU.out.go hb)
      replace HV := Lib.hid (HV.out.go hb)
      replace G1 := Lib.hid (G1.out.go hb)
      replace G2 := Lib.hid (G2.out.go hb)
      replace G3 := Lib.hid (G3.out.go hb)
      replace G4 := Lib.hid (G4.out.go hb)
      replace G5 := Lib.hid (G5.out.go hb)
      replace G6 := Lib.hid (G6.out.go hb)
      replace G7 := Lib.hid (G7.out.go hb)
      replace G8 := Lib.hid (G8.out.go hb)
      replace HBR := Lib.hid (HBR.out.trans (hb.mono HBR.out.size))
      clear hb
      go_wp2
      go_roundw
      case rel => exact ⟨k + 1, by omega, by go_num, HBR.out⟩
      case measure => simp [intOf]; omega
    · replace HBR := Lib.hid (HB.out.trans (HBR.out.mono HB.out.size))
      clear HAr HBr F1r F2r F3r HBLr HB HBL HGL HA HBb F1 F2 F3
      obtain ⟨N1, HN1⟩ : ∃ N1, Hid (N1 = upto (cut64 n)) := ⟨_, rfl⟩
      have M5 : N1.length ≤ 65536 := by rw [HN1.out, len_upto]; have := cut64_le n; omega
      go_wp2_with fail
      refine (mod80_any n _ hn1 hn2).mono ?_
      rintro e y1 ⟨⟨r, hr1, hr2, rfl⟩, rfl⟩
      obtain ⟨N2, HN2⟩ : ∃ N2, Hid (N2 = upto (cut64 (r - 5))) := ⟨_, rfl⟩
      have M6 : N2.length ≤ 65536 := by rw [HN2.out, len_upto]; have := cut64_le (r - 5); omega
      go_wp2_with fail
      refine (range_any n _).mono ?_
      rintro e w1 ⟨X1, e1, rfl, hf, hb⟩
      rw [← HN1.out] at hf ⊢
      replace HBR := Lib.hid (HBR.out.trans (hb.mono HBR.out.size))
      have G1 := Lib.hid hf
      clear hf hb
      go_wp2_with fail
      refine (rrange_any n _).mono ?_
      rintro e w2 ⟨X2, e2, rfl, hf, hb⟩
      rw [← HN1.out] at hf ⊢
      replace G1 := Lib.hid (G1.out.go hb)
      replace HBR := Lib.hid (HBR.out.trans (hb.mono HBR.out.size))
      have G2 := Lib.hid hf
      clear hf hb
      go_wp2_with fail
      refine (same_any X1 X2 e1 e2 N1 N1 _ G1.out G2.out M5 M5).mono ?_
      rintro e w3 ⟨rfl, hb⟩
      rw [eqB_self]
      replace G1 := Lib.hid (G1.out.go hb)
      replace G2 := Lib.hid (G2.out.go hb)
      replace HBR := Lib.hid (HBR.out.trans (hb.mono HBR.out.size))
      clear hb
      go_wp2_with fail
      refine (range_any (r - 5) _).mono ?_
      rintro e w4 ⟨X3, e3, rfl, hf, hb⟩
      rw [← HN2.out] at hf ⊢
      replace G1 := Lib.hid (G1.out.go hb)
      replace G2 := Lib.hid (G2.out.go hb)
      replace HBR := Lib.hid (HBR.out.trans (hb.mono HBR.out.size))
      have G3 := Lib.hid hf
      clear hf hb
      go_wp2_with fail
      refine (rrange_any (r - 5) _).mono ?_
      rintro e w5 ⟨X4, e4, rfl, hf, hb⟩
      rw [← HN2.out] at hf ⊢
      replace G1 := Lib.hid (G1.out.go hb)
      replace G2 := Lib.hid (G2.out.go hb)
      replace G3 := Lib.hid (G3.out.go hb)
      replace HBR := Lib.hid (HBR.out.trans (hb.mono HBR.out.size))
      have G4 := Lib.hid hf
      clear hf hb
      go_wp2_with fail
      refine (same_any X3 X4 e3 e4 N2 N2 _ G3.out G4.out M6 M6).mono ?_
      rintro e w6 ⟨rfl, hb⟩
      rw [eqB_self]
      replace G1 := Lib.hid (G1.out.go hb)
      replace G2 := Lib.hid (G2.out.go hb)
      replace G3 := Lib.hid (G3.out.go hb)
      replace G4 := Lib.hid (G4.out.go hb)
      replace HBR := Lib.hid (HBR.out.trans (hb.mono HBR.out.size))
      clear hb
      go_wp2_with fail
      refine (awake_any _).mono ?_
      rintro e w7 ⟨rfl, hb⟩
      replace G1 := Lib.hid (G1.out.go hb)
      replace G2 := Lib.hid (G2.out.go hb)
      replace G3 := Lib.hid (G3.out.go hb)
      replace G4 := Lib.hid (G4.out.go hb)
      replace HBR := Lib.hid (HBR.out.trans (hb.mono HBR.out.size))
      clear hb
      go_wp2
      go_ret
      exact ⟨rfl, HBR.out⟩

theorem law3_far (A B : Option Addr) (c d : Nat) (p q : Nat) (n x : Int) (w : World) (hp : p ≤ 17592186044416) (hq : q ≤ 17592186044416) (hfar : 120 < p ∨ 120 < q) :
    Calls Try.prog 3 #[.slice A p c, .slice B q d, .int .i64 n, .int .i64 x] w fun e w' => e = .returned (.bool true) ∧ Below w.heap.size w w' := by
  by_cases h1 : (120 : Int) < (p : Int)
  · go_enter Try.func3, Try.ntmps3
    go_wp2_with (go_at_call 7; refine (awake_any _).mono ?_; rintro e w' ⟨rfl, hb⟩)
    go_ret
    exact ⟨rfl, hb⟩
  · have h2 : (120 : Int) < (q : Int) := by omega
    clear hfar
    go_enter Try.func3, Try.ntmps3
    go_wp2_with (go_at_call 7; refine (awake_any _).mono ?_; rintro e w' ⟨rfl, hb⟩)
    go_ret
    exact ⟨rfl, hb⟩
theorem law3_any (A : Option Addr) (c : Nat) (a : List Int) (B : Option Addr) (d : Nat) (b : List Int) (n x : Int) (w : World) (h1 : RD w A c a) (s1 : a.length ≤ 17592186044416) (h2 : RD w B d b) (s2 : b.length ≤ 17592186044416)
    (hn1 : -9223372036854775808 ≤ n) (hn2 : n < 9223372036854775808) (_x1 : -9223372036854775808 ≤ x) (_x2 : x < 9223372036854775808) :
    Calls Try.prog 3 #[.slice A a.length c, .slice B b.length d, .int .i64 n, .int .i64 x] w fun e w' => e = .returned (.bool true) ∧ Below w.heap.size w w' := by
  by_cases h : 120 < a.length ∨ 120 < b.length
  · exact law3_far A B c d _ _ n x w s1 s2 h
  · exact law3_near A B c d a b n x w h1 h2 (by omega) (by omega) hn1 hn2
end Go.Proofs.Ytjagjlgboheoeaa
