/-
  The law NodesetWithin, walked.
-/
import Derived.Test.YtjagjlgboheoeaaNk
namespace Go.Proofs.Ytjagjlgboheoeaa
open Go.RowKit Go.Lib
theorem valid64 : valid (upto (cut64 64)) 64 = true := by decide
set_option maxHeartbeats 4000000 in
theorem law6_near (A B : Option Addr) (c d : Nat) (a b : List Int) (x : Int) (w : World) (h1 : RD w A c a) (h2 : RD w B d b) (hnear : a.length + b.length ≤ 200) :
    Calls Try.prog 6 #[.slice A a.length c, .slice B b.length d, .int .i64 x] w fun e w' => e = .returned (.bool true) ∧ Below w.heap.size w w' := by
  have hi : (a.length : Int) + b.length ≤ 200 := by omega
  have HA := Lib.hid h1
  have HBb := Lib.hid h2
  have HB := Lib.hid (Below.refl w.heap.size w)
  clear h1 h2
  obtain ⟨U, HU⟩ : ∃ U, Hid (Ns.wit a b = U) := ⟨_, rfl⟩
  obtain ⟨V, HV⟩ : ∃ V, Hid (Ns.wit b a = V) := ⟨_, rfl⟩
  obtain ⟨P, HP⟩ : ∃ P, Hid (hasB a x = P) := ⟨_, rfl⟩
  obtain ⟨Q, HQ⟩ : ∃ Q, Hid (hasB b x = Q) := ⟨_, rfl⟩
  have E1 : Hid (eqB (Ns.norm a) (Ns.norm b) = (U && V)) := by show _ = _; rw [eqB_both, HU.out, HV.out]
  have E2 : Hid (hasB (Ns.uni a b) x = (P || Q)) := by show _ = _; rw [hasB_uni, HP.out, HQ.out]
  have E3 : Hid (hasB (Ns.mns a b) x = (P && !Q)) := by show _ = _; rw [hasB_mns, HP.out, HQ.out]
  have E4 := Lib.hid valid64
  have L1 := Ns.len_uni a b
  have L2 := Ns.len_mns a b
  have L3 := Ns.len_norm a
  have L4 := Ns.len_norm b
  have L5 : (upto (cut64 64)).length ≤ 65536 := by decide
  cases U <;> cases V <;> cases P <;> cases Q
  · go_enter Try.func6, Try.ntmps6
    go_wp2_with fail
    refine (within_any A B c d a b _ HA.out HBb.out (by omega) (by omega)).mono ?_
    rintro e w1 ⟨rfl, hb⟩
    rw [HU.out]
    replace HA := Lib.hid (HA.out.go hb)
    replace HBb := Lib.hid (HBb.out.go hb)
    replace HB := Lib.hid (HB.out.trans (hb.mono HB.out.size))
    clear hb
    go_wp2_with fail
    refine (union_any A B c d a b _ HA.out HBb.out (by omega) (by omega)).mono ?_
    rintro e w2 ⟨A1, c1, rfl, hf, hb⟩
    replace HA := Lib.hid (HA.out.go hb)
    replace HBb := Lib.hid (HBb.out.go hb)
    replace HB := Lib.hid (HB.out.trans (hb.mono HB.out.size))
    have F1 := Lib.hid hf
    clear hf hb
    go_wp2_with fail
    refine (of_any A c a _ HA.out (by omega)).mono ?_
    rintro e w3 ⟨A2, c2, rfl, hf, hb⟩
    replace HA := Lib.hid (HA.out.go hb)
    replace HBb := Lib.hid (HBb.out.go hb)
    replace F1 := Lib.hid (F1.out.go hb)
    replace HB := Lib.hid (HB.out.trans (hb.mono HB.out.size))
    have F2 := Lib.hid hf
    clear hf hb
    go_wp2_with fail
    refine (of_any B d b _ HBb.out (by omega)).mono ?_
    rintro e w4 ⟨A3, c3, rfl, hf, hb⟩
    replace HA := Lib.hid (HA.out.go hb)
    replace HBb := Lib.hid (HBb.out.go hb)
    replace F1 := Lib.hid (F1.out.go hb)
    replace F2 := Lib.hid (F2.out.go hb)
    replace HB := Lib.hid (HB.out.trans (hb.mono HB.out.size))
    have F3 := Lib.hid hf
    clear hf hb
    go_wp2_with fail
    refine (same_any A2 A3 c2 c3 _ _ _ F2.out F3.out (by omega) (by omega)).mono ?_
    rintro e w5 ⟨rfl, hb⟩
    rw [E1.out]
    replace HA := Lib.hid (HA.out.go hb)
    replace HBb := Lib.hid (HBb.out.go hb)
    replace F1 := Lib.hid (F1.out.go hb)
    replace F2 := Lib.hid (F2.out.go hb)
    replace F3 := Lib.hid (F3.out.go hb)
    replace HB := Lib.hid (HB.out.trans (hb.mono HB.out.size))
    clear hb
    go_wp2_with fail
    refine (has_any A1 c1 _ x _ F1.out (by omega)).mono ?_
    rintro e x6 ⟨rfl, rfl⟩
    rw [E2.out]
    go_wp2_with fail
    refine (has_any A c a x _ HA.out (by omega)).mono ?_
    rintro e x7 ⟨rfl, rfl⟩
    rw [HP.out]
    go_wp2_with fail
    refine (has_any B d b x _ HBb.out (by omega)).mono ?_
    rintro e x8 ⟨rfl, rfl⟩
    rw [HQ.out]
    go_wp2_with fail
    refine (minus_any A B c d a b _ HA.out HBb.out (by omega) (by omega)).mono ?_
    rintro e w9 ⟨A4, c4, rfl, hf, hb⟩
    replace HA := Lib.hid (HA.out.go hb)
    replace HBb := Lib.hid (HBb.out.go hb)
    replace F1 := Lib.hid (F1.out.go hb)
    replace F2 := Lib.hid (F2.out.go hb)
    replace F3 := Lib.hid (F3.out.go hb)
    replace HB := Lib.hid (HB.out.trans (hb.mono HB.out.size))
    have F4 := Lib.hid hf
    clear hf hb
    go_wp2_with fail
    refine (has_any A4 c4 _ x _ F4.out (by omega)).mono ?_
    rintro e x10 ⟨rfl, rfl⟩
    rw [E3.out]
    go_wp2_with fail
    refine (has_any A c a x _ HA.out (by omega)).mono ?_
    rintro e x11 ⟨rfl, rfl⟩
    rw [HP.out]
    go_wp2_with fail
    refine (range_any 64 _).mono ?_
    rintro e w12 ⟨A5, c5, rfl, hf, hb⟩
    replace HA := Lib.hid (HA.out.go hb)
    replace HBb := Lib.hid (HBb.out.go hb)
    replace F1 := Lib.hid (F1.out.go hb)
    replace F2 := Lib.hid (F2.out.go hb)
    replace F3 := Lib.hid (F3.out.go hb)
    replace F4 := Lib.hid (F4.out.go hb)
    replace HB := Lib.hid (HB.out.trans (hb.mono HB.out.size))
    have F5 := Lib.hid hf
    clear hf hb
    go_wp2_with fail
    refine (valid_any A5 c5 _ 64 _ F5.out L5).mono ?_
    rintro e x13 ⟨rfl, rfl⟩
    rw [E4.out]
    go_wp2_with fail
    refine (awake_any _).mono ?_
    rintro e w14 ⟨rfl, hb⟩
    replace HA := Lib.hid (HA.out.go hb)
    replace HBb := Lib.hid (HBb.out.go hb)
    replace F1 := Lib.hid (F1.out.go hb)
    replace F2 := Lib.hid (F2.out.go hb)
    replace F3 := Lib.hid (F3.out.go hb)
    replace F4 := Lib.hid (F4.out.go hb)
    replace F5 := Lib.hid (F5.out.go hb)
    replace HB := Lib.hid (HB.out.trans (hb.mono HB.out.size))
    clear hb
    go_wp2
    go_ret
    exact ⟨rfl, HB.out⟩
  · go_enter Try.func6, Try.ntmps6
    go_wp2_with fail
    refine (within_any A B c d a b _ HA.out HBb.out (by omega) (by omega)).mono ?_
    rintro e w1 ⟨rfl, hb⟩
    rw [HU.out]
    replace HA := Lib.hid (HA.out.go hb)
    replace HBb := Lib.hid (HBb.out.go hb)
    replace HB := Lib.hid (HB.out.trans (hb.mono HB.out.size))
    clear hb
    go_wp2_with fail
    refine (union_any A B c d a b _ HA.out HBb.out (by omega) (by omega)).mono ?_
    rintro e w2 ⟨A1, c1, rfl, hf, hb⟩
    replace HA := Lib.hid (HA.out.go hb)
    replace HBb := Lib.hid (HBb.out.go hb)
    replace HB := Lib.hid (HB.out.trans (hb.mono HB.out.size))
    have F1 := Lib.hid hf
    clear hf hb
    go_wp2_with fail
    refine (of_any A c a _ HA.out (by omega)).mono ?_
    rintro e w3 ⟨A2, c2, rfl, hf, hb⟩
    replace HA := Lib.hid (HA.out.go hb)
    replace HBb := Lib.hid (HBb.out.go hb)
    replace F1 := Lib.hid (F1.out.go hb)
    replace HB := Lib.hid (HB.out.trans (hb.mono HB.out.size))
    have F2 := Lib.hid hf
    clear hf hb
    go_wp2_with fail
    refine (of_any B d b _ HBb.out (by omega)).mono ?_
    rintro e w4 ⟨A3, c3, rfl, hf, hb⟩
    replace HA := Lib.hid (HA.out.go hb)
    replace HBb := Lib.hid (HBb.out.go hb)
    replace F1 := Lib.hid (F1.out.go hb)
    replace F2 := Lib.hid (F2.out.go hb)
    replace HB := Lib.hid (HB.out.trans (hb.mono HB.out.size))
    have F3 := Lib.hid hf
    clear hf hb
    go_wp2_with fail
    refine (same_any A2 A3 c2 c3 _ _ _ F2.out F3.out (by omega) (by omega)).mono ?_
    rintro e w5 ⟨rfl, hb⟩
    rw [E1.out]
    replace HA := Lib.hid (HA.out.go hb)
    replace HBb := Lib.hid (HBb.out.go hb)
    replace F1 := Lib.hid (F1.out.go hb)
    replace F2 := Lib.hid (F2.out.go hb)
    replace F3 := Lib.hid (F3.out.go hb)
    replace HB := Lib.hid (HB.out.trans (hb.mono HB.out.size))
    clear hb
    go_wp2_with fail
    refine (has_any A1 c1 _ x _ F1.out (by omega)).mono ?_
    rintro e x6 ⟨rfl, rfl⟩
    rw [E2.out]
    go_wp2_with fail
    refine (has_any A c a x _ HA.out (by omega)).mono ?_
    rintro e x7 ⟨rfl, rfl⟩
    rw [HP.out]
    go_wp2_with fail
    refine (has_any B d b x _ HBb.out (by omega)).mono ?_
    rintro e x8 ⟨rfl, rfl⟩
    rw [HQ.out]
    go_wp2_with fail
    refine (minus_any A B c d a b _ HA.out HBb.out (by omega) (by omega)).mono ?_
    rintro e w9 ⟨A4, c4, rfl, hf, hb⟩
    replace HA := Lib.hid (HA.out.go hb)
    replace HBb := Lib.hid (HBb.out.go hb)
    replace F1 := Lib.hid (F1.out.go hb)
    replace F2 := Lib.hid (F2.out.go hb)
    replace F3 := Lib.hid (F3.out.go hb)
    replace HB := Lib.hid (HB.out.trans (hb.mono HB.out.size))
    have F4 := Lib.hid hf
    clear hf hb
    go_wp2_with fail
    refine (has_any A4 c4 _ x _ F4.out (by omega)).mono ?_
    rintro e x10 ⟨rfl, rfl⟩
    rw [E3.out]
    go_wp2_with fail
    refine (has_any A c a x _ HA.out (by omega)).mono ?_
    rintro e x11 ⟨rfl, rfl⟩
    rw [HP.out]
    go_wp2_with fail
    refine (range_any 64 _).mono ?_
    rintro e w12 ⟨A5, c5, rfl, hf, hb⟩
    replace HA := Lib.hid (HA.out.go hb)
    replace HBb := Lib.hid (HBb.out.go hb)
    replace F1 := Lib.hid (F1.out.go hb)
    replace F2 := Lib.hid (F2.out.go hb)
    replace F3 := Lib.hid (F3.out.go hb)
    replace F4 := Lib.hid (F4.out.go hb)
    replace HB := Lib.hid (HB.out.trans (hb.mono HB.out.size))
    have F5 := Lib.hid hf
    clear hf hb
    go_wp2_with fail
    refine (valid_any A5 c5 _ 64 _ F5.out L5).mono ?_
    rintro e x13 ⟨rfl, rfl⟩
    rw [E4.out]
    go_wp2_with fail
    refine (awake_any _).mono ?_
    rintro e w14 ⟨rfl, hb⟩
    replace HA := Lib.hid (HA.out.go hb)
    replace HBb := Lib.hid (HBb.out.go hb)
    replace F1 := Lib.hid (F1.out.go hb)
    replace F2 := Lib.hid (F2.out.go hb)
    replace F3 := Lib.hid (F3.out.go hb)
    replace F4 := Lib.hid (F4.out.go hb)
    replace F5 := Lib.hid (F5.out.go hb)
    replace HB := Lib.hid (HB.out.trans (hb.mono HB.out.size))
    clear hb
    go_wp2
    go_ret
    exact ⟨rfl, HB.out⟩
  · go_enter Try.func6, Try.ntmps6
    go_wp2_with fail
    refine (within_any A B c d a b _ HA.out HBb.out (by omega) (by omega)).mono ?_
    rintro e w1 ⟨rfl, hb⟩
    rw [HU.out]
    replace HA := Lib.hid (HA.out.go hb)
    replace HBb := Lib.hid (HBb.out.go hb)
    replace HB := Lib.hid (HB.out.trans (hb.mono HB.out.size))
    clear hb
    go_wp2_with fail
    refine (union_any A B c d a b _ HA.out HBb.out (by omega) (by omega)).mono ?_
    rintro e w2 ⟨A1, c1, rfl, hf, hb⟩
    replace HA := Lib.hid (HA.out.go hb)
    replace HBb := Lib.hid (HBb.out.go hb)
    replace HB := Lib.hid (HB.out.trans (hb.mono HB.out.size))
    have F1 := Lib.hid hf
    clear hf hb
    go_wp2_with fail
    refine (of_any A c a _ HA.out (by omega)).mono ?_
    rintro e w3 ⟨A2, c2, rfl, hf, hb⟩
    replace HA := Lib.hid (HA.out.go hb)
    replace HBb := Lib.hid (HBb.out.go hb)
    replace F1 := Lib.hid (F1.out.go hb)
    replace HB := Lib.hid (HB.out.trans (hb.mono HB.out.size))
    have F2 := Lib.hid hf
    clear hf hb
    go_wp2_with fail
    refine (of_any B d b _ HBb.out (by omega)).mono ?_
    rintro e w4 ⟨A3, c3, rfl, hf, hb⟩
    replace HA := Lib.hid (HA.out.go hb)
    replace HBb := Lib.hid (HBb.out.go hb)
    replace F1 := Lib.hid (F1.out.go hb)
    replace F2 := Lib.hid (F2.out.go hb)
    replace HB := Lib.hid (HB.out.trans (hb.mono HB.out.size))
    have F3 := Lib.hid hf
    clear hf hb
    go_wp2_with fail
    refine (same_any A2 A3 c2 c3 _ _ _ F2.out F3.out (by omega) (by omega)).mono ?_
    rintro e w5 ⟨rfl, hb⟩
    rw [E1.out]
    replace HA := Lib.hid (HA.out.go hb)
    replace HBb := Lib.hid (HBb.out.go hb)
    replace F1 := Lib.hid (F1.out.go hb)
    replace F2 := Lib.hid (F2.out.go hb)
    replace F3 := Lib.hid (F3.out.go hb)
    replace HB := Lib.hid (HB.out.trans (hb.mono HB.out.size))
    clear hb
    go_wp2_with fail
    refine (has_any A1 c1 _ x _ F1.out (by omega)).mono ?_
    rintro e x6 ⟨rfl, rfl⟩
    rw [E2.out]
    go_wp2_with fail
    refine (has_any A c a x _ HA.out (by omega)).mono ?_
    rintro e x7 ⟨rfl, rfl⟩
    rw [HP.out]
    go_wp2_with fail
    refine (minus_any A B c d a b _ HA.out HBb.out (by omega) (by omega)).mono ?_
    rintro e w8 ⟨A4, c4, rfl, hf, hb⟩
    replace HA := Lib.hid (HA.out.go hb)
    replace HBb := Lib.hid (HBb.out.go hb)
    replace F1 := Lib.hid (F1.out.go hb)
    replace F2 := Lib.hid (F2.out.go hb)
    replace F3 := Lib.hid (F3.out.go hb)
    replace HB := Lib.hid (HB.out.trans (hb.mono HB.out.size))
    have F4 := Lib.hid hf
    clear hf hb
    go_wp2_with fail
    refine (has_any A4 c4 _ x _ F4.out (by omega)).mono ?_
    rintro e x9 ⟨rfl, rfl⟩
    rw [E3.out]
    go_wp2_with fail
    refine (has_any A c a x _ HA.out (by omega)).mono ?_
    rintro e x10 ⟨rfl, rfl⟩
    rw [HP.out]
    go_wp2_with fail
    refine (has_any B d b x _ HBb.out (by omega)).mono ?_
    rintro e x11 ⟨rfl, rfl⟩
    rw [HQ.out]
    go_wp2_with fail
    refine (range_any 64 _).mono ?_
    rintro e w12 ⟨A5, c5, rfl, hf, hb⟩
    replace HA := Lib.hid (HA.out.go hb)
    replace HBb := Lib.hid (HBb.out.go hb)
    replace F1 := Lib.hid (F1.out.go hb)
    replace F2 := Lib.hid (F2.out.go hb)
    replace F3 := Lib.hid (F3.out.go hb)
    replace F4 := Lib.hid (F4.out.go hb)
    replace HB := Lib.hid (HB.out.trans (hb.mono HB.out.size))
    have F5 := Lib.hid hf
    clear hf hb
    go_wp2_with fail
    refine (valid_any A5 c5 _ 64 _ F5.out L5).mono ?_
    rintro e x13 ⟨rfl, rfl⟩
    rw [E4.out]
    go_wp2_with fail
    refine (awake_any _).mono ?_
    rintro e w14 ⟨rfl, hb⟩
    replace HA := Lib.hid (HA.out.go hb)
    replace HBb := Lib.hid (HBb.out.go hb)
    replace F1 := Lib.hid (F1.out.go hb)
    replace F2 := Lib.hid (F2.out.go hb)
    replace F3 := Lib.hid (F3.out.go hb)
    replace F4 := Lib.hid (F4.out.go hb)
    replace F5 := Lib.hid (F5.out.go hb)
    replace HB := Lib.hid (HB.out.trans (hb.mono HB.out.size))
    clear hb
    go_wp2
    go_ret
    exact ⟨rfl, HB.out⟩
  · go_enter Try.func6, Try.ntmps6
    go_wp2_with fail
    refine (within_any A B c d a b _ HA.out HBb.out (by omega) (by omega)).mono ?_
    rintro e w1 ⟨rfl, hb⟩
    rw [HU.out]
    replace HA := Lib.hid (HA.out.go hb)
    replace HBb := Lib.hid (HBb.out.go hb)
    replace HB := Lib.hid (HB.out.trans (hb.mono HB.out.size))
    clear hb
    go_wp2_with fail
    refine (union_any A B c d a b _ HA.out HBb.out (by omega) (by omega)).mono ?_
    rintro e w2 ⟨A1, c1, rfl, hf, hb⟩
    replace HA := Lib.hid (HA.out.go hb)
    replace HBb := Lib.hid (HBb.out.go hb)
    replace HB := Lib.hid (HB.out.trans (hb.mono HB.out.size))
    have F1 := Lib.hid hf
    clear hf hb
    go_wp2_with fail
    refine (of_any A c a _ HA.out (by omega)).mono ?_
    rintro e w3 ⟨A2, c2, rfl, hf, hb⟩
    replace HA := Lib.hid (HA.out.go hb)
    replace HBb := Lib.hid (HBb.out.go hb)
    replace F1 := Lib.hid (F1.out.go hb)
    replace HB := Lib.hid (HB.out.trans (hb.mono HB.out.size))
    have F2 := Lib.hid hf
    clear hf hb
    go_wp2_with fail
    refine (of_any B d b _ HBb.out (by omega)).mono ?_
    rintro e w4 ⟨A3, c3, rfl, hf, hb⟩
    replace HA := Lib.hid (HA.out.go hb)
    replace HBb := Lib.hid (HBb.out.go hb)
    replace F1 := Lib.hid (F1.out.go hb)
    replace F2 := Lib.hid (F2.out.go hb)
    replace HB := Lib.hid (HB.out.trans (hb.mono HB.out.size))
    have F3 := Lib.hid hf
    clear hf hb
    go_wp2_with fail
    refine (same_any A2 A3 c2 c3 _ _ _ F2.out F3.out (by omega) (by omega)).mono ?_
    rintro e w5 ⟨rfl, hb⟩
    rw [E1.out]
    replace HA := Lib.hid (HA.out.go hb)
    replace HBb := Lib.hid (HBb.out.go hb)
    replace F1 := Lib.hid (F1.out.go hb)
    replace F2 := Lib.hid (F2.out.go hb)
    replace F3 := Lib.hid (F3.out.go hb)
    replace HB := Lib.hid (HB.out.trans (hb.mono HB.out.size))
    clear hb
    go_wp2_with fail
    refine (has_any A1 c1 _ x _ F1.out (by omega)).mono ?_
    rintro e x6 ⟨rfl, rfl⟩
    rw [E2.out]
    go_wp2_with fail
    refine (has_any A c a x _ HA.out (by omega)).mono ?_
    rintro e x7 ⟨rfl, rfl⟩
    rw [HP.out]
    go_wp2_with fail
    refine (minus_any A B c d a b _ HA.out HBb.out (by omega) (by omega)).mono ?_
    rintro e w8 ⟨A4, c4, rfl, hf, hb⟩
    replace HA := Lib.hid (HA.out.go hb)
    replace HBb := Lib.hid (HBb.out.go hb)
    replace F1 := Lib.hid (F1.out.go hb)
    replace F2 := Lib.hid (F2.out.go hb)
    replace F3 := Lib.hid (F3.out.go hb)
    replace HB := Lib.hid (HB.out.trans (hb.mono HB.out.size))
    have F4 := Lib.hid hf
    clear hf hb
    go_wp2_with fail
    refine (has_any A4 c4 _ x _ F4.out (by omega)).mono ?_
    rintro e x9 ⟨rfl, rfl⟩
    rw [E3.out]
    go_wp2_with fail
    refine (has_any A c a x _ HA.out (by omega)).mono ?_
    rintro e x10 ⟨rfl, rfl⟩
    rw [HP.out]
    go_wp2_with fail
    refine (has_any B d b x _ HBb.out (by omega)).mono ?_
    rintro e x11 ⟨rfl, rfl⟩
    rw [HQ.out]
    go_wp2_with fail
    refine (range_any 64 _).mono ?_
    rintro e w12 ⟨A5, c5, rfl, hf, hb⟩
    replace HA := Lib.hid (HA.out.go hb)
    replace HBb := Lib.hid (HBb.out.go hb)
    replace F1 := Lib.hid (F1.out.go hb)
    replace F2 := Lib.hid (F2.out.go hb)
    replace F3 := Lib.hid (F3.out.go hb)
    replace F4 := Lib.hid (F4.out.go hb)
    replace HB := Lib.hid (HB.out.trans (hb.mono HB.out.size))
    have F5 := Lib.hid hf
    clear hf hb
    go_wp2_with fail
    refine (valid_any A5 c5 _ 64 _ F5.out L5).mono ?_
    rintro e x13 ⟨rfl, rfl⟩
    rw [E4.out]
    go_wp2_with fail
    refine (awake_any _).mono ?_
    rintro e w14 ⟨rfl, hb⟩
    replace HA := Lib.hid (HA.out.go hb)
    replace HBb := Lib.hid (HBb.out.go hb)
    replace F1 := Lib.hid (F1.out.go hb)
    replace F2 := Lib.hid (F2.out.go hb)
    replace F3 := Lib.hid (F3.out.go hb)
    replace F4 := Lib.hid (F4.out.go hb)
    replace F5 := Lib.hid (F5.out.go hb)
    replace HB := Lib.hid (HB.out.trans (hb.mono HB.out.size))
    clear hb
    go_wp2
    go_ret
    exact ⟨rfl, HB.out⟩
  · go_enter Try.func6, Try.ntmps6
    go_wp2_with fail
    refine (within_any A B c d a b _ HA.out HBb.out (by omega) (by omega)).mono ?_
    rintro e w1 ⟨rfl, hb⟩
    rw [HU.out]
    replace HA := Lib.hid (HA.out.go hb)
    replace HBb := Lib.hid (HBb.out.go hb)
    replace HB := Lib.hid (HB.out.trans (hb.mono HB.out.size))
    clear hb
    go_wp2_with fail
    refine (union_any A B c d a b _ HA.out HBb.out (by omega) (by omega)).mono ?_
    rintro e w2 ⟨A1, c1, rfl, hf, hb⟩
    replace HA := Lib.hid (HA.out.go hb)
    replace HBb := Lib.hid (HBb.out.go hb)
    replace HB := Lib.hid (HB.out.trans (hb.mono HB.out.size))
    have F1 := Lib.hid hf
    clear hf hb
    go_wp2_with fail
    refine (of_any A c a _ HA.out (by omega)).mono ?_
    rintro e w3 ⟨A2, c2, rfl, hf, hb⟩
    replace HA := Lib.hid (HA.out.go hb)
    replace HBb := Lib.hid (HBb.out.go hb)
    replace F1 := Lib.hid (F1.out.go hb)
    replace HB := Lib.hid (HB.out.trans (hb.mono HB.out.size))
    have F2 := Lib.hid hf
    clear hf hb
    go_wp2_with fail
    refine (of_any B d b _ HBb.out (by omega)).mono ?_
    rintro e w4 ⟨A3, c3, rfl, hf, hb⟩
    replace HA := Lib.hid (HA.out.go hb)
    replace HBb := Lib.hid (HBb.out.go hb)
    replace F1 := Lib.hid (F1.out.go hb)
    replace F2 := Lib.hid (F2.out.go hb)
    replace HB := Lib.hid (HB.out.trans (hb.mono HB.out.size))
    have F3 := Lib.hid hf
    clear hf hb
    go_wp2_with fail
    refine (same_any A2 A3 c2 c3 _ _ _ F2.out F3.out (by omega) (by omega)).mono ?_
    rintro e w5 ⟨rfl, hb⟩
    rw [E1.out]
    replace HA := Lib.hid (HA.out.go hb)
    replace HBb := Lib.hid (HBb.out.go hb)
    replace F1 := Lib.hid (F1.out.go hb)
    replace F2 := Lib.hid (F2.out.go hb)
    replace F3 := Lib.hid (F3.out.go hb)
    replace HB := Lib.hid (HB.out.trans (hb.mono HB.out.size))
    clear hb
    go_wp2_with fail
    refine (has_any A1 c1 _ x _ F1.out (by omega)).mono ?_
    rintro e x6 ⟨rfl, rfl⟩
    rw [E2.out]
    go_wp2_with fail
    refine (has_any A c a x _ HA.out (by omega)).mono ?_
    rintro e x7 ⟨rfl, rfl⟩
    rw [HP.out]
    go_wp2_with fail
    refine (has_any B d b x _ HBb.out (by omega)).mono ?_
    rintro e x8 ⟨rfl, rfl⟩
    rw [HQ.out]
    go_wp2_with fail
    refine (minus_any A B c d a b _ HA.out HBb.out (by omega) (by omega)).mono ?_
    rintro e w9 ⟨A4, c4, rfl, hf, hb⟩
    replace HA := Lib.hid (HA.out.go hb)
    replace HBb := Lib.hid (HBb.out.go hb)
    replace F1 := Lib.hid (F1.out.go hb)
    replace F2 := Lib.hid (F2.out.go hb)
    replace F3 := Lib.hid (F3.out.go hb)
    replace HB := Lib.hid (HB.out.trans (hb.mono HB.out.size))
    have F4 := Lib.hid hf
    clear hf hb
    go_wp2_with fail
    refine (has_any A4 c4 _ x _ F4.out (by omega)).mono ?_
    rintro e x10 ⟨rfl, rfl⟩
    rw [E3.out]
    go_wp2_with fail
    refine (has_any A c a x _ HA.out (by omega)).mono ?_
    rintro e x11 ⟨rfl, rfl⟩
    rw [HP.out]
    go_wp2_with fail
    refine (range_any 64 _).mono ?_
    rintro e w12 ⟨A5, c5, rfl, hf, hb⟩
    replace HA := Lib.hid (HA.out.go hb)
    replace HBb := Lib.hid (HBb.out.go hb)
    replace F1 := Lib.hid (F1.out.go hb)
    replace F2 := Lib.hid (F2.out.go hb)
    replace F3 := Lib.hid (F3.out.go hb)
    replace F4 := Lib.hid (F4.out.go hb)
    replace HB := Lib.hid (HB.out.trans (hb.mono HB.out.size))
    have F5 := Lib.hid hf
    clear hf hb
    go_wp2_with fail
    refine (valid_any A5 c5 _ 64 _ F5.out L5).mono ?_
    rintro e x13 ⟨rfl, rfl⟩
    rw [E4.out]
    go_wp2_with fail
    refine (awake_any _).mono ?_
    rintro e w14 ⟨rfl, hb⟩
    replace HA := Lib.hid (HA.out.go hb)
    replace HBb := Lib.hid (HBb.out.go hb)
    replace F1 := Lib.hid (F1.out.go hb)
    replace F2 := Lib.hid (F2.out.go hb)
    replace F3 := Lib.hid (F3.out.go hb)
    replace F4 := Lib.hid (F4.out.go hb)
    replace F5 := Lib.hid (F5.out.go hb)
    replace HB := Lib.hid (HB.out.trans (hb.mono HB.out.size))
    clear hb
    go_wp2
    go_ret
    exact ⟨rfl, HB.out⟩
  · go_enter Try.func6, Try.ntmps6
    go_wp2_with fail
    refine (within_any A B c d a b _ HA.out HBb.out (by omega) (by omega)).mono ?_
    rintro e w1 ⟨rfl, hb⟩
    rw [HU.out]
    replace HA := Lib.hid (HA.out.go hb)
    replace HBb := Lib.hid (HBb.out.go hb)
    replace HB := Lib.hid (HB.out.trans (hb.mono HB.out.size))
    clear hb
    go_wp2_with fail
    refine (union_any A B c d a b _ HA.out HBb.out (by omega) (by omega)).mono ?_
    rintro e w2 ⟨A1, c1, rfl, hf, hb⟩
    replace HA := Lib.hid (HA.out.go hb)
    replace HBb := Lib.hid (HBb.out.go hb)
    replace HB := Lib.hid (HB.out.trans (hb.mono HB.out.size))
    have F1 := Lib.hid hf
    clear hf hb
    go_wp2_with fail
    refine (of_any A c a _ HA.out (by omega)).mono ?_
    rintro e w3 ⟨A2, c2, rfl, hf, hb⟩
    replace HA := Lib.hid (HA.out.go hb)
    replace HBb := Lib.hid (HBb.out.go hb)
    replace F1 := Lib.hid (F1.out.go hb)
    replace HB := Lib.hid (HB.out.trans (hb.mono HB.out.size))
    have F2 := Lib.hid hf
    clear hf hb
    go_wp2_with fail
    refine (of_any B d b _ HBb.out (by omega)).mono ?_
    rintro e w4 ⟨A3, c3, rfl, hf, hb⟩
    replace HA := Lib.hid (HA.out.go hb)
    replace HBb := Lib.hid (HBb.out.go hb)
    replace F1 := Lib.hid (F1.out.go hb)
    replace F2 := Lib.hid (F2.out.go hb)
    replace HB := Lib.hid (HB.out.trans (hb.mono HB.out.size))
    have F3 := Lib.hid hf
    clear hf hb
    go_wp2_with fail
    refine (same_any A2 A3 c2 c3 _ _ _ F2.out F3.out (by omega) (by omega)).mono ?_
    rintro e w5 ⟨rfl, hb⟩
    rw [E1.out]
    replace HA := Lib.hid (HA.out.go hb)
    replace HBb := Lib.hid (HBb.out.go hb)
    replace F1 := Lib.hid (F1.out.go hb)
    replace F2 := Lib.hid (F2.out.go hb)
    replace F3 := Lib.hid (F3.out.go hb)
    replace HB := Lib.hid (HB.out.trans (hb.mono HB.out.size))
    clear hb
    go_wp2_with fail
    refine (has_any A1 c1 _ x _ F1.out (by omega)).mono ?_
    rintro e x6 ⟨rfl, rfl⟩
    rw [E2.out]
    go_wp2_with fail
    refine (has_any A c a x _ HA.out (by omega)).mono ?_
    rintro e x7 ⟨rfl, rfl⟩
    rw [HP.out]
    go_wp2_with fail
    refine (has_any B d b x _ HBb.out (by omega)).mono ?_
    rintro e x8 ⟨rfl, rfl⟩
    rw [HQ.out]
    go_wp2_with fail
    refine (minus_any A B c d a b _ HA.out HBb.out (by omega) (by omega)).mono ?_
    rintro e w9 ⟨A4, c4, rfl, hf, hb⟩
    replace HA := Lib.hid (HA.out.go hb)
    replace HBb := Lib.hid (HBb.out.go hb)
    replace F1 := Lib.hid (F1.out.go hb)
    replace F2 := Lib.hid (F2.out.go hb)
    replace F3 := Lib.hid (F3.out.go hb)
    replace HB := Lib.hid (HB.out.trans (hb.mono HB.out.size))
    have F4 := Lib.hid hf
    clear hf hb
    go_wp2_with fail
    refine (has_any A4 c4 _ x _ F4.out (by omega)).mono ?_
    rintro e x10 ⟨rfl, rfl⟩
    rw [E3.out]
    go_wp2_with fail
    refine (has_any A c a x _ HA.out (by omega)).mono ?_
    rintro e x11 ⟨rfl, rfl⟩
    rw [HP.out]
    go_wp2_with fail
    refine (range_any 64 _).mono ?_
    rintro e w12 ⟨A5, c5, rfl, hf, hb⟩
    replace HA := Lib.hid (HA.out.go hb)
    replace HBb := Lib.hid (HBb.out.go hb)
    replace F1 := Lib.hid (F1.out.go hb)
    replace F2 := Lib.hid (F2.out.go hb)
    replace F3 := Lib.hid (F3.out.go hb)
    replace F4 := Lib.hid (F4.out.go hb)
    replace HB := Lib.hid (HB.out.trans (hb.mono HB.out.size))
    have F5 := Lib.hid hf
    clear hf hb
    go_wp2_with fail
    refine (valid_any A5 c5 _ 64 _ F5.out L5).mono ?_
    rintro e x13 ⟨rfl, rfl⟩
    rw [E4.out]
    go_wp2_with fail
    refine (awake_any _).mono ?_
    rintro e w14 ⟨rfl, hb⟩
    replace HA := Lib.hid (HA.out.go hb)
    replace HBb := Lib.hid (HBb.out.go hb)
    replace F1 := Lib.hid (F1.out.go hb)
    replace F2 := Lib.hid (F2.out.go hb)
    replace F3 := Lib.hid (F3.out.go hb)
    replace F4 := Lib.hid (F4.out.go hb)
    replace F5 := Lib.hid (F5.out.go hb)
    replace HB := Lib.hid (HB.out.trans (hb.mono HB.out.size))
    clear hb
    go_wp2
    go_ret
    exact ⟨rfl, HB.out⟩
  · go_enter Try.func6, Try.ntmps6
    go_wp2_with fail
    refine (within_any A B c d a b _ HA.out HBb.out (by omega) (by omega)).mono ?_
    rintro e w1 ⟨rfl, hb⟩
    rw [HU.out]
    replace HA := Lib.hid (HA.out.go hb)
    replace HBb := Lib.hid (HBb.out.go hb)
    replace HB := Lib.hid (HB.out.trans (hb.mono HB.out.size))
    clear hb
    go_wp2_with fail
    refine (union_any A B c d a b _ HA.out HBb.out (by omega) (by omega)).mono ?_
    rintro e w2 ⟨A1, c1, rfl, hf, hb⟩
    replace HA := Lib.hid (HA.out.go hb)
    replace HBb := Lib.hid (HBb.out.go hb)
    replace HB := Lib.hid (HB.out.trans (hb.mono HB.out.size))
    have F1 := Lib.hid hf
    clear hf hb
    go_wp2_with fail
    refine (of_any A c a _ HA.out (by omega)).mono ?_
    rintro e w3 ⟨A2, c2, rfl, hf, hb⟩
    replace HA := Lib.hid (HA.out.go hb)
    replace HBb := Lib.hid (HBb.out.go hb)
    replace F1 := Lib.hid (F1.out.go hb)
    replace HB := Lib.hid (HB.out.trans (hb.mono HB.out.size))
    have F2 := Lib.hid hf
    clear hf hb
    go_wp2_with fail
    refine (of_any B d b _ HBb.out (by omega)).mono ?_
    rintro e w4 ⟨A3, c3, rfl, hf, hb⟩
    replace HA := Lib.hid (HA.out.go hb)
    replace HBb := Lib.hid (HBb.out.go hb)
    replace F1 := Lib.hid (F1.out.go hb)
    replace F2 := Lib.hid (F2.out.go hb)
    replace HB := Lib.hid (HB.out.trans (hb.mono HB.out.size))
    have F3 := Lib.hid hf
    clear hf hb
    go_wp2_with fail
    refine (same_any A2 A3 c2 c3 _ _ _ F2.out F3.out (by omega) (by omega)).mono ?_
    rintro e w5 ⟨rfl, hb⟩
    rw [E1.out]
    replace HA := Lib.hid (HA.out.go hb)
    replace HBb := Lib.hid (HBb.out.go hb)
    replace F1 := Lib.hid (F1.out.go hb)
    replace F2 := Lib.hid (F2.out.go hb)
    replace F3 := Lib.hid (F3.out.go hb)
    replace HB := Lib.hid (HB.out.trans (hb.mono HB.out.size))
    clear hb
    go_wp2_with fail
    refine (has_any A1 c1 _ x _ F1.out (by omega)).mono ?_
    rintro e x6 ⟨rfl, rfl⟩
    rw [E2.out]
    go_wp2_with fail
    refine (has_any A c a x _ HA.out (by omega)).mono ?_
    rintro e x7 ⟨rfl, rfl⟩
    rw [HP.out]
    go_wp2_with fail
    refine (minus_any A B c d a b _ HA.out HBb.out (by omega) (by omega)).mono ?_
    rintro e w8 ⟨A4, c4, rfl, hf, hb⟩
    replace HA := Lib.hid (HA.out.go hb)
    replace HBb := Lib.hid (HBb.out.go hb)
    replace F1 := Lib.hid (F1.out.go hb)
    replace F2 := Lib.hid (F2.out.go hb)
    replace F3 := Lib.hid (F3.out.go hb)
    replace HB := Lib.hid (HB.out.trans (hb.mono HB.out.size))
    have F4 := Lib.hid hf
    clear hf hb
    go_wp2_with fail
    refine (has_any A4 c4 _ x _ F4.out (by omega)).mono ?_
    rintro e x9 ⟨rfl, rfl⟩
    rw [E3.out]
    go_wp2_with fail
    refine (has_any A c a x _ HA.out (by omega)).mono ?_
    rintro e x10 ⟨rfl, rfl⟩
    rw [HP.out]
    go_wp2_with fail
    refine (has_any B d b x _ HBb.out (by omega)).mono ?_
    rintro e x11 ⟨rfl, rfl⟩
    rw [HQ.out]
    go_wp2_with fail
    refine (range_any 64 _).mono ?_
    rintro e w12 ⟨A5, c5, rfl, hf, hb⟩
    replace HA := Lib.hid (HA.out.go hb)
    replace HBb := Lib.hid (HBb.out.go hb)
    replace F1 := Lib.hid (F1.out.go hb)
    replace F2 := Lib.hid (F2.out.go hb)
    replace F3 := Lib.hid (F3.out.go hb)
    replace F4 := Lib.hid (F4.out.go hb)
    replace HB := Lib.hid (HB.out.trans (hb.mono HB.out.size))
    have F5 := Lib.hid hf
    clear hf hb
    go_wp2_with fail
    refine (valid_any A5 c5 _ 64 _ F5.out L5).mono ?_
    rintro e x13 ⟨rfl, rfl⟩
    rw [E4.out]
    go_wp2_with fail
    refine (awake_any _).mono ?_
    rintro e w14 ⟨rfl, hb⟩
    replace HA := Lib.hid (HA.out.go hb)
    replace HBb := Lib.hid (HBb.out.go hb)
    replace F1 := Lib.hid (F1.out.go hb)
    replace F2 := Lib.hid (F2.out.go hb)
    replace F3 := Lib.hid (F3.out.go hb)
    replace F4 := Lib.hid (F4.out.go hb)
    replace F5 := Lib.hid (F5.out.go hb)
    replace HB := Lib.hid (HB.out.trans (hb.mono HB.out.size))
    clear hb
    go_wp2
    go_ret
    exact ⟨rfl, HB.out⟩
  · go_enter Try.func6, Try.ntmps6
    go_wp2_with fail
    refine (within_any A B c d a b _ HA.out HBb.out (by omega) (by omega)).mono ?_
    rintro e w1 ⟨rfl, hb⟩
    rw [HU.out]
    replace HA := Lib.hid (HA.out.go hb)
    replace HBb := Lib.hid (HBb.out.go hb)
    replace HB := Lib.hid (HB.out.trans (hb.mono HB.out.size))
    clear hb
    go_wp2_with fail
    refine (union_any A B c d a b _ HA.out HBb.out (by omega) (by omega)).mono ?_
    rintro e w2 ⟨A1, c1, rfl, hf, hb⟩
    replace HA := Lib.hid (HA.out.go hb)
    replace HBb := Lib.hid (HBb.out.go hb)
    replace HB := Lib.hid (HB.out.trans (hb.mono HB.out.size))
    have F1 := Lib.hid hf
    clear hf hb
    go_wp2_with fail
    refine (of_any A c a _ HA.out (by omega)).mono ?_
    rintro e w3 ⟨A2, c2, rfl, hf, hb⟩
    replace HA := Lib.hid (HA.out.go hb)
    replace HBb := Lib.hid (HBb.out.go hb)
    replace F1 := Lib.hid (F1.out.go hb)
    replace HB := Lib.hid (HB.out.trans (hb.mono HB.out.size))
    have F2 := Lib.hid hf
    clear hf hb
    go_wp2_with fail
    refine (of_any B d b _ HBb.out (by omega)).mono ?_
    rintro e w4 ⟨A3, c3, rfl, hf, hb⟩
    replace HA := Lib.hid (HA.out.go hb)
    replace HBb := Lib.hid (HBb.out.go hb)
    replace F1 := Lib.hid (F1.out.go hb)
    replace F2 := Lib.hid (F2.out.go hb)
    replace HB := Lib.hid (HB.out.trans (hb.mono HB.out.size))
    have F3 := Lib.hid hf
    clear hf hb
    go_wp2_with fail
    refine (same_any A2 A3 c2 c3 _ _ _ F2.out F3.out (by omega) (by omega)).mono ?_
    rintro e w5 ⟨rfl, hb⟩
    rw [E1.out]
    replace HA := Lib.hid (HA.out.go hb)
    replace HBb := Lib.hid (HBb.out.go hb)
    replace F1 := Lib.hid (F1.out.go hb)
    replace F2 := Lib.hid (F2.out.go hb)
    replace F3 := Lib.hid (F3.out.go hb)
    replace HB := Lib.hid (HB.out.trans (hb.mono HB.out.size))
    clear hb
    go_wp2_with fail
    refine (has_any A1 c1 _ x _ F1.out (by omega)).mono ?_
    rintro e x6 ⟨rfl, rfl⟩
    rw [E2.out]
    go_wp2_with fail
    refine (has_any A c a x _ HA.out (by omega)).mono ?_
    rintro e x7 ⟨rfl, rfl⟩
    rw [HP.out]
    go_wp2_with fail
    refine (minus_any A B c d a b _ HA.out HBb.out (by omega) (by omega)).mono ?_
    rintro e w8 ⟨A4, c4, rfl, hf, hb⟩
    replace HA := Lib.hid (HA.out.go hb)
    replace HBb := Lib.hid (HBb.out.go hb)
    replace F1 := Lib.hid (F1.out.go hb)
    replace F2 := Lib.hid (F2.out.go hb)
    replace F3 := Lib.hid (F3.out.go hb)
    replace HB := Lib.hid (HB.out.trans (hb.mono HB.out.size))
    have F4 := Lib.hid hf
    clear hf hb
    go_wp2_with fail
    refine (has_any A4 c4 _ x _ F4.out (by omega)).mono ?_
    rintro e x9 ⟨rfl, rfl⟩
    rw [E3.out]
    go_wp2_with fail
    refine (has_any A c a x _ HA.out (by omega)).mono ?_
    rintro e x10 ⟨rfl, rfl⟩
    rw [HP.out]
    go_wp2_with fail
    refine (has_any B d b x _ HBb.out (by omega)).mono ?_
    rintro e x11 ⟨rfl, rfl⟩
    rw [HQ.out]
    go_wp2_with fail
    refine (range_any 64 _).mono ?_
    rintro e w12 ⟨A5, c5, rfl, hf, hb⟩
    replace HA := Lib.hid (HA.out.go hb)
    replace HBb := Lib.hid (HBb.out.go hb)
    replace F1 := Lib.hid (F1.out.go hb)
    replace F2 := Lib.hid (F2.out.go hb)
    replace F3 := Lib.hid (F3.out.go hb)
    replace F4 := Lib.hid (F4.out.go hb)
    replace HB := Lib.hid (HB.out.trans (hb.mono HB.out.size))
    have F5 := Lib.hid hf
    clear hf hb
    go_wp2_with fail
    refine (valid_any A5 c5 _ 64 _ F5.out L5).mono ?_
    rintro e x13 ⟨rfl, rfl⟩
    rw [E4.out]
    go_wp2_with fail
    refine (awake_any _).mono ?_
    rintro e w14 ⟨rfl, hb⟩
    replace HA := Lib.hid (HA.out.go hb)
    replace HBb := Lib.hid (HBb.out.go hb)
    replace F1 := Lib.hid (F1.out.go hb)
    replace F2 := Lib.hid (F2.out.go hb)
    replace F3 := Lib.hid (F3.out.go hb)
    replace F4 := Lib.hid (F4.out.go hb)
    replace F5 := Lib.hid (F5.out.go hb)
    replace HB := Lib.hid (HB.out.trans (hb.mono HB.out.size))
    clear hb
    go_wp2
    go_ret
    exact ⟨rfl, HB.out⟩
  · go_enter Try.func6, Try.ntmps6
    go_wp2_with fail
    refine (within_any A B c d a b _ HA.out HBb.out (by omega) (by omega)).mono ?_
    rintro e w1 ⟨rfl, hb⟩
    rw [HU.out]
    replace HA := Lib.hid (HA.out.go hb)
    replace HBb := Lib.hid (HBb.out.go hb)
    replace HB := Lib.hid (HB.out.trans (hb.mono HB.out.size))
    clear hb
    go_wp2_with fail
    refine (within_any B A d c b a _ HBb.out HA.out (by omega) (by omega)).mono ?_
    rintro e w2 ⟨rfl, hb⟩
    rw [HV.out]
    replace HA := Lib.hid (HA.out.go hb)
    replace HBb := Lib.hid (HBb.out.go hb)
    replace HB := Lib.hid (HB.out.trans (hb.mono HB.out.size))
    clear hb
    go_wp2_with fail
    refine (union_any A B c d a b _ HA.out HBb.out (by omega) (by omega)).mono ?_
    rintro e w3 ⟨A1, c1, rfl, hf, hb⟩
    replace HA := Lib.hid (HA.out.go hb)
    replace HBb := Lib.hid (HBb.out.go hb)
    replace HB := Lib.hid (HB.out.trans (hb.mono HB.out.size))
    have F1 := Lib.hid hf
    clear hf hb
    go_wp2_with fail
    refine (of_any A c a _ HA.out (by omega)).mono ?_
    rintro e w4 ⟨A2, c2, rfl, hf, hb⟩
    replace HA := Lib.hid (HA.out.go hb)
    replace HBb := Lib.hid (HBb.out.go hb)
    replace F1 := Lib.hid (F1.out.go hb)
    replace HB := Lib.hid (HB.out.trans (hb.mono HB.out.size))
    have F2 := Lib.hid hf
    clear hf hb
    go_wp2_with fail
    refine (of_any B d b _ HBb.out (by omega)).mono ?_
    rintro e w5 ⟨A3, c3, rfl, hf, hb⟩
    replace HA := Lib.hid (HA.out.go hb)
    replace HBb := Lib.hid (HBb.out.go hb)
    replace F1 := Lib.hid (F1.out.go hb)
    replace F2 := Lib.hid (F2.out.go hb)
    replace HB := Lib.hid (HB.out.trans (hb.mono HB.out.size))
    have F3 := Lib.hid hf
    clear hf hb
    go_wp2_with fail
    refine (same_any A2 A3 c2 c3 _ _ _ F2.out F3.out (by omega) (by omega)).mono ?_
    rintro e w6 ⟨rfl, hb⟩
    rw [E1.out]
    replace HA := Lib.hid (HA.out.go hb)
    replace HBb := Lib.hid (HBb.out.go hb)
    replace F1 := Lib.hid (F1.out.go hb)
    replace F2 := Lib.hid (F2.out.go hb)
    replace F3 := Lib.hid (F3.out.go hb)
    replace HB := Lib.hid (HB.out.trans (hb.mono HB.out.size))
    clear hb
    go_wp2_with fail
    refine (has_any A1 c1 _ x _ F1.out (by omega)).mono ?_
    rintro e x7 ⟨rfl, rfl⟩
    rw [E2.out]
    go_wp2_with fail
    refine (has_any A c a x _ HA.out (by omega)).mono ?_
    rintro e x8 ⟨rfl, rfl⟩
    rw [HP.out]
    go_wp2_with fail
    refine (has_any B d b x _ HBb.out (by omega)).mono ?_
    rintro e x9 ⟨rfl, rfl⟩
    rw [HQ.out]
    go_wp2_with fail
    refine (minus_any A B c d a b _ HA.out HBb.out (by omega) (by omega)).mono ?_
    rintro e w10 ⟨A4, c4, rfl, hf, hb⟩
    replace HA := Lib.hid (HA.out.go hb)
    replace HBb := Lib.hid (HBb.out.go hb)
    replace F1 := Lib.hid (F1.out.go hb)
    replace F2 := Lib.hid (F2.out.go hb)
    replace F3 := Lib.hid (F3.out.go hb)
    replace HB := Lib.hid (HB.out.trans (hb.mono HB.out.size))
    have F4 := Lib.hid hf
    clear hf hb
    go_wp2_with fail
    refine (has_any A4 c4 _ x _ F4.out (by omega)).mono ?_
    rintro e x11 ⟨rfl, rfl⟩
    rw [E3.out]
    go_wp2_with fail
    refine (has_any A c a x _ HA.out (by omega)).mono ?_
    rintro e x12 ⟨rfl, rfl⟩
    rw [HP.out]
    go_wp2_with fail
    refine (range_any 64 _).mono ?_
    rintro e w13 ⟨A5, c5, rfl, hf, hb⟩
    replace HA := Lib.hid (HA.out.go hb)
    replace HBb := Lib.hid (HBb.out.go hb)
    replace F1 := Lib.hid (F1.out.go hb)
    replace F2 := Lib.hid (F2.out.go hb)
    replace F3 := Lib.hid (F3.out.go hb)
    replace F4 := Lib.hid (F4.out.go hb)
    replace HB := Lib.hid (HB.out.trans (hb.mono HB.out.size))
    have F5 := Lib.hid hf
    clear hf hb
    go_wp2_with fail
    refine (valid_any A5 c5 _ 64 _ F5.out L5).mono ?_
    rintro e x14 ⟨rfl, rfl⟩
    rw [E4.out]
    go_wp2_with fail
    refine (awake_any _).mono ?_
    rintro e w15 ⟨rfl, hb⟩
    replace HA := Lib.hid (HA.out.go hb)
    replace HBb := Lib.hid (HBb.out.go hb)
    replace F1 := Lib.hid (F1.out.go hb)
    replace F2 := Lib.hid (F2.out.go hb)
    replace F3 := Lib.hid (F3.out.go hb)
    replace F4 := Lib.hid (F4.out.go hb)
    replace F5 := Lib.hid (F5.out.go hb)
    replace HB := Lib.hid (HB.out.trans (hb.mono HB.out.size))
    clear hb
    go_wp2
    go_ret
    exact ⟨rfl, HB.out⟩
  · go_enter Try.func6, Try.ntmps6
    go_wp2_with fail
    refine (within_any A B c d a b _ HA.out HBb.out (by omega) (by omega)).mono ?_
    rintro e w1 ⟨rfl, hb⟩
    rw [HU.out]
    replace HA := Lib.hid (HA.out.go hb)
    replace HBb := Lib.hid (HBb.out.go hb)
    replace HB := Lib.hid (HB.out.trans (hb.mono HB.out.size))
    clear hb
    go_wp2_with fail
    refine (within_any B A d c b a _ HBb.out HA.out (by omega) (by omega)).mono ?_
    rintro e w2 ⟨rfl, hb⟩
    rw [HV.out]
    replace HA := Lib.hid (HA.out.go hb)
    replace HBb := Lib.hid (HBb.out.go hb)
    replace HB := Lib.hid (HB.out.trans (hb.mono HB.out.size))
    clear hb
    go_wp2_with fail
    refine (union_any A B c d a b _ HA.out HBb.out (by omega) (by omega)).mono ?_
    rintro e w3 ⟨A1, c1, rfl, hf, hb⟩
    replace HA := Lib.hid (HA.out.go hb)
    replace HBb := Lib.hid (HBb.out.go hb)
    replace HB := Lib.hid (HB.out.trans (hb.mono HB.out.size))
    have F1 := Lib.hid hf
    clear hf hb
    go_wp2_with fail
    refine (of_any A c a _ HA.out (by omega)).mono ?_
    rintro e w4 ⟨A2, c2, rfl, hf, hb⟩
    replace HA := Lib.hid (HA.out.go hb)
    replace HBb := Lib.hid (HBb.out.go hb)
    replace F1 := Lib.hid (F1.out.go hb)
    replace HB := Lib.hid (HB.out.trans (hb.mono HB.out.size))
    have F2 := Lib.hid hf
    clear hf hb
    go_wp2_with fail
    refine (of_any B d b _ HBb.out (by omega)).mono ?_
    rintro e w5 ⟨A3, c3, rfl, hf, hb⟩
    replace HA := Lib.hid (HA.out.go hb)
    replace HBb := Lib.hid (HBb.out.go hb)
    replace F1 := Lib.hid (F1.out.go hb)
    replace F2 := Lib.hid (F2.out.go hb)
    replace HB := Lib.hid (HB.out.trans (hb.mono HB.out.size))
    have F3 := Lib.hid hf
    clear hf hb
    go_wp2_with fail
    refine (same_any A2 A3 c2 c3 _ _ _ F2.out F3.out (by omega) (by omega)).mono ?_
    rintro e w6 ⟨rfl, hb⟩
    rw [E1.out]
    replace HA := Lib.hid (HA.out.go hb)
    replace HBb := Lib.hid (HBb.out.go hb)
    replace F1 := Lib.hid (F1.out.go hb)
    replace F2 := Lib.hid (F2.out.go hb)
    replace F3 := Lib.hid (F3.out.go hb)
    replace HB := Lib.hid (HB.out.trans (hb.mono HB.out.size))
    clear hb
    go_wp2_with fail
    refine (has_any A1 c1 _ x _ F1.out (by omega)).mono ?_
    rintro e x7 ⟨rfl, rfl⟩
    rw [E2.out]
    go_wp2_with fail
    refine (has_any A c a x _ HA.out (by omega)).mono ?_
    rintro e x8 ⟨rfl, rfl⟩
    rw [HP.out]
    go_wp2_with fail
    refine (has_any B d b x _ HBb.out (by omega)).mono ?_
    rintro e x9 ⟨rfl, rfl⟩
    rw [HQ.out]
    go_wp2_with fail
    refine (minus_any A B c d a b _ HA.out HBb.out (by omega) (by omega)).mono ?_
    rintro e w10 ⟨A4, c4, rfl, hf, hb⟩
    replace HA := Lib.hid (HA.out.go hb)
    replace HBb := Lib.hid (HBb.out.go hb)
    replace F1 := Lib.hid (F1.out.go hb)
    replace F2 := Lib.hid (F2.out.go hb)
    replace F3 := Lib.hid (F3.out.go hb)
    replace HB := Lib.hid (HB.out.trans (hb.mono HB.out.size))
    have F4 := Lib.hid hf
    clear hf hb
    go_wp2_with fail
    refine (has_any A4 c4 _ x _ F4.out (by omega)).mono ?_
    rintro e x11 ⟨rfl, rfl⟩
    rw [E3.out]
    go_wp2_with fail
    refine (has_any A c a x _ HA.out (by omega)).mono ?_
    rintro e x12 ⟨rfl, rfl⟩
    rw [HP.out]
    go_wp2_with fail
    refine (range_any 64 _).mono ?_
    rintro e w13 ⟨A5, c5, rfl, hf, hb⟩
    replace HA := Lib.hid (HA.out.go hb)
    replace HBb := Lib.hid (HBb.out.go hb)
    replace F1 := Lib.hid (F1.out.go hb)
    replace F2 := Lib.hid (F2.out.go hb)
    replace F3 := Lib.hid (F3.out.go hb)
    replace F4 := Lib.hid (F4.out.go hb)
    replace HB := Lib.hid (HB.out.trans (hb.mono HB.out.size))
    have F5 := Lib.hid hf
    clear hf hb
    go_wp2_with fail
    refine (valid_any A5 c5 _ 64 _ F5.out L5).mono ?_
    rintro e x14 ⟨rfl, rfl⟩
    rw [E4.out]
    go_wp2_with fail
    refine (awake_any _).mono ?_
    rintro e w15 ⟨rfl, hb⟩
    replace HA := Lib.hid (HA.out.go hb)
    replace HBb := Lib.hid (HBb.out.go hb)
    replace F1 := Lib.hid (F1.out.go hb)
    replace F2 := Lib.hid (F2.out.go hb)
    replace F3 := Lib.hid (F3.out.go hb)
    replace F4 := Lib.hid (F4.out.go hb)
    replace F5 := Lib.hid (F5.out.go hb)
    replace HB := Lib.hid (HB.out.trans (hb.mono HB.out.size))
    clear hb
    go_wp2
    go_ret
    exact ⟨rfl, HB.out⟩
  · go_enter Try.func6, Try.ntmps6
    go_wp2_with fail
    refine (within_any A B c d a b _ HA.out HBb.out (by omega) (by omega)).mono ?_
    rintro e w1 ⟨rfl, hb⟩
    rw [HU.out]
    replace HA := Lib.hid (HA.out.go hb)
    replace HBb := Lib.hid (HBb.out.go hb)
    replace HB := Lib.hid (HB.out.trans (hb.mono HB.out.size))
    clear hb
    go_wp2_with fail
    refine (within_any B A d c b a _ HBb.out HA.out (by omega) (by omega)).mono ?_
    rintro e w2 ⟨rfl, hb⟩
    rw [HV.out]
    replace HA := Lib.hid (HA.out.go hb)
    replace HBb := Lib.hid (HBb.out.go hb)
    replace HB := Lib.hid (HB.out.trans (hb.mono HB.out.size))
    clear hb
    go_wp2_with fail
    refine (union_any A B c d a b _ HA.out HBb.out (by omega) (by omega)).mono ?_
    rintro e w3 ⟨A1, c1, rfl, hf, hb⟩
    replace HA := Lib.hid (HA.out.go hb)
    replace HBb := Lib.hid (HBb.out.go hb)
    replace HB := Lib.hid (HB.out.trans (hb.mono HB.out.size))
    have F1 := Lib.hid hf
    clear hf hb
    go_wp2_with fail
    refine (of_any A c a _ HA.out (by omega)).mono ?_
    rintro e w4 ⟨A2, c2, rfl, hf, hb⟩
    replace HA := Lib.hid (HA.out.go hb)
    replace HBb := Lib.hid (HBb.out.go hb)
    replace F1 := Lib.hid (F1.out.go hb)
    replace HB := Lib.hid (HB.out.trans (hb.mono HB.out.size))
    have F2 := Lib.hid hf
    clear hf hb
    go_wp2_with fail
    refine (of_any B d b _ HBb.out (by omega)).mono ?_
    rintro e w5 ⟨A3, c3, rfl, hf, hb⟩
    replace HA := Lib.hid (HA.out.go hb)
    replace HBb := Lib.hid (HBb.out.go hb)
    replace F1 := Lib.hid (F1.out.go hb)
    replace F2 := Lib.hid (F2.out.go hb)
    replace HB := Lib.hid (HB.out.trans (hb.mono HB.out.size))
    have F3 := Lib.hid hf
    clear hf hb
    go_wp2_with fail
    refine (same_any A2 A3 c2 c3 _ _ _ F2.out F3.out (by omega) (by omega)).mono ?_
    rintro e w6 ⟨rfl, hb⟩
    rw [E1.out]
    replace HA := Lib.hid (HA.out.go hb)
    replace HBb := Lib.hid (HBb.out.go hb)
    replace F1 := Lib.hid (F1.out.go hb)
    replace F2 := Lib.hid (F2.out.go hb)
    replace F3 := Lib.hid (F3.out.go hb)
    replace HB := Lib.hid (HB.out.trans (hb.mono HB.out.size))
    clear hb
    go_wp2_with fail
    refine (has_any A1 c1 _ x _ F1.out (by omega)).mono ?_
    rintro e x7 ⟨rfl, rfl⟩
    rw [E2.out]
    go_wp2_with fail
    refine (has_any A c a x _ HA.out (by omega)).mono ?_
    rintro e x8 ⟨rfl, rfl⟩
    rw [HP.out]
    go_wp2_with fail
    refine (minus_any A B c d a b _ HA.out HBb.out (by omega) (by omega)).mono ?_
    rintro e w9 ⟨A4, c4, rfl, hf, hb⟩
    replace HA := Lib.hid (HA.out.go hb)
    replace HBb := Lib.hid (HBb.out.go hb)
    replace F1 := Lib.hid (F1.out.go hb)
    replace F2 := Lib.hid (F2.out.go hb)
    replace F3 := Lib.hid (F3.out.go hb)
    replace HB := Lib.hid (HB.out.trans (hb.mono HB.out.size))
    have F4 := Lib.hid hf
    clear hf hb
    go_wp2_with fail
    refine (has_any A4 c4 _ x _ F4.out (by omega)).mono ?_
    rintro e x10 ⟨rfl, rfl⟩
    rw [E3.out]
    go_wp2_with fail
    refine (has_any A c a x _ HA.out (by omega)).mono ?_
    rintro e x11 ⟨rfl, rfl⟩
    rw [HP.out]
    go_wp2_with fail
    refine (has_any B d b x _ HBb.out (by omega)).mono ?_
    rintro e x12 ⟨rfl, rfl⟩
    rw [HQ.out]
    go_wp2_with fail
    refine (range_any 64 _).mono ?_
    rintro e w13 ⟨A5, c5, rfl, hf, hb⟩
    replace HA := Lib.hid (HA.out.go hb)
    replace HBb := Lib.hid (HBb.out.go hb)
    replace F1 := Lib.hid (F1.out.go hb)
    replace F2 := Lib.hid (F2.out.go hb)
    replace F3 := Lib.hid (F3.out.go hb)
    replace F4 := Lib.hid (F4.out.go hb)
    replace HB := Lib.hid (HB.out.trans (hb.mono HB.out.size))
    have F5 := Lib.hid hf
    clear hf hb
    go_wp2_with fail
    refine (valid_any A5 c5 _ 64 _ F5.out L5).mono ?_
    rintro e x14 ⟨rfl, rfl⟩
    rw [E4.out]
    go_wp2_with fail
    refine (awake_any _).mono ?_
    rintro e w15 ⟨rfl, hb⟩
    replace HA := Lib.hid (HA.out.go hb)
    replace HBb := Lib.hid (HBb.out.go hb)
    replace F1 := Lib.hid (F1.out.go hb)
    replace F2 := Lib.hid (F2.out.go hb)
    replace F3 := Lib.hid (F3.out.go hb)
    replace F4 := Lib.hid (F4.out.go hb)
    replace F5 := Lib.hid (F5.out.go hb)
    replace HB := Lib.hid (HB.out.trans (hb.mono HB.out.size))
    clear hb
    go_wp2
    go_ret
    exact ⟨rfl, HB.out⟩
  · go_enter Try.func6, Try.ntmps6
    go_wp2_with fail
    refine (within_any A B c d a b _ HA.out HBb.out (by omega) (by omega)).mono ?_
    rintro e w1 ⟨rfl, hb⟩
    rw [HU.out]
    replace HA := Lib.hid (HA.out.go hb)
    replace HBb := Lib.hid (HBb.out.go hb)
    replace HB := Lib.hid (HB.out.trans (hb.mono HB.out.size))
    clear hb
    go_wp2_with fail
    refine (within_any B A d c b a _ HBb.out HA.out (by omega) (by omega)).mono ?_
    rintro e w2 ⟨rfl, hb⟩
    rw [HV.out]
    replace HA := Lib.hid (HA.out.go hb)
    replace HBb := Lib.hid (HBb.out.go hb)
    replace HB := Lib.hid (HB.out.trans (hb.mono HB.out.size))
    clear hb
    go_wp2_with fail
    refine (union_any A B c d a b _ HA.out HBb.out (by omega) (by omega)).mono ?_
    rintro e w3 ⟨A1, c1, rfl, hf, hb⟩
    replace HA := Lib.hid (HA.out.go hb)
    replace HBb := Lib.hid (HBb.out.go hb)
    replace HB := Lib.hid (HB.out.trans (hb.mono HB.out.size))
    have F1 := Lib.hid hf
    clear hf hb
    go_wp2_with fail
    refine (of_any A c a _ HA.out (by omega)).mono ?_
    rintro e w4 ⟨A2, c2, rfl, hf, hb⟩
    replace HA := Lib.hid (HA.out.go hb)
    replace HBb := Lib.hid (HBb.out.go hb)
    replace F1 := Lib.hid (F1.out.go hb)
    replace HB := Lib.hid (HB.out.trans (hb.mono HB.out.size))
    have F2 := Lib.hid hf
    clear hf hb
    go_wp2_with fail
    refine (of_any B d b _ HBb.out (by omega)).mono ?_
    rintro e w5 ⟨A3, c3, rfl, hf, hb⟩
    replace HA := Lib.hid (HA.out.go hb)
    replace HBb := Lib.hid (HBb.out.go hb)
    replace F1 := Lib.hid (F1.out.go hb)
    replace F2 := Lib.hid (F2.out.go hb)
    replace HB := Lib.hid (HB.out.trans (hb.mono HB.out.size))
    have F3 := Lib.hid hf
    clear hf hb
    go_wp2_with fail
    refine (same_any A2 A3 c2 c3 _ _ _ F2.out F3.out (by omega) (by omega)).mono ?_
    rintro e w6 ⟨rfl, hb⟩
    rw [E1.out]
    replace HA := Lib.hid (HA.out.go hb)
    replace HBb := Lib.hid (HBb.out.go hb)
    replace F1 := Lib.hid (F1.out.go hb)
    replace F2 := Lib.hid (F2.out.go hb)
    replace F3 := Lib.hid (F3.out.go hb)
    replace HB := Lib.hid (HB.out.trans (hb.mono HB.out.size))
    clear hb
    go_wp2_with fail
    refine (has_any A1 c1 _ x _ F1.out (by omega)).mono ?_
    rintro e x7 ⟨rfl, rfl⟩
    rw [E2.out]
    go_wp2_with fail
    refine (has_any A c a x _ HA.out (by omega)).mono ?_
    rintro e x8 ⟨rfl, rfl⟩
    rw [HP.out]
    go_wp2_with fail
    refine (minus_any A B c d a b _ HA.out HBb.out (by omega) (by omega)).mono ?_
    rintro e w9 ⟨A4, c4, rfl, hf, hb⟩
    replace HA := Lib.hid (HA.out.go hb)
    replace HBb := Lib.hid (HBb.out.go hb)
    replace F1 := Lib.hid (F1.out.go hb)
    replace F2 := Lib.hid (F2.out.go hb)
    replace F3 := Lib.hid (F3.out.go hb)
    replace HB := Lib.hid (HB.out.trans (hb.mono HB.out.size))
    have F4 := Lib.hid hf
    clear hf hb
    go_wp2_with fail
    refine (has_any A4 c4 _ x _ F4.out (by omega)).mono ?_
    rintro e x10 ⟨rfl, rfl⟩
    rw [E3.out]
    go_wp2_with fail
    refine (has_any A c a x _ HA.out (by omega)).mono ?_
    rintro e x11 ⟨rfl, rfl⟩
    rw [HP.out]
    go_wp2_with fail
    refine (has_any B d b x _ HBb.out (by omega)).mono ?_
    rintro e x12 ⟨rfl, rfl⟩
    rw [HQ.out]
    go_wp2_with fail
    refine (range_any 64 _).mono ?_
    rintro e w13 ⟨A5, c5, rfl, hf, hb⟩
    replace HA := Lib.hid (HA.out.go hb)
    replace HBb := Lib.hid (HBb.out.go hb)
    replace F1 := Lib.hid (F1.out.go hb)
    replace F2 := Lib.hid (F2.out.go hb)
    replace F3 := Lib.hid (F3.out.go hb)
    replace F4 := Lib.hid (F4.out.go hb)
    replace HB := Lib.hid (HB.out.trans (hb.mono HB.out.size))
    have F5 := Lib.hid hf
    clear hf hb
    go_wp2_with fail
    refine (valid_any A5 c5 _ 64 _ F5.out L5).mono ?_
    rintro e x14 ⟨rfl, rfl⟩
    rw [E4.out]
    go_wp2_with fail
    refine (awake_any _).mono ?_
    rintro e w15 ⟨rfl, hb⟩
    replace HA := Lib.hid (HA.out.go hb)
    replace HBb := Lib.hid (HBb.out.go hb)
    replace F1 := Lib.hid (F1.out.go hb)
    replace F2 := Lib.hid (F2.out.go hb)
    replace F3 := Lib.hid (F3.out.go hb)
    replace F4 := Lib.hid (F4.out.go hb)
    replace F5 := Lib.hid (F5.out.go hb)
    replace HB := Lib.hid (HB.out.trans (hb.mono HB.out.size))
    clear hb
    go_wp2
    go_ret
    exact ⟨rfl, HB.out⟩
  · go_enter Try.func6, Try.ntmps6
    go_wp2_with fail
    refine (within_any A B c d a b _ HA.out HBb.out (by omega) (by omega)).mono ?_
    rintro e w1 ⟨rfl, hb⟩
    rw [HU.out]
    replace HA := Lib.hid (HA.out.go hb)
    replace HBb := Lib.hid (HBb.out.go hb)
    replace HB := Lib.hid (HB.out.trans (hb.mono HB.out.size))
    clear hb
    go_wp2_with fail
    refine (within_any B A d c b a _ HBb.out HA.out (by omega) (by omega)).mono ?_
    rintro e w2 ⟨rfl, hb⟩
    rw [HV.out]
    replace HA := Lib.hid (HA.out.go hb)
    replace HBb := Lib.hid (HBb.out.go hb)
    replace HB := Lib.hid (HB.out.trans (hb.mono HB.out.size))
    clear hb
    go_wp2_with fail
    refine (union_any A B c d a b _ HA.out HBb.out (by omega) (by omega)).mono ?_
    rintro e w3 ⟨A1, c1, rfl, hf, hb⟩
    replace HA := Lib.hid (HA.out.go hb)
    replace HBb := Lib.hid (HBb.out.go hb)
    replace HB := Lib.hid (HB.out.trans (hb.mono HB.out.size))
    have F1 := Lib.hid hf
    clear hf hb
    go_wp2_with fail
    refine (of_any A c a _ HA.out (by omega)).mono ?_
    rintro e w4 ⟨A2, c2, rfl, hf, hb⟩
    replace HA := Lib.hid (HA.out.go hb)
    replace HBb := Lib.hid (HBb.out.go hb)
    replace F1 := Lib.hid (F1.out.go hb)
    replace HB := Lib.hid (HB.out.trans (hb.mono HB.out.size))
    have F2 := Lib.hid hf
    clear hf hb
    go_wp2_with fail
    refine (of_any B d b _ HBb.out (by omega)).mono ?_
    rintro e w5 ⟨A3, c3, rfl, hf, hb⟩
    replace HA := Lib.hid (HA.out.go hb)
    replace HBb := Lib.hid (HBb.out.go hb)
    replace F1 := Lib.hid (F1.out.go hb)
    replace F2 := Lib.hid (F2.out.go hb)
    replace HB := Lib.hid (HB.out.trans (hb.mono HB.out.size))
    have F3 := Lib.hid hf
    clear hf hb
    go_wp2_with fail
    refine (same_any A2 A3 c2 c3 _ _ _ F2.out F3.out (by omega) (by omega)).mono ?_
    rintro e w6 ⟨rfl, hb⟩
    rw [E1.out]
    replace HA := Lib.hid (HA.out.go hb)
    replace HBb := Lib.hid (HBb.out.go hb)
    replace F1 := Lib.hid (F1.out.go hb)
    replace F2 := Lib.hid (F2.out.go hb)
    replace F3 := Lib.hid (F3.out.go hb)
    replace HB := Lib.hid (HB.out.trans (hb.mono HB.out.size))
    clear hb
    go_wp2_with fail
    refine (has_any A1 c1 _ x _ F1.out (by omega)).mono ?_
    rintro e x7 ⟨rfl, rfl⟩
    rw [E2.out]
    go_wp2_with fail
    refine (has_any A c a x _ HA.out (by omega)).mono ?_
    rintro e x8 ⟨rfl, rfl⟩
    rw [HP.out]
    go_wp2_with fail
    refine (has_any B d b x _ HBb.out (by omega)).mono ?_
    rintro e x9 ⟨rfl, rfl⟩
    rw [HQ.out]
    go_wp2_with fail
    refine (minus_any A B c d a b _ HA.out HBb.out (by omega) (by omega)).mono ?_
    rintro e w10 ⟨A4, c4, rfl, hf, hb⟩
    replace HA := Lib.hid (HA.out.go hb)
    replace HBb := Lib.hid (HBb.out.go hb)
    replace F1 := Lib.hid (F1.out.go hb)
    replace F2 := Lib.hid (F2.out.go hb)
    replace F3 := Lib.hid (F3.out.go hb)
    replace HB := Lib.hid (HB.out.trans (hb.mono HB.out.size))
    have F4 := Lib.hid hf
    clear hf hb
    go_wp2_with fail
    refine (has_any A4 c4 _ x _ F4.out (by omega)).mono ?_
    rintro e x11 ⟨rfl, rfl⟩
    rw [E3.out]
    go_wp2_with fail
    refine (has_any A c a x _ HA.out (by omega)).mono ?_
    rintro e x12 ⟨rfl, rfl⟩
    rw [HP.out]
    go_wp2_with fail
    refine (range_any 64 _).mono ?_
    rintro e w13 ⟨A5, c5, rfl, hf, hb⟩
    replace HA := Lib.hid (HA.out.go hb)
    replace HBb := Lib.hid (HBb.out.go hb)
    replace F1 := Lib.hid (F1.out.go hb)
    replace F2 := Lib.hid (F2.out.go hb)
    replace F3 := Lib.hid (F3.out.go hb)
    replace F4 := Lib.hid (F4.out.go hb)
    replace HB := Lib.hid (HB.out.trans (hb.mono HB.out.size))
    have F5 := Lib.hid hf
    clear hf hb
    go_wp2_with fail
    refine (valid_any A5 c5 _ 64 _ F5.out L5).mono ?_
    rintro e x14 ⟨rfl, rfl⟩
    rw [E4.out]
    go_wp2_with fail
    refine (awake_any _).mono ?_
    rintro e w15 ⟨rfl, hb⟩
    replace HA := Lib.hid (HA.out.go hb)
    replace HBb := Lib.hid (HBb.out.go hb)
    replace F1 := Lib.hid (F1.out.go hb)
    replace F2 := Lib.hid (F2.out.go hb)
    replace F3 := Lib.hid (F3.out.go hb)
    replace F4 := Lib.hid (F4.out.go hb)
    replace F5 := Lib.hid (F5.out.go hb)
    replace HB := Lib.hid (HB.out.trans (hb.mono HB.out.size))
    clear hb
    go_wp2
    go_ret
    exact ⟨rfl, HB.out⟩
  · go_enter Try.func6, Try.ntmps6
    go_wp2_with fail
    refine (within_any A B c d a b _ HA.out HBb.out (by omega) (by omega)).mono ?_
    rintro e w1 ⟨rfl, hb⟩
    rw [HU.out]
    replace HA := Lib.hid (HA.out.go hb)
    replace HBb := Lib.hid (HBb.out.go hb)
    replace HB := Lib.hid (HB.out.trans (hb.mono HB.out.size))
    clear hb
    go_wp2_with fail
    refine (within_any B A d c b a _ HBb.out HA.out (by omega) (by omega)).mono ?_
    rintro e w2 ⟨rfl, hb⟩
    rw [HV.out]
    replace HA := Lib.hid (HA.out.go hb)
    replace HBb := Lib.hid (HBb.out.go hb)
    replace HB := Lib.hid (HB.out.trans (hb.mono HB.out.size))
    clear hb
    go_wp2_with fail
    refine (union_any A B c d a b _ HA.out HBb.out (by omega) (by omega)).mono ?_
    rintro e w3 ⟨A1, c1, rfl, hf, hb⟩
    replace HA := Lib.hid (HA.out.go hb)
    replace HBb := Lib.hid (HBb.out.go hb)
    replace HB := Lib.hid (HB.out.trans (hb.mono HB.out.size))
    have F1 := Lib.hid hf
    clear hf hb
    go_wp2_with fail
    refine (of_any A c a _ HA.out (by omega)).mono ?_
    rintro e w4 ⟨A2, c2, rfl, hf, hb⟩
    replace HA := Lib.hid (HA.out.go hb)
    replace HBb := Lib.hid (HBb.out.go hb)
    replace F1 := Lib.hid (F1.out.go hb)
    replace HB := Lib.hid (HB.out.trans (hb.mono HB.out.size))
    have F2 := Lib.hid hf
    clear hf hb
    go_wp2_with fail
    refine (of_any B d b _ HBb.out (by omega)).mono ?_
    rintro e w5 ⟨A3, c3, rfl, hf, hb⟩
    replace HA := Lib.hid (HA.out.go hb)
    replace HBb := Lib.hid (HBb.out.go hb)
    replace F1 := Lib.hid (F1.out.go hb)
    replace F2 := Lib.hid (F2.out.go hb)
    replace HB := Lib.hid (HB.out.trans (hb.mono HB.out.size))
    have F3 := Lib.hid hf
    clear hf hb
    go_wp2_with fail
    refine (same_any A2 A3 c2 c3 _ _ _ F2.out F3.out (by omega) (by omega)).mono ?_
    rintro e w6 ⟨rfl, hb⟩
    rw [E1.out]
    replace HA := Lib.hid (HA.out.go hb)
    replace HBb := Lib.hid (HBb.out.go hb)
    replace F1 := Lib.hid (F1.out.go hb)
    replace F2 := Lib.hid (F2.out.go hb)
    replace F3 := Lib.hid (F3.out.go hb)
    replace HB := Lib.hid (HB.out.trans (hb.mono HB.out.size))
    clear hb
    go_wp2_with fail
    refine (has_any A1 c1 _ x _ F1.out (by omega)).mono ?_
    rintro e x7 ⟨rfl, rfl⟩
    rw [E2.out]
    go_wp2_with fail
    refine (has_any A c a x _ HA.out (by omega)).mono ?_
    rintro e x8 ⟨rfl, rfl⟩
    rw [HP.out]
    go_wp2_with fail
    refine (has_any B d b x _ HBb.out (by omega)).mono ?_
    rintro e x9 ⟨rfl, rfl⟩
    rw [HQ.out]
    go_wp2_with fail
    refine (minus_any A B c d a b _ HA.out HBb.out (by omega) (by omega)).mono ?_
    rintro e w10 ⟨A4, c4, rfl, hf, hb⟩
    replace HA := Lib.hid (HA.out.go hb)
    replace HBb := Lib.hid (HBb.out.go hb)
    replace F1 := Lib.hid (F1.out.go hb)
    replace F2 := Lib.hid (F2.out.go hb)
    replace F3 := Lib.hid (F3.out.go hb)
    replace HB := Lib.hid (HB.out.trans (hb.mono HB.out.size))
    have F4 := Lib.hid hf
    clear hf hb
    go_wp2_with fail
    refine (has_any A4 c4 _ x _ F4.out (by omega)).mono ?_
    rintro e x11 ⟨rfl, rfl⟩
    rw [E3.out]
    go_wp2_with fail
    refine (has_any A c a x _ HA.out (by omega)).mono ?_
    rintro e x12 ⟨rfl, rfl⟩
    rw [HP.out]
    go_wp2_with fail
    refine (range_any 64 _).mono ?_
    rintro e w13 ⟨A5, c5, rfl, hf, hb⟩
    replace HA := Lib.hid (HA.out.go hb)
    replace HBb := Lib.hid (HBb.out.go hb)
    replace F1 := Lib.hid (F1.out.go hb)
    replace F2 := Lib.hid (F2.out.go hb)
    replace F3 := Lib.hid (F3.out.go hb)
    replace F4 := Lib.hid (F4.out.go hb)
    replace HB := Lib.hid (HB.out.trans (hb.mono HB.out.size))
    have F5 := Lib.hid hf
    clear hf hb
    go_wp2_with fail
    refine (valid_any A5 c5 _ 64 _ F5.out L5).mono ?_
    rintro e x14 ⟨rfl, rfl⟩
    rw [E4.out]
    go_wp2_with fail
    refine (awake_any _).mono ?_
    rintro e w15 ⟨rfl, hb⟩
    replace HA := Lib.hid (HA.out.go hb)
    replace HBb := Lib.hid (HBb.out.go hb)
    replace F1 := Lib.hid (F1.out.go hb)
    replace F2 := Lib.hid (F2.out.go hb)
    replace F3 := Lib.hid (F3.out.go hb)
    replace F4 := Lib.hid (F4.out.go hb)
    replace F5 := Lib.hid (F5.out.go hb)
    replace HB := Lib.hid (HB.out.trans (hb.mono HB.out.size))
    clear hb
    go_wp2
    go_ret
    exact ⟨rfl, HB.out⟩
  · go_enter Try.func6, Try.ntmps6
    go_wp2_with fail
    refine (within_any A B c d a b _ HA.out HBb.out (by omega) (by omega)).mono ?_
    rintro e w1 ⟨rfl, hb⟩
    rw [HU.out]
    replace HA := Lib.hid (HA.out.go hb)
    replace HBb := Lib.hid (HBb.out.go hb)
    replace HB := Lib.hid (HB.out.trans (hb.mono HB.out.size))
    clear hb
    go_wp2_with fail
    refine (within_any B A d c b a _ HBb.out HA.out (by omega) (by omega)).mono ?_
    rintro e w2 ⟨rfl, hb⟩
    rw [HV.out]
    replace HA := Lib.hid (HA.out.go hb)
    replace HBb := Lib.hid (HBb.out.go hb)
    replace HB := Lib.hid (HB.out.trans (hb.mono HB.out.size))
    clear hb
    go_wp2_with fail
    refine (union_any A B c d a b _ HA.out HBb.out (by omega) (by omega)).mono ?_
    rintro e w3 ⟨A1, c1, rfl, hf, hb⟩
    replace HA := Lib.hid (HA.out.go hb)
    replace HBb := Lib.hid (HBb.out.go hb)
    replace HB := Lib.hid (HB.out.trans (hb.mono HB.out.size))
    have F1 := Lib.hid hf
    clear hf hb
    go_wp2_with fail
    refine (of_any A c a _ HA.out (by omega)).mono ?_
    rintro e w4 ⟨A2, c2, rfl, hf, hb⟩
    replace HA := Lib.hid (HA.out.go hb)
    replace HBb := Lib.hid (HBb.out.go hb)
    replace F1 := Lib.hid (F1.out.go hb)
    replace HB := Lib.hid (HB.out.trans (hb.mono HB.out.size))
    have F2 := Lib.hid hf
    clear hf hb
    go_wp2_with fail
    refine (of_any B d b _ HBb.out (by omega)).mono ?_
    rintro e w5 ⟨A3, c3, rfl, hf, hb⟩
    replace HA := Lib.hid (HA.out.go hb)
    replace HBb := Lib.hid (HBb.out.go hb)
    replace F1 := Lib.hid (F1.out.go hb)
    replace F2 := Lib.hid (F2.out.go hb)
    replace HB := Lib.hid (HB.out.trans (hb.mono HB.out.size))
    have F3 := Lib.hid hf
    clear hf hb
    go_wp2_with fail
    refine (same_any A2 A3 c2 c3 _ _ _ F2.out F3.out (by omega) (by omega)).mono ?_
    rintro e w6 ⟨rfl, hb⟩
    rw [E1.out]
    replace HA := Lib.hid (HA.out.go hb)
    replace HBb := Lib.hid (HBb.out.go hb)
    replace F1 := Lib.hid (F1.out.go hb)
    replace F2 := Lib.hid (F2.out.go hb)
    replace F3 := Lib.hid (F3.out.go hb)
    replace HB := Lib.hid (HB.out.trans (hb.mono HB.out.size))
    clear hb
    go_wp2_with fail
    refine (has_any A1 c1 _ x _ F1.out (by omega)).mono ?_
    rintro e x7 ⟨rfl, rfl⟩
    rw [E2.out]
    go_wp2_with fail
    refine (has_any A c a x _ HA.out (by omega)).mono ?_
    rintro e x8 ⟨rfl, rfl⟩
    rw [HP.out]
    go_wp2_with fail
    refine (minus_any A B c d a b _ HA.out HBb.out (by omega) (by omega)).mono ?_
    rintro e w9 ⟨A4, c4, rfl, hf, hb⟩
    replace HA := Lib.hid (HA.out.go hb)
    replace HBb := Lib.hid (HBb.out.go hb)
    replace F1 := Lib.hid (F1.out.go hb)
    replace F2 := Lib.hid (F2.out.go hb)
    replace F3 := Lib.hid (F3.out.go hb)
    replace HB := Lib.hid (HB.out.trans (hb.mono HB.out.size))
    have F4 := Lib.hid hf
    clear hf hb
    go_wp2_with fail
    refine (has_any A4 c4 _ x _ F4.out (by omega)).mono ?_
    rintro e x10 ⟨rfl, rfl⟩
    rw [E3.out]
    go_wp2_with fail
    refine (has_any A c a x _ HA.out (by omega)).mono ?_
    rintro e x11 ⟨rfl, rfl⟩
    rw [HP.out]
    go_wp2_with fail
    refine (has_any B d b x _ HBb.out (by omega)).mono ?_
    rintro e x12 ⟨rfl, rfl⟩
    rw [HQ.out]
    go_wp2_with fail
    refine (range_any 64 _).mono ?_
    rintro e w13 ⟨A5, c5, rfl, hf, hb⟩
    replace HA := Lib.hid (HA.out.go hb)
    replace HBb := Lib.hid (HBb.out.go hb)
    replace F1 := Lib.hid (F1.out.go hb)
    replace F2 := Lib.hid (F2.out.go hb)
    replace F3 := Lib.hid (F3.out.go hb)
    replace F4 := Lib.hid (F4.out.go hb)
    replace HB := Lib.hid (HB.out.trans (hb.mono HB.out.size))
    have F5 := Lib.hid hf
    clear hf hb
    go_wp2_with fail
    refine (valid_any A5 c5 _ 64 _ F5.out L5).mono ?_
    rintro e x14 ⟨rfl, rfl⟩
    rw [E4.out]
    go_wp2_with fail
    refine (awake_any _).mono ?_
    rintro e w15 ⟨rfl, hb⟩
    replace HA := Lib.hid (HA.out.go hb)
    replace HBb := Lib.hid (HBb.out.go hb)
    replace F1 := Lib.hid (F1.out.go hb)
    replace F2 := Lib.hid (F2.out.go hb)
    replace F3 := Lib.hid (F3.out.go hb)
    replace F4 := Lib.hid (F4.out.go hb)
    replace F5 := Lib.hid (F5.out.go hb)
    replace HB := Lib.hid (HB.out.trans (hb.mono HB.out.size))
    clear hb
    go_wp2
    go_ret
    exact ⟨rfl, HB.out⟩
  · go_enter Try.func6, Try.ntmps6
    go_wp2_with fail
    refine (within_any A B c d a b _ HA.out HBb.out (by omega) (by omega)).mono ?_
    rintro e w1 ⟨rfl, hb⟩
    rw [HU.out]
    replace HA := Lib.hid (HA.out.go hb)
    replace HBb := Lib.hid (HBb.out.go hb)
    replace HB := Lib.hid (HB.out.trans (hb.mono HB.out.size))
    clear hb
    go_wp2_with fail
    refine (within_any B A d c b a _ HBb.out HA.out (by omega) (by omega)).mono ?_
    rintro e w2 ⟨rfl, hb⟩
    rw [HV.out]
    replace HA := Lib.hid (HA.out.go hb)
    replace HBb := Lib.hid (HBb.out.go hb)
    replace HB := Lib.hid (HB.out.trans (hb.mono HB.out.size))
    clear hb
    go_wp2_with fail
    refine (union_any A B c d a b _ HA.out HBb.out (by omega) (by omega)).mono ?_
    rintro e w3 ⟨A1, c1, rfl, hf, hb⟩
    replace HA := Lib.hid (HA.out.go hb)
    replace HBb := Lib.hid (HBb.out.go hb)
    replace HB := Lib.hid (HB.out.trans (hb.mono HB.out.size))
    have F1 := Lib.hid hf
    clear hf hb
    go_wp2_with fail
    refine (of_any A c a _ HA.out (by omega)).mono ?_
    rintro e w4 ⟨A2, c2, rfl, hf, hb⟩
    replace HA := Lib.hid (HA.out.go hb)
    replace HBb := Lib.hid (HBb.out.go hb)
    replace F1 := Lib.hid (F1.out.go hb)
    replace HB := Lib.hid (HB.out.trans (hb.mono HB.out.size))
    have F2 := Lib.hid hf
    clear hf hb
    go_wp2_with fail
    refine (of_any B d b _ HBb.out (by omega)).mono ?_
    rintro e w5 ⟨A3, c3, rfl, hf, hb⟩
    replace HA := Lib.hid (HA.out.go hb)
    replace HBb := Lib.hid (HBb.out.go hb)
    replace F1 := Lib.hid (F1.out.go hb)
    replace F2 := Lib.hid (F2.out.go hb)
    replace HB := Lib.hid (HB.out.trans (hb.mono HB.out.size))
    have F3 := Lib.hid hf
    clear hf hb
    go_wp2_with fail
    refine (same_any A2 A3 c2 c3 _ _ _ F2.out F3.out (by omega) (by omega)).mono ?_
    rintro e w6 ⟨rfl, hb⟩
    rw [E1.out]
    replace HA := Lib.hid (HA.out.go hb)
    replace HBb := Lib.hid (HBb.out.go hb)
    replace F1 := Lib.hid (F1.out.go hb)
    replace F2 := Lib.hid (F2.out.go hb)
    replace F3 := Lib.hid (F3.out.go hb)
    replace HB := Lib.hid (HB.out.trans (hb.mono HB.out.size))
    clear hb
    go_wp2_with fail
    refine (has_any A1 c1 _ x _ F1.out (by omega)).mono ?_
    rintro e x7 ⟨rfl, rfl⟩
    rw [E2.out]
    go_wp2_with fail
    refine (has_any A c a x _ HA.out (by omega)).mono ?_
    rintro e x8 ⟨rfl, rfl⟩
    rw [HP.out]
    go_wp2_with fail
    refine (minus_any A B c d a b _ HA.out HBb.out (by omega) (by omega)).mono ?_
    rintro e w9 ⟨A4, c4, rfl, hf, hb⟩
    replace HA := Lib.hid (HA.out.go hb)
    replace HBb := Lib.hid (HBb.out.go hb)
    replace F1 := Lib.hid (F1.out.go hb)
    replace F2 := Lib.hid (F2.out.go hb)
    replace F3 := Lib.hid (F3.out.go hb)
    replace HB := Lib.hid (HB.out.trans (hb.mono HB.out.size))
    have F4 := Lib.hid hf
    clear hf hb
    go_wp2_with fail
    refine (has_any A4 c4 _ x _ F4.out (by omega)).mono ?_
    rintro e x10 ⟨rfl, rfl⟩
    rw [E3.out]
    go_wp2_with fail
    refine (has_any A c a x _ HA.out (by omega)).mono ?_
    rintro e x11 ⟨rfl, rfl⟩
    rw [HP.out]
    go_wp2_with fail
    refine (has_any B d b x _ HBb.out (by omega)).mono ?_
    rintro e x12 ⟨rfl, rfl⟩
    rw [HQ.out]
    go_wp2_with fail
    refine (range_any 64 _).mono ?_
    rintro e w13 ⟨A5, c5, rfl, hf, hb⟩
    replace HA := Lib.hid (HA.out.go hb)
    replace HBb := Lib.hid (HBb.out.go hb)
    replace F1 := Lib.hid (F1.out.go hb)
    replace F2 := Lib.hid (F2.out.go hb)
    replace F3 := Lib.hid (F3.out.go hb)
    replace F4 := Lib.hid (F4.out.go hb)
    replace HB := Lib.hid (HB.out.trans (hb.mono HB.out.size))
    have F5 := Lib.hid hf
    clear hf hb
    go_wp2_with fail
    refine (valid_any A5 c5 _ 64 _ F5.out L5).mono ?_
    rintro e x14 ⟨rfl, rfl⟩
    rw [E4.out]
    go_wp2_with fail
    refine (awake_any _).mono ?_
    rintro e w15 ⟨rfl, hb⟩
    replace HA := Lib.hid (HA.out.go hb)
    replace HBb := Lib.hid (HBb.out.go hb)
    replace F1 := Lib.hid (F1.out.go hb)
    replace F2 := Lib.hid (F2.out.go hb)
    replace F3 := Lib.hid (F3.out.go hb)
    replace F4 := Lib.hid (F4.out.go hb)
    replace F5 := Lib.hid (F5.out.go hb)
    replace HB := Lib.hid (HB.out.trans (hb.mono HB.out.size))
    clear hb
    go_wp2
    go_ret
    exact ⟨rfl, HB.out⟩

theorem law6_any (A : Option Addr) (c : Nat) (a : List Int) (B : Option Addr) (d : Nat) (b : List Int) (x : Int) (w : World) (h1 : RD w A c a) (s1 : a.length ≤ 17592186044416) (h2 : RD w B d b) (s2 : b.length ≤ 17592186044416)
    (_x1 : -9223372036854775808 ≤ x) (_x2 : x < 9223372036854775808) :
    Calls Try.prog 6 #[.slice A a.length c, .slice B b.length d, .int .i64 x] w fun e w' => e = .returned (.bool true) ∧ Below w.heap.size w w' := by
  by_cases h : 200 < a.length + b.length
  · exact law6_far A B c d _ _ x w s1 s2 h
  · exact law6_near A B c d a b x w h1 h2 (by omega)
end Go.Proofs.Ytjagjlgboheoeaa
