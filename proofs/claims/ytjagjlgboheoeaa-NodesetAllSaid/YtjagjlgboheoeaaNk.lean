/-
  The laws NodesetLaws and NodesetWithin, walked.
-/
import Derived.Test.YtjagjlgboheoeaaNi
namespace Go.Proofs.Ytjagjlgboheoeaa
open Go.RowKit Go.Lib

namespace Ns
theorem law_dist (a b c : List Int) : uni a (mee b c) = mee (uni a b) (uni a c) :=
  asc_unique _ _ (asc_uni _ _) (asc_mee _ _) fun z => by rw [mem_uni, mem_mee, mem_mee, mem_uni, mem_uni]; grind
theorem law_whole (a b : List Int) : uni (mns a b) (mee a b) = norm a :=
  asc_unique _ _ (asc_uni _ _) (asc_norm _) fun z => by rw [mem_uni, mem_mns, mem_mee, mem_norm]; grind
theorem law_ucomm (a b : List Int) : uni a b = uni b a :=
  asc_unique _ _ (asc_uni _ _) (asc_uni _ _) fun z => by rw [mem_uni, mem_uni]; grind
theorem law_mcomm (a b : List Int) : mee a b = mee b a :=
  asc_unique _ _ (asc_mee _ _) (asc_mee _ _) fun z => by rw [mem_mee, mem_mee]; grind
theorem law_none (a b : List Int) : mee (mns a b) b = [] :=
  List.eq_nil_iff_forall_not_mem.2 fun z => by rw [mem_mee, mem_mns]; grind
theorem law_in (a b : List Int) : wit (mee a b) a = true := by
  unfold wit
  rw [List.all_eq_true]
  intro z hz
  rw [mem_mee] at hz
  simpa using hz.1
theorem wit_iff (a b : List Int) : wit a b = true ↔ ∀ z, z ∈ a → z ∈ b := by unfold wit; simp [List.all_eq_true]
end Ns
theorem eqB_of {a b : List Int} (h : a = b) : eqB a b = true := by unfold eqB; simpa using h
theorem eqB_both (a b : List Int) : eqB (Ns.norm a) (Ns.norm b) = (Ns.wit a b && Ns.wit b a) := by
  rw [Bool.eq_iff_iff, Bool.and_eq_true, Ns.wit_iff, Ns.wit_iff]
  unfold eqB
  rw [decide_eq_true_eq]
  constructor
  · intro h
    exact ⟨fun z hz => (Ns.mem_norm b z).1 (h ▸ (Ns.mem_norm a z).2 hz), fun z hz => (Ns.mem_norm a z).1 (h ▸ (Ns.mem_norm b z).2 hz)⟩
  · rintro ⟨h1, h2⟩
    exact Ns.asc_unique _ _ (Ns.asc_norm a) (Ns.asc_norm b) fun z => by rw [Ns.mem_norm, Ns.mem_norm]; exact ⟨h1 z, h2 z⟩
theorem hasB_uni (a b : List Int) (x : Int) : hasB (Ns.uni a b) x = (hasB a x || hasB b x) := by
  rw [Bool.eq_iff_iff, Bool.or_eq_true, hasB_iff, hasB_iff, hasB_iff, Ns.mem_uni]
theorem hasB_mns (a b : List Int) (x : Int) : hasB (Ns.mns a b) x = (hasB a x && !hasB b x) := by
  rw [Bool.eq_iff_iff, Bool.and_eq_true, Bool.not_eq_true', hasB_iff, hasB_iff, Ns.mem_mns, ← Bool.not_eq_true, hasB_iff]

theorem law4_far (A B C : Option Addr) (c d f : Nat) (n m k : Nat) (w : World) (hn : n ≤ 17592186044416) (hm : m ≤ 17592186044416) (hk : k ≤ 17592186044416) (hfar : 150 < n + m + k) :
    Calls Try.prog 4 #[.slice A n c, .slice B m d, .slice C k f] w fun e w' => e = .returned (.bool true) ∧ Below w.heap.size w w' := by
  have h1 : (150 : Int) < (n : Int) + m + k := by omega
  go_enter Try.func4, Try.ntmps4
  go_wp2_with (go_at_call 7; refine (awake_any _).mono ?_; rintro e w' ⟨rfl, hb⟩)
  go_ret
  exact ⟨rfl, hb⟩
theorem law6_far (A B : Option Addr) (c d : Nat) (n m : Nat) (x : Int) (w : World) (hn : n ≤ 17592186044416) (hm : m ≤ 17592186044416) (hfar : 200 < n + m) :
    Calls Try.prog 6 #[.slice A n c, .slice B m d, .int .i64 x] w fun e w' => e = .returned (.bool true) ∧ Below w.heap.size w w' := by
  have h1 : (200 : Int) < (n : Int) + m := by omega
  go_enter Try.func6, Try.ntmps6
  go_wp2_with (go_at_call 7; refine (awake_any _).mono ?_; rintro e w' ⟨rfl, hb⟩)
  go_ret
  exact ⟨rfl, hb⟩

set_option maxHeartbeats 2000000 in
theorem law4_near (A B C : Option Addr) (c d f : Nat) (a b g : List Int) (w : World) (h1 : RD w A c a) (h2 : RD w B d b) (h3 : RD w C f g) (hnear : a.length + b.length + g.length ≤ 150) :
    Calls Try.prog 4 #[.slice A a.length c, .slice B b.length d, .slice C g.length f] w fun e w' => e = .returned (.bool true) ∧ Below w.heap.size w w' := by
  have hi : (a.length : Int) + b.length + g.length ≤ 150 := by omega
  have HA := Lib.hid h1
  have HBb := Lib.hid h2
  have HC := Lib.hid h3
  have HB := Lib.hid (Below.refl w.heap.size w)
  clear h1 h2 h3
  have E1 := Lib.hid (eqB_of (Ns.law_dist a b g))
  have E2 := Lib.hid (eqB_of (Ns.law_whole a b))
  have E3 := Lib.hid (eqB_of (Ns.law_ucomm a b))
  have E4 := Lib.hid (eqB_of (Ns.law_mcomm a b))
  have E5 := Lib.hid (Ns.law_none a b)
  have E6 := Lib.hid (Ns.law_in a b)
  have L1 := Ns.len_mee b g
  have L2 := Ns.len_uni a (Ns.mee b g)
  have L3 := Ns.len_uni a b
  have L4 := Ns.len_uni a g
  have L5 := Ns.len_mee (Ns.uni a b) (Ns.uni a g)
  have L6 := Ns.len_mns a b
  have L7 := Ns.len_mee a b
  have L8 := Ns.len_uni (Ns.mns a b) (Ns.mee a b)
  have L9 := Ns.len_norm a
  have L10 := Ns.len_uni b a
  have L11 := Ns.len_mee b a
  go_enter Try.func4, Try.ntmps4
  go_wp2_with fail
  refine (meet_any B C d f b g _ HBb.out HC.out (by omega) (by omega)).mono ?_
  rintro e w1 ⟨A1, c1, rfl, hf, hb⟩
  replace HA := Lib.hid (HA.out.go hb)
  replace HBb := Lib.hid (HBb.out.go hb)
  replace HC := Lib.hid (HC.out.go hb)
  replace HB := Lib.hid (HB.out.trans (hb.mono HB.out.size))
  have F1 := Lib.hid hf
  clear hf hb
  go_wp2_with fail
  refine (union_any A A1 c c1 a (Ns.mee b g) _ HA.out F1.out (by omega) (by omega)).mono ?_
  rintro e w2 ⟨A2, c2, rfl, hf, hb⟩
  replace HA := Lib.hid (HA.out.go hb)
  replace HBb := Lib.hid (HBb.out.go hb)
  replace HC := Lib.hid (HC.out.go hb)
  replace F1 := Lib.hid (F1.out.go hb)
  replace HB := Lib.hid (HB.out.trans (hb.mono HB.out.size))
  have F2 := Lib.hid hf
  clear hf hb
  go_wp2_with fail
  refine (union_any A B c d a b _ HA.out HBb.out (by omega) (by omega)).mono ?_
  rintro e w3 ⟨A3, c3, rfl, hf, hb⟩
  replace HA := Lib.hid (HA.out.go hb)
  replace HBb := Lib.hid (HBb.out.go hb)
  replace HC := Lib.hid (HC.out.go hb)
  replace F1 := Lib.hid (F1.out.go hb)
  replace F2 := Lib.hid (F2.out.go hb)
  replace HB := Lib.hid (HB.out.trans (hb.mono HB.out.size))
  have F3 := Lib.hid hf
  clear hf hb
  go_wp2_with fail
  refine (union_any A C c f a g _ HA.out HC.out (by omega) (by omega)).mono ?_
  rintro e w4 ⟨A4, c4, rfl, hf, hb⟩
  replace HA := Lib.hid (HA.out.go hb)
  replace HBb := Lib.hid (HBb.out.go hb)
  replace HC := Lib.hid (HC.out.go hb)
  replace F1 := Lib.hid (F1.out.go hb)
  replace F2 := Lib.hid (F2.out.go hb)
  replace F3 := Lib.hid (F3.out.go hb)
  replace HB := Lib.hid (HB.out.trans (hb.mono HB.out.size))
  have F4 := Lib.hid hf
  clear hf hb
  go_wp2_with fail
  refine (meet_any A3 A4 c3 c4 (Ns.uni a b) (Ns.uni a g) _ F3.out F4.out (by omega) (by omega)).mono ?_
  rintro e w5 ⟨A5, c5, rfl, hf, hb⟩
  replace HA := Lib.hid (HA.out.go hb)
  replace HBb := Lib.hid (HBb.out.go hb)
  replace HC := Lib.hid (HC.out.go hb)
  replace F1 := Lib.hid (F1.out.go hb)
  replace F2 := Lib.hid (F2.out.go hb)
  replace F3 := Lib.hid (F3.out.go hb)
  replace F4 := Lib.hid (F4.out.go hb)
  replace HB := Lib.hid (HB.out.trans (hb.mono HB.out.size))
  have F5 := Lib.hid hf
  clear hf hb
  go_wp2_with fail
  refine (minus_any A B c d a b _ HA.out HBb.out (by omega) (by omega)).mono ?_
  rintro e w6 ⟨A6, c6, rfl, hf, hb⟩
  replace HA := Lib.hid (HA.out.go hb)
  replace HBb := Lib.hid (HBb.out.go hb)
  replace HC := Lib.hid (HC.out.go hb)
  replace F1 := Lib.hid (F1.out.go hb)
  replace F2 := Lib.hid (F2.out.go hb)
  replace F3 := Lib.hid (F3.out.go hb)
  replace F4 := Lib.hid (F4.out.go hb)
  replace F5 := Lib.hid (F5.out.go hb)
  replace HB := Lib.hid (HB.out.trans (hb.mono HB.out.size))
  have F6 := Lib.hid hf
  clear hf hb
  go_wp2_with fail
  refine (meet_any A B c d a b _ HA.out HBb.out (by omega) (by omega)).mono ?_
  rintro e w7 ⟨A7, c7, rfl, hf, hb⟩
  replace HA := Lib.hid (HA.out.go hb)
  replace HBb := Lib.hid (HBb.out.go hb)
  replace HC := Lib.hid (HC.out.go hb)
  replace F1 := Lib.hid (F1.out.go hb)
  replace F2 := Lib.hid (F2.out.go hb)
  replace F3 := Lib.hid (F3.out.go hb)
  replace F4 := Lib.hid (F4.out.go hb)
  replace F5 := Lib.hid (F5.out.go hb)
  replace F6 := Lib.hid (F6.out.go hb)
  replace HB := Lib.hid (HB.out.trans (hb.mono HB.out.size))
  have F7 := Lib.hid hf
  clear hf hb
  go_wp2_with fail
  refine (union_any A6 A7 c6 c7 (Ns.mns a b) (Ns.mee a b) _ F6.out F7.out (by omega) (by omega)).mono ?_
  rintro e w8 ⟨A8, c8, rfl, hf, hb⟩
  replace HA := Lib.hid (HA.out.go hb)
  replace HBb := Lib.hid (HBb.out.go hb)
  replace HC := Lib.hid (HC.out.go hb)
  replace F1 := Lib.hid (F1.out.go hb)
  replace F2 := Lib.hid (F2.out.go hb)
  replace F3 := Lib.hid (F3.out.go hb)
  replace F4 := Lib.hid (F4.out.go hb)
  replace F5 := Lib.hid (F5.out.go hb)
  replace F6 := Lib.hid (F6.out.go hb)
  replace F7 := Lib.hid (F7.out.go hb)
  replace HB := Lib.hid (HB.out.trans (hb.mono HB.out.size))
  have F8 := Lib.hid hf
  clear hf hb
  go_wp2_with fail
  refine (same_any A2 A5 c2 c5 _ _ _ F2.out F5.out (by omega) (by omega)).mono ?_
  rintro e w9 ⟨rfl, hb⟩
  rw [E1.out]
  replace HA := Lib.hid (HA.out.go hb)
  replace HBb := Lib.hid (HBb.out.go hb)
  replace HC := Lib.hid (HC.out.go hb)
  replace F1 := Lib.hid (F1.out.go hb)
  replace F2 := Lib.hid (F2.out.go hb)
  replace F3 := Lib.hid (F3.out.go hb)
  replace F4 := Lib.hid (F4.out.go hb)
  replace F5 := Lib.hid (F5.out.go hb)
  replace F6 := Lib.hid (F6.out.go hb)
  replace F7 := Lib.hid (F7.out.go hb)
  replace F8 := Lib.hid (F8.out.go hb)
  replace HB := Lib.hid (HB.out.trans (hb.mono HB.out.size))
  clear hb
  go_wp2_with fail
  refine (of_any A c a _ HA.out (by omega)).mono ?_
  rintro e w10 ⟨A9, c9, rfl, hf, hb⟩
  replace HA := Lib.hid (HA.out.go hb)
  replace HBb := Lib.hid (HBb.out.go hb)
  replace HC := Lib.hid (HC.out.go hb)
  replace F1 := Lib.hid (F1.out.go hb)
  replace F2 := Lib.hid (F2.out.go hb)
  replace F3 := Lib.hid (F3.out.go hb)
  replace F4 := Lib.hid (F4.out.go hb)
  replace F5 := Lib.hid (F5.out.go hb)
  replace F6 := Lib.hid (F6.out.go hb)
  replace F7 := Lib.hid (F7.out.go hb)
  replace F8 := Lib.hid (F8.out.go hb)
  replace HB := Lib.hid (HB.out.trans (hb.mono HB.out.size))
  have F9 := Lib.hid hf
  clear hf hb
  go_wp2_with fail
  refine (same_any A8 A9 c8 c9 _ _ _ F8.out F9.out (by omega) (by omega)).mono ?_
  rintro e w11 ⟨rfl, hb⟩
  rw [E2.out]
  replace HA := Lib.hid (HA.out.go hb)
  replace HBb := Lib.hid (HBb.out.go hb)
  replace HC := Lib.hid (HC.out.go hb)
  replace F1 := Lib.hid (F1.out.go hb)
  replace F2 := Lib.hid (F2.out.go hb)
  replace F3 := Lib.hid (F3.out.go hb)
  replace F4 := Lib.hid (F4.out.go hb)
  replace F5 := Lib.hid (F5.out.go hb)
  replace F6 := Lib.hid (F6.out.go hb)
  replace F7 := Lib.hid (F7.out.go hb)
  replace F8 := Lib.hid (F8.out.go hb)
  replace F9 := Lib.hid (F9.out.go hb)
  replace HB := Lib.hid (HB.out.trans (hb.mono HB.out.size))
  clear hb
  go_wp2_with fail
  refine (union_any A B c d a b _ HA.out HBb.out (by omega) (by omega)).mono ?_
  rintro e w12 ⟨A10, c10, rfl, hf, hb⟩
  replace HA := Lib.hid (HA.out.go hb)
  replace HBb := Lib.hid (HBb.out.go hb)
  replace HC := Lib.hid (HC.out.go hb)
  replace F1 := Lib.hid (F1.out.go hb)
  replace F2 := Lib.hid (F2.out.go hb)
  replace F3 := Lib.hid (F3.out.go hb)
  replace F4 := Lib.hid (F4.out.go hb)
  replace F5 := Lib.hid (F5.out.go hb)
  replace F6 := Lib.hid (F6.out.go hb)
  replace F7 := Lib.hid (F7.out.go hb)
  replace F8 := Lib.hid (F8.out.go hb)
  replace F9 := Lib.hid (F9.out.go hb)
  replace HB := Lib.hid (HB.out.trans (hb.mono HB.out.size))
  have F10 := Lib.hid hf
  clear hf hb
  go_wp2_with fail
  refine (union_any B A d c b a _ HBb.out HA.out (by omega) (by omega)).mono ?_
  rintro e w13 ⟨A11, c11, rfl, hf, hb⟩
  replace HA := Lib.hid (HA.out.go hb)
  replace HBb := Lib.hid (HBb.out.go hb)
  replace HC := Lib.hid (HC.out.go hb)
  replace F1 := Lib.hid (F1.out.go hb)
  replace F2 := Lib.hid (F2.out.go hb)
  replace F3 := Lib.hid (F3.out.go hb)
  replace F4 := Lib.hid (F4.out.go hb)
  replace F5 := Lib.hid (F5.out.go hb)
  replace F6 := Lib.hid (F6.out.go hb)
  replace F7 := Lib.hid (F7.out.go hb)
  replace F8 := Lib.hid (F8.out.go hb)
  replace F9 := Lib.hid (F9.out.go hb)
  replace F10 := Lib.hid (F10.out.go hb)
  replace HB := Lib.hid (HB.out.trans (hb.mono HB.out.size))
  have F11 := Lib.hid hf
  clear hf hb
  go_wp2_with fail
  refine (same_any A10 A11 c10 c11 _ _ _ F10.out F11.out (by omega) (by omega)).mono ?_
  rintro e w14 ⟨rfl, hb⟩
  rw [E3.out]
  replace HA := Lib.hid (HA.out.go hb)
  replace HBb := Lib.hid (HBb.out.go hb)
  replace HC := Lib.hid (HC.out.go hb)
  replace F1 := Lib.hid (F1.out.go hb)
  replace F2 := Lib.hid (F2.out.go hb)
  replace F3 := Lib.hid (F3.out.go hb)
  replace F4 := Lib.hid (F4.out.go hb)
  replace F5 := Lib.hid (F5.out.go hb)
  replace F6 := Lib.hid (F6.out.go hb)
  replace F7 := Lib.hid (F7.out.go hb)
  replace F8 := Lib.hid (F8.out.go hb)
  replace F9 := Lib.hid (F9.out.go hb)
  replace F10 := Lib.hid (F10.out.go hb)
  replace F11 := Lib.hid (F11.out.go hb)
  replace HB := Lib.hid (HB.out.trans (hb.mono HB.out.size))
  clear hb
  go_wp2_with fail
  refine (meet_any A B c d a b _ HA.out HBb.out (by omega) (by omega)).mono ?_
  rintro e w15 ⟨A12, c12, rfl, hf, hb⟩
  replace HA := Lib.hid (HA.out.go hb)
  replace HBb := Lib.hid (HBb.out.go hb)
  replace HC := Lib.hid (HC.out.go hb)
  replace F1 := Lib.hid (F1.out.go hb)
  replace F2 := Lib.hid (F2.out.go hb)
  replace F3 := Lib.hid (F3.out.go hb)
  replace F4 := Lib.hid (F4.out.go hb)
  replace F5 := Lib.hid (F5.out.go hb)
  replace F6 := Lib.hid (F6.out.go hb)
  replace F7 := Lib.hid (F7.out.go hb)
  replace F8 := Lib.hid (F8.out.go hb)
  replace F9 := Lib.hid (F9.out.go hb)
  replace F10 := Lib.hid (F10.out.go hb)
  replace F11 := Lib.hid (F11.out.go hb)
  replace HB := Lib.hid (HB.out.trans (hb.mono HB.out.size))
  have F12 := Lib.hid hf
  clear hf hb
  go_wp2_with fail
  refine (meet_any B A d c b a _ HBb.out HA.out (by omega) (by omega)).mono ?_
  rintro e w16 ⟨A13, c13, rfl, hf, hb⟩
  replace HA := Lib.hid (HA.out.go hb)
  replace HBb := Lib.hid (HBb.out.go hb)
  replace HC := Lib.hid (HC.out.go hb)
  replace F1 := Lib.hid (F1.out.go hb)
  replace F2 := Lib.hid (F2.out.go hb)
  replace F3 := Lib.hid (F3.out.go hb)
  replace F4 := Lib.hid (F4.out.go hb)
  replace F5 := Lib.hid (F5.out.go hb)
  replace F6 := Lib.hid (F6.out.go hb)
  replace F7 := Lib.hid (F7.out.go hb)
  replace F8 := Lib.hid (F8.out.go hb)
  replace F9 := Lib.hid (F9.out.go hb)
  replace F10 := Lib.hid (F10.out.go hb)
  replace F11 := Lib.hid (F11.out.go hb)
  replace F12 := Lib.hid (F12.out.go hb)
  replace HB := Lib.hid (HB.out.trans (hb.mono HB.out.size))
  have F13 := Lib.hid hf
  clear hf hb
  go_wp2_with fail
  refine (same_any A12 A13 c12 c13 _ _ _ F12.out F13.out (by omega) (by omega)).mono ?_
  rintro e w17 ⟨rfl, hb⟩
  rw [E4.out]
  replace HA := Lib.hid (HA.out.go hb)
  replace HBb := Lib.hid (HBb.out.go hb)
  replace HC := Lib.hid (HC.out.go hb)
  replace F1 := Lib.hid (F1.out.go hb)
  replace F2 := Lib.hid (F2.out.go hb)
  replace F3 := Lib.hid (F3.out.go hb)
  replace F4 := Lib.hid (F4.out.go hb)
  replace F5 := Lib.hid (F5.out.go hb)
  replace F6 := Lib.hid (F6.out.go hb)
  replace F7 := Lib.hid (F7.out.go hb)
  replace F8 := Lib.hid (F8.out.go hb)
  replace F9 := Lib.hid (F9.out.go hb)
  replace F10 := Lib.hid (F10.out.go hb)
  replace F11 := Lib.hid (F11.out.go hb)
  replace F12 := Lib.hid (F12.out.go hb)
  replace F13 := Lib.hid (F13.out.go hb)
  replace HB := Lib.hid (HB.out.trans (hb.mono HB.out.size))
  clear hb
  go_wp2_with fail
  refine (minus_any A B c d a b _ HA.out HBb.out (by omega) (by omega)).mono ?_
  rintro e w18 ⟨A14, c14, rfl, hf, hb⟩
  replace HA := Lib.hid (HA.out.go hb)
  replace HBb := Lib.hid (HBb.out.go hb)
  replace HC := Lib.hid (HC.out.go hb)
  replace F1 := Lib.hid (F1.out.go hb)
  replace F2 := Lib.hid (F2.out.go hb)
  replace F3 := Lib.hid (F3.out.go hb)
  replace F4 := Lib.hid (F4.out.go hb)
  replace F5 := Lib.hid (F5.out.go hb)
  replace F6 := Lib.hid (F6.out.go hb)
  replace F7 := Lib.hid (F7.out.go hb)
  replace F8 := Lib.hid (F8.out.go hb)
  replace F9 := Lib.hid (F9.out.go hb)
  replace F10 := Lib.hid (F10.out.go hb)
  replace F11 := Lib.hid (F11.out.go hb)
  replace F12 := Lib.hid (F12.out.go hb)
  replace F13 := Lib.hid (F13.out.go hb)
  replace HB := Lib.hid (HB.out.trans (hb.mono HB.out.size))
  have F14 := Lib.hid hf
  clear hf hb
  go_wp2_with fail
  refine (meet_any A14 B c14 d (Ns.mns a b) b _ F14.out HBb.out (by omega) (by omega)).mono ?_
  rintro e w19 ⟨A15, c15, rfl, hf, hb⟩
  rw [E5.out] at hf ⊢
  replace HA := Lib.hid (HA.out.go hb)
  replace HBb := Lib.hid (HBb.out.go hb)
  replace HC := Lib.hid (HC.out.go hb)
  replace F1 := Lib.hid (F1.out.go hb)
  replace F2 := Lib.hid (F2.out.go hb)
  replace F3 := Lib.hid (F3.out.go hb)
  replace F4 := Lib.hid (F4.out.go hb)
  replace F5 := Lib.hid (F5.out.go hb)
  replace F6 := Lib.hid (F6.out.go hb)
  replace F7 := Lib.hid (F7.out.go hb)
  replace F8 := Lib.hid (F8.out.go hb)
  replace F9 := Lib.hid (F9.out.go hb)
  replace F10 := Lib.hid (F10.out.go hb)
  replace F11 := Lib.hid (F11.out.go hb)
  replace F12 := Lib.hid (F12.out.go hb)
  replace F13 := Lib.hid (F13.out.go hb)
  replace F14 := Lib.hid (F14.out.go hb)
  replace HB := Lib.hid (HB.out.trans (hb.mono HB.out.size))
  have F15 := Lib.hid hf
  clear hf hb
  go_wp2_with fail
  refine (meet_any A B c d a b _ HA.out HBb.out (by omega) (by omega)).mono ?_
  rintro e w20 ⟨A16, c16, rfl, hf, hb⟩
  replace HA := Lib.hid (HA.out.go hb)
  replace HBb := Lib.hid (HBb.out.go hb)
  replace HC := Lib.hid (HC.out.go hb)
  replace F1 := Lib.hid (F1.out.go hb)
  replace F2 := Lib.hid (F2.out.go hb)
  replace F3 := Lib.hid (F3.out.go hb)
  replace F4 := Lib.hid (F4.out.go hb)
  replace F5 := Lib.hid (F5.out.go hb)
  replace F6 := Lib.hid (F6.out.go hb)
  replace F7 := Lib.hid (F7.out.go hb)
  replace F8 := Lib.hid (F8.out.go hb)
  replace F9 := Lib.hid (F9.out.go hb)
  replace F10 := Lib.hid (F10.out.go hb)
  replace F11 := Lib.hid (F11.out.go hb)
  replace F12 := Lib.hid (F12.out.go hb)
  replace F13 := Lib.hid (F13.out.go hb)
  replace F14 := Lib.hid (F14.out.go hb)
  replace F15 := Lib.hid (F15.out.go hb)
  replace HB := Lib.hid (HB.out.trans (hb.mono HB.out.size))
  have F16 := Lib.hid hf
  clear hf hb
  go_wp2_with fail
  refine (within_any A16 A c16 c (Ns.mee a b) a _ F16.out HA.out (by omega) (by omega)).mono ?_
  rintro e w21 ⟨rfl, hb⟩
  rw [E6.out]
  replace HA := Lib.hid (HA.out.go hb)
  replace HBb := Lib.hid (HBb.out.go hb)
  replace HC := Lib.hid (HC.out.go hb)
  replace F1 := Lib.hid (F1.out.go hb)
  replace F2 := Lib.hid (F2.out.go hb)
  replace F3 := Lib.hid (F3.out.go hb)
  replace F4 := Lib.hid (F4.out.go hb)
  replace F5 := Lib.hid (F5.out.go hb)
  replace F6 := Lib.hid (F6.out.go hb)
  replace F7 := Lib.hid (F7.out.go hb)
  replace F8 := Lib.hid (F8.out.go hb)
  replace F9 := Lib.hid (F9.out.go hb)
  replace F10 := Lib.hid (F10.out.go hb)
  replace F11 := Lib.hid (F11.out.go hb)
  replace F12 := Lib.hid (F12.out.go hb)
  replace F13 := Lib.hid (F13.out.go hb)
  replace F14 := Lib.hid (F14.out.go hb)
  replace F15 := Lib.hid (F15.out.go hb)
  replace F16 := Lib.hid (F16.out.go hb)
  replace HB := Lib.hid (HB.out.trans (hb.mono HB.out.size))
  clear hb
  go_wp2_with fail
  refine (awake_any _).mono ?_
  rintro e w22 ⟨rfl, hb⟩
  replace HA := Lib.hid (HA.out.go hb)
  replace HBb := Lib.hid (HBb.out.go hb)
  replace HC := Lib.hid (HC.out.go hb)
  replace F1 := Lib.hid (F1.out.go hb)
  replace F2 := Lib.hid (F2.out.go hb)
  replace F3 := Lib.hid (F3.out.go hb)
  replace F4 := Lib.hid (F4.out.go hb)
  replace F5 := Lib.hid (F5.out.go hb)
  replace F6 := Lib.hid (F6.out.go hb)
  replace F7 := Lib.hid (F7.out.go hb)
  replace F8 := Lib.hid (F8.out.go hb)
  replace F9 := Lib.hid (F9.out.go hb)
  replace F10 := Lib.hid (F10.out.go hb)
  replace F11 := Lib.hid (F11.out.go hb)
  replace F12 := Lib.hid (F12.out.go hb)
  replace F13 := Lib.hid (F13.out.go hb)
  replace F14 := Lib.hid (F14.out.go hb)
  replace F15 := Lib.hid (F15.out.go hb)
  replace F16 := Lib.hid (F16.out.go hb)
  replace HB := Lib.hid (HB.out.trans (hb.mono HB.out.size))
  clear hb
  go_wp2
  go_ret
  exact ⟨rfl, HB.out⟩

theorem law4_any (A : Option Addr) (c : Nat) (a : List Int) (B : Option Addr) (d : Nat) (b : List Int) (C : Option Addr) (f : Nat) (g : List Int) (w : World) (h1 : RD w A c a) (s1 : a.length ≤ 17592186044416) (h2 : RD w B d b) (s2 : b.length ≤ 17592186044416)
    (h3 : RD w C f g) (s3 : g.length ≤ 17592186044416) :
    Calls Try.prog 4 #[.slice A a.length c, .slice B b.length d, .slice C g.length f] w fun e w' => e = .returned (.bool true) ∧ Below w.heap.size w w' := by
  by_cases h : 150 < a.length + b.length + g.length
  · exact law4_far A B C c d f _ _ _ w s1 s2 s3 h
  · exact law4_near A B C c d f a b g w h1 h2 h3 (by omega)
end Go.Proofs.Ytjagjlgboheoeaa
