/-
  The first error of a list of events: checkAll, checkList, the reference's CheckAll.
-/
import Derived.Test.YtnohmgmpabckkaaDoorVb
namespace Go.Proofs.YtnohmgmpabckkaaDoor
open Go.RowKit Go.Lib

def chkL : List Ev → Int
  | [] => 0
  | e :: l => if chkE e = 0 then chkL l else chkE e
def chkT (l : List Ev) : Int := if 65536 < l.length then 3 else chkL l
theorem chkL_end (l : List Ev) (k : Nat) (h : l.length ≤ k) : chkL (l.drop k) = 0 := by rw [List.drop_eq_nil_of_le h]; rfl
theorem chkL_ok (l : List Ev) (k : Nat) (a : Ev) (h : l[k]? = some a) (h0 : chkE a = 0) : chkL (l.drop k) = chkL (l.drop (k + 1)) := by
  rw [List.drop_eq_getElem_cons (List.getElem?_eq_some_iff.1 h).1, (List.getElem?_eq_some_iff.1 h).2, chkL, if_pos h0]
theorem chkL_bad (l : List Ev) (k : Nat) (a : Ev) (h : l[k]? = some a) (h0 : chkE a ≠ 0) : chkL (l.drop k) = chkE a := by
  rw [List.drop_eq_getElem_cons (List.getElem?_eq_some_iff.1 h).1, (List.getElem?_eq_some_iff.1 h).2, chkL, if_neg h0]

set_option maxHeartbeats 2000000 in
theorem checkAll_any (A : Option Addr) (c : Nat) (l : List Ev) (w : World) (h : RE w.heap.size w A c l) (hl : l.length ≤ 1000000) :
    Calls Tryd.prog 37 #[.slice A l.length c] w fun e w' => e = .returned (.int .i64 (chkL l)) ∧ Below w.heap.size w w' := by
  have H := Lib.hid h
  clear h
  go_enter Tryd.func37, Tryd.ntmps37
  go_wp2
  go_loopw [8] (fun i wr => ∃ (k : Nat), k ≤ l.length ∧ i = .int .i64 k ∧ Hid (chkL l = chkL (l.drop k)) ∧ Hid (Below w.heap.size w wr)) (fun i _ => l.length - (RowKit.intOf i).toNat)
  case atStart => exact ⟨0, Nat.zero_le _, rfl, rfl, Below.refl _ _⟩
  case round =>
    obtain ⟨k, hk, rfl, HN, HB⟩ := hrel
    by_cases hlt : k < l.length
    · obtain ⟨b, off, a, rfl, hb, ha, c0, c1, c2, c3, c4, c5, c6⟩ := RE.at_ (H.out.go HB.out) hlt
      have HA := Lib.hid ha
      clear ha
      go_wp2_with fail
      refine (check_any _ _ _ _ _ _ _ _).mono ?_
      rintro e w1 ⟨rfl, hb1⟩
      have HB1 : Hid (Below w.heap.size w w1) := HB.out.trans ((below_via hb1).mono HB.out.size)
      clear hb1 c0 c1 c2 c3 c4 c5 c6
      by_cases h0 : chkE a = 0
      · have hd : (chkE a != 0) = false := by simpa using h0
        have HS := Lib.hid (HN.out.trans (chkL_ok l k a HA.out h0))
        clear h0
        go_wp2
        go_roundw
        case rel => exact ⟨k + 1, hlt, by go_num, HS.out, HB1.out⟩
        case measure => simp [RowKit.intOf]; omega
      · have hd : (chkE a != 0) = true := by simpa using h0
        have HS := Lib.hid (HN.out.trans (chkL_bad l k a HA.out h0))
        clear h0
        go_wp2
        go_ret
        exact ⟨ret_intN HS.out.symm, HB1.out⟩
    · have HS := Lib.hid (HN.out.trans (chkL_end l k (by omega)))
      go_wp2
      go_ret
      exact ⟨ret_intN HS.out.symm, HB.out⟩
set_option maxHeartbeats 2000000 in
theorem rcheckAll_any (A : Option Addr) (c : Nat) (l : List Ev) (w : World) (h : RE w.heap.size w A c l) (hl : l.length ≤ 1000000) :
    Calls Tryd.prog 28 #[.slice A l.length c] w fun e w' => e = .returned (.int .i64 (chkT l)) ∧ Below w.heap.size w w' := by
  have H := Lib.hid h
  clear h
  by_cases hbig : 65536 < l.length
  · have hd : decide ((l.length : Int) > 65536) = true := by simp; omega
    have HR := Lib.hid (show chkT l = 3 from if_pos hbig)
    go_enter Tryd.func28, Tryd.ntmps28
    go_wp2
    go_ret
    exact ⟨ret_intN HR.out.symm, Below.refl _ _⟩
  have HR := Lib.hid (show chkT l = chkL l from if_neg hbig)
  rw [HR.out]
  go_enter Tryd.func28, Tryd.ntmps28
  go_wp2
  go_loopw [11] (fun i wr => ∃ (k : Nat), k ≤ l.length ∧ i = .int .i64 k ∧ Hid (chkL l = chkL (l.drop k)) ∧ Hid (Below w.heap.size w wr)) (fun i _ => l.length - (RowKit.intOf i).toNat)
  case atStart => exact ⟨0, Nat.zero_le _, rfl, rfl, Below.refl _ _⟩
  case round =>
    obtain ⟨k, hk, rfl, HN, HB⟩ := hrel
    by_cases hlt : k < l.length
    · obtain ⟨b, off, a, rfl, hb, ha, c0, c1, c2, c3, c4, c5, c6⟩ := RE.at_ (H.out.go HB.out) hlt
      have HA := Lib.hid ha
      clear ha
      go_wp2_with fail
      refine (rcheck_any _ _ _ _ _ _ _ _).mono ?_
      rintro e w1 ⟨rfl, hb1⟩
      have HB1 : Hid (Below w.heap.size w w1) := HB.out.trans ((below_via hb1).mono HB.out.size)
      clear hb1 c0 c1 c2 c3 c4 c5 c6
      by_cases h0 : chkE a = 0
      · have hd : (chkE a != 0) = false := by simpa using h0
        have HS := Lib.hid (HN.out.trans (chkL_ok l k a HA.out h0))
        clear h0
        go_wp2
        go_roundw
        case rel => exact ⟨k + 1, hlt, by go_num, HS.out, HB1.out⟩
        case measure => simp [RowKit.intOf]; omega
      · have hd : (chkE a != 0) = true := by simpa using h0
        have HS := Lib.hid (HN.out.trans (chkL_bad l k a HA.out h0))
        clear h0
        go_wp2
        go_ret
        exact ⟨ret_intN HS.out.symm, HB1.out⟩
    · have HS := Lib.hid (HN.out.trans (chkL_end l k (by omega)))
      go_wp2
      go_ret
      exact ⟨ret_intN HS.out.symm, HB.out⟩
theorem checkList_any (A : Option Addr) (c : Nat) (l : List Ev) (w : World) (h : RE w.heap.size w A c l) (hl : l.length ≤ 1000000) :
    Calls Tryd.prog 26 #[.slice A l.length c] w fun e w' => e = .returned (.int .i64 (chkT l)) ∧ Below w.heap.size w w' := by
  have H := Lib.hid h
  clear h
  by_cases hbig : 65536 < l.length
  · have HR := Lib.hid (show chkT l = 3 from if_pos hbig)
    go_enter Tryd.func26, Tryd.ntmps26
    go_wp2
    go_ret
    exact ⟨ret_intN HR.out.symm, Below.refl _ _⟩
  have HR := Lib.hid (show chkT l = chkL l from if_neg hbig)
  rw [HR.out]
  go_enter Tryd.func26, Tryd.ntmps26
  go_wp2_with fail
  refine (checkAll_any _ _ _ _ H.out hl).mono ?_
  rintro e w1 ⟨rfl, hb⟩
  go_wp2
  go_ret
  exact ⟨rfl, hb⟩
end Go.Proofs.YtnohmgmpabckkaaDoor
