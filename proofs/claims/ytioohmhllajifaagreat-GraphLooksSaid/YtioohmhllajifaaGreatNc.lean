/-
  The functions that only read: whether a number is in a list, whether a list is a set, the order of lists.
-/
import Derived.Test.YtioohmhllajifaaGreatNb
import Derived.Test.YtioohmhllajifaaGreatSh
import Derived.WalkKit
import Derived.LoopTactic
import Derived.Deep.QuietTactic
import Derived.BigQuiet
import Derived.Lib.Hide
import Derived.OpenShut
namespace Go.Proofs.YtioohmhllajifaaGreat
open Go.RowKit

theorem ret_bool {a b : Bool} (h : a = b) : Ending.returned (.bool a) = .returned (.bool b) := by rw [h]
theorem ret_int {a b : Int} (h : a = b) : Ending.returned (.int .i64 a) = .returned (.int .i64 b) := by rw [h]
/-- whether a number is in a list -/
def hasB (l : List Int) (x : Int) : Bool := l.contains x
theorem hasB_iff (l : List Int) (x : Int) : hasB l x = true ↔ x ∈ l := by simp [hasB]
theorem take_succ_at (l : List Int) (y : Int) (k : Nat) (h : l[k]? = some y) : l.take (k + 1) = l.take k ++ [y] := by
  obtain ⟨hk, rfl⟩ := List.getElem?_eq_some_iff.1 h
  exact List.take_succ_eq_append_getElem hk
theorem hasB_succ (l : List Int) (x y : Int) (k : Nat) (h : l[k]? = some y) (hn : hasB (l.take k) x = false) (hne : (y == x) = false) : hasB (l.take (k + 1)) x = false := by
  rw [take_succ_at l y k h]
  have h1 : ¬ hasB (l.take k) x = true := by rw [hn]; simp
  rw [hasB_iff] at h1
  refine Bool.eq_false_iff.2 fun h2 => ?_
  rw [hasB_iff, List.mem_append, List.mem_singleton] at h2
  rcases h2 with h2 | h2
  · exact h1 h2
  · simp [h2] at hne
theorem hasB_at (l : List Int) (x y : Int) (k : Nat) (h : l[k]? = some y) (e : (y == x) = true) : hasB l x = true := by
  obtain rfl : y = x := by simpa using e
  exact (hasB_iff _ _).2 (List.mem_of_getElem? h)
theorem hasB_zero (l : List Int) (x : Int) : hasB (l.take 0) x = false := by simp [hasB]

set_option maxHeartbeats 400000 in
theorem rhas_any (A : Option Addr) (c : Nat) (l : List Int) (x : Int) (w : World) (h : RD w A c l) (hl : l.length ≤ 65536) :
    Calls Tryz.prog 38 #[.slice A l.length c, .int .i64 x] w fun e w' => e = .returned (.bool (hasB l x)) ∧ w = w' := by
  go_enter Tryz.func38, Tryz.ntmps38
  go_wp2
  go_loop [9] (fun i => ∃ k : Nat, k ≤ l.length ∧ i = .int .i64 k ∧ Hid (hasB (l.take k) x = false)) (fun i => l.length - (RowKit.intOf i).toNat)
  case atStart => exact ⟨0, Nat.zero_le _, rfl, hasB_zero l x⟩
  case round =>
    obtain ⟨k, hk, rfl, HN⟩ := hrel
    by_cases hlt : k < l.length
    · obtain ⟨ad, y, rfl, hb, hy, hcell⟩ := h.let_ hlt
      have HY := Lib.hid hy
      clear hy
      by_cases he : y = x
      · have hd : (y == x) = true := by simpa using he
        have HR := Lib.hid (hasB_at l x y k HY.out hd)
        clear he
        go_wp2
        go_ret
        exact ⟨ret_bool HR.out.symm, rfl⟩
      · have hd : (y == x) = false := by simpa using he
        have HN2 := Lib.hid (hasB_succ l x y k HY.out HN.out hd)
        clear he
        go_wp2
        go_round
        case rel => exact ⟨k + 1, by omega, by go_num, HN2.out⟩
        case measure => simp [RowKit.intOf]; omega
    · have e : l.take k = l := List.take_of_length_le (by omega)
      rw [e] at HN
      clear e
      go_wp2
      go_ret
      exact ⟨ret_bool HN.out.symm, rfl⟩

theorem drop_at (l : List Int) (y : Int) (k : Nat) (h : l[k]? = some y) : l.drop k = y :: l.drop (k + 1) := by
  obtain ⟨hk, rfl⟩ := List.getElem?_eq_some_iff.1 h
  exact List.drop_eq_getElem_cons hk

theorem has_any (A : Option Addr) (c : Nat) (l : List Int) (x : Int) (w : World) (h : RD w A c l) (hl : l.length ≤ 65536) :
    Calls Tryz.prog 37 #[.slice A l.length c, .int .i64 x] w fun e w' => e = .returned (.bool (hasB l x)) ∧ w = w' := by
  have hcon : Calls Tryz.prog 55 #[.slice A l.length c, .int .i64 x] w fun e w' => e = .returned (.bool (hasB l x)) ∧ w = w' := by
    by_cases hn : 0 < l.length
    · obtain ⟨ad, e, _, _⟩ := h.at_ hn
      obtain ⟨b, off, rfl, hc⟩ := ints_at (k := .i64) (zs := l) (fun i hi => h.all_ e hi) hn
      subst e
      refine (Tryz.slices_Contains_int b off l.length c l x w (Nat.le_refl _) (by omega) hc).mono ?_
      rintro e w' ⟨rfl, rfl⟩
      rw [List.take_length]
      exact ⟨rfl, rfl⟩
    · obtain rfl : l = [] := List.eq_nil_of_length_eq_zero (by omega)
      refine (Tryz.slices_Contains_int_empty A c x w).mono ?_
      rintro e w' ⟨rfl, rfl⟩
      exact ⟨rfl, rfl⟩
  go_enter Tryz.func37, Tryz.ntmps37
  go_wp2_with (go_at_call 55; refine hcon.mono ?_; rintro e w' ⟨rfl, rfl⟩)
  go_ret
  exact ⟨rfl, rfl⟩

/-- whether a list is a set of numbers above b and below n -/
def vl (n : Int) : Int → List Int → Bool
  | _, [] => true
  | b, x :: l => decide (b < x) && decide (x < n) && vl n x l
theorem vl_yes (n b x : Int) (l : List Int) (k : Nat) (h : l[k]? = some x) (h1 : b < x) (h2 : x < n) : vl n b (l.drop k) = vl n x (l.drop (k + 1)) := by
  rw [drop_at l x k h]; simp [vl, h1, h2]
theorem vl_no (n b x : Int) (l : List Int) (k : Nat) (h : l[k]? = some x) (h1 : x ≤ b ∨ n ≤ x) : vl n b (l.drop k) = false := by
  rw [drop_at l x k h]; unfold vl
  rcases h1 with h1 | h1
  · simp [show ¬ b < x by omega]
  · simp [show ¬ x < n by omega]
theorem vl_end (n b : Int) (l : List Int) (k : Nat) (h : l.length ≤ k) : vl n b (l.drop k) = true := by rw [List.drop_eq_nil_of_le h]; rfl
def valid (l : List Int) (n : Int) : Bool := vl n (-1) l



theorem wit_succ (a b : List Int) (y : Int) (k : Nat) (h : a[k]? = some y) : Ns.wit (a.take (k + 1)) b = (Ns.wit (a.take k) b && hasB b y) := by
  rw [take_succ_at a y k h]; simp [Ns.wit, hasB]
theorem wit_no (a b : List Int) (y : Int) (k : Nat) (h : a[k]? = some y) (hn : hasB b y = false) : Ns.wit a b = false := by
  refine Bool.eq_false_iff.2 fun h2 => ?_
  have := List.all_eq_true.1 h2 y (List.mem_of_getElem? h)
  unfold hasB at hn
  rw [hn] at this
  cases this

end Go.Proofs.YtioohmhllajifaaGreat
