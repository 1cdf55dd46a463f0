/-
  The order of lists, equality, the fronts of two lists.
-/
import Derived.Test.YtioohmhllajifaaGreatNc
namespace Go.Proofs.YtioohmhllajifaaGreat
open Go.RowKit

theorem cm_step (a b : List Int) (x y : Int) (k : Nat) (h1 : a[k]? = some x) (h2 : b[k]? = some y) :
    Ns.cm (a.drop k) (b.drop k) = if x < y then -1 else if y < x then 1 else Ns.cm (a.drop (k + 1)) (b.drop (k + 1)) := by
  rw [drop_at a x k h1, drop_at b y k h2]; rfl
theorem cm_left (a b : List Int) (k : Nat) (h1 : k < a.length) (h2 : b.length ≤ k) : Ns.cm (a.drop k) (b.drop k) = 1 := by
  rw [List.drop_eq_getElem_cons h1, List.drop_eq_nil_of_le h2]; rfl
theorem cm_end (a b : List Int) (k : Nat) (h1 : a.length ≤ k) : Ns.cm (a.drop k) (b.drop k) = if k < b.length then -1 else 0 := by
  rw [List.drop_eq_nil_of_le h1]
  split
  · next h => rw [List.drop_eq_getElem_cons h]; rfl
  · next h => rw [List.drop_eq_nil_of_le (by omega)]; rfl
theorem cm_len (a b : List Int) (k : Nat) (hk : k ≤ a.length) (h1 : a.length ≤ k) (_hkb : k ≤ b.length) : Ns.cm (a.drop k) (b.drop k) = if a.length < b.length then -1 else 0 := by
  rw [cm_end a b k h1, show k = a.length by omega]

theorem compareInt_lt (x y : Int) (h : x < y) : Lib.compareInt x y = -1 := by simp [Lib.compareInt, h]
theorem compareInt_gt (x y : Int) (h : y < x) : Lib.compareInt x y = 1 := by simp [Lib.compareInt, h, show ¬ x < y by omega]
theorem compareInt_eq (x : Int) : Lib.compareInt x x = 0 := by simp [Lib.compareInt]



theorem draws2 (w : World) (a b : Nat) : ∃ m, (w.drewN a).drewN b = w.drewN m := ⟨_, World.drewN_drewN _ _ _⟩
theorem draws3 (w : World) (a b c : Nat) : ∃ m, ((w.drewN a).drewN b).drewN c = w.drewN m := ⟨_, by rw [World.drewN_drewN, World.drewN_drewN]⟩
set_option maxHeartbeats 400000 in
theorem rcmp_any (A B : Option Addr) (c d : Nat) (a b : List Int) (w : World) (h : RD w A c a) (h' : RD w B d b) (hl : a.length ≤ 65536) (_hl' : b.length ≤ 65536) :
    Calls Tryz.prog 32 #[.slice A a.length c, .slice B b.length d] w fun e w' => e = .returned (.int .i64 (Ns.cm a b)) ∧ ∃ n, w' = w.drewN n := by
  go_enter Tryz.func32, Tryz.ntmps32
  go_wp2
  go_loopw [8] (fun i wr => ∃ (k n : Nat), k ≤ a.length ∧ k ≤ b.length ∧ i = .int .i64 k ∧ wr = w.drewN n ∧ Hid (Ns.cm a b = Ns.cm (a.drop k) (b.drop k))) (fun i _ => a.length - (RowKit.intOf i).toNat)
  case atStart => exact ⟨0, 0, Nat.zero_le _, Nat.zero_le _, rfl, rfl, rfl⟩
  case round =>
    obtain ⟨k, n, hk, hkb, rfl, rfl, HN⟩ := hrel
    by_cases hlt : k < a.length
    · obtain ⟨ad, x, rfl, hb, hx, hcell⟩ := h.let_ hlt
      have HX := Lib.hid hx
      clear hx
      by_cases hlb : k < b.length
      · obtain ⟨ad', y, rfl, hb', hy, hcell'⟩ := h'.let_ hlb
        have HY := Lib.hid hy
        clear hy
        have hd : decide (b.length ≤ k) = false := by simpa using hlb
        have HS := Lib.hid (HN.out.trans (cm_step a b x y k HX.out HY.out))
        by_cases h1 : x < y
        · have HR := Lib.hid (HS.out.trans (if_pos h1))
          have h1' : ¬ y < x := by omega
          go_wp2
          go_quiet (fail)
          go_wp2
          go_quiet (fail)
          go_wp2
          go_ret
          exact ⟨ret_int HR.out.symm, by first | exact ⟨_, rfl⟩ | exact draws2 _ _ _ | exact draws3 _ _ _ _⟩
        · by_cases h2 : y < x
          · have HR := Lib.hid (HS.out.trans ((if_neg h1).trans (if_pos h2)))
            go_wp2
            go_quiet (fail)
            go_wp2
            go_ret
            exact ⟨ret_int HR.out.symm, by first | exact ⟨_, rfl⟩ | exact draws2 _ _ _ | exact draws3 _ _ _ _⟩
          · have HR := Lib.hid (HS.out.trans ((if_neg h1).trans (if_neg h2)))
            go_wp2
            go_quiet (fail)
            go_wp2
            go_quiet (fail)
            go_wp2
            go_roundw
            case rel => exact ⟨k + 1, _, by omega, by omega, by go_num, rfl, HR.out⟩
            case measure => simp [RowKit.intOf]; omega
      · have HR := Lib.hid (HN.out.trans (cm_left a b k hlt (by omega)))
        have hd : decide (b.length ≤ k) = true := by simpa using hlb
        go_wp2
        go_quiet (fail)
        go_wp2
        go_ret
        exact ⟨ret_int HR.out.symm, by first | exact ⟨_, rfl⟩ | exact draws2 _ _ _ | exact draws3 _ _ _ _⟩
    · have HE := Lib.hid (HN.out.trans (cm_len a b k hk (by omega) hkb))
      by_cases h3 : a.length < b.length
      · have HR := Lib.hid (HE.out.trans (if_pos h3))
        go_wp2
        go_ret
        exact ⟨ret_int HR.out.symm, by first | exact ⟨_, rfl⟩ | exact draws2 _ _ _ | exact draws3 _ _ _ _⟩
      · have HR := Lib.hid (HE.out.trans (if_neg h3))
        go_wp2
        go_ret
        exact ⟨ret_int HR.out.symm, by first | exact ⟨_, rfl⟩ | exact draws2 _ _ _ | exact draws3 _ _ _ _⟩

theorem below_drewN (w : World) (n : Nat) : Below w.heap.size w (w.drewN n) := ⟨rfl, rfl, rfl, Nat.le_refl _, fun _ _ => rfl⟩
def eqB (a b : List Int) : Bool := decide (a = b)
theorem eqB_len (a b : List Int) (h : a.length ≠ b.length) : eqB a b = false := by
  simp only [eqB, decide_eq_false_iff_not]; rintro rfl; exact h rfl
theorem eqB_cm (a b : List Int) : (Ns.cm a b == 0) = eqB a b := by
  rw [Bool.eq_iff_iff]; simp [eqB, Ns.cm_zero]

set_option maxHeartbeats 400000 in
theorem same_any (A B : Option Addr) (c d : Nat) (a b : List Int) (w : World) (h : RD w A c a) (h' : RD w B d b) (hl : a.length ≤ 65536) (hl' : b.length ≤ 65536) :
    Calls Tryz.prog 11 #[.slice A a.length c, .slice B b.length d] w fun e w' => e = .returned (.bool (eqB a b)) ∧ Below w.heap.size w w' := by
  by_cases hlen : a.length = b.length
  · have hd : ((a.length : Int) == (b.length : Int)) = true := by rw [hlen]; exact beq_self_eq_true _
    have HE := Lib.hid (eqB_cm a b)
    have HL := Lib.hid hlen
    clear hlen
    go_enter Tryz.func11, Tryz.ntmps11
    go_wp2_with (go_at_call 32; refine (rcmp_any A B c d a b _ h h' hl hl').mono ?_; rintro e w' ⟨rfl, n, rfl⟩)
    go_ret
    exact ⟨ret_bool HE.out, below_drewN w n⟩
  · have hd : ((a.length : Int) == (b.length : Int)) = false := by simpa using (by omega : ¬ (a.length : Int) = b.length)
    have HE := Lib.hid (eqB_len a b hlen)
    clear hlen
    go_enter Tryz.func11, Tryz.ntmps11
    go_wp2
    go_ret
    exact ⟨ret_bool HE.out.symm, Below.refl _ _⟩

/-- the first elements of two sets that are not both empty -/
def fr : List Int → List Int → Int
  | [], _ => 1
  | _, [] => -1
  | x :: _, y :: _ => Lib.compareInt x y
set_option maxHeartbeats 400000 in
theorem fronts_any (A B : Option Addr) (c d : Nat) (a b : List Int) (w : World) (h : RD w A c a) (h' : RD w B d b) (hl : a.length ≤ 65536) (hl' : b.length ≤ 65536) :
    Calls Tryz.prog 65 #[.slice A a.length c, .slice B b.length d] w fun e w' => e = .returned (.int .i64 (fr a b)) ∧ ∃ n, w' = w.drewN n := by
  cases a with
  | nil =>
    go_enter Tryz.func65, Tryz.ntmps65
    go_wp2
    go_ret
    exact ⟨rfl, 0, rfl⟩
  | cons x a =>
    cases b with
    | nil =>
      go_enter Tryz.func65, Tryz.ntmps65
      go_wp2
      go_ret
      exact ⟨rfl, 0, rfl⟩
    | cons y b =>
      obtain ⟨ad, x', rfl, hb, hx, hcell⟩ := h.let_ (k := 0) (by simp)
      obtain ⟨ad', y', rfl, hb', hy, hcell'⟩ := h'.let_ (k := 0) (by simp)
      obtain rfl : x = x' := by simpa using hx
      obtain rfl : y = y' := by simpa using hy
      have hc0 : w.cell? ad = some (.int .i64 x) := hcell
      have hc0' : w.cell? ad' = some (.int .i64 y) := hcell'
      clear hcell hcell' hx hy
      go_enter Tryz.func65, Tryz.ntmps65
      go_wp2
      go_quiet ((go_at_call 64; exact Calls.quiet_of_same (Tryz.cmp_Compare_int x y _)))
      go_wp2
      go_ret
      exact ⟨rfl, _, rfl⟩
end Go.Proofs.YtioohmhllajifaaGreat
