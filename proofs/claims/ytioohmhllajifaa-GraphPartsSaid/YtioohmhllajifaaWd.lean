/- Walks of the wide numbers of ratio: narrow, narrowed. -/
import Derived.Test.YtioohmhllajifaaWc
namespace Go.Proofs.Ytioohmhllajifaa
open Go.RowKit Go.Lib
theorem hi_small (n : Nat) (h : n ≤ 1152921504606846976) : hiOf (n : Int) = 0 := by unfold hiOf; omega
theorem lo_small (n : Nat) (h : n ≤ 1152921504606846976) : loOf (n : Int) = n := by unfold loOf; omega
theorem ret_ib {a b : Int} {c : Bool} (h : a = b) : Ending.returned (.tuple #[.int .i64 a, .bool c]) = .returned (.tuple #[.int .i64 b, .bool c]) := by rw [h]
set_option maxHeartbeats 400000 in
theorem narrow_ok (h l : Nat) (w : World) (h1 : h < 18446744073709551616) (h2 : l < 18446744073709551616) (hs : (sw h l).natAbs ≤ 1152921504606846976) :
    Calls Try.prog 80 #[.agg #[.int .u64 h, .int .u64 l]] w fun e w' => e = .returned (.tuple #[.int .i64 (sw h l), .bool true]) ∧ Below w.heap.size w w' := by
  have c54 := fun w => size54_any h l w h1 h2
  rw [hi_small _ hs, lo_small _ hs] at c54
  have C54 := Lib.hid c54; clear c54
  have c53 := fun w => isneg_any h l w h1 h2
  by_cases hn : sw h l < 0
  · rw [show decide (sw h l < 0) = true by simpa using hn] at c53
    have C53 := Lib.hid c53; clear c53
    obtain ⟨n, hn2⟩ : ∃ n : Nat, n = (sw h l).natAbs := ⟨_, rfl⟩
    rw [← hn2] at C54 hs
    have e1 : sw h l = - (n : Int) := by omega
    have E1 := Lib.hid e1
    have hn3 : 1 ≤ n := by omega
    clear e1 hn2 hn
    go_enter Try.func80, Try.ntmps80
    go_wp2_with (first
      | (go_at_call 93; refine (C53.out _).mono ?_; rintro e w' ⟨rfl, hb⟩; obtain ⟨hc, hf⟩ := bcell hb; have hz : w.heap.size < w'.heap.size := Nat.lt_of_lt_of_le (by first | omega | (simp; done) | (simp; omega)) hb.size; have hB := bnext (w := w) (by go_grown) hb; clear hb)
      | (go_at_call 92; refine (C54.out _).mono ?_; rintro e w' ⟨rfl, hb⟩; obtain ⟨hc, hf⟩ := bcell hb; have hz : w.heap.size < w'.heap.size := Nat.lt_of_lt_of_le (by first | omega | (simp; done) | (simp; omega)) hb.size; have hB := bnext (w := w) (by go_grown) hb; clear hb))
    go_ret2
    exact ⟨ret_ib (by rw [E1.out]), by go_grown⟩
  · rw [show decide (sw h l < 0) = false by simpa using hn] at c53
    have C53 := Lib.hid c53; clear c53
    obtain ⟨n, hn2⟩ : ∃ n : Nat, n = (sw h l).natAbs := ⟨_, rfl⟩
    rw [← hn2] at C54 hs
    have e1 : sw h l = (n : Int) := by omega
    have E1 := Lib.hid e1
    clear e1 hn2 hn
    go_enter Try.func80, Try.ntmps80
    go_wp2_with (first
      | (go_at_call 93; refine (C53.out _).mono ?_; rintro e w' ⟨rfl, hb⟩; obtain ⟨hc, hf⟩ := bcell hb; have hz : w.heap.size < w'.heap.size := Nat.lt_of_lt_of_le (by first | omega | (simp; done) | (simp; omega)) hb.size; have hB := bnext (w := w) (by go_grown) hb; clear hb)
      | (go_at_call 92; refine (C54.out _).mono ?_; rintro e w' ⟨rfl, hb⟩; obtain ⟨hc, hf⟩ := bcell hb; have hz : w.heap.size < w'.heap.size := Nat.lt_of_lt_of_le (by first | omega | (simp; done) | (simp; omega)) hb.size; have hB := bnext (w := w) (by go_grown) hb; clear hb))
    go_ret2
    exact ⟨ret_ib (by rw [E1.out]), by go_grown⟩

def nar (z : Int) : Int := if z.natAbs ≤ 1152921504606846976 then z else 0
def narOk (z : Int) : Bool := decide (z.natAbs ≤ 1152921504606846976)
theorem big_words (n : Nat) (h : 1152921504606846976 < n) (h2 : n < 340282366920938463463374607431768211456) : hiOf (n : Int) ≠ 0 ∨ 1152921504606846976 < loOf (n : Int) := by unfold hiOf loOf; omega
set_option maxHeartbeats 400000 in
theorem narrow_no (h l : Nat) (w : World) (h1 : h < 18446744073709551616) (h2 : l < 18446744073709551616) (hs : 1152921504606846976 < (sw h l).natAbs) :
    Calls Try.prog 80 #[.agg #[.int .u64 h, .int .u64 l]] w fun e w' => e = .returned (.tuple #[.int .i64 0, .bool false]) ∧ Below w.heap.size w w' := by
  have c54 := fun w => size54_any h l w h1 h2
  have hb := big_words _ hs (by have := sw_range h l h1 h2; omega)
  have k1 := hi_lt ((sw h l).natAbs : Int)
  have k2 := lo_lt ((sw h l).natAbs : Int)
  generalize hiOf ((sw h l).natAbs : Int) = p at *
  generalize loOf ((sw h l).natAbs : Int) = q at *
  have C54 := Lib.hid c54; clear c54 hs
  by_cases hp : p = 0
  · subst hp
    have hq : 1152921504606846976 < q := by omega
    clear hb
    go_enter Try.func80, Try.ntmps80
    go_wp2_with ((go_at_call 92; refine (C54.out _).mono ?_; rintro e w' ⟨rfl, hb⟩; obtain ⟨hc, hf⟩ := bcell hb; have hz : w.heap.size + 0 < w'.heap.size := Nat.lt_of_lt_of_le (by first | omega | (simp; done) | (simp; omega)) hb.size; have hB := bnext (w := w) (by go_grown) hb; clear hb))
    go_ret2
    exact ⟨rfl, by go_grown⟩
  · have hp : 1 ≤ p := by omega
    clear hb
    go_enter Try.func80, Try.ntmps80
    go_wp2_with ((go_at_call 92; refine (C54.out _).mono ?_; rintro e w' ⟨rfl, hb⟩; obtain ⟨hc, hf⟩ := bcell hb; have hz : w.heap.size + 0 < w'.heap.size := Nat.lt_of_lt_of_le (by first | omega | (simp; done) | (simp; omega)) hb.size; have hB := bnext (w := w) (by go_grown) hb; clear hb))
    go_ret2
    exact ⟨rfl, by go_grown⟩
theorem narrow_any (h l : Nat) (w : World) (h1 : h < 18446744073709551616) (h2 : l < 18446744073709551616) :
    Calls Try.prog 80 #[.agg #[.int .u64 h, .int .u64 l]] w fun e w' => e = .returned (.tuple #[.int .i64 (nar (sw h l)), .bool (narOk (sw h l))]) ∧ Below w.heap.size w w' := by
  by_cases hs : (sw h l).natAbs ≤ 1152921504606846976
  · simp only [nar, narOk, if_pos hs, decide_eq_true hs]; exact narrow_ok h l w h1 h2 hs
  · simp only [nar, narOk, if_neg hs, decide_eq_false hs]; exact narrow_no h l w h1 h2 (by omega)

/-- a fraction of two numbers in lowest terms, or ErrLimit -/
def nrN (n d : Int) : Int := if n.natAbs ≤ 1152921504606846976 ∧ d.natAbs ≤ 1152921504606846976 then n else 0
def nrD (n d : Int) : Int := if n.natAbs ≤ 1152921504606846976 ∧ d.natAbs ≤ 1152921504606846976 then d else 0
def nrE (n d : Int) : Int := if n.natAbs ≤ 1152921504606846976 ∧ d.natAbs ≤ 1152921504606846976 then 0 else 3
set_option maxHeartbeats 400000 in
theorem narrowed_any (a b c d : Nat) (w : World) (h1 : a < 18446744073709551616) (h2 : b < 18446744073709551616) (h3 : c < 18446744073709551616) (h4 : d < 18446744073709551616) :
    Calls Try.prog 63 #[.agg #[.int .u64 a, .int .u64 b], .agg #[.int .u64 c, .int .u64 d]] w fun e w' =>
      e = .returned (.tuple #[.agg #[.int .i64 (nrN (sw a b) (sw c d)), .int .i64 (nrD (sw a b) (sw c d))], .int .i64 (nrE (sw a b) (sw c d))]) ∧ Below w.heap.size w w' := by
  by_cases hn : (sw a b).natAbs ≤ 1152921504606846976
  · by_cases hd : (sw c d).natAbs ≤ 1152921504606846976
    · have e1 : nar (sw a b) = sw a b := if_pos hn
      have e2 : nar (sw c d) = sw c d := if_pos hd
      have e3 : narOk (sw a b) = true := decide_eq_true hn
      have e4 : narOk (sw c d) = true := decide_eq_true hd
      have f1 : nrN (sw a b) (sw c d) = sw a b := if_pos ⟨hn, hd⟩
      have f2 : nrD (sw a b) (sw c d) = sw c d := if_pos ⟨hn, hd⟩
      have f3 : nrE (sw a b) (sw c d) = 0 := if_pos ⟨hn, hd⟩
      rw [f1, f2, f3]
      clear f1 f2 f3 hn hd
      go_enter Try.func63, Try.ntmps63
      go_wp2_with ((go_at_call 80; refine (narrow_any _ _ _ (by assumption) (by assumption)).mono ?_; rintro e w' ⟨rfl, hb⟩; obtain ⟨hc, hf⟩ := bcell hb; have hz : w.heap.size + 2 < w'.heap.size := Nat.lt_of_lt_of_le (by first | omega | (simp; done) | (simp; omega)) hb.size; have hB := bnext (w := w) (by go_grown) hb; clear hb))
      exact bodyPost_ret (v := .tuple #[.agg #[.int .i64 (sw a b), .int .i64 (sw c d)], .int .i64 0]) (by simp [results, Try.results63, go_sem, *]) rfl ⟨rfl, by go_grown⟩
    · have e3 : narOk (sw a b) = true := decide_eq_true hn
      have e4 : narOk (sw c d) = false := decide_eq_false hd
      have f1 : nrN (sw a b) (sw c d) = 0 := if_neg fun h => hd h.2
      have f2 : nrD (sw a b) (sw c d) = 0 := if_neg fun h => hd h.2
      have f3 : nrE (sw a b) (sw c d) = 3 := if_neg fun h => hd h.2
      rw [f1, f2, f3]
      clear f1 f2 f3 hn hd
      go_enter Try.func63, Try.ntmps63
      go_wp2_with ((go_at_call 80; refine (narrow_any _ _ _ (by assumption) (by assumption)).mono ?_; rintro e w' ⟨rfl, hb⟩; obtain ⟨hc, hf⟩ := bcell hb; have hz : w.heap.size + 2 < w'.heap.size := Nat.lt_of_lt_of_le (by first | omega | (simp; done) | (simp; omega)) hb.size; have hB := bnext (w := w) (by go_grown) hb; clear hb))
      exact bodyPost_ret (v := .tuple #[.agg #[.int .i64 0, .int .i64 0], .int .i64 3]) (by simp [results, Try.results63, go_sem, *]) rfl ⟨rfl, by go_grown⟩
  · have e3 : narOk (sw a b) = false := decide_eq_false hn
    have f1 : nrN (sw a b) (sw c d) = 0 := if_neg fun h => hn h.1
    have f2 : nrD (sw a b) (sw c d) = 0 := if_neg fun h => hn h.1
    have f3 : nrE (sw a b) (sw c d) = 3 := if_neg fun h => hn h.1
    rw [f1, f2, f3]
    clear f1 f2 f3 hn
    go_enter Try.func63, Try.ntmps63
    go_wp2_with ((go_at_call 80; refine (narrow_any _ _ _ (by assumption) (by assumption)).mono ?_; rintro e w' ⟨rfl, hb⟩; obtain ⟨hc, hf⟩ := bcell hb; have hz : w.heap.size + 2 < w'.heap.size := Nat.lt_of_lt_of_le (by first | omega | (simp; done) | (simp; omega)) hb.size; have hB := bnext (w := w) (by go_grown) hb; clear hb))
    exact bodyPost_ret (v := .tuple #[.agg #[.int .i64 0, .int .i64 0], .int .i64 3]) (by simp [results, Try.results63, go_sem, *]) rfl ⟨rfl, by go_grown⟩
end Go.Proofs.Ytioohmhllajifaa
