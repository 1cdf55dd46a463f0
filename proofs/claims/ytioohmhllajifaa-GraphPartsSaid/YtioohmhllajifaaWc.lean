/- Walks of the wide numbers of ratio: size, narrow, narrowed. -/
import Derived.Test.YtioohmhllajifaaWb
import Derived.Deep.RegionWith
import Derived.RegionTactic
import Derived.ChangeAlike
namespace Go.Proofs.Ytioohmhllajifaa
open Go.RowKit Go.Lib

theorem hi_neg (h l : Nat) (h1 : h < 18446744073709551616) (h2 : l < 18446744073709551616) (hs : sw h l < 0) : hiOf (- uw h l) = hiOf ((sw h l).natAbs : Int) := by
  have := (sw_neg h l h1 h2).1 hs
  unfold sw uw hiOf at *; split <;> omega
theorem lo_neg (h l : Nat) (h1 : h < 18446744073709551616) (h2 : l < 18446744073709551616) (hs : sw h l < 0) : loOf (- uw h l) = loOf ((sw h l).natAbs : Int) := by
  have := (sw_neg h l h1 h2).1 hs
  unfold sw uw loOf at *; split <;> omega
theorem hi_pos (h l : Nat) (h1 : h < 18446744073709551616) (h2 : l < 18446744073709551616) (hs : ¬ sw h l < 0) : h = hiOf ((sw h l).natAbs : Int) := by
  have := mt (sw_neg h l h1 h2).2 hs
  unfold sw uw hiOf at *; split <;> omega
theorem lo_pos (h l : Nat) (h1 : h < 18446744073709551616) (h2 : l < 18446744073709551616) (hs : ¬ sw h l < 0) : l = loOf ((sw h l).natAbs : Int) := by
  have := mt (sw_neg h l h1 h2).2 hs
  unfold sw uw loOf at *; split <;> omega

theorem bnext {w v w' : World} (h : Below w.heap.size w v) (hb : Below v.heap.size v w') : Below w.heap.size w w' := h.trans (hb.mono h.size)
set_option maxHeartbeats 400000 in
theorem size54_any (h l : Nat) (w : World) (h1 : h < 18446744073709551616) (h2 : l < 18446744073709551616) :
    Calls Try.prog 92 #[.agg #[.int .u64 h, .int .u64 l]] w fun e w' =>
      e = .returned (.agg #[.int .u64 (hiOf ((sw h l).natAbs : Int) : Nat), .int .u64 (loOf ((sw h l).natAbs : Int) : Nat)]) ∧ Below w.heap.size w w' := by
  by_cases hs : sw h l < 0
  · have c53 := fun w => isneg_any h l w h1 h2
    rw [show decide (sw h l < 0) = true by simpa using hs] at c53
    have C53 := Lib.hid c53; clear c53
    have c31 := fun w => sign_t h l w h1 h2
    rw [hi_neg h l h1 h2 hs, lo_neg h l h1 h2 hs] at c31
    have C31 := Lib.hid c31; clear c31 hs
    go_enter Try.func92, Try.ntmps92
    go_wp2
    go_region_with (first
      | (go_at_call 93; refine (C53.out _).mono ?_; rintro e w' ⟨rfl, hb⟩; obtain ⟨hc, hf⟩ := bcell hb; have hB := bnext (w := w) (by go_grown) hb; have hz : w.heap.size + 1 < w'.heap.size := Nat.lt_of_lt_of_le (by first | omega | (simp; done) | (simp; omega)) hb.size; clear hb)
      | (go_at_call 64; refine (C31.out _).mono ?_; rintro e w' ⟨rfl, hb⟩; obtain ⟨hc, hf⟩ := bcell hb; have hB := bnext (w := w) (by go_grown) hb; have hz : w.heap.size + 1 < w'.heap.size := Nat.lt_of_lt_of_le (by first | omega | (simp; done) | (simp; omega)) hb.size; clear hb))
    all_goals
      go_wp2
      exact bodyPost_ret (v := .agg #[.int .u64 (hiOf ((sw h l).natAbs : Int) : Nat), .int .u64 (loOf ((sw h l).natAbs : Int) : Nat)]) (by simp [results, Try.results92, go_sem, *]) rfl ⟨rfl, by go_grown⟩
  · have c53 := fun w => isneg_any h l w h1 h2
    rw [show decide (sw h l < 0) = false by simpa using hs] at c53
    have C53 := Lib.hid c53; clear c53
    have c31 : ∀ w, Calls Try.prog 64 #[.agg #[.int .u64 h, .int .u64 l], .bool false] w fun e w' => e = .returned (.agg #[.int .u64 (hiOf ((sw h l).natAbs : Int) : Nat), .int .u64 (loOf ((sw h l).natAbs : Int) : Nat)]) ∧ Below w.heap.size w w' := by
      have := fun w => sign_f h l w
      rw [← hi_pos h l h1 h2 hs, ← lo_pos h l h1 h2 hs]; exact this
    have C31 := Lib.hid c31; clear c31 hs
    go_enter Try.func92, Try.ntmps92
    go_wp2
    go_region_with (first
      | (go_at_call 93; refine (C53.out _).mono ?_; rintro e w' ⟨rfl, hb⟩; obtain ⟨hc, hf⟩ := bcell hb; have hB := bnext (w := w) (by go_grown) hb; have hz : w.heap.size + 1 < w'.heap.size := Nat.lt_of_lt_of_le (by first | omega | (simp; done) | (simp; omega)) hb.size; clear hb)
      | (go_at_call 64; refine (C31.out _).mono ?_; rintro e w' ⟨rfl, hb⟩; obtain ⟨hc, hf⟩ := bcell hb; have hB := bnext (w := w) (by go_grown) hb; have hz : w.heap.size + 1 < w'.heap.size := Nat.lt_of_lt_of_le (by first | omega | (simp; done) | (simp; omega)) hb.size; clear hb))
    all_goals
      go_wp2
      exact bodyPost_ret (v := .agg #[.int .u64 (hiOf ((sw h l).natAbs : Int) : Nat), .int .u64 (loOf ((sw h l).natAbs : Int) : Nat)]) (by simp [results, Try.results92, go_sem, *]) rfl ⟨rfl, by go_grown⟩

end Go.Proofs.Ytioohmhllajifaa
