/- Walks of the wide numbers of ratio: minus, plus, isNegative, withSign, size, narrow. -/
import Derived.Test.YtioohmhllajifaaWa
import Derived.Test.YtioohmhllajifaaWm
import Derived.Shelf.Spec.BitsCarry
import Derived.Handy
namespace Go.Proofs.Ytioohmhllajifaa
open Go.RowKit Go.Lib

theorem retW_bool {a b : Bool} (h : a = b) : Ending.returned (.bool a) = .returned (.bool b) := by rw [h]
theorem ret_two {a b : Int} {c d : Int} (h : a = c) (h' : b = d) : Ending.returned (.agg #[.int .u64 a, .int .u64 b]) = .returned (.agg #[.int .u64 c, .int .u64 d]) := by rw [h, h']

theorem sub64_run (x y b : Nat) (hb : b ≤ 1) (w : World) : (callFunc 94 #[.int .u64 x, .int .u64 y, .int .u64 b]).run Try.prog w =
      .ok (.value (.tuple #[.int .u64 (((x + 18446744073709551616 - y - b) % 18446744073709551616 : Nat) : Int), .int .u64 ((if x < y + b then 1 else 0 : Nat) : Int)])) w := by
  rw [run_callFunc_extern Try.func94 (by kernel_rfl) (by kernel_rfl) (by kernel_rfl) (e := sub64Entry) (by kernel_rfl), run_sub64 x y b hb]
  rfl
def borrow (xl yl : Nat) : Nat := if xl < yl then 1 else 0
def borrow2 (xh yh c : Nat) : Nat := if xh < yh + c then 1 else 0
def carry (xl yl : Nat) : Nat := (xl + yl + 0) / 18446744073709551616
def carry2 (xh yh c : Nat) : Nat := (xh + yh + c) / 18446744073709551616
theorem borrow_le (xl yl : Nat) : borrow xl yl ≤ 1 := by unfold borrow; split <;> omega
theorem carry_le (xl yl : Nat) (h1 : xl < 18446744073709551616) (h2 : yl < 18446744073709551616) : carry xl yl ≤ 1 := by unfold carry; omega
theorem sub64_lo (xh xl yh yl : Nat) (h1 : xl < 18446744073709551616) (h2 : yl < 18446744073709551616) (w : World) : (callFunc 94 #[.int .u64 xl, .int .u64 yl, .int .u64 0]).run Try.prog w =
      .ok (.value (.tuple #[.int .u64 (loOf (uw xh xl - uw yh yl) : Nat), .int .u64 (borrow xl yl : Nat)])) w := by
  have := sub64_run xl yl 0 (by omega) w
  rw [sub_lo xh xl yh yl h1 h2] at this
  exact this
theorem sub64_hi (xh xl yh yl : Nat) (h3 : xh < 18446744073709551616) (h4 : yh < 18446744073709551616) (h1 : xl < 18446744073709551616) (h2 : yl < 18446744073709551616) (w : World) : (callFunc 94 #[.int .u64 xh, .int .u64 yh, .int .u64 (borrow xl yl : Nat)]).run Try.prog w =
      .ok (.value (.tuple #[.int .u64 (hiOf (uw xh xl - uw yh yl) : Nat), .int .u64 (borrow2 xh yh (borrow xl yl) : Nat)])) w := by
  rw [sub64_run xh yh _ (borrow_le _ _) w]
  have : (xh + 18446744073709551616 - yh - borrow xl yl) % 18446744073709551616 = hiOf (uw xh xl - uw yh yl) := by
    unfold borrow
    by_cases h : xl < yl
    · rw [if_pos h]; exact sub_hi_t xh xl yh yl h3 h4 h1 h2 h
    · rw [if_neg h]; exact sub_hi_f xh xl yh yl h3 h4 h1 h2 h
  rw [this]
  rfl

set_option maxHeartbeats 400000 in
theorem wminus_any (xh xl yh yl : Nat) (h3 : xh < 18446744073709551616) (h4 : yh < 18446744073709551616) (h1 : xl < 18446744073709551616) (h2 : yl < 18446744073709551616) (w : World) :
    Calls Try.prog 81 #[.agg #[.int .u64 xh, .int .u64 xl], .agg #[.int .u64 yh, .int .u64 yl]] w fun e w' =>
      e = .returned (.agg #[.int .u64 (hiOf (uw xh xl - uw yh yl) : Nat), .int .u64 (loOf (uw xh xl - uw yh yl) : Nat)]) ∧ Below w.heap.size w w' := by
  have hlo := fun w => sub64_lo xh xl yh yl h1 h2 w
  have hhi := fun w => sub64_hi xh xl yh yl h3 h4 h1 h2 w
  go_enter Try.func81, Try.ntmps81
  go_wp2
  exact bodyPost_ret (v := .agg #[.int .u64 (hiOf (uw xh xl - uw yh yl) : Nat), .int .u64 (loOf (uw xh xl - uw yh yl) : Nat)]) (by simp [results, Try.results81, go_sem]) rfl ⟨rfl, by go_grown⟩


theorem wrap_sw (h l : Nat) (h1 : h < 18446744073709551616) (h2 : l < 18446744073709551616) : decide (wrap64 (h : Int) < 0) = decide (sw h l < 0) := by
  rw [decide_eq_decide, sw_neg h l h1 h2]
  unfold wrap64; omega
set_option maxHeartbeats 400000 in
theorem isneg_any (h l : Nat) (w : World) (h1 : h < 18446744073709551616) (h2 : l < 18446744073709551616) :
    Calls Try.prog 93 #[.agg #[.int .u64 h, .int .u64 l]] w fun e w' => e = .returned (.bool (decide (sw h l < 0))) ∧ Below w.heap.size w w' := by
  go_enter Try.func93, Try.ntmps93
  go_wp2
  go_ret
  exact ⟨retW_bool (wrap_sw h l h1 h2), by go_grown⟩
set_option maxHeartbeats 400000 in
theorem sign_f (h l : Nat) (w : World) :
    Calls Try.prog 64 #[.agg #[.int .u64 h, .int .u64 l], .bool false] w fun e w' => e = .returned (.agg #[.int .u64 h, .int .u64 l]) ∧ Below w.heap.size w w' := by
  go_enter Try.func64, Try.ntmps64
  go_wp2
  exact bodyPost_ret (v := .agg #[.int .u64 h, .int .u64 l]) (by simp [results, Try.results64, go_sem]) rfl ⟨rfl, by go_grown⟩
theorem bcell {W w1 : World} (hb : Below W.heap.size W w1) : (∀ b o, b < W.heap.size → w1.cell? ⟨b, o, none⟩ = W.cell? ⟨b, o, none⟩) ∧ (∀ b o, b < W.heap.size → w1.frozen? ⟨b, o, none⟩ = W.frozen? ⟨b, o, none⟩) :=
  ⟨fun b o h => hb.cell (p := ⟨b, o, none⟩) h, fun b o h => hb.frozen (p := ⟨b, o, none⟩) h⟩
set_option maxHeartbeats 400000 in
theorem sign_t (h l : Nat) (w : World) (h1 : h < 18446744073709551616) (h2 : l < 18446744073709551616) :
    Calls Try.prog 64 #[.agg #[.int .u64 h, .int .u64 l], .bool true] w fun e w' => e = .returned (.agg #[.int .u64 (hiOf (- uw h l) : Nat), .int .u64 (loOf (- uw h l) : Nat)]) ∧ Below w.heap.size w w' := by
  have c41 := fun w => wminus_any 0 0 h l (by omega) h1 (by omega) h2 w
  rw [show uw 0 0 - uw h l = - uw h l by rw [uw_zero]; simp] at c41
  have C41 := Lib.hid c41; clear c41
  go_enter Try.func64, Try.ntmps64
  go_wp2_with (go_at_call 81; refine (C41.out _).mono ?_; rintro e w' ⟨rfl, hb⟩; obtain ⟨hc, hf⟩ := bcell hb; have hB : Below w.heap.size w w' := Below.trans (by go_grown) (hb.mono (by simp; omega)))
  exact bodyPost_ret (v := .agg #[.int .u64 (hiOf (- uw h l) : Nat), .int .u64 (loOf (- uw h l) : Nat)]) (by simp [results, Try.results64, go_sem, hc]) rfl ⟨rfl, by go_grown⟩
end Go.Proofs.Ytioohmhllajifaa
