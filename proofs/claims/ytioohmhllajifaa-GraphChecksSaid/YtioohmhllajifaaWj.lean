/-
  Joined texts: m, a, b, c, d, e.
-/
import Derived.Test.YtioohmhllajifaaRows
import Derived.WalkKit
import Derived.WalkSpells
import Derived.WalkLawsBesides
import Derived.Deep.QuietTactic
import Derived.BigQuiet
import Derived.Lib.Hide
import Derived.Laws.Externs
import Derived.Shelf.Spec.BitsCarry
import Derived.Handy
import Derived.Deep.RegionWith
import Derived.RegionTactic
import Derived.ChangeAlike
import Derived.Test.YtioohmhllajifaaQt
/- Plain mathematics of numbers of 128 bits in two words, and of fractions in lowest terms. -/
namespace Go.Proofs.Ytioohmhllajifaa
/-- what two words say, without a sign -/
def uw (h l : Nat) : Int := (h : Int) * 18446744073709551616 + (l : Int)
/-- what two words say in two's complement -/
def sw (h l : Nat) : Int := if h < 9223372036854775808 then uw h l else uw h l - 340282366920938463463374607431768211456
def hiOf (z : Int) : Nat := (z / 18446744073709551616 % 18446744073709551616).toNat
def loOf (z : Int) : Nat := (z % 18446744073709551616).toNat
theorem hi_lt (z : Int) : hiOf z < 18446744073709551616 := by unfold hiOf; omega
theorem lo_lt (z : Int) : loOf z < 18446744073709551616 := by unfold loOf; omega
theorem uw_hilo (z : Int) (h0 : 0 ≤ z) (h1 : z < 340282366920938463463374607431768211456) : uw (hiOf z) (loOf z) = z := by
  unfold uw hiOf loOf; omega
theorem sw_hilo (z : Int) (h0 : -170141183460469231731687303715884105728 ≤ z) (h1 : z < 170141183460469231731687303715884105728) : sw (hiOf z) (loOf z) = z := by
  unfold sw uw hiOf loOf; split <;> omega
theorem hi_uw (h l : Nat) (h1 : h < 18446744073709551616) (h2 : l < 18446744073709551616) : hiOf (uw h l) = h := by
  unfold uw hiOf; omega
theorem lo_uw (h l : Nat) (h2 : l < 18446744073709551616) : loOf (uw h l) = l := by
  unfold uw loOf; omega
theorem uw_zero (l : Nat) : uw 0 l = l := by unfold uw; omega
theorem sw_zero (l : Nat) : sw 0 l = l := by unfold sw uw; simp
theorem uw_nonneg (h l : Nat) : 0 ≤ uw h l := by unfold uw; omega
theorem uw_lt (h l : Nat) (h1 : h < 18446744073709551616) (h2 : l < 18446744073709551616) : uw h l < 340282366920938463463374607431768211456 := by unfold uw; omega
theorem sw_neg (h l : Nat) (h1 : h < 18446744073709551616) (h2 : l < 18446744073709551616) : sw h l < 0 ↔ 9223372036854775808 ≤ h := by
  unfold sw uw; split <;> omega
theorem sw_range (h l : Nat) (h1 : h < 18446744073709551616) (h2 : l < 18446744073709551616) :
    -170141183460469231731687303715884105728 ≤ sw h l ∧ sw h l < 170141183460469231731687303715884105728 := by
  unfold sw uw; split <;> omega
/-- the words of a difference, as Sub64 makes them -/
theorem sub_lo (xh xl yh yl : Nat) (h1 : xl < 18446744073709551616) (h2 : yl < 18446744073709551616) :
    (xl + 18446744073709551616 - yl - 0) % 18446744073709551616 = loOf (uw xh xl - uw yh yl) := by
  unfold uw loOf; omega
theorem sub_hi_t (xh xl yh yl : Nat) (h3 : xh < 18446744073709551616) (h4 : yh < 18446744073709551616) (h1 : xl < 18446744073709551616) (h2 : yl < 18446744073709551616) (h : xl < yl) :
    (xh + 18446744073709551616 - yh - 1) % 18446744073709551616 = hiOf (uw xh xl - uw yh yl) := by
  unfold uw hiOf; omega
theorem sub_hi_f (xh xl yh yl : Nat) (h3 : xh < 18446744073709551616) (h4 : yh < 18446744073709551616) (h1 : xl < 18446744073709551616) (h2 : yl < 18446744073709551616) (h : ¬ xl < yl) :
    (xh + 18446744073709551616 - yh - 0) % 18446744073709551616 = hiOf (uw xh xl - uw yh yl) := by
  unfold uw hiOf; omega
theorem add_lo (xh xl yh yl : Nat) :
    (xl + yl + 0) % 18446744073709551616 = loOf (uw xh xl + uw yh yl) := by
  unfold uw loOf; omega
theorem add_hi (xh xl yh yl : Nat) :
    (xh + yh + (xl + yl + 0) / 18446744073709551616) % 18446744073709551616 = hiOf (uw xh xl + uw yh yl) := by
  unfold uw hiOf; omega
end Go.Proofs.Ytioohmhllajifaa

/- Walks of the leaf functions of ratio and of the reference: magnitude, commonDivisor, size. -/
namespace Go.Proofs.Ytioohmhllajifaa
open Go.RowKit Go.Lib

theorem retW_int {k : IntKind} {a b : Int} (h : a = b) : Ending.returned (.int k a) = .returned (.int k b) := by rw [h]
theorem wrap_neg_u64 (a : Int) (h : a < 0) (h2 : -9223372036854775808 ≤ a) : IntKind.u64.wrap (-IntKind.u64.wrap a) = (a.natAbs : Int) := by
  simp only [IntKind.wrap_u64]; omega


set_option maxHeartbeats 400000 in
theorem mag_any (a : Int) (w : World) (h1 : -9223372036854775808 ≤ a) (h2 : a < 9223372036854775808) :
    Calls Try.prog 61 #[.int .i64 a] w fun e w' => e = .returned (.int .u64 (a.natAbs : Int)) ∧ w' = w := by
  by_cases h : 0 ≤ a
  · go_enter Try.func61, Try.ntmps61
    go_wp2
    go_ret
    exact ⟨retW_int (by omega), rfl⟩
  · have h : a < 0 := by omega
    go_enter Try.func61, Try.ntmps61
    go_wp2
    go_ret
    exact ⟨retW_int (wrap_neg_u64 a h h1), rfl⟩

set_option maxHeartbeats 400000 in
theorem cd_any (a b : Nat) (w : World) (ha : a < 18446744073709551616) (hb : b < 18446744073709551616) :
    Calls Try.prog 62 #[.int .u64 (a : Int), .int .u64 (b : Int)] w fun e w' => e = .returned (.int .u64 ((Nat.gcd a b : Nat) : Int)) ∧ ∃ n, w' = w.drewN n := by
  go_enter Try.func62, Try.ntmps62
  go_wp2
  go_loopw [0, 1] (fun x y wr => ∃ m n k : Nat, m < 18446744073709551616 ∧ n < 18446744073709551616 ∧ x = .int .u64 (m : Int) ∧ y = .int .u64 (n : Int) ∧ Nat.gcd m n = Nat.gcd a b ∧ wr = w.drewN k) (fun _ y _ => (intOf y).toNat)
  case atStart => exact ⟨a, b, 0, ha, hb, rfl, rfl, rfl, rfl⟩
  case round =>
    obtain ⟨m, n, k, hm, hn, rfl, rfl, hg, rfl⟩ := hrel
    have Hg := Lib.hid hg; clear hg
    by_cases h0 : n = 0
    · subst h0
      go_wp2
      go_ret
      exact ⟨retW_int (by rw [← Hg.out]; simp), k, rfl⟩
    · have h1 : 1 ≤ n := by omega
      go_wp2
      go_quiet (fail)
      go_wp2
      have hr : m % n < n := Nat.mod_lt _ h1
      have hc : ((m : Int) % (n : Int)) = ((m % n : Nat) : Int) := by omega
      rw [hc]
      go_roundw
      case rel => exact ⟨n, m % n, k + nq, hn, by omega, rfl, rfl, by rw [← Hg.out, Nat.gcd_comm n, ← Nat.gcd_rec, Nat.gcd_comm], by rw [World.drewN_drewN]⟩
      case measure => simp [intOf]; omega
end Go.Proofs.Ytioohmhllajifaa

/- Walks of the wide numbers of ratio: minus, plus, isNegative, withSign, size, narrow. -/
namespace Go.Proofs.Ytioohmhllajifaa
open Go.RowKit Go.Lib

theorem retW_bool {a b : Bool} (h : a = b) : Ending.returned (.bool a) = .returned (.bool b) := by rw [h]
theorem ret_two {a b : Int} {c d : Int} (h : a = c) (h' : b = d) : Ending.returned (.agg #[.int .u64 a, .int .u64 b]) = .returned (.agg #[.int .u64 c, .int .u64 d]) := by rw [h, h']

theorem sub64_run (x y b : Nat) (hb : b ≤ 1) (w : World) : (callFunc 94 #[.int .u64 x, .int .u64 y, .int .u64 b]).run Try.prog w =
      .ok (.value (.tuple #[.int .u64 (((x + 18446744073709551616 - y - b) % 18446744073709551616 : Nat) : Int), .int .u64 ((if x < y + b then 1 else 0 : Nat) : Int)])) w := by
  rw [run_callFunc_extern Try.func94 (by kernel_rfl) (by kernel_rfl) (by kernel_rfl) (e := sub64Entry) (by kernel_rfl), run_sub64 x y b hb]
  rfl
def borrow (xl yl : Nat) : Nat := if xl < yl then 1 else 0
def borrow2 (xh yh c : Nat) : Nat := if xh < yh + c then 1 else 0
def carry (xl yl : Nat) : Nat := (xl + yl + 0) / 18446744073709551616
def carry2 (xh yh c : Nat) : Nat := (xh + yh + c) / 18446744073709551616
theorem borrow_le (xl yl : Nat) : borrow xl yl ≤ 1 := by unfold borrow; split <;> omega
theorem carry_le (xl yl : Nat) (h1 : xl < 18446744073709551616) (h2 : yl < 18446744073709551616) : carry xl yl ≤ 1 := by unfold carry; omega
theorem sub64_lo (xh xl yh yl : Nat) (h1 : xl < 18446744073709551616) (h2 : yl < 18446744073709551616) (w : World) : (callFunc 94 #[.int .u64 xl, .int .u64 yl, .int .u64 0]).run Try.prog w =
      .ok (.value (.tuple #[.int .u64 (loOf (uw xh xl - uw yh yl) : Nat), .int .u64 (borrow xl yl : Nat)])) w := by
  have := sub64_run xl yl 0 (by omega) w
  rw [sub_lo xh xl yh yl h1 h2] at this
  exact this
theorem sub64_hi (xh xl yh yl : Nat) (h3 : xh < 18446744073709551616) (h4 : yh < 18446744073709551616) (h1 : xl < 18446744073709551616) (h2 : yl < 18446744073709551616) (w : World) : (callFunc 94 #[.int .u64 xh, .int .u64 yh, .int .u64 (borrow xl yl : Nat)]).run Try.prog w =
      .ok (.value (.tuple #[.int .u64 (hiOf (uw xh xl - uw yh yl) : Nat), .int .u64 (borrow2 xh yh (borrow xl yl) : Nat)])) w := by
  rw [sub64_run xh yh _ (borrow_le _ _) w]
  have : (xh + 18446744073709551616 - yh - borrow xl yl) % 18446744073709551616 = hiOf (uw xh xl - uw yh yl) := by
    unfold borrow
    by_cases h : xl < yl
    · rw [if_pos h]; exact sub_hi_t xh xl yh yl h3 h4 h1 h2 h
    · rw [if_neg h]; exact sub_hi_f xh xl yh yl h3 h4 h1 h2 h
  rw [this]
  rfl

set_option maxHeartbeats 400000 in
theorem wminus_any (xh xl yh yl : Nat) (h3 : xh < 18446744073709551616) (h4 : yh < 18446744073709551616) (h1 : xl < 18446744073709551616) (h2 : yl < 18446744073709551616) (w : World) :
    Calls Try.prog 81 #[.agg #[.int .u64 xh, .int .u64 xl], .agg #[.int .u64 yh, .int .u64 yl]] w fun e w' =>
      e = .returned (.agg #[.int .u64 (hiOf (uw xh xl - uw yh yl) : Nat), .int .u64 (loOf (uw xh xl - uw yh yl) : Nat)]) ∧ Below w.heap.size w w' := by
  have hlo := fun w => sub64_lo xh xl yh yl h1 h2 w
  have hhi := fun w => sub64_hi xh xl yh yl h3 h4 h1 h2 w
  go_enter Try.func81, Try.ntmps81
  go_wp2
  exact bodyPost_ret (v := .agg #[.int .u64 (hiOf (uw xh xl - uw yh yl) : Nat), .int .u64 (loOf (uw xh xl - uw yh yl) : Nat)]) (by simp [results, Try.results81, go_sem]) rfl ⟨rfl, by go_grown⟩


theorem wrap_sw (h l : Nat) (h1 : h < 18446744073709551616) (h2 : l < 18446744073709551616) : decide (wrap64 (h : Int) < 0) = decide (sw h l < 0) := by
  rw [decide_eq_decide, sw_neg h l h1 h2]
  unfold wrap64; omega
set_option maxHeartbeats 400000 in
theorem isneg_any (h l : Nat) (w : World) (h1 : h < 18446744073709551616) (h2 : l < 18446744073709551616) :
    Calls Try.prog 93 #[.agg #[.int .u64 h, .int .u64 l]] w fun e w' => e = .returned (.bool (decide (sw h l < 0))) ∧ Below w.heap.size w w' := by
  go_enter Try.func93, Try.ntmps93
  go_wp2
  go_ret
  exact ⟨retW_bool (wrap_sw h l h1 h2), by go_grown⟩
set_option maxHeartbeats 400000 in
theorem sign_f (h l : Nat) (w : World) :
    Calls Try.prog 64 #[.agg #[.int .u64 h, .int .u64 l], .bool false] w fun e w' => e = .returned (.agg #[.int .u64 h, .int .u64 l]) ∧ Below w.heap.size w w' := by
  go_enter Try.func64, Try.ntmps64
  go_wp2
  exact bodyPost_ret (v := .agg #[.int .u64 h, .int .u64 l]) (by simp [results, Try.results64, go_sem]) rfl ⟨rfl, by go_grown⟩
theorem bcell {W w1 : World} (hb : Below W.heap.size W w1) : (∀ b o, b < W.heap.size → w1.cell? ⟨b, o, none⟩ = W.cell? ⟨b, o, none⟩) ∧ (∀ b o, b < W.heap.size → w1.frozen? ⟨b, o, none⟩ = W.frozen? ⟨b, o, none⟩) :=
  ⟨fun b o h => hb.cell (p := ⟨b, o, none⟩) h, fun b o h => hb.frozen (p := ⟨b, o, none⟩) h⟩
set_option maxHeartbeats 400000 in
theorem sign_t (h l : Nat) (w : World) (h1 : h < 18446744073709551616) (h2 : l < 18446744073709551616) :
    Calls Try.prog 64 #[.agg #[.int .u64 h, .int .u64 l], .bool true] w fun e w' => e = .returned (.agg #[.int .u64 (hiOf (- uw h l) : Nat), .int .u64 (loOf (- uw h l) : Nat)]) ∧ Below w.heap.size w w' := by
  have c41 := fun w => wminus_any 0 0 h l (by omega) h1 (by omega) h2 w
  rw [show uw 0 0 - uw h l = - uw h l by rw [uw_zero]; simp] at c41
  have C41 := Lib.hid c41; clear c41
  go_enter Try.func64, Try.ntmps64
  go_wp2_with (go_at_call 81; refine (C41.out _).mono ?_; rintro e w' ⟨rfl, hb⟩; obtain ⟨hc, hf⟩ := bcell hb; have hB : Below w.heap.size w w' := Below.trans (by go_grown) (hb.mono (by simp; omega)))
  exact bodyPost_ret (v := .agg #[.int .u64 (hiOf (- uw h l) : Nat), .int .u64 (loOf (- uw h l) : Nat)]) (by simp [results, Try.results64, go_sem, hc]) rfl ⟨rfl, by go_grown⟩
end Go.Proofs.Ytioohmhllajifaa

/- Walks of the wide numbers of ratio: size, narrow, narrowed. -/
namespace Go.Proofs.Ytioohmhllajifaa
open Go.RowKit Go.Lib

theorem hi_neg (h l : Nat) (h1 : h < 18446744073709551616) (h2 : l < 18446744073709551616) (hs : sw h l < 0) : hiOf (- uw h l) = hiOf ((sw h l).natAbs : Int) := by
  have := (sw_neg h l h1 h2).1 hs
  unfold sw uw hiOf at *; split <;> omega
theorem lo_neg (h l : Nat) (h1 : h < 18446744073709551616) (h2 : l < 18446744073709551616) (hs : sw h l < 0) : loOf (- uw h l) = loOf ((sw h l).natAbs : Int) := by
  have := (sw_neg h l h1 h2).1 hs
  unfold sw uw loOf at *; split <;> omega
theorem hi_pos (h l : Nat) (h1 : h < 18446744073709551616) (h2 : l < 18446744073709551616) (hs : ¬ sw h l < 0) : h = hiOf ((sw h l).natAbs : Int) := by
  have := mt (sw_neg h l h1 h2).2 hs
  unfold sw uw hiOf at *; split <;> omega
theorem lo_pos (h l : Nat) (h1 : h < 18446744073709551616) (h2 : l < 18446744073709551616) (hs : ¬ sw h l < 0) : l = loOf ((sw h l).natAbs : Int) := by
  have := mt (sw_neg h l h1 h2).2 hs
  unfold sw uw loOf at *; split <;> omega

theorem bnext {w v w' : World} (h : Below w.heap.size w v) (hb : Below v.heap.size v w') : Below w.heap.size w w' := h.trans (hb.mono h.size)
set_option maxHeartbeats 400000 in
theorem size54_any (h l : Nat) (w : World) (h1 : h < 18446744073709551616) (h2 : l < 18446744073709551616) :
    Calls Try.prog 92 #[.agg #[.int .u64 h, .int .u64 l]] w fun e w' =>
      e = .returned (.agg #[.int .u64 (hiOf ((sw h l).natAbs : Int) : Nat), .int .u64 (loOf ((sw h l).natAbs : Int) : Nat)]) ∧ Below w.heap.size w w' := by
  by_cases hs : sw h l < 0
  · have c53 := fun w => isneg_any h l w h1 h2
    rw [show decide (sw h l < 0) = true by simpa using hs] at c53
    have C53 := Lib.hid c53; clear c53
    have c31 := fun w => sign_t h l w h1 h2
    rw [hi_neg h l h1 h2 hs, lo_neg h l h1 h2 hs] at c31
    have C31 := Lib.hid c31; clear c31 hs
    go_enter Try.func92, Try.ntmps92
    go_wp2
    go_region_with (first
      | (go_at_call 93; refine (C53.out _).mono ?_; rintro e w' ⟨rfl, hb⟩; obtain ⟨hc, hf⟩ := bcell hb; have hB := bnext (w := w) (by go_grown) hb; have hz : w.heap.size + 1 < w'.heap.size := Nat.lt_of_lt_of_le (by first | omega | (simp; done) | (simp; omega)) hb.size; clear hb)
      | (go_at_call 64; refine (C31.out _).mono ?_; rintro e w' ⟨rfl, hb⟩; obtain ⟨hc, hf⟩ := bcell hb; have hB := bnext (w := w) (by go_grown) hb; have hz : w.heap.size + 1 < w'.heap.size := Nat.lt_of_lt_of_le (by first | omega | (simp; done) | (simp; omega)) hb.size; clear hb))
    all_goals
      go_wp2
      exact bodyPost_ret (v := .agg #[.int .u64 (hiOf ((sw h l).natAbs : Int) : Nat), .int .u64 (loOf ((sw h l).natAbs : Int) : Nat)]) (by simp [results, Try.results92, go_sem, *]) rfl ⟨rfl, by go_grown⟩
  · have c53 := fun w => isneg_any h l w h1 h2
    rw [show decide (sw h l < 0) = false by simpa using hs] at c53
    have C53 := Lib.hid c53; clear c53
    have c31 : ∀ w, Calls Try.prog 64 #[.agg #[.int .u64 h, .int .u64 l], .bool false] w fun e w' => e = .returned (.agg #[.int .u64 (hiOf ((sw h l).natAbs : Int) : Nat), .int .u64 (loOf ((sw h l).natAbs : Int) : Nat)]) ∧ Below w.heap.size w w' := by
      have := fun w => sign_f h l w
      rw [← hi_pos h l h1 h2 hs, ← lo_pos h l h1 h2 hs]; exact this
    have C31 := Lib.hid c31; clear c31 hs
    go_enter Try.func92, Try.ntmps92
    go_wp2
    go_region_with (first
      | (go_at_call 93; refine (C53.out _).mono ?_; rintro e w' ⟨rfl, hb⟩; obtain ⟨hc, hf⟩ := bcell hb; have hB := bnext (w := w) (by go_grown) hb; have hz : w.heap.size + 1 < w'.heap.size := Nat.lt_of_lt_of_le (by first | omega | (simp; done) | (simp; omega)) hb.size; clear hb)
      | (go_at_call 64; refine (C31.out _).mono ?_; rintro e w' ⟨rfl, hb⟩; obtain ⟨hc, hf⟩ := bcell hb; have hB := bnext (w := w) (by go_grown) hb; have hz : w.heap.size + 1 < w'.heap.size := Nat.lt_of_lt_of_le (by first | omega | (simp; done) | (simp; omega)) hb.size; clear hb))
    all_goals
      go_wp2
      exact bodyPost_ret (v := .agg #[.int .u64 (hiOf ((sw h l).natAbs : Int) : Nat), .int .u64 (loOf ((sw h l).natAbs : Int) : Nat)]) (by simp [results, Try.results92, go_sem, *]) rfl ⟨rfl, by go_grown⟩

end Go.Proofs.Ytioohmhllajifaa

/- Walks of the wide numbers of ratio: narrow, narrowed. -/
namespace Go.Proofs.Ytioohmhllajifaa
open Go.RowKit Go.Lib
theorem hi_small (n : Nat) (h : n ≤ 1152921504606846976) : hiOf (n : Int) = 0 := by unfold hiOf; omega
theorem lo_small (n : Nat) (h : n ≤ 1152921504606846976) : loOf (n : Int) = n := by unfold loOf; omega
theorem ret_ib {a b : Int} {c : Bool} (h : a = b) : Ending.returned (.tuple #[.int .i64 a, .bool c]) = .returned (.tuple #[.int .i64 b, .bool c]) := by rw [h]
set_option maxHeartbeats 400000 in
theorem narrow_ok (h l : Nat) (w : World) (h1 : h < 18446744073709551616) (h2 : l < 18446744073709551616) (hs : (sw h l).natAbs ≤ 1152921504606846976) :
    Calls Try.prog 80 #[.agg #[.int .u64 h, .int .u64 l]] w fun e w' => e = .returned (.tuple #[.int .i64 (sw h l), .bool true]) ∧ Below w.heap.size w w' := by
  have c54 := fun w => size54_any h l w h1 h2
  rw [hi_small _ hs, lo_small _ hs] at c54
  have C54 := Lib.hid c54; clear c54
  have c53 := fun w => isneg_any h l w h1 h2
  by_cases hn : sw h l < 0
  · rw [show decide (sw h l < 0) = true by simpa using hn] at c53
    have C53 := Lib.hid c53; clear c53
    obtain ⟨n, hn2⟩ : ∃ n : Nat, n = (sw h l).natAbs := ⟨_, rfl⟩
    rw [← hn2] at C54 hs
    have e1 : sw h l = - (n : Int) := by omega
    have E1 := Lib.hid e1
    have hn3 : 1 ≤ n := by omega
    clear e1 hn2 hn
    go_enter Try.func80, Try.ntmps80
    go_wp2_with (first
      | (go_at_call 93; refine (C53.out _).mono ?_; rintro e w' ⟨rfl, hb⟩; obtain ⟨hc, hf⟩ := bcell hb; have hz : w.heap.size < w'.heap.size := Nat.lt_of_lt_of_le (by first | omega | (simp; done) | (simp; omega)) hb.size; have hB := bnext (w := w) (by go_grown) hb; clear hb)
      | (go_at_call 92; refine (C54.out _).mono ?_; rintro e w' ⟨rfl, hb⟩; obtain ⟨hc, hf⟩ := bcell hb; have hz : w.heap.size < w'.heap.size := Nat.lt_of_lt_of_le (by first | omega | (simp; done) | (simp; omega)) hb.size; have hB := bnext (w := w) (by go_grown) hb; clear hb))
    go_ret2
    exact ⟨ret_ib (by rw [E1.out]), by go_grown⟩
  · rw [show decide (sw h l < 0) = false by simpa using hn] at c53
    have C53 := Lib.hid c53; clear c53
    obtain ⟨n, hn2⟩ : ∃ n : Nat, n = (sw h l).natAbs := ⟨_, rfl⟩
    rw [← hn2] at C54 hs
    have e1 : sw h l = (n : Int) := by omega
    have E1 := Lib.hid e1
    clear e1 hn2 hn
    go_enter Try.func80, Try.ntmps80
    go_wp2_with (first
      | (go_at_call 93; refine (C53.out _).mono ?_; rintro e w' ⟨rfl, hb⟩; obtain ⟨hc, hf⟩ := bcell hb; have hz : w.heap.size < w'.heap.size := Nat.lt_of_lt_of_le (by first | omega | (simp; done) | (simp; omega)) hb.size; have hB := bnext (w := w) (by go_grown) hb; clear hb)
      | (go_at_call 92; refine (C54.out _).mono ?_; rintro e w' ⟨rfl, hb⟩; obtain ⟨hc, hf⟩ := bcell hb; have hz : w.heap.size < w'.heap.size := Nat.lt_of_lt_of_le (by first | omega | (simp; done) | (simp; omega)) hb.size; have hB := bnext (w := w) (by go_grown) hb; clear hb))
    go_ret2
    exact ⟨ret_ib (by rw [E1.out]), by go_grown⟩

def nar (z : Int) : Int := if z.natAbs ≤ 1152921504606846976 then z else 0
def narOk (z : Int) : Bool := decide (z.natAbs ≤ 1152921504606846976)
theorem big_words (n : Nat) (h : 1152921504606846976 < n) (h2 : n < 340282366920938463463374607431768211456) : hiOf (n : Int) ≠ 0 ∨ 1152921504606846976 < loOf (n : Int) := by unfold hiOf loOf; omega
set_option maxHeartbeats 400000 in
theorem narrow_no (h l : Nat) (w : World) (h1 : h < 18446744073709551616) (h2 : l < 18446744073709551616) (hs : 1152921504606846976 < (sw h l).natAbs) :
    Calls Try.prog 80 #[.agg #[.int .u64 h, .int .u64 l]] w fun e w' => e = .returned (.tuple #[.int .i64 0, .bool false]) ∧ Below w.heap.size w w' := by
  have c54 := fun w => size54_any h l w h1 h2
  have hb := big_words _ hs (by have := sw_range h l h1 h2; omega)
  have k1 := hi_lt ((sw h l).natAbs : Int)
  have k2 := lo_lt ((sw h l).natAbs : Int)
  generalize hiOf ((sw h l).natAbs : Int) = p at *
  generalize loOf ((sw h l).natAbs : Int) = q at *
  have C54 := Lib.hid c54; clear c54 hs
  by_cases hp : p = 0
  · subst hp
    have hq : 1152921504606846976 < q := by omega
    clear hb
    go_enter Try.func80, Try.ntmps80
    go_wp2_with ((go_at_call 92; refine (C54.out _).mono ?_; rintro e w' ⟨rfl, hb⟩; obtain ⟨hc, hf⟩ := bcell hb; have hz : w.heap.size + 0 < w'.heap.size := Nat.lt_of_lt_of_le (by first | omega | (simp; done) | (simp; omega)) hb.size; have hB := bnext (w := w) (by go_grown) hb; clear hb))
    go_ret2
    exact ⟨rfl, by go_grown⟩
  · have hp : 1 ≤ p := by omega
    clear hb
    go_enter Try.func80, Try.ntmps80
    go_wp2_with ((go_at_call 92; refine (C54.out _).mono ?_; rintro e w' ⟨rfl, hb⟩; obtain ⟨hc, hf⟩ := bcell hb; have hz : w.heap.size + 0 < w'.heap.size := Nat.lt_of_lt_of_le (by first | omega | (simp; done) | (simp; omega)) hb.size; have hB := bnext (w := w) (by go_grown) hb; clear hb))
    go_ret2
    exact ⟨rfl, by go_grown⟩
theorem narrow_any (h l : Nat) (w : World) (h1 : h < 18446744073709551616) (h2 : l < 18446744073709551616) :
    Calls Try.prog 80 #[.agg #[.int .u64 h, .int .u64 l]] w fun e w' => e = .returned (.tuple #[.int .i64 (nar (sw h l)), .bool (narOk (sw h l))]) ∧ Below w.heap.size w w' := by
  by_cases hs : (sw h l).natAbs ≤ 1152921504606846976
  · simp only [nar, narOk, if_pos hs, decide_eq_true hs]; exact narrow_ok h l w h1 h2 hs
  · simp only [nar, narOk, if_neg hs, decide_eq_false hs]; exact narrow_no h l w h1 h2 (by omega)

/-- a fraction of two numbers in lowest terms, or ErrLimit -/
def nrN (n d : Int) : Int := if n.natAbs ≤ 1152921504606846976 ∧ d.natAbs ≤ 1152921504606846976 then n else 0
def nrD (n d : Int) : Int := if n.natAbs ≤ 1152921504606846976 ∧ d.natAbs ≤ 1152921504606846976 then d else 0
def nrE (n d : Int) : Int := if n.natAbs ≤ 1152921504606846976 ∧ d.natAbs ≤ 1152921504606846976 then 0 else 3
set_option maxHeartbeats 400000 in
theorem narrowed_any (a b c d : Nat) (w : World) (h1 : a < 18446744073709551616) (h2 : b < 18446744073709551616) (h3 : c < 18446744073709551616) (h4 : d < 18446744073709551616) :
    Calls Try.prog 63 #[.agg #[.int .u64 a, .int .u64 b], .agg #[.int .u64 c, .int .u64 d]] w fun e w' =>
      e = .returned (.tuple #[.agg #[.int .i64 (nrN (sw a b) (sw c d)), .int .i64 (nrD (sw a b) (sw c d))], .int .i64 (nrE (sw a b) (sw c d))]) ∧ Below w.heap.size w w' := by
  by_cases hn : (sw a b).natAbs ≤ 1152921504606846976
  · by_cases hd : (sw c d).natAbs ≤ 1152921504606846976
    · have e1 : nar (sw a b) = sw a b := if_pos hn
      have e2 : nar (sw c d) = sw c d := if_pos hd
      have e3 : narOk (sw a b) = true := decide_eq_true hn
      have e4 : narOk (sw c d) = true := decide_eq_true hd
      have f1 : nrN (sw a b) (sw c d) = sw a b := if_pos ⟨hn, hd⟩
      have f2 : nrD (sw a b) (sw c d) = sw c d := if_pos ⟨hn, hd⟩
      have f3 : nrE (sw a b) (sw c d) = 0 := if_pos ⟨hn, hd⟩
      rw [f1, f2, f3]
      clear f1 f2 f3 hn hd
      go_enter Try.func63, Try.ntmps63
      go_wp2_with ((go_at_call 80; refine (narrow_any _ _ _ (by assumption) (by assumption)).mono ?_; rintro e w' ⟨rfl, hb⟩; obtain ⟨hc, hf⟩ := bcell hb; have hz : w.heap.size + 2 < w'.heap.size := Nat.lt_of_lt_of_le (by first | omega | (simp; done) | (simp; omega)) hb.size; have hB := bnext (w := w) (by go_grown) hb; clear hb))
      exact bodyPost_ret (v := .tuple #[.agg #[.int .i64 (sw a b), .int .i64 (sw c d)], .int .i64 0]) (by simp [results, Try.results63, go_sem, *]) rfl ⟨rfl, by go_grown⟩
    · have e3 : narOk (sw a b) = true := decide_eq_true hn
      have e4 : narOk (sw c d) = false := decide_eq_false hd
      have f1 : nrN (sw a b) (sw c d) = 0 := if_neg fun h => hd h.2
      have f2 : nrD (sw a b) (sw c d) = 0 := if_neg fun h => hd h.2
      have f3 : nrE (sw a b) (sw c d) = 3 := if_neg fun h => hd h.2
      rw [f1, f2, f3]
      clear f1 f2 f3 hn hd
      go_enter Try.func63, Try.ntmps63
      go_wp2_with ((go_at_call 80; refine (narrow_any _ _ _ (by assumption) (by assumption)).mono ?_; rintro e w' ⟨rfl, hb⟩; obtain ⟨hc, hf⟩ := bcell hb; have hz : w.heap.size + 2 < w'.heap.size := Nat.lt_of_lt_of_le (by first | omega | (simp; done) | (simp; omega)) hb.size; have hB := bnext (w := w) (by go_grown) hb; clear hb))
      exact bodyPost_ret (v := .tuple #[.agg #[.int .i64 0, .int .i64 0], .int .i64 3]) (by simp [results, Try.results63, go_sem, *]) rfl ⟨rfl, by go_grown⟩
  · have e3 : narOk (sw a b) = false := decide_eq_false hn
    have f1 : nrN (sw a b) (sw c d) = 0 := if_neg fun h => hn h.1
    have f2 : nrD (sw a b) (sw c d) = 0 := if_neg fun h => hn h.1
    have f3 : nrE (sw a b) (sw c d) = 3 := if_neg fun h => hn h.1
    rw [f1, f2, f3]
    clear f1 f2 f3 hn
    go_enter Try.func63, Try.ntmps63
    go_wp2_with ((go_at_call 80; refine (narrow_any _ _ _ (by assumption) (by assumption)).mono ?_; rintro e w' ⟨rfl, hb⟩; obtain ⟨hc, hf⟩ := bcell hb; have hz : w.heap.size + 2 < w'.heap.size := Nat.lt_of_lt_of_le (by first | omega | (simp; done) | (simp; omega)) hb.size; have hB := bnext (w := w) (by go_grown) hb; clear hb))
    exact bodyPost_ret (v := .tuple #[.agg #[.int .i64 0, .int .i64 0], .int .i64 3]) (by simp [results, Try.results63, go_sem, *]) rfl ⟨rfl, by go_grown⟩
end Go.Proofs.Ytioohmhllajifaa

/- Walks of ratio.Make. -/
namespace Go.Proofs.Ytioohmhllajifaa
open Go.RowKit Go.Lib Go.BigFrame
def quoN (a b : Nat) : Nat := a / Nat.gcd a b
def quoD (a b : Nat) : Nat := b / Nat.gcd a b
theorem quo_i (a b : Nat) : ((a : Int) / ((Nat.gcd a b : Nat) : Int)) = ((quoN a b : Nat) : Int) := by unfold quoN; omega
theorem quo_d (a b : Nat) : ((b : Int) / ((Nat.gcd a b : Nat) : Int)) = ((quoD a b : Nat) : Int) := by unfold quoD; omega
theorem quoN_le (a b : Nat) : quoN a b ≤ a := Nat.div_le_self _ _
theorem quoD_le (a b : Nat) : quoD a b ≤ b := Nat.div_le_self _ _
theorem sw_neg_small (q : Nat) (h : q ≤ 9223372036854775808) : sw (hiOf (- uw 0 q)) (loOf (- uw 0 q)) = - (q : Int) := by
  rw [uw_zero]; exact sw_hilo _ (by omega) (by omega)
set_option maxHeartbeats 400000 in
theorem make_zero (a : Int) (w : World) :
    Calls Try.prog 50 #[.int .i64 a, .int .i64 0] w fun e w' => e = .returned (.tuple #[.agg #[.int .i64 0, .int .i64 0], .int .i64 2]) ∧ Below w.heap.size w w' := by
  go_enter Try.func50, Try.ntmps50
  go_wp2
  exact bodyPost_ret (v := .tuple #[.agg #[.int .i64 0, .int .i64 0], .int .i64 2]) (by simp [results, Try.results50, go_sem, *]) rfl ⟨rfl, by go_grown⟩
theorem below_drewW {B : Nat} {a w : World} (h : Below B a w) (n : Nat) : Below B a (w.drewN n) := ⟨h.os, h.tape, h.output, h.size, h.block⟩
/-- the numerator with its sign -/
def sgn (s : Bool) (p : Nat) : Int := if s then - (p : Int) else p
set_option maxHeartbeats 1000000 in
theorem make_nz (a b : Int) (w : World) (ha1 : -9223372036854775808 ≤ a) (ha2 : a < 9223372036854775808) (hb1 : -9223372036854775808 ≤ b) (hb2 : b < 9223372036854775808) (h2 : b ≠ 0) (s : Bool) (hs : (decide (a < 0) == decide (b < 0)) = !s) :
    Calls Try.prog 50 #[.int .i64 a, .int .i64 b] w fun e w' =>
      e = .returned (.tuple #[.agg #[.int .i64 (nrN (sgn s (quoN a.natAbs b.natAbs)) (quoD a.natAbs b.natAbs)), .int .i64 (nrD (sgn s (quoN a.natAbs b.natAbs)) (quoD a.natAbs b.natAbs))], .int .i64 (nrE (sgn s (quoN a.natAbs b.natAbs)) (quoD a.natAbs b.natAbs))]) ∧ Below w.heap.size w w' := by
  have cA := fun w => mag_any a w ha1 ha2
  have cB := fun w => mag_any b w hb1 hb2
  have hp : 1 ≤ b.natAbs := by omega
  have hx : a.natAbs ≤ 9223372036854775808 := by omega
  have hy : b.natAbs ≤ 9223372036854775808 := by omega
  have hb0 : (b == 0) = false := by simpa using h2
  clear h2
  generalize hxa : a.natAbs = x at *
  generalize hyb : b.natAbs = y at *
  have cG := fun w => cd_any x y w (by omega) (by omega)
  have hg : 1 ≤ Nat.gcd x y := Nat.gcd_pos_of_pos_right _ hp
  have hg2 : Nat.gcd x y ≤ y := Nat.gcd_le_right _ hp
  have q1 := quo_i x y; have q2 := quo_d x y
  have l1 := quoN_le x y; have l2 := quoD_le x y
  obtain ⟨h, l, hh, hl, hw, c31⟩ : ∃ h l : Nat, h < 18446744073709551616 ∧ l < 18446744073709551616 ∧ sw h l = sgn s (quoN x y) ∧ ∀ w, Calls Try.prog 64 #[.agg #[.int .u64 0, .int .u64 (quoN x y : Nat)], .bool s] w fun e w' => e = .returned (.agg #[.int .u64 h, .int .u64 l]) ∧ Below w.heap.size w w' := by
    cases s
    · exact ⟨0, quoN x y, by omega, by omega, sw_zero _, fun w => sign_f 0 (quoN x y) w⟩
    · exact ⟨_, _, hi_lt _, lo_lt _, sw_neg_small _ (by omega), fun w => sign_t 0 (quoN x y) w (by omega) (by omega)⟩
  have c30 := fun w => narrowed_any h l 0 (quoD x y) w hh hl (by omega) (by omega)
  rw [hw, sw_zero] at c30
  have H := Lib.hid (And.intro hxa hyb); clear hxa hyb hw
  have CA := Lib.hid cA; clear cA
  have CB := Lib.hid cB; clear cB
  have CG := Lib.hid cG; clear cG
  have C31 := Lib.hid c31; clear c31
  have C30 := Lib.hid c30; clear c30
  have Q1 := Lib.hid q1; have Q2 := Lib.hid q2; clear q1 q2
  generalize nrN (sgn s (quoN x y)) (quoD x y) = r1 at *
  generalize nrD (sgn s (quoN x y)) (quoD x y) = r2 at *
  generalize nrE (sgn s (quoN x y)) (quoD x y) = r3 at *
  generalize quoN x y = p at *
  generalize quoD x y = r at *
  generalize Nat.gcd x y = g at *
  go_enter Try.func50, Try.ntmps50
  go_wp2_with fail
  refine (CA.out _).mono ?_
  rintro e w' ⟨rfl, rfl⟩
  go_wp2_with fail
  refine (CB.out _).mono ?_
  rintro e w' ⟨rfl, rfl⟩
  go_wp2_with fail
  refine (CG.out _).mono ?_
  rintro e w' ⟨rfl, n, rfl⟩
  go_wp2_with fail
  clear hs hb0 hh hl ha1 ha2 hb1 hb2
  refine wp_region_over_tail 13 (by kernel_rfl) (by kernel_rfl) ?_
  simp only [List.take_succ_cons, List.take_zero, List.drop_succ_cons, List.drop_zero]
  have q1 := Q1.out; have q2 := Q2.out
  repeat (go_big_quiet_step (first | (go_at_call 64; exact calls_over (C31.out _)) | (go_at_call 63; exact calls_over (C30.out _))))
  refine wpQuiet_nil ?_
  rintro _ ⟨x, rfl⟩
  have hB := bnext (w := w) (below_drewW (by go_grown) n) (over_below _ x)
  have hz : w.heap.size < (over _ x).heap.size := Nat.lt_of_lt_of_le (by simp) (over_size _ x)
  go_wp2
  exact bodyPost_ret (v := .tuple #[.agg #[.int .i64 r1, .int .i64 r2], .int .i64 r3]) (by simp [results, Try.results50, go_sem, *]) rfl ⟨rfl, by go_grown⟩
end Go.Proofs.Ytioohmhllajifaa
