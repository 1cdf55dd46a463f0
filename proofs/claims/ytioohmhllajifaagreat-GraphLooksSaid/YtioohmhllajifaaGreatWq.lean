/-
  Joined texts: m, a, b, c, d, e, f, g, h, i, j, k, l.
-/
import Derived.Test.YtioohmhllajifaaGreatRows
import Derived.WalkKit
import Derived.WalkSpells
import Derived.WalkLawsBesides
import Derived.Deep.QuietTactic
import Derived.BigQuiet
import Derived.Lib.Hide
import Derived.Laws.Externs
import Derived.Shelf.Spec.BitsCarry
import Derived.Handy
import Derived.Deep.RegionWith
import Derived.RegionTactic
import Derived.ChangeAlike
import Derived.Test.YtioohmhllajifaaGreatQt
import Derived.OneCell
import Derived.WalkSmall
import Derived.Deep.LoopGhost
/- Plain mathematics of numbers of 128 bits in two words, and of fractions in lowest terms. -/
namespace Go.Proofs.YtioohmhllajifaaGreat
/-- what two words say, without a sign -/
def uw (h l : Nat) : Int := (h : Int) * 18446744073709551616 + (l : Int)
/-- what two words say in two's complement -/
def sw (h l : Nat) : Int := if h < 9223372036854775808 then uw h l else uw h l - 340282366920938463463374607431768211456
def hiOf (z : Int) : Nat := (z / 18446744073709551616 % 18446744073709551616).toNat
def loOf (z : Int) : Nat := (z % 18446744073709551616).toNat
theorem hi_lt (z : Int) : hiOf z < 18446744073709551616 := by unfold hiOf; omega
theorem lo_lt (z : Int) : loOf z < 18446744073709551616 := by unfold loOf; omega
theorem uw_hilo (z : Int) (h0 : 0 ≤ z) (h1 : z < 340282366920938463463374607431768211456) : uw (hiOf z) (loOf z) = z := by
  unfold uw hiOf loOf; omega
theorem sw_hilo (z : Int) (h0 : -170141183460469231731687303715884105728 ≤ z) (h1 : z < 170141183460469231731687303715884105728) : sw (hiOf z) (loOf z) = z := by
  unfold sw uw hiOf loOf; split <;> omega
theorem hi_uw (h l : Nat) (h1 : h < 18446744073709551616) (h2 : l < 18446744073709551616) : hiOf (uw h l) = h := by
  unfold uw hiOf; omega
theorem lo_uw (h l : Nat) (h2 : l < 18446744073709551616) : loOf (uw h l) = l := by
  unfold uw loOf; omega
theorem uw_zero (l : Nat) : uw 0 l = l := by unfold uw; omega
theorem sw_zero (l : Nat) : sw 0 l = l := by unfold sw uw; simp
theorem uw_nonneg (h l : Nat) : 0 ≤ uw h l := by unfold uw; omega
theorem uw_lt (h l : Nat) (h1 : h < 18446744073709551616) (h2 : l < 18446744073709551616) : uw h l < 340282366920938463463374607431768211456 := by unfold uw; omega
theorem sw_neg (h l : Nat) (h1 : h < 18446744073709551616) (h2 : l < 18446744073709551616) : sw h l < 0 ↔ 9223372036854775808 ≤ h := by
  unfold sw uw; split <;> omega
theorem sw_range (h l : Nat) (h1 : h < 18446744073709551616) (h2 : l < 18446744073709551616) :
    -170141183460469231731687303715884105728 ≤ sw h l ∧ sw h l < 170141183460469231731687303715884105728 := by
  unfold sw uw; split <;> omega
/-- the words of a difference, as Sub64 makes them -/
theorem sub_lo (xh xl yh yl : Nat) (h1 : xl < 18446744073709551616) (h2 : yl < 18446744073709551616) :
    (xl + 18446744073709551616 - yl - 0) % 18446744073709551616 = loOf (uw xh xl - uw yh yl) := by
  unfold uw loOf; omega
theorem sub_hi_t (xh xl yh yl : Nat) (h3 : xh < 18446744073709551616) (h4 : yh < 18446744073709551616) (h1 : xl < 18446744073709551616) (h2 : yl < 18446744073709551616) (h : xl < yl) :
    (xh + 18446744073709551616 - yh - 1) % 18446744073709551616 = hiOf (uw xh xl - uw yh yl) := by
  unfold uw hiOf; omega
theorem sub_hi_f (xh xl yh yl : Nat) (h3 : xh < 18446744073709551616) (h4 : yh < 18446744073709551616) (h1 : xl < 18446744073709551616) (h2 : yl < 18446744073709551616) (h : ¬ xl < yl) :
    (xh + 18446744073709551616 - yh - 0) % 18446744073709551616 = hiOf (uw xh xl - uw yh yl) := by
  unfold uw hiOf; omega
theorem add_lo (xh xl yh yl : Nat) :
    (xl + yl + 0) % 18446744073709551616 = loOf (uw xh xl + uw yh yl) := by
  unfold uw loOf; omega
theorem add_hi (xh xl yh yl : Nat) :
    (xh + yh + (xl + yl + 0) / 18446744073709551616) % 18446744073709551616 = hiOf (uw xh xl + uw yh yl) := by
  unfold uw hiOf; omega
end Go.Proofs.YtioohmhllajifaaGreat

/- Walks of the leaf functions of ratio and of the reference: magnitude, commonDivisor, size. -/
namespace Go.Proofs.YtioohmhllajifaaGreat
open Go.RowKit Go.Lib

theorem retW_int {k : IntKind} {a b : Int} (h : a = b) : Ending.returned (.int k a) = .returned (.int k b) := by rw [h]
theorem wrap_neg_u64 (a : Int) (h : a < 0) (h2 : -9223372036854775808 ≤ a) : IntKind.u64.wrap (-IntKind.u64.wrap a) = (a.natAbs : Int) := by
  simp only [IntKind.wrap_u64]; omega

set_option maxHeartbeats 400000 in
theorem size_any (a : Int) (w : World) (h1 : -9223372036854775808 ≤ a) (h2 : a < 9223372036854775808) :
    Calls Tryz.prog 73 #[.int .i64 a] w fun e w' => e = .returned (.int .u64 (a.natAbs : Int)) ∧ w' = w := by
  by_cases h : 0 ≤ a
  · go_enter Tryz.func73, Tryz.ntmps73
    go_wp2
    go_ret
    exact ⟨retW_int (by omega), rfl⟩
  · have h : a < 0 := by omega
    go_enter Tryz.func73, Tryz.ntmps73
    go_wp2
    go_ret
    exact ⟨retW_int (wrap_neg_u64 a h h1), rfl⟩

set_option maxHeartbeats 400000 in
theorem mag_any (a : Int) (w : World) (h1 : -9223372036854775808 ≤ a) (h2 : a < 9223372036854775808) :
    Calls Tryz.prog 56 #[.int .i64 a] w fun e w' => e = .returned (.int .u64 (a.natAbs : Int)) ∧ w' = w := by
  by_cases h : 0 ≤ a
  · go_enter Tryz.func56, Tryz.ntmps56
    go_wp2
    go_ret
    exact ⟨retW_int (by omega), rfl⟩
  · have h : a < 0 := by omega
    go_enter Tryz.func56, Tryz.ntmps56
    go_wp2
    go_ret
    exact ⟨retW_int (wrap_neg_u64 a h h1), rfl⟩

set_option maxHeartbeats 400000 in
theorem cd_any (a b : Nat) (w : World) (ha : a < 18446744073709551616) (hb : b < 18446744073709551616) :
    Calls Tryz.prog 57 #[.int .u64 (a : Int), .int .u64 (b : Int)] w fun e w' => e = .returned (.int .u64 ((Nat.gcd a b : Nat) : Int)) ∧ ∃ n, w' = w.drewN n := by
  go_enter Tryz.func57, Tryz.ntmps57
  go_wp2
  go_loopw [0, 1] (fun x y wr => ∃ m n k : Nat, m < 18446744073709551616 ∧ n < 18446744073709551616 ∧ x = .int .u64 (m : Int) ∧ y = .int .u64 (n : Int) ∧ Nat.gcd m n = Nat.gcd a b ∧ wr = w.drewN k) (fun _ y _ => (intOf y).toNat)
  case atStart => exact ⟨a, b, 0, ha, hb, rfl, rfl, rfl, rfl⟩
  case round =>
    obtain ⟨m, n, k, hm, hn, rfl, rfl, hg, rfl⟩ := hrel
    have Hg := Lib.hid hg; clear hg
    by_cases h0 : n = 0
    · subst h0
      go_wp2
      go_ret
      exact ⟨retW_int (by rw [← Hg.out]; simp), k, rfl⟩
    · have h1 : 1 ≤ n := by omega
      go_wp2
      go_quiet (fail)
      go_wp2
      have hr : m % n < n := Nat.mod_lt _ h1
      have hc : ((m : Int) % (n : Int)) = ((m % n : Nat) : Int) := by omega
      rw [hc]
      go_roundw
      case rel => exact ⟨n, m % n, k + nq, hn, by omega, rfl, rfl, by rw [← Hg.out, Nat.gcd_comm n, ← Nat.gcd_rec, Nat.gcd_comm], by rw [World.drewN_drewN]⟩
      case measure => simp [intOf]; omega
end Go.Proofs.YtioohmhllajifaaGreat

/- Walks of the wide numbers of ratio: minus, plus, isNegative, withSign, size, narrow. -/
namespace Go.Proofs.YtioohmhllajifaaGreat
open Go.RowKit Go.Lib

theorem retW_bool {a b : Bool} (h : a = b) : Ending.returned (.bool a) = .returned (.bool b) := by rw [h]
theorem ret_two {a b : Int} {c d : Int} (h : a = c) (h' : b = d) : Ending.returned (.agg #[.int .u64 a, .int .u64 b]) = .returned (.agg #[.int .u64 c, .int .u64 d]) := by rw [h, h']

theorem sub64_run (x y b : Nat) (hb : b ≤ 1) (w : World) : (callFunc 88 #[.int .u64 x, .int .u64 y, .int .u64 b]).run Tryz.prog w =
      .ok (.value (.tuple #[.int .u64 (((x + 18446744073709551616 - y - b) % 18446744073709551616 : Nat) : Int), .int .u64 ((if x < y + b then 1 else 0 : Nat) : Int)])) w := by
  rw [run_callFunc_extern Tryz.func88 (by kernel_rfl) (by kernel_rfl) (by kernel_rfl) (e := sub64Entry) (by kernel_rfl), run_sub64 x y b hb]
  rfl
def borrow (xl yl : Nat) : Nat := if xl < yl then 1 else 0
def borrow2 (xh yh c : Nat) : Nat := if xh < yh + c then 1 else 0
def carry (xl yl : Nat) : Nat := (xl + yl + 0) / 18446744073709551616
def carry2 (xh yh c : Nat) : Nat := (xh + yh + c) / 18446744073709551616
theorem borrow_le (xl yl : Nat) : borrow xl yl ≤ 1 := by unfold borrow; split <;> omega
theorem carry_le (xl yl : Nat) (h1 : xl < 18446744073709551616) (h2 : yl < 18446744073709551616) : carry xl yl ≤ 1 := by unfold carry; omega
theorem sub64_lo (xh xl yh yl : Nat) (h1 : xl < 18446744073709551616) (h2 : yl < 18446744073709551616) (w : World) : (callFunc 88 #[.int .u64 xl, .int .u64 yl, .int .u64 0]).run Tryz.prog w =
      .ok (.value (.tuple #[.int .u64 (loOf (uw xh xl - uw yh yl) : Nat), .int .u64 (borrow xl yl : Nat)])) w := by
  have := sub64_run xl yl 0 (by omega) w
  rw [sub_lo xh xl yh yl h1 h2] at this
  exact this
theorem sub64_hi (xh xl yh yl : Nat) (h3 : xh < 18446744073709551616) (h4 : yh < 18446744073709551616) (h1 : xl < 18446744073709551616) (h2 : yl < 18446744073709551616) (w : World) : (callFunc 88 #[.int .u64 xh, .int .u64 yh, .int .u64 (borrow xl yl : Nat)]).run Tryz.prog w =
      .ok (.value (.tuple #[.int .u64 (hiOf (uw xh xl - uw yh yl) : Nat), .int .u64 (borrow2 xh yh (borrow xl yl) : Nat)])) w := by
  rw [sub64_run xh yh _ (borrow_le _ _) w]
  have : (xh + 18446744073709551616 - yh - borrow xl yl) % 18446744073709551616 = hiOf (uw xh xl - uw yh yl) := by
    unfold borrow
    by_cases h : xl < yl
    · rw [if_pos h]; exact sub_hi_t xh xl yh yl h3 h4 h1 h2 h
    · rw [if_neg h]; exact sub_hi_f xh xl yh yl h3 h4 h1 h2 h
  rw [this]
  rfl

set_option maxHeartbeats 400000 in
theorem wminus_any (xh xl yh yl : Nat) (h3 : xh < 18446744073709551616) (h4 : yh < 18446744073709551616) (h1 : xl < 18446744073709551616) (h2 : yl < 18446744073709551616) (w : World) :
    Calls Tryz.prog 71 #[.agg #[.int .u64 xh, .int .u64 xl], .agg #[.int .u64 yh, .int .u64 yl]] w fun e w' =>
      e = .returned (.agg #[.int .u64 (hiOf (uw xh xl - uw yh yl) : Nat), .int .u64 (loOf (uw xh xl - uw yh yl) : Nat)]) ∧ Below w.heap.size w w' := by
  have hlo := fun w => sub64_lo xh xl yh yl h1 h2 w
  have hhi := fun w => sub64_hi xh xl yh yl h3 h4 h1 h2 w
  go_enter Tryz.func71, Tryz.ntmps71
  go_wp2
  exact bodyPost_ret (v := .agg #[.int .u64 (hiOf (uw xh xl - uw yh yl) : Nat), .int .u64 (loOf (uw xh xl - uw yh yl) : Nat)]) (by simp [results, Tryz.results71, go_sem]) rfl ⟨rfl, by go_grown⟩


theorem wrap_sw (h l : Nat) (h1 : h < 18446744073709551616) (h2 : l < 18446744073709551616) : decide (wrap64 (h : Int) < 0) = decide (sw h l < 0) := by
  rw [decide_eq_decide, sw_neg h l h1 h2]
  unfold wrap64; omega
set_option maxHeartbeats 400000 in
theorem isneg_any (h l : Nat) (w : World) (h1 : h < 18446744073709551616) (h2 : l < 18446744073709551616) :
    Calls Tryz.prog 87 #[.agg #[.int .u64 h, .int .u64 l]] w fun e w' => e = .returned (.bool (decide (sw h l < 0))) ∧ Below w.heap.size w w' := by
  go_enter Tryz.func87, Tryz.ntmps87
  go_wp2
  go_ret
  exact ⟨retW_bool (wrap_sw h l h1 h2), by go_grown⟩
set_option maxHeartbeats 400000 in
theorem sign_f (h l : Nat) (w : World) :
    Calls Tryz.prog 59 #[.agg #[.int .u64 h, .int .u64 l], .bool false] w fun e w' => e = .returned (.agg #[.int .u64 h, .int .u64 l]) ∧ Below w.heap.size w w' := by
  go_enter Tryz.func59, Tryz.ntmps59
  go_wp2
  exact bodyPost_ret (v := .agg #[.int .u64 h, .int .u64 l]) (by simp [results, Tryz.results59, go_sem]) rfl ⟨rfl, by go_grown⟩
theorem bcell {W w1 : World} (hb : Below W.heap.size W w1) : (∀ b o, b < W.heap.size → w1.cell? ⟨b, o, none⟩ = W.cell? ⟨b, o, none⟩) ∧ (∀ b o, b < W.heap.size → w1.frozen? ⟨b, o, none⟩ = W.frozen? ⟨b, o, none⟩) :=
  ⟨fun b o h => hb.cell (p := ⟨b, o, none⟩) h, fun b o h => hb.frozen (p := ⟨b, o, none⟩) h⟩
set_option maxHeartbeats 400000 in
theorem sign_t (h l : Nat) (w : World) (h1 : h < 18446744073709551616) (h2 : l < 18446744073709551616) :
    Calls Tryz.prog 59 #[.agg #[.int .u64 h, .int .u64 l], .bool true] w fun e w' => e = .returned (.agg #[.int .u64 (hiOf (- uw h l) : Nat), .int .u64 (loOf (- uw h l) : Nat)]) ∧ Below w.heap.size w w' := by
  have c41 := fun w => wminus_any 0 0 h l (by omega) h1 (by omega) h2 w
  rw [show uw 0 0 - uw h l = - uw h l by rw [uw_zero]; simp] at c41
  have C41 := Lib.hid c41; clear c41
  go_enter Tryz.func59, Tryz.ntmps59
  go_wp2_with (go_at_call 71; refine (C41.out _).mono ?_; rintro e w' ⟨rfl, hb⟩; obtain ⟨hc, hf⟩ := bcell hb; have hB : Below w.heap.size w w' := Below.trans (by go_grown) (hb.mono (by simp; omega)))
  exact bodyPost_ret (v := .agg #[.int .u64 (hiOf (- uw h l) : Nat), .int .u64 (loOf (- uw h l) : Nat)]) (by simp [results, Tryz.results59, go_sem, hc]) rfl ⟨rfl, by go_grown⟩
end Go.Proofs.YtioohmhllajifaaGreat

/- Walks of the wide numbers of ratio: size, narrow, narrowed. -/
namespace Go.Proofs.YtioohmhllajifaaGreat
open Go.RowKit Go.Lib

theorem hi_neg (h l : Nat) (h1 : h < 18446744073709551616) (h2 : l < 18446744073709551616) (hs : sw h l < 0) : hiOf (- uw h l) = hiOf ((sw h l).natAbs : Int) := by
  have := (sw_neg h l h1 h2).1 hs
  unfold sw uw hiOf at *; split <;> omega
theorem lo_neg (h l : Nat) (h1 : h < 18446744073709551616) (h2 : l < 18446744073709551616) (hs : sw h l < 0) : loOf (- uw h l) = loOf ((sw h l).natAbs : Int) := by
  have := (sw_neg h l h1 h2).1 hs
  unfold sw uw loOf at *; split <;> omega
theorem hi_pos (h l : Nat) (h1 : h < 18446744073709551616) (h2 : l < 18446744073709551616) (hs : ¬ sw h l < 0) : h = hiOf ((sw h l).natAbs : Int) := by
  have := mt (sw_neg h l h1 h2).2 hs
  unfold sw uw hiOf at *; split <;> omega
theorem lo_pos (h l : Nat) (h1 : h < 18446744073709551616) (h2 : l < 18446744073709551616) (hs : ¬ sw h l < 0) : l = loOf ((sw h l).natAbs : Int) := by
  have := mt (sw_neg h l h1 h2).2 hs
  unfold sw uw loOf at *; split <;> omega

theorem bnext {w v w' : World} (h : Below w.heap.size w v) (hb : Below v.heap.size v w') : Below w.heap.size w w' := h.trans (hb.mono h.size)
set_option maxHeartbeats 400000 in
theorem size54_any (h l : Nat) (w : World) (h1 : h < 18446744073709551616) (h2 : l < 18446744073709551616) :
    Calls Tryz.prog 86 #[.agg #[.int .u64 h, .int .u64 l]] w fun e w' =>
      e = .returned (.agg #[.int .u64 (hiOf ((sw h l).natAbs : Int) : Nat), .int .u64 (loOf ((sw h l).natAbs : Int) : Nat)]) ∧ Below w.heap.size w w' := by
  by_cases hs : sw h l < 0
  · have c53 := fun w => isneg_any h l w h1 h2
    rw [show decide (sw h l < 0) = true by simpa using hs] at c53
    have C53 := Lib.hid c53; clear c53
    have c31 := fun w => sign_t h l w h1 h2
    rw [hi_neg h l h1 h2 hs, lo_neg h l h1 h2 hs] at c31
    have C31 := Lib.hid c31; clear c31 hs
    go_enter Tryz.func86, Tryz.ntmps86
    go_wp2
    go_region_with (first
      | (go_at_call 87; refine (C53.out _).mono ?_; rintro e w' ⟨rfl, hb⟩; obtain ⟨hc, hf⟩ := bcell hb; have hB := bnext (w := w) (by go_grown) hb; have hz : w.heap.size + 1 < w'.heap.size := Nat.lt_of_lt_of_le (by first | omega | (simp; done) | (simp; omega)) hb.size; clear hb)
      | (go_at_call 59; refine (C31.out _).mono ?_; rintro e w' ⟨rfl, hb⟩; obtain ⟨hc, hf⟩ := bcell hb; have hB := bnext (w := w) (by go_grown) hb; have hz : w.heap.size + 1 < w'.heap.size := Nat.lt_of_lt_of_le (by first | omega | (simp; done) | (simp; omega)) hb.size; clear hb))
    all_goals
      go_wp2
      exact bodyPost_ret (v := .agg #[.int .u64 (hiOf ((sw h l).natAbs : Int) : Nat), .int .u64 (loOf ((sw h l).natAbs : Int) : Nat)]) (by simp [results, Tryz.results86, go_sem, *]) rfl ⟨rfl, by go_grown⟩
  · have c53 := fun w => isneg_any h l w h1 h2
    rw [show decide (sw h l < 0) = false by simpa using hs] at c53
    have C53 := Lib.hid c53; clear c53
    have c31 : ∀ w, Calls Tryz.prog 59 #[.agg #[.int .u64 h, .int .u64 l], .bool false] w fun e w' => e = .returned (.agg #[.int .u64 (hiOf ((sw h l).natAbs : Int) : Nat), .int .u64 (loOf ((sw h l).natAbs : Int) : Nat)]) ∧ Below w.heap.size w w' := by
      have := fun w => sign_f h l w
      rw [← hi_pos h l h1 h2 hs, ← lo_pos h l h1 h2 hs]; exact this
    have C31 := Lib.hid c31; clear c31 hs
    go_enter Tryz.func86, Tryz.ntmps86
    go_wp2
    go_region_with (first
      | (go_at_call 87; refine (C53.out _).mono ?_; rintro e w' ⟨rfl, hb⟩; obtain ⟨hc, hf⟩ := bcell hb; have hB := bnext (w := w) (by go_grown) hb; have hz : w.heap.size + 1 < w'.heap.size := Nat.lt_of_lt_of_le (by first | omega | (simp; done) | (simp; omega)) hb.size; clear hb)
      | (go_at_call 59; refine (C31.out _).mono ?_; rintro e w' ⟨rfl, hb⟩; obtain ⟨hc, hf⟩ := bcell hb; have hB := bnext (w := w) (by go_grown) hb; have hz : w.heap.size + 1 < w'.heap.size := Nat.lt_of_lt_of_le (by first | omega | (simp; done) | (simp; omega)) hb.size; clear hb))
    all_goals
      go_wp2
      exact bodyPost_ret (v := .agg #[.int .u64 (hiOf ((sw h l).natAbs : Int) : Nat), .int .u64 (loOf ((sw h l).natAbs : Int) : Nat)]) (by simp [results, Tryz.results86, go_sem, *]) rfl ⟨rfl, by go_grown⟩

end Go.Proofs.YtioohmhllajifaaGreat

/- Walks of the wide numbers of ratio: narrow, narrowed. -/
namespace Go.Proofs.YtioohmhllajifaaGreat
open Go.RowKit Go.Lib
theorem hi_small (n : Nat) (h : n ≤ 1152921504606846976) : hiOf (n : Int) = 0 := by unfold hiOf; omega
theorem lo_small (n : Nat) (h : n ≤ 1152921504606846976) : loOf (n : Int) = n := by unfold loOf; omega
theorem ret_ib {a b : Int} {c : Bool} (h : a = b) : Ending.returned (.tuple #[.int .i64 a, .bool c]) = .returned (.tuple #[.int .i64 b, .bool c]) := by rw [h]
set_option maxHeartbeats 400000 in
theorem narrow_ok (h l : Nat) (w : World) (h1 : h < 18446744073709551616) (h2 : l < 18446744073709551616) (hs : (sw h l).natAbs ≤ 1152921504606846976) :
    Calls Tryz.prog 70 #[.agg #[.int .u64 h, .int .u64 l]] w fun e w' => e = .returned (.tuple #[.int .i64 (sw h l), .bool true]) ∧ Below w.heap.size w w' := by
  have c54 := fun w => size54_any h l w h1 h2
  rw [hi_small _ hs, lo_small _ hs] at c54
  have C54 := Lib.hid c54; clear c54
  have c53 := fun w => isneg_any h l w h1 h2
  by_cases hn : sw h l < 0
  · rw [show decide (sw h l < 0) = true by simpa using hn] at c53
    have C53 := Lib.hid c53; clear c53
    obtain ⟨n, hn2⟩ : ∃ n : Nat, n = (sw h l).natAbs := ⟨_, rfl⟩
    rw [← hn2] at C54 hs
    have e1 : sw h l = - (n : Int) := by omega
    have E1 := Lib.hid e1
    have hn3 : 1 ≤ n := by omega
    clear e1 hn2 hn
    go_enter Tryz.func70, Tryz.ntmps70
    go_wp2_with (first
      | (go_at_call 87; refine (C53.out _).mono ?_; rintro e w' ⟨rfl, hb⟩; obtain ⟨hc, hf⟩ := bcell hb; have hz : w.heap.size < w'.heap.size := Nat.lt_of_lt_of_le (by first | omega | (simp; done) | (simp; omega)) hb.size; have hB := bnext (w := w) (by go_grown) hb; clear hb)
      | (go_at_call 86; refine (C54.out _).mono ?_; rintro e w' ⟨rfl, hb⟩; obtain ⟨hc, hf⟩ := bcell hb; have hz : w.heap.size < w'.heap.size := Nat.lt_of_lt_of_le (by first | omega | (simp; done) | (simp; omega)) hb.size; have hB := bnext (w := w) (by go_grown) hb; clear hb))
    go_ret2
    exact ⟨ret_ib (by rw [E1.out]), by go_grown⟩
  · rw [show decide (sw h l < 0) = false by simpa using hn] at c53
    have C53 := Lib.hid c53; clear c53
    obtain ⟨n, hn2⟩ : ∃ n : Nat, n = (sw h l).natAbs := ⟨_, rfl⟩
    rw [← hn2] at C54 hs
    have e1 : sw h l = (n : Int) := by omega
    have E1 := Lib.hid e1
    clear e1 hn2 hn
    go_enter Tryz.func70, Tryz.ntmps70
    go_wp2_with (first
      | (go_at_call 87; refine (C53.out _).mono ?_; rintro e w' ⟨rfl, hb⟩; obtain ⟨hc, hf⟩ := bcell hb; have hz : w.heap.size < w'.heap.size := Nat.lt_of_lt_of_le (by first | omega | (simp; done) | (simp; omega)) hb.size; have hB := bnext (w := w) (by go_grown) hb; clear hb)
      | (go_at_call 86; refine (C54.out _).mono ?_; rintro e w' ⟨rfl, hb⟩; obtain ⟨hc, hf⟩ := bcell hb; have hz : w.heap.size < w'.heap.size := Nat.lt_of_lt_of_le (by first | omega | (simp; done) | (simp; omega)) hb.size; have hB := bnext (w := w) (by go_grown) hb; clear hb))
    go_ret2
    exact ⟨ret_ib (by rw [E1.out]), by go_grown⟩

def nar (z : Int) : Int := if z.natAbs ≤ 1152921504606846976 then z else 0
def narOk (z : Int) : Bool := decide (z.natAbs ≤ 1152921504606846976)
theorem big_words (n : Nat) (h : 1152921504606846976 < n) (h2 : n < 340282366920938463463374607431768211456) : hiOf (n : Int) ≠ 0 ∨ 1152921504606846976 < loOf (n : Int) := by unfold hiOf loOf; omega
set_option maxHeartbeats 400000 in
theorem narrow_no (h l : Nat) (w : World) (h1 : h < 18446744073709551616) (h2 : l < 18446744073709551616) (hs : 1152921504606846976 < (sw h l).natAbs) :
    Calls Tryz.prog 70 #[.agg #[.int .u64 h, .int .u64 l]] w fun e w' => e = .returned (.tuple #[.int .i64 0, .bool false]) ∧ Below w.heap.size w w' := by
  have c54 := fun w => size54_any h l w h1 h2
  have hb := big_words _ hs (by have := sw_range h l h1 h2; omega)
  have k1 := hi_lt ((sw h l).natAbs : Int)
  have k2 := lo_lt ((sw h l).natAbs : Int)
  generalize hiOf ((sw h l).natAbs : Int) = p at *
  generalize loOf ((sw h l).natAbs : Int) = q at *
  have C54 := Lib.hid c54; clear c54 hs
  by_cases hp : p = 0
  · subst hp
    have hq : 1152921504606846976 < q := by omega
    clear hb
    go_enter Tryz.func70, Tryz.ntmps70
    go_wp2_with ((go_at_call 86; refine (C54.out _).mono ?_; rintro e w' ⟨rfl, hb⟩; obtain ⟨hc, hf⟩ := bcell hb; have hz : w.heap.size + 0 < w'.heap.size := Nat.lt_of_lt_of_le (by first | omega | (simp; done) | (simp; omega)) hb.size; have hB := bnext (w := w) (by go_grown) hb; clear hb))
    go_ret2
    exact ⟨rfl, by go_grown⟩
  · have hp : 1 ≤ p := by omega
    clear hb
    go_enter Tryz.func70, Tryz.ntmps70
    go_wp2_with ((go_at_call 86; refine (C54.out _).mono ?_; rintro e w' ⟨rfl, hb⟩; obtain ⟨hc, hf⟩ := bcell hb; have hz : w.heap.size + 0 < w'.heap.size := Nat.lt_of_lt_of_le (by first | omega | (simp; done) | (simp; omega)) hb.size; have hB := bnext (w := w) (by go_grown) hb; clear hb))
    go_ret2
    exact ⟨rfl, by go_grown⟩
theorem narrow_any (h l : Nat) (w : World) (h1 : h < 18446744073709551616) (h2 : l < 18446744073709551616) :
    Calls Tryz.prog 70 #[.agg #[.int .u64 h, .int .u64 l]] w fun e w' => e = .returned (.tuple #[.int .i64 (nar (sw h l)), .bool (narOk (sw h l))]) ∧ Below w.heap.size w w' := by
  by_cases hs : (sw h l).natAbs ≤ 1152921504606846976
  · simp only [nar, narOk, if_pos hs, decide_eq_true hs]; exact narrow_ok h l w h1 h2 hs
  · simp only [nar, narOk, if_neg hs, decide_eq_false hs]; exact narrow_no h l w h1 h2 (by omega)

/-- a fraction of two numbers in lowest terms, or ErrLimit -/
def nrN (n d : Int) : Int := if n.natAbs ≤ 1152921504606846976 ∧ d.natAbs ≤ 1152921504606846976 then n else 0
def nrD (n d : Int) : Int := if n.natAbs ≤ 1152921504606846976 ∧ d.natAbs ≤ 1152921504606846976 then d else 0
def nrE (n d : Int) : Int := if n.natAbs ≤ 1152921504606846976 ∧ d.natAbs ≤ 1152921504606846976 then 0 else 3
set_option maxHeartbeats 400000 in
theorem narrowed_any (a b c d : Nat) (w : World) (h1 : a < 18446744073709551616) (h2 : b < 18446744073709551616) (h3 : c < 18446744073709551616) (h4 : d < 18446744073709551616) :
    Calls Tryz.prog 58 #[.agg #[.int .u64 a, .int .u64 b], .agg #[.int .u64 c, .int .u64 d]] w fun e w' =>
      e = .returned (.tuple #[.agg #[.int .i64 (nrN (sw a b) (sw c d)), .int .i64 (nrD (sw a b) (sw c d))], .int .i64 (nrE (sw a b) (sw c d))]) ∧ Below w.heap.size w w' := by
  by_cases hn : (sw a b).natAbs ≤ 1152921504606846976
  · by_cases hd : (sw c d).natAbs ≤ 1152921504606846976
    · have e1 : nar (sw a b) = sw a b := if_pos hn
      have e2 : nar (sw c d) = sw c d := if_pos hd
      have e3 : narOk (sw a b) = true := decide_eq_true hn
      have e4 : narOk (sw c d) = true := decide_eq_true hd
      have f1 : nrN (sw a b) (sw c d) = sw a b := if_pos ⟨hn, hd⟩
      have f2 : nrD (sw a b) (sw c d) = sw c d := if_pos ⟨hn, hd⟩
      have f3 : nrE (sw a b) (sw c d) = 0 := if_pos ⟨hn, hd⟩
      rw [f1, f2, f3]
      clear f1 f2 f3 hn hd
      go_enter Tryz.func58, Tryz.ntmps58
      go_wp2_with ((go_at_call 70; refine (narrow_any _ _ _ (by assumption) (by assumption)).mono ?_; rintro e w' ⟨rfl, hb⟩; obtain ⟨hc, hf⟩ := bcell hb; have hz : w.heap.size + 2 < w'.heap.size := Nat.lt_of_lt_of_le (by first | omega | (simp; done) | (simp; omega)) hb.size; have hB := bnext (w := w) (by go_grown) hb; clear hb))
      exact bodyPost_ret (v := .tuple #[.agg #[.int .i64 (sw a b), .int .i64 (sw c d)], .int .i64 0]) (by simp [results, Tryz.results58, go_sem, *]) rfl ⟨rfl, by go_grown⟩
    · have e3 : narOk (sw a b) = true := decide_eq_true hn
      have e4 : narOk (sw c d) = false := decide_eq_false hd
      have f1 : nrN (sw a b) (sw c d) = 0 := if_neg fun h => hd h.2
      have f2 : nrD (sw a b) (sw c d) = 0 := if_neg fun h => hd h.2
      have f3 : nrE (sw a b) (sw c d) = 3 := if_neg fun h => hd h.2
      rw [f1, f2, f3]
      clear f1 f2 f3 hn hd
      go_enter Tryz.func58, Tryz.ntmps58
      go_wp2_with ((go_at_call 70; refine (narrow_any _ _ _ (by assumption) (by assumption)).mono ?_; rintro e w' ⟨rfl, hb⟩; obtain ⟨hc, hf⟩ := bcell hb; have hz : w.heap.size + 2 < w'.heap.size := Nat.lt_of_lt_of_le (by first | omega | (simp; done) | (simp; omega)) hb.size; have hB := bnext (w := w) (by go_grown) hb; clear hb))
      exact bodyPost_ret (v := .tuple #[.agg #[.int .i64 0, .int .i64 0], .int .i64 3]) (by simp [results, Tryz.results58, go_sem, *]) rfl ⟨rfl, by go_grown⟩
  · have e3 : narOk (sw a b) = false := decide_eq_false hn
    have f1 : nrN (sw a b) (sw c d) = 0 := if_neg fun h => hn h.1
    have f2 : nrD (sw a b) (sw c d) = 0 := if_neg fun h => hn h.1
    have f3 : nrE (sw a b) (sw c d) = 3 := if_neg fun h => hn h.1
    rw [f1, f2, f3]
    clear f1 f2 f3 hn
    go_enter Tryz.func58, Tryz.ntmps58
    go_wp2_with ((go_at_call 70; refine (narrow_any _ _ _ (by assumption) (by assumption)).mono ?_; rintro e w' ⟨rfl, hb⟩; obtain ⟨hc, hf⟩ := bcell hb; have hz : w.heap.size + 2 < w'.heap.size := Nat.lt_of_lt_of_le (by first | omega | (simp; done) | (simp; omega)) hb.size; have hB := bnext (w := w) (by go_grown) hb; clear hb))
    exact bodyPost_ret (v := .tuple #[.agg #[.int .i64 0, .int .i64 0], .int .i64 3]) (by simp [results, Tryz.results58, go_sem, *]) rfl ⟨rfl, by go_grown⟩
end Go.Proofs.YtioohmhllajifaaGreat

/- Walks of ratio.Make. -/
namespace Go.Proofs.YtioohmhllajifaaGreat
open Go.RowKit Go.Lib Go.BigFrame
def quoN (a b : Nat) : Nat := a / Nat.gcd a b
def quoD (a b : Nat) : Nat := b / Nat.gcd a b
theorem quo_i (a b : Nat) : ((a : Int) / ((Nat.gcd a b : Nat) : Int)) = ((quoN a b : Nat) : Int) := by unfold quoN; omega
theorem quo_d (a b : Nat) : ((b : Int) / ((Nat.gcd a b : Nat) : Int)) = ((quoD a b : Nat) : Int) := by unfold quoD; omega
theorem quoN_le (a b : Nat) : quoN a b ≤ a := Nat.div_le_self _ _
theorem quoD_le (a b : Nat) : quoD a b ≤ b := Nat.div_le_self _ _
theorem sw_neg_small (q : Nat) (h : q ≤ 9223372036854775808) : sw (hiOf (- uw 0 q)) (loOf (- uw 0 q)) = - (q : Int) := by
  rw [uw_zero]; exact sw_hilo _ (by omega) (by omega)
set_option maxHeartbeats 400000 in
theorem make_zero (a : Int) (w : World) :
    Calls Tryz.prog 39 #[.int .i64 a, .int .i64 0] w fun e w' => e = .returned (.tuple #[.agg #[.int .i64 0, .int .i64 0], .int .i64 2]) ∧ Below w.heap.size w w' := by
  go_enter Tryz.func39, Tryz.ntmps39
  go_wp2
  exact bodyPost_ret (v := .tuple #[.agg #[.int .i64 0, .int .i64 0], .int .i64 2]) (by simp [results, Tryz.results39, go_sem, *]) rfl ⟨rfl, by go_grown⟩
theorem below_drewW {B : Nat} {a w : World} (h : Below B a w) (n : Nat) : Below B a (w.drewN n) := ⟨h.os, h.tape, h.output, h.size, h.block⟩
/-- the numerator with its sign -/
def sgn (s : Bool) (p : Nat) : Int := if s then - (p : Int) else p
set_option maxHeartbeats 1000000 in
theorem make_nz (a b : Int) (w : World) (ha1 : -9223372036854775808 ≤ a) (ha2 : a < 9223372036854775808) (hb1 : -9223372036854775808 ≤ b) (hb2 : b < 9223372036854775808) (h2 : b ≠ 0) (s : Bool) (hs : (decide (a < 0) == decide (b < 0)) = !s) :
    Calls Tryz.prog 39 #[.int .i64 a, .int .i64 b] w fun e w' =>
      e = .returned (.tuple #[.agg #[.int .i64 (nrN (sgn s (quoN a.natAbs b.natAbs)) (quoD a.natAbs b.natAbs)), .int .i64 (nrD (sgn s (quoN a.natAbs b.natAbs)) (quoD a.natAbs b.natAbs))], .int .i64 (nrE (sgn s (quoN a.natAbs b.natAbs)) (quoD a.natAbs b.natAbs))]) ∧ Below w.heap.size w w' := by
  have cA := fun w => mag_any a w ha1 ha2
  have cB := fun w => mag_any b w hb1 hb2
  have hp : 1 ≤ b.natAbs := by omega
  have hx : a.natAbs ≤ 9223372036854775808 := by omega
  have hy : b.natAbs ≤ 9223372036854775808 := by omega
  have hb0 : (b == 0) = false := by simpa using h2
  clear h2
  generalize hxa : a.natAbs = x at *
  generalize hyb : b.natAbs = y at *
  have cG := fun w => cd_any x y w (by omega) (by omega)
  have hg : 1 ≤ Nat.gcd x y := Nat.gcd_pos_of_pos_right _ hp
  have hg2 : Nat.gcd x y ≤ y := Nat.gcd_le_right _ hp
  have q1 := quo_i x y; have q2 := quo_d x y
  have l1 := quoN_le x y; have l2 := quoD_le x y
  obtain ⟨h, l, hh, hl, hw, c31⟩ : ∃ h l : Nat, h < 18446744073709551616 ∧ l < 18446744073709551616 ∧ sw h l = sgn s (quoN x y) ∧ ∀ w, Calls Tryz.prog 59 #[.agg #[.int .u64 0, .int .u64 (quoN x y : Nat)], .bool s] w fun e w' => e = .returned (.agg #[.int .u64 h, .int .u64 l]) ∧ Below w.heap.size w w' := by
    cases s
    · exact ⟨0, quoN x y, by omega, by omega, sw_zero _, fun w => sign_f 0 (quoN x y) w⟩
    · exact ⟨_, _, hi_lt _, lo_lt _, sw_neg_small _ (by omega), fun w => sign_t 0 (quoN x y) w (by omega) (by omega)⟩
  have c30 := fun w => narrowed_any h l 0 (quoD x y) w hh hl (by omega) (by omega)
  rw [hw, sw_zero] at c30
  have H := Lib.hid (And.intro hxa hyb); clear hxa hyb hw
  have CA := Lib.hid cA; clear cA
  have CB := Lib.hid cB; clear cB
  have CG := Lib.hid cG; clear cG
  have C31 := Lib.hid c31; clear c31
  have C30 := Lib.hid c30; clear c30
  have Q1 := Lib.hid q1; have Q2 := Lib.hid q2; clear q1 q2
  generalize nrN (sgn s (quoN x y)) (quoD x y) = r1 at *
  generalize nrD (sgn s (quoN x y)) (quoD x y) = r2 at *
  generalize nrE (sgn s (quoN x y)) (quoD x y) = r3 at *
  generalize quoN x y = p at *
  generalize quoD x y = r at *
  generalize Nat.gcd x y = g at *
  go_enter Tryz.func39, Tryz.ntmps39
  go_wp2_with fail
  refine (CA.out _).mono ?_
  rintro e w' ⟨rfl, rfl⟩
  go_wp2_with fail
  refine (CB.out _).mono ?_
  rintro e w' ⟨rfl, rfl⟩
  go_wp2_with fail
  refine (CG.out _).mono ?_
  rintro e w' ⟨rfl, n, rfl⟩
  go_wp2_with fail
  clear hs hb0 hh hl ha1 ha2 hb1 hb2
  refine wp_region_over_tail 13 (by kernel_rfl) (by kernel_rfl) ?_
  simp only [List.take_succ_cons, List.take_zero, List.drop_succ_cons, List.drop_zero]
  have q1 := Q1.out; have q2 := Q2.out
  repeat (go_big_quiet_step (first | (go_at_call 59; exact calls_over (C31.out _)) | (go_at_call 58; exact calls_over (C30.out _))))
  refine wpQuiet_nil ?_
  rintro _ ⟨x, rfl⟩
  have hB := bnext (w := w) (below_drewW (by go_grown) n) (over_below _ x)
  have hz : w.heap.size < (over _ x).heap.size := Nat.lt_of_lt_of_le (by simp) (over_size _ x)
  go_wp2
  exact bodyPost_ret (v := .tuple #[.agg #[.int .i64 r1, .int .i64 r2], .int .i64 r3]) (by simp [results, Tryz.results39, go_sem, *]) rfl ⟨rfl, by go_grown⟩
end Go.Proofs.YtioohmhllajifaaGreat

/- Walks of ratio.Valid and ratio.Floor. -/
namespace Go.Proofs.YtioohmhllajifaaGreat
open Go.RowKit Go.Lib Go.BigFrame
/-- a fraction is valid -/
def Vld (n d : Int) : Prop := n.natAbs ≤ 1152921504606846976 ∧ 1 ≤ d ∧ d ≤ 1152921504606846976 ∧ Nat.gcd n.natAbs d.natAbs = 1
instance (n d : Int) : Decidable (Vld n d) := by unfold Vld; infer_instance
def vldB (n d : Int) : Bool := decide (Vld n d)
theorem vldB_false {n d : Int} (h : ¬ Vld n d) : vldB n d = false := decide_eq_false h
theorem vldB_true {n d : Int} (h : Vld n d) : vldB n d = true := decide_eq_true h
end Go.Proofs.YtioohmhllajifaaGreat

/- Walks of the reference's wide numbers: less, sub, double. -/
namespace Go.Proofs.YtioohmhllajifaaGreat
open Go.RowKit Go.Lib Go.BigFrame
set_option maxHeartbeats 400000 in
theorem less_any (xh xl yh yl : Nat) (w : World) :
    Calls Tryz.prog 106 #[.agg #[.int .u64 xh, .int .u64 xl], .agg #[.int .u64 yh, .int .u64 yl]] w fun e w' =>
      e = .returned (.bool (decide (xh < yh ∨ xh = yh ∧ xl < yl))) ∧ Below w.heap.size w w' := by
  by_cases h1 : xh < yh
  · have g1 : decide ((xh : Int) < yh) = true := by simpa using h1
    go_enter Tryz.func106, Tryz.ntmps106
    go_wp2
    go_ret
    exact ⟨retW_bool (by simp [h1]), by go_grown⟩
  · have g1 : decide ((xh : Int) < yh) = false := by simpa using h1
    by_cases h2 : xh = yh
    · subst h2
      go_enter Tryz.func106, Tryz.ntmps106
      go_wp2
      go_ret
      exact ⟨retW_bool (by simp), by go_grown⟩
    · have g2 : ((xh : Int) == yh) = false := by (rw [beq_eq_false_iff_ne]; omega)
      go_enter Tryz.func106, Tryz.ntmps106
      go_wp2
      go_ret
      exact ⟨retW_bool (by simp; omega), by go_grown⟩
theorem sub_hi_w (xh xl yh yl : Nat) (h3 : xh < 18446744073709551616) (h4 : yh < 18446744073709551616) (h1 : xl < 18446744073709551616) (h2 : yl < 18446744073709551616) (h : xl < yl) :
    IntKind.u64.wrap (IntKind.u64.wrap ((xh : Int) - yh) - 1) = (hiOf (uw xh xl - uw yh yl) : Nat) := by
  rw [← sub_hi_t xh xl yh yl h3 h4 h1 h2 h]; simp only [IntKind.wrap_u64]; omega
theorem sub_hi_w2 (xh xl yh yl : Nat) (h3 : xh < 18446744073709551616) (h4 : yh < 18446744073709551616) (h1 : xl < 18446744073709551616) (h2 : yl < 18446744073709551616) (h : ¬ xl < yl) :
    IntKind.u64.wrap ((xh : Int) - yh) = (hiOf (uw xh xl - uw yh yl) : Nat) := by
  rw [← sub_hi_f xh xl yh yl h3 h4 h1 h2 h]; simp only [IntKind.wrap_u64]; omega
theorem sub_lo_w (xh xl yh yl : Nat) (h1 : xl < 18446744073709551616) (h2 : yl < 18446744073709551616) :
    IntKind.u64.wrap ((xl : Int) - yl) = (loOf (uw xh xl - uw yh yl) : Nat) := by
  rw [← sub_lo xh xl yh yl h1 h2]; simp only [IntKind.wrap_u64]; omega
set_option maxHeartbeats 400000 in
theorem sub_any (xh xl yh yl : Nat) (h3 : xh < 18446744073709551616) (h4 : yh < 18446744073709551616) (h1 : xl < 18446744073709551616) (h2 : yl < 18446744073709551616) (w : World) :
    Calls Tryz.prog 107 #[.agg #[.int .u64 xh, .int .u64 xl], .agg #[.int .u64 yh, .int .u64 yl]] w fun e w' =>
      e = .returned (.agg #[.int .u64 (hiOf (uw xh xl - uw yh yl) : Nat), .int .u64 (loOf (uw xh xl - uw yh yl) : Nat)]) ∧ Below w.heap.size w w' := by
  by_cases h : xl < yl
  · have e1 := sub_hi_w xh xl yh yl h3 h4 h1 h2 h
    have e2 := sub_lo_w xh xl yh yl h1 h2
    have E1 := Lib.hid e1; have E2 := Lib.hid e2
    clear e1 e2 h1 h2 h3 h4
    go_enter Tryz.func107, Tryz.ntmps107
    go_wp2
    exact bodyPost_ret (v := .agg #[.int .u64 (IntKind.u64.wrap (IntKind.u64.wrap ((xh : Int) - yh) - 1)), .int .u64 (IntKind.u64.wrap ((xl : Int) - yl))]) (by simp [results, Tryz.results107, go_sem]) rfl ⟨ret_two E1.out E2.out, by go_grown⟩
  · have e1 := sub_hi_w2 xh xl yh yl h3 h4 h1 h2 h
    have e2 := sub_lo_w xh xl yh yl h1 h2
    have E1 := Lib.hid e1; have E2 := Lib.hid e2
    clear e1 e2 h1 h2 h3 h4
    have h : yl ≤ xl := by omega
    go_enter Tryz.func107, Tryz.ntmps107
    go_wp2
    exact bodyPost_ret (v := .agg #[.int .u64 (IntKind.u64.wrap ((xh : Int) - yh)), .int .u64 (IntKind.u64.wrap ((xl : Int) - yl))]) (by simp [results, Tryz.results107, go_sem]) rfl ⟨ret_two E1.out E2.out, by go_grown⟩
theorem or_low (m b : Nat) (hm : m < 18446744073709551616) (he : m % 2 = 0) (hb : b ≤ 1) : bits .or .u64 (m : Int) (b : Int) = ((m + b : Nat) : Int) := by
  rw [bits_or_u64_nat m b hm (by omega)]
  have := Nat.two_pow_add_eq_or_of_lt (i := 1) (b := b) (by omega) (m / 2)
  rw [show 2 ^ 1 * (m / 2) = m by omega] at this
  rw [← this]
theorem dbl_hi (xh xl : Nat) (h1 : xl < 18446744073709551616) :
    bits .or .u64 (IntKind.u64.wrap ((xh : Int) * 2)) ((xl : Int) / 9223372036854775808) = (hiOf (2 * uw xh xl) : Nat) := by
  rw [show IntKind.u64.wrap ((xh : Int) * 2) = ((xh * 2 % 18446744073709551616 : Nat) : Int) by rw [IntKind.wrap_u64]; omega,
    show ((xl : Int) / 9223372036854775808) = ((xl / 9223372036854775808 : Nat) : Int) by omega, or_low _ _ (by omega) (by omega) (by omega)]
  unfold hiOf uw; omega
theorem dbl_lo (xh xl : Nat) : IntKind.u64.wrap ((xl : Int) * 2) = (loOf (2 * uw xh xl) : Nat) := by
  rw [IntKind.wrap_u64]; unfold loOf uw; omega
set_option maxHeartbeats 400000 in
theorem double_any (xh xl : Nat) (h1 : xl < 18446744073709551616) (w : World) :
    Calls Tryz.prog 105 #[.agg #[.int .u64 xh, .int .u64 xl]] w fun e w' =>
      e = .returned (.agg #[.int .u64 (hiOf (2 * uw xh xl) : Nat), .int .u64 (loOf (2 * uw xh xl) : Nat)]) ∧ Below w.heap.size w w' := by
  have E1 := Lib.hid (dbl_hi xh xl h1); have E2 := Lib.hid (dbl_lo xh xl)
  clear h1
  go_enter Tryz.func105, Tryz.ntmps105
  go_wp2
  exact bodyPost_ret (v := .agg #[.int .u64 (bits .or .u64 (IntKind.u64.wrap ((xh : Int) * 2)) ((xl : Int) / 9223372036854775808)), .int .u64 (IntKind.u64.wrap ((xl : Int) * 2))]) (by simp [results, Tryz.results105, go_sem]) rfl ⟨ret_two E1.out E2.out, by go_grown⟩
end Go.Proofs.YtioohmhllajifaaGreat

/- The walk of the reference's long division. -/
namespace Go.Proofs.YtioohmhllajifaaGreat
open Go.RowKit Go.Lib Go.BigFrame
/-- a block of two cells, none frozen -/
def Blk2 (w : World) (g : Nat) (t : TypeId) (x y : Value) : Prop := w.heap[g]? = some (.cells #[x, y] t (0, 0))
namespace Blk2
variable {w w' : World} {g : Nat} {t : TypeId} {x y : Value}
theorem lt (h : Blk2 w g t x y) : g < w.heap.size := lt_of_block h
theorem c0 (h : Blk2 w g t x y) : w.cell? ⟨g, 0, none⟩ = some x := by unfold Blk2 at h; simp [World.cell?, h]
theorem c1 (h : Blk2 w g t x y) : w.cell? ⟨g, 1, none⟩ = some y := by unfold Blk2 at h; simp [World.cell?, h]
theorem f0 (h : Blk2 w g t x y) : w.frozen? ⟨g, 0, none⟩ = false := by unfold Blk2 at h; simp [World.frozen?, h]
theorem f1 (h : Blk2 w g t x y) : w.frozen? ⟨g, 1, none⟩ = false := by unfold Blk2 at h; simp [World.frozen?, h]
theorem new' (h : w.heap.size = g) : Blk2 (w.alloc (.cells #[x, y] t)) g t x y := h ▸ heap_alloc_new w _
theorem new : Blk2 (w.alloc (.cells #[x, y] t)) w.heap.size t x y := heap_alloc_new w _
theorem alloc (h : Blk2 w g t x y) (o : Obj) : Blk2 (w.alloc o) g t x y := (Below.heap_alloc w o g h.lt).trans h
theorem other (h : Blk2 w g t x y) {p : Addr} (hp : g ≠ p.block) (u : Value) : Blk2 (w.setCell p u) g t x y := (Below.heap_setCell w p u g hp).trans h
theorem below {B : Nat} (h : Blk2 w g t x y) (hb : Below B w w') (hg : g < B) : Blk2 w' g t x y := (hb.block g hg).trans h
theorem drewN (h : Blk2 w g t x y) (n : Nat) : Blk2 (w.drewN n) g t x y := h
theorem set0 (h : Blk2 w g t x y) (u : Value) : Blk2 (w.setCell ⟨g, 0, none⟩ u) g t u y := by
  have hlt := h.lt
  have h' : w.heap[g] = .cells #[x, y] t (0, 0) := by unfold Blk2 at h; simpa [Array.getElem?_eq_getElem hlt] using h
  show (w.heap.modify g _)[g]? = _
  rw [Array.getElem?_eq_getElem (by simpa using hlt), Array.getElem_modify_self, h']
  rfl
theorem set1 (h : Blk2 w g t x y) (u : Value) : Blk2 (w.setCell ⟨g, 1, none⟩ u) g t x u := by
  have hlt := h.lt
  have h' : w.heap[g] = .cells #[x, y] t (0, 0) := by unfold Blk2 at h; simpa [Array.getElem?_eq_getElem hlt] using h
  show (w.heap.modify g _)[g]? = _
  rw [Array.getElem?_eq_getElem (by simpa using hlt), Array.getElem_modify_self, h']
  rfl
end Blk2

def hN (n : Nat) : Nat := n / 18446744073709551616 % 18446744073709551616
def lN (n : Nat) : Nat := n % 18446744073709551616
theorem hN_lt (n : Nat) : hN n < 18446744073709551616 := Nat.mod_lt _ (by omega)
theorem lN_lt (n : Nat) : lN n < 18446744073709551616 := Nat.mod_lt _ (by omega)
theorem hiOf_nat (n : Nat) (z : Int) (h : z = n) : hiOf z = hN n := by subst h; unfold hiOf hN; omega
theorem loOf_nat (n : Nat) (z : Int) (h : z = n) : loOf z = lN n := by subst h; unfold loOf lN; omega
theorem uw_nat (n : Nat) (h : n < 340282366920938463463374607431768211456) : uw (hN n) (lN n) = n := by unfold uw hN lN; omega
theorem words_lt (r bh bl B : Nat) (hr : r < 340282366920938463463374607431768211456) (h4 : bl < 18446744073709551616) (hB : uw bh bl = B) : decide (hN r < bh ∨ hN r = bh ∧ lN r < bl) = decide (r < B) := by
  rw [decide_eq_decide]; unfold uw at hB; unfold hN lN; omega
theorem dblN (r : Nat) (hr : r < 340282366920938463463374607431768211456) (w : World) :
    Calls Tryz.prog 105 #[.agg #[.int .u64 (hN r), .int .u64 (lN r)]] w fun e w' => e = .returned (.agg #[.int .u64 (hN (2 * r)), .int .u64 (lN (2 * r))]) ∧ Below w.heap.size w w' := by
  have := double_any (hN r) (lN r) (lN_lt r) w
  rwa [hiOf_nat (2 * r) _ (by rw [uw_nat r hr]; omega), loOf_nat (2 * r) _ (by rw [uw_nat r hr]; omega)] at this
theorem subN (r bh bl B : Nat) (hr : r < 340282366920938463463374607431768211456) (h3 : bh < 18446744073709551616) (h4 : bl < 18446744073709551616) (hB : uw bh bl = B) (hle : B ≤ r) (w : World) :
    Calls Tryz.prog 107 #[.agg #[.int .u64 (hN r), .int .u64 (lN r)], .agg #[.int .u64 bh, .int .u64 bl]] w fun e w' => e = .returned (.agg #[.int .u64 (hN (r - B)), .int .u64 (lN (r - B))]) ∧ Below w.heap.size w w' := by
  have := sub_any (hN r) (lN r) bh bl (hN_lt r) h3 (lN_lt r) h4 w
  rwa [hiOf_nat (r - B) _ (by rw [uw_nat r hr, hB]; omega), loOf_nat (r - B) _ (by rw [uw_nat r hr, hB]; omega)] at this
theorem lessN (r bh bl B : Nat) (hr : r < 340282366920938463463374607431768211456) (h4 : bl < 18446744073709551616) (hB : uw bh bl = B) (w : World) :
    Calls Tryz.prog 106 #[.agg #[.int .u64 (hN r), .int .u64 (lN r)], .agg #[.int .u64 bh, .int .u64 bl]] w fun e w' => e = .returned (.bool (decide (r < B))) ∧ Below w.heap.size w w' := by
  have := less_any (hN r) (lN r) bh bl w
  rwa [words_lt r bh bl B hr h4 hB] at this

/-- the division's memory: numbers, remainder so far, quotient so far -/
structure DivMem (w wr : World) (ah al bh bl : Nat) (q r : Nat) : Prop where
  B : Below w.heap.size w wr
  a : Blk2 wr w.heap.size 96 (.int .u64 ah) (.int .u64 al)
  b : Blk2 wr (w.heap.size + 1) 96 (.int .u64 bh) (.int .u64 bl)
  x : Blk2 wr (w.heap.size + 1 + 1) 96 (.int .u64 0) (.int .u64 0)
  y : Blk2 wr (w.heap.size + 1 + 1 + 1) 96 (.int .u64 0) (.int .u64 0)
  q : Blk2 wr (w.heap.size + 1 + 1 + 1 + 1) 96 (.int .u64 (hN q)) (.int .u64 (lN q))
  r : Blk2 wr (w.heap.size + 1 + 1 + 1 + 1 + 1) 96 (.int .u64 (hN r)) (.int .u64 (lN r))

theorem div_start (w : World) (ah al bh bl : Nat) : DivMem w
   ((((((w.alloc (.cells #[.int .u64 ah, .int .u64 al] 96)).alloc (.cells #[.int .u64 bh, .int .u64 bl] 96)).alloc (.cells #[.int .u64 0, .int .u64 0] 96)).alloc (.cells #[.int .u64 0, .int .u64 0] 96)).alloc (.cells #[.int .u64 0, .int .u64 0] 96)).alloc (.cells #[.int .u64 0, .int .u64 0] 96)) ah al bh bl 0 0 :=
  by
  refine ⟨by go_grown, ?_, ?_, ?_, ?_, ?_, ?_⟩ <;> (repeat' (first | (refine Blk2.new' ?_; simp; done) | (refine Blk2.alloc ?_ _)))

namespace DivMem
variable {w wr wr' : World} {ah al bh bl q r : Nat}
theorem below (M : DivMem w wr ah al bh bl q r) (hb : Below wr.heap.size wr wr') : DivMem w wr' ah al bh bl q r :=
  ⟨M.B.trans (hb.mono M.B.size), M.a.below hb M.a.lt, M.b.below hb M.b.lt, M.x.below hb M.x.lt, M.y.below hb M.y.lt, M.q.below hb M.q.lt, M.r.below hb M.r.lt⟩
theorem setr (M : DivMem w wr ah al bh bl q r) (r' : Nat) : DivMem w ((wr.setCell ⟨w.heap.size + 1 + 1 + 1 + 1 + 1, 0, none⟩ (.int .u64 (hN r'))).setCell ⟨w.heap.size + 1 + 1 + 1 + 1 + 1, 1, none⟩ (.int .u64 (lN r'))) ah al bh bl q r' :=
  ⟨(M.B.setCell (by dsimp only; omega) _).setCell (by dsimp only; omega) _, (M.a.other (by dsimp only; omega) _).other (by dsimp only; omega) _, (M.b.other (by dsimp only; omega) _).other (by dsimp only; omega) _, (M.x.other (by dsimp only; omega) _).other (by dsimp only; omega) _, (M.y.other (by dsimp only; omega) _).other (by dsimp only; omega) _, (M.q.other (by dsimp only; omega) _).other (by dsimp only; omega) _, (M.r.set0 _).set1 _⟩
theorem setr1 (M : DivMem w wr ah al bh bl q r) (r' : Nat) (h : hN r = hN r') : DivMem w (wr.setCell ⟨w.heap.size + 1 + 1 + 1 + 1 + 1, 1, none⟩ (.int .u64 (lN r'))) ah al bh bl q r' :=
  ⟨M.B.setCell (by dsimp only; omega) _, M.a.other (by dsimp only; omega) _, M.b.other (by dsimp only; omega) _, M.x.other (by dsimp only; omega) _, M.y.other (by dsimp only; omega) _, M.q.other (by dsimp only; omega) _, h ▸ M.r.set1 _⟩
theorem setq (M : DivMem w wr ah al bh bl q r) (q' : Nat) : DivMem w ((wr.setCell ⟨w.heap.size + 1 + 1 + 1 + 1, 0, none⟩ (.int .u64 (hN q'))).setCell ⟨w.heap.size + 1 + 1 + 1 + 1, 1, none⟩ (.int .u64 (lN q'))) ah al bh bl q' r :=
  ⟨(M.B.setCell (by dsimp only; omega) _).setCell (by dsimp only; omega) _, (M.a.other (by dsimp only; omega) _).other (by dsimp only; omega) _, (M.b.other (by dsimp only; omega) _).other (by dsimp only; omega) _, (M.x.other (by dsimp only; omega) _).other (by dsimp only; omega) _, (M.y.other (by dsimp only; omega) _).other (by dsimp only; omega) _, (M.q.set0 _).set1 _, (M.r.other (by dsimp only; omega) _).other (by dsimp only; omega) _⟩
theorem setq1 (M : DivMem w wr ah al bh bl q r) (q' : Nat) (h : hN q = hN q') : DivMem w (wr.setCell ⟨w.heap.size + 1 + 1 + 1 + 1, 1, none⟩ (.int .u64 (lN q'))) ah al bh bl q' r :=
  ⟨M.B.setCell (by dsimp only; omega) _, M.a.other (by dsimp only; omega) _, M.b.other (by dsimp only; omega) _, M.x.other (by dsimp only; omega) _, M.y.other (by dsimp only; omega) _, h ▸ M.q.set1 _, M.r.other (by dsimp only; omega) _⟩
theorem facts (M : DivMem w wr ah al bh bl q r) : (wr.cell? ⟨w.heap.size, 0, none⟩ = some (.int .u64 ah) ∧ wr.cell? ⟨w.heap.size, 1, none⟩ = some (.int .u64 al) ∧
    wr.cell? ⟨w.heap.size + 1, 0, none⟩ = some (.int .u64 bh) ∧ wr.cell? ⟨w.heap.size + 1, 1, none⟩ = some (.int .u64 bl)) ∧
    (wr.cell? ⟨w.heap.size + 1 + 1 + 1 + 1, 0, none⟩ = some (.int .u64 (hN q)) ∧ wr.cell? ⟨w.heap.size + 1 + 1 + 1 + 1, 1, none⟩ = some (.int .u64 (lN q)) ∧ wr.frozen? ⟨w.heap.size + 1 + 1 + 1 + 1, 0, none⟩ = false ∧ wr.frozen? ⟨w.heap.size + 1 + 1 + 1 + 1, 1, none⟩ = false) ∧
    (wr.cell? ⟨w.heap.size + 1 + 1 + 1 + 1 + 1, 0, none⟩ = some (.int .u64 (hN r)) ∧ wr.cell? ⟨w.heap.size + 1 + 1 + 1 + 1 + 1, 1, none⟩ = some (.int .u64 (lN r)) ∧ wr.frozen? ⟨w.heap.size + 1 + 1 + 1 + 1 + 1, 0, none⟩ = false ∧ wr.frozen? ⟨w.heap.size + 1 + 1 + 1 + 1 + 1, 1, none⟩ = false) ∧
    w.heap.size < wr.heap.size ∧ w.heap.size + 1 < wr.heap.size ∧ w.heap.size + 1 + 1 + 1 + 1 < wr.heap.size ∧ w.heap.size + 1 + 1 + 1 + 1 + 1 < wr.heap.size :=
  ⟨⟨M.a.c0, M.a.c1, M.b.c0, M.b.c1⟩, ⟨M.q.c0, M.q.c1, M.q.f0, M.q.f1⟩, ⟨M.r.c0, M.r.c1, M.r.f0, M.r.f1⟩, M.a.lt, M.b.lt, M.q.lt, M.r.lt⟩
end DivMem
theorem or1N (n : Nat) : bits .or .u64 ((lN (2 * n) : Nat) : Int) 1 = ((lN (2 * n + 1) : Nat) : Int) := by
  have := or_low (lN (2 * n)) 1 (lN_lt _) (by unfold lN; omega) (by omega)
  rw [show lN (2 * n + 1) = lN (2 * n) + 1 by unfold lN; omega]
  exact this
theorem hN1 (n : Nat) : hN (2 * n) = hN (2 * n + 1) := by unfold hN; omega
theorem bit_and (a j b : Nat) (ha : a < 18446744073709551616) (h : a / 2 ^ j % 2 = b) : bits .and .u64 ((a : Int) / 2 ^ j) 1 = (b : Int) := by
  have hle : a / 2 ^ j ≤ a := Nat.div_le_self _ _
  have e : ((a : Int) / 2 ^ j) = ((a / 2 ^ j : Nat) : Int) := by simp
  generalize a / 2 ^ j = m at *
  rw [e, and_one_u64 _ (by omega) (by omega)]
  omega
/-- a step of the long division -/
theorem div_step0 (A B q r j b : Nat) (h : A / 2 ^ (j + 1) = q * B + r) (hb : A / 2 ^ j % 2 = b) : A / 2 ^ j = (2 * q) * B + (2 * r + b) := by
  have : A / 2 ^ (j + 1) = A / 2 ^ j / 2 := by rw [Nat.pow_succ, Nat.div_div_eq_div_mul]
  rw [Nat.mul_assoc]; omega
theorem div_step1 (A B q r j b : Nat) (h : A / 2 ^ (j + 1) = q * B + r) (hb : A / 2 ^ j % 2 = b) (hle : B ≤ 2 * r + b) : A / 2 ^ j = (2 * q + 1) * B + (2 * r + b - B) := by
  rw [div_step0 A B q r j b h hb, Nat.add_mul]; omega
theorem bit_hi (ah al A j : Nat) (hA : uw ah al = A) (h2 : al < 18446744073709551616) (hj : 64 ≤ j) : ah / 2 ^ (j - 64) % 2 = A / 2 ^ j % 2 := by
  obtain ⟨i, rfl⟩ : ∃ i, j = 64 + i := ⟨j - 64, by omega⟩
  rw [Nat.pow_add, ← Nat.div_div_eq_div_mul, show 64 + i - 64 = i by omega, show A / 2 ^ 64 = ah by unfold uw at hA; omega]
theorem bit_lo (ah al A j : Nat) (hA : uw ah al = A) (hj : j < 64) : al / 2 ^ j % 2 = A / 2 ^ j % 2 := by
  have e : A = 2 ^ 64 * ah + al := by unfold uw at hA; omega
  obtain ⟨i, hi⟩ : ∃ i, 64 = j + 1 + i := ⟨63 - j, by omega⟩
  rw [e, hi, Nat.pow_add, Nat.pow_succ, Nat.mul_assoc, Nat.mul_assoc, Nat.mul_add_div (Nat.two_pow_pos j), Nat.mul_add_mod]

theorem ret_div {A B q r : Nat} (h : A / 2 ^ 0 = q * B + r) (hr : r < B) :
    Ending.returned (.tuple #[.agg #[.int .u64 (hN q), .int .u64 (lN q)], .agg #[.int .u64 (hN r), .int .u64 (lN r)]]) =
    .returned (.tuple #[.agg #[.int .u64 (hN (A / B)), .int .u64 (lN (A / B))], .agg #[.int .u64 (hN (A % B)), .int .u64 (lN (A % B))]]) := by
  have hA : A = r + B * q := by rw [Nat.mul_comm]; simpa [Nat.add_comm] using h
  have hB : 0 < B := by omega
  have e1 : A / B = q := by rw [hA, Nat.add_mul_div_left _ _ hB, Nat.div_eq_of_lt hr]; omega
  have e2 : A % B = r := by rw [hA, Nat.add_mul_mod_self_left, Nat.mod_eq_of_lt hr]
  rw [e1, e2]
set_option maxHeartbeats 1000000 in
theorem divide_any (ah al bh bl A B : Nat) (w : World) (h1 : ah < 18446744073709551616) (h2 : al < 18446744073709551616) (h3 : bh < 9223372036854775808) (h4 : bl < 18446744073709551616) (hA : uw ah al = A) (hB : uw bh bl = B) (hp : 0 < B) :
    Calls Tryz.prog 90 #[.agg #[.int .u64 ah, .int .u64 al], .agg #[.int .u64 bh, .int .u64 bl]] w fun e w' =>
      e = .returned (.tuple #[.agg #[.int .u64 (hN (A / B)), .int .u64 (lN (A / B))], .agg #[.int .u64 (hN (A % B)), .int .u64 (lN (A % B))]]) ∧ Below w.heap.size w w' := by
  have HA := Lib.hid hA; have HB := Lib.hid hB; clear hA hB
  go_enter Tryz.func90, Tryz.ntmps90
  go_wp2
  go_loopw [8] (fun i wr => ∃ k q r : Nat, k ≤ 128 ∧ i = .int .i64 ((k : Int) - 1) ∧ DivMem w wr ah al bh bl q r ∧ r < B ∧ A / 2 ^ k = q * B + r) (fun i _ => (intOf i + 1).toNat)
  case atStart => exact ⟨128, 0, 0, by omega, rfl, div_start w ah al bh bl, hp, by
      have := HA.out; have h128 : A < 2 ^ 128 := by (have := uw_lt ah al h1 h2; omega)
      rw [Nat.div_eq_of_lt h128]; omega⟩
  case round =>
    obtain ⟨k, q, r, hk, rfl, hM, hr, hq⟩ := hrel
    have HR := Lib.hid hr; have HQ := Lib.hid hq; clear hr hq
    have HM := Lib.hid hM
    by_cases h0 : k = 0
    · subst h0
      have cx0 := hM.x.c0; have cx1 := hM.x.c1; have fx0 := hM.x.f0; have fx1 := hM.x.f1
      have cy0 := hM.y.c0; have cy1 := hM.y.c1; have fy0 := hM.y.f0; have fy1 := hM.y.f1
      have cq0 := hM.q.c0; have cq1 := hM.q.c1; have fq0 := hM.q.f0; have fq1 := hM.q.f1
      have cr0 := hM.r.c0; have cr1 := hM.r.c1; have fr0 := hM.r.f0; have fr1 := hM.r.f1
      have hB := hM.B
      clear hM
      go_wp2
      go_region
      all_goals
        go_wp2
        exact bodyPost_ret (v := .tuple #[.agg #[.int .u64 (hN q), .int .u64 (lN q)], .agg #[.int .u64 (hN r), .int .u64 (lN r)]]) (by simp [results, Tryz.results90, go_sem, *]) rfl ⟨ret_div HQ.out HR.out, by go_grown⟩
    · obtain ⟨j, rfl⟩ : ∃ j, k = j + 1 := ⟨k - 1, by omega⟩
      have ej : ((j + 1 : Nat) : Int) - 1 = (j : Int) := by omega
      rw [ej]
      have hj : j ≤ 127 := by omega
      clear ej h0 hk
      have hrB := HR.out
      have hrb : r < 170141183460469231731687303715884105728 := by (have := HB.out; unfold uw at this; omega)
      clear hrB
      have hqb : q < 340282366920938463463374607431768211456 := by
        have hA := HA.out; have hu := uw_lt ah al h1 h2
        have h1 : q ≤ q * B := Nat.le_mul_of_pos_right q hp
        have h2 : A / 2 ^ (j + 1) ≤ A := Nat.div_le_self _ _
        have h3 := HQ.out
        omega
      obtain ⟨⟨ca0, ca1, cb0, cb1⟩, ⟨cq0, cq1, fq0, fq1⟩, ⟨cr0, cr1, fr0, fr1⟩, za, zb, zq, zr⟩ := hM.facts
      clear hM
      rcases Nat.mod_two_eq_zero_or_one (A / 2 ^ j) with hbit | hbit <;> by_cases hj6 : 64 ≤ j
      · skip
        have eb : bits .and .u64 ((ah : Int) / 2 ^ (j - 64)) 1 = 0 := bit_and ah (j - 64) 0 h1 (by rw [bit_hi ah al A j HA.out h2 hj6]; exact hbit)
        have HBit := Lib.hid hbit; clear hbit
        go_wp2_with fail
        refine (dblN r (by omega) _).mono ?_
        rintro e w1 ⟨rfl, hb⟩
        have M1 := HM.out.below hb
        clear hb ca0 ca1 cb0 cb1 cq0 cq1 fq0 fq1 cr0 cr1 fr0 fr1 za zb zq zr
        obtain ⟨⟨ca0, ca1, cb0, cb1⟩, ⟨cq0, cq1, fq0, fq1⟩, ⟨cr0, cr1, fr0, fr1⟩, za, zb, zq, zr⟩ := M1.facts
        go_wp2_with fail
        refine (dblN q (by omega) _).mono ?_
        rintro e w2 ⟨rfl, hb⟩
        have M2 := DivMem.below (M1.setr (2 * r)) (by exact hb)
        clear hb M1 ca0 ca1 cb0 cb1 cq0 cq1 fq0 fq1 cr0 cr1 fr0 fr1 za zb zq zr eb
        obtain ⟨⟨ca0, ca1, cb0, cb1⟩, ⟨cq0, cq1, fq0, fq1⟩, ⟨cr0, cr1, fr0, fr1⟩, za, zb, zq, zr⟩ := M2.facts
        go_wp2_with fail
        refine (lessN (2 * r) bh bl B (by omega) h4 HB.out _).mono ?_
        rintro e w3 ⟨rfl, hb⟩
        have M3 := DivMem.below (M2.setq (2 * q)) hb
        clear hb M2 ca0 ca1 cb0 cb1 cq0 cq1 fq0 fq1 cr0 cr1 fr0 fr1 za zb zq zr
        obtain ⟨⟨ca0, ca1, cb0, cb1⟩, ⟨cq0, cq1, fq0, fq1⟩, ⟨cr0, cr1, fr0, fr1⟩, za, zb, zq, zr⟩ := M3.facts
        by_cases hless : 2 * r < B
        · have hless' : decide (2 * r < B) = true := decide_eq_true hless
          go_wp2
          go_roundw
          case rel => exact ⟨j, 2 * q, 2 * r, by omega, rfl, M3, hless, div_step0 A B q r j 0 HQ.out HBit.out⟩
          case measure => simp [intOf]
        · have hless' : decide (2 * r < B) = false := decide_eq_false hless
          go_wp2_with fail
          refine (subN (2 * r) bh bl B (by omega) (by omega) h4 HB.out (by omega) _).mono ?_
          rintro e w4 ⟨rfl, hb⟩
          have M4 := DivMem.below M3 hb
          clear hb M3 ca0 ca1 cb0 cb1 cq0 cq1 fq0 fq1 cr0 cr1 fr0 fr1 za zb zq zr
          obtain ⟨⟨ca0, ca1, cb0, cb1⟩, ⟨cq0, cq1, fq0, fq1⟩, ⟨cr0, cr1, fr0, fr1⟩, za, zb, zq, zr⟩ := M4.facts
          go_wp2
          go_roundw
          case rel => exact ⟨j, 2 * q + 1, 2 * r - B, by omega, rfl, by rw [or1N]; exact (M4.setr _).setq1 (2 * q + 1) (hN1 q), by have := HR.out; omega, div_step1 A B q r j 0 HQ.out HBit.out (by omega)⟩
          case measure => simp [intOf]
      · skip
        have eb : bits .and .u64 ((al : Int) / 2 ^ (j)) 1 = 0 := bit_and al (j) 0 h2 (by rw [bit_lo ah al A j HA.out (by omega)]; exact hbit)
        have HBit := Lib.hid hbit; clear hbit
        go_wp2_with fail
        refine (dblN r (by omega) _).mono ?_
        rintro e w1 ⟨rfl, hb⟩
        have M1 := HM.out.below hb
        clear hb ca0 ca1 cb0 cb1 cq0 cq1 fq0 fq1 cr0 cr1 fr0 fr1 za zb zq zr
        obtain ⟨⟨ca0, ca1, cb0, cb1⟩, ⟨cq0, cq1, fq0, fq1⟩, ⟨cr0, cr1, fr0, fr1⟩, za, zb, zq, zr⟩ := M1.facts
        go_wp2_with fail
        refine (dblN q (by omega) _).mono ?_
        rintro e w2 ⟨rfl, hb⟩
        have M2 := DivMem.below (M1.setr (2 * r)) (by exact hb)
        clear hb M1 ca0 ca1 cb0 cb1 cq0 cq1 fq0 fq1 cr0 cr1 fr0 fr1 za zb zq zr eb
        obtain ⟨⟨ca0, ca1, cb0, cb1⟩, ⟨cq0, cq1, fq0, fq1⟩, ⟨cr0, cr1, fr0, fr1⟩, za, zb, zq, zr⟩ := M2.facts
        go_wp2_with fail
        refine (lessN (2 * r) bh bl B (by omega) h4 HB.out _).mono ?_
        rintro e w3 ⟨rfl, hb⟩
        have M3 := DivMem.below (M2.setq (2 * q)) hb
        clear hb M2 ca0 ca1 cb0 cb1 cq0 cq1 fq0 fq1 cr0 cr1 fr0 fr1 za zb zq zr
        obtain ⟨⟨ca0, ca1, cb0, cb1⟩, ⟨cq0, cq1, fq0, fq1⟩, ⟨cr0, cr1, fr0, fr1⟩, za, zb, zq, zr⟩ := M3.facts
        by_cases hless : 2 * r < B
        · have hless' : decide (2 * r < B) = true := decide_eq_true hless
          go_wp2
          go_roundw
          case rel => exact ⟨j, 2 * q, 2 * r, by omega, rfl, M3, hless, div_step0 A B q r j 0 HQ.out HBit.out⟩
          case measure => simp [intOf]
        · have hless' : decide (2 * r < B) = false := decide_eq_false hless
          go_wp2_with fail
          refine (subN (2 * r) bh bl B (by omega) (by omega) h4 HB.out (by omega) _).mono ?_
          rintro e w4 ⟨rfl, hb⟩
          have M4 := DivMem.below M3 hb
          clear hb M3 ca0 ca1 cb0 cb1 cq0 cq1 fq0 fq1 cr0 cr1 fr0 fr1 za zb zq zr
          obtain ⟨⟨ca0, ca1, cb0, cb1⟩, ⟨cq0, cq1, fq0, fq1⟩, ⟨cr0, cr1, fr0, fr1⟩, za, zb, zq, zr⟩ := M4.facts
          go_wp2
          go_roundw
          case rel => exact ⟨j, 2 * q + 1, 2 * r - B, by omega, rfl, by rw [or1N]; exact (M4.setr _).setq1 (2 * q + 1) (hN1 q), by have := HR.out; omega, div_step1 A B q r j 0 HQ.out HBit.out (by omega)⟩
          case measure => simp [intOf]
      · skip
        have eb : bits .and .u64 ((ah : Int) / 2 ^ (j - 64)) 1 = 1 := bit_and ah (j - 64) 1 h1 (by rw [bit_hi ah al A j HA.out h2 hj6]; exact hbit)
        have HBit := Lib.hid hbit; clear hbit
        go_wp2_with fail
        refine (dblN r (by omega) _).mono ?_
        rintro e w1 ⟨rfl, hb⟩
        have M1 := HM.out.below hb
        clear hb ca0 ca1 cb0 cb1 cq0 cq1 fq0 fq1 cr0 cr1 fr0 fr1 za zb zq zr
        obtain ⟨⟨ca0, ca1, cb0, cb1⟩, ⟨cq0, cq1, fq0, fq1⟩, ⟨cr0, cr1, fr0, fr1⟩, za, zb, zq, zr⟩ := M1.facts
        go_wp2_with fail
        refine (dblN q (by omega) _).mono ?_
        rintro e w2 ⟨rfl, hb⟩
        have M2 := DivMem.below ((M1.setr (2 * r)).setr1 (2 * r + 1) (hN1 r)) (by rw [← or1N]; exact hb)
        clear hb M1 ca0 ca1 cb0 cb1 cq0 cq1 fq0 fq1 cr0 cr1 fr0 fr1 za zb zq zr eb
        obtain ⟨⟨ca0, ca1, cb0, cb1⟩, ⟨cq0, cq1, fq0, fq1⟩, ⟨cr0, cr1, fr0, fr1⟩, za, zb, zq, zr⟩ := M2.facts
        go_wp2_with fail
        refine (lessN (2 * r + 1) bh bl B (by omega) h4 HB.out _).mono ?_
        rintro e w3 ⟨rfl, hb⟩
        have M3 := DivMem.below (M2.setq (2 * q)) hb
        clear hb M2 ca0 ca1 cb0 cb1 cq0 cq1 fq0 fq1 cr0 cr1 fr0 fr1 za zb zq zr
        obtain ⟨⟨ca0, ca1, cb0, cb1⟩, ⟨cq0, cq1, fq0, fq1⟩, ⟨cr0, cr1, fr0, fr1⟩, za, zb, zq, zr⟩ := M3.facts
        by_cases hless : 2 * r + 1 < B
        · have hless' : decide (2 * r + 1 < B) = true := decide_eq_true hless
          go_wp2
          go_roundw
          case rel => exact ⟨j, 2 * q, 2 * r + 1, by omega, rfl, M3, hless, div_step0 A B q r j 1 HQ.out HBit.out⟩
          case measure => simp [intOf]
        · have hless' : decide (2 * r + 1 < B) = false := decide_eq_false hless
          go_wp2_with fail
          refine (subN (2 * r + 1) bh bl B (by omega) (by omega) h4 HB.out (by omega) _).mono ?_
          rintro e w4 ⟨rfl, hb⟩
          have M4 := DivMem.below M3 hb
          clear hb M3 ca0 ca1 cb0 cb1 cq0 cq1 fq0 fq1 cr0 cr1 fr0 fr1 za zb zq zr
          obtain ⟨⟨ca0, ca1, cb0, cb1⟩, ⟨cq0, cq1, fq0, fq1⟩, ⟨cr0, cr1, fr0, fr1⟩, za, zb, zq, zr⟩ := M4.facts
          go_wp2
          go_roundw
          case rel => exact ⟨j, 2 * q + 1, 2 * r + 1 - B, by omega, rfl, by rw [or1N]; exact (M4.setr _).setq1 (2 * q + 1) (hN1 q), by have := HR.out; omega, div_step1 A B q r j 1 HQ.out HBit.out (by omega)⟩
          case measure => simp [intOf]
      · skip
        have eb : bits .and .u64 ((al : Int) / 2 ^ (j)) 1 = 1 := bit_and al (j) 1 h2 (by rw [bit_lo ah al A j HA.out (by omega)]; exact hbit)
        have HBit := Lib.hid hbit; clear hbit
        go_wp2_with fail
        refine (dblN r (by omega) _).mono ?_
        rintro e w1 ⟨rfl, hb⟩
        have M1 := HM.out.below hb
        clear hb ca0 ca1 cb0 cb1 cq0 cq1 fq0 fq1 cr0 cr1 fr0 fr1 za zb zq zr
        obtain ⟨⟨ca0, ca1, cb0, cb1⟩, ⟨cq0, cq1, fq0, fq1⟩, ⟨cr0, cr1, fr0, fr1⟩, za, zb, zq, zr⟩ := M1.facts
        go_wp2_with fail
        refine (dblN q (by omega) _).mono ?_
        rintro e w2 ⟨rfl, hb⟩
        have M2 := DivMem.below ((M1.setr (2 * r)).setr1 (2 * r + 1) (hN1 r)) (by rw [← or1N]; exact hb)
        clear hb M1 ca0 ca1 cb0 cb1 cq0 cq1 fq0 fq1 cr0 cr1 fr0 fr1 za zb zq zr eb
        obtain ⟨⟨ca0, ca1, cb0, cb1⟩, ⟨cq0, cq1, fq0, fq1⟩, ⟨cr0, cr1, fr0, fr1⟩, za, zb, zq, zr⟩ := M2.facts
        go_wp2_with fail
        refine (lessN (2 * r + 1) bh bl B (by omega) h4 HB.out _).mono ?_
        rintro e w3 ⟨rfl, hb⟩
        have M3 := DivMem.below (M2.setq (2 * q)) hb
        clear hb M2 ca0 ca1 cb0 cb1 cq0 cq1 fq0 fq1 cr0 cr1 fr0 fr1 za zb zq zr
        obtain ⟨⟨ca0, ca1, cb0, cb1⟩, ⟨cq0, cq1, fq0, fq1⟩, ⟨cr0, cr1, fr0, fr1⟩, za, zb, zq, zr⟩ := M3.facts
        by_cases hless : 2 * r + 1 < B
        · have hless' : decide (2 * r + 1 < B) = true := decide_eq_true hless
          go_wp2
          go_roundw
          case rel => exact ⟨j, 2 * q, 2 * r + 1, by omega, rfl, M3, hless, div_step0 A B q r j 1 HQ.out HBit.out⟩
          case measure => simp [intOf]
        · have hless' : decide (2 * r + 1 < B) = false := decide_eq_false hless
          go_wp2_with fail
          refine (subN (2 * r + 1) bh bl B (by omega) (by omega) h4 HB.out (by omega) _).mono ?_
          rintro e w4 ⟨rfl, hb⟩
          have M4 := DivMem.below M3 hb
          clear hb M3 ca0 ca1 cb0 cb1 cq0 cq1 fq0 fq1 cr0 cr1 fr0 fr1 za zb zq zr
          obtain ⟨⟨ca0, ca1, cb0, cb1⟩, ⟨cq0, cq1, fq0, fq1⟩, ⟨cr0, cr1, fr0, fr1⟩, za, zb, zq, zr⟩ := M4.facts
          go_wp2
          go_roundw
          case rel => exact ⟨j, 2 * q + 1, 2 * r + 1 - B, by omega, rfl, by rw [or1N]; exact (M4.setr _).setq1 (2 * q + 1) (hN1 q), by have := HR.out; omega, div_step1 A B q r j 1 HQ.out HBit.out (by omega)⟩
          case measure => simp [intOf]
end Go.Proofs.YtioohmhllajifaaGreat

/- The walk of the reference's gcd. -/
namespace Go.Proofs.YtioohmhllajifaaGreat
open Go.RowKit Go.Lib Go.BigFrame
/-- the memory of gcd: two numbers and the place of the result -/
structure GcdMem (w wr : World) (a b : Nat) : Prop where
  B : Below w.heap.size w wr
  a : Blk2 wr w.heap.size 96 (.int .u64 (hN a)) (.int .u64 (lN a))
  b : Blk2 wr (w.heap.size + 1) 96 (.int .u64 (hN b)) (.int .u64 (lN b))
  x : Blk2 wr (w.heap.size + 1 + 1) 96 (.int .u64 0) (.int .u64 0)
namespace GcdMem
variable {w wr wr' : World} {a b : Nat}
theorem below (M : GcdMem w wr a b) (hb : Below wr.heap.size wr wr') : GcdMem w wr' a b :=
  ⟨M.B.trans (hb.mono M.B.size), M.a.below hb M.a.lt, M.b.below hb M.b.lt, M.x.below hb M.x.lt⟩
theorem step (M : GcdMem w wr a b) (x y : Nat) (u v : Value) (u' v' : Value) : GcdMem w
    ((((((wr.setCell ⟨w.heap.size, 0, none⟩ (.int .u64 (hN x))).setCell ⟨w.heap.size, 1, none⟩ (.int .u64 (lN x))).setCell ⟨w.heap.size + 1, 0, none⟩ (.int .u64 (hN y))).setCell
      ⟨w.heap.size + 1, 1, none⟩ (.int .u64 (lN y))).alloc (.cells #[u, v] 96)).alloc (.cells #[u', v'] 96)).drew x y := by
  have hB := M.B
  have ha := ((((((M.a.set0 (.int .u64 (hN x))).set1 (.int .u64 (lN x))).other (p := ⟨w.heap.size + 1, 0, none⟩) (by dsimp only; omega) (.int .u64 (hN y))).other (p := ⟨w.heap.size + 1, 1, none⟩) (by dsimp only; omega) (.int .u64 (lN y))).alloc (.cells #[u, v] 96)).alloc (.cells #[u', v'] 96)).drewN 1
  have hb := ((((((M.b.other (p := ⟨w.heap.size, 0, none⟩) (by dsimp only; omega) (.int .u64 (hN x))).other (p := ⟨w.heap.size, 1, none⟩) (by dsimp only; omega) (.int .u64 (lN x))).set0 (.int .u64 (hN y))).set1 (.int .u64 (lN y))).alloc (.cells #[u, v] 96)).alloc (.cells #[u', v'] 96)).drewN 1
  have hx := ((((((M.x.other (p := ⟨w.heap.size, 0, none⟩) (by dsimp only; omega) (.int .u64 (hN x))).other (p := ⟨w.heap.size, 1, none⟩) (by dsimp only; omega) (.int .u64 (lN x))).other (p := ⟨w.heap.size + 1, 0, none⟩) (by dsimp only; omega) (.int .u64 (hN y))).other (p := ⟨w.heap.size + 1, 1, none⟩) (by dsimp only; omega) (.int .u64 (lN y))).alloc (.cells #[u, v] 96)).alloc (.cells #[u', v'] 96)).drewN 1
  refine ⟨?_, ha, hb, hx⟩
  refine Below.drew (Below.alloc (Below.alloc ?_ (by have := hB.size; simp; omega) _) (by have := hB.size; simp; omega) _)
  exact (((hB.setCell (by dsimp only; omega) _).setCell (by dsimp only; omega) _).setCell (by dsimp only; omega) _).setCell (by dsimp only; omega) _
end GcdMem
theorem gcd_start (w : World) (a b : Nat) : GcdMem w
   (((w.alloc (.cells #[.int .u64 (hN a), .int .u64 (lN a)] 96)).alloc (.cells #[.int .u64 (hN b), .int .u64 (lN b)] 96)).alloc (.cells #[.int .u64 0, .int .u64 0] 96)) a b := by
  refine ⟨by go_grown, ?_, ?_, ?_⟩ <;> (repeat' (first | (refine Blk2.new' ?_; simp; done) | (refine Blk2.alloc ?_ _)))
theorem divN_any (a b : Nat) (h1 : a < 340282366920938463463374607431768211456) (h2 : b < 170141183460469231731687303715884105728) (hp : 0 < b) (w : World) :
    Calls Tryz.prog 90 #[.agg #[.int .u64 (hN a), .int .u64 (lN a)], .agg #[.int .u64 (hN b), .int .u64 (lN b)]] w fun e w' =>
      e = .returned (.tuple #[.agg #[.int .u64 (hN (a / b)), .int .u64 (lN (a / b))], .agg #[.int .u64 (hN (a % b)), .int .u64 (lN (a % b))]]) ∧ Below w.heap.size w w' :=
  divide_any (hN a) (lN a) (hN b) (lN b) a b w (hN_lt _) (lN_lt _) (by unfold hN; omega) (lN_lt _) (uw_nat _ h1) (uw_nat _ (by omega)) hp
set_option maxHeartbeats 1000000 in
theorem gcd_any (A B : Nat) (w : World) (h1 : A < 340282366920938463463374607431768211456) (h2 : B < 170141183460469231731687303715884105728) :
    Calls Tryz.prog 89 #[.agg #[.int .u64 (hN A), .int .u64 (lN A)], .agg #[.int .u64 (hN B), .int .u64 (lN B)]] w fun e w' =>
      e = .returned (.agg #[.int .u64 (hN (Nat.gcd A B)), .int .u64 (lN (Nat.gcd A B))]) ∧ Below w.heap.size w w' := by
  go_enter Tryz.func89, Tryz.ntmps89
  go_wp2
  go_loopg [] B (fun k wr => ∃ a b : Nat, b ≤ k ∧ a < 340282366920938463463374607431768211456 ∧ b < 170141183460469231731687303715884105728 ∧ Nat.gcd a b = Nat.gcd A B ∧ GcdMem w wr a b)
  case atStart => exact ⟨A, B, Nat.le_refl _, h1, h2, rfl, gcd_start w A B⟩
  case round =>
    obtain ⟨a, b, hk, ha, hb, hg, hM⟩ := hrel
    have HG := Lib.hid hg; clear hg
    have HM := Lib.hid hM
    have ca0 := hM.a.c0; have ca1 := hM.a.c1; have cb0 := hM.b.c0; have cb1 := hM.b.c1
    have fa0 := hM.a.f0; have fa1 := hM.a.f1; have fb0 := hM.b.f0; have fb1 := hM.b.f1
    have za := hM.a.lt; have zb := hM.b.lt
    by_cases h0 : b = 0
    · subst h0
      have cx0 := hM.x.c0; have cx1 := hM.x.c1; have fx0 := hM.x.f0; have fx1 := hM.x.f1; have zx := hM.x.lt
      have hB := hM.B
      clear hM
      rw [show hN 0 = 0 from rfl] at cb0
      rw [show lN 0 = 0 from rfl] at cb1
      go_wp2
      refine bodyPost_ret (v := .agg #[.int .u64 (hN a), .int .u64 (lN a)]) (by simp [results, Tryz.results89, go_sem, *]) rfl ⟨?_, by go_grown⟩
      rw [← HG.out, Nat.gcd_zero_right]
    · clear hM
      have hp : 0 < b := by omega
      have hcase : ((hN b : Int) == 0) = false ∨ ((hN b : Int) == 0) = true ∧ ((lN b : Int) == 0) = false := by
        by_cases h : hN b = 0
        · refine Or.inr ⟨by rw [h]; rfl, ?_⟩
          rw [beq_eq_false_iff_ne]
          unfold hN at h; unfold lN; omega
        · exact Or.inl (by rw [beq_eq_false_iff_ne]; omega)
      rcases hcase with hc0 | ⟨hc0, hc1⟩
      all_goals
        go_wp2_with fail
        refine (divN_any a b ha hb hp _).mono ?_
        rintro e w1 ⟨rfl, hb1⟩
        have M1 := HM.out.below hb1
        clear hb1 ca0 ca1 cb0 cb1 fa0 fa1 fb0 fb1 za zb
        have ca0 := M1.a.c0; have ca1 := M1.a.c1; have cb0 := M1.b.c0; have cb1 := M1.b.c1
        have fa0 := M1.a.f0; have fa1 := M1.a.f1; have fb0 := M1.b.f0; have fb1 := M1.b.f1
        have za := M1.a.lt; have zb := M1.b.lt
        have HM1 := Lib.hid M1; clear M1
        go_wp2
        go_region
        all_goals
          go_wp2
          go_roundg (a % b)
          case measure => have := Nat.mod_lt a hp; omega
          case rel =>
            have hl := Nat.mod_lt a hp
            refine ⟨b, a % b, Nat.le_refl _, by omega, by omega, by rw [← HG.out, Nat.gcd_comm b, ← Nat.gcd_rec, Nat.gcd_comm], ?_⟩
            exact HM1.out.step b (a % b) _ _ _ _
end Go.Proofs.YtioohmhllajifaaGreat

/- The walk of the reference's reduce. -/
namespace Go.Proofs.YtioohmhllajifaaGreat
open Go.RowKit Go.Lib Go.BigFrame
theorem nz_words (n : Nat) (h : n < 340282366920938463463374607431768211456) (hp : 0 < n) : ((hN n : Int) == 0) = false ∨ ((hN n : Int) == 0) = true ∧ ((lN n : Int) == 0) = false := by
  by_cases h' : hN n = 0
  · refine Or.inr ⟨by rw [h']; rfl, ?_⟩
    rw [beq_eq_false_iff_ne]
    unfold hN at h'; unfold lN; omega
  · exact Or.inl (by rw [beq_eq_false_iff_ne]; omega)
theorem words_small (n : Nat) (h : n ≤ 1152921504606846976) : hN n = 0 ∧ lN n = n := by unfold hN lN; omega
theorem quo_zero (D : Nat) (h : 0 < D) : quoN 0 D = 0 ∧ quoD 0 D = 1 := by unfold quoN quoD; simp [Nat.div_self h]
theorem nr_ok (s : Bool) (n d : Nat) (h1 : n ≤ 1152921504606846976) (h2 : d ≤ 1152921504606846976) : nrN (sgn s n) d = sgn s n ∧ nrD (sgn s n) d = d ∧ nrE (sgn s n) d = 0 := by
  have : (sgn s n).natAbs ≤ 1152921504606846976 ∧ ((d : Nat) : Int).natAbs ≤ 1152921504606846976 := by unfold sgn; split <;> omega
  exact ⟨if_pos this, if_pos this, if_pos this⟩
theorem nr_no (s : Bool) (n d : Nat) (h : ¬ (n ≤ 1152921504606846976 ∧ d ≤ 1152921504606846976)) : nrN (sgn s n) d = 0 ∧ nrD (sgn s n) d = 0 ∧ nrE (sgn s n) d = 3 := by
  have : ¬ ((sgn s n).natAbs ≤ 1152921504606846976 ∧ ((d : Nat) : Int).natAbs ≤ 1152921504606846976) := by unfold sgn; split <;> omega
  exact ⟨if_neg this, if_neg this, if_neg this⟩
set_option maxHeartbeats 1000000 in
theorem reduce_zero (s : Bool) (D : Nat) (w : World) :
    Calls Tryz.prog 72 #[.bool s, .agg #[.int .u64 (hN 0), .int .u64 (lN 0)], .agg #[.int .u64 (hN D), .int .u64 (lN D)]] w fun e w' =>
      e = .returned (.tuple #[.agg #[.int .i64 0, .int .i64 1], .int .i64 0]) ∧ Below w.heap.size w w' := by
  rw [show hN 0 = 0 from rfl, show lN 0 = 0 from rfl]
  go_enter Tryz.func72, Tryz.ntmps72
  go_wp2
  exact bodyPost_ret (v := .tuple #[.agg #[.int .i64 0, .int .i64 1], .int .i64 0]) (by simp [results, Tryz.results72, go_sem, *]) rfl ⟨rfl, by go_grown⟩
set_option maxHeartbeats 1000000 in
theorem reduce_ok (s : Bool) (N D : Nat) (w : World) (hN1 : N < 340282366920938463463374607431768211456) (hD1 : D < 170141183460469231731687303715884105728) (hp : 0 < D) (hp2 : 0 < N)
    (n d : Nat) (hn : quoN N D = n) (hd : quoD N D = d) (hn1 : n ≤ 1152921504606846976) (hd1 : d ≤ 1152921504606846976) :
    Calls Tryz.prog 72 #[.bool s, .agg #[.int .u64 (hN N), .int .u64 (lN N)], .agg #[.int .u64 (hN D), .int .u64 (lN D)]] w fun e w' =>
      e = .returned (.tuple #[.agg #[.int .i64 (sgn s n), .int .i64 d], .int .i64 0]) ∧ Below w.heap.size w w' := by
  have hD2 : D < 340282366920938463463374607431768211456 := by omega
  have hg : 0 < Nat.gcd N D := Nat.gcd_pos_of_pos_right _ hp
  have hg2 : Nat.gcd N D ≤ D := Nat.gcd_le_right _ hp
  have hg3 : Nat.gcd N D < 170141183460469231731687303715884105728 := by omega
  have c34 := fun w => gcd_any N D w hN1 hD1
  have cN := fun w => divN_any N (Nat.gcd N D) hN1 hg3 hg w
  have cD := fun w => divN_any D (Nat.gcd N D) hD2 hg3 hg w
  rw [show N / Nat.gcd N D = n from hn, (words_small n hn1).1, (words_small n hn1).2] at cN
  rw [show D / Nat.gcd N D = d from hd, (words_small d hd1).1, (words_small d hd1).2] at cD
  generalize Nat.gcd N D = g at *
  have hnz := nz_words N hN1 hp2
  have C34 := Lib.hid c34; clear c34
  have CN := Lib.hid cN; have CD := Lib.hid cD; clear cN cD hn hd hg hg2 hg3 hN1 hD1 hD2
  rcases hnz with hc0 | ⟨hc0, hc1⟩
  all_goals
    cases s
    all_goals
      go_enter Tryz.func72, Tryz.ntmps72
      go_wp2_with fail
      refine (C34.out _).mono ?_
      rintro e w1 ⟨rfl, hb⟩
      have hB1 := bnext (w := w) (by go_grown) hb
      have bN : Blk2 w1 w.heap.size 96 (.int .u64 (hN N)) (.int .u64 (lN N)) := ((Blk2.new.alloc _).alloc _).below hb (by simp; omega)
      have bD : Blk2 w1 (w.heap.size + 1) 96 (.int .u64 (hN D)) (.int .u64 (lN D)) := ((Blk2.new' (by simp)).alloc _).below hb (by simp)
      have bR : Blk2 w1 (w.heap.size + 1 + 1) 45 (.int .i64 0) (.int .i64 0) := (Blk2.new' (by simp)).below hb (by simp)
      clear hb
      have cn0 := bN.c0; have cn1 := bN.c1; have zn := bN.lt
      go_wp2_with fail
      refine (CN.out _).mono ?_
      rintro e w2 ⟨rfl, hb⟩
      have hB2 := bnext (w := w) (by go_grown) hb
      have bD2 := (bD.alloc _).below hb (bD.alloc _).lt
      have bR2 := (bR.alloc _).below hb (bR.alloc _).lt
      have bG2 : Blk2 w2 w1.heap.size 96 (.int .u64 (hN g)) (.int .u64 (lN g)) := Blk2.new.below hb (by simp)
      clear hb bD bR bN cn0 cn1 zn
      have cn0 := bD2.c0; have cn1 := bD2.c1; have zn := bD2.lt; have cg0 := bG2.c0; have cg1 := bG2.c1; have zg := bG2.lt
      have zna : w.heap.size < w2.heap.size := by omega
      go_wp2_with fail
      refine (CD.out _).mono ?_
      rintro e w3 ⟨rfl, hb⟩
      have hB3 := bnext (w := w) (by go_grown) hb
      have bR3 := ((bR2.alloc _).alloc _).below hb ((bR2.alloc _).alloc _).lt
      have bX : Blk2 w3 w2.heap.size 96 (.int .u64 0) (.int .u64 n) := (Blk2.new.alloc _).below hb (by simp; omega)
      clear hb bD2 bR2 bG2 cn0 cn1 zn cg0 cg1 zg zna
      have cn0 := bX.c0; have cn1 := bX.c1; have zn := bX.lt
      have cr0 := bR3.c0; have cr1 := bR3.c1; have zr := bR3.lt; have fr0 := bR3.f0; have fr1 := bR3.f1
      have zra : w.heap.size < w3.heap.size := by omega
      have zrb : w.heap.size + 1 < w3.heap.size := by omega
      clear bX bR3
      go_wp2
      first
        | exact bodyPost_ret (v := .tuple #[.agg #[.int .i64 (n : Int), .int .i64 d], .int .i64 0]) (by simp [results, Tryz.results72, go_sem, *]) rfl ⟨rfl, by go_grown⟩
        | exact bodyPost_ret (v := .tuple #[.agg #[.int .i64 (-(n : Int)), .int .i64 d], .int .i64 0]) (by simp [results, Tryz.results72, go_sem, *]) rfl ⟨rfl, by go_grown⟩

theorem big_cases (n d : Nat) (hn : n < 340282366920938463463374607431768211456) (hd : d < 340282366920938463463374607431768211456) (h : ¬ (n ≤ 1152921504606846976 ∧ d ≤ 1152921504606846976)) :
    0 < hN n ∨ (hN n = 0 ∧ 0 < hN d) ∨ (hN n = 0 ∧ hN d = 0 ∧ 1152921504606846976 < lN n) ∨ (hN n = 0 ∧ hN d = 0 ∧ lN n ≤ 1152921504606846976 ∧ 1152921504606846976 < lN d) := by
  unfold hN lN; omega
set_option maxHeartbeats 1000000 in
theorem reduce_no (s : Bool) (N D : Nat) (w : World) (hN1 : N < 340282366920938463463374607431768211456) (hD1 : D < 170141183460469231731687303715884105728) (hp : 0 < D) (hp2 : 0 < N)
    (n d : Nat) (hn : quoN N D = n) (hd : quoD N D = d) (hbig : ¬ (n ≤ 1152921504606846976 ∧ d ≤ 1152921504606846976)) :
    Calls Tryz.prog 72 #[.bool s, .agg #[.int .u64 (hN N), .int .u64 (lN N)], .agg #[.int .u64 (hN D), .int .u64 (lN D)]] w fun e w' =>
      e = .returned (.tuple #[.agg #[.int .i64 0, .int .i64 0], .int .i64 3]) ∧ Below w.heap.size w w' := by
  have hD2 : D < 340282366920938463463374607431768211456 := by omega
  have hg : 0 < Nat.gcd N D := Nat.gcd_pos_of_pos_right _ hp
  have hg2 : Nat.gcd N D ≤ D := Nat.gcd_le_right _ hp
  have hg3 : Nat.gcd N D < 170141183460469231731687303715884105728 := by omega
  have hcs := big_cases n d (by have := quoN_le N D; omega) (by have := quoD_le N D; omega) hbig
  have c34 := fun w => gcd_any N D w hN1 hD1
  have cN := fun w => divN_any N (Nat.gcd N D) hN1 hg3 hg w
  have cD := fun w => divN_any D (Nat.gcd N D) hD2 hg3 hg w
  rw [show N / Nat.gcd N D = n from hn] at cN
  rw [show D / Nat.gcd N D = d from hd] at cD
  generalize Nat.gcd N D = g at *
  generalize hN n = p at *
  generalize lN n = q at *
  generalize hN d = p' at *
  generalize lN d = q' at *
  have hnz := nz_words N hN1 hp2
  have C34 := Lib.hid c34; clear c34
  have CN := Lib.hid cN; have CD := Lib.hid cD; clear cN cD hn hd hg hg2 hg3 hN1 hD1 hD2 hbig
  rcases hnz with hc0 | ⟨hc0, hc1⟩
  all_goals
    rcases hcs with hq | ⟨rfl, hq⟩ | ⟨rfl, rfl, hq⟩ | ⟨rfl, rfl, hq2, hq⟩
    all_goals
      go_enter Tryz.func72, Tryz.ntmps72
      go_wp2_with fail
      refine (C34.out _).mono ?_
      rintro e w1 ⟨rfl, hb⟩
      have hB1 := bnext (w := w) (by go_grown) hb
      have bN : Blk2 w1 w.heap.size 96 (.int .u64 (hN N)) (.int .u64 (lN N)) := ((Blk2.new.alloc _).alloc _).below hb (by simp; omega)
      have bD : Blk2 w1 (w.heap.size + 1) 96 (.int .u64 (hN D)) (.int .u64 (lN D)) := ((Blk2.new' (by simp)).alloc _).below hb (by simp)
      have bR : Blk2 w1 (w.heap.size + 1 + 1) 45 (.int .i64 0) (.int .i64 0) := (Blk2.new' (by simp)).below hb (by simp)
      clear hb
      have cn0 := bN.c0; have cn1 := bN.c1; have zn := bN.lt
      go_wp2_with fail
      refine (CN.out _).mono ?_
      rintro e w2 ⟨rfl, hb⟩
      have hB2 := bnext (w := w) (by go_grown) hb
      have bD2 := (bD.alloc _).below hb (bD.alloc _).lt
      have bR2 := (bR.alloc _).below hb (bR.alloc _).lt
      have bG2 : Blk2 w2 w1.heap.size 96 (.int .u64 (hN g)) (.int .u64 (lN g)) := Blk2.new.below hb (by simp)
      clear hb bD bR bN cn0 cn1 zn
      have cn0 := bD2.c0; have cn1 := bD2.c1; have zn := bD2.lt; have cg0 := bG2.c0; have cg1 := bG2.c1; have zg := bG2.lt
      have zna : w.heap.size < w2.heap.size := by omega
      go_wp2_with fail
      refine (CD.out _).mono ?_
      rintro e w3 ⟨rfl, hb⟩
      have hB3 := bnext (w := w) (by go_grown) hb
      have bR3 := ((bR2.alloc _).alloc _).below hb ((bR2.alloc _).alloc _).lt
      have bX : Blk2 w3 w2.heap.size 96 _ _ := (Blk2.new.alloc _).below hb (by simp; omega)
      clear hb bD2 bR2 bG2 cn0 cn1 zn cg0 cg1 zg zna
      have cn0 := bX.c0; have cn1 := bX.c1; have zn := bX.lt
      have cr0 := bR3.c0; have cr1 := bR3.c1; have zr := bR3.lt; have fr0 := bR3.f0; have fr1 := bR3.f1
      have zra : w.heap.size < w3.heap.size := by omega
      have zrb : w.heap.size + 1 < w3.heap.size := by omega
      clear bX bR3
      go_wp2
      exact bodyPost_ret (v := .tuple #[.agg #[.int .i64 0, .int .i64 0], .int .i64 3]) (by simp [results, Tryz.results72, go_sem, *]) rfl ⟨rfl, by go_grown⟩
end Go.Proofs.YtioohmhllajifaaGreat

/- Walks of the reference's Make and Valid. -/
namespace Go.Proofs.YtioohmhllajifaaGreat
open Go.RowKit Go.Lib Go.BigFrame
/-- the answer (fraction, error) as a value -/
def ans (n d e : Int) : Value := .tuple #[.agg #[.int .i64 n, .int .i64 d], .int .i64 e]
theorem reduce_any (s : Bool) (N D : Nat) (w : World) (hN1 : N < 340282366920938463463374607431768211456) (hD1 : D < 170141183460469231731687303715884105728) (hp : 0 < D) :
    Calls Tryz.prog 72 #[.bool s, .agg #[.int .u64 (hN N), .int .u64 (lN N)], .agg #[.int .u64 (hN D), .int .u64 (lN D)]] w fun e w' =>
      e = .returned (.tuple #[.agg #[.int .i64 (nrN (sgn s (quoN N D)) (quoD N D)), .int .i64 (nrD (sgn s (quoN N D)) (quoD N D))], .int .i64 (nrE (sgn s (quoN N D)) (quoD N D))]) ∧ Below w.heap.size w w' := by
  by_cases h0 : N = 0
  · subst h0
    obtain ⟨e1, e2⟩ := quo_zero D hp
    rw [e1, e2]
    obtain ⟨f1, f2, f3⟩ := nr_ok s 0 1 (by omega) (by omega)
    rw [f1, f2, f3, show sgn s 0 = 0 by unfold sgn; split <;> rfl]
    exact reduce_zero s D w
  · by_cases hb : quoN N D ≤ 1152921504606846976 ∧ quoD N D ≤ 1152921504606846976
    · obtain ⟨f1, f2, f3⟩ := nr_ok s _ _ hb.1 hb.2
      rw [f1, f2, f3]
      exact reduce_ok s N D w hN1 hD1 hp (by omega) _ _ rfl rfl hb.1 hb.2
    · obtain ⟨f1, f2, f3⟩ := nr_no s _ _ hb
      rw [f1, f2, f3]
      exact reduce_no s N D w hN1 hD1 hp (by omega) _ _ rfl rfl hb
theorem reduce_small (s : Bool) (N D : Nat) (w : World) (hN1 : N < 18446744073709551616) (hD1 : D < 18446744073709551616) (hp : 0 < D) :
    Calls Tryz.prog 72 #[.bool s, .agg #[.int .u64 0, .int .u64 N], .agg #[.int .u64 0, .int .u64 D]] w fun e w' =>
      e = .returned (.tuple #[.agg #[.int .i64 (nrN (sgn s (quoN N D)) (quoD N D)), .int .i64 (nrD (sgn s (quoN N D)) (quoD N D))], .int .i64 (nrE (sgn s (quoN N D)) (quoD N D))]) ∧ Below w.heap.size w w' := by
  have := reduce_any s N D w (by omega) (by omega) hp
  rwa [show hN N = 0 by unfold hN; omega, show lN N = N by unfold lN; omega, show hN D = 0 by unfold hN; omega, show lN D = D by unfold lN; omega] at this

set_option maxHeartbeats 400000 in
theorem rmake_zero (a : Int) (w : World) :
    Calls Tryz.prog 60 #[.int .i64 a, .int .i64 0] w fun e w' => e = .returned (.tuple #[.agg #[.int .i64 0, .int .i64 0], .int .i64 2]) ∧ Below w.heap.size w w' := by
  go_enter Tryz.func60, Tryz.ntmps60
  go_wp2
  exact bodyPost_ret (v := .tuple #[.agg #[.int .i64 0, .int .i64 0], .int .i64 2]) (by simp [results, Tryz.results60, go_sem, *]) rfl ⟨rfl, by go_grown⟩
set_option maxHeartbeats 1000000 in
theorem rmake_nz (a b : Int) (w : World) (ha1 : -9223372036854775808 ≤ a) (ha2 : a < 9223372036854775808) (hb1 : -9223372036854775808 ≤ b) (hb2 : b < 9223372036854775808) (h2 : b ≠ 0) (s : Bool) (hs : (decide (a < 0) == decide (b < 0)) = !s) :
    Calls Tryz.prog 60 #[.int .i64 a, .int .i64 b] w fun e w' =>
      e = .returned (.tuple #[.agg #[.int .i64 (nrN (sgn s (quoN a.natAbs b.natAbs)) (quoD a.natAbs b.natAbs)), .int .i64 (nrD (sgn s (quoN a.natAbs b.natAbs)) (quoD a.natAbs b.natAbs))], .int .i64 (nrE (sgn s (quoN a.natAbs b.natAbs)) (quoD a.natAbs b.natAbs))]) ∧ Below w.heap.size w w' := by
  have cA := fun w => size_any a w ha1 ha2
  have cB := fun w => size_any b w hb1 hb2
  have hb0 : (b == 0) = false := by simpa using h2
  have c32 := fun w => reduce_small s a.natAbs b.natAbs w (by omega) (by omega) (by omega)
  clear h2
  generalize nrN (sgn s (quoN a.natAbs b.natAbs)) (quoD a.natAbs b.natAbs) = r1 at *
  generalize nrD (sgn s (quoN a.natAbs b.natAbs)) (quoD a.natAbs b.natAbs) = r2 at *
  generalize nrE (sgn s (quoN a.natAbs b.natAbs)) (quoD a.natAbs b.natAbs) = r3 at *
  generalize a.natAbs = x at *
  generalize b.natAbs = y at *
  have CA := Lib.hid cA; clear cA
  have CB := Lib.hid cB; clear cB
  have C32 := Lib.hid c32; clear c32
  go_enter Tryz.func60, Tryz.ntmps60
  go_wp2_with fail
  refine (CA.out _).mono ?_
  rintro e w' ⟨rfl, rfl⟩
  go_wp2_with fail
  refine (CB.out _).mono ?_
  rintro e w' ⟨rfl, rfl⟩
  go_wp2_with fail
  refine (C32.out _).mono ?_
  rintro e w1 ⟨rfl, hb⟩
  have hB1 := bnext (w := w) (by go_grown) hb
  have bR : Blk2 w1 w.heap.size 45 (.int .i64 0) (.int .i64 0) := Blk2.new.below hb (by simp)
  clear hb
  have cn0 := bR.c0; have cn1 := bR.c1; have zn := bR.lt; have fn0 := bR.f0; have fn1 := bR.f1
  clear bR
  go_wp2
  exact bodyPost_ret (v := .tuple #[.agg #[.int .i64 r1, .int .i64 r2], .int .i64 r3]) (by simp [results, Tryz.results60, go_sem, *]) rfl ⟨rfl, by go_grown⟩

theorem gcd_small (a b : Nat) (w : World) (h1 : a < 18446744073709551616) (h2 : b < 18446744073709551616) :
    Calls Tryz.prog 89 #[.agg #[.int .u64 0, .int .u64 a], .agg #[.int .u64 0, .int .u64 b]] w fun e w' =>
      e = .returned (.agg #[.int .u64 0, .int .u64 (Nat.gcd a b : Nat)]) ∧ Below w.heap.size w w' := by
  have := gcd_any a b w (by omega) (by omega)
  have hg : Nat.gcd a b < 18446744073709551616 := by
    rcases Nat.eq_zero_or_pos a with h | h
    · subst h; simpa using h2
    · exact Nat.lt_of_le_of_lt (Nat.gcd_le_left _ h) h1
  rwa [show hN a = 0 by unfold hN; omega, show lN a = a by unfold lN; omega, show hN b = 0 by unfold hN; omega, show lN b = b by unfold lN; omega,
    show hN (Nat.gcd a b) = 0 by unfold hN; omega, show lN (Nat.gcd a b) = Nat.gcd a b by unfold lN; omega] at this
end Go.Proofs.YtioohmhllajifaaGreat

/- Make, Floor as functions of integers; awake. -/
namespace Go.Proofs.YtioohmhllajifaaGreat
open Go.RowKit Go.Lib Go.BigFrame
def sg (a b : Int) : Bool := !(decide (a < 0) == decide (b < 0))
/-- Make's answer -/
def mkN (a b : Int) : Int := if b = 0 then 0 else nrN (sgn (sg a b) (quoN a.natAbs b.natAbs)) (quoD a.natAbs b.natAbs)
def mkD (a b : Int) : Int := if b = 0 then 0 else nrD (sgn (sg a b) (quoN a.natAbs b.natAbs)) (quoD a.natAbs b.natAbs)
def mkE (a b : Int) : Int := if b = 0 then 2 else nrE (sgn (sg a b) (quoN a.natAbs b.natAbs)) (quoD a.natAbs b.natAbs)
theorem make_any (a b : Int) (w : World) (ha1 : -9223372036854775808 ≤ a) (ha2 : a < 9223372036854775808) (hb1 : -9223372036854775808 ≤ b) (hb2 : b < 9223372036854775808) :
    Calls Tryz.prog 39 #[.int .i64 a, .int .i64 b] w fun e w' => e = .returned (.tuple #[.agg #[.int .i64 (mkN a b), .int .i64 (mkD a b)], .int .i64 (mkE a b)]) ∧ Below w.heap.size w w' := by
  unfold mkN mkD mkE
  by_cases hb : b = 0
  · subst hb; exact make_zero a w
  · simp only [if_neg hb]; exact make_nz a b w ha1 ha2 hb1 hb2 hb (sg a b) (by simp [sg])
theorem rmake_any (a b : Int) (w : World) (ha1 : -9223372036854775808 ≤ a) (ha2 : a < 9223372036854775808) (hb1 : -9223372036854775808 ≤ b) (hb2 : b < 9223372036854775808) :
    Calls Tryz.prog 60 #[.int .i64 a, .int .i64 b] w fun e w' => e = .returned (.tuple #[.agg #[.int .i64 (mkN a b), .int .i64 (mkD a b)], .int .i64 (mkE a b)]) ∧ Below w.heap.size w w' := by
  unfold mkN mkD mkE
  by_cases hb : b = 0
  · subst hb; exact rmake_zero a w
  · simp only [if_neg hb]; exact rmake_nz a b w ha1 ha2 hb1 hb2 hb (sg a b) (by simp [sg])
/-- Floor's answer -/
def flr (n d : Int) : Int := if Vld n d then n / d else 0
theorem tdiv_bounds (n d : Int) (h1 : -1152921504606846976 ≤ n) (h2 : n ≤ 1152921504606846976) : -1152921504606846976 ≤ n.tdiv d ∧ n.tdiv d ≤ 1152921504606846976 := by
  have h : (n.tdiv d).natAbs ≤ n.natAbs := by rw [Int.natAbs_tdiv]; exact Nat.div_le_self _ _
  omega
theorem floor_cases (n d : Int) (hd : 1 ≤ d) : (n.tmod d < 0 → n.tdiv d - 1 = n / d) ∧ (¬ n.tmod d < 0 → n.tdiv d = n / d) := by
  have h1 := Int.mul_tdiv_add_tmod n d
  have h2 := Int.tmod_lt_of_pos n (b := d) (by omega)
  constructor
  · intro h
    have h3 : -d < n.tmod d := Int.lt_tmod_of_pos n (by omega)
    have : n / d = n.tdiv d - 1 := by
      have e : n = (n.tmod d + d) + d * (n.tdiv d - 1) := by rw [Int.mul_sub]; omega
      rw [e, Int.add_mul_ediv_left _ _ (by omega), Int.ediv_eq_zero_of_lt (by omega) (by omega)]
      rw [← e]; omega
    omega
  · intro h
    have : n / d = n.tdiv d := by
      have e : n = n.tmod d + d * n.tdiv d := by omega
      rw [e, Int.add_mul_ediv_left _ _ (by omega), Int.ediv_eq_zero_of_lt (by omega) (by omega)]
      rw [← e]; omega
    omega

end Go.Proofs.YtioohmhllajifaaGreat
