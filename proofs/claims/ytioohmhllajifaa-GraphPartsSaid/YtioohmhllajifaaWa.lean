/- Walks of the leaf functions of ratio and of the reference: magnitude, commonDivisor, size. -/
import Derived.Test.YtioohmhllajifaaRows
import Derived.WalkKit
import Derived.WalkSpells
import Derived.WalkLawsBesides
import Derived.Deep.QuietTactic
import Derived.BigQuiet
import Derived.Lib.Hide
import Derived.Laws.Externs
namespace Go.Proofs.Ytioohmhllajifaa
open Go.RowKit Go.Lib

theorem retW_int {k : IntKind} {a b : Int} (h : a = b) : Ending.returned (.int k a) = .returned (.int k b) := by rw [h]
theorem wrap_neg_u64 (a : Int) (h : a < 0) (h2 : -9223372036854775808 ≤ a) : IntKind.u64.wrap (-IntKind.u64.wrap a) = (a.natAbs : Int) := by
  simp only [IntKind.wrap_u64]; omega


set_option maxHeartbeats 400000 in
theorem mag_any (a : Int) (w : World) (h1 : -9223372036854775808 ≤ a) (h2 : a < 9223372036854775808) :
    Calls Try.prog 61 #[.int .i64 a] w fun e w' => e = .returned (.int .u64 (a.natAbs : Int)) ∧ w' = w := by
  by_cases h : 0 ≤ a
  · go_enter Try.func61, Try.ntmps61
    go_wp2
    go_ret
    exact ⟨retW_int (by omega), rfl⟩
  · have h : a < 0 := by omega
    go_enter Try.func61, Try.ntmps61
    go_wp2
    go_ret
    exact ⟨retW_int (wrap_neg_u64 a h h1), rfl⟩

set_option maxHeartbeats 400000 in
theorem cd_any (a b : Nat) (w : World) (ha : a < 18446744073709551616) (hb : b < 18446744073709551616) :
    Calls Try.prog 62 #[.int .u64 (a : Int), .int .u64 (b : Int)] w fun e w' => e = .returned (.int .u64 ((Nat.gcd a b : Nat) : Int)) ∧ ∃ n, w' = w.drewN n := by
  go_enter Try.func62, Try.ntmps62
  go_wp2
  go_loopw [0, 1] (fun x y wr => ∃ m n k : Nat, m < 18446744073709551616 ∧ n < 18446744073709551616 ∧ x = .int .u64 (m : Int) ∧ y = .int .u64 (n : Int) ∧ Nat.gcd m n = Nat.gcd a b ∧ wr = w.drewN k) (fun _ y _ => (intOf y).toNat)
  case atStart => exact ⟨a, b, 0, ha, hb, rfl, rfl, rfl, rfl⟩
  case round =>
    obtain ⟨m, n, k, hm, hn, rfl, rfl, hg, rfl⟩ := hrel
    have Hg := Lib.hid hg; clear hg
    by_cases h0 : n = 0
    · subst h0
      go_wp2
      go_ret
      exact ⟨retW_int (by rw [← Hg.out]; simp), k, rfl⟩
    · have h1 : 1 ≤ n := by omega
      go_wp2
      go_quiet (fail)
      go_wp2
      have hr : m % n < n := Nat.mod_lt _ h1
      have hc : ((m : Int) % (n : Int)) = ((m % n : Nat) : Int) := by omega
      rw [hc]
      go_roundw
      case rel => exact ⟨n, m % n, k + nq, hn, by omega, rfl, rfl, by rw [← Hg.out, Nat.gcd_comm n, ← Nat.gcd_rec, Nat.gcd_comm], by rw [World.drewN_drewN]⟩
      case measure => simp [intOf]; omega
end Go.Proofs.Ytioohmhllajifaa
