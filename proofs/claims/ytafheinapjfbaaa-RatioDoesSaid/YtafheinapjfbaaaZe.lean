/- Walk of math/bits.Div64 where the high word is not 0. -/
import Derived.Test.YtafheinapjfbaaaZa
import Derived.Test.YtafheinapjfbaaaSh
import Derived.Handy
import Derived.Deep.CutBlock
import Derived.Deep.CutRange
import Derived.Deep.DeepCutAuto
import Derived.Lib.Hide
import Derived.LoopTactic
import Derived.WalkKit
namespace Go.Proofs.Ytafheinapjfbaaa
open Go.RowKit Go.Lib Go.BigFrame
set_option maxRecDepth 100000 in
set_option maxHeartbeats 4000000 in
theorem d64_walk (hi lo y s Y U T a b t1 t0 qa ra d1 m qb0 rb0 d0 Q R rr0 : Nat) (hs : s < 64) (h0 : hi ≠ 0) (hlt : hi < y)
    (EY : IntKind.u64.wrap ((y : Int) * 2 ^ s) = (Y : Int)) (EU : bits .or .u64 (IntKind.u64.wrap ((hi : Int) * 2 ^ s)) ((lo : Int) / 2 ^ (64 - s)) = (U : Int)) (ET : IntKind.u64.wrap ((lo : Int) * 2 ^ s) = (T : Int))
    (Ea : (Y : Int) / 4294967296 = (a : Int)) (Eb : bits .and .u64 (Y : Int) 4294967295 = (b : Int)) (E1 : (T : Int) / 4294967296 = (t1 : Int)) (E0 : bits .and .u64 (T : Int) 4294967295 = (t0 : Int))
    (Eq : IntKind.u64.wrap ((U : Int) / (a : Int)) = (qa : Int)) (Er : IntKind.u64.wrap ((U : Int) - IntKind.u64.wrap ((qa : Int) * a)) = (ra : Int))
    (Em : IntKind.u64.wrap (IntKind.u64.wrap (IntKind.u64.wrap ((U : Int) * 4294967296) + t1) - IntKind.u64.wrap ((d1 : Int) * Y)) = (m : Int))
    (Eq2 : IntKind.u64.wrap ((m : Int) / (a : Int)) = (qb0 : Int)) (Er2 : IntKind.u64.wrap ((m : Int) - IntKind.u64.wrap ((qb0 : Int) * a)) = (rb0 : Int))
    (EQ : IntKind.u64.wrap (IntKind.u64.wrap ((d1 : Int) * 4294967296) + d0) = (Q : Int))
    (ER : IntKind.u64.wrap (IntKind.u64.wrap (IntKind.u64.wrap ((m : Int) * 4294967296) + t0) - IntKind.u64.wrap ((d0 : Int) * Y)) = (R : Int)) (ES : (R : Int) / 2 ^ s = (rr0 : Int))
    (GE1 : Hid (Est Y U t1 qa ra ∧ ra < 4294967296)) (GE2 : Hid (Est Y m t0 qb0 rb0 ∧ rb0 < 4294967296))
    (GY2 : Hid (Y < 18446744073709551616)) (GYp : Hid (0 < Y)) (GU : Hid (U < Y)) (Gm : Hid (m < Y)) (Gt1 : Hid (t1 < 4294967296)) (Gt0 : Hid (t0 < 4294967296))
    (Gea : Hid (Y / 4294967296 = a)) (Geb : Hid (Y % 4294967296 = b)) (Ga : Hid (0 < a ∧ a < 4294967296)) (Gb : Hid (b < 4294967296))
    (Gd1 : Hid ((U * 4294967296 + t1) / Y = d1)) (Gd0 : Hid ((m * 4294967296 + t0) / Y = d0))
    (L : ∀ w, Calls Try.prog 59 #[.int .u64 (y : Int)] w fun e w' => e = .returned (.int .i64 (s : Int)) ∧ w' = w) (w : World) :
    Calls Try.prog 58 #[.int .u64 hi, .int .u64 lo, .int .u64 y] w fun e w' => e = .returned (.tuple #[.int .u64 Q, .int .u64 rr0]) ∧ ∃ n, w' = w.drewN n := by
  have y0 : ((y : Int) == 0) = false := by rw [beq_eq_false_iff_ne]; omega
  have y1 : decide ((y : Int) ≤ hi) = false := by rw [decide_eq_false_iff_not]; omega
  have y2 : ((hi : Int) == 0) = false := by rw [beq_eq_false_iff_ne]; omega
  have y3 : ((a : Int) == 0) = false := by rw [beq_eq_false_iff_ne]; have := Ga.out; omega
  have hane : (a : Int) ≠ 0 := by have := Ga.out; omega
  have HL := Lib.hid L; clear L
  go_enter Try.func58, Try.ntmps58
  go_wp2_with fail
  refine (HL.out _).mono ?_
  rintro e w1 ⟨rfl, rfl⟩
  go_upto_block 0 with fail
  go_cut [15, 16] from 67 to 85 (fun q _ wx => q = .int .u64 (d1 : Int) ∧ wx = w1)
  case first =>
    go_wp2_with fail
    go_loop [15, 16] (fun q r => ∃ q' r' : Nat, q = .int .u64 q' ∧ r = .int .u64 r' ∧ Hid (Est Y U t1 q' r') ∧ Hid (r' < 4294967296)) (fun q _ => (RowKit.intOf q).toNat)
    case atStart => exact ⟨qa, ra, rfl, rfl, GE1.out.1, GE1.out.2⟩
    case round =>
      obtain ⟨q, r, rfl, rfl, HEs, Hr⟩ := hrel
      have hE := HEs.out
      have hr := Hr.out
      have hEm := fun hc => hE.more GY2.out GU.out Gt1.out hc
      rw [Gea.out, Geb.out] at hEm
      have hle := hE.le
      by_cases hc : 4294967296 ≤ q
      · obtain ⟨hE', hq1⟩ := hEm (Or.inl hc)
        have g1 : decide ((4294967296 : Int) ≤ q) = true := by rw [decide_eq_true_eq]; omega
        clear hEm hE hc
        obtain ⟨qq, hqq⟩ : ∃ qq, qq = q - 1 := ⟨_, rfl⟩
        obtain ⟨rr, hrr⟩ : ∃ rr, rr = r + a := ⟨_, rfl⟩
        rw [← hqq, ← hrr] at hE'
        have hqle : q ≤ 4294967297 := hle
        have ha := Ga.out
        have w1' : IntKind.u64.wrap ((q : Int) - 1) = (qq : Int) := by simp only [IntKind.wrap_u64]; omega
        have w2' : IntKind.u64.wrap ((r : Int) + a) = (rr : Int) := by simp only [IntKind.wrap_u64]; omega
        have HE2 := Lib.hid hE'
        have Hqq := Lib.hid (show qq + 1 = q ∧ q ≤ 4294967297 from ⟨by omega, hle⟩)
        by_cases hr2 : 4294967296 ≤ rr
        · have g3 : decide ((4294967296 : Int) ≤ rr) = true := by rw [decide_eq_true_eq]; omega
          have GD := Lib.hid (hE'.broke GYp.out (by omega) hr2)
          clear hqq hrr hE' hq1 hqle hle ha hr hr2
          go_wp2_with fail
          go_meet
          exact ⟨by rw [GD.out, Gd1.out], rfl⟩
        · have g3 : decide ((4294967296 : Int) ≤ rr) = false := by rw [decide_eq_false_iff_not]; omega
          have Hrr := Lib.hid (Nat.lt_of_not_le hr2)
          clear hqq hrr hE' hq1 hqle hle ha hr hr2
          go_wp2_with fail
          go_round
          case rel => exact ⟨qq, rr, rfl, rfl, HE2.out, Hrr.out⟩
          case measure => simp [RowKit.intOf]; have := Hqq.out; omega
      · have hb := Gb.out
        have ht := Gt1.out
        have k1 : q * b ≤ 4294967295 * 4294967295 := Nat.mul_le_mul (by omega) (by omega)
        obtain ⟨qb, hqb⟩ : ∃ qb, qb = q * b := ⟨_, rfl⟩
        obtain ⟨rt, hrt⟩ : ∃ rt, rt = 4294967296 * r := ⟨_, rfl⟩
        obtain ⟨rt1, hrt1⟩ : ∃ rt1, rt1 = rt + t1 := ⟨_, rfl⟩
        rw [← hqb] at k1
        have g1 : decide ((4294967296 : Int) ≤ q) = false := by rw [decide_eq_false_iff_not]; omega
        have v1 : IntKind.u64.wrap ((q : Int) * b) = (qb : Int) := by
          rw [← Int.natCast_mul, ← hqb]; simp only [IntKind.wrap_u64]; omega
        have v2 : IntKind.u64.wrap (4294967296 * (r : Int)) = (rt : Int) := by simp only [IntKind.wrap_u64]; omega
        have v3 : IntKind.u64.wrap ((rt : Int) + t1) = (rt1 : Int) := by simp only [IntKind.wrap_u64]; omega
        by_cases hc2 : rt1 < qb
        · obtain ⟨hE', hq1⟩ := hEm (Or.inr (by omega))
          have g2 : decide (rt1 < qb) = true := by rw [decide_eq_true_eq]; omega
          clear hEm hE hc hqb hrt hrt1 k1 hb ht hc2
          obtain ⟨qq, hqq⟩ : ∃ qq, qq = q - 1 := ⟨_, rfl⟩
          obtain ⟨rr, hrr⟩ : ∃ rr, rr = r + a := ⟨_, rfl⟩
          rw [← hqq, ← hrr] at hE'
          have hqle : q ≤ 4294967297 := hle
          have ha := Ga.out
          have w1' : IntKind.u64.wrap ((q : Int) - 1) = (qq : Int) := by simp only [IntKind.wrap_u64]; omega
          have w2' : IntKind.u64.wrap ((r : Int) + a) = (rr : Int) := by simp only [IntKind.wrap_u64]; omega
          have HE2 := Lib.hid hE'
          have Hqq := Lib.hid (show qq + 1 = q ∧ q ≤ 4294967297 from ⟨by omega, hle⟩)
          by_cases hr2 : 4294967296 ≤ rr
          · have g3 : decide ((4294967296 : Int) ≤ rr) = true := by rw [decide_eq_true_eq]; omega
            have GD := Lib.hid (hE'.broke GYp.out (by omega) hr2)
            clear hqq hrr hE' hq1 hqle hle ha hr hr2
            go_wp2_with fail
            go_meet
            exact ⟨by rw [GD.out, Gd1.out], rfl⟩
          · have g3 : decide ((4294967296 : Int) ≤ rr) = false := by rw [decide_eq_false_iff_not]; omega
            have Hrr := Lib.hid (Nat.lt_of_not_le hr2)
            clear hqq hrr hE' hq1 hqle hle ha hr hr2
            go_wp2_with fail
            go_round
            case rel => exact ⟨qq, rr, rfl, rfl, HE2.out, Hrr.out⟩
            case measure => simp [RowKit.intOf]; have := Hqq.out; omega
        · have g2 : decide (rt1 < qb) = false := by rw [decide_eq_false_iff_not]; omega
          have GD := Lib.hid (hE.done GYp.out (by rw [Geb.out]; omega))
          clear hEm hE hc hqb hrt hrt1 k1 hb ht hc2 hle hr
          go_wp2_with fail
          go_meet
          exact ⟨by rw [GD.out, Gd1.out], rfl⟩
  case rest =>
    obtain ⟨rfl, rfl⟩ := hcut
    go_upto_block 2 with fail
    go_cut [18, 16] from 102 to 120 (fun q _ wx => q = .int .u64 (d0 : Int) ∧ wx = wc)
    case first =>
      go_wp2_with fail
      go_loop [18, 16] (fun q r => ∃ q' r' : Nat, q = .int .u64 q' ∧ r = .int .u64 r' ∧ Hid (Est Y m t0 q' r') ∧ Hid (r' < 4294967296)) (fun q _ => (RowKit.intOf q).toNat)
      case atStart => exact ⟨qb0, rb0, rfl, rfl, GE2.out.1, GE2.out.2⟩
      case round =>
        obtain ⟨q, r, rfl, rfl, HEs, Hr⟩ := hrel
        have hE := HEs.out
        have hr := Hr.out
        have hEm := fun hc => hE.more GY2.out Gm.out Gt0.out hc
        rw [Gea.out, Geb.out] at hEm
        have hle := hE.le
        by_cases hc : 4294967296 ≤ q
        · obtain ⟨hE', hq1⟩ := hEm (Or.inl hc)
          have g1 : decide ((4294967296 : Int) ≤ q) = true := by rw [decide_eq_true_eq]; omega
          clear hEm hE hc
          obtain ⟨qq, hqq⟩ : ∃ qq, qq = q - 1 := ⟨_, rfl⟩
          obtain ⟨rr, hrr⟩ : ∃ rr, rr = r + a := ⟨_, rfl⟩
          rw [← hqq, ← hrr] at hE'
          have hqle : q ≤ 4294967297 := hle
          have ha := Ga.out
          have w1' : IntKind.u64.wrap ((q : Int) - 1) = (qq : Int) := by simp only [IntKind.wrap_u64]; omega
          have w2' : IntKind.u64.wrap ((r : Int) + a) = (rr : Int) := by simp only [IntKind.wrap_u64]; omega
          have HE2 := Lib.hid hE'
          have Hqq := Lib.hid (show qq + 1 = q ∧ q ≤ 4294967297 from ⟨by omega, hle⟩)
          by_cases hr2 : 4294967296 ≤ rr
          · have g3 : decide ((4294967296 : Int) ≤ rr) = true := by rw [decide_eq_true_eq]; omega
            have GD := Lib.hid (hE'.broke GYp.out (by omega) hr2)
            clear hqq hrr hE' hq1 hqle hle ha hr hr2
            go_wp2_with fail
            go_meet
            exact ⟨by rw [GD.out, Gd0.out], rfl⟩
          · have g3 : decide ((4294967296 : Int) ≤ rr) = false := by rw [decide_eq_false_iff_not]; omega
            have Hrr := Lib.hid (Nat.lt_of_not_le hr2)
            clear hqq hrr hE' hq1 hqle hle ha hr hr2
            go_wp2_with fail
            go_round
            case rel => exact ⟨qq, rr, rfl, rfl, HE2.out, Hrr.out⟩
            case measure => simp [RowKit.intOf]; have := Hqq.out; omega
        · have hb := Gb.out
          have ht := Gt0.out
          have k1 : q * b ≤ 4294967295 * 4294967295 := Nat.mul_le_mul (by omega) (by omega)
          obtain ⟨qb, hqb⟩ : ∃ qb, qb = q * b := ⟨_, rfl⟩
          obtain ⟨rt, hrt⟩ : ∃ rt, rt = 4294967296 * r := ⟨_, rfl⟩
          obtain ⟨rt1, hrt1⟩ : ∃ rt1, rt1 = rt + t0 := ⟨_, rfl⟩
          rw [← hqb] at k1
          have g1 : decide ((4294967296 : Int) ≤ q) = false := by rw [decide_eq_false_iff_not]; omega
          have v1 : IntKind.u64.wrap ((q : Int) * b) = (qb : Int) := by
            rw [← Int.natCast_mul, ← hqb]; simp only [IntKind.wrap_u64]; omega
          have v2 : IntKind.u64.wrap (4294967296 * (r : Int)) = (rt : Int) := by simp only [IntKind.wrap_u64]; omega
          have v3 : IntKind.u64.wrap ((rt : Int) + t0) = (rt1 : Int) := by simp only [IntKind.wrap_u64]; omega
          by_cases hc2 : rt1 < qb
          · obtain ⟨hE', hq1⟩ := hEm (Or.inr (by omega))
            have g2 : decide (rt1 < qb) = true := by rw [decide_eq_true_eq]; omega
            clear hEm hE hc hqb hrt hrt1 k1 hb ht hc2
            obtain ⟨qq, hqq⟩ : ∃ qq, qq = q - 1 := ⟨_, rfl⟩
            obtain ⟨rr, hrr⟩ : ∃ rr, rr = r + a := ⟨_, rfl⟩
            rw [← hqq, ← hrr] at hE'
            have hqle : q ≤ 4294967297 := hle
            have ha := Ga.out
            have w1' : IntKind.u64.wrap ((q : Int) - 1) = (qq : Int) := by simp only [IntKind.wrap_u64]; omega
            have w2' : IntKind.u64.wrap ((r : Int) + a) = (rr : Int) := by simp only [IntKind.wrap_u64]; omega
            have HE2 := Lib.hid hE'
            have Hqq := Lib.hid (show qq + 1 = q ∧ q ≤ 4294967297 from ⟨by omega, hle⟩)
            by_cases hr2 : 4294967296 ≤ rr
            · have g3 : decide ((4294967296 : Int) ≤ rr) = true := by rw [decide_eq_true_eq]; omega
              have GD := Lib.hid (hE'.broke GYp.out (by omega) hr2)
              clear hqq hrr hE' hq1 hqle hle ha hr hr2
              go_wp2_with fail
              go_meet
              exact ⟨by rw [GD.out, Gd0.out], rfl⟩
            · have g3 : decide ((4294967296 : Int) ≤ rr) = false := by rw [decide_eq_false_iff_not]; omega
              have Hrr := Lib.hid (Nat.lt_of_not_le hr2)
              clear hqq hrr hE' hq1 hqle hle ha hr hr2
              go_wp2_with fail
              go_round
              case rel => exact ⟨qq, rr, rfl, rfl, HE2.out, Hrr.out⟩
              case measure => simp [RowKit.intOf]; have := Hqq.out; omega
          · have g2 : decide (rt1 < qb) = false := by rw [decide_eq_false_iff_not]; omega
            have GD := Lib.hid (hE.done GYp.out (by rw [Geb.out]; omega))
            clear hEm hE hc hqb hrt hrt1 k1 hb ht hc2 hle hr
            go_wp2_with fail
            go_meet
            exact ⟨by rw [GD.out, Gd0.out], rfl⟩
    case rest =>
      obtain ⟨rfl, rfl⟩ := hcut
      go_wp2_with fail
      go_ret2
      exact ⟨rfl, 0, rfl⟩
end Go.Proofs.Ytafheinapjfbaaa
