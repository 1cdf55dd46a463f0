/-
  awake.
-/
import Derived.Test.YtnohmgmpabckkaaDoorVr
namespace Go.Proofs.YtnohmgmpabckkaaDoor
open Go.RowKit Go.Lib

def evA : Ev := ⟨1, 5, 0, 3, 10, 2, -1⟩
theorem lineA : mk (Lib.join (lns [evA] false) [10]) = ⟨#[115, 101, 116, 32, 53, 32, 48, 32, 51, 32, 49, 48, 32, 50, 32, 45]⟩ := by
  have h5 : Lib.itoa 5 = [53] := by simp [Lib.itoa, Lib.decDigits_one]
  have h0 : Lib.itoa 0 = [48] := by simp [Lib.itoa, Lib.decDigits_one]
  have h3 : Lib.itoa 3 = [51] := by simp [Lib.itoa, Lib.decDigits_one]
  have h10 : Lib.itoa 10 = [49, 48] := by simp [Lib.itoa, Lib.decDigits_two]
  have h2 : Lib.itoa 2 = [50] := by simp [Lib.itoa, Lib.decDigits_one]
  simp [lns, lnE, wl, evA, Lib.join_cons, Lib.joinTail, h5, h0, h3, h10, h2, mk]
set_option maxHeartbeats 1000000 in
set_option maxRecDepth 100000 in
theorem awake_any (w : World) (K : KW w) : Calls Tryd.prog 16 #[] w fun e w' => e = .returned (.bool true) ∧ Below w.heap.size w w' := by
  have CP := Lib.hid (parse_any [evA] false w K (by simp) (by simp [lns]) (by intro e he; rw [List.mem_singleton.1 he]; decide) (by
    have := congrArg ByteArray.size lineA
    rw [mk_size] at this
    rw [this]; decide))
  rw [lineA] at CP
  clear K
  go_enter Tryd.func16, Tryd.ntmps16
  go_wp2_with fail
  refine CP.out.mono ?_
  rintro e w1 ⟨A, c, rfl, hr, hb⟩
  obtain ⟨b, off, a, rfl, hbb, ha, c0, c1, c2, c3, c4, c5, c6⟩ := RE.at_ hr (k := 0) (by simp)
  simp only [List.getElem?_cons_zero, Option.some.injEq] at ha
  subst ha
  simp only [evA, Nat.zero_mul, Nat.add_zero] at c0 c1 c2 c3 c4 c5 c6
  have hcap : 1 ≤ c := hr.1
  have HB1 := Lib.hid hb
  have hck : Hid (chkE ⟨1, 5, 0, 3, 10, 2, -1⟩ = 0) := by show _ = _; decide
  clear hb hr CP
  go_wp2_with fail
  refine (check_any _ _ _ _ _ _ _ _).mono ?_
  rintro e w2 ⟨rfl, hb2⟩
  rw [hck.out]
  go_wp2
  go_ret
  exact ⟨rfl, HB1.out.trans (hb2.mono HB1.out.size)⟩
end Go.Proofs.YtnohmgmpabckkaaDoor
