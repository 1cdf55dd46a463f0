/-
  Package graph's lookUp.
-/
import Derived.Test.YtioohmhllajifaaHf
import Derived.Test.YtioohmhllajifaaGn
namespace Go.Proofs.Ytioohmhllajifaa
open Go.RowKit Go.Lib

def lookI (n : Int) (l : List Ed) (u v : Int) : Int := if chk n l = 0 then (if endsB n u v = true then find n l u v else 0) else 0
def lookE (n : Int) (l : List Ed) (u v : Int) : Int := if chk n l = 0 then (if endsB n u v = true then 0 else 6) else chk n l
set_option maxHeartbeats 1000000 in
theorem look_any (n : Int) (A : Option Addr) (c : Nat) (l : List Ed) (u v : Int) (w : World) (h : RE w.heap.size w A c l) (hl : l.length ≤ 65536) :
    Calls Try.prog 42 #[.agg #[.int .i64 n, .slice A l.length c], .int .i64 u, .int .i64 v] w fun e w' => e = .returned (.tuple #[.int .i64 (lookI n l u v), .int .i64 (lookE n l u v)]) ∧ Below w.heap.size w w' := by
  have HG0 := Lib.hid (Gb.start (n := n) h)
  clear h
  obtain ⟨X, HX⟩ : ∃ X, Hid (chk n l = X) := ⟨_, rfl⟩
  obtain ⟨P, HP⟩ : ∃ P, Hid (endsB n u v = P) := ⟨_, rfl⟩
  obtain ⟨f, HF⟩ : ∃ f, Hid (find n l u v = f) := ⟨_, rfl⟩
  obtain ⟨x, Hx⟩ : ∃ x, Hid (lookI n l u v = x) := ⟨_, rfl⟩
  obtain ⟨y, Hy⟩ : ∃ y, Hid (lookE n l u v = y) := ⟨_, rfl⟩
  rw [Hx.out, Hy.out]
  have C12 := Lib.hid (fun (W : World) (h : RE W.heap.size W A c l) => gcheck_any n A c l W h hl)
  have C34 := Lib.hid (fun W => joined_any n u v W)
  have C55 := Lib.hid (fun (W : World) (h : RE W.heap.size W A c l) => gfind_any n A c l u v W h hl)
  rw [HX.out] at C12
  rw [HP.out] at C34
  rw [HF.out] at C55
  by_cases hX : X = 0
  · subst hX
    cases P
    · have ex : x = 0 := by rw [← Hx.out]; unfold lookI; rw [if_pos HX.out, if_neg (by rw [HP.out]; decide)]
      have ey : y = 6 := by rw [← Hy.out]; unfold lookE; rw [if_pos HX.out, if_neg (by rw [HP.out]; decide)]
      subst ex; subst ey
      go_enter Try.func42, Try.ntmps42
      go_wp2_with fail
      refine (C12.out _ HG0.out.re).mono ?_
      rintro e w1 ⟨rfl, hb⟩
      have HG := Lib.hid (HG0.out.go hb)
      have z1 := HG.out.c0; have z2 := HG.out.c1; have z3 := HG.out.lt
      clear hb HG0
      go_wp2_with (go_at_call 34; refine (C34.out _).mono ?_; rintro e w2 ⟨rfl, rfl⟩)
      go_ret2
      exact ⟨rfl, HG.out.bel⟩
    · have ex : x = f := by rw [← Hx.out]; unfold lookI; rw [if_pos HX.out, if_pos HP.out, HF.out]
      have ey : y = 0 := by rw [← Hy.out]; unfold lookE; rw [if_pos HX.out, if_pos HP.out]
      subst ex; subst ey
      go_enter Try.func42, Try.ntmps42
      go_wp2_with fail
      refine (C12.out _ HG0.out.re).mono ?_
      rintro e w1 ⟨rfl, hb⟩
      have HG := Lib.hid (HG0.out.go hb)
      have z1 := HG.out.c0; have z2 := HG.out.c1; have z3 := HG.out.lt
      clear hb HG0
      go_wp2_with (go_at_call 34; refine (C34.out _).mono ?_; rintro e w2 ⟨rfl, rfl⟩)
      refine (C55.out _ HG.out.re).mono ?_
      rintro e w2 ⟨rfl, hb⟩
      have HG2 := Lib.hid (HG.out.go hb)
      clear hb HG z1 z2 z3
      go_wp2
      go_ret2
      exact ⟨rfl, HG2.out.bel⟩
  · have ex : x = 0 := by rw [← Hx.out]; unfold lookI; rw [if_neg (by rw [HX.out]; exact hX)]
    have ey : y = X := by rw [← Hy.out]; unfold lookE; rw [if_neg (by rw [HX.out]; exact hX), HX.out]
    subst ex; subst ey
    have e1 : (y != 0) = true := by simpa using hX
    clear hX
    go_enter Try.func42, Try.ntmps42
    go_wp2_with fail
    refine (C12.out _ HG0.out.re).mono ?_
    rintro e w1 ⟨rfl, hb⟩
    have HG := Lib.hid (HG0.out.go hb)
    clear hb HG0
    go_wp2
    go_ret2
    exact ⟨rfl, HG.out.bel⟩
end Go.Proofs.Ytioohmhllajifaa
