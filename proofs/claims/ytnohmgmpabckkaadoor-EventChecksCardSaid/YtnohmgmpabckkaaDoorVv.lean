/-
  The maker's Mixed.
-/
import Derived.Test.YtnohmgmpabckkaaDoorVu
namespace Go.Proofs.YtnohmgmpabckkaaDoor
open Go.RowKit Go.Lib

/-- what Mixed answers: a short list of valid events, in memory of its own -/
def MixedP (base g : Nat) (A : Option Addr) (c : Nat) (L : List Int) (M : Nat) (w : World) (en : Ending) (w' : World) : Prop :=
  ∃ (l : List Ev) (A1 : Option Addr) (c1 m : Nat), en = .returned (.slice A1 l.length c1) ∧ l.length ≤ M ∧ (∀ e ∈ l, chkE e = 0) ∧ w'.ownsRow w.heap.size 23 7 (.slice A1 l.length c1) l.length (cl Ev.cells l) ∧ Dk base w' g A c L m ∧ w.grownBy w' (some g)
theorem RE_newE (w : World) (e : Ev) : RE (w.alloc (.cells #[.int .i64 e.kind, .int .i64 e.time, .int .i64 e.u, .int .i64 e.v, .int .i64 e.weight, .int .i64 e.label, .int .i64 e.sign] 23)).heap.size (w.alloc (.cells #[.int .i64 e.kind, .int .i64 e.time, .int .i64 e.u, .int .i64 e.v, .int .i64 e.weight, .int .i64 e.label, .int .i64 e.sign] 23)) (some ⟨w.heap.size, 0, none⟩) 1 [e] := RX_new encE w [e] 23
set_option maxHeartbeats 4000000 in
set_option maxRecDepth 100000 in
theorem mixed_any (base g : Nat) (A : Option Addr) (c : Nat) (L : List Int) (m : Nat) (N M : Nat) (w : World) (D : Dk base w g A c L m) (hL : L.length ≤ 17592186044416) (hN : 2 ≤ N ∧ N ≤ 64) (hM : M ≤ 12) :
    Calls Tryd.prog 7 #[.pointer (some ⟨g, 0, none⟩), .int .i64 N, .int .i64 M] w (MixedP base g A c L M w) := by
  have HD0 := Lib.hid D
  have hgw : Hid (g < w.heap.size) := D.lt
  have HNN := Lib.hid hN
  clear D
  have hn1 : decide ((N : Int) > 1) = true := by rw [decide_eq_true_eq]; omega
  clear hN
  have HO0 : Hid (w.ownsRow w.heap.size 23 7 (.slice none 0 0) 0 (cl Ev.cells [])) := World.ownsRow_nil _ _ _ _
  have HG0 : Hid (w.grownBy w (some g)) := grown_refl _ _
  have fM : IntKind.i64.wrap ((M : Int) + 1) = (M : Int) + 1 := IntWalk.i64_in _ (by omega)
  go_enter Tryd.func7, Tryd.ntmps7
  go_wp2_with fail
  refine (next_any base g A c L _ ((M : Int) + 1) _ HD0.out hL (by omega)).mono ?_
  rintro e w1 ⟨z, m1, rfl, hz1, hz2, D1, g1⟩
  have HD1 := Lib.hid D1
  have HO1 := Lib.hid (own_kept HO0.out g1 hgw.out)
  have HG1 := Lib.hid (grown_trans HG0.out g1)
  clear D1 g1
  obtain ⟨z, rfl⟩ : ∃ j : Nat, z = j := ⟨z.toNat, by omega⟩
  have hz3 : z ≤ M := by omega
  clear hz1 hz2
  go_wp2
  go_loopw [7, 8, 9] (fun o t i wr => ∃ (j : Nat) (tm : Int) (A2 : Option Addr) (c2 : Nat) (ks : List Ev) (m' : Nat), i = .int .i64 j ∧ t = .int .i64 tm ∧ o = .slice A2 ks.length c2 ∧ ks.length + j ≤ M ∧ Hid (0 ≤ tm ∧ tm ≤ 5 + 2 * (ks.length : Int)) ∧ Hid (∀ e ∈ ks, chkE e = 0) ∧
      Hid (wr.ownsRow w.heap.size 23 7 (.slice A2 ks.length c2) ks.length (cl Ev.cells ks)) ∧ Hid (Dk base wr g A c L m') ∧ Hid (w.grownBy wr (some g))) (fun _ _ i _ => (RowKit.intOf i).toNat)
  case atStart => exact ⟨z, 5, none, 0, [], m1, rfl, rfl, rfl, by simp; omega, by show _ ∧ _; simp, by show ∀ _ ∈ _, _; simp, HO1.out, HD1.out, HG1.out⟩
  case round =>
    clear HO0 HO1 HD0 HD1 HG0 HG1
    obtain ⟨j, tm, A2, c2, ks, m', rfl, rfl, rfl, hj, HTM, HK, HO0, HD0, HG0⟩ := hrel
    cases j with
    | zero =>
      go_wp2
      go_ret
      exact ⟨ks, A2, c2, m', rfl, by omega, HK.out, HO0.out, HD0.out, HG0.out⟩
    | succ j =>
      have hj1 : 0 < ((j + 1 : Nat) : Int) := by omega
      go_wp2_with fail
      refine (next_any base g A c L _ 7 _ HD0.out hL (by decide)).mono ?_
      rintro e w1 ⟨r, m1, rfl, hr1, hr2, D1, g1⟩
      have HD1 := Lib.hid D1
      have HO1 := Lib.hid (own_kept HO0.out g1 hgw.out)
      have HG1 := Lib.hid (grown_trans HG0.out g1)
      clear D1 g1
      obtain ⟨X, HX⟩ : ∃ X, Hid (max 0 (tm - r) = X) := ⟨_, rfl⟩
      have HXB : Hid (0 ≤ X ∧ X ≤ 1048576) := by show _ ∧ _; rw [← HX.out]; have := HTM.out; omega
      have fS : IntKind.i64.wrap (tm - r) = tm - r := IntWalk.i64_in _ (by have := HTM.out; omega)
      have hmx := HX.out
      clear hr1 hr2
      go_wp2_with fail
      refine (event_any base g A c L _ N X _ HD1.out hL HNN.out HXB.out).mono ?_
      rintro en w2 ⟨e, m2, rfl, hce, D2, g2⟩
      have HD2 := Lib.hid D2
      have HO2 := Lib.hid (own_kept HO1.out g2 hgw.out)
      have HG2 := Lib.hid (grown_trans HG1.out g2)
      have HCE := Lib.hid hce
      clear D2 g2 hce hmx fS
      go_wp2_with (at_builtin; (refine wpList_applE _ rfl (.tmp 22) (.tmp 31) w.heap.size A2 c2 rfl ks (by simp [Act.eval]) (HO2.out.alloc _) (some ⟨w2.heap.size, 0, none⟩) 1 1 [e] rfl (by simp [Act.eval]) (RE_newE _ _) (by omega) (by have := HG2.out.size; simp; omega) ?_; intro A6 c6 w6 HO6 HB6 _))
      have HB7 : Hid (Below w.heap.size w2 w6) := ((Below.refl _ _).alloc HG2.out.size _).trans HB6.out
      have HD6 := Lib.hid (HD2.out.goB HB7.out hgw.out)
      have HG6 := Lib.hid (grown_below HG2.out HB7.out (Nat.le_refl _))
      have HK6 : Hid (∀ x ∈ ks ++ [e], chkE x = 0) := by
        show ∀ x ∈ _, _
        intro x hx
        rcases List.mem_append.1 hx with h | h
        · exact HK.out x h
        · rw [List.mem_singleton.1 h]; exact HCE.out
      clear HB6 HD2 HG2 HO2 HO1 HD1 HG1 HO0 HD0 HG0
      refine (next_any base g A c L _ 3 _ HD6.out hL (by decide)).mono ?_
      rintro en w7 ⟨q, m7, rfl, hq1, hq2, D7, g7⟩
      have HD7 := Lib.hid D7
      have HO7 := Lib.hid (own_kept HO6.out g7 hgw.out)
      have HG7 := Lib.hid (grown_trans HG6.out g7)
      clear D7 g7 HO6 HD6 HG6
      have fT : IntKind.i64.wrap (tm + q) = tm + q := IntWalk.i64_in _ (by have := HTM.out; omega)
      go_wp2
      go_roundw
      case rel => exact ⟨j, tm + q, A6, c6, ks ++ [e], m7, by go_num, by go_num, by simp, by simp; omega, by show _ ∧ _; have := HTM.out; simp; omega, HK6.out, HO7.out, HD7.out, HG7.out⟩
      case measure => simp [RowKit.intOf]; try omega
end Go.Proofs.YtnohmgmpabckkaaDoor
