/-
  The maker's Raw: a short list of edges, any.
-/
import Derived.Test.YtioohmhllajifaaGi
namespace Go.Proofs.Ytioohmhllajifaa
open Go.RowKit Go.Lib

/-- a number that Raw makes -/
def near (N : Nat) (z : Int) : Prop := -1 ≤ z ∧ z ≤ (N : Int) + 2
/-- what Raw answers: a list of at most 15 edges, in memory of its own -/
def RawP (base g : Nat) (A : Option Addr) (c : Nat) (L : List Int) (N : Nat) (w : World) (e : Ending) (w' : World) : Prop :=
  ∃ (l : List Ed) (A1 : Option Addr) (c1 m : Nat), e = .returned (.slice A1 l.length c1) ∧ l.length ≤ 15 ∧ (∀ z ∈ l, near N z.1 ∧ near N z.2) ∧ w'.ownsRow w.heap.size 52 2 (.slice A1 l.length c1) l.length (ev l) ∧ Dk base w' g A c L m ∧ w.grownBy w' (some g)
theorem near_push {N : Nat} {l : List Ed} {u v : Int} (h : ∀ z ∈ l, near N z.1 ∧ near N z.2) (hu : near N u) (hv : near N v) : ∀ z ∈ l ++ [(u, v)], near N z.1 ∧ near N z.2 := by
  intro z hz
  rcases List.mem_append.1 hz with h1 | h1
  · exact h z h1
  · rw [List.mem_singleton] at h1; subst h1; exact ⟨hu, hv⟩

set_option maxHeartbeats 4000000 in
set_option maxRecDepth 100000 in
theorem raw_any (base g : Nat) (A : Option Addr) (c : Nat) (L : List Int) (m : Nat) (N : Nat) (w : World) (D : Dk base w g A c L m) (hL : L.length ≤ 17592186044416) (hN : N ≤ 1000) :
    Calls Try.prog 10 #[.pointer (some ⟨g, 0, none⟩), .int .i64 N] w (RawP base g A c L N w) := by
  have HD0 := Lib.hid D
  have hgw : Hid (g < w.heap.size) := D.lt
  clear D
  obtain ⟨X1, HX1⟩ : ∃ X1, Hid (max 1 (N : Int) = X1) := ⟨_, rfl⟩
  obtain ⟨X2, HX2⟩ : ∃ X2, Hid (max 2 (N : Int) = X2) := ⟨_, rfl⟩
  have HB1 : Hid (1 ≤ X1 ∧ X1 ≤ (N : Int) + 1 ∧ 2 ≤ X2 ∧ X2 ≤ (N : Int) + 2) := by show _ ∧ _; rw [← HX1.out, ← HX2.out]; omega
  have HO0 : Hid (w.ownsRow w.heap.size 52 2 (.slice none 0 0) 0 (ev [])) := World.ownsRow_nil _ _ _ _
  have HG0 : Hid (w.grownBy w (some g)) := grown_refl _ _
  go_enter Try.func10, Try.ntmps10
  go_wp2_with fail
  refine (next_any base g A c L _ (16) _ HD0.out hL (by have := HB1.out; omega)).mono ?_
  rintro e w1 ⟨z, m1, rfl, hz1, hz2, D1, g1⟩
  have HD1 := Lib.hid D1
  have HO1 := Lib.hid (own_kept HO0.out g1 hgw.out)
  have HG1 := Lib.hid (grown_trans HG0.out g1)
  clear D1 g1
  obtain ⟨z, rfl⟩ : ∃ j : Nat, z = j := ⟨z.toNat, by omega⟩
  have hz3 : z ≤ 15 := by omega
  clear hz1 hz2
  go_wp2
  go_loopw [5, 6] (fun o i wr => ∃ (j : Nat) (A2 : Option Addr) (c2 : Nat) (ks : List Ed) (m' : Nat), i = .int .i64 j ∧ o = .slice A2 ks.length c2 ∧ ks.length + j ≤ 15 ∧ Hid (∀ z ∈ ks, near N z.1 ∧ near N z.2) ∧
      Hid (wr.ownsRow w.heap.size 52 2 (.slice A2 ks.length c2) ks.length (ev ks)) ∧ Hid (Dk base wr g A c L m') ∧ Hid (w.grownBy wr (some g))) (fun _ i _ => (RowKit.intOf i).toNat)
  case atStart => exact ⟨z, none, 0, [], m1, rfl, rfl, by simp; omega, by show ∀ _ ∈ _, _; simp, HO1.out, HD1.out, HG1.out⟩
  case round =>
    clear HO0 HO1 HD0 HD1 HG0 HG1
    obtain ⟨j, A2, c2, ks, m', rfl, rfl, hj, HK, HO0, HD0, HG0⟩ := hrel
    cases j with
    | zero =>
      go_wp2
      go_ret
      exact ⟨ks, A2, c2, m', rfl, by omega, HK.out, HO0.out, HD0.out, HG0.out⟩
    | succ j =>
      have hj1 : 0 < ((j + 1 : Nat) : Int) := by omega
      have hmx1 := HX1.out
      have hmx2 := HX2.out
      go_wp2_with fail
      refine (next_any base g A c L _ (X1) _ HD0.out hL (by have := HB1.out; omega)).mono ?_
      rintro e w1 ⟨u, m1, rfl, hu1, hu2, D1, g1⟩
      have HD1 := Lib.hid D1
      have HO1 := Lib.hid (own_kept HO0.out g1 hgw.out)
      have HG1 := Lib.hid (grown_trans HG0.out g1)
      clear D1 g1
      go_wp2_with fail
      refine (next_any base g A c L _ (X1) _ HD1.out hL (by have := HB1.out; omega)).mono ?_
      rintro e w2 ⟨v, m2, rfl, hv1, hv2, D1, g1⟩
      have HD2 := Lib.hid D1
      have HO2 := Lib.hid (own_kept HO1.out g1 hgw.out)
      have HG2 := Lib.hid (grown_trans HG1.out g1)
      clear D1 g1
      have HV1 : Hid (0 ≤ u ∧ u ≤ (N : Int) ∧ 0 ≤ v ∧ v ≤ (N : Int)) := by show _ ∧ _; have := HB1.out; omega
      by_cases huv : u = v
      · subst huv
        have e1 : (u == u) = true := by simp
        go_wp2_with fail
        refine (next_any base g A c L _ (8) _ HD2.out hL (by have := HB1.out; omega)).mono ?_
        rintro e w3 ⟨t, m3, rfl, ht1, ht2, D1, g1⟩
        have HD3 := Lib.hid D1
        have HO3 := Lib.hid (own_kept HO2.out g1 hgw.out)
        have HG3 := Lib.hid (grown_trans HG2.out g1)
        clear D1 g1
        by_cases ht : 0 < t
        · have f3 : IntKind.i64.wrap (u + 1) = u + 1 := IntWalk.i64_in _ (by have := HV1.out; omega)
          have hz0 : (X2 == 0) = false := by rw [beq_eq_false_iff_ne]; have := HB1.out; omega
          have hz1 : X2 ≠ 0 := by have := HB1.out; omega
          obtain ⟨q, Hq⟩ : ∃ q, Hid ((u + 1).tmod X2 = q) := ⟨_, rfl⟩
          have HV1 : Hid (0 ≤ u ∧ u ≤ (N : Int) ∧ -1 ≤ q ∧ q ≤ (N : Int) + 2) := by
            show _ ∧ _
            rw [← Hq.out, Int.tmod_eq_emod_of_nonneg (by have := HV1.out; omega)]
            have h1 := Int.emod_nonneg (u + 1) hz1
            have h2 := Int.emod_lt_of_pos (u + 1) (show 0 < X2 by have := HB1.out; omega)
            have := HB1.out; have := HV1.out
            omega
          have hq := Hq.out
          go_wp2_with fail
          refine (next_any base g A c L _ (40) _ HD3.out hL (by have := HB1.out; omega)).mono ?_
          rintro e w4 ⟨r, m4, rfl, hr1, hr2, D1, g1⟩
          have HD4 := Lib.hid D1
          have HO4 := Lib.hid (own_kept HO3.out g1 hgw.out)
          have HG4 := Lib.hid (grown_trans HG3.out g1)
          clear D1 g1
          by_cases h4 : r = 39
          · subst h4
            go_wp2_with fail
            refine (next_any base g A c L _ (3) _ HD4.out hL (by have := HB1.out; omega)).mono ?_
            rintro e w5 ⟨s, m5, rfl, hs1, hs2, D1, g1⟩
            have HD5 := Lib.hid D1
            have HO5 := Lib.hid (own_kept HO4.out g1 hgw.out)
            have HG5 := Lib.hid (grown_trans HG4.out g1)
            clear D1 g1
            have f1 : IntKind.i64.wrap ((N : Int) + s) = (N : Int) + s := IntWalk.i64_in _ (by omega)
            have f2 : IntKind.i64.wrap ((N : Int) + s - 1) = (N : Int) + s - 1 := IntWalk.i64_in _ (by omega)
            have HU : Hid (near N ((N : Int) + s - 1)) := by show _ ∧ _; have := HB1.out; have := HV1.out; omega
            have HV : Hid (near N (q)) := by show _ ∧ _; have := HB1.out; have := HV1.out; omega
            have HN := Lib.hid (near_push HK.out HU.out HV.out)
            go_wp2_with (at_builtin; refine wpList_applE _ rfl (.tmp 44) (.tmp 48) rfl w.heap.size A2 c2 ks (by simp [Act.eval]) (HO5.out.alloc _) (some ⟨w5.heap.size, 0, none⟩) 1 1 [((N : Int) + s - 1, q)] rfl (by simp [Act.eval]) (RE_newB _ _ _) (by omega) (by have := HG5.out.size; simp; omega) ?_; intro A6 c6 w6 HO6 HB6; have HB7 : Hid (Below w.heap.size w5 w6) := (((Below.refl _ _).alloc HG5.out.size _).trans HB6.out))
            go_roundw
            case rel => exact ⟨j, A6, c6, ks ++ [((N : Int) + s - 1, q)], m5, by go_num, by simp, by simp; omega, HN.out, HO6.out, HD5.out.goB HB7.out hgw.out, grown_below HG5.out HB7.out (Nat.le_refl _)⟩
            case measure => simp [RowKit.intOf]; try omega
          · have e4 : (r == 39) = false := by simpa using h4
            clear h4
            have HU : Hid (near N (u)) := by show _ ∧ _; have := HB1.out; have := HV1.out; omega
            have HV : Hid (near N (q)) := by show _ ∧ _; have := HB1.out; have := HV1.out; omega
            have HN := Lib.hid (near_push HK.out HU.out HV.out)
            go_wp2_with (at_builtin; refine wpList_applE _ rfl (.tmp 44) (.tmp 48) rfl w.heap.size A2 c2 ks (by simp [Act.eval]) (HO4.out.alloc _) (some ⟨w4.heap.size, 0, none⟩) 1 1 [(u, q)] rfl (by simp [Act.eval]) (RE_newB _ _ _) (by omega) (by have := HG4.out.size; simp; omega) ?_; intro A6 c6 w6 HO6 HB6; have HB7 : Hid (Below w.heap.size w4 w6) := (((Below.refl _ _).alloc HG4.out.size _).trans HB6.out))
            go_roundw
            case rel => exact ⟨j, A6, c6, ks ++ [(u, q)], m4, by go_num, by simp, by simp; omega, HN.out, HO6.out, HD4.out.goB HB7.out hgw.out, grown_below HG4.out HB7.out (Nat.le_refl _)⟩
            case measure => simp [RowKit.intOf]; try omega
        · 
          go_wp2_with fail
          refine (next_any base g A c L _ (40) _ HD3.out hL (by have := HB1.out; omega)).mono ?_
          rintro e w4 ⟨r, m4, rfl, hr1, hr2, D1, g1⟩
          have HD4 := Lib.hid D1
          have HO4 := Lib.hid (own_kept HO3.out g1 hgw.out)
          have HG4 := Lib.hid (grown_trans HG3.out g1)
          clear D1 g1
          by_cases h4 : r = 39
          · subst h4
            go_wp2_with fail
            refine (next_any base g A c L _ (3) _ HD4.out hL (by have := HB1.out; omega)).mono ?_
            rintro e w5 ⟨s, m5, rfl, hs1, hs2, D1, g1⟩
            have HD5 := Lib.hid D1
            have HO5 := Lib.hid (own_kept HO4.out g1 hgw.out)
            have HG5 := Lib.hid (grown_trans HG4.out g1)
            clear D1 g1
            have f1 : IntKind.i64.wrap ((N : Int) + s) = (N : Int) + s := IntWalk.i64_in _ (by omega)
            have f2 : IntKind.i64.wrap ((N : Int) + s - 1) = (N : Int) + s - 1 := IntWalk.i64_in _ (by omega)
            have HU : Hid (near N ((N : Int) + s - 1)) := by show _ ∧ _; have := HB1.out; have := HV1.out; omega
            have HV : Hid (near N (u)) := by show _ ∧ _; have := HB1.out; have := HV1.out; omega
            have HN := Lib.hid (near_push HK.out HU.out HV.out)
            go_wp2_with (at_builtin; refine wpList_applE _ rfl (.tmp 44) (.tmp 48) rfl w.heap.size A2 c2 ks (by simp [Act.eval]) (HO5.out.alloc _) (some ⟨w5.heap.size, 0, none⟩) 1 1 [((N : Int) + s - 1, u)] rfl (by simp [Act.eval]) (RE_newB _ _ _) (by omega) (by have := HG5.out.size; simp; omega) ?_; intro A6 c6 w6 HO6 HB6; have HB7 : Hid (Below w.heap.size w5 w6) := (((Below.refl _ _).alloc HG5.out.size _).trans HB6.out))
            go_roundw
            case rel => exact ⟨j, A6, c6, ks ++ [((N : Int) + s - 1, u)], m5, by go_num, by simp, by simp; omega, HN.out, HO6.out, HD5.out.goB HB7.out hgw.out, grown_below HG5.out HB7.out (Nat.le_refl _)⟩
            case measure => simp [RowKit.intOf]; try omega
          · have e4 : (r == 39) = false := by simpa using h4
            clear h4
            have HU : Hid (near N (u)) := by show _ ∧ _; have := HB1.out; have := HV1.out; omega
            have HV : Hid (near N (u)) := by show _ ∧ _; have := HB1.out; have := HV1.out; omega
            have HN := Lib.hid (near_push HK.out HU.out HV.out)
            go_wp2_with (at_builtin; refine wpList_applE _ rfl (.tmp 44) (.tmp 48) rfl w.heap.size A2 c2 ks (by simp [Act.eval]) (HO4.out.alloc _) (some ⟨w4.heap.size, 0, none⟩) 1 1 [(u, u)] rfl (by simp [Act.eval]) (RE_newB _ _ _) (by omega) (by have := HG4.out.size; simp; omega) ?_; intro A6 c6 w6 HO6 HB6; have HB7 : Hid (Below w.heap.size w4 w6) := (((Below.refl _ _).alloc HG4.out.size _).trans HB6.out))
            go_roundw
            case rel => exact ⟨j, A6, c6, ks ++ [(u, u)], m4, by go_num, by simp, by simp; omega, HN.out, HO6.out, HD4.out.goB HB7.out hgw.out, grown_below HG4.out HB7.out (Nat.le_refl _)⟩
            case measure => simp [RowKit.intOf]; try omega
      · have e1 : (u == v) = false := by simpa using huv
        clear huv
        go_wp2_with fail
        refine (next_any base g A c L _ (40) _ HD2.out hL (by have := HB1.out; omega)).mono ?_
        rintro e w3 ⟨r, m3, rfl, hr1, hr2, D1, g1⟩
        have HD3 := Lib.hid D1
        have HO3 := Lib.hid (own_kept HO2.out g1 hgw.out)
        have HG3 := Lib.hid (grown_trans HG2.out g1)
        clear D1 g1
        by_cases h4 : r = 39
        · subst h4
          go_wp2_with fail
          refine (next_any base g A c L _ (3) _ HD3.out hL (by have := HB1.out; omega)).mono ?_
          rintro e w4 ⟨s, m4, rfl, hs1, hs2, D1, g1⟩
          have HD4 := Lib.hid D1
          have HO4 := Lib.hid (own_kept HO3.out g1 hgw.out)
          have HG4 := Lib.hid (grown_trans HG3.out g1)
          clear D1 g1
          have f1 : IntKind.i64.wrap ((N : Int) + s) = (N : Int) + s := IntWalk.i64_in _ (by omega)
          have f2 : IntKind.i64.wrap ((N : Int) + s - 1) = (N : Int) + s - 1 := IntWalk.i64_in _ (by omega)
          have HU : Hid (near N ((N : Int) + s - 1)) := by show _ ∧ _; have := HB1.out; have := HV1.out; omega
          have HV : Hid (near N (v)) := by show _ ∧ _; have := HB1.out; have := HV1.out; omega
          have HN := Lib.hid (near_push HK.out HU.out HV.out)
          go_wp2_with (at_builtin; refine wpList_applE _ rfl (.tmp 44) (.tmp 48) rfl w.heap.size A2 c2 ks (by simp [Act.eval]) (HO4.out.alloc _) (some ⟨w4.heap.size, 0, none⟩) 1 1 [((N : Int) + s - 1, v)] rfl (by simp [Act.eval]) (RE_newB _ _ _) (by omega) (by have := HG4.out.size; simp; omega) ?_; intro A6 c6 w6 HO6 HB6; have HB7 : Hid (Below w.heap.size w4 w6) := (((Below.refl _ _).alloc HG4.out.size _).trans HB6.out))
          go_roundw
          case rel => exact ⟨j, A6, c6, ks ++ [((N : Int) + s - 1, v)], m4, by go_num, by simp, by simp; omega, HN.out, HO6.out, HD4.out.goB HB7.out hgw.out, grown_below HG4.out HB7.out (Nat.le_refl _)⟩
          case measure => simp [RowKit.intOf]; try omega
        · have e4 : (r == 39) = false := by simpa using h4
          clear h4
          have HU : Hid (near N (u)) := by show _ ∧ _; have := HB1.out; have := HV1.out; omega
          have HV : Hid (near N (v)) := by show _ ∧ _; have := HB1.out; have := HV1.out; omega
          have HN := Lib.hid (near_push HK.out HU.out HV.out)
          go_wp2_with (at_builtin; refine wpList_applE _ rfl (.tmp 44) (.tmp 48) rfl w.heap.size A2 c2 ks (by simp [Act.eval]) (HO3.out.alloc _) (some ⟨w3.heap.size, 0, none⟩) 1 1 [(u, v)] rfl (by simp [Act.eval]) (RE_newB _ _ _) (by omega) (by have := HG3.out.size; simp; omega) ?_; intro A6 c6 w6 HO6 HB6; have HB7 : Hid (Below w.heap.size w3 w6) := (((Below.refl _ _).alloc HG3.out.size _).trans HB6.out))
          go_roundw
          case rel => exact ⟨j, A6, c6, ks ++ [(u, v)], m3, by go_num, by simp, by simp; omega, HN.out, HO6.out, HD3.out.goB HB7.out hgw.out, grown_below HG3.out HB7.out (Nat.le_refl _)⟩
          case measure => simp [RowKit.intOf]; try omega
end Go.Proofs.Ytioohmhllajifaa
