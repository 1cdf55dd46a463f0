/-
  The reference's Meet and Minus, Range of both, and Mod.
-/
import Derived.Test.YtioohmhllajifaaGreatNg
namespace Go.Proofs.YtioohmhllajifaaGreat
open Go.RowKit Go.Lib

theorem filt_succ (p : Int → Bool) (l : List Int) (y : Int) (k : Nat) (h : l[k]? = some y) : (l.take (k + 1)).filter p = (l.take k).filter p ++ (if p y then [y] else []) := by
  rw [take_succ_at l y k h, List.filter_append]; cases hp : p y <;> simp [hp]
theorem filt_yes (p : Int → Bool) (l : List Int) (y : Int) (k : Nat) (h : l[k]? = some y) (hp : p y = true) : (l.take (k + 1)).filter p = (l.take k).filter p ++ [y] := by rw [filt_succ p l y k h, if_pos hp]
theorem filt_no (p : Int → Bool) (l : List Int) (y : Int) (k : Nat) (h : l[k]? = some y) (hp : p y = false) : (l.take (k + 1)).filter p = (l.take k).filter p := by rw [filt_succ p l y k h, if_neg (by rw [hp]; simp), List.append_nil]
theorem len_filt (p : Int → Bool) (l : List Int) (k : Nat) : ((l.take k).filter p).length ≤ k := Nat.le_trans (List.length_filter_le _ _) (by simp; omega)

set_option maxHeartbeats 400000 in
theorem rmeet_any (A B : Option Addr) (c d : Nat) (a b : List Int) (w : World) (h : RD w A c a) (h' : RD w B d b) (hl : a.length ≤ 65536) (hl' : b.length ≤ 65536) :
    Calls Tryz.prog 35 #[.slice A a.length c, .slice B b.length d] w (Gives w (Ns.mee a b)) := by
  have H := Lib.hid h
  have H' := Lib.hid h'
  clear h h'
  go_enter Tryz.func35, Tryz.ntmps35
  go_wp2_with fail
  refine (rof_any A c a w H.out hl).mono ?_
  rintro e w1 ⟨A1, c1, rfl, h1, hb1⟩
  obtain ⟨s, HS⟩ : ∃ s, Hid (s = Ns.norm a) := ⟨_, rfl⟩
  rw [← HS.out] at h1 ⊢
  have HSL : s.length ≤ 65536 := by rw [HS.out]; exact Nat.le_trans (Ns.len_norm a) hl
  have H1 := Lib.hid h1
  have HB1 := Lib.hid hb1
  clear h1 hb1
  go_wp2
  go_loopw [5, 11] (fun v i wr => ∃ (k : Nat) (A2 : Option Addr) (c2 : Nat) (ks : List Int), k ≤ s.length ∧ i = .int .i64 k ∧ v = .slice A2 ks.length c2 ∧ k ≤ 65536 ∧ ks.length ≤ k ∧ Hid (ks = (s.take k).filter (fun x => b.contains x)) ∧
      Hid (wr.ownsRow w1.heap.size 3 1 (.slice A2 ks.length c2) ks.length (vals ks)) ∧ Hid (Below w1.heap.size w1 wr)) (fun _ i _ => s.length - (RowKit.intOf i).toNat)
  case atStart => exact ⟨0, none, 0, [], Nat.zero_le _, rfl, rfl, by omega, Nat.le_refl _, rfl, World.ownsRow_nil _ _ _ _, Below.refl _ _⟩
  case round =>
    obtain ⟨k, A2, c2, ks, hk, rfl, rfl, hk2, hk3, HK, HO, HB⟩ := hrel
    by_cases hlt : k < s.length
    · obtain ⟨ad, y, e, hb, hy, hcell⟩ := (H1.out.go HB.out).let_ hlt
      subst e
      have HY := Lib.hid hy
      clear hy
      by_cases hin : hasB b y = true
      · have hp : (fun x => b.contains x) y = true := by show b.contains y = _; have hq : b.contains y = true := hin; rw [hq]
        have HFT := Lib.hid (filt_yes (fun x => b.contains x) s y k HY.out hp)
        clear hp
        have hcon := (rhas_any B d b y wr (H'.out.go (HB1.out.trans (HB.out.mono HB1.out.size))) hl')
        rw [hin] at hcon
        have HCON := Lib.hid hcon
        clear hcon hin
        go_wp2_with (first | (go_at_call 38; refine HCON.out.mono ?_; rintro e w' ⟨rfl, rfl⟩) | (at_builtin; refine wpList_push _ rfl (.tmp 18) (.tmp 20) rfl w1.heap.size A2 c2 ks y rfl HO.out rfl (by omega) HB.out.size ?_; intro A3 c3 w3 HO3 HB3))
        go_roundw
        case rel => exact ⟨k + 1, A3, c3, ks ++ [y], by omega, by go_num, by simp, by omega, by simp; omega, by show _ = _; rw [HFT.out, ← HK.out], HO3.out, HB.out.trans HB3.out⟩
        case measure => simp [RowKit.intOf]; omega
      · have hin : hasB b y = false := by simpa using hin
        have hp : (fun x => b.contains x) y = false := by show b.contains y = _; have hq : b.contains y = false := hin; rw [hq]
        have HFT := Lib.hid (filt_no (fun x => b.contains x) s y k HY.out hp)
        clear hp
        have hcon := (rhas_any B d b y wr (H'.out.go (HB1.out.trans (HB.out.mono HB1.out.size))) hl')
        rw [hin] at hcon
        have HCON := Lib.hid hcon
        clear hcon hin
        go_wp2_with (go_at_call 38; refine HCON.out.mono ?_; rintro e w' ⟨rfl, rfl⟩)
        go_roundw
        case rel => exact ⟨k + 1, A2, c2, ks, by omega, by go_num, rfl, by omega, by omega, by show _ = _; rw [HFT.out, ← HK.out], HO.out, HB.out⟩
        case measure => simp [RowKit.intOf]; omega
    · have e : s.take k = s := List.take_of_length_le (by omega)
      rw [e] at HK
      clear e
      have HR : Hid (ks = Ns.mee a b) := by show _ = _; rw [HK.out, HS.out]; rfl
      go_wp2
      go_ret
      exact ⟨A2, c2, ret_slice HR.out, by rw [← HR.out]; exact RD.of_own HO.out, HB1.out.trans (HB.out.mono HB1.out.size)⟩


/-- the numbers below k -/
def upto (k : Nat) : List Int := (List.range k).map (fun i : Nat => (i : Int))
theorem upto_succ (k : Nat) : upto (k + 1) = upto k ++ [(k : Int)] := by simp [upto, List.range_succ]
theorem len_upto (k : Nat) : (upto k).length = k := by simp [upto]
def cut64 (n : Int) : Nat := if n < 0 then 0 else if n < 64 then n.toNat else 64
theorem cut64_le (n : Int) : cut64 n ≤ 64 := by unfold cut64; split <;> (try split) <;> omega
theorem cut64_min (n : Int) (h : 0 ≤ n) : ((cut64 n : Nat) : Int) = min n 64 := by unfold cut64; rw [if_neg (by omega)]; split <;> omega

set_option maxHeartbeats 400000 in
theorem rrange_any (n : Int) (w : World) : Calls Tryz.prog 40 #[.int .i64 n] w (Gives w (upto (cut64 n))) := by
  go_enter Tryz.func40, Tryz.ntmps40
  go_wp2
  go_loopw [3, 4] (fun v i wr => ∃ (k : Nat) (A2 : Option Addr) (c2 : Nat) (ks : List Int), k ≤ cut64 n ∧ k ≤ 64 ∧ i = .int .i64 k ∧ v = .slice A2 ks.length c2 ∧ ks.length ≤ k ∧ Hid (ks = upto k) ∧
      Hid (wr.ownsRow w.heap.size 3 1 (.slice A2 ks.length c2) ks.length (vals ks)) ∧ Hid (Below w.heap.size w wr)) (fun _ i _ => 64 - (RowKit.intOf i).toNat)
  case atStart => exact ⟨0, none, 0, [], Nat.zero_le _, Nat.zero_le _, rfl, rfl, Nat.le_refl _, rfl, World.ownsRow_nil _ _ _ _, Below.refl _ _⟩
  case round =>
    obtain ⟨k, A2, c2, ks, hk, hk2, rfl, rfl, hk3, HK, HO, HB⟩ := hrel
    have HC := Lib.hid (show cut64 n = if n < 0 then 0 else if n < 64 then n.toNat else 64 from rfl)
    by_cases h1 : (k : Int) < n
    · by_cases h2 : k < 64
      · have hk4 : k + 1 ≤ cut64 n := by rw [HC.out, if_neg (by omega)]; split <;> omega
        have h2' : (k : Int) < 64 := by omega
        go_wp2_with (at_builtin; refine wpList_push _ rfl (.tmp 14) (.tmp 16) rfl w.heap.size A2 c2 ks k rfl HO.out rfl (by omega) HB.out.size ?_; intro A3 c3 w3 HO3 HB3)
        go_roundw
        case rel => exact ⟨k + 1, A3, c3, ks ++ [(k : Int)], by omega, by omega, by go_num, by simp, by simp; omega, by show _ = _; rw [upto_succ, HK.out], HO3.out, HB.out.trans HB3.out⟩
        case measure => simp [RowKit.intOf]; omega
      · have hk4 : k = cut64 n := by have := cut64_le n; omega
        have h2' : ¬ (k : Int) < 64 := by omega
        have HR : Hid (ks = upto (cut64 n)) := by show _ = _; rw [HK.out, hk4]
        clear hk4
        go_wp2
        go_ret
        exact ⟨A2, c2, ret_slice HR.out, by rw [← HR.out]; exact RD.of_own HO.out, HB.out⟩
    · have hk4 : k = cut64 n := by
        have := HC.out
        by_cases h0 : n < 0
        · rw [if_pos h0] at this; omega
        · rw [if_neg h0] at this
          by_cases h3 : n < 64
          · rw [if_pos h3] at this; omega
          · rw [if_neg h3] at this; omega
      have HR : Hid (ks = upto (cut64 n)) := by show _ = _; rw [HK.out, hk4]
      clear hk4
      go_wp2
      go_ret
      exact ⟨A2, c2, ret_slice HR.out, by rw [← HR.out]; exact RD.of_own HO.out, HB.out⟩

theorem mod80_any (n : Int) (w : World) (_hn : -9223372036854775808 ≤ n) (_hn' : n < 9223372036854775808) :
    Calls Tryz.prog 28 #[.int .i64 n, .int .i64 80] w fun e w' => (∃ r : Int, 0 ≤ r ∧ r < 80 ∧ e = .returned (.int .i64 r)) ∧ w = w' := by
  go_enter Tryz.func28, Tryz.ntmps28
  go_wp2
  go_ret
  have h1 := Int.tmod_lt_of_pos n (show (0 : Int) < 80 by omega)
  have h2 := Int.lt_tmod_of_pos n (show (0 : Int) < 80 by omega)
  have h3 : wrap64 (n.tmod 80 + 80) = n.tmod 80 + 80 := by unfold wrap64; omega
  rw [h3, Int.tmod_eq_emod_of_nonneg (by omega)]
  exact ⟨⟨_, by omega, by omega, rfl⟩, rfl⟩
set_option maxHeartbeats 400000 in
theorem range_any (n : Int) (w : World) : Calls Tryz.prog 54 #[.int .i64 n] w (Gives w (upto (cut64 n))) := by
  go_enter Tryz.func54, Tryz.ntmps54
  go_wp2
  obtain ⟨m, HM⟩ : ∃ m, Hid (m = min n 64) := ⟨_, rfl⟩
  rw [← HM.out]
  go_loopw [3, 7] (fun v i wr => ∃ (k : Nat) (A2 : Option Addr) (c2 : Nat) (ks : List Int), k ≤ cut64 n ∧ k ≤ 64 ∧ i = .int .i64 k ∧ v = .slice A2 ks.length c2 ∧ ks.length ≤ k ∧ Hid (ks = upto k) ∧
      Hid (wr.ownsRow w.heap.size 3 1 (.slice A2 ks.length c2) ks.length (vals ks)) ∧ Hid (Below w.heap.size w wr)) (fun _ i _ => 64 - (RowKit.intOf i).toNat)
  case atStart => exact ⟨0, none, 0, [], Nat.zero_le _, Nat.zero_le _, rfl, rfl, Nat.le_refl _, rfl, World.ownsRow_nil _ _ _ _, Below.refl _ _⟩
  case round =>
    obtain ⟨k, A2, c2, ks, hk, hk2, rfl, rfl, hk3, HK, HO, HB⟩ := hrel
    have HC := Lib.hid (show cut64 n = if n < 0 then 0 else if n < 64 then n.toNat else 64 from rfl)
    by_cases h1 : (k : Int) < m
    · have hk4 : k + 1 ≤ cut64 n ∧ k + 1 ≤ 64 := by
        have h2 := HM.out
        rw [HC.out, if_neg (by omega)]; split <;> omega
      obtain ⟨hk4, hk5⟩ := hk4
      go_wp2_with (at_builtin; refine wpList_push _ rfl (.tmp 10) (.tmp 12) rfl w.heap.size A2 c2 ks k rfl HO.out rfl (by omega) HB.out.size ?_; intro A3 c3 w3 HO3 HB3)
      go_roundw
      case rel => exact ⟨k + 1, A3, c3, ks ++ [(k : Int)], by omega, by omega, by go_num, by simp, by simp; omega, by show _ = _; rw [upto_succ, HK.out], HO3.out, HB.out.trans HB3.out⟩
      case measure => simp [RowKit.intOf]; omega
    · have hk4 : k = cut64 n := by
        have h2 := HM.out
        have := HC.out
        by_cases h0 : n < 0
        · rw [if_pos h0] at this; omega
        · rw [if_neg h0] at this
          by_cases h3 : n < 64
          · rw [if_pos h3] at this; omega
          · rw [if_neg h3] at this; omega
      have HR : Hid (ks = upto (cut64 n)) := by show _ = _; rw [HK.out, hk4]
      clear hk4
      go_wp2
      go_ret
      exact ⟨A2, c2, ret_slice HR.out, by rw [← HR.out]; exact RD.of_own HO.out, HB.out⟩
end Go.Proofs.YtioohmhllajifaaGreat
