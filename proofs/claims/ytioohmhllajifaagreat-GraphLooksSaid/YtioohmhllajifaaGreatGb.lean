/-
  The reference's SameEdges, Same and Check.
-/
import Derived.Test.YtioohmhllajifaaGreatGa
import Derived.Test.YtioohmhllajifaaGreatQt
namespace Go.Proofs.YtioohmhllajifaaGreat
open Go.RowKit

def eqE (a b : List Ed) : Bool := decide (a = b)
theorem take_succ_e {α : Type} (l : List α) (y : α) (k : Nat) (h : l[k]? = some y) : l.take (k + 1) = l.take k ++ [y] := by
  obtain ⟨hk, rfl⟩ := List.getElem?_eq_some_iff.1 h
  exact List.take_succ_eq_append_getElem hk
theorem eqE_len (a b : List Ed) (h : a.length ≠ b.length) : eqE a b = false := by
  simp only [eqE, decide_eq_false_iff_not]; rintro rfl; exact h rfl
theorem eqE_at (a b : List Ed) (k : Nat) (x y : Ed) (h1 : a[k]? = some x) (h2 : b[k]? = some y) (h : x ≠ y) : eqE a b = false := by
  simp only [eqE, decide_eq_false_iff_not]; rintro rfl; rw [h1] at h2; injection h2 with h2; exact h h2
theorem draws1 (w : World) (a b : Nat) : ∃ m, (w.drewN a).drewN b = w.drewN m := ⟨_, World.drewN_drewN _ _ _⟩

set_option maxHeartbeats 1000000 in
theorem sameE_any (A B : Option Addr) (c d : Nat) (a b : List Ed) (w : World) (h : RE w.heap.size w A c a) (h' : RE w.heap.size w B d b) (hl : a.length ≤ 65536) (_hl' : b.length ≤ 65536) :
    Calls Tryz.prog 42 #[.slice A a.length c, .slice B b.length d] w fun e w' => e = .returned (.bool (eqE a b)) ∧ ∃ n, w' = w.drewN n := by
  by_cases hlen : a.length = b.length
  · have hd : ((a.length : Int) != (b.length : Int)) = false := by rw [hlen]; simp
    have HL := Lib.hid hlen
    clear hlen
    go_enter Tryz.func42, Tryz.ntmps42
    go_wp2
    go_loopw [13] (fun i wr => ∃ (k n : Nat), k ≤ a.length ∧ i = .int .i64 k ∧ wr = w.drewN n ∧ Hid (a.take k = b.take k)) (fun i _ => a.length - (RowKit.intOf i).toNat)
    case atStart => exact ⟨0, 0, Nat.zero_le _, rfl, rfl, rfl⟩
    case round =>
      obtain ⟨k, n, hk, rfl, rfl, HN⟩ := hrel
      by_cases hlt : k < a.length
      · have hltb : k < b.length := by rw [← HL.out]; exact hlt
        obtain ⟨ba, oa, u, v, rfl, hb, hx, hc0, hc1⟩ := h.let_ hlt
        obtain ⟨be, oe, x, y, rfl, hb', hy, hd0, hd1⟩ := h'.let_ hltb
        have HX := Lib.hid hx
        have HY := Lib.hid hy
        clear hx hy
        by_cases h1 : u = x
        · by_cases h2 : v = y
          · subst h1; subst h2
            have e1 : (u == u) = true := by simp
            have e2 : (v == v) = true := by simp
            have HR : Hid (a.take (k + 1) = b.take (k + 1)) := by
              show _ = _
              rw [take_succ_e a _ k HX.out, take_succ_e b _ k HY.out, HN.out]
            go_wp2
            go_quiet (fail)
            go_wp2
            go_roundw
            case rel => exact ⟨k + 1, _, by omega, by go_num, rfl, HR.out⟩
            case measure => simp [RowKit.intOf]; omega
          · have e2 : (v == y) = false := by simpa using h2
            have HR := Lib.hid (eqE_at a b k _ _ HX.out HY.out (fun h0 => h2 (by injection h0)))
            clear h2
            go_wp2
            go_quiet (fail)
            go_wp2
            go_ret
            exact ⟨ret_bool HR.out.symm, by first | exact ⟨_, rfl⟩ | exact draws1 _ _ _⟩
        · have e1 : (u == x) = false := by simpa using h1
          have HR := Lib.hid (eqE_at a b k _ _ HX.out HY.out (fun h0 => h1 (by injection h0)))
          clear h1
          go_wp2
          go_quiet (fail)
          go_wp2
          go_ret
          exact ⟨ret_bool HR.out.symm, by first | exact ⟨_, rfl⟩ | exact draws1 _ _ _⟩
      · have HR : Hid (eqE a b = true) := by
          show _ = _
          have := HN.out
          rw [List.take_of_length_le (by omega), List.take_of_length_le (by rw [← HL.out]; omega)] at this
          simpa [eqE] using this
        go_wp2
        go_ret
        exact ⟨ret_bool HR.out.symm, _, rfl⟩
  · have hd : ((a.length : Int) != (b.length : Int)) = true := by simp; omega
    have HR := Lib.hid (eqE_len a b hlen)
    clear hlen
    go_enter Tryz.func42, Tryz.ntmps42
    go_wp2
    go_ret
    exact ⟨ret_bool HR.out.symm, 0, rfl⟩

def sameG (n m : Int) (a b : List Ed) : Bool := decide (n = m) && eqE a b
theorem sameG_any (n m : Int) (A B : Option Addr) (c d : Nat) (a b : List Ed) (w : World) (h : RE w.heap.size w A c a) (h' : RE w.heap.size w B d b) (hl : a.length ≤ 65536) (hl' : b.length ≤ 65536) :
    Calls Tryz.prog 23 #[.agg #[.int .i64 n, .slice A a.length c], .agg #[.int .i64 m, .slice B b.length d]] w fun e w' => e = .returned (.bool (sameG n m a b)) ∧ Below w.heap.size w w' := by
  have H := Lib.hid h
  have H' := Lib.hid h'
  clear h h'
  have hB : Below w.heap.size w ((w.alloc (.cells #[.int .i64 n, .slice A a.length c] 28)).alloc (.cells #[.int .i64 m, .slice B b.length d] 28)) := ((Below.refl _ _).alloc (Nat.le_refl _) _).alloc (by simp) _
  have HB := Lib.hid hB
  by_cases h1 : n = m
  · subst h1
    have HR := Lib.hid (show sameG n n a b = eqE a b by simp [sameG])
    have e1 : (n == n) = true := by simp
    go_enter Tryz.func23, Tryz.ntmps23
    go_wp2_with fail
    refine (sameE_any A B c d a b _ (H.out.up hB) (H'.out.up hB) hl hl').mono ?_
    rintro e w1 ⟨rfl, k, rfl⟩
    go_wp2
    go_ret
    exact ⟨ret_bool HR.out.symm, HB.out.trans ⟨rfl, rfl, rfl, Nat.le_refl _, fun _ _ => rfl⟩⟩
  · have HR := Lib.hid (show sameG n m a b = false by simp [sameG, h1])
    have e1 : (n == m) = false := by simpa using h1
    clear h1
    go_enter Tryz.func23, Tryz.ntmps23
    go_wp2
    go_ret
    exact ⟨ret_bool HR.out.symm, HB.out⟩
end Go.Proofs.YtioohmhllajifaaGreat
