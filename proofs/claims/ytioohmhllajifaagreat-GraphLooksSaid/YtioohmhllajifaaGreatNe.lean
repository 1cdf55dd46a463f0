/-
  Of: the numbers of any list, ascending, each once.
-/
import Derived.Test.YtioohmhllajifaaGreatNd
import Derived.Lib.OwnBridge
namespace Go.Proofs.YtioohmhllajifaaGreat
open Go.RowKit Go.Lib

theorem own_grow {w : World} {base : Nat} {e : TypeId} {size n : Nat} {v : Value} {xs : List Value} (h : w.ownsRow base e size v n xs) (os : Array Obj) : (Sort.grow w os).ownsRow base e size v n xs := by
  refine ⟨h.1, ?_⟩
  rcases h.2 with h0 | ⟨g, cap, cur, rfl, hb, hg, hr⟩
  · exact .inl h0
  · have hlt : g < w.heap.size := by
      rcases Nat.lt_or_ge g w.heap.size with h' | h'
      · exact h'
      · rw [Array.getElem?_eq_none h'] at hg; cases hg
    exact .inr ⟨g, cap, cur, rfl, hb, by show (w.heap ++ os)[g]? = _; rw [Array.getElem?_append_left hlt]; exact hg, hr⟩
theorem below_grow {B : Nat} {w0 w : World} (h : Below B w0 w) (hB : B ≤ w.heap.size) (os : Array Obj) : Below B w0 (Sort.grow w os) :=
  ⟨h.os, h.tape, h.output, by have := h.size; show _ ≤ (w.heap ++ os).size; simp; omega, fun k hk => by
    show (w.heap ++ os)[k]? = _
    rw [Array.getElem?_append_left (by omega)]
    exact h.block k hk⟩

set_option maxHeartbeats 400000 in
theorem of_any (A : Option Addr) (c : Nat) (l : List Int) (w : World) (h : RD w A c l) (hl : l.length ≤ 65536) :
    Calls Tryz.prog 52 #[.slice A l.length c] w (Gives w (Ns.norm l)) := by
  by_cases hn : 0 < l.length
  · obtain ⟨ad, e, _, _⟩ := h.at_ hn
    obtain ⟨b, off, rfl, hc⟩ := ints_at (k := .i64) (zs := l) (fun i hi => h.all_ e hi) hn
    subst e
    have HN := Lib.hid hn
    clear hn
    have HC := Lib.hid hc
    clear hc
    go_enter Tryz.func52, Tryz.ntmps52
    go_wp2_with fail
    refine (Tryz.slices_Clone_int b off l.length c l w (Nat.le_refl _) (by omega) HC.out).mono ?_
    rintro e w1 ⟨v1, rfl, hown, hne, hb1⟩
    rw [List.take_length] at hown
    obtain ⟨g, cap, rfl, hg1, hg2, hcap, hmax, _, hH⟩ := holds_of_ownsRow hown hne
    have HO := Lib.hid hown
    have HH := Lib.hid hH
    have HB := Lib.hid hb1
    clear hown hne hH hb1
    go_wp2_with fail
    refine (Tryz.slices_Sort_int g 0 cap l _ HH.out hg2 (by omega)).mono ?_
    rintro e w2 ⟨rfl, n, os, rfl⟩
    have hs : (l.mergeSort fun x y => decide (x ≤ y)).length = l.length := List.length_mergeSort _
    have ho2 := own_grow (ownsRow_putRow (q := n) (k := l.length) (ys := l.mergeSort fun x y => decide (x ≤ y)) HO.out hs (Nat.le_refl _)) os
    have hb2 : Below w.heap.size w (Sort.grow (Sort.putRow (Value.int .i64) (Sort.ahead w1 n) g 0 (l.mergeSort fun x y => decide (x ≤ y)).toArray) os) :=
      below_grow (below_putRow HB.out hg1) (by simp [Sort.putRow, Sort.mapBlock, Sort.ahead]; exact HB.out.size) os
    have hcs := Ns.compact_sorted l
    rw [List.take_of_length_le (by rw [hs]; exact Nat.le_refl _)] at ho2
    generalize (l.mergeSort fun x y => decide (x ≤ y)) = s at hs ho2 hb2 hcs
    generalize (Sort.grow (Sort.putRow (Value.int .i64) (Sort.ahead w1 n) g 0 s.toArray) os) = w3 at ho2 hb2
    obtain ⟨g', cap', e3, hg3, hg4, _, _, _, hH3⟩ := holds_of_ownsRow ho2 (by rw [Ne]; intro h0; cases h0)
    injection e3 with e4 _ e5
    injection e4 with e4
    injection e4 with e4
    subst e4; subst e5
    have HO2 := Lib.hid ho2
    have HB2 := Lib.hid hb2
    have HH3 := Lib.hid hH3
    have HS := Lib.hid hs
    have HCS := Lib.hid hcs
    clear ho2 hb2 hH3 hs hcs hmax
    have hcon : Calls Tryz.prog 68 #[.slice (some ⟨g, 0, none⟩) l.length cap] w3 (Gives w (Ns.norm l)) := by
      have h31 := Tryz.slices_Compact_int g 0 cap s w3 HH3.out (by rw [HS.out]; omega) (by rw [HS.out]; exact hcap)
      rw [HS.out] at h31
      refine h31.mono ?_
      rintro e w4 ⟨rfl, q, rfl⟩
      rw [HCS.out]
      have hle : (Ns.norm l).length ≤ l.length := Ns.len_norm l
      have ho4 := ownsRow_putRow (q := q) (k := (Ns.norm l).length) (ys := Ns.norm l ++ List.replicate (l.length - (Ns.norm l).length) 0) HO2.out (by simp; omega) hle
      rw [List.take_left] at ho4
      exact ⟨_, _, rfl, RD.of_own ho4, below_putRow HB2.out hg1⟩
    clear HO2 HB2 HH3 HS HCS
    go_wp2_with fail
    refine hcon.mono ?_
    rintro e w4 ⟨A4, c4, rfl, hrd, hb4⟩
    have HR := Lib.hid hrd
    have HB4 := Lib.hid hb4
    clear hrd hb4
    go_wp2
    go_ret
    exact ⟨A4, c4, rfl, HR.out, HB4.out⟩
  · obtain rfl : l = [] := List.eq_nil_of_length_eq_zero (by omega)
    cases A with
    | none =>
      go_enter Tryz.func52, Tryz.ntmps52
      go_wp2_with (first
        | (go_at_call 66; refine (Tryz.slices_Clone_int_nil _ _ _).mono ?_; rintro e w' ⟨rfl, rfl⟩)
        | (go_at_call 67; refine (Tryz.slices_Sort_int_none _ _ _).mono ?_; rintro e w' ⟨rfl, rfl⟩)
        | (go_at_call 68; refine (Tryz.slices_Compact_int_empty _ _ _).mono ?_; rintro e w' ⟨rfl, rfl⟩))
      go_ret
      exact ⟨none, 0, rfl, RD.nil_ _ _ _, Below.refl _ _⟩
    | some ad =>
      go_enter Tryz.func52, Tryz.ntmps52
      go_wp2_with fail
      refine (Tryz.slices_Clone_int_zero ad c w).mono ?_
      rintro e w1 ⟨v1, rfl, hown, hne, hb1⟩
      obtain ⟨g, cap, rfl, hg1, hg2, hcap, hmax, _, _⟩ := holds_of_ownsRow (enc := Value.int .i64) (zs := []) hown hne
      have HB := Lib.hid hb1
      clear hown hne hb1
      go_wp2_with (first
        | (go_at_call 67; refine (Tryz.slices_Sort_int_none _ _ _).mono ?_; rintro e w' ⟨rfl, rfl⟩)
        | (go_at_call 68; refine (Tryz.slices_Compact_int_empty _ _ _).mono ?_; rintro e w' ⟨rfl, rfl⟩))
      go_ret
      exact ⟨_, _, rfl, RD.nil_ _ _ _, HB.out⟩
end Go.Proofs.YtioohmhllajifaaGreat
