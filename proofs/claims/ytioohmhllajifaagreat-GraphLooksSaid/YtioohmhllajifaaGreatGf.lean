/-
  The deck: a list of numbers from which choices are made; New, Next, Mod.
-/
import Derived.Test.YtioohmhllajifaaGreatGe
namespace Go.Proofs.YtioohmhllajifaaGreat
open Go.RowKit Go.Lib

/-- a deck in block g (a block of the law's own, from base on): the list lies below base, and at says how far it has been used -/
structure Dk (base : Nat) (w : World) (g : Nat) (A : Option Addr) (c : Nat) (L : List Int) (at' : Nat) : Prop where
  blk : w.heap[g]? = some (.cells #[.slice A L.length c, .int .i64 (at' : Nat)] 56)
  le : at' ≤ L.length
  base_le : base ≤ g
  rb : RB base w A c L
theorem Dk.lt {base : Nat} {w : World} {g : Nat} {A : Option Addr} {c : Nat} {L : List Int} {n : Nat} (h : Dk base w g A c L n) : g < w.heap.size := by
  rcases Nat.lt_or_ge g w.heap.size with hlt | hge
  · exact hlt
  · have := h.blk; rw [Array.getElem?_eq_none hge] at this; cases this
theorem Dk.c0 {base : Nat} {w : World} {g : Nat} {A : Option Addr} {c : Nat} {L : List Int} {n : Nat} (h : Dk base w g A c L n) : w.cell? ⟨g, 0, none⟩ = some (.slice A L.length c) := Go.Joins.cell_of_block h.blk 0
theorem Dk.c1 {base : Nat} {w : World} {g : Nat} {A : Option Addr} {c : Nat} {L : List Int} {n : Nat} (h : Dk base w g A c L n) : w.cell? ⟨g, 1, none⟩ = some (.int .i64 (n : Nat)) := Go.Joins.cell_of_block h.blk 1
theorem Dk.f1 {base : Nat} {w : World} {g : Nat} {A : Option Addr} {c : Nat} {L : List Int} {n : Nat} (h : Dk base w g A c L n) : w.frozen? ⟨g, 1, none⟩ = false := Go.Joins.unfrozen_of_block h.blk 1
/-- the deck stays where a callee makes memory, or writes elsewhere -/
theorem Dk.go {base : Nat} {w w' : World} {g : Nat} {A : Option Addr} {c : Nat} {L : List Int} {n : Nat} (h : Dk base w g A c L n) (hb : Below w.heap.size w w') : Dk base w' g A c L n :=
  ⟨(hb.block g h.lt).trans h.blk, h.le, h.base_le, h.rb.go (below_le' hb (Nat.le_of_lt (Nat.lt_of_le_of_lt h.base_le h.lt)))⟩
  where below_le' {B B' : Nat} {w w' : World} (h : Below B w w') (hb : B' ≤ B) : Below B' w w' := ⟨h.os, h.tape, h.output, h.size, fun k hk => h.block k (by omega)⟩
theorem RB.only {B : Nat} {w w' : World} {A : Option Addr} {c : Nat} {l : List Int} {g : Nat} (h : RB B w A c l) (hg : w.grownBy w' (some g)) (hB : B ≤ g) (hw : B ≤ w.heap.size) : RB B w' A c l :=
  ⟨h.1, h.2.keep fun p hp => World.cell?_of_block (hg.block p.block (by omega) (fun e => by injection e with e; omega))⟩
theorem only_drewN {w : World} (n g : Nat) : w.grownBy (w.drewN n) (some g) := ⟨rfl, rfl, rfl, Nat.le_refl _, fun _ _ _ => rfl⟩
theorem only_set {w : World} (n g i : Nat) (u : Value) : w.grownBy ((w.drewN n).setCell ⟨g, i, none⟩ u) (some g) :=
  ⟨rfl, rfl, rfl, by simp [World.setCell, World.drewN], fun k _ hk => by
    have : (w.drewN n).heap[k]? = w.heap[k]? := rfl
    rw [← this]
    exact Below.heap_setCell (w.drewN n) ⟨g, i, none⟩ u k (fun e => hk (by rw [e]))⟩
theorem Dk.set {base : Nat} {w : World} {g : Nat} {A : Option Addr} {c : Nat} {L : List Int} {n m : Nat} (k : Nat) (h : Dk base w g A c L n) (hm : m ≤ L.length) : Dk base ((w.drewN k).setCell ⟨g, 1, none⟩ (.int .i64 (m : Nat))) g A c L m := by
  refine ⟨?_, hm, h.base_le, h.rb.only (only_set k g 1 _) h.base_le (Nat.le_of_lt (Nat.lt_of_le_of_lt h.base_le h.lt))⟩
  have hb : w.heap[g]? = some (.cells #[.slice A L.length c, .int .i64 (n : Nat)] 56) := h.blk
  simp [World.setCell, Array.getElem?_modify, hb]

theorem ret_intN {a b : Int} (h : a = b) : Ending.returned (.int .i64 a) = .returned (.int .i64 b) := by rw [h]
/-- what Next answers: a number from 0 to n - 1 (0 where there is none), and the deck goes on -/
def NextP (base g : Nat) (A : Option Addr) (c : Nat) (L : List Int) (n : Int) (w : World) (e : Ending) (w' : World) : Prop :=
  ∃ (r : Int) (m : Nat), e = .returned (.int .i64 r) ∧ 0 ≤ r ∧ (r < n ∨ r = 0) ∧ Dk base w' g A c L m ∧ w.grownBy w' (some g)

theorem mod_any (x n : Int) (w : World) (hn : 1 ≤ n) (hn' : n ≤ 4611686018427387904) : Calls Tryz.prog 28 #[.int .i64 x, .int .i64 n] w fun e w' => e = .returned (.int .i64 ((x.tmod n + n) % n)) ∧ w = w' := by
  have h1 := Int.tmod_lt_of_pos x (show (0 : Int) < n by omega)
  have h2 := Int.lt_tmod_of_pos x (show (0 : Int) < n by omega)
  have hz : (n == 0) = false := by rw [beq_eq_false_iff_ne]; omega
  have hz' : n ≠ 0 := by omega
  obtain ⟨t, Ht⟩ : ∃ t, Hid (t = x.tmod n) := ⟨_, rfl⟩
  have h3 : Hid (wrap64 (x.tmod n + n) = t + n) := by show _ = _; rw [Ht.out]; unfold wrap64; omega
  have h4 : Hid ((t + n).tmod n = (t + n) % n) := Int.tmod_eq_emod_of_nonneg (by rw [Ht.out]; omega)
  clear h1 h2
  go_enter Tryz.func28, Tryz.ntmps28
  go_wp2
  go_ret
  refine ⟨ret_intN ?_, rfl⟩
  rw [h3.out, h4.out, Ht.out]

set_option maxHeartbeats 1000000 in
theorem next_any (base g : Nat) (A : Option Addr) (c : Nat) (L : List Int) (m : Nat) (n : Int) (w : World) (D : Dk base w g A c L m) (hL : L.length ≤ 17592186044416) (hn : n ≤ 4611686018427387904) :
    Calls Tryz.prog 7 #[.pointer (some ⟨g, 0, none⟩), .int .i64 n] w (NextP base g A c L n w) := by
  have HD := Lib.hid D
  have k0 := D.c0; have k1 := D.c1; have kf := D.f1; have kl := D.lt
  have kle := D.le
  clear D
  by_cases h1 : n < 1
  · have e1 : decide (n < 1) = true := by simpa using h1
    go_enter Tryz.func7, Tryz.ntmps7
    go_wp2
    go_quiet (fail)
    go_wp2
    go_ret
    exact ⟨0, m, rfl, by omega, .inr rfl, HD.out.go ⟨rfl, rfl, rfl, Nat.le_refl _, fun _ _ => rfl⟩, only_drewN _ _⟩
  · have e1 : decide (n < 1) = false := by simpa using h1
    by_cases h2 : m < L.length
    · obtain ⟨ad, x, rfl, hb, hx, hc⟩ := (HD.out.rb.rd (Nat.le_of_lt (Nat.lt_of_le_of_lt HD.out.base_le kl))).let_ h2
      clear hx
      obtain ⟨bA, oA, hspot⟩ : ∃ b o, ad = ⟨b, o, none⟩ := by
        obtain ⟨ad', x', e, _, _, hc'⟩ := (HD.out.rb.rd (Nat.le_of_lt (Nat.lt_of_le_of_lt HD.out.base_le kl))).let_ (k := 0) (by omega)
        injection e with e
        subst e
        obtain ⟨b, o, sp⟩ := ad
        have := World.cell?_spot hc'
        simp [Addr.add] at this
        subst this
        exact ⟨b, o, rfl⟩
      subst hspot
      rw [Go.WideShapes.add_plain] at hc
      have e2 : decide (L.length ≤ m) = false := by rw [decide_eq_false_iff_not]; omega
      have hr1 := Int.emod_nonneg (x.tmod n + n) (show n ≠ 0 by omega)
      have hr2 := Int.emod_lt_of_pos (x.tmod n + n) (show 0 < n by omega)
      have C15 := Lib.hid (fun w => mod_any x n w (by omega) hn)
      obtain ⟨r, Hr⟩ : ∃ r, Hid (r = (x.tmod n + n) % n) := ⟨_, rfl⟩
      rw [← Hr.out] at C15 hr1 hr2
      go_enter Tryz.func7, Tryz.ntmps7
      go_wp2
      go_quiet (fail)
      go_wp2
      go_quiet (fail)
      go_wp2_with (go_at_call 28; refine (C15.out _).mono ?_; rintro e w' ⟨rfl, rfl⟩)
      go_ret
      refine ⟨r, m + 1, rfl, hr1, .inl hr2, ?_, only_set _ _ _ _⟩
      exact HD.out.set (m := m + 1) _ (by omega)
    · have e2 : decide (L.length ≤ m) = true := by rw [decide_eq_true_eq]; omega
      go_enter Tryz.func7, Tryz.ntmps7
      go_wp2
      go_quiet (fail)
      go_wp2
      go_ret
      exact ⟨0, m, rfl, by omega, .inr rfl, HD.out.go ⟨rfl, rfl, rfl, Nat.le_refl _, fun _ _ => rfl⟩, only_drewN _ _⟩

theorem new_any (A : Option Addr) (c : Nat) (L : List Int) (w : World) (h : RD w A c L) :
    Calls Tryz.prog 5 #[.slice A L.length c] w fun e w' => e = .returned (.pointer (some ⟨w.heap.size, 0, none⟩)) ∧ Dk w.heap.size w' w.heap.size A c L 0 ∧ Below w.heap.size w w' := by
  have H := Lib.hid h
  clear h
  go_enter Tryz.func5, Tryz.ntmps5
  go_wp2
  go_ret
  refine ⟨rfl, ⟨heap_alloc_new _ _, Nat.zero_le _, Nat.le_refl _, ?_⟩, (Below.refl _ _).alloc (Nat.le_refl _) _⟩
  exact (RD.rb H.out).go ((Below.refl _ _).alloc (Nat.le_refl _) _)
end Go.Proofs.YtioohmhllajifaaGreat
