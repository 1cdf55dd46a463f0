/-
  Set: a set of nodes made by choices.
-/
import Derived.Test.YtioohmhllajifaaGreatGf
namespace Go.Proofs.YtioohmhllajifaaGreat
open Go.RowKit Go.Lib

theorem Dk.goB {base B : Nat} {w w' : World} {g : Nat} {A : Option Addr} {c : Nat} {L : List Int} {n : Nat} (h : Dk base w g A c L n) (hb : Below B w w') (hB : g < B) : Dk base w' g A c L n :=
  ⟨(hb.block g hB).trans h.blk, h.le, h.base_le, h.rb.go ⟨hb.os, hb.tape, hb.output, hb.size, fun k hk => hb.block k (by have := h.base_le; omega)⟩⟩
theorem grown_below {w w1 w2 : World} {g B : Nat} (h : w.grownBy w1 (some g)) (hb : Below B w1 w2) (hB : w.heap.size ≤ B) : w.grownBy w2 (some g) :=
  ⟨hb.os.trans h.os, hb.tape.trans h.tape, hb.output.trans h.output, Nat.le_trans h.size hb.size, fun i hi hne => (hb.block i (by omega)).trans (h.block i hi hne)⟩
theorem grown_trans {w w1 w2 : World} {g : Nat} (h : w.grownBy w1 (some g)) (h2 : w1.grownBy w2 (some g)) : w.grownBy w2 (some g) :=
  ⟨h2.os.trans h.os, h2.tape.trans h.tape, h2.output.trans h.output, Nat.le_trans h.size h2.size, fun i hi hne => (h2.block i (Nat.lt_of_lt_of_le hi h.size) hne).trans (h.block i hi hne)⟩
theorem grown_refl (w : World) (g : Nat) : w.grownBy w (some g) := ⟨rfl, rfl, rfl, Nat.le_refl _, fun _ _ _ => rfl⟩
theorem own_kept {w w' : World} {base e size : Nat} {v : Value} {n g : Nat} {xs : List Value} (h : w.ownsRow base e size v n xs) (hg : w.grownBy w' (some g)) (hb : g < base) : w'.ownsRow base e size v n xs :=
  h.kept hg (.inr fun h0 => by have := (h.lt _ h0).1; omega)

/-- what Set answers: a set of the nodes below N, in memory of its own -/
def SetP (base g : Nat) (A : Option Addr) (c : Nat) (L : List Int) (N : Nat) (w : World) (e : Ending) (w' : World) : Prop :=
  ∃ (l : List Int) (A1 : Option Addr) (c1 m : Nat), e = .returned (.slice A1 l.length c1) ∧ Ns.Asc l ∧ (∀ z ∈ l, 0 ≤ z ∧ z < N) ∧ l.length ≤ N ∧ w'.ownsRow w.heap.size 3 1 (.slice A1 l.length c1) l.length (vals l) ∧ Dk base w' g A c L m ∧ w.grownBy w' (some g)
theorem asc_push (l : List Int) (k : Nat) (h : Ns.Asc l) (hb : ∀ z ∈ l, 0 ≤ z ∧ z < (k : Int)) : Ns.Asc (l ++ [(k : Int)]) ∧ ∀ z ∈ l ++ [(k : Int)], 0 ≤ z ∧ z < ((k + 1 : Nat) : Int) := by
  refine ⟨List.pairwise_append.2 ⟨h, List.pairwise_singleton _ _, fun a ha b hb' => ?_⟩, fun z hz => ?_⟩
  · rw [List.mem_singleton] at hb'; subst hb'; exact (hb a ha).2
  · rcases List.mem_append.1 hz with h1 | h1
    · have := hb z h1; omega
    · rw [List.mem_singleton] at h1; omega

set_option maxHeartbeats 1000000 in
theorem set_any (base g : Nat) (A : Option Addr) (c : Nat) (L : List Int) (m : Nat) (N : Nat) (w : World) (D : Dk base w g A c L m) (hL : L.length ≤ 17592186044416) (hN : N ≤ 1000) :
    Calls Tryz.prog 18 #[.pointer (some ⟨g, 0, none⟩), .int .i64 N] w (SetP base g A c L N w) := by
  have HD0 := Lib.hid D
  have hgw : Hid (g < w.heap.size) := D.lt
  clear D
  go_enter Tryz.func18, Tryz.ntmps18
  go_wp2
  go_loopw [5, 6] (fun s i wr => ∃ (k : Nat) (A2 : Option Addr) (c2 : Nat) (ks : List Int) (m' : Nat), k ≤ N ∧ i = .int .i64 k ∧ s = .slice A2 ks.length c2 ∧ ks.length ≤ k ∧ Hid (Ns.Asc ks ∧ ∀ z ∈ ks, 0 ≤ z ∧ z < (k : Int)) ∧
      Hid (wr.ownsRow w.heap.size 3 1 (.slice A2 ks.length c2) ks.length (vals ks)) ∧ Hid (Dk base wr g A c L m') ∧ Hid (w.grownBy wr (some g))) (fun _ i _ => N - (RowKit.intOf i).toNat)
  case atStart => exact ⟨0, none, 0, [], m, Nat.zero_le _, rfl, rfl, Nat.le_refl _, ⟨List.Pairwise.nil, by simp⟩, World.ownsRow_nil _ _ _ _, HD0.out, grown_refl _ _⟩
  case round =>
    obtain ⟨k, A2, c2, ks, m', hk, rfl, rfl, hks, HK, HO, HD, HG⟩ := hrel
    by_cases hlt : k < N
    · go_wp2_with fail
      refine (next_any base g A c L m' 2 wr HD.out hL (by omega)).mono ?_
      rintro e w1 ⟨r, m1, rfl, hr1, hr2, D1, g1⟩
      have HD1 := Lib.hid D1
      have HO1 := Lib.hid (own_kept HO.out g1 hgw.out)
      have HG1 := Lib.hid (grown_trans HG.out g1)
      clear D1 g1
      by_cases h1 : r = 1
      · subst h1
        have HP := Lib.hid (asc_push ks k HK.out.1 HK.out.2)
        go_wp2_with (at_builtin; refine wpList_push _ rfl (.tmp 15) (.tmp 17) rfl w.heap.size A2 c2 ks k rfl HO1.out rfl (by omega) HG1.out.size ?_; intro A3 c3 w3 HO3 HB3)
        go_roundw
        case rel => exact ⟨k + 1, A3, c3, ks ++ [(k : Int)], m1, by omega, by go_num, by simp, by simp; omega, HP.out, HO3.out, HD1.out.goB HB3.out hgw.out, grown_below HG1.out HB3.out (Nat.le_refl _)⟩
        case measure => simp [RowKit.intOf]; omega
      · have e1 : (r == 1) = false := by simpa using h1
        clear h1
        go_wp2
        go_roundw
        case rel => exact ⟨k + 1, A2, c2, ks, m1, by omega, by go_num, rfl, by omega, ⟨HK.out.1, fun z hz => by have := HK.out.2 z hz; omega⟩, HO1.out, HD1.out, HG1.out⟩
        case measure => simp [RowKit.intOf]; omega
    · have hkN : Hid (k = N) := by show _ = _; omega
      go_wp2
      go_ret
      exact ⟨ks, A2, c2, m', rfl, HK.out.1, fun z hz => by have := HK.out.2 z hz; have := hkN.out; omega, by omega, HO.out, HD.out, HG.out⟩
end Go.Proofs.YtioohmhllajifaaGreat
