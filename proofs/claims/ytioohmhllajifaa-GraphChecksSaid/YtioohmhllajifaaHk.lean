/-
  slices.Grow and slices.Concat at edges.
-/
import Derived.Test.YtioohmhllajifaaSs
import Derived.Test.YtioohmhllajifaaGh
import Derived.Test.YtioohmhllajifaaHc
import Derived.Shelf.Spec.SlicesGrow
namespace Go.Proofs.Ytioohmhllajifaa
open Go.RowKit Go.Lib

theorem growE_any (n : Nat) (w : World) (hn : n ≤ 200000) :
    Calls Try.prog 56 #[.slice none 0 0, .int .i64 (n : Int)] w fun e w' => ∃ A c, e = .returned (.slice A 0 c) ∧ w'.ownsRow w.heap.size 52 2 (.slice A 0 c) 0 [] ∧ Below w.heap.size w w' := by
  obtain ⟨i0, hi0, hz0, hz1, hz2⟩ := info_parts ed_info
  by_cases h0 : n = 0
  · subst h0
    have h := Any8.slices_Grow_room Try.growE none 0 0 0 w (by omega) (by omega) (by omega) (by omega)
    change Calls Try.prog 56 _ _ _ at h
    refine h.mono ?_
    rintro e w' ⟨rfl, rfl⟩
    exact ⟨none, 0, rfl, World.ownsRow_nil _ _ _ _, Below.refl _ _⟩
  · have h := Any8.slices_Grow_grow Try.growE i0 _ hi0 hz0 (by rw [hz1]; omega) none 0 0 n [] w (by omega) (by omega) (by rw [hz2]; omega) (by omega) (by simp) (fun _ => rfl) (fun a ha => by cases ha)
    change Calls Try.prog 56 _ _ _ at h
    refine h.mono ?_
    rintro e w' ⟨rfl, rfl⟩
    have h1 := grownCap_ge w (0 + n) 0 52
    have h2 := grownCap_le_maxLen w (0 + n) 0 52 (by unfold maxLen; omega)
    refine ⟨_, _, rfl, ⟨rfl, .inr ⟨w.heap.size, _, _, rfl, Nat.le_refl _, heap_alloc_new w.drew _, Nat.zero_le _, h2, ?_, by simp⟩⟩, ((Below.refl _ w).drew).alloc (by simp) _⟩
    have e1 : ∀ k, (Builtin.zeroCells (Value.agg #[.int .i64 0, .int .i64 0]).cells k).size = k * 2 := fun k => by
      have e : (Value.agg #[.int .i64 0, .int .i64 0]).cells = #[.int .i64 0, .int .i64 0] := rfl
      rw [e]; simp [Builtin.zeroCells]
    simp only [Array.size_append, e1, List.size_toArray, List.length_nil]
    simp only [Nat.zero_add] at h1 ⊢
    have e2 : grownCap w n 0 (Try.growE_ren.t 25) = grownCap w n 0 52 := rfl
    rw [e2]
    omega

/-- what is joined so far -/
def catE (l1 l2 : List Ed) : Nat → List Ed
  | 0 => []
  | 1 => l1
  | _ => l1 ++ l2
theorem lt_of_some' {wr : World} {k : Nat} {o : Obj} (h : wr.heap[k]? = some o) : k < wr.heap.size := (Array.getElem?_eq_some_iff.1 h).1
theorem len_two (a b : List Ed) : (a ++ b).length = a.length + b.length := List.length_append
set_option maxHeartbeats 2000000 in
theorem concatE_any (b : Nat) (A1 A2 : Option Addr) (c1 c2 : Nat) (l1 l2 : List Ed) (w : World) (hb : w.heap[b]? = some (.cells #[.slice A1 l1.length c1, .slice A2 l2.length c2] 22)) (h1 : RE w.heap.size w A1 c1 l1) (h2 : RE w.heap.size w A2 c2 l2) (hl1 : l1.length ≤ 65536) (hl2 : l2.length ≤ 65536) :
    Calls Try.prog 43 #[.slice (some ⟨b, 0, none⟩) 2 2] w fun e w' => ∃ A c, e = .returned (.slice A (l1 ++ l2).length c) ∧ w'.ownsRow w.heap.size 52 2 (.slice A (l1 ++ l2).length c) (l1 ++ l2).length (ev (l1 ++ l2)) ∧ Below w.heap.size w w' := by
  have H1 := Lib.hid h1
  have H2 := Lib.hid h2
  have HB := Lib.hid hb
  have b0 := Go.Joins.cell_of_block hb 0; have b1 := Go.Joins.cell_of_block hb 1
  simp at b0 b1
  clear h1 h2 hb
  obtain ⟨L, HL⟩ : ∃ L, Hid (l1 ++ l2 = L) := ⟨_, rfl⟩
  have HLL : L.length = l1.length + l2.length := by rw [← HL.out]; exact len_two _ _
  rw [HL.out]
  have CG : Hid (∀ W : World, Calls Try.prog 56 #[.slice none 0 0, .int .i64 ((l1.length : Int) + (l2.length : Int))] W fun e w' => ∃ A c, e = .returned (.slice A 0 c) ∧ w'.ownsRow W.heap.size 52 2 (.slice A 0 c) 0 [] ∧ Below W.heap.size W w') := fun W => by
    have := growE_any (l1.length + l2.length) W (by omega)
    rwa [Int.natCast_add] at this
  have HLL2 := Lib.hid HLL
  clear HLL
  go_enter Try.func43, Try.ntmps43
  go_wp2
  go_loop [3, 11] (fun s i => (s = .int .i64 0 ∧ i = .int .i64 0) ∨ (s = .int .i64 (l1.length : Int) ∧ i = .int .i64 1) ∨ (s = .int .i64 ((l1.length : Int) + (l2.length : Int)) ∧ i = .int .i64 2)) (fun _ i => 2 - (RowKit.intOf i).toNat)
  case atStart => exact .inl ⟨rfl, rfl⟩
  case round =>
    rcases hrel with ⟨rfl, rfl⟩ | ⟨rfl, rfl⟩ | ⟨rfl, rfl⟩
    · go_wp2
      go_round
      case rel => exact .inr (.inl ⟨by go_num, rfl⟩)
      case measure => simp [RowKit.intOf]
    · go_wp2
      go_round
      case rel => exact .inr (.inr ⟨by go_num, rfl⟩)
      case measure => simp [RowKit.intOf]
    · go_wp2_with fail
      refine (CG.out _).mono ?_
      rintro e w1 ⟨A, c, rfl, ho, hb⟩
      have HO := Lib.hid ho
      have HB1 := Lib.hid hb
      clear ho hb
      go_wp2
      go_loopw [6, 27] (fun s i wr => ∃ (k : Nat) (A' : Option Addr) (c' : Nat) (ks : List Ed), k ≤ 2 ∧ i = .int .i64 k ∧ s = .slice A' ks.length c' ∧ Hid (ks = catE l1 l2 k) ∧ Hid (wr.ownsRow w.heap.size 52 2 (.slice A' ks.length c') ks.length (ev ks)) ∧ Hid (Below w.heap.size w wr)) (fun _ i _ => 2 - (RowKit.intOf i).toNat)
      case atStart => exact ⟨0, A, c, [], Nat.zero_le _, rfl, rfl, rfl, HO.out, HB1.out⟩
      case round =>
        obtain ⟨k, A', c', ks, hk, rfl, rfl, HK, HO', HBR⟩ := hrel
        have r0 := (HBR.out.cell (p := ⟨b, 0, none⟩) (lt_of_some' HB.out)).trans b0
        have r1 := (HBR.out.cell (p := ⟨b, 1, none⟩) (lt_of_some' HB.out)).trans b1
        rcases (by omega : k = 0 ∨ k = 1 ∨ k = 2) with rfl | rfl | rfl
        · have hks : ks.length ≤ 0 := by rw [HK.out]; exact Nat.le_refl _
          have HRE := Lib.hid ((H1.out.go HBR.out).more HBR.out.size)
          go_wp2_with (at_builtin; refine wpList_applE _ rfl (.tmp 31) (.tmp 32) rfl w.heap.size A' c' ks rfl HO'.out A1 c1 l1.length l1 rfl rfl HRE.out (by omega) HBR.out.size ?_; intro A3 c3 w3 HO3 HB3)
          go_roundw
          case rel => exact ⟨1, A3, c3, ks ++ l1, by omega, rfl, by simp, by show _ = _; rw [HK.out]; rfl, HO3.out, HBR.out.trans HB3.out⟩
          case measure => simp [RowKit.intOf]
        · have hks : ks.length ≤ 65536 := by rw [HK.out]; exact hl1
          have HRE := Lib.hid ((H2.out.go HBR.out).more HBR.out.size)
          go_wp2_with (at_builtin; refine wpList_applE _ rfl (.tmp 31) (.tmp 32) rfl w.heap.size A' c' ks rfl HO'.out A2 c2 l2.length l2 rfl rfl HRE.out (by omega) HBR.out.size ?_; intro A3 c3 w3 HO3 HB3)
          go_roundw
          case rel => exact ⟨2, A3, c3, ks ++ l2, by omega, rfl, by simp, by show _ = _; rw [HK.out]; rfl, HO3.out, HBR.out.trans HB3.out⟩
          case measure => simp [RowKit.intOf]
        · have HKL : Hid (ks = L) := by show _ = _; rw [HK.out, ← HL.out]; rfl
          go_wp2
          go_ret
          exact ⟨A', c', by rw [← HKL.out]; rfl, by rw [← HKL.out]; exact HO'.out, HBR.out⟩
end Go.Proofs.Ytioohmhllajifaa
