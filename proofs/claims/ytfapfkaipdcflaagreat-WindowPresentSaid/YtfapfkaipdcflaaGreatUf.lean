/-
  The reference's Until.
-/
import Derived.Test.YtfapfkaipdcflaaGreatUe
namespace Go.Proofs.YtfapfkaipdcflaaGreat
open Go.RowKit Go.Lib
open Go.Proofs.YtfapfkaipdcflaaGreat.K (new_two)

namespace Ls
def IsMin (l : List Lk) (m : Int) : Prop := (∃ x ∈ l, x.time = m) ∧ ∀ y ∈ l, m ≤ y.time
theorem isMin_one {l : List Lk} {a b : Int} (h : IsMin l a) (g : IsMin l b) : a = b := by
  obtain ⟨⟨x, hx, ex⟩, h2⟩ := h
  obtain ⟨⟨y, hy, ey⟩, g2⟩ := g
  have := h2 y hy
  have := g2 x hx
  omega
/-- when a link of a state is not in a window any more, and whether there is such a time -/
def untS (k W : Int) (l : List Lk) (b : Int) (ok : Bool) : Prop := (k = 2 → l ≠ [] → ok = true ∧ ∃ m, IsMin l m ∧ b = m + W) ∧ ((k ≠ 2 ∨ l = []) → ok = false ∧ b = 0)
theorem untS_one {k W : Int} {l : List Lk} {b b' : Int} {ok ok' : Bool} (h : untS k W l b ok) (g : untS k W l b' ok') : b = b' ∧ ok = ok' := by
  by_cases hk : k = 2
  · by_cases hl : l = []
    · obtain ⟨h1, h2⟩ := h.2 (.inr hl); obtain ⟨g1, g2⟩ := g.2 (.inr hl)
      exact ⟨h2.trans g2.symm, h1.trans g1.symm⟩
    · obtain ⟨h1, m, h2, h3⟩ := h.1 hk hl; obtain ⟨g1, m', g2, g3⟩ := g.1 hk hl
      have := isMin_one h2 g2
      exact ⟨by omega, h1.trans g1.symm⟩
  · obtain ⟨h1, h2⟩ := h.2 (.inl hk); obtain ⟨g1, g2⟩ := g.2 (.inl hk)
    exact ⟨h2.trans g2.symm, h1.trans g1.symm⟩
theorem untS_nil (k W : Int) : untS k W [] 0 false := ⟨fun _ h => absurd rfl h, fun _ => ⟨rfl, rfl⟩⟩
theorem untS_other {k W : Int} {l : List Lk} {b : Int} {ok : Bool} (h : untS k W l b ok) (hk : k ≠ 2) (l' : List Lk) : untS k W l' b ok := ⟨fun h2 => absurd h2 hk, fun _ => h.2 (.inl hk)⟩
theorem untS_first {W : Int} {l : List Lk} {b : Int} (h : untS 2 W l b false) (x : Lk) : untS 2 W (l ++ [x]) (x.time + W) true := by
  have h0 : l = [] := by
    by_cases hl : l = []
    · exact hl
    · have := (h.1 rfl hl).1; cases this
  subst h0
  refine ⟨fun _ _ => ⟨rfl, x.time, ⟨⟨x, by simp, rfl⟩, fun y hy => by simp at hy; rw [hy]; exact Int.le_refl _⟩, rfl⟩, fun h => ?_⟩
  rcases h with h | h
  · exact absurd rfl h
  · simp at h
theorem untS_less {W : Int} {l : List Lk} {b : Int} (h : untS 2 W l b true) (x : Lk) (hx : x.time + W < b) : untS 2 W (l ++ [x]) (x.time + W) true := by
  by_cases hl : l = []
  · have := (h.2 (.inr hl)).1; cases this
  obtain ⟨-, m, ⟨hm, hmin⟩, rfl⟩ := h.1 rfl hl
  refine ⟨fun _ _ => ⟨rfl, x.time, ⟨⟨x, by simp, rfl⟩, fun y hy => ?_⟩, rfl⟩, fun h => ?_⟩
  · rcases List.mem_append.1 hy with hy | hy
    · have := hmin y hy; omega
    · simp at hy; rw [hy]; exact Int.le_refl _
  · rcases h with h | h
    · exact absurd rfl h
    · simp at h
theorem untS_more {W : Int} {l : List Lk} {b : Int} (h : untS 2 W l b true) (x : Lk) (hx : ¬ x.time + W < b) : untS 2 W (l ++ [x]) b true := by
  by_cases hl : l = []
  · have := (h.2 (.inr hl)).1; cases this
  obtain ⟨-, m, ⟨⟨z, hz, ez⟩, hmin⟩, rfl⟩ := h.1 rfl hl
  refine ⟨fun _ _ => ⟨rfl, m, ⟨⟨z, by simp [hz], ez⟩, fun y hy => ?_⟩, rfl⟩, fun h => ?_⟩
  · rcases List.mem_append.1 hy with hy | hy
    · exact hmin y hy
    · simp at hy; rw [hy]; omega
  · rcases h with h | h
    · exact absurd rfl h
    · simp at h
end Ls
/-- what Until answers -/
def UntP (E k W : Int) (l : List Ls.Lk) (w : World) (en : Ending) (w' : World) : Prop :=
  ∃ (b : Int) (ok : Bool), en = .returned (.tuple #[.int .i64 b, .bool ok, .int .i64 E]) ∧ (E = 0 → Ls.untS k W l b ok) ∧ (E ≠ 0 → b = 0 ∧ ok = false) ∧ Below w.heap.size w w'
theorem orL_a {a b : Int} (h : a ≠ 0) : orL [a, b] = a := by
  show (if a = 0 then (if b = 0 then 0 else b) else a) = a
  rw [if_neg h]
theorem orL_b (b : Int) : orL [0, b] = b := by
  show (if (0 : Int) = 0 then (if b = 0 then 0 else b) else 0) = b
  rw [if_pos rfl]
  split
  · next h => exact h.symm
  · rfl
theorem kind_width {k W M : Int} (h : chkW k W M = 0) : 0 ≤ W ∧ W ≤ 1048576 := by
  obtain ⟨h1, h2⟩ := chkW_ok h
  simp [kindB] at h1
  rcases h1 with (rfl | rfl) | rfl <;> simp [kindR] at h2 <;> omega
set_option maxHeartbeats 4000000 in
set_option maxRecDepth 100000 in
theorem runtil_any (n : Int) (A : Option Addr) (c : Nat) (l : List Ls.Lk) (k W M : Int) (w : World) (h : RL w.heap.size w A c l) (hl : l.length ≤ 60000) :
    Calls Tryz.prog 20 #[.agg #[.int .i64 n, .slice A l.length c], .agg #[.int .i64 k, .int .i64 W, .int .i64 M]] w (UntP (orL [chkW k W M, Ls.chkS n l]) k W l w) := by
  obtain ⟨m0, m1, ms, mb⟩ := new_two w (.cells #[.int .i64 n, .slice A l.length c] 24) (.cells #[.int .i64 k, .int .i64 W, .int .i64 M] 26)
  obtain ⟨W2, HW2⟩ : ∃ W2, Hid (W2 = (w.alloc (.cells #[.int .i64 n, .slice A l.length c] 24)).alloc (.cells #[.int .i64 k, .int .i64 W, .int .i64 M] 26)) := ⟨_, rfl⟩
  rw [← HW2.out] at m0 m1 ms mb
  obtain ⟨g, HG⟩ : ∃ g, Hid (w.heap.size = g) := ⟨_, rfl⟩
  rw [HG.out] at m0 m1 ms
  have M0 := Lib.hid m0; have M1 := Lib.hid m1; have MB := Lib.hid mb
  have H := Lib.hid (h.up mb)
  have C1 := Lib.hid (rcheckW_any k W M W2)
  have C2 := Lib.hid (fun ws h => K.rcheckS_any n A c l ws h (by omega))
  obtain ⟨E, HE⟩ : ∃ E, Hid (orL [chkW k W M, Ls.chkS n l] = E) := ⟨_, rfl⟩
  rw [HE.out]
  have HKW : Hid (chkW k W M = 0 → 0 ≤ W ∧ W ≤ 1048576) := kind_width
  have HVV : Hid (Ls.chkS n l = 0 → Ls.V n l) := (Ls.chkS_zero n l).1
  obtain ⟨E1, HE1⟩ : ∃ E, Hid (chkW k W M = E) := ⟨_, rfl⟩
  obtain ⟨E2, HE2⟩ : ∃ E, Hid (Ls.chkS n l = E) := ⟨_, rfl⟩
  rw [HE1.out, HE2.out] at HE
  rw [HE1.out] at C1 HKW
  simp only [HE2.out] at C2 HVV
  obtain ⟨N, HN⟩ : ∃ N, Hid (l.length = N) := ⟨_, rfl⟩
  have hN : N ≤ 60000 := by rw [← HN.out]; exact hl
  simp only [HN.out] at M0 C2 HW2 ⊢
  clear h hl m0 mb m1 HE1 HE2
  have HWW : Hid (w.heap.size ≤ W2.heap.size) := MB.out.size
  have hg0 : g < W2.heap.size := by omega
  have hg1 : g + 1 < W2.heap.size := by omega
  clear ms
  rw [HW2.out] at C1
  go_enter Tryz.func20, Tryz.ntmps20
  go_wp2_with fail
  refine C1.out.mono ?_
  rw [← HW2.out]
  simp only [HG.out]
  rintro e w1 ⟨rfl, hb1⟩
  have HB1 := Lib.hid hb1
  have H1 := Lib.hid (H.out.up hb1)
  have b0 := (HB1.out.block g hg0).trans M0.out
  have p := Go.Joins.cell_of_block b0
  have p0 := p 0; have p1 := p 1
  simp only [List.getElem?_toArray, List.getElem?_cons_succ, List.getElem?_cons_zero] at p0 p1
  have hgr0 := lt_of_some b0
  clear p b0 C1 hb1 H
  by_cases h1 : E1 = 0
  · subst h1
    have d1 : ((0 : Int) != 0) = false := rfl
    have C3 := Lib.hid (C2.out w1 H1.out)
    go_wp2_with fail
    refine C3.out.mono ?_
    rintro e w2 ⟨rfl, hb2⟩
    have HB2 := Lib.hid (HB1.out.trans (hb2.mono HB1.out.size))
    have H2 := Lib.hid (H1.out.up hb2)
    have b0 := (HB2.out.block g hg0).trans M0.out
    have p := Go.Joins.cell_of_block b0
    have p1 := p 1
    simp only [List.getElem?_toArray, List.getElem?_cons_succ, List.getElem?_cons_zero] at p1
    have hgr0 := lt_of_some b0
    clear p b0 C3 hb2 H1 HB1
    by_cases h2 : E2 = 0
    · subst h2
      have hE0 : E = 0 := by rw [← HE.out, orL_b]
      subst hE0
      have HV := Lib.hid (HVV.out (by simp))
      have hWB := HKW.out (by simp)
      clear HE HKW HVV
      go_wp2
      go_loopw [9, 10, 27] (fun q o i wr => ∃ (j : Nat) (b : Int) (ok : Bool), j ≤ N ∧ i = .int .i64 j ∧ q = .int .i64 b ∧ o = .bool ok ∧ Hid (Ls.untS k W (l.take j) b ok) ∧ Hid (Below w2.heap.size w2 wr)) (fun _ _ i _ => N - (RowKit.intOf i).toNat)
      case atStart => exact ⟨0, 0, false, Nat.zero_le _, rfl, rfl, rfl, Ls.untS_nil _ _, Below.refl _ _⟩
      case round =>
        obtain ⟨j, b, ok, hj, rfl, rfl, rfl, HU, HB⟩ := hrel
        clear p1 p0
        by_cases hlt : j < N
        · obtain ⟨bb, off, ⟨u1, v1, x1, y1, z1, t1⟩, rfl, hb, hx, c0, c1, c2, c3, c4, c5⟩ := RL.at_ (k := j) (H2.out.up HB.out) (by rw [HN.out]; exact hlt)
          dsimp only at c0 c1 c2 c3 c4 c5
          have ht1 := (Ls.chkLk_parts (HV.out.2.2.2 _ (List.mem_of_getElem? hx))).2.2.2.2
          dsimp only at ht1
          have HTK := Lib.hid (take_at l j _ hx)
          have hw : IntKind.i64.wrap (t1 + W) = t1 + W := IntWalk.i64_in _ (by omega)
          have b1 := (HB2.out.trans (HB.out.mono HB2.out.size)).block (g + 1) hg1
          have q := Go.Joins.cell_of_block (b1.trans M1.out)
          have q0 := q 0; have q1 := q 1
          simp only [List.getElem?_toArray, List.getElem?_cons_succ, List.getElem?_cons_zero] at q0 q1
          have hgr1 := lt_of_some (b1.trans M1.out)
          have HB4 : Hid (Below w2.heap.size w2 (wr.alloc (.cells #[.int .i64 u1, .int .i64 v1, .int .i64 x1, .int .i64 y1, .int .i64 z1, .int .i64 t1] 62))) := HB.out.alloc HB.out.size _
          clear q b1 hx hb ht1
          by_cases hk : k = 2
          · subst hk
            cases ok with
            | false =>
              have HU2 : Hid (Ls.untS 2 W (l.take (j + 1)) (t1 + W) true) := by
                show Ls.untS _ _ _ _ _
                rw [HTK.out]
                exact Ls.untS_first HU.out _
              go_wp2
              go_roundw
              case rel => exact ⟨j + 1, t1 + W, true, hlt, by go_num, by go_num, rfl, HU2.out, HB4.out⟩
              case measure => simp [RowKit.intOf]; omega
            | true =>
              by_cases hlb : t1 + W < b
              · have d5 : decide (t1 + W < b) = true := by simpa using hlb
                have HU2 : Hid (Ls.untS 2 W (l.take (j + 1)) (t1 + W) true) := by
                  show Ls.untS _ _ _ _ _
                  rw [HTK.out]
                  exact Ls.untS_less HU.out _ hlb
                clear hlb
                go_wp2
                go_roundw
                case rel => exact ⟨j + 1, t1 + W, true, hlt, by go_num, by go_num, rfl, HU2.out, HB4.out⟩
                case measure => simp [RowKit.intOf]; omega
              · have d5 : decide (t1 + W < b) = false := by simpa using hlb
                have HU2 : Hid (Ls.untS 2 W (l.take (j + 1)) b true) := by
                  show Ls.untS _ _ _ _ _
                  rw [HTK.out]
                  exact Ls.untS_more HU.out _ hlb
                clear hlb
                go_wp2
                go_roundw
                case rel => exact ⟨j + 1, b, true, hlt, by go_num, rfl, rfl, HU2.out, HB4.out⟩
                case measure => simp [RowKit.intOf]; omega
          · have d4 : (k == 2) = false := by simpa using hk
            have HU2 : Hid (Ls.untS k W (l.take (j + 1)) b ok) := Ls.untS_other HU.out hk _
            clear hk
            go_wp2
            go_roundw
            case rel => exact ⟨j + 1, b, ok, hlt, by go_num, rfl, rfl, HU2.out, HB4.out⟩
            case measure => simp [RowKit.intOf]; omega
        · have HU2 : Hid (Ls.untS k W l b ok) := by
            have := HU.out
            rw [List.take_of_length_le (by rw [HN.out]; omega)] at this
            exact this
          have dk : ¬ (j < N) := hlt
          have HFB := Lib.hid (MB.out.trans ((HB2.out.trans (HB.out.mono HB2.out.size)).mono HWW.out))
          go_wp2
          go_ret3
          exact ⟨b, ok, rfl, fun _ => HU2.out, fun h => absurd rfl h, HFB.out⟩
    · have hR : Hid (E2 = E) := by show _ = _; rw [← HE.out, orL_b]
      have d2 : (E2 != 0) = true := by simpa using h2
      have d3 : (E2 == 0) = false := by simpa using h2
      have H22 : Hid (E ≠ 0) := by rw [← hR.out]; exact h2
      have hR' := hR.out
      subst hR'
      have HFB := Lib.hid (MB.out.trans (HB2.out.mono HWW.out))
      clear h2
      go_wp2
      go_ret3
      exact ⟨0, false, rfl, fun h => absurd h H22.out, fun _ => ⟨rfl, rfl⟩, HFB.out⟩
  · have hR : Hid (E1 = E) := by show _ = _; rw [← HE.out, orL_a h1]
    have d2 : (E1 != 0) = true := by simpa using h1
    have d3 : (E1 == 0) = false := by simpa using h1
    have H11 : Hid (E ≠ 0) := by rw [← hR.out]; exact h1
    have hR' := hR.out
    subst hR'
    have HFB := Lib.hid (MB.out.trans (HB1.out.mono HWW.out))
    clear h1
    go_wp2
    go_ret3
    exact ⟨0, false, rfl, fun h => absurd h H11.out, fun _ => ⟨rfl, rfl⟩, HFB.out⟩
end Go.Proofs.YtfapfkaipdcflaaGreat
