/-
  The reference's in: whether a link of a state is in a window.
-/
import Derived.Test.YtfapfkaipdcflaaGreatUa
import Derived.Test.YtfapfkaipdcflaaGreatMa
namespace Go.Proofs.YtfapfkaipdcflaaGreat
open Go.RowKit Go.Lib
open Go.Proofs.YtfapfkaipdcflaaGreat.K (new_two)

namespace Ls
/-- whether a link is in a window -/
def refIn (k W M t : Int) (S : List Lk) (x : Lk) : Bool := if k = 2 then decide (t - x.time < W) else if k = 3 then decide (((S.filter (old x)).length : Int) < M) else true
theorem later_step (S : List Lk) (x y : Lk) (j : Nat) (h : S[j]? = some y) : ((S.take (j + 1)).filter (old x)).length = ((S.take j).filter (old x)).length + (if old x y = true then 1 else 0) := by
  rw [List.take_add_one, h, List.filter_append, List.length_append]
  congr 1
  simp [List.filter_cons]
  split <;> rfl
theorem asc_before (S : List Lk) (hS : Asc S) (i j : Nat) (x y : Lk) (hx : S[i]? = some x) (hy : S[j]? = some y) : before x y = true ↔ i < j := by
  obtain ⟨h1, e1⟩ := List.getElem?_eq_some_iff.1 hx
  obtain ⟨h2, e2⟩ := List.getElem?_eq_some_iff.1 hy
  constructor
  · intro hb
    rcases Nat.lt_trichotomy i j with h | h | h
    · exact h
    · subst h
      rw [hx] at hy
      injection hy with hy
      subst hy
      rw [before_irr] at hb; cases hb
    · have := List.pairwise_iff_getElem.1 hS j i h2 h1 h
      rw [e1, e2] at this
      have := before_trans _ _ _ this hb
      rw [before_irr] at this; cases this
  · intro h
    have := List.pairwise_iff_getElem.1 hS i j h1 h2 h
    rw [e1, e2] at this
    exact this
theorem old_later (S : List Lk) (hS : Asc S) (i j : Nat) (x y : Lk) (hx : S[i]? = some x) (hy : S[j]? = some y) : old x y = (decide (x.time < y.time) || (decide (x.time = y.time) && decide (i < j))) := by
  have := asc_before S hS i j x y hx hy
  unfold old
  congr 2
  cases hb : before x y with
  | true => rw [decide_eq_true (this.1 hb)]
  | false => rw [decide_eq_false (fun h => by have := this.2 h; rw [hb] at this; cases this)]
theorem old_true {a b : Int} {i j : Nat} (h : a < b ∨ (a = b ∧ i < j)) : (decide (a < b) || (decide (a = b) && decide (i < j))) = true := by
  rcases h with h | ⟨h1, h2⟩
  · simp [h]
  · simp [h1, h2]
end Ls
set_option maxHeartbeats 4000000 in
set_option maxRecDepth 100000 in
theorem rin_any (n : Int) (A : Option Addr) (c : Nat) (l : List Ls.Lk) (k W M t : Int) (i : Nat) (X : Ls.Lk) (w : World) (h : RL w.heap.size w A c l) (hl : l.length ≤ 60000) (ha : Ls.Asc l) (hi : l[i]? = some X) (hX : 0 ≤ X.time ∧ X.time ≤ 1048576) (ht : 0 ≤ t ∧ t ≤ 1048576) (hk : k = 1 ∨ k = 2 ∨ k = 3) :
    Calls Tryz.prog 32 #[.agg #[.int .i64 n, .slice A l.length c], .agg #[.int .i64 k, .int .i64 W, .int .i64 M], .int .i64 t, .int .i64 i] w fun e w' => e = .returned (.bool (Ls.refIn k W M t l X)) ∧ Below w.heap.size w w' := by
  obtain ⟨m0, m1, ms, mb⟩ := new_two w (.cells #[.int .i64 n, .slice A l.length c] 24) (.cells #[.int .i64 k, .int .i64 W, .int .i64 M] 26)
  obtain ⟨W2, HW2⟩ : ∃ W2, Hid (W2 = (w.alloc (.cells #[.int .i64 n, .slice A l.length c] 24)).alloc (.cells #[.int .i64 k, .int .i64 W, .int .i64 M] 26)) := ⟨_, rfl⟩
  rw [← HW2.out] at m0 m1 ms mb
  obtain ⟨g, HG⟩ : ∃ g, Hid (w.heap.size = g) := ⟨_, rfl⟩
  rw [HG.out] at m0 m1 ms
  have M0 := Lib.hid m0; have M1 := Lib.hid m1; have MB := Lib.hid mb
  have H := Lib.hid (h.up mb)
  have hil := (List.getElem?_eq_some_iff.1 hi).1
  have HI := Lib.hid hi
  have HA := Lib.hid ha
  obtain ⟨N, HN⟩ : ∃ N, Hid (l.length = N) := ⟨_, rfl⟩
  have hN : N ≤ 60000 := by rw [← HN.out]; exact hl
  have hiN : i < N := by rw [← HN.out]; exact hil
  rw [HN.out] at M0
  rw [HG.out] at MB
  clear h hl ha hi m0 m1 mb hil
  have hg0 : g < W2.heap.size := by omega
  have hg1 : g + 1 < W2.heap.size := by omega
  clear ms
  obtain ⟨xu, xv, xx, xy, xz, xt⟩ := X
  dsimp only at hX
  have p := Go.Joins.cell_of_block M0.out; have q := Go.Joins.cell_of_block M1.out
  have p0 := p 0; have p1 := p 1; have q0 := q 0; have q1 := q 1; have q2 := q 2
  simp only [List.getElem?_toArray, List.getElem?_cons_succ, List.getElem?_cons_zero] at p0 p1 q0 q1 q2
  clear p q
  rw [HN.out]
  rcases hk with rfl | rfl | rfl
  · have HR : Hid (Ls.refIn 1 W M t l ⟨xu, xv, xx, xy, xz, xt⟩ = true) := rfl
    go_enter Tryz.func32, Tryz.ntmps32
    rw [HN.out] at HW2
    go_wp2_with fail
    rw [← HW2.out]
    simp only [HG.out]
    go_wp2
    go_ret
    exact ⟨ret_bool HR.out.symm, MB.out⟩
  · have HR : Hid (Ls.refIn 2 W M t l ⟨xu, xv, xx, xy, xz, xt⟩ = decide (t - xt < W)) := rfl
    obtain ⟨b, off, x', rfl, hb, hx', c0, c1, c2, c3, c4, c5⟩ := RL.at_ (k := i) H.out (by rw [HN.out]; exact hiN)
    rw [HI.out] at hx'
    injection hx' with hx'
    subst hx'
    dsimp only at c0 c1 c2 c3 c4 c5
    have hw : IntKind.i64.wrap (t - xt) = t - xt := IntWalk.i64_in _ (by omega)
    clear c0 c1 c2 c3 c4
    go_enter Tryz.func32, Tryz.ntmps32
    rw [HN.out] at HW2
    go_wp2_with fail
    rw [← HW2.out]
    simp only [HG.out]
    go_wp2
    go_quiet (fail)
    go_wp2
    go_ret
    refine ⟨ret_bool HR.out.symm, ?_⟩
    first | exact MB.out.trans ((below_drewN W2 _).mono (Nat.le_of_lt hg0)) | (rw [HG.out]; exact MB.out.trans ((below_drewN W2 _).mono (Nat.le_of_lt hg0)))
  · obtain ⟨b, off, x', rfl, hb, hx', c0, c1, c2, c3, c4, c5⟩ := RL.at_ (k := i) H.out (by rw [HN.out]; exact hiN)
    rw [HI.out] at hx'
    injection hx' with hx'
    subst hx'
    dsimp only at c0 c1 c2 c3 c4 c5
    have HC5 := Lib.hid c5
    have HBB := Lib.hid hb
    clear c0 c1 c2 c3 c4 c5 hb
    go_enter Tryz.func32, Tryz.ntmps32
    rw [HN.out] at HW2
    go_wp2_with fail
    rw [← HW2.out]
    simp only [HG.out]
    go_wp2
    go_loopw [9, 32] (fun q s wr => ∃ (j m : Nat), j ≤ N ∧ s = .int .i64 j ∧ q = .int .i64 m ∧ m ≤ j ∧ Hid (m = ((l.take j).filter (Ls.old ⟨xu, xv, xx, xy, xz, xt⟩)).length) ∧ Hid (Below W2.heap.size W2 wr)) (fun _ s _ => N - (RowKit.intOf s).toNat)
    case atStart => exact ⟨0, 0, Nat.zero_le _, rfl, rfl, Nat.le_refl _, by show _ = _; simp, Below.refl _ _⟩
    case round =>
      obtain ⟨j, m, hj, rfl, rfl, hm, HQ, HB⟩ := hrel
      have b0 := (HB.out.block g hg0).trans M0.out
      have b1 := (HB.out.block (g + 1) hg1).trans M1.out
      have p := Go.Joins.cell_of_block b0; have q := Go.Joins.cell_of_block b1
      have p1 := p 1; have q2 := q 2
      simp only [List.getElem?_toArray, List.getElem?_cons_succ, List.getElem?_cons_zero] at p1 q2
      have hgr0 := lt_of_some b0; have hgr1 := lt_of_some b1
      clear p q b0 b1
      by_cases hlt : j < N
      · obtain ⟨b', off', ⟨yu, yv, yx, yy, yz, yt⟩, he, hb', hy, c0, c1, c2, c3, c4, c5⟩ := RL.at_ (k := j) (H.out.up HB.out) (by rw [HN.out]; exact hlt)
        injection he with he
        injection he with he1 he2
        subst he1
        subst he2
        dsimp only at c0 c1 c2 c3 c4 c5
        have HST := Lib.hid (Ls.later_step l ⟨xu, xv, xx, xy, xz, xt⟩ ⟨yu, yv, yx, yy, yz, yt⟩ j hy)
        have HOL := Lib.hid (Ls.old_later l HA.out i j _ _ HI.out hy)
        obtain ⟨wr2, HW3⟩ : ∃ wr2, Hid (wr2 = wr.alloc (.cells #[.int .i64 yu, .int .i64 yv, .int .i64 yx, .int .i64 yy, .int .i64 yz, .int .i64 yt] 62)) := ⟨_, rfl⟩
        have hb3 : Below wr.heap.size wr wr2 := by rw [HW3.out]; exact below_new _ _
        obtain ⟨h3, HH3⟩ : ∃ h3, Hid (wr.heap.size = h3) := ⟨_, rfl⟩
        have hy3 : wr2.heap[h3]? = some (.cells #[.int .i64 yu, .int .i64 yv, .int .i64 yx, .int .i64 yy, .int .i64 yz, .int .i64 yt] 62 (0, 0)) := by rw [HW3.out, ← HH3.out]; exact heap_alloc_new _ _
        have z5 := Go.Joins.cell_of_block hy3 5
        simp only [List.getElem?_toArray, List.getElem?_cons_succ, List.getElem?_cons_zero] at z5
        have HB3 := Lib.hid (HB.out.trans (hb3.mono HB.out.size))
        have x5 : wr2.cell? ⟨b, off + i * 6 + 5, none⟩ = some (.int .i64 xt) := (HB3.out.cell (p := ⟨b, _, none⟩) HBB.out).trans HC5.out
        have r1 := (hb3.cell (p := ⟨g, 1, none⟩) hgr0).trans p1
        clear hy3 hy
        go_wp2_with fail
        rw [← HW3.out]
        simp only [HH3.out]
        have hw1 : IntKind.i64.wrap ((m : Int) + 1) = (m : Int) + 1 := IntWalk.i64_in _ (by omega)
        by_cases e1 : xt < yt
        · have d1 : decide (yt > xt) = true := by rw [decide_eq_true_eq]; omega
          have HM2 : Hid (m + 1 = ((l.take (j + 1)).filter (Ls.old ⟨xu, xv, xx, xy, xz, xt⟩)).length) := by
            show _ = _
            rw [HST.out, HOL.out, ← HQ.out, if_pos (Ls.old_true (.inl e1))]
          clear e1
          go_quiet (fail)
          clear z5 x5 r1
          go_wp2
          go_roundw
          case rel => exact ⟨j + 1, m + 1, hlt, by go_num, by go_num, by omega, HM2.out, HB3.out.trans ((below_drewN _ _).mono HB3.out.size)⟩
          case measure => simp [RowKit.intOf]; omega
        by_cases e2 : yt = xt
        · subst e2
          by_cases e3 : i < j
          · have d3 : decide ((j : Int) > (i : Int)) = true := by rw [decide_eq_true_eq]; omega
            have HM2 : Hid (m + 1 = ((l.take (j + 1)).filter (Ls.old ⟨xu, xv, xx, xy, xz, yt⟩)).length) := by
              show _ = _
              rw [HST.out, HOL.out, ← HQ.out, if_pos (Ls.old_true (.inr ⟨rfl, e3⟩))]
            go_quiet (fail)
            clear z5 x5 r1
            go_wp2
            go_roundw
            case rel => exact ⟨j + 1, m + 1, hlt, by go_num, by go_num, by omega, HM2.out, HB3.out.trans ((below_drewN _ _).mono HB3.out.size)⟩
            case measure => simp [RowKit.intOf]; omega
          · have d3 : decide ((j : Int) > (i : Int)) = false := by rw [decide_eq_false_iff_not]; omega
            have HM2 : Hid (m = ((l.take (j + 1)).filter (Ls.old ⟨xu, xv, xx, xy, xz, yt⟩)).length) := by
              show _ = _
              rw [HST.out, HOL.out, ← HQ.out, if_neg (by simp [e3])]; rfl
            go_quiet (fail)
            clear z5 x5 r1
            go_wp2
            go_roundw
            case rel => exact ⟨j + 1, m, hlt, by go_num, by go_num, by omega, HM2.out, HB3.out.trans ((below_drewN _ _).mono HB3.out.size)⟩
            case measure => simp [RowKit.intOf]; omega
        · have d1 : decide (yt > xt) = false := by rw [decide_eq_false_iff_not]; omega
          have d2 : (yt == xt) = false := by simpa using e2
          have HM2 : Hid (m = ((l.take (j + 1)).filter (Ls.old ⟨xu, xv, xx, xy, xz, xt⟩)).length) := by
            show _ = _
            rw [HST.out, HOL.out, ← HQ.out, if_neg (by simp; omega)]; rfl
          clear e1 e2
          go_quiet (fail)
          clear z5 x5 r1
          go_wp2
          go_roundw
          case rel => exact ⟨j + 1, m, hlt, by go_num, by go_num, by omega, HM2.out, HB3.out.trans ((below_drewN _ _).mono HB3.out.size)⟩
          case measure => simp [RowKit.intOf]; omega
      · have HR : Hid (Ls.refIn 3 W M t l ⟨xu, xv, xx, xy, xz, xt⟩ = decide ((m : Int) < M)) := by
          show _ = _
          rw [HQ.out, List.take_of_length_le (by rw [HN.out]; omega)]
          rfl
        have dj : ¬ (j < N) := hlt
        go_wp2
        go_ret
        refine ⟨ret_bool HR.out.symm, ?_⟩
        first | exact MB.out.trans (HB.out.mono (Nat.le_of_lt hg0)) | (rw [HG.out]; exact MB.out.trans (HB.out.mono (Nat.le_of_lt hg0)))
end Go.Proofs.YtfapfkaipdcflaaGreat
