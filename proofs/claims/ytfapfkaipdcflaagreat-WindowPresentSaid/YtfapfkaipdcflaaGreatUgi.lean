/-
  Joined texts: Ug, Ui.
-/
import Derived.Test.YtfapfkaipdcflaaGreatUf
import Derived.Test.YtfapfkaipdcflaaGreatMm
import Derived.Test.YtfapfkaipdcflaaGreatSq
/-
  The reference's Slide: what it rests on.
-/
namespace Go.Proofs.YtfapfkaipdcflaaGreat
open Go.RowKit Go.Lib

namespace Ls
theorem slide_step (W M s : Int) (L : List Lk) (e : Ev) (es : List Ev) (h : untilA W L = some s) (hs : s ≤ e.time) : slideA W M L (e :: es) = cutsX W M s L ++ slideA W M (restX W M s L) (e :: es) := by
  rw [slideA_cons, slideA_cons, drain_step W M e.time s L h hs]
  simp only [List.append_assoc]
theorem slide_stop (W M : Int) (L : List Lk) (e : Ev) (es : List Ev) (h : ∀ s, untilA W L = some s → e.time < s) : slideA W M L (e :: es) = e :: cutsX W M e.time (stepA L e) ++ slideA W M (restX W M e.time (stepA L e)) es := by
  rw [slideA_cons, drain_stop W M e.time L h]
  rfl
theorem unt_until {k W M : Int} (hW : chkW k W M = 0) {S L : List Lk} (h : Rl S L) {b : Int} {ok : Bool} (hu : untS k W S b ok) : (ok = true → untilA (extW k W) L = some b) ∧ (ok = false → untilA (extW k W) L = none) := by
  obtain ⟨h1, h2⟩ := chkW_ok hW
  have hlen := rl_len h
  by_cases hk : k = 2
  · subst hk
    have e1 : extW 2 W = W := rfl
    rw [e1]
    have hW2 : W ≤ 1048576 := (kind_width hW).2
    by_cases hS : S = []
    · obtain ⟨h3, -⟩ := hu.2 (.inr hS)
      subst h3
      have hL : L = [] := List.length_eq_zero_iff.1 (by rw [hlen, hS]; rfl)
      subst hL
      exact ⟨fun h => (by cases h), fun _ => rfl⟩
    · obtain ⟨h3, m, ⟨⟨y, hy, ey⟩, hmin⟩, rfl⟩ := hu.1 rfl hS
      subst h3
      refine ⟨fun _ => ?_, fun h => (by cases h)⟩
      cases L with
      | nil => exact absurd (List.length_eq_zero_iff.1 hlen.symm) hS
      | cons x l =>
        have hx0 := List.pairwise_cons.1 h.aged
        obtain ⟨y2, hy2, ey2⟩ := rl_mem h (show x ∈ x :: l by simp)
        have := hmin y2 hy2
        obtain ⟨z, hz, ez⟩ := rl_mem' h hy
        have hzx : x.time ≤ z.time := by
          rcases List.mem_cons.1 hz with rfl | hz
          · exact Int.le_refl _
          · exact old_time _ _ (hx0.1 z hz)
        have : x.time = m := by omega
        show (if W = 1048577 then none else some (x.time + W)) = _
        rw [if_neg (by omega), this]
  · obtain ⟨h3, -⟩ := hu.2 (.inl hk)
    subst h3
    have e1 : extW k W = 1048577 := if_neg hk
    rw [e1]
    refine ⟨fun h => (by cases h), fun _ => ?_⟩
    cases L with
    | nil => rfl
    | cons x l =>
      show (if (1048577 : Int) = 1048577 then none else some (x.time + 1048577)) = none
      rw [if_pos rfl]
theorem no_cut (W M t : Int) (L : List Lk) (h : ∀ x ∈ L, t - x.time < W) (hM : (L.length : Int) ≤ M) : cutsX W M t L = [] ∧ restX W M t L = L := by
  have h1 : older (t - W + 1) L = 0 := by
    unfold older
    rw [List.length_eq_zero_iff, List.filter_eq_nil_iff]
    intro x hx
    have := h x hx
    simp
    omega
  have h2 : outN W M t L = 0 := by unfold outN; rw [h1]; omega
  unfold cutsX restX
  rw [h2]
  exact ⟨rfl, rfl⟩
theorem stopped_in {k W M : Int} (hW : chkW k W M = 0) (L : List Lk) (hA : Aged L) (hT : ∀ x ∈ L, 0 ≤ x.time) (t : Int) (ht : t ≤ 1048576) (h : ∀ s, untilA (extW k W) L = some s → t < s) : ∀ x ∈ L, t - x.time < extW k W := by
  by_cases hk : k = 2
  · have e1 : extW k W = W := if_pos hk
    have hW2 : W ≤ 1048576 := (kind_width hW).2
    rw [e1] at h ⊢
    cases L with
    | nil => intro x hx; cases hx
    | cons y l =>
      have hu : untilA W (y :: l) = some (y.time + W) := if_neg (by omega)
      have := h _ hu
      intro x hx
      rcases List.mem_cons.1 hx with rfl | hx
      · omega
      · have := old_time _ _ ((List.pairwise_cons.1 hA).1 x hx); omega
  · have e1 : extW k W = 1048577 := if_neg hk
    rw [e1]
    intro x hx
    have := hT x hx
    omega
theorem part_len (p : Lk → Bool) (T : List Lk) : (T.filter fun x => !p x).length + (T.filter p).length = T.length := by
  induction T with
  | nil => rfl
  | cons a T ih => cases hp : p a <;> simp [hp] <;> omega
theorem exp_keep_len (W M t : Int) (S : List Lk) : (expS W M t S).length + (keepS W M t S).length = S.length := by
  unfold expS keepS
  rw [List.length_map]
  exact part_len _ S
end Ls
theorem RX.grow {α : Type} {n : Nat} {f : α → List Value} {w w' : World} {A : Option Addr} {c : Nat} {l : List α} {r : Option Nat} (h : RX n f w.heap.size w A c l) (hr : ∀ ad, l ≠ [] → A = some ad → some ad.block ≠ r) (hg : w.grownBy w' r) : RX n f w'.heap.size w' A c l := by
  refine ⟨h.1, h.2.1, fun h0 => ?_⟩
  obtain ⟨ad, e, hbl, hcc⟩ := h.2.2 h0
  refine ⟨ad, e, Nat.lt_of_lt_of_le hbl hg.size, fun j u hu => ?_⟩
  have hl : l ≠ [] := by intro e; rw [e] at h0; simp at h0
  have hbe := hg.block ad.block hbl (hr ad hl e)
  have := hcc j u hu
  have hbj : (ad.add j).block = ad.block := by rw [block_of_add]
  unfold World.cell? at this ⊢
  rw [hbj] at this ⊢
  rw [hbe]
  exact this
/-- the state of the reference's slide -/
structure SR (w : World) (P : Nat) (N : Int) (A : Option Addr) (c : Nat) (S L : List Ls.Lk) (A5 : Option Addr) (c5 : Nat) (out : List Ev) (wr : World) : Prop where
  box : wr.heap[P]? = some (.cells #[.int .i64 N, .slice A S.length c] 24 (0, 0))
  rl : RL wr.heap.size wr A c S
  tk : K.TK wr A S
  own : wr.ownsRow w.heap.size 57 7 (.slice A5 out.length c5) out.length (cl Ev.cells out)
  bel : Below w.heap.size w wr
  hP : w.heap.size ≤ P
  r : Ls.Rl S L
  v : Ls.V N S
section
variable {w wr w' : World} {P c c5 : Nat} {N : Int} {A A5 : Option Addr} {S L : List Ls.Lk} {out : List Ev}
theorem SR.go (h : SR w P N A c S L A5 c5 out wr) (hb : Below wr.heap.size wr w') : SR w P N A c S L A5 c5 out w' :=
  ⟨(hb.block _ (lt_of_some h.box)).trans h.box, h.rl.up hb, h.tk.go hb, own_up h.own hb, h.bel.trans (hb.mono h.bel.size), h.hP, h.r, h.v⟩
/-- another state goes into the box -/
theorem SR.put {A' : Option Addr} {c' : Nat} {S' L' : List Ls.Lk} (h : SR w P N A c S L A5 c5 out wr) (hr : RL wr.heap.size wr A' c' S') (ht : K.TK wr A' S') (hl : Ls.Rl S' L') (hv : Ls.V N S') : SR w P N A' c' S' L' A5 c5 out ((wr.setCell ⟨P, 0, none⟩ (.int .i64 N)).setCell ⟨P, 1, none⟩ (.slice A' S'.length c')) := by
  have hgr : wr.grownBy ((wr.setCell ⟨P, 0, none⟩ (.int .i64 N)).setCell ⟨P, 1, none⟩ (.slice A' S'.length c')) (some P) := grown_trans (only_set1 _ _ _ rfl) (only_set1 _ _ _ rfl)
  exact ⟨setCell_cells (setCell_cells h.box 0 (.int .i64 N)) 1 (.slice A' S'.length c'), (hr.keepG encL (n := 6) (by decide) h.box hgr).2, ht.gr h.box (by decide) hgr, own_other h.own h.box (by decide) hgr, (h.bel.setCell (p := ⟨P, 0, none⟩) h.hP _).setCell (p := ⟨P, 1, none⟩) h.hP _, h.hP, hl, hv⟩
/-- what has been put out grows -/
theorem SR.app {A6 : Option Addr} {c6 : Nat} {out2 : List Ev} (h : SR w P N A c S L A5 c5 out wr) (hg : wr.grownBy w' (Value.slice A5 out.length c5).ownBlock) (ho : w'.ownsRow w.heap.size 57 7 (.slice A6 out2.length c6) out2.length (cl Ev.cells out2)) : SR w P N A c S L A6 c6 out2 w' := by
  have hne : ∀ (j : Nat) (cs : Array Value) (U : TypeId), wr.heap[j]? = some (.cells cs U (0, 0)) → U ≠ 57 → some j ≠ (Value.slice A5 out.length c5).ownBlock := by
    intro j cs U hj hU e
    rcases h.own.2 with ⟨h1, _⟩ | ⟨g, cap, cur, h1, h2, h3, h4⟩
    · rw [h1] at e; cases e
    · rw [h1] at e
      have : j = g := by simpa [Value.ownBlock] using e
      subst this
      rw [h3] at hj
      injection hj with hj
      injection hj with _ hj
      exact hU hj.symm
  have hA : ∀ ad, S ≠ [] → A = some ad → some ad.block ≠ (Value.slice A5 out.length c5).ownBlock := fun ad hl e => by
    obtain ⟨cs, hc⟩ := h.tk hl ad e
    exact hne _ _ _ hc (by decide)
  refine ⟨(hg.block P (lt_of_some h.box) (hne P _ _ h.box (by decide))).trans h.box, h.rl.grow hA hg, fun hl ad e => ?_, ho, h.bel.grown hg h.bel.size (fun k hk => (h.own.lt k hk).1), h.hP, h.r, h.v⟩
  obtain ⟨cs, hc⟩ := h.tk hl ad e
  exact ⟨cs, (hg.block _ (lt_of_some hc) (hA ad hl e)).trans hc⟩
end
end Go.Proofs.YtfapfkaipdcflaaGreat

/-
  The reference's Slide: the mathematics of an event.
-/
namespace Go.Proofs.YtfapfkaipdcflaaGreat
open Go.RowKit Go.Lib

namespace Ls
/-- behind an event that no expiry stands before, at a window not by number -/
theorem stop_round {k W M n tl : Int} (hW : chkW k W M = 0) (hk : k ≠ 3) {S L : List Lk} (hr : Rl S L) (hv : V n S) (e : Ev) (hg : Good n e) (hT : ∀ x ∈ S, x.time ≤ tl ∧ tl < x.time + extW k W) (ht : tl ≤ e.time)
    (hs : ∀ s, untilA (extW k W) L = some s → e.time < s) (hl : S.length ≤ 2000) :
    cutsX (extW k W) (extM k M) e.time (stepA L e) = [] ∧ restX (extW k W) (extM k M) e.time (stepA L e) = stepA L e ∧ ∀ x ∈ nextL S e, x.time ≤ e.time ∧ e.time < x.time + extW k W := by
  have hgk := good_kind hg
  have hr2 := step_rl hr hv.2.2.1 e hgk.1
  have hM : extM k M = 2016 := if_neg hk
  have hlen := len_next S e hv.2.2.1
  have hlen2 := rl_len hr2
  have h0 : ∀ x ∈ L, 0 ≤ x.time := fun x hx => by
    obtain ⟨y, hy, ey⟩ := rl_mem hr hx
    have := (chkLk_parts (hv.2.2.2 y hy)).2.2.2.2.1
    omega
  have hin := stopped_in hW L hr.aged h0 e.time hgk.2.2.1 hs
  have hx1 : 1 ≤ extW k W := (ext_bounds hW).1
  have hst : ∀ x ∈ stepA L e, e.time - x.time < extW k W := fun x hx => by
    rcases step_mem L e x hx with h | rfl
    · exact hin x h
    · show e.time - e.time < _; omega
  obtain ⟨c1, c2⟩ := no_cut (extW k W) (extM k M) e.time (stepA L e) hst (by rw [hM]; omega)
  refine ⟨c1, c2, fun x hx => ⟨next_time S e tl (fun y hy => (hT y hy).1) ht x hx, ?_⟩⟩
  obtain ⟨y, hy, ey⟩ := rl_mem' hr2 hx
  have := hst y hy
  omega
/-- behind an event, at a window by number -/
theorem count_round {n tl : Int} {S : List Lk} (hv : V n S) (e : Ev) (hg : Good n e) (hT : ∀ x ∈ S, x.time ≤ tl) (ht : tl ≤ e.time) : ∀ x ∈ nextL S e, x.time ≤ e.time ∧ e.time < x.time + 1048577 := by
  intro x hx
  have h1 := (chkLk_parts ((next_valid hv hg).2.2.2 x hx)).2.2.2.2.1
  have h2 := (good_kind hg).2.2.1
  exact ⟨next_time S e tl hT ht x hx, by omega⟩
end Ls
end Go.Proofs.YtfapfkaipdcflaaGreat
