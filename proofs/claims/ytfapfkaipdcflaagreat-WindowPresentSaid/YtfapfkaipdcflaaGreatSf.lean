/-
  slices.IndexFunc and slices.DeleteFunc at links, with the predicate of an event that takes links away.
-/
import Derived.Test.YtfapfkaipdcflaaGreatSe
namespace Go.Proofs.YtfapfkaipdcflaaGreat
open Go.RowKit Go.Lib

/-- the two variables that the predicate has captured -/
structure Cap (E N : Nat) (e : Ev) (w : World) : Prop where
  ev : w.heap[E]? = some (.cells #[.int .i64 e.kind, .int .i64 e.time, .int .i64 e.u, .int .i64 e.v, .int .i64 e.weight, .int .i64 e.label, .int .i64 e.sign] 57 (0, 0))
  lk : w.heap[N]? = some (.cells #[.int .i64 (min e.u e.v), .int .i64 (max e.u e.v), .int .i64 0, .int .i64 0, .int .i64 0, .int .i64 e.time] 62 (0, 0))
theorem Cap.go {E N : Nat} {e : Ev} {w w' : World} (h : Cap E N e w) (hb : Below w.heap.size w w') : Cap E N e w' :=
  ⟨(hb.block _ (lt_of_some h.ev)).trans h.ev, (hb.block _ (lt_of_some h.lk)).trans h.lk⟩
theorem Cap.gr {E N : Nat} {e : Ev} {w w' : World} {r : Option Nat} (h : Cap E N e w) (hg : w.grownBy w' r) (h1 : r ≠ some E) (h2 : r ≠ some N) : Cap E N e w' :=
  ⟨(hg.block _ (lt_of_some h.ev) (fun e => h1 e.symm)).trans h.ev, (hg.block _ (lt_of_some h.lk) (fun e => h2 e.symm)).trans h.lk⟩
theorem hit_any (E N : Nat) (e : Ev) (u v x y z t : Int) (w : World) (h : Cap E N e w) :
    Calls Tryz.prog 66 #[.agg #[.int .i64 u, .int .i64 v, .int .i64 x, .int .i64 y, .int .i64 z, .int .i64 t], .pointer (some ⟨E, 0, none⟩), .pointer (some ⟨N, 0, none⟩)] w fun en w' =>
      en = .returned (.bool (Ls.hitA e ⟨u, v, x, y, z, t⟩)) ∧ Below w.heap.size w w' := by
  have hE := Go.Joins.cell_of_block h.ev
  have hN := Go.Joins.cell_of_block h.lk
  have e0 := hE 0; have e2 := hE 2; have n0 := hN 0; have n1 := hN 1
  simp only [List.getElem?_toArray, List.getElem?_cons_succ, List.getElem?_cons_zero] at e0 e2 n0 n1
  have lE := lt_of_some h.ev
  have lN := lt_of_some h.lk
  have HB := Lib.hid (below_new w (.cells #[.int .i64 u, .int .i64 v, .int .i64 x, .int .i64 y, .int .i64 z, .int .i64 t] 62))
  obtain ⟨R, HR⟩ : ∃ R, Hid (Ls.hitA e ⟨u, v, x, y, z, t⟩ = R) := ⟨_, rfl⟩
  rw [HR.out]
  obtain ⟨a, ha⟩ : ∃ a, min e.u e.v = a := ⟨_, rfl⟩
  obtain ⟨b, hb⟩ : ∃ b, max e.u e.v = b := ⟨_, rfl⟩
  have HQ : Hid ((if e.kind = 3 then decide (u = e.u) || decide (v = e.u) else decide (u = a) && decide (v = b)) = R) := by
    show _ = _
    rw [← HR.out, ← ha, ← hb]
    rfl
  rw [ha] at n0
  rw [hb] at n1
  clear h hE hN HR ha hb
  generalize e.u = eu at e2 HQ
  by_cases hk : e.kind = 3
  · rw [hk] at e0
    have HQ2 : Hid ((decide (u = eu) || decide (v = eu)) = R) := by have := HQ.out; rw [if_pos hk] at this; exact this
    clear HQ hk
    go_enter Tryz.func66, Tryz.ntmps66
    go_wp2
    all_goals (go_ret; refine ⟨ret_bool ?_, below_new _ _⟩; rw [← HQ2.out]; clear HQ2; first | (simp_all; done) | (rw [Bool.eq_iff_iff]; simp_all; done) | grind)
  · have dk : (e.kind == 3) = false := by simpa using hk
    have HQ2 : Hid ((decide (u = a) && decide (v = b)) = R) := by have := HQ.out; rw [if_neg hk] at this; exact this
    clear HQ
    go_enter Tryz.func66, Tryz.ntmps66
    go_wp2
    all_goals (go_ret; refine ⟨ret_bool ?_, below_new _ _⟩; rw [← HQ2.out]; clear HQ2; first | (simp_all; done) | (rw [Bool.eq_iff_iff]; simp_all; done) | grind)
/-- the place of the first link that is taken away, -1 where there is none -/
def firstI (p : Ls.Lk → Bool) : List Ls.Lk → Int
  | [] => -1
  | x :: l => if p x = true then 0 else if firstI p l < 0 then -1 else firstI p l + 1
theorem firstI_cases (p : Ls.Lk → Bool) (l : List Ls.Lk) : (firstI p l = -1 ∧ ∀ x ∈ l, p x = false) ∨ ∃ k : Nat, firstI p l = k ∧ k < l.length ∧ (∀ x ∈ l.take k, p x = false) ∧ ∃ a, l[k]? = some a ∧ p a = true := by
  induction l with
  | nil => left; simp [firstI]
  | cons x l ih =>
    unfold firstI
    cases hx : p x with
    | true => right; exact ⟨0, by simp, by simp, by simp, x, by simp, hx⟩
    | false =>
      rw [if_neg (by decide)]
      rcases ih with ⟨h1, h2⟩ | ⟨k, h1, h2, h3, a, h4, h5⟩
      · left
        rw [h1]
        exact ⟨by simp, fun y hy => by
          rcases List.mem_cons.1 hy with e | hy
          · rw [e]; exact hx
          · exact h2 y hy⟩
      · right
        refine ⟨k + 1, by rw [h1, if_neg (by omega)]; simp, by simp; omega, fun y hy => ?_, a, by simpa using h4, h5⟩
        rw [List.take_succ_cons] at hy
        rcases List.mem_cons.1 hy with e | hy
        · rw [e]; exact hx
        · exact h3 y hy
theorem firstI_at (p : Ls.Lk → Bool) (l : List Ls.Lk) (k : Nat) (h : ∀ x ∈ l.take k, p x = false) (a : Ls.Lk) (ha : l[k]? = some a) (hp : p a = true) : firstI p l = k := by
  induction l generalizing k with
  | nil => simp at ha
  | cons x l ih =>
    unfold firstI
    cases k with
    | zero => simp at ha; subst ha; rw [if_pos hp]; rfl
    | succ k =>
      rw [List.take_succ_cons] at h
      have := ih k (fun y hy => h y (by simp [hy])) (by simpa using ha)
      rw [if_neg (by rw [h x (by simp)]; decide), this, if_neg (by omega)]
      simp
theorem firstI_none (p : Ls.Lk → Bool) (l : List Ls.Lk) (h : ∀ x ∈ l, p x = false) : firstI p l = -1 := by
  rcases firstI_cases p l with ⟨h1, -⟩ | ⟨k, -, -, -, a, h4, h5⟩
  · exact h1
  · rw [h a (List.mem_of_getElem? h4)] at h5; cases h5
theorem take_at {α : Type} (l : List α) (k : Nat) (a : α) (h : l[k]? = some a) : l.take (k + 1) = l.take k ++ [a] := by
  rw [List.take_add_one, h]; rfl
theorem drop_at2 {α : Type} (l : List α) (k : Nat) (a : α) (h : l[k]? = some a) : l.drop k = a :: l.drop (k + 1) := by
  obtain ⟨hk, rfl⟩ := List.getElem?_eq_some_iff.1 h
  exact List.drop_eq_getElem_cons hk
set_option maxHeartbeats 1000000 in
theorem index_any (E N : Nat) (e : Ev) (A : Option Addr) (c : Nat) (l : List Ls.Lk) (w : World) (h : RL w.heap.size w A c l) (hl : l.length ≤ 65536) (hc : Cap E N e w) :
    Calls Tryz.prog 86 #[.slice A l.length c, .func (.func 66) #[] #[.pointer (some ⟨E, 0, none⟩), .pointer (some ⟨N, 0, none⟩)]] w fun en w' =>
      en = .returned (.int .i64 (firstI (Ls.hitA e) l)) ∧ Below w.heap.size w w' := by
  have H := Lib.hid h
  have HC := Lib.hid hc
  obtain ⟨R, HR⟩ : ∃ R, Hid (firstI (Ls.hitA e) l = R) := ⟨_, rfl⟩
  rw [HR.out]
  clear h hc
  go_enter Tryz.func86, Tryz.ntmps86
  go_wp2
  go_loopw [8] (fun i wr => ∃ k : Nat, k ≤ l.length ∧ i = .int .i64 k ∧ Hid (∀ x ∈ l.take k, Ls.hitA e x = false) ∧ Hid (Below w.heap.size w wr)) (fun i _ => l.length - (RowKit.intOf i).toNat)
  case atStart => exact ⟨0, Nat.zero_le _, rfl, by show ∀ x ∈ l.take 0, _; simp, Below.refl _ _⟩
  case round =>
    obtain ⟨k, hk, rfl, HF, HB⟩ := hrel
    by_cases hlt : k < l.length
    · obtain ⟨bb, off, ⟨u1, v1, x1, y1, z1, t1⟩, rfl, hb, hx, c0, c1, c2, c3, c4, c5⟩ := RL.at_ (k := k) (H.out.up HB.out) hlt
      dsimp only at c0 c1 c2 c3 c4 c5
      have C := Lib.hid (hit_any E N e u1 v1 x1 y1 z1 t1 wr (HC.out.go HB.out))
      have HX := Lib.hid hx
      clear hx
      cases hp : Ls.hitA e ⟨u1, v1, x1, y1, z1, t1⟩ with
      | true =>
        have hR : Hid ((k : Int) = R) := by show _ = _; rw [← HR.out]; exact (firstI_at _ _ _ HF.out _ HX.out hp).symm
        rw [hp] at C
        clear hp
        go_wp2_with fail
        refine C.out.mono ?_
        rintro en w2 ⟨rfl, hb2⟩
        have HB2 := Lib.hid hb2
        clear hb2 C c0 c1 c2 c3 c4 c5
        go_wp2
        go_ret
        exact ⟨ret_int hR.out, HB.out.trans (HB2.out.mono HB.out.size)⟩
      | false =>
        have HF2 : Hid (∀ x ∈ l.take (k + 1), Ls.hitA e x = false) := by
          show ∀ x ∈ l.take (k + 1), _
          rw [take_at l k _ HX.out]
          intro x hx
          rcases List.mem_append.1 hx with hx | hx
          · exact HF.out x hx
          · simp at hx; subst hx; exact hp
        rw [hp] at C
        clear hp
        go_wp2_with fail
        refine C.out.mono ?_
        rintro en w2 ⟨rfl, hb2⟩
        have HB2 := Lib.hid hb2
        clear hb2 C c0 c1 c2 c3 c4 c5
        go_wp2
        go_roundw
        case rel => exact ⟨k + 1, by omega, by go_num, HF2.out, HB.out.trans (HB2.out.mono HB.out.size)⟩
        case measure => simp [RowKit.intOf]; omega
    · have hR : Hid ((-1 : Int) = R) := by
        show _ = _
        rw [← HR.out]
        refine (firstI_none _ _ fun x hx => HF.out x ?_).symm
        rwa [List.take_of_length_le (by omega)]
      go_wp2
      go_ret
      exact ⟨ret_int hR.out, HB.out⟩
end Go.Proofs.YtfapfkaipdcflaaGreat
