/-
  Joined texts: Tc, Td.
-/
import Derived.Test.YtfapfkaipdcflaaGreatIn
import Derived.Test.YtfapfkaipdcflaaGreatSu
/-
  The frame of a region whose slots are one block and one slot ahead of it.
-/
namespace Go.Proofs.YtfapfkaipdcflaaGreat
open Go.RowKit

theorem sets_at (f : Nat → Value) : ∀ (xs : List Nat) (L : List Value) (i : Nat), i < L.length → ((xs.foldl (fun L x => L.set x (f x)) L)[i]?) = if i ∈ xs then some (f i) else L[i]?
  | [], L, i, _ => by simp
  | x :: xs, L, i, h => by
    rw [List.foldl_cons, sets_at f xs (L.set x (f x)) i (by simpa using h)]
    by_cases hx : i ∈ xs
    · simp [hx]
    · by_cases he : x = i
      · subst he; simp [h]
      · simp [hx, Ne.symm he, List.getElem?_set_ne he]
theorem sets_len (f : Nat → Value) : ∀ (xs : List Nat) (L : List Value), (xs.foldl (fun L x => L.set x (f x)) L).length = L.length
  | [], _ => rfl
  | x :: xs, L => by rw [List.foldl_cons, sets_len f xs]; simp
theorem act_blocks {a a0 : Act} {l : List Oper} {n : Nat} (xs : List Nat) (lo m : Nat) (hsz : a.tmps.size = a0.tmps.size) (hdf : a.defers = a0.defers)
    (h : ∀ k, (∀ j oj, j < n → l.toArray[j]? = some oj → oj.dst ≠ some k) → a.eval (.tmp k) = a0.eval (.tmp k)) (ds rs : List Nat) (hds : (l.take n).filterMap (fun o => o.dst) = ds) (hin : ds.all (fun d => xs.contains d || (decide (lo ≤ d) && decide (d < lo + m))) = true) (hr : rs = List.range' lo m) (hx : xs.all (fun x => decide (x < lo)) = true) (hlm : lo + m ≤ a0.tmps.size) :
    a = ⟨(xs.foldl (fun L x => L.set x (a.eval (.tmp x))) (a0.tmps.toList.take lo) ++ (rs.map (fun d => a.eval (.tmp d)) ++ a0.tmps.toList.drop (lo + m))).toArray, a0.defers⟩ := by
  have key : ∀ k, k < a.tmps.size → k ∉ xs → ¬ (lo ≤ k ∧ k < lo + m) → (a.tmps[k]?).getD undef = (a0.tmps[k]?).getD undef := by
    intro k hk hm hm2
    have := h k (fun j oj hj ho e => by
      have h1 : k ∈ ds := by
        rw [← hds, List.mem_filterMap]
        exact ⟨oj, List.mem_of_getElem? (i := j) (by rw [List.getElem?_take_of_lt hj]; simpa using ho), e⟩
      have h2 := List.all_eq_true.1 hin k h1
      simp [hm] at h2
      omega)
    simpa [Act.eval] using this
  have hx' : ∀ x ∈ xs, x < lo := fun x hx0 => by simpa using List.all_eq_true.1 hx x hx0
  clear hx hin hds h
  obtain ⟨T, D⟩ := a
  obtain ⟨T0, D0⟩ := a0
  simp only at hsz hdf key hlm
  subst hdf
  have hl1 : (xs.foldl (fun L x => L.set x (Act.eval ⟨T, D⟩ (.tmp x))) (T0.toList.take lo)).length = lo := by
    rw [sets_len (fun x => Act.eval ⟨T, D⟩ (.tmp x))]; simp; omega
  have e : T.toList = xs.foldl (fun L x => L.set x (Act.eval ⟨T, D⟩ (.tmp x))) (T0.toList.take lo) ++ (rs.map (fun d => Act.eval ⟨T, D⟩ (.tmp d)) ++ T0.toList.drop (lo + m)) := by
    apply List.ext_getElem?
    intro i
    by_cases h1 : i < T.size
    · have hi0 : i < T0.size := by omega
      by_cases c1 : i < lo
      · rw [List.getElem?_append_left (by rw [hl1]; exact c1), sets_at (fun x => Act.eval ⟨T, D⟩ (.tmp x)) _ _ _ (by simp; omega)]
        by_cases c0 : i ∈ xs
        · simp [c0, h1, Act.eval]
        · have := key i h1 c0 (by omega)
          simp [h1, hi0] at this
          simp [c0, c1, this, h1, hi0]
      · rw [List.getElem?_append_right (by rw [hl1]; omega), hl1]
        have hnx : i ∉ xs := fun hq => by have := hx' i hq; omega
        by_cases c2 : i < lo + m
        · have e2 : lo + (i - lo) = i := by omega
          rw [List.getElem?_append_left (by simp [hr]; omega)]
          simp [hr, show i - lo < m by omega, Act.eval, e2, h1]
        · have := key i h1 hnx (by omega)
          simp [h1, hi0] at this
          have e3 : lo + m + (i - lo - m) = i := by omega
          rw [List.getElem?_append_right (by simp [hr]; omega)]
          simp [hr, this, e3, h1, hi0]
    · rw [List.getElem?_eq_none (by simp; omega), List.getElem?_eq_none (by rw [List.length_append, hl1]; simp [hr]; omega)]
  rw [← e]
end Go.Proofs.YtfapfkaipdcflaaGreat

/-
  A region that draws its order: a call whose answer begins with a state; the state is stored into a new box.
-/
namespace Go.Proofs.YtfapfkaipdcflaaGreat
open Go.RowKit Go.Lib

/-- a state's value -/
def Rst (N : Int) (S : List Ls.Lk) (X : Value) (w : World) : Prop := ∃ A c, X = .agg #[.int .i64 N, .slice A S.length c] ∧ RL w.heap.size w A c S
theorem Rst.go {N : Int} {S : List Ls.Lk} {X : Value} {w w' : World} (h : Rst N S X w) (hb : Below w.heap.size w w') : Rst N S X w' := by
  obtain ⟨A, c, h1, h2⟩ := h
  exact ⟨A, c, h1, h2.up hb⟩
/-- a box with a state -/
def Bst (n0 : Nat) (N : Int) (S : List Ls.Lk) (v : Value) (w : World) : Prop := ∃ B A c, v = .pointer (some ⟨B, 0, none⟩) ∧ n0 ≤ B ∧ w.heap[B]? = some (.cells #[.int .i64 N, .slice A S.length c] 24 (0, 0)) ∧ RL w.heap.size w A c S
theorem Bst.go {n0 : Nat} {N : Int} {S : List Ls.Lk} {X : Value} {w w' : World} (h : Bst n0 N S X w) (hb : Below w.heap.size w w') : Bst n0 N S X w' := by
  obtain ⟨B, A, c, h1, h2, h3, h4⟩ := h
  exact ⟨B, A, c, h1, h2, (hb.block _ (lt_of_some h3)).trans h3, h4.up hb⟩
/-- what is known while such a region runs: c, m, x, b: the slots of the call, of its copy, of the state, of the box; T: the rest of the answer -/
structure JB (n0 : Nat) (N : Int) (S : List Ls.Lk) (T : List Value → Prop) (sz c m x b ic im ix ib st : Nat) (f : Nat → Bool) (a : Act) (w : World) : Prop where
  siz : a.tmps.size = sz
  rc : f ic = true → ∃ X t, a.eval (.tmp c) = .tuple (X :: t).toArray ∧ T t ∧ Rst N S X w
  rm : f im = true → ∃ X t, a.eval (.tmp m) = .tuple (X :: t).toArray ∧ T t ∧ Rst N S X w
  rx : f ix = true → ∃ X, a.eval (.tmp x) = X ∧ Rst N S X w
  rb : f ib = true → f st = false → ∃ B, a.eval (.tmp b) = .pointer (some ⟨B, 0, none⟩) ∧ n0 ≤ B ∧ w.heap[B]? = some (.cells #[.int .i64 0, .slice none 0 0] 24 (0, 0))
  rs : f st = true → Bst n0 N S (a.eval (.tmp b)) w
section
variable {n0 : Nat} {N : Int} {S : List Ls.Lk} {T : List Value → Prop} {sz c m x b ic im ix ib st : Nat} {f : Nat → Bool} {a : Act} {w w' : World}
abbrev upd (f : Nat → Bool) (i : Nat) : Nat → Bool := fun k => if k = i then true else f k
theorem JB.start (hs : a.tmps.size = sz) : JB n0 N S T sz c m x b ic im ix ib st (fun _ => false) a w :=
  ⟨hs, fun h => (by cases h), fun h => (by cases h), fun h => (by cases h), fun h => (by cases h), fun h => (by cases h)⟩
theorem upd_ne {i k : Nat} (h : k ≠ i) : upd f i k = f k := if_neg h
/-- another operation -/
theorem JB.keep {i d : Nat} {v : Value} (h : JB n0 N S T sz c m x b ic im ix ib st f a w) (hb : Below w.heap.size w w') (hi : (i ≠ ic ∧ i ≠ im ∧ i ≠ ix) ∧ i ≠ ib ∧ i ≠ st) (hd : (d ≠ c ∧ d ≠ m) ∧ d ≠ x ∧ d ≠ b) : JB n0 N S T sz c m x b ic im ix ib st (upd f i) (a.put (some d) v) w' := by
  obtain ⟨⟨i1, i2, i3⟩, i4, i5⟩ := hi
  obtain ⟨⟨d1, d2⟩, d3, d4⟩ := hd
  refine ⟨by rw [size_put]; exact h.siz, ?_, ?_, ?_, ?_, ?_⟩
  · rw [upd_ne i1.symm, eval_put_other d1]
    intro hf
    obtain ⟨X, t, e1, e2, e3⟩ := h.rc hf
    exact ⟨X, t, e1, e2, e3.go hb⟩
  · rw [upd_ne i2.symm, eval_put_other d2]
    intro hf
    obtain ⟨X, t, e1, e2, e3⟩ := h.rm hf
    exact ⟨X, t, e1, e2, e3.go hb⟩
  · rw [upd_ne i3.symm, eval_put_other d3]
    intro hf
    obtain ⟨X, e1, e3⟩ := h.rx hf
    exact ⟨X, e1, e3.go hb⟩
  · rw [upd_ne i4.symm, upd_ne i5.symm, eval_put_other d4]
    intro hf hg
    obtain ⟨B, e1, e2, e3⟩ := h.rb hf hg
    exact ⟨B, e1, e2, (hb.block _ (lt_of_some e3)).trans e3⟩
  · rw [upd_ne i5.symm, eval_put_other d4]
    intro hf
    exact (h.rs hf).go hb
/-- the call -/
theorem JB.call {X : Value} {t : List Value} (h : JB n0 N S T sz c m x b ic im ix ib st f a w) (hb : Below w.heap.size w w') (hT : T t) (hX : Rst N S X w') (hc : c < sz) (hi : (ic ≠ im ∧ ic ≠ ix) ∧ ic ≠ ib ∧ ic ≠ st) (hd : (c ≠ m ∧ c ≠ x) ∧ c ≠ b) : JB n0 N S T sz c m x b ic im ix ib st (upd f ic) (a.put (some c) (.tuple (X :: t).toArray)) w' := by
  obtain ⟨⟨i2, i3⟩, i4, i5⟩ := hi
  obtain ⟨⟨d2, d3⟩, d4⟩ := hd
  refine ⟨by rw [size_put]; exact h.siz, ?_, ?_, ?_, ?_, ?_⟩
  · intro _
    exact ⟨X, t, eval_put_same (by rw [h.siz]; exact hc), hT, hX⟩
  · rw [upd_ne i2.symm, eval_put_other d2]
    intro hf
    obtain ⟨X, t, e1, e2, e3⟩ := h.rm hf
    exact ⟨X, t, e1, e2, e3.go hb⟩
  · rw [upd_ne i3.symm, eval_put_other d3]
    intro hf
    obtain ⟨X, e1, e3⟩ := h.rx hf
    exact ⟨X, e1, e3.go hb⟩
  · rw [upd_ne i4.symm, upd_ne i5.symm, eval_put_other d4]
    intro hf hg
    obtain ⟨B, e1, e2, e3⟩ := h.rb hf hg
    exact ⟨B, e1, e2, (hb.block _ (lt_of_some e3)).trans e3⟩
  · rw [upd_ne i5.symm, eval_put_other d4]
    intro hf
    exact (h.rs hf).go hb
/-- the copy of the answer -/
theorem JB.move {X : Value} {t : List Value} (h : JB n0 N S T sz c m x b ic im ix ib st f a w) (hT : T t) (hX : Rst N S X w) (hc : m < sz) (hi : (im ≠ ic ∧ im ≠ ix) ∧ im ≠ ib ∧ im ≠ st) (hd : (m ≠ c ∧ m ≠ x) ∧ m ≠ b) : JB n0 N S T sz c m x b ic im ix ib st (upd f im) (a.put (some m) (.tuple (X :: t).toArray)) w := by
  obtain ⟨⟨i2, i3⟩, i4, i5⟩ := hi
  obtain ⟨⟨d2, d3⟩, d4⟩ := hd
  refine ⟨by rw [size_put]; exact h.siz, ?_, ?_, ?_, ?_, ?_⟩
  · rw [upd_ne i2.symm, eval_put_other d2]; exact h.rc
  · intro _
    exact ⟨X, t, eval_put_same (by rw [h.siz]; exact hc), hT, hX⟩
  · rw [upd_ne i3.symm, eval_put_other d3]; exact h.rx
  · rw [upd_ne i4.symm, upd_ne i5.symm, eval_put_other d4]; exact h.rb
  · rw [upd_ne i5.symm, eval_put_other d4]; exact h.rs
/-- the state out of it -/
theorem JB.ext {X : Value} (h : JB n0 N S T sz c m x b ic im ix ib st f a w) (hX : Rst N S X w) (hc : x < sz) (hi : (ix ≠ ic ∧ ix ≠ im) ∧ ix ≠ ib ∧ ix ≠ st) (hd : (x ≠ c ∧ x ≠ m) ∧ x ≠ b) : JB n0 N S T sz c m x b ic im ix ib st (upd f ix) (a.put (some x) X) w := by
  obtain ⟨⟨i2, i3⟩, i4, i5⟩ := hi
  obtain ⟨⟨d2, d3⟩, d4⟩ := hd
  refine ⟨by rw [size_put]; exact h.siz, ?_, ?_, ?_, ?_, ?_⟩
  · rw [upd_ne i2.symm, eval_put_other d2]; exact h.rc
  · rw [upd_ne i3.symm, eval_put_other d3]; exact h.rm
  · intro _
    exact ⟨X, eval_put_same (by rw [h.siz]; exact hc), hX⟩
  · rw [upd_ne i4.symm, upd_ne i5.symm, eval_put_other d4]; exact h.rb
  · rw [upd_ne i5.symm, eval_put_other d4]; exact h.rs
/-- the box -/
theorem JB.box (h : JB n0 N S T sz c m x b ic im ix ib st f a w) (hn : n0 ≤ w.heap.size) (hf : f st = false) (hc : b < sz) (hi : ((ib ≠ ic ∧ ib ≠ im) ∧ ib ≠ ix) ∧ ib ≠ st) (hd : (b ≠ c ∧ b ≠ m) ∧ b ≠ x) : JB n0 N S T sz c m x b ic im ix ib st (upd f ib) (a.put (some b) (.pointer (some ⟨w.heap.size, 0, none⟩))) (w.alloc (.cells #[.int .i64 0, .slice none 0 0] 24)) := by
  obtain ⟨⟨⟨i1, i2⟩, i3⟩, i5⟩ := hi
  obtain ⟨⟨d1, d2⟩, d3⟩ := hd
  have hb : Below w.heap.size w (w.alloc (.cells #[.int .i64 0, .slice none 0 0] 24)) := below_new _ _
  refine ⟨by rw [size_put]; exact h.siz, ?_, ?_, ?_, ?_, ?_⟩
  · rw [upd_ne i1.symm, eval_put_other d1]
    intro hf
    obtain ⟨X, t, e1, e2, e3⟩ := h.rc hf
    exact ⟨X, t, e1, e2, e3.go hb⟩
  · rw [upd_ne i2.symm, eval_put_other d2]
    intro hf
    obtain ⟨X, t, e1, e2, e3⟩ := h.rm hf
    exact ⟨X, t, e1, e2, e3.go hb⟩
  · rw [upd_ne i3.symm, eval_put_other d3]
    intro hf
    obtain ⟨X, e1, e3⟩ := h.rx hf
    exact ⟨X, e1, e3.go hb⟩
  · intro _ _
    exact ⟨w.heap.size, eval_put_same (by rw [h.siz]; exact hc), hn, heap_alloc_new _ _⟩
  · rw [upd_ne i5.symm, hf]
    intro h; cases h
/-- the store -/
theorem JB.put {B : Nat} {A : Option Addr} {k : Nat} (h : JB n0 N S T sz c m x b ic im ix ib st f a w) (hB : a.eval (.tmp b) = .pointer (some ⟨B, 0, none⟩)) (hn : n0 ≤ B) (hw : w.heap[B]? = some (.cells #[.int .i64 0, .slice none 0 0] 24 (0, 0))) (hR : RL w.heap.size w A k S) (v : Value)
    (hi : (st ≠ ic ∧ st ≠ im) ∧ st ≠ ix ∧ st ≠ ib) : JB n0 N S T sz c m x b ic im ix ib st (upd f st) (a.put none v) ((w.setCell ⟨B, 0, none⟩ (.int .i64 N)).setCell ⟨B, 1, none⟩ (.slice A S.length k)) ∧ Below n0 w ((w.setCell ⟨B, 0, none⟩ (.int .i64 N)).setCell ⟨B, 1, none⟩ (.slice A S.length k)) := by
  obtain ⟨⟨i1, i2⟩, i3, i4⟩ := hi
  have hgr : w.grownBy ((w.setCell ⟨B, 0, none⟩ (.int .i64 N)).setCell ⟨B, 1, none⟩ (.slice A S.length k)) (some B) := grown_trans (only_set1 _ _ _ rfl) (only_set1 _ _ _ rfl)
  have hk : ∀ {X : Value}, Rst N S X w → Rst N S X ((w.setCell ⟨B, 0, none⟩ (.int .i64 N)).setCell ⟨B, 1, none⟩ (.slice A S.length k)) := by
    rintro X ⟨A', k', e1, e2⟩
    exact ⟨A', k', e1, (e2.keepG encL (n := 6) (by decide) hw hgr).2⟩
  have e0 : a.put none v = a := rfl
  rw [e0]
  refine ⟨⟨h.siz, ?_, ?_, ?_, ?_, ?_⟩, ?_⟩
  · rw [upd_ne i1.symm]
    intro hf
    obtain ⟨X, t, e1, e2, e3⟩ := h.rc hf
    exact ⟨X, t, e1, e2, hk e3⟩
  · rw [upd_ne i2.symm]
    intro hf
    obtain ⟨X, t, e1, e2, e3⟩ := h.rm hf
    exact ⟨X, t, e1, e2, hk e3⟩
  · rw [upd_ne i3.symm]
    intro hf
    obtain ⟨X, e1, e3⟩ := h.rx hf
    exact ⟨X, e1, hk e3⟩
  · intro _ hf
    have h1 : upd f st st = true := if_pos rfl
    rw [h1] at hf
    cases hf
  · intro _
    exact ⟨B, A, k, hB, hn, setCell_cells (setCell_cells hw 0 (.int .i64 N)) 1 (.slice A S.length k), (hR.keepG encL (n := 6) (by decide) hw hgr).2⟩
  · exact ((Below.refl _ _).setCell (p := ⟨B, 0, none⟩) hn _).setCell (p := ⟨B, 1, none⟩) hn _
end
end Go.Proofs.YtfapfkaipdcflaaGreat
