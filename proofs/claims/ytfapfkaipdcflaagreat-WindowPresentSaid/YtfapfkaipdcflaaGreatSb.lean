/-
  A list of links in a row of one's own that may begin within its block.
-/
import Derived.Test.YtfapfkaipdcflaaGreatRb
import Derived.Test.YtfapfkaipdcflaaGreatIn
namespace Go.Proofs.YtfapfkaipdcflaaGreat
open Go.RowKit Go.Lib

/-- the block of a slice that has room -/
def bk (A : Option Addr) (c : Nat) : Option Nat := if c = 0 then none else A.map (·.block)
/-- a slice of events in a row of one's own, from its place on to the row's end -/
def OW (base : Nat) (w : World) (A : Option Addr) (c : Nat) (l : List Ls.Lk) : Prop :=
  l.length ≤ c ∧ c ≤ maxLen ∧ (c = 0 ∨ ∃ (g o : Nat) (cur : Array Value), A = some ⟨g, o, none⟩ ∧ base ≤ g ∧ w.heap[g]? = some (.cells cur 62 (0, 0)) ∧ cur.size = o + c * 6 ∧ (cur.toList.drop o).take (l.length * 6) = cl Ls.Lk.cells l)
/-- a block is the old one, or none, or new -/
def Fr (n : Nat) (r r' : Option Nat) : Prop := ∀ k, r' = some k → r = some k ∨ n ≤ k
theorem Fr.refl (n : Nat) (r : Option Nat) : Fr n r r := fun _ h => .inl h
theorem Fr.trans {n m : Nat} {r r1 r2 : Option Nat} (h : Fr n r r1) (h2 : Fr m r1 r2) (hm : n ≤ m) : Fr n r r2 := fun k hk => by
  rcases h2 k hk with h3 | h3
  · exact h k h3
  · exact .inr (by omega)
section
variable {base : Nat} {w w' : World} {A : Option Addr} {c : Nat} {l : List Ls.Lk}
theorem OW.of_own (h : w.ownsRow base 62 6 (.slice A l.length c) l.length (cl Ls.Lk.cells l)) : OW base w A c l := by
  rcases h.2 with ⟨hv, h1⟩ | ⟨g, cap, cur, hv, hb, hg, hn, hm, hs, ht⟩
  · injection hv with e1 e2 e3
    subst e3
    exact ⟨by omega, by unfold maxLen; omega, .inl rfl⟩
  · injection hv with e1 e2 e3
    subst e1; subst e3
    exact ⟨hn, hm, .inr ⟨g, 0, cur, rfl, hb, hg, by omega, by simpa using ht⟩⟩
theorem OW.rv (h : OW base w A c l) : RL w.heap.size w A c l := by
  refine ⟨h.1, cl_len encL l, fun h0 => ?_⟩
  rcases h.2.2 with h1 | ⟨g, o, cur, rfl, hb, hg, hs, ht⟩
  · have := h.1; omega
  · refine ⟨_, rfl, lt_of_some hg, fun j u hu => ?_⟩
    have hj := (List.getElem?_eq_some_iff.1 hu).1
    rw [cl_len encL] at hj
    have hcell := Go.Joins.cell_of_block hg
    rw [Go.WideShapes.add_plain, hcell, ← hu, ← ht, List.getElem?_take_of_lt hj, List.getElem?_drop]
    simp
theorem OW.kept (h : OW base w A c l) {r : Option Nat} (hg : w.grownBy w' r) (hr : ∀ k, bk A c = some k → r ≠ some k) : OW base w' A c l := by
  refine ⟨h.1, h.2.1, ?_⟩
  rcases h.2.2 with h1 | ⟨g, o, cur, rfl, hb, hg', hs, ht⟩
  · exact .inl h1
  · by_cases hc : c = 0
    · exact .inl hc
    · refine .inr ⟨g, o, cur, rfl, hb, (hg.block g (lt_of_some hg') (fun e => hr g (by simp [bk, hc]) e.symm)).trans hg', hs, ht⟩
theorem OW.go (h : OW base w A c l) (hb : Below w.heap.size w w') : OW base w' A c l := by
  refine ⟨h.1, h.2.1, ?_⟩
  rcases h.2.2 with h1 | ⟨g, o, cur, rfl, hb', hg', hs, ht⟩
  · exact .inl h1
  · exact .inr ⟨g, o, cur, rfl, hb', (hb.block g (lt_of_some hg')).trans hg', hs, ht⟩
theorem OW.lt (h : OW base w A c l) : ∀ k, bk A c = some k → base ≤ k ∧ k < w.heap.size := by
  intro k hk
  unfold bk at hk
  split at hk
  · cases hk
  · rcases h.2.2 with h1 | ⟨g, o, cur, rfl, hb', hg', hs, ht⟩
    · contradiction
    · simp at hk; subst hk; exact ⟨hb', lt_of_some hg'⟩
/-- no block of another kind -/
theorem OW.ne (h : OW base w A c l) {P : Nat} {cs : Array Value} {T : TypeId} {z : Nat × Nat} (hP : w.heap[P]? = some (.cells cs T z)) (hT : T ≠ 62) : bk A c ≠ some P := by
  intro hk
  unfold bk at hk
  split at hk
  · cases hk
  · rcases h.2.2 with h1 | ⟨g, o, cur, rfl, hb', hg', hs, ht⟩
    · contradiction
    · simp at hk; subst hk
      rw [hg'] at hP
      injection hP with hP
      injection hP with _ hP
      exact hT hP.symm
theorem OW.cut (h : OW base w A c l) {k : Nat} (hk : k ≤ l.length) : OW base w (if c = k then A else A.map (·.add (k * 6))) (c - k) (l.drop k) := by
  refine ⟨by have := h.1; simp; omega, by have := h.2.1; omega, ?_⟩
  by_cases hc : c = k
  · exact .inl (by omega)
  · rcases h.2.2 with h1 | ⟨g, o, cur, rfl, hb', hg', hs, ht⟩
    · have := h.1; omega
    · refine .inr ⟨g, o + k * 6, cur, ?_, hb', hg', ?_, ?_⟩
      · rw [if_neg hc]; simp [Go.WideShapes.add_plain]
      · have := h.1; omega
      · rw [List.length_drop, ← cl_drop encL, ← ht, ← List.drop_drop, List.drop_take, Nat.sub_mul]
theorem bk_cut (A : Option Addr) (c k n : Nat) : Fr n (bk A c) (bk (if c = k then A else A.map (·.add (k * 6))) (c - k)) := by
  intro j hj
  left
  unfold bk at hj ⊢
  split at hj
  · cases hj
  · next h0 =>
    rw [if_neg (by omega)]
    rw [if_neg (by omega)] at hj
    rw [← hj]
    cases A with
    | none => rfl
    | some a => show some a.block = some (a.add (k * 6)).block; rw [block_of_add]
end
end Go.Proofs.YtfapfkaipdcflaaGreat
