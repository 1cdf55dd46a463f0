/-
  The reference's Neighbours, Degree and Common.
-/
import Derived.Test.YtioohmhllajifaaGd
import Derived.Test.YtioohmhllajifaaNi
namespace Go.Proofs.Ytioohmhllajifaa
open Go.RowKit Go.Lib

/-- as wpList_push, and what else stays: every block but the list's own -/
theorem wpList_pushG {ops : Array Oper} {rest : List Oper} {o : Oper} {a : Act} {Q : Exit → Act → World → Prop} (W : World) (hgd : o.guard = none) (s x : Operand)
    (ho : o.op = .call { callee := .builtin .append, args := #[s, x], argTypes := #[25, 25] }) (base : Nat) (A2 : Option Addr) (c2 : Nat) (ks : List Int) (z : Int)
    (hs : a.eval s = .slice A2 ks.length c2) (hown : W.ownsRow base 3 1 (.slice A2 ks.length c2) ks.length (vals ks)) (hx : a.eval x = .slice (some ⟨W.heap.size, 0, none⟩) 1 1)
    (hk : ks.length ≤ 200000) (hbase : base ≤ W.heap.size)
    (h : ∀ A3 c3 w', Hid (w'.ownsRow base 3 1 (.slice A3 (ks ++ [z]).length c3) (ks ++ [z]).length (vals (ks ++ [z]))) → Hid (Below base W w') → Hid (W.grownBy w' (Value.slice A2 ks.length c2).ownBlock) → wpList Try.prog ops Q rest (a.put o.dst (.slice A3 (ks ++ [z]).length c3)) w') :
    wpList Try.prog ops Q (o :: rest) a (W.alloc (.cells #[.int .i64 z] 3)) := by
  obtain ⟨i0, hi0, hz0, hz1, hz2⟩ := info_parts int_info
  refine wpList_append_any _ hgd s x 25 ho base 3 i0 _ 1 8 Try.underlying25 hi0 hz0 hz1 hz2 rfl (by omega) (.slice A2 ks.length c2) ks.length (vals ks) hs (hown.alloc _)
    _ (some ⟨W.heap.size, 0, none⟩) 1 1 [.int .i64 z] hx (reads_new1 W z 3) (by simp [Value.oneCell']) (by simp only [maxLen]; omega) (by omega) (by simp; omega) ?_
  intro v3 w3 hown3 hg3 hat3
  have hbw : Below base W w3 := below_grown1 (w1 := W) (Below.refl _ _) hg3 (fun k hk => (hown.lt k hk).1) hbase
  have hgr : W.grownBy w3 (Value.slice A2 ks.length c2).ownBlock :=
    ⟨hbw.os, hbw.tape, hbw.output, hbw.size, fun i hi hne => (hg3.block i (by simp; omega) hne).trans (Below.heap_alloc W _ i hi)⟩
  have ho3 : w3.ownsRow base 3 1 v3 (ks ++ [z]).length (vals (ks ++ [z])) := by rw [vals_append, List.length_append]; exact hown3
  obtain ⟨A3, c3, rfl⟩ := own_form ho3
  exact h A3 c3 w3 ho3 hbw hgr

/-- what edges say of a node's neighbours, in their order -/
def rawN (v : Int) (l : List Ed) : List Int := l.flatMap fun e => (if e.1 = v then [e.2] else []) ++ (if e.2 = v then [e.1] else [])
theorem rawN_succ (v : Int) (l : List Ed) (x y : Int) (k : Nat) (h : l[k]? = some (x, y)) : rawN v (l.take (k + 1)) = rawN v (l.take k) ++ (if x = v then [y] else []) ++ (if y = v then [x] else []) := by
  rw [take_succ_e l _ k h]; simp [rawN]
theorem rawN_len (v : Int) (l : List Ed) (k : Nat) (hk : k ≤ l.length) : (rawN v (l.take k)).length ≤ 2 * k := by
  induction k with
  | zero => simp [rawN]
  | succ k ih =>
    have h := List.getElem?_eq_getElem (l := l) (i := k) (by omega)
    rw [rawN_succ v l l[k].1 l[k].2 k h]
    have := ih (by omega)
    simp only [List.length_append]
    split <;> split <;> simp <;> omega
def nbr (n : Int) (l : List Ed) (v : Int) : List Int := if chk n l = 0 then Ns.norm (rawN v l) else []
theorem nbr_len (n : Int) (l : List Ed) (v : Int) : (nbr n l v).length ≤ 2 * l.length := by
  unfold nbr
  split
  · have h1 := Ns.len_norm (rawN v l)
    have h2 := rawN_len v l l.length (Nat.le_refl _)
    rw [List.take_length] at h2
    omega
  · simp


end Go.Proofs.Ytioohmhllajifaa
