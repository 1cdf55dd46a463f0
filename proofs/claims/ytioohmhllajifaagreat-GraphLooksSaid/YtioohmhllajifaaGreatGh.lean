/-
  Append of an edge, of a list of edges; what is a valid list of edges grows.
-/
import Derived.Test.YtioohmhllajifaaGreatGg
namespace Go.Proofs.YtioohmhllajifaaGreat
open Go.RowKit Go.Lib

theorem ed_info : (Tryz.prog.info? 53).map (fun i => (i.zero, i.size, i.bytes)) = some (some (.agg #[.int .i64 0, .int .i64 0]), 2, 16) := by kernel_rfl
theorem own_formE {w : World} {base : Nat} {v : Value} {l : List Ed} (h : w.ownsRow base 53 2 v l.length (ev l)) : ∃ A c, v = .slice A l.length c := by
  rcases h.2 with ⟨e0, e1⟩ | ⟨g, cap, cur, e0, _⟩
  · exact ⟨none, 0, by rw [e0, e1]⟩
  · exact ⟨_, _, e0⟩
theorem RE_newB (w : World) (u v : Int) : RE (w.alloc (.cells #[.int .i64 u, .int .i64 v] 53)).heap.size (w.alloc (.cells #[.int .i64 u, .int .i64 v] 53)) (some ⟨w.heap.size, 0, none⟩) 1 [(u, v)] := by
  refine ⟨Nat.le_refl _, rfl, fun _ => ⟨_, rfl, by simp, fun j x hx => ?_⟩⟩
  have := (Go.Joins.cell_of_block (w := w.alloc (.cells #[.int .i64 u, .int .i64 v] 53)) (heap_alloc_new w _) j)
  rw [show ((⟨w.heap.size, 0, none⟩ : Addr).add j) = ⟨w.heap.size, j, none⟩ by unfold Addr.add; split <;> simp_all]
  rw [this]; simpa [ev] using hx
theorem wp_applE {o : Oper} {a : Act} {K : Act → World → Prop} {Q : Exit → Act → World → Prop} (W : World) (s x : Operand)
    (ho : o.op = .call { callee := .builtin .append, args := #[s, x], argTypes := #[26, 26] }) (base : Nat) (A2 : Option Addr) (c2 : Nat) (ks : List Ed)
    (hs : a.eval s = .slice A2 ks.length c2) (hown : W.ownsRow base 53 2 (.slice A2 ks.length c2) ks.length (ev ks)) (A' : Option Addr) (c' m : Nat) (news : List Ed) (hm : news.length = m)
    (hx : a.eval x = .slice A' m c') (hr : RE W.heap.size W A' c' news) (hk : ks.length + m ≤ 200000) (hbase : base ≤ W.heap.size)
    (h : ∀ A3 c3 w', Hid (w'.ownsRow base 53 2 (.slice A3 (ks ++ news).length c3) (ks ++ news).length (ev (ks ++ news))) → Hid (Below base W w') → K (a.put o.dst (.slice A3 (ks ++ news).length c3)) w') :
    o.wp Tryz.prog a W K Q := by
  subst hm
  obtain ⟨i0, hi0, hz0, hz1, hz2⟩ := info_parts ed_info
  refine wp_append_any _ s x 26 ho base 53 i0 _ 2 16 Tryz.underlying26 hi0 hz0 hz1 hz2 rfl (by omega) (.slice A2 ks.length c2) ks.length (ev ks) hs hown
    _ A' news.length c' (ev news) hx hr.2 (ev_one news) (by simp only [maxLen]; omega) (by omega) hbase ?_
  intro v3 w3 hown3 hg3 hat3
  have hbw : Below base W w3 := (Below.refl _ _).grown hg3 hbase (fun k hk => (hown.lt k hk).1)
  have ho3 : w3.ownsRow base 53 2 v3 (ks ++ news).length (ev (ks ++ news)) := by rw [ev_append, List.length_append]; exact hown3
  obtain ⟨A3, c3, rfl⟩ := own_formE ho3
  exact h A3 c3 w3 ho3 hbw
theorem wpList_applE {ops : Array Oper} {rest : List Oper} {o : Oper} {a : Act} {Q : Exit → Act → World → Prop} (W : World) (hgd : o.guard = none) (s x : Operand)
    (ho : o.op = .call { callee := .builtin .append, args := #[s, x], argTypes := #[26, 26] }) (base : Nat) (A2 : Option Addr) (c2 : Nat) (ks : List Ed)
    (hs : a.eval s = .slice A2 ks.length c2) (hown : W.ownsRow base 53 2 (.slice A2 ks.length c2) ks.length (ev ks)) (A' : Option Addr) (c' m : Nat) (news : List Ed) (hm : news.length = m)
    (hx : a.eval x = .slice A' m c') (hr : RE W.heap.size W A' c' news) (hk : ks.length + m ≤ 200000) (hbase : base ≤ W.heap.size)
    (h : ∀ A3 c3 w', Hid (w'.ownsRow base 53 2 (.slice A3 (ks ++ news).length c3) (ks ++ news).length (ev (ks ++ news))) → Hid (Below base W w') → wpList Tryz.prog ops Q rest (a.put o.dst (.slice A3 (ks ++ news).length c3)) w') :
    wpList Tryz.prog ops Q (o :: rest) a W :=
  wpList_plain hgd fun _ hK => wp_applE W s x ho base A2 c2 ks hs hown A' c' m news hm hx hr hk hbase fun A3 c3 w' h1 h2 => hK _ _ (h A3 c3 w' h1 h2)
theorem step_applE {ops : Array Oper} {o : Oper} {a : Act} {K : Act → World → Prop} {Q : Exit → Act → World → Prop} {E : Prop} (W : World) (hgd : o.guard = none) (s x : Operand)
    (ho : o.op = .call { callee := .builtin .append, args := #[s, x], argTypes := #[26, 26] }) (base : Nat) (A2 : Option Addr) (c2 : Nat) (ks : List Ed)
    (hs : a.eval s = .slice A2 ks.length c2) (hown : W.ownsRow base 53 2 (.slice A2 ks.length c2) ks.length (ev ks)) (A' : Option Addr) (c' m : Nat) (news : List Ed) (hm : news.length = m)
    (hx : a.eval x = .slice A' m c') (hr : RE W.heap.size W A' c' news) (hk : ks.length + m ≤ 200000) (hbase : base ≤ W.heap.size)
    (h : ∀ A3 c3 w', Hid (w'.ownsRow base 53 2 (.slice A3 (ks ++ news).length c3) (ks ++ news).length (ev (ks ++ news))) → Hid (Below base W w') → K (a.put o.dst (.slice A3 (ks ++ news).length c3)) w') :
    if Region.wanted o (yielded ops a.tmps) = true then Oper.wp Tryz.prog o a W K Q else E := by
  have hw : Region.wanted o (yielded ops a.tmps) = true := by simp [Region.wanted, hgd]
  rw [if_pos hw]
  exact wp_applE W s x ho base A2 c2 ks hs hown A' c' m news hm hx hr hk hbase h

def nb : Option Ed → Ed → Bool
  | some q, x => !bef q x
  | none, _ => false
theorem ck_cons (n : Int) (p : Option Ed) (x : Ed) (l : List Ed) : ck n p (x :: l) = if x.1 < 0 ∨ x.2 ≤ x.1 ∨ n ≤ x.2 then 6 else if nb p x = true then 5 else ck n (some x) l := by
  cases p <;> rfl
/-- a valid list with a further edge behind all of it is valid -/
theorem ck_push (n : Int) (e : Ed) (he : ¬ (e.1 < 0 ∨ e.2 ≤ e.1 ∨ n ≤ e.2)) : ∀ (l : List Ed) (p : Option Ed), ck n p l = 0 → (∀ q ∈ l, bef q e = true) → (l = [] → ∀ q, p = some q → bef q e = true) → ck n p (l ++ [e]) = 0 := by
  intro l
  induction l with
  | nil =>
    intro p _ _ hp
    rw [List.nil_append, ck_cons, if_neg he]
    cases p with
    | none => rw [if_neg (by simp [nb])]; rfl
    | some q => rw [if_neg (by simp [nb, hp rfl q rfl])]; rfl
  | cons x l ih =>
    intro p h hb _
    rw [ck_cons] at h
    rw [List.cons_append, ck_cons]
    by_cases h1 : x.1 < 0 ∨ x.2 ≤ x.1 ∨ n ≤ x.2
    · rw [if_pos h1] at h; omega
    · rw [if_neg h1] at h ⊢
      by_cases h2 : nb p x = true
      · rw [if_pos h2] at h; omega
      · rw [if_neg h2] at h ⊢
        exact ih (some x) h (fun q hq => hb q (List.mem_cons_of_mem _ hq)) (fun _ q hq => by injection hq with hq; subst hq; exact hb x (by simp))
theorem chk_push (n : Int) (l : List Ed) (u v : Int) (h : chk n l = 0) (hu : 0 ≤ u) (huv : u < v) (hv : v < n) (hb : ∀ e ∈ l, e.1 < u ∨ e.1 = u ∧ e.2 < v) : chk n (l ++ [(u, v)]) = 0 := by
  unfold chk at h ⊢
  split at h
  · omega
  · next h1 =>
    rw [if_neg h1]
    refine ck_push n (u, v) (by simp; omega) l none h (fun q hq => ?_) (fun _ q hq => by cases hq)
    rcases hb q hq with h2 | ⟨h2, h3⟩ <;> simp [bef, h2] <;> omega
theorem chk_nil (n : Int) (h0 : 0 ≤ n) (h1 : n ≤ 64) : chk n [] = 0 := by unfold chk; rw [if_neg (by omega)]; rfl
end Go.Proofs.YtioohmhllajifaaGreat
