/-
  Words for the reference's Apply: the state that is built, in a box, its links and the changes in two lists of the call's own.
-/
import Derived.Test.YtfapfkaipdcflaaGreatMl
namespace Go.Proofs.YtfapfkaipdcflaaGreat.K
open Go.RowKit Go.Lib

/-- all blocks but two stay -/
def LeR (r1 r2 : Option Nat) (w w' : World) : Prop := w.heap.size ≤ w'.heap.size ∧ ∀ k, k < w.heap.size → some k ≠ r1 → some k ≠ r2 → w'.heap[k]? = w.heap[k]?
theorem leR_refl (r1 r2 : Option Nat) (w : World) : LeR r1 r2 w w := ⟨Nat.le_refl _, fun _ _ _ _ => rfl⟩
theorem leR_trans {r1 r2 : Option Nat} {w w1 w2 : World} (h : LeR r1 r2 w w1) (h2 : LeR r1 r2 w1 w2) : LeR r1 r2 w w2 :=
  ⟨Nat.le_trans h.1 h2.1, fun k hk a b => (h2.2 k (Nat.lt_of_lt_of_le hk h.1) a b).trans (h.2 k hk a b)⟩
theorem leR_below {r1 r2 : Option Nat} {w w' : World} (h : Below w.heap.size w w') : LeR r1 r2 w w' := ⟨h.size, fun k hk _ _ => h.block k hk⟩
theorem leR_1 {r1 r2 : Option Nat} {w w' : World} (h : w.grownBy w' r1) : LeR r1 r2 w w' := ⟨h.size, fun k hk a _ => h.block k hk a⟩
theorem leR_2 {r1 r2 : Option Nat} {w w' : World} (h : w.grownBy w' r2) : LeR r1 r2 w w' := ⟨h.size, fun k hk _ b => h.block k hk b⟩
/-- rows of different elements lie in different blocks -/
theorem own_ne {w : World} {b1 b2 e1 e2 n1 n2 k1 k2 : Nat} {v1 v2 : Value} {xs1 xs2 : List Value} (h1 : w.ownsRow b1 e1 n1 v1 k1 xs1) (h2 : w.ownsRow b2 e2 n2 v2 k2 xs2) (he : e1 ≠ e2) : v1.ownBlock = none ∨ v1.ownBlock ≠ v2.ownBlock := by
  rcases h1.2 with ⟨rfl, _⟩ | ⟨g, cap, cur, rfl, _, hg, _⟩
  · exact .inl rfl
  · rcases h2.2 with ⟨rfl, _⟩ | ⟨g2, cap2, cur2, rfl, _, hg2, _⟩
    · exact .inr (by simp [Value.ownBlock])
    · refine .inr fun e => ?_
      have e' : g = g2 := by simpa [Value.ownBlock] using e
      subst e'
      rw [hg] at hg2
      injection hg2 with h
      injection h with _ h
      exact he h
theorem own_blkq {w : World} {b e n k q : Nat} {v : Value} {xs : List Value} (h : w.ownsRow b e n v k xs) (hq : v.ownBlock = some q) : ∃ cur, w.heap[q]? = some (.cells cur e (0, 0)) := by
  rcases h.2 with ⟨rfl, _⟩ | ⟨g, cap, cur, rfl, _, hg, _⟩
  · cases hq
  · have e' : g = q := by simpa [Value.ownBlock] using hq
    subst e'
    exact ⟨cur, hg⟩
/-- the state that is built, in the box O; the link of the event behind it; in Q a link that is looked at -/
structure TL (w0 : World) (O Q : Nat) (n : Int) (x a : Ls.Lk) (vo : Value) (out : List Ls.Lk) (Ao : Option Addr) (co : Nat) (ch : List Ev) (Ac : Option Addr) (cc : Nat) (w : World) : Prop where
  bel : Below O w0 w
  bO : w.heap[O]? = some (.cells #[.int .i64 n, vo] 24)
  bN : w.heap[O + 1]? = some (.cells #[.int .i64 x.u, .int .i64 x.v, .int .i64 x.weight, .int .i64 x.label, .int .i64 x.sign, .int .i64 x.time] 62)
  bQ : w.heap[Q]? = some (.cells #[.int .i64 a.u, .int .i64 a.v, .int .i64 a.weight, .int .i64 a.label, .int .i64 a.sign, .int .i64 a.time] 62)
  ownO : w.ownsRow (O + 2) 62 6 (.slice Ao out.length co) out.length (cl Ls.Lk.cells out)
  ownC : w.ownsRow (O + 2) 57 7 (.slice Ac ch.length cc) ch.length (cl Ev.cells ch)
  lq : O < Q
section
variable {w0 : World} {O Q : Nat} {n : Int} {x a : Ls.Lk} {vo : Value} {out : List Ls.Lk} {Ao : Option Addr} {co : Nat} {ch : List Ev} {Ac : Option Addr} {cc : Nat} {w w' : World}
theorem TL.up (h : TL w0 O Q n x a vo out Ao co ch Ac cc w) (hb : Below w.heap.size w w') : TL w0 O Q n x a vo out Ao co ch Ac cc w' :=
  ⟨h.bel.trans (hb.mono (Nat.le_of_lt (lt_of_some h.bO))), (hb.block _ (lt_of_some h.bO)).trans h.bO, (hb.block _ (lt_of_some h.bN)).trans h.bN, (hb.block _ (lt_of_some h.bQ)).trans h.bQ, own_up h.ownO hb, own_up h.ownC hb, h.lq⟩
theorem TL.withQ (h : TL w0 O Q n x a vo out Ao co ch Ac cc w) (b : Ls.Lk) : TL w0 O w.heap.size n x b vo out Ao co ch Ac cc (w.alloc (.cells #[.int .i64 b.u, .int .i64 b.v, .int .i64 b.weight, .int .i64 b.label, .int .i64 b.sign, .int .i64 b.time] 62)) := by
  have h2 := h.up (below_new w (.cells #[.int .i64 b.u, .int .i64 b.v, .int .i64 b.weight, .int .i64 b.label, .int .i64 b.sign, .int .i64 b.time] 62))
  exact ⟨h2.bel, h2.bO, h2.bN, heap_alloc_new _ _, h2.ownO, h2.ownC, lt_of_some h.bO⟩
theorem TL.unQ (h : TL w0 O Q n x a vo out Ao co ch Ac cc w) : TL w0 O (O + 1) n x x vo out Ao co ch Ac cc w := ⟨h.bel, h.bO, h.bN, h.bN, h.ownO, h.ownC, Nat.lt_succ_self _⟩
theorem TL.store (h : TL w0 O Q n x a vo out Ao co ch Ac cc w) (v : Value) : TL w0 O Q n x a v out Ao co ch Ac cc (w.setCell ⟨O, 1, none⟩ v) :=
  ⟨h.bel.setCell (p := ⟨O, 1, none⟩) (Nat.le_refl _) _, setCell_cells h.bO 1 v, (Below.heap_setCell w ⟨O, 1, none⟩ v (O + 1) (by show O + 1 ≠ O; omega)).trans h.bN, (Below.heap_setCell w ⟨O, 1, none⟩ v Q (by have := h.lq; show Q ≠ O; omega)).trans h.bQ, own_kept h.ownO set_grown (by omega), own_kept h.ownC set_grown (by omega), h.lq⟩
theorem TL.neQ (h : TL w0 O Q n x a vo out Ao co ch Ac cc w) : (Value.slice Ac ch.length cc).ownBlock ≠ some Q := fun e => by
  obtain ⟨cur, hc⟩ := own_blkq h.ownC e
  rw [h.bQ] at hc
  injection hc with hc
  injection hc with _ hc
  exact absurd hc (by decide)
theorem TL.appC {y : Ev} {A3 : Option Addr} {c3 : Nat} (h : TL w0 O Q n x a vo out Ao co ch Ac cc w) (ho : w'.ownsRow (O + 2) 57 7 (.slice A3 (ch ++ [y]).length c3) (ch ++ [y]).length (cl Ev.cells (ch ++ [y]))) (hb : Below (O + 2) w w') (hg : w.grownBy w' (Value.slice Ac ch.length cc).ownBlock) :
    TL w0 O Q n x a vo out Ao co (ch ++ [y]) A3 c3 w' :=
  ⟨h.bel.trans (hb.mono (by omega)), (hb.block _ (by omega)).trans h.bO, (hb.block _ (by omega)).trans h.bN, (hg.block _ (lt_of_some h.bQ) (Ne.symm h.neQ)).trans h.bQ, h.ownO.kept hg (own_ne h.ownO h.ownC (by decide)), ho, h.lq⟩
theorem TL.appOQ {y : Ls.Lk} {A3 : Option Addr} {c3 : Nat} (h : TL w0 O Q n x a vo out Ao co ch Ac cc w) (ho : w'.ownsRow (O + 2) 62 6 (.slice A3 (out ++ [y]).length c3) (out ++ [y]).length (cl Ls.Lk.cells (out ++ [y]))) (hb : Below (O + 2) w w') (hg : w.grownBy w' (Value.slice Ao out.length co).ownBlock) (hq : (Value.slice Ao out.length co).ownBlock ≠ some Q) :
    TL w0 O Q n x a vo (out ++ [y]) A3 c3 ch Ac cc w' :=
  ⟨h.bel.trans (hb.mono (by omega)), (hb.block _ (by omega)).trans h.bO, (hb.block _ (by omega)).trans h.bN, (hg.block _ (lt_of_some h.bQ) (Ne.symm hq)).trans h.bQ, ho, h.ownC.kept hg (own_ne h.ownC h.ownO (by decide)), h.lq⟩
theorem TL.neN (h : TL w0 O Q n x a vo out Ao co ch Ac cc w) : (Value.slice Ao out.length co).ownBlock ≠ some (O + 1) := fun e => by have := (h.ownO.lt _ e).1; omega
theorem TL.appO {y : Ls.Lk} {A3 : Option Addr} {c3 : Nat} (h : TL w0 O Q n x a vo out Ao co ch Ac cc w) (ho : w'.ownsRow (O + 2) 62 6 (.slice A3 (out ++ [y]).length c3) (out ++ [y]).length (cl Ls.Lk.cells (out ++ [y]))) (hb : Below (O + 2) w w') (hg : w.grownBy w' (Value.slice Ao out.length co).ownBlock) :
    TL w0 O (O + 1) n x x vo (out ++ [y]) A3 c3 ch Ac cc w' := h.unQ.appOQ ho hb hg h.neN
end
/-- what is known while the event's link and its change are written: in the slots s4 and s11 the new lists -/
structure JA (w0 : World) (O Q : Nat) (n : Int) (x a : Ls.Lk) (out : List Ls.Lk) (A2 : Option Addr) (c2 : Nat) (ch : List Ev) (A1 : Option Addr) (c1 : Nat) (y : Ev) (s4 s11 : Nat) (f : Nat → Bool) (ac : Act) (w : World) : Prop where
  sz : ac.tmps.size = 180
  ex : ∃ (Ao : Option Addr) (co : Nat) (o : List Ls.Lk) (Ac : Option Addr) (cc : Nat) (c : List Ev), TL w0 O Q n x a (.slice A2 out.length c2) o Ao co c Ac cc w ∧
    (if f 4 = true then o = out ++ [x] ∧ ac.eval (.tmp s4) = .slice Ao o.length co else o = out ∧ Ao = A2 ∧ co = c2) ∧
    (if f 11 = true then c = ch ++ [y] ∧ ac.eval (.tmp s11) = .slice Ac c.length cc else c = ch ∧ Ac = A1 ∧ cc = c1)
section
variable {w0 : World} {O Q : Nat} {n : Int} {x a : Ls.Lk} {out : List Ls.Lk} {A2 : Option Addr} {c2 : Nat} {ch : List Ev} {A1 : Option Addr} {c1 : Nat} {y : Ev} {s4 s11 : Nat} {f : Nat → Bool} {ac : Act} {w w' : World}
theorem JA.start (h : TL w0 O Q n x a (.slice A2 out.length c2) out A2 c2 ch A1 c1 w) (hs : ac.tmps.size = 180) : JA w0 O Q n x a out A2 c2 ch A1 c1 y s4 s11 (fun _ => false) ac w :=
  ⟨hs, A2, c2, out, A1, c1, ch, h, by simp, by simp⟩
theorem JA.put {i d : Nat} {v : Value} (h : JA w0 O Q n x a out A2 c2 ch A1 c1 y s4 s11 f ac w) (hd : d ≠ s4 ∧ d ≠ s11) (hi : i ≠ 4 ∧ i ≠ 11) : JA w0 O Q n x a out A2 c2 ch A1 c1 y s4 s11 (fun k => if k = i then true else f k) (ac.put (some d) v) w := by
  obtain ⟨Ao, co, o, Ac, cc, c, hT, h4, h11⟩ := h.ex
  refine ⟨by rw [size_put]; exact h.sz, Ao, co, o, Ac, cc, c, hT, ?_, ?_⟩
  · rw [if_neg (Ne.symm hi.1), eval_put_other hd.1]; exact h4
  · rw [if_neg (Ne.symm hi.2), eval_put_other hd.2]; exact h11
theorem JA.up (h : JA w0 O Q n x a out A2 c2 ch A1 c1 y s4 s11 f ac w) (hb : Below w.heap.size w w') : JA w0 O Q n x a out A2 c2 ch A1 c1 y s4 s11 f ac w' := by
  obtain ⟨Ao, co, o, Ac, cc, c, hT, h4, h11⟩ := h.ex
  exact ⟨h.sz, Ao, co, o, Ac, cc, c, hT.up hb, h4, h11⟩
theorem JA.bel (h : JA w0 O Q n x a out A2 c2 ch A1 c1 y s4 s11 f ac w) : Below O w0 w := by obtain ⟨_, _, _, _, _, _, hT, _⟩ := h.ex; exact hT.bel
theorem JA.bO (h : JA w0 O Q n x a out A2 c2 ch A1 c1 y s4 s11 f ac w) : w.heap[O]? = some (.cells #[.int .i64 n, .slice A2 out.length c2] 24) := by obtain ⟨_, _, _, _, _, _, hT, _⟩ := h.ex; exact hT.bO
theorem JA.bN (h : JA w0 O Q n x a out A2 c2 ch A1 c1 y s4 s11 f ac w) : w.heap[O + 1]? = some (.cells #[.int .i64 x.u, .int .i64 x.v, .int .i64 x.weight, .int .i64 x.label, .int .i64 x.sign, .int .i64 x.time] 62) := by obtain ⟨_, _, _, _, _, _, hT, _⟩ := h.ex; exact hT.bN
theorem JA.own4 (h : JA w0 O Q n x a out A2 c2 ch A1 c1 y s4 s11 f ac w) (hf : f 4 = false) : w.ownsRow (O + 2) 62 6 (.slice A2 out.length c2) out.length (cl Ls.Lk.cells out) := by
  obtain ⟨_, _, _, _, _, _, hT, h4, _⟩ := h.ex
  rw [if_neg (by rw [hf]; decide)] at h4
  obtain ⟨rfl, rfl, rfl⟩ := h4
  exact hT.ownO
theorem JA.own11 (h : JA w0 O Q n x a out A2 c2 ch A1 c1 y s4 s11 f ac w) (hf : f 11 = false) : w.ownsRow (O + 2) 57 7 (.slice A1 ch.length c1) ch.length (cl Ev.cells ch) := by
  obtain ⟨_, _, _, _, _, _, hT, _, h11⟩ := h.ex
  rw [if_neg (by rw [hf]; decide)] at h11
  obtain ⟨rfl, rfl, rfl⟩ := h11
  exact hT.ownC
theorem JA.app4 {A3 : Option Addr} {c3 : Nat} (h : JA w0 O Q n x a out A2 c2 ch A1 c1 y s4 s11 f ac w) (hf : f 4 = false) (hs : s4 < 180 ∧ s4 ≠ s11) (ho : w'.ownsRow (O + 2) 62 6 (.slice A3 (out ++ [x]).length c3) (out ++ [x]).length (cl Ls.Lk.cells (out ++ [x]))) (hb : Below (O + 2) w w') (hg : w.grownBy w' (Value.slice A2 out.length c2).ownBlock)
    (hq : (Value.slice A2 out.length c2).ownBlock ≠ some Q) : JA w0 O Q n x a out A2 c2 ch A1 c1 y s4 s11 (fun k => if k = 4 then true else f k) (ac.put (some s4) (.slice A3 (out ++ [x]).length c3)) w' := by
  obtain ⟨Ao, co, o, Ac, cc, c, hT, h4, h11⟩ := h.ex
  rw [if_neg (by rw [hf]; decide)] at h4
  obtain ⟨rfl, rfl, rfl⟩ := h4
  refine ⟨by rw [size_put]; exact h.sz, A3, c3, _, Ac, cc, c, hT.appOQ ho hb hg hq, ?_, ?_⟩
  · rw [if_pos rfl, if_pos rfl]
    exact ⟨rfl, eval_put_same (by rw [h.sz]; exact hs.1)⟩
  · rw [if_neg (show ¬ 11 = 4 by decide), eval_put_other hs.2]; exact h11
theorem JA.app11 {A3 : Option Addr} {c3 : Nat} (h : JA w0 O Q n x a out A2 c2 ch A1 c1 y s4 s11 f ac w) (hf : f 11 = false) (hs : s11 < 180 ∧ s4 ≠ s11) (ho : w'.ownsRow (O + 2) 57 7 (.slice A3 (ch ++ [y]).length c3) (ch ++ [y]).length (cl Ev.cells (ch ++ [y]))) (hb : Below (O + 2) w w') (hg : w.grownBy w' (Value.slice A1 ch.length c1).ownBlock) :
    JA w0 O Q n x a out A2 c2 ch A1 c1 y s4 s11 (fun k => if k = 11 then true else f k) (ac.put (some s11) (.slice A3 (ch ++ [y]).length c3)) w' := by
  obtain ⟨Ao, co, o, Ac, cc, c, hT, h4, h11⟩ := h.ex
  rw [if_neg (by rw [hf]; decide)] at h11
  obtain ⟨rfl, rfl, rfl⟩ := h11
  refine ⟨by rw [size_put]; exact h.sz, Ao, co, o, A3, c3, _, hT.appC ho hb hg, ?_, ?_⟩
  · rw [if_neg (show ¬ 4 = 11 by decide), eval_put_other (Ne.symm hs.2)]; exact h4
  · rw [if_pos rfl, if_pos rfl]
    exact ⟨rfl, eval_put_same (by rw [h.sz]; exact hs.1)⟩
theorem JA.fin (h : JA w0 O Q n x a out A2 c2 ch A1 c1 y s4 s11 f ac w) (h4 : f 4 = true) (h11 : f 11 = true) : ∃ (Ao : Option Addr) (co : Nat) (Ac : Option Addr) (cc : Nat), TL w0 O Q n x a (.slice A2 out.length c2) (out ++ [x]) Ao co (ch ++ [y]) Ac cc w ∧ ac.eval (.tmp s4) = .slice Ao (out ++ [x]).length co ∧ ac.eval (.tmp s11) = .slice Ac (ch ++ [y]).length cc := by
  obtain ⟨Ao, co, o, Ac, cc, c, hT, e4, e11⟩ := h.ex
  rw [if_pos h4] at e4
  rw [if_pos h11] at e11
  obtain ⟨rfl, e4⟩ := e4
  obtain ⟨rfl, e11⟩ := e11
  exact ⟨Ao, co, Ac, cc, hT, e4, e11⟩
end
theorem RL_new1 (w : World) (e : Ls.Lk) : RL (w.alloc (.cells #[.int .i64 e.u, .int .i64 e.v, .int .i64 e.weight, .int .i64 e.label, .int .i64 e.sign, .int .i64 e.time] 62)).heap.size (w.alloc (.cells #[.int .i64 e.u, .int .i64 e.v, .int .i64 e.weight, .int .i64 e.label, .int .i64 e.sign, .int .i64 e.time] 62)) (some ⟨w.heap.size, 0, none⟩) 1 [e] := RX_new encL w [e] 62
theorem RL_at1 {w : World} {k : Nat} {e : Ls.Lk} (h : w.heap[k]? = some (.cells #[.int .i64 e.u, .int .i64 e.v, .int .i64 e.weight, .int .i64 e.label, .int .i64 e.sign, .int .i64 e.time] 62 (0, 0))) : RL w.heap.size w (some ⟨k, 0, none⟩) 1 [e] := by
  refine ⟨Nat.le_refl _, rfl, fun _ => ⟨_, rfl, lt_of_some h, fun j q hq => ?_⟩⟩
  have := Go.Joins.cell_of_block h j
  rw [Go.WideShapes.add_plain, Nat.zero_add, this]
  simpa [cl, Ls.Lk.cells] using hq
theorem RV_at1 {w : World} {k : Nat} {e : Ev} (h : w.heap[k]? = some (.cells #[.int .i64 e.kind, .int .i64 e.time, .int .i64 e.u, .int .i64 e.v, .int .i64 e.weight, .int .i64 e.label, .int .i64 e.sign] 57 (0, 0))) : RV w.heap.size w (some ⟨k, 0, none⟩) 1 [e] := by
  refine ⟨Nat.le_refl _, rfl, fun _ => ⟨_, rfl, lt_of_some h, fun j q hq => ?_⟩⟩
  have := Go.Joins.cell_of_block h j
  rw [Go.WideShapes.add_plain, Nat.zero_add, this]
  simpa [cl, Ev.cells] using hq
/-- the list lies in a block of links -/
def TK (w : World) (A : Option Addr) (l : List Ls.Lk) : Prop := l ≠ [] → ∀ ad, A = some ad → ∃ cs, w.heap[ad.block]? = some (.cells cs 62 (0, 0))
theorem TK.nil {w : World} {A : Option Addr} : TK w A [] := fun h => absurd rfl h
theorem TK.go {w w' : World} {A : Option Addr} {l : List Ls.Lk} (h : TK w A l) (hb : Below w.heap.size w w') : TK w' A l := fun hl ad e => by
  obtain ⟨cs, hc⟩ := h hl ad e
  exact ⟨cs, (hb.block _ (lt_of_some hc)).trans hc⟩
theorem TK.gr {w w' : World} {A : Option Addr} {l : List Ls.Lk} {G : Nat} {cs : Array Value} {U : TypeId} (h : TK w A l) (hG : w.heap[G]? = some (.cells cs U (0, 0))) (hU : U ≠ 62) (hg : w.grownBy w' (some G)) : TK w' A l := fun hl ad e => by
  obtain ⟨cs', hc⟩ := h hl ad e
  refine ⟨cs', (hg.block _ (lt_of_some hc) ?_).trans hc⟩
  intro e2
  injection e2 with e2
  rw [e2, hG] at hc
  injection hc with hc
  injection hc with _ hc
  exact hU hc
theorem TK.of_own {w : World} {b n c : Nat} {A : Option Addr} {xs : List Value} {l : List Ls.Lk} (h : w.ownsRow b 62 6 (.slice A n c) n xs) : TK w A l := fun _ ad e => by
  rcases h.2 with ⟨e0, _⟩ | ⟨g, cap, cur, e0, _, hg, _⟩
  · injection e0 with e1
    rw [e1] at e; cases e
  · injection e0 with e1
    rw [e1] at e
    injection e with e
    subst e
    exact ⟨cur, hg⟩
/-- what the reference's Apply answers: as ApplyP, and the links lie in a block of links -/
def ApplyT (n : Int) (l : List Ls.Lk) (e : Ev) (w : World) (en : Ending) (w' : World) : Prop :=
  ∃ (n' : Int) (l' : List Ls.Lk) (ev : List Ev) (A' A1 : Option Addr) (c' c1 : Nat), en = .returned (.tuple #[.agg #[.int .i64 n', .slice A' l'.length c'], .slice A1 ev.length c1, .int .i64 (Ls.apE n l e)]) ∧
    (if Ls.apE n l e = 0 then n' = n ∧ l' = Ls.nextL l e ∧ ev = Ls.chg l e else n' = 0 ∧ l' = [] ∧ ev = []) ∧ RL w'.heap.size w' A' c' l' ∧ RV w'.heap.size w' A1 c1 ev ∧ Below w.heap.size w w' ∧ TK w' A' l'
theorem ApplyT.plain {n : Int} {l : List Ls.Lk} {e : Ev} {w w' : World} {en : Ending} (h : ApplyT n l e w en w') : ApplyP n l e w en w' := by
  obtain ⟨a1, a2, a3, a4, a5, a6, a7, h1, h2, h3, h4, h5, -⟩ := h
  exact ⟨a1, a2, a3, a4, a5, a6, a7, h1, h2, h3, h4, h5⟩
/-- what the reference's All answers -/
def AllT (n : Int) (A : Option Addr) (l : List Ls.Lk) (es : List Ev) (w : World) (en : Ending) (w' : World) : Prop :=
  ∃ (n' : Int) (l' : List Ls.Lk) (A' : Option Addr) (c' : Nat), en = .returned (.tuple #[.agg #[.int .i64 n', .slice A' l'.length c'], .int .i64 (Ls.allR n l es).2.1, .int .i64 (Ls.allR n l es).2.2]) ∧
    l' = (Ls.allR n l es).1 ∧ n' = (if (Ls.allR n l es).2.2 = 0 then n else 0) ∧ RL w'.heap.size w' A' c' l' ∧ Below w.heap.size w w' ∧ (TK w A l → TK w' A' l')
theorem AllT.plain {n : Int} {A : Option Addr} {l : List Ls.Lk} {es : List Ev} {w w' : World} {en : Ending} (h : AllT n A l es w en w') : AllP n l es w en w' := by
  obtain ⟨a1, a2, a3, a4, h1, h2, h3, h4, h5, -⟩ := h
  exact ⟨a1, a2, a3, a4, h1, h2, h3, h4, h5⟩
end Go.Proofs.YtfapfkaipdcflaaGreat.K
