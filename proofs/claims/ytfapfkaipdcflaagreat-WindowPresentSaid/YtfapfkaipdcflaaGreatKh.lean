/-
  The links that are present, in memory of their own: what is kept of the memory where a link is set or removed; copies within a list.
-/
import Derived.Test.YtfapfkaipdcflaaGreatKg
import Derived.Laws.CopyRow
namespace Go.Proofs.YtfapfkaipdcflaaGreat.K
open Go.RowKit Go.Lib

/-- a copy of elements of sz cells into a block that is known -/
theorem run_copyN {P : Program} (w : World) (dT sT ty elem : TypeId) (sz : Nat) (g o dLen dCap : Nat) (sp : Option Addr) (sLen sCap : Nat) (cur : Array Value) (t : TypeId) (cs : List Value)
    (hu : P.underlying dT = some (.slice elem)) (hs : (P.info? elem).map (·.size) = some sz)
    (hg : w.heap[g]? = some (.cells cur t (0, 0))) (hn : cs.length = Nat.min sLen dLen * sz)
    (hsrc : 0 < cs.length → ∃ a, sp = some a ∧ ∀ j v, cs[j]? = some v → w.cell? (a.add j) = some v) (hnil : cs.length = 0 → Nat.min sLen dLen = 0) (hfit : o + cs.length ≤ cur.size) (h1 : ∀ v ∈ cs, v.oneCell' = true) :
    (Builtin.copy_ #[dT, sT] ty #[.slice (some ⟨g, o, none⟩) dLen dCap, .slice sp sLen sCap]).run P w =
      .ok (goInt (Nat.min sLen dLen)) (w.setRow g (cur.toList.take o ++ cs ++ cur.toList.drop (o + cs.length)).toArray) := by
  have hst := run_storeCells_at P g o t cs 0 cur w hg (by simpa using hfit) h1
  cases hq : P.info? elem with
  | none => simp [hq] at hs
  | some i =>
    have hi : i.size = sz := by simpa [hq] using hs
    by_cases h0 : cs.length = 0
    · obtain rfl : cs = [] := List.eq_nil_of_length_eq_zero h0
      have hm := hnil h0
      rw [hm]
      have e : (cur.toList.take o ++ [] ++ cur.toList.drop (o + ([] : List Value).length)).toArray = cur := by simp
      rw [e, setRow_self w g cur t (0, 0) hg]
      cases sp with
      | none => simp [Builtin.copy_, run_underlying hu, Builtin.lenOf, Builtin.firstCells, sizeOf, typeInfo, hq, hm, storeCells]
      | some a =>
        have hl := run_loadCells_list (P := P) w a [] (by simp)
        simp only [List.length_nil] at hl
        simp [Builtin.copy_, run_underlying hu, Builtin.lenOf, Builtin.firstCells, sizeOf, typeInfo, hq, hm, hl, storeCells]
    · obtain ⟨a, rfl, hc⟩ := hsrc (by omega)
      have hl := run_loadCells_list (P := P) w a cs hc
      simp [Builtin.copy_, run_underlying hu, Builtin.lenOf, Builtin.firstCells, sizeOf, typeInfo, hq, hi, ← hn, hl, hst]
theorem wp_copy_eq {P : Program} (w : World) {o : Oper} {a : Act} {K : Act → World → Prop} {Q : Exit → Act → World → Prop} (d s : Operand) (t t' : TypeId)
    (ho : o.op = .call { callee := .builtin .copy, args := #[d, s], argTypes := #[t, t'] }) (v u : Value) (hd : a.eval d = v) (hs : a.eval s = u) {v' : Value} {w' : World}
    (hr : (Builtin.copy_ #[t, t'] o.type #[v, u]).run P w = .ok v' w') (h : K (a.put o.dst v') w') : o.wp P a w K Q := by
  unfold Oper.wp execOp
  simp only [ho, resolve, invoke, builtin, Sem.run_bind, Sem.run_pure, Result.andThen_ok, List.map_toArray, List.map_cons, List.map_nil, hd, hs, hr]
  exact h
theorem wpList_copy_eq {P : Program} (w : World) {ops : Array Oper} {rest : List Oper} {o : Oper} {a : Act} {Q : Exit → Act → World → Prop} (hgd : o.guard = none) (d s : Operand) (t t' : TypeId)
    (ho : o.op = .call { callee := .builtin .copy, args := #[d, s], argTypes := #[t, t'] }) (v u : Value) (hd : a.eval d = v) (hs : a.eval s = u) {v' : Value} {w' : World}
    (hr : (Builtin.copy_ #[t, t'] o.type #[v, u]).run P w = .ok v' w') (h : wpList P ops Q rest (a.put o.dst v') w') : wpList P ops Q (o :: rest) a w :=
  wpList_plain hgd fun _ hK => wp_copy_eq w d s t t' ho v u hd hs hr (hK _ _ h)

/-- all blocks but two stay -/
structure Two (P g : Nat) (w w' : World) : Prop where
  os : w'.os = w.os
  tape : w'.tape = w.tape
  output : w'.output = w.output
  size : w.heap.size ≤ w'.heap.size
  block : ∀ k, k < w.heap.size → k ≠ P → k ≠ g → w'.heap[k]? = w.heap[k]?
theorem Two.refl (P g : Nat) (w : World) : Two P g w w := ⟨rfl, rfl, rfl, Nat.le_refl _, fun _ _ _ _ => rfl⟩
theorem Two.trans {P g : Nat} {w w1 w2 : World} (h : Two P g w w1) (h2 : Two P g w1 w2) : Two P g w w2 :=
  ⟨h2.os.trans h.os, h2.tape.trans h.tape, h2.output.trans h.output, Nat.le_trans h.size h2.size, fun k hk a b => (h2.block k (Nat.lt_of_lt_of_le hk h.size) a b).trans (h.block k hk a b)⟩
theorem Two.of_below {P g : Nat} {w w' : World} (h : Below w.heap.size w w') : Two P g w w' := ⟨h.os, h.tape, h.output, h.size, fun k hk _ _ => h.block k hk⟩
theorem Two.setP {P g i : Nat} {w : World} {v : Value} : Two P g w (w.setCell ⟨P, i, none⟩ v) := ⟨rfl, rfl, rfl, by simp [World.setCell], fun k _ hk _ => Below.heap_setCell w ⟨P, i, none⟩ v k hk⟩
theorem Two.setg {P g : Nat} {w : World} {cs : Array Value} : Two P g w (w.setRow g cs) := ⟨rfl, rfl, rfl, by simp [World.setRow], fun k _ _ hk => setRow_other w g k cs hk⟩
theorem Two.setAt {P g i : Nat} {w : World} {v : Value} : Two P g w (w.setCell ⟨g, i, none⟩ v) := ⟨rfl, rfl, rfl, by simp [World.setCell], fun k _ _ hk => Below.heap_setCell w ⟨g, i, none⟩ v k hk⟩
/-- stores into a block of the call's own -/
theorem Two.new {P g n : Nat} {w w' w'' : World} (h : Two P g w w') (hb : Below n w' w'') (hn : w.heap.size ≤ n) : Two P g w w'' :=
  ⟨hb.os.trans h.os, hb.tape.trans h.tape, hb.output.trans h.output, Nat.le_trans h.size hb.size, fun k hk a b => (hb.block k (by omega)).trans (h.block k hk a b)⟩
theorem Two.below {P g B : Nat} {w w' : World} (h : Two P g w w') (hP : B ≤ P) (hg : B ≤ g) (hB : B ≤ w.heap.size) : Below B w w' := ⟨h.os, h.tape, h.output, h.size, fun k hk => h.block k (by omega) (by omega) (by omega)⟩

/-- the links that are present, as they lie in memory: the struct in block P, its links in block g -/
structure PSg (base P g c : Nat) (l : List Ls.Lk) (w : World) : Prop where
  b : w.heap[P]? = some (.cells #[.slice (some ⟨g, 0, none⟩) l.length c] 95)
  row : ∃ cur : Array Value, w.heap[g]? = some (.cells cur 62 (0, 0)) ∧ cur.size = c * 6 ∧ cur.toList.take (l.length * 6) = cl Ls.Lk.cells l
  le : l.length ≤ c
  cm : c ≤ maxLen
  hP : base ≤ P
  hg : base ≤ g
/-- the same, also without links -/
structure PS (base P : Nat) (A : Option Addr) (c : Nat) (l : List Ls.Lk) (w : World) : Prop where
  b : w.heap[P]? = some (.cells #[.slice A l.length c] 95)
  own : w.ownsRow base 62 6 (.slice A l.length c) l.length (cl Ls.Lk.cells l)
  hP : base ≤ P
section
variable {base P g c : Nat} {l : List Ls.Lk} {w w' : World}
theorem PSg.lP (h : PSg base P g c l w) : P < w.heap.size := lt_of_some h.b
theorem PSg.lg (h : PSg base P g c l w) : g < w.heap.size := by obtain ⟨cur, hc, _⟩ := h.row; exact lt_of_some hc
theorem PSg.ne (h : PSg base P g c l w) : P ≠ g := by
  obtain ⟨cur, hc, _⟩ := h.row
  intro e
  have := h.b
  rw [e, hc] at this
  injection this with this
  injection this with _ this
  exact absurd this (by decide)
theorem PSg.go (h : PSg base P g c l w) (hb : Below w.heap.size w w') : PSg base P g c l w' := by
  obtain ⟨cur, hc, h1, h2⟩ := h.row
  exact ⟨(hb.block _ h.lP).trans h.b, ⟨cur, (hb.block _ h.lg).trans hc, h1, h2⟩, h.le, h.cm, h.hP, h.hg⟩
theorem PSg.goB {B : Nat} (h : PSg base P g c l w) (hb : Below B w w') (hP : P < B) (hg : g < B) : PSg base P g c l w' := by
  obtain ⟨cur, hc, h1, h2⟩ := h.row
  exact ⟨(hb.block _ hP).trans h.b, ⟨cur, (hb.block _ hg).trans hc, h1, h2⟩, h.le, h.cm, h.hP, h.hg⟩
theorem PSg.own (h : PSg base P g c l w) : w.ownsRow base 62 6 (.slice (some ⟨g, 0, none⟩) l.length c) l.length (cl Ls.Lk.cells l) := by
  obtain ⟨cur, hc, h1, h2⟩ := h.row
  exact ⟨cl_len encL l, .inr ⟨g, c, cur, rfl, h.hg, hc, h.le, h.cm, h1, h2⟩⟩
theorem PSg.rl (h : PSg base P g c l w) : RL w.heap.size w (some ⟨g, 0, none⟩) c l := RX.of_own h.own
theorem PSg.ps (h : PSg base P g c l w) : PS base P (some ⟨g, 0, none⟩) c l w := ⟨h.b, h.own, h.hP⟩
theorem PSg.c0 (h : PSg base P g c l w) : w.cell? ⟨P, 0, none⟩ = some (.slice (some ⟨g, 0, none⟩) l.length c) := Go.Joins.cell_of_block h.b 0
theorem PSg.f0 (h : PSg base P g c l w) : w.frozen? ⟨P, 0, none⟩ = false := Go.Joins.unfrozen_of_block h.b 0
end
section
variable {base P c : Nat} {A : Option Addr} {l : List Ls.Lk} {w w' : World}
theorem PS.lP (h : PS base P A c l w) : P < w.heap.size := lt_of_some h.b
theorem PS.g (h : PS base P A c l w) (hl : 0 < l.length) : ∃ g, A = some ⟨g, 0, none⟩ ∧ PSg base P g c l w := by
  obtain ⟨h1, h2 | ⟨g, cap, cur, hv, hb, hg, hn, hm, hs, ht⟩⟩ := h.own
  · omega
  · injection hv with e1 e2 e3
    subst e1; subst e3
    exact ⟨g, rfl, h.b, ⟨cur, hg, hs, ht⟩, hn, hm, h.hP, hb⟩
theorem PS.go (h : PS base P A c l w) (hb : Below w.heap.size w w') : PS base P A c l w' := ⟨(hb.block _ h.lP).trans h.b, own_up h.own hb, h.hP⟩
theorem PS.rl (h : PS base P A c l w) : RL w.heap.size w A c l := RX.of_own h.own
theorem PS.c0 (h : PS base P A c l w) : w.cell? ⟨P, 0, none⟩ = some (.slice A l.length c) := Go.Joins.cell_of_block h.b 0
theorem PS.f0 (h : PS base P A c l w) : w.frozen? ⟨P, 0, none⟩ = false := Go.Joins.unfrozen_of_block h.b 0
end
theorem erase_cells (l : List Ls.Lk) (k : Nat) (cur : List Value) (hk : k < l.length) (h : cur.take (l.length * 6) = cl Ls.Lk.cells l) (hs : l.length * 6 ≤ cur.length) :
    (cur.take (k * 6) ++ cl Ls.Lk.cells (l.drop (k + 1)) ++ cur.drop (k * 6 + (cl Ls.Lk.cells (l.drop (k + 1))).length)).take ((l.eraseIdx k).length * 6) = cl Ls.Lk.cells (l.eraseIdx k) ∧
    (cur.take (k * 6) ++ cl Ls.Lk.cells (l.drop (k + 1)) ++ cur.drop (k * 6 + (cl Ls.Lk.cells (l.drop (k + 1))).length)).length = cur.length := by
  have e1 : cur.take (k * 6) = cl Ls.Lk.cells (l.take k) := by
    rw [← cl_take encL, ← h, List.take_take]
    congr 1
    omega
  have e2 : (cl Ls.Lk.cells (l.drop (k + 1))).length = (l.length - (k + 1)) * 6 := by rw [cl_len encL, List.length_drop]
  have e3 : l.eraseIdx k = l.take k ++ l.drop (k + 1) := List.eraseIdx_eq_take_drop_succ ..
  have e4 : (cl Ls.Lk.cells (l.take k) ++ cl Ls.Lk.cells (l.drop (k + 1))).length = (l.eraseIdx k).length * 6 := by
    rw [← cl_append, cl_len encL, e3]
  constructor
  · rw [e1, List.take_append_of_le_length (by omega), List.take_of_length_le (by omega), ← cl_append, e3]
  · simp only [List.length_append, e1, cl_len encL, List.length_drop, List.length_take]
    omega
end Go.Proofs.YtfapfkaipdcflaaGreat.K
