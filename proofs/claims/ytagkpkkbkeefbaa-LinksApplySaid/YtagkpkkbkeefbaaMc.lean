/-
  LinksChanges, walked.
-/
import Derived.Test.YtagkpkkbkeefbaaKx
import Derived.Test.YtagkpkkbkeefbaaKy
namespace Go.Proofs.Ytagkpkkbkeefbaa
open Go.RowKit Go.Lib

section
variable {α : Type} {n : Nat} {f : α → List Value} {B G : Nat} {w w' : World} {A : Option Addr} {c : Nat} {l : List α} {x y : Value} {ty : TypeId}
/-- what lies in words of more than two cells does not lie in a block of two -/
theorem RX.keepG (E : Enc n f) (hn : 2 < n) (h : RX n f w.heap.size w A c l) (hG : w.heap[G]? = some (.cells #[x, y] ty (0, 0))) (hg : w.grownBy w' (some G)) : (∀ ad, l ≠ [] → A = some ad → ad.block ≠ G) ∧ RX n f w'.heap.size w' A c l := by
  rcases l with _ | ⟨a, l⟩
  · exact ⟨fun _ h => absurd rfl h, RX.nil_ _ _ _ _⟩
  · obtain ⟨b, off, a', rfl, hb, ha, hc⟩ := RX.let_ E (by omega) h (k := 0) (by simp)
    have hlen := E.len a'
    have hbG : b ≠ G := by
      rintro rfl
      have h2 := hc 2 _ (List.getElem?_eq_getElem (by omega))
      have h3 : w.cell? ⟨b, off + (0 * n + 2), none⟩ = (#[x, y] : Array Value)[off + (0 * n + 2)]? := Go.Joins.cell_of_block hG (off + (0 * n + 2))
      rw [h2] at h3
      have : (#[x, y] : Array Value)[off + (0 * n + 2)]? = none := by
        rw [Array.getElem?_eq_none]; simp
      rw [this] at h3
      cases h3
    refine ⟨fun ad _ e => by injection e with e; rw [← e]; exact hbG, h.1, h.2.1, fun h0 => ?_⟩
    obtain ⟨ad, e, hbl, hcc⟩ := h.2.2 h0
    injection e with e
    refine ⟨ad, by rw [e], Nat.lt_of_lt_of_le hbl hg.size, fun j u hu => ?_⟩
    have hbe := hg.block b hb (fun e => hbG (by injection e))
    have := hcc j u hu
    have hbj : (ad.add j).block = b := by rw [block_of_add, ← e]
    unfold World.cell? at this ⊢
    rw [hbj] at this ⊢
    rw [hbe]
    exact this
end
/-- the law's state: the deck in block G, the state in the box ks -/
structure LY (w : World) (G ks : Nat) (A : Option Addr) (c : Nat) (L : List Int) (N : Nat) (As : Option Addr) (cs : Nat) (l : List Ls.Lk) (k : Nat) (wr : World) : Prop where
  dk : ∃ m, Dk w.heap.size wr G A c L m
  s : SX ks N As cs l wr
  bel : Below w.heap.size w wr
  lg : w.heap.size ≤ G
  l4 : G < ks
  v : Ls.V N l
  len : l.length ≤ 10000 + k
section
variable {w : World} {G ks : Nat} {A : Option Addr} {c : Nat} {L : List Int} {N : Nat} {As : Option Addr} {cs : Nat} {l : List Ls.Lk} {k : Nat} {wr w' : World}
theorem LY.go (h : LY w G ks A c L N As cs l k wr) (hb : Below wr.heap.size wr w') : LY w G ks A c L N As cs l k w' := by
  obtain ⟨m, hd⟩ := h.dk
  exact ⟨⟨m, hd.go hb⟩, h.s.go hb, h.bel.trans (hb.mono h.bel.size), h.lg, h.l4, h.v, h.len⟩
theorem LY.next {m : Nat} (h : LY w G ks A c L N As cs l k wr) (hd : Dk w.heap.size w' G A c L m) (hg : wr.grownBy w' (some G)) : LY w G ks A c L N As cs l k w' := by
  have h4 := h.l4
  obtain ⟨m0, h0⟩ := h.dk
  exact ⟨⟨m, hd⟩, ⟨(hg.block _ (lt_of_some h.s.b) (fun e => by injection e with e; omega)).trans h.s.b, (h.s.rl.keepG encL (n := 6) (by decide) h0.blk hg).2⟩, h.bel.grown hg h.bel.size (fun k hk => by injection hk with hk; have := h.lg; omega), h.lg, h4, h.v, h.len⟩
/-- another state is put into the box -/
theorem LY.put {ka : Nat} {A' : Option Addr} {c' : Nat} {q : List Ls.Lk} (h : LY w G ks A c L N As cs l k wr) (hs : SX ka N A' c' q wr) (hv : Ls.V N q) (hl : q.length ≤ l.length + 1) :
    LY w G ks A c L N A' c' q (k + 1) ((wr.setCell ⟨ks, 0, none⟩ (.int .i64 N)).setCell ⟨ks, 1, none⟩ (.slice A' q.length c')) := by
  have h4 := h.l4
  have hlg := h.lg
  obtain ⟨m0, h0⟩ := h.dk
  have e1 := setCell_cells h.s.b 0 (.int .i64 N)
  have e2 := setCell_cells e1 1 (.slice A' q.length c')
  have hbk : Below ks wr ((wr.setCell ⟨ks, 0, none⟩ (.int .i64 N)).setCell ⟨ks, 1, none⟩ (.slice A' q.length c')) := ((Below.refl _ _).setCell (p := ⟨ks, 0, none⟩) (Nat.le_refl _) _).setCell (p := ⟨ks, 1, none⟩) (Nat.le_refl _) _
  have hgr : wr.grownBy ((wr.setCell ⟨ks, 0, none⟩ (.int .i64 N)).setCell ⟨ks, 1, none⟩ (.slice A' q.length c')) (some ks) := (grown_trans set_grown set_grown)
  refine ⟨⟨m0, h0.goB hbk h4⟩, ⟨e2, (hs.rl.keepG encL (n := 6) (by decide) h.s.b hgr).2⟩, h.bel.trans (hbk.mono (by omega)), hlg, h4, hv, by have := h.len; omega⟩
end
/-- as act_block, but that the slots may be written in any order, and not all of the range -/
theorem act_range {a a0 : Act} {l : List Oper} {n : Nat} (lo m : Nat) (hsz : a.tmps.size = a0.tmps.size) (hdf : a.defers = a0.defers)
    (h : ∀ k, (∀ j oj, j < n → l.toArray[j]? = some oj → oj.dst ≠ some k) → a.eval (.tmp k) = a0.eval (.tmp k)) (ds : List Nat) (hds : ∀ d ∈ (l.take n).filterMap (fun o => o.dst), d ∈ ds) (hr : ds = List.range' lo m) (hlm : lo + m ≤ a0.tmps.size) :
    a = ⟨(a0.tmps.toList.take lo ++ (ds.map (fun d => a.eval (.tmp d)) ++ a0.tmps.toList.drop (lo + m))).toArray, a0.defers⟩ := by
  have key : ∀ k, k < a.tmps.size → k ∉ ds → (a.tmps[k]?).getD undef = (a0.tmps[k]?).getD undef := by
    intro k hk hm
    have := h k (fun j oj hj ho e => hm (by
      refine hds k (List.mem_filterMap.2 ?_)
      exact ⟨oj, List.mem_of_getElem? (i := j) (by rw [List.getElem?_take_of_lt hj]; simpa using ho), e⟩))
    simpa [Act.eval] using this
  obtain ⟨T, D⟩ := a
  obtain ⟨T0, D0⟩ := a0
  simp only at hsz hdf key hlm
  subst hdf
  have e : T = (T0.toList.take lo ++ (ds.map (fun d => Act.eval ⟨T, D⟩ (.tmp d)) ++ T0.toList.drop (lo + m))).toArray := by
    apply Array.ext
    · simp [hr]; omega
    · intro i h1 h2
      have hi0 : i < T0.size := by omega
      by_cases c1 : i < lo
      · have := key i h1 (by rw [hr, List.mem_range'_1]; omega)
        simp [h1, hi0] at this
        simp [c1, this, Nat.min_eq_left (show lo ≤ T0.size by omega)]
      · by_cases c2 : i < lo + m
        · have e2 : lo + (i - lo) = i := by omega
          simp [List.getElem_append, Nat.min_eq_left (show lo ≤ T0.size by omega), c1, hr, show i - lo < m by omega, Act.eval, e2, h1]
        · have := key i h1 (by rw [hr, List.mem_range'_1]; omega)
          simp [h1, hi0] at this
          have e3 : lo + m + (i - lo - m) = i := by omega
          simp [List.getElem_append, Nat.min_eq_left (show lo ≤ T0.size by omega), c1, hr, show ¬ i - lo < m by omega, this, e3]
  rw [← e]
/-- what Apply answered, as it goes from slot to slot -/
def pts (N : Nat) (l : List Ls.Lk) (z : Ev) (A' : Option Addr) (c' : Nat) (A1 : Option Addr) (c1 : Nat) : List (Nat × Nat × Value) :=
  let ag : Value := .agg #[.int .i64 (N : Nat), .slice A' (Ls.nextL l z).length c']
  let sl : Value := .slice A1 (Ls.chg l z).length c1
  [(8, 30, .tuple #[ag, sl, .int .i64 0]), (9, 21, .tuple #[ag, sl, .int .i64 0]), (10, 31, ag), (11, 32, sl), (12, 33, .int .i64 0), (15, 6, sl), (16, 7, .int .i64 0)]
theorem pts_put {P : List (Nat × Nat × Value)} {f : Nat → Bool} {a : Act} {i d : Nat} {v : Value} (h : ∀ p ∈ P, f p.1 = true → a.eval (.tmp p.2.1) = p.2.2) (hs : d < a.tmps.size) (hP : ∀ p ∈ P, (p.2.1 = d → p.2.2 = v) ∧ (p.1 = i → p.2.1 = d)) :
    ∀ p ∈ P, (if p.1 = i then true else f p.1) = true → (a.put (some d) v).eval (.tmp p.2.1) = p.2.2 := by
  intro p hp hf
  by_cases hd : p.2.1 = d
  · rw [hd, eval_put_same hs, (hP p hp).1 hd]
  · rw [eval_put_other (fun e => hd e.symm)]
    rw [if_neg (fun e => hd ((hP p hp).2 e))] at hf
    exact h p hp hf
/-- what comes only behind what -/
def chn (f : Nat → Bool) : Prop := (f 9 = true → f 8 = true) ∧ (f 10 = true → f 9 = true) ∧ (f 11 = true → f 9 = true) ∧ (f 12 = true → f 9 = true) ∧ (f 14 = true → f 10 = true) ∧ (f 15 = true → f 11 = true) ∧ (f 16 = true → f 12 = true)
theorem chn_add {f : Nat → Bool} {i p : Nat} (h : chn f) (hp : f p = true) (hip : (i, p) ∈ [(9, 8), (10, 9), (11, 9), (12, 9), (14, 10), (15, 11), (16, 12)]) : chn (fun k => if k = i then true else f k) := by
  simp only [List.mem_cons, List.not_mem_nil, or_false, Prod.mk.injEq] at hip
  rcases hip with ⟨rfl, rfl⟩ | ⟨rfl, rfl⟩ | ⟨rfl, rfl⟩ | ⟨rfl, rfl⟩ | ⟨rfl, rfl⟩ | ⟨rfl, rfl⟩ | ⟨rfl, rfl⟩ <;> (unfold chn at *; simp_all)
theorem chn_other {f : Nat → Bool} {i : Nat} (h : chn f) (hi : i < 9 ∨ i = 13) : chn (fun k => if k = i then true else f k) := by
  obtain ⟨h1, h2, h3, h4, h5, h6, h7⟩ := h
  unfold chn
  simp only [if_neg (show ¬ 9 = i by omega), if_neg (show ¬ 10 = i by omega), if_neg (show ¬ 11 = i by omega), if_neg (show ¬ 12 = i by omega), if_neg (show ¬ 14 = i by omega), if_neg (show ¬ 15 = i by omega), if_neg (show ¬ 16 = i by omega)]
  refine ⟨fun e => ?_, h2, h3, h4, h5, h6, h7⟩
  by_cases h8 : 8 = i
  · rw [if_pos h8]
  · rw [if_neg h8]; exact h1 e
/-- what is known in the region: f: what has been done; B: where the memory before it ends -/
structure JD (B base G : Nat) (A : Option Addr) (c : Nat) (L : List Int) (N : Nat) (l : List Ls.Lk) (f : Nat → Bool) (a : Act) (w : World) : Prop where
  sz : a.tmps.size = 76
  dk : ∃ m, Dk base w G A c L m
  new : f 8 = true → ∃ (z : Ev) (A' : Option Addr) (c' : Nat) (A1 : Option Addr) (c1 : Nat), Ls.Good N z ∧ RL w.heap.size w A' c' (Ls.nextL l z) ∧ RV w.heap.size w A1 c1 (Ls.chg l z) ∧ (∀ p ∈ pts N l z A' c' A1 c1, f p.1 = true → a.eval (.tmp p.2.1) = p.2.2) ∧
    (f 14 = true → ∃ b, a.eval (.tmp 5) = .pointer (some ⟨b, 0, none⟩) ∧ w.heap[b]? = some (.cells #[.int .i64 (N : Nat), .slice A' (Ls.nextL l z).length c'] 24))
  b5 : f 13 = true → ∃ (b : Nat) (x y : Value), a.eval (.tmp 5) = .pointer (some ⟨b, 0, none⟩) ∧ B ≤ b ∧ w.heap[b]? = some (.cells #[x, y] 24)
  ch : chn f
  hB : G < B
section
variable {B base G : Nat} {A : Option Addr} {c : Nat} {L : List Int} {N : Nat} {l : List Ls.Lk} {f : Nat → Bool} {a : Act} {w w' : World}
theorem JD.keep {d i : Nat} {v : Value} (h : JD B base G A c L N l f a w) (hd : 21 < d ∧ d < 30) (hi : i < 8) : JD B base G A c L N l (fun k => if k = i then true else f k) (a.put (some d) v) w := by
  refine ⟨by rw [size_put]; exact h.sz, h.dk, fun hk => ?_, fun hk => ?_, chn_other h.ch (by omega), h.hB⟩
  · rw [if_neg (by omega)] at hk
    obtain ⟨z, A', c', A1, c1, g1, g2, g3, g4, g5⟩ := h.new hk
    refine ⟨z, A', c', A1, c1, g1, g2, g3, pts_put g4 (by rw [h.sz]; omega) ?_, fun hk => ?_⟩
    · intro p hp
      simp only [pts, List.mem_cons, List.not_mem_nil, or_false] at hp
      rcases hp with rfl | rfl | rfl | rfl | rfl | rfl | rfl <;> (dsimp only; constructor <;> intro e <;> omega)
    · rw [if_neg (by omega)] at hk
      rw [eval_put_other (by omega)]
      exact g5 hk
  · rw [if_neg (by omega)] at hk
    rw [eval_put_other (by omega)]
    exact h.b5 hk
theorem JD.next (h : JD B base G A c L N l f a w) (hd : ∃ m, Dk base w' G A c L m) (hg : w.grownBy w' (some G)) : JD B base G A c L N l f a w' := by
  obtain ⟨m0, h0⟩ := h.dk
  refine ⟨h.sz, hd, fun hk => ?_, fun hk => ?_, h.ch, h.hB⟩
  · obtain ⟨z, A', c', A1, c1, h1, h2, h3, h4, h5⟩ := h.new hk
    refine ⟨z, A', c', A1, c1, h1, (h2.keepG encL (n := 6) (by decide) h0.blk hg).2, (h3.keepG encE (n := 7) (by decide) h0.blk hg).2, h4, fun hk => ?_⟩
    obtain ⟨b, e, hb⟩ := h5 hk
    refine ⟨b, e, (hg.block b (lt_of_some hb) (fun e => ?_)).trans hb⟩
    injection e with e
    rw [e, h0.blk] at hb
    cases hb
  · obtain ⟨b, x, y, e, hb, hbb⟩ := h.b5 hk
    exact ⟨b, x, y, e, hb, (hg.block b (lt_of_some hbb) (fun e => by injection e with e; have := h.hB; omega)).trans hbb⟩
theorem JD.done {z : Ev} {A' A1 : Option Addr} {c' c1 : Nat} (h : JD B base G A c L N l f a w) (hz : Ls.Good N z) (hd : ∃ m, Dk base w' G A c L m) (hg : w.grownBy w' (some G)) (h3 : RL w'.heap.size w' A' c' (Ls.nextL l z)) (h4 : RV w'.heap.size w' A1 c1 (Ls.chg l z)) (h9 : f 9 = false) :
    JD B base G A c L N l (fun k => if k = 8 then true else f k) (a.put (some 30) (.tuple #[.agg #[.int .i64 (N : Nat), .slice A' (Ls.nextL l z).length c'], .slice A1 (Ls.chg l z).length c1, .int .i64 0])) w' := by
  obtain ⟨g1, g2, g3, g4, g5, g6, g7⟩ := h.ch
  have e10 : f 10 = false := by cases e : f 10 with | false => rfl | true => rw [g2 e] at h9; cases h9
  have e11 : f 11 = false := by cases e : f 11 with | false => rfl | true => rw [g3 e] at h9; cases h9
  have e12 : f 12 = false := by cases e : f 12 with | false => rfl | true => rw [g4 e] at h9; cases h9
  have e14 : f 14 = false := by cases e : f 14 with | false => rfl | true => rw [g5 e] at e10; cases e10
  have e15 : f 15 = false := by cases e : f 15 with | false => rfl | true => rw [g6 e] at e11; cases e11
  have e16 : f 16 = false := by cases e : f 16 with | false => rfl | true => rw [g7 e] at e12; cases e12
  refine ⟨by rw [size_put]; exact h.sz, hd, fun _ => ⟨z, A', c', A1, c1, hz, h3, h4, ?_, fun hk => ?_⟩, fun hk => ?_, chn_other h.ch (by omega), h.hB⟩
  · intro p hp hf
    simp only [pts, List.mem_cons, List.not_mem_nil, or_false] at hp
    rcases hp with rfl | rfl | rfl | rfl | rfl | rfl | rfl
    · exact eval_put_same (by rw [h.sz]; decide)
    · simp [h9] at hf
    · simp [e10] at hf
    · simp [e11] at hf
    · simp [e12] at hf
    · simp [e15] at hf
    · simp [e16] at hf
  · simp [e14] at hk
  · rw [if_neg (by decide)] at hk
    rw [eval_put_other (by decide)]
    obtain ⟨b, x, y, e, hb, hbb⟩ := h.b5 hk
    exact ⟨b, x, y, e, hb, (hg.block b (lt_of_some hbb) (fun e => by injection e with e; have := h.hB; omega)).trans hbb⟩
theorem JD.add {i d p : Nat} {v : Value} (h : JD B base G A c L N l f a w) (h8 : f 8 = true) (hp : f p = true) (hip : (i, p) ∈ [(9, 8), (10, 9), (11, 9), (12, 9), (14, 10), (15, 11), (16, 12)]) (hi : i ≠ 14) (hd : d < 76) (hd5 : d ≠ 5)
    (hv : ∀ z A' c' A1 c1, (∀ p ∈ pts N l z A' c' A1 c1, f p.1 = true → a.eval (.tmp p.2.1) = p.2.2) → ∀ p ∈ pts N l z A' c' A1 c1, (p.2.1 = d → p.2.2 = v) ∧ (p.1 = i → p.2.1 = d)) :
    JD B base G A c L N l (fun k => if k = i then true else f k) (a.put (some d) v) w := by
  have hi13 : i ≠ 13 := by
    rintro rfl
    simp at hip
  refine ⟨by rw [size_put]; exact h.sz, h.dk, fun _ => ?_, fun hk => ?_, chn_add h.ch hp hip, h.hB⟩
  · obtain ⟨z, A', c', A1, c1, k1, k2, k3, k4, k5⟩ := h.new h8
    refine ⟨z, A', c', A1, c1, k1, k2, k3, pts_put k4 (by rw [h.sz]; exact hd) (hv z A' c' A1 c1 k4), fun hk => ?_⟩
    rw [if_neg (Ne.symm hi)] at hk
    rw [eval_put_other hd5]
    exact k5 hk
  · rw [if_neg (Ne.symm hi13)] at hk
    rw [eval_put_other hd5]
    exact h.b5 hk
theorem JD.alloc (h : JD B base G A c L N l f a w) (hw : B ≤ w.heap.size) (h14 : f 14 = false) : JD B base G A c L N l (fun k => if k = 13 then true else f k) (a.put (some 5) (.pointer (some ⟨w.heap.size, 0, none⟩))) (w.alloc (.cells #[.int .i64 0, .slice none 0 0] 24)) := by
  obtain ⟨m0, h0⟩ := h.dk
  have h2 := h.next (w' := w.alloc (.cells #[.int .i64 0, .slice none 0 0] 24)) ⟨m0, h0.go (below_new _ _)⟩ (grown_below (grown_refl w G) (below_new _ _) (Nat.le_refl _))
  refine ⟨by rw [size_put]; exact h.sz, h2.dk, fun hk => ?_, fun _ => ⟨w.heap.size, _, _, eval_put_same (by rw [h.sz]; decide), hw, heap_alloc_new _ _⟩, chn_other h.ch (by omega), h.hB⟩
  rw [if_neg (by decide)] at hk
  obtain ⟨z, A', c', A1, c1, g1, g2, g3, g4, g5⟩ := h2.new hk
  refine ⟨z, A', c', A1, c1, g1, g2, g3, pts_put g4 (by rw [h.sz]; decide) ?_, fun hk => ?_⟩
  · intro p hp
    simp only [pts, List.mem_cons, List.not_mem_nil, or_false] at hp
    rcases hp with rfl | rfl | rfl | rfl | rfl | rfl | rfl <;> (dsimp only; constructor <;> intro e <;> omega)
  · rw [if_neg (by decide), h14] at hk
    cases hk
theorem JD.store {b : Nat} {z : Ev} {A' A1 : Option Addr} {c' c1 : Nat} (h : JD B base G A c L N l f a w) (h10 : f 10 = true) (hb : B ≤ b) (e5 : a.eval (.tmp 5) = .pointer (some ⟨b, 0, none⟩)) {x y : Value} (hx : w.heap[b]? = some (.cells #[x, y] 24))
    (hz : Ls.Good N z) (h3 : RL w.heap.size w A' c' (Ls.nextL l z)) (h4 : RV w.heap.size w A1 c1 (Ls.chg l z)) (hp : ∀ p ∈ pts N l z A' c' A1 c1, f p.1 = true → a.eval (.tmp p.2.1) = p.2.2) {v : Value} :
    JD B base G A c L N l (fun k => if k = 14 then true else f k) (a.put none v) ((w.setCell ⟨b, 0, none⟩ (.int .i64 (N : Nat))).setCell ⟨b, 1, none⟩ (.slice A' (Ls.nextL l z).length c')) := by
  obtain ⟨m0, h0⟩ := h.dk
  have hgr : w.grownBy ((w.setCell ⟨b, 0, none⟩ (.int .i64 (N : Nat))).setCell ⟨b, 1, none⟩ (.slice A' (Ls.nextL l z).length c')) (some b) := grown_trans set_grown set_grown
  have e2 := setCell_cells (setCell_cells hx 0 (.int .i64 (N : Nat))) 1 (.slice A' (Ls.nextL l z).length c')
  have hGb := h.hB
  refine ⟨h.sz, ⟨m0, dk_other h0 hgr (by omega)⟩, fun _ => ⟨z, A', c', A1, c1, hz, (h3.keepG encL (n := 6) (by decide) hx hgr).2, (h4.keepG encE (n := 7) (by decide) hx hgr).2, fun p hpp hf => ?_, fun _ => ⟨b, e5, e2⟩⟩, fun _ => ⟨b, _, _, e5, hb, e2⟩, chn_add h.ch h10 (by simp), h.hB⟩
  have hne : p.1 ≠ 14 := by
    simp only [pts, List.mem_cons, List.not_mem_nil, or_false] at hpp
    rcases hpp with rfl | rfl | rfl | rfl | rfl | rfl | rfl <;> (dsimp only; decide)
  rw [if_neg hne] at hf
  exact hp p hpp hf
end
/-- all blocks below B but G stay -/
structure Le3 (B G : Nat) (w w' : World) : Prop where
  os : w'.os = w.os
  tape : w'.tape = w.tape
  output : w'.output = w.output
  size : w.heap.size ≤ w'.heap.size
  block : ∀ k, k < B → k ≠ G → w'.heap[k]? = w.heap[k]?
theorem le3_refl (B G : Nat) (w : World) : Le3 B G w w := ⟨rfl, rfl, rfl, Nat.le_refl _, fun _ _ _ => rfl⟩
theorem le3_trans {B G : Nat} {w w1 w2 : World} (h : Le3 B G w w1) (h2 : Le3 B G w1 w2) : Le3 B G w w2 :=
  ⟨h2.os.trans h.os, h2.tape.trans h.tape, h2.output.trans h.output, Nat.le_trans h.size h2.size, fun k hk hn => (h2.block k hk hn).trans (h.block k hk hn)⟩
theorem le3_of {B G : Nat} {w w' : World} (h : w.grownBy w' (some G)) (hB : B ≤ w.heap.size) : Le3 B G w w' :=
  ⟨h.os, h.tape, h.output, h.size, fun k hk hn => h.block k (by omega) (fun e => hn (by injection e))⟩
theorem le3_at {B G b : Nat} {w w' : World} (h : w.grownBy w' (some b)) (hB : B ≤ w.heap.size) (hb : B ≤ b) : Le3 B G w w' :=
  ⟨h.os, h.tape, h.output, h.size, fun k hk _ => h.block k (by omega) (fun e => by injection e with e; omega)⟩
theorem le3_grown {G : Nat} {w w' : World} (h : Le3 w.heap.size G w w') : w.grownBy w' (some G) :=
  ⟨h.os, h.tape, h.output, h.size, fun k hk hn => h.block k hk (fun e => hn (by rw [e]))⟩
theorem LY.set {w : World} {G ks b : Nat} {A : Option Addr} {c : Nat} {L : List Int} {N : Nat} {As : Option Addr} {cs : Nat} {l : List Ls.Lk} {k : Nat} {wr w' : World} {x y : Value} {ty : TypeId}
    (h : LY w G ks A c L N As cs l k wr) (hb : wr.heap[b]? = some (.cells #[x, y] ty (0, 0))) (hbk : ks < b) (hg : wr.grownBy w' (some b)) : LY w G ks A c L N As cs l k w' := by
  have h4 := h.l4
  have hlg := h.lg
  obtain ⟨m0, h0⟩ := h.dk
  exact ⟨⟨m0, dk_other h0 hg (by omega)⟩, ⟨(hg.block _ (lt_of_some h.s.b) (fun e => by injection e with e; omega)).trans h.s.b, (h.s.rl.keepG encL (n := 6) (by decide) hb hg).2⟩, h.bel.grown hg h.bel.size (fun q hq => by injection hq with hq; omega), hlg, h4, h.v, h.len⟩
/-- the mathematics of LinksChanges -/
theorem changes_math {N : Int} {l : List Ls.Lk} {z : Ev} (hV : Ls.V N l) (hz : Ls.Good N z) :
    Ls.allR N l (Ls.chg l z) = (Ls.nextL l z, ((Ls.chg l z).length : Int), 0) ∧ (Ls.chg l z = [] ↔ Ls.nextL l z = l) ∧ Ls.V N (Ls.nextL l z) ∧ (Ls.nextL l z).length ≤ l.length + 1 ∧ (Ls.chg l z).length ≤ l.length + 1 := by
  have h := Ls.run_chg' hV hz
  refine ⟨?_, Ls.chg_nil l z hV.2.2.1, Ls.next_valid hV hz, Ls.len_next _ _, Ls.len_chg _ _⟩
  rw [all_good hV (fun e he => (Ls.chg_good hV hz e he).1), h.1, h.2]
set_option maxHeartbeats 2000000 in
set_option maxRecDepth 100000 in
theorem changes_law (A : Option Addr) (c : Nat) (L : List Int) (w : World) (h : RD w A c L) (hL : L.length ≤ 17592186044416) :
    Calls Try.prog 5 #[.slice A L.length c] w fun e w' => e = .returned (.bool true) ∧ Below w.heap.size w w' := by
  have CN := Lib.hid (new_any A c L w h)
  clear h
  go_enter Try.func5, Try.ntmps5
  go_wp2_with fail
  refine CN.out.mono ?_
  rintro e v0 ⟨rfl, hd, hb0⟩
  have CSt := Lib.hid (state_any w.heap.size w.heap.size A c L 0 7 v0 hd hL (by decide))
  have HB0 := Lib.hid hb0
  have hG0 := Lib.hid hd.lt
  clear hd hb0 CN
  obtain ⟨G, hG⟩ : ∃ G, Hid (w.heap.size = G) := ⟨_, rfl⟩
  go_wp2_with fail
  refine CSt.out.mono ?_
  rintro e v1 ⟨N, l0, As0, cs0, m1, rfl, hN, ⟨hV, htm⟩, hl, ho, D1, g1⟩
  have HV0 := Lib.hid hV
  have HL := Lib.hid hl
  have HLX := Lib.hid (LX.start (n := (N : Int)) (Nat.le_refl _) hG0.out HB0.out D1 g1 ho)
  obtain ⟨ks, Hks⟩ : ∃ k, Hid (v1.heap.size = k) := ⟨_, rfl⟩
  obtain ⟨us, Hus⟩ : ∃ u, Hid (v1.alloc (.cells #[.int .i64 (N : Nat), .slice As0 l0.length cs0] 24) = u) := ⟨_, rfl⟩
  rw [Hks.out, Hus.out, hG.out] at HLX
  clear hV hl ho D1 g1 HB0 CSt htm hG0
  by_cases hN2 : N < 2
  · have hd : decide ((N : Int) < 2) = true := by rw [decide_eq_true_eq]; omega
    go_wp2_with fail
    rw [Hus.out]
    refine (awake_any _).mono ?_
    rintro e v9 ⟨rfl, hb9⟩
    have HB := Lib.hid (below_up HLX.out.bel hb9)
    clear hb9
    go_wp2
    go_ret
    exact ⟨rfl, HB.out⟩
  · have hd : decide ((N : Int) < 2) = false := by rw [decide_eq_false_iff_not]; omega
    have HNN : Hid (2 ≤ (N : Int) ∧ (N : Int) ≤ 7) := by show _ ∧ _; omega
    clear hN2
    have HY0 : Hid (LY w G ks A c L N As0 cs0 l0 0 us) := ⟨HLX.out.dk, HLX.out.sx, HLX.out.bel, HLX.out.lg, HLX.out.l4, HV0.out, HL.out⟩
    go_wp2
    rw [Hus.out]
    try simp only [Hks.out, hG.out]
    clear HLX HV0 HL
    go_loopw [19] (fun i wr => ∃ (k : Nat) (l : List Ls.Lk) (As : Option Addr) (cs : Nat), k ≤ 5 ∧ i = .int .i64 k ∧ Hid (LY w G ks A c L N As cs l k wr)) (fun i _ => 5 - (RowKit.intOf i).toNat)
    case atStart => exact ⟨0, l0, As0, cs0, Nat.zero_le _, rfl, HY0.out⟩
    case round =>
      obtain ⟨k, l, As, cs, hk, rfl, HY⟩ := hrel
      by_cases hlt : k < 5
      · have hlt2 : (k : Int) < 5 := by omega
        have HV := Lib.hid HY.out.v
        have HLN : Hid (l.length ≤ 10005) := by show _ ≤ _; have := HY.out.len; omega
        obtain ⟨m0, hd0⟩ := HY.out.dk
        have HDK := Lib.hid hd0.blk
        have HKb := Lib.hid HY.out.s.b
        have HKl : Hid (ks < wr.heap.size) := lt_of_some HKb.out
        have HKg : Hid (ks ≠ G) := fun e => by have := HY.out.l4; omega
        have HJ0 : Hid (∀ a : Act, a.tmps.size = 76 → JD wr.heap.size w.heap.size G A c L N l (fun _ => false) a (wr.drewN 1)) := fun a ha => ⟨ha, ⟨m0, hd0.go (below_drewN _ _)⟩, fun h => absurd h (by decide), fun h => absurd h (by decide), by unfold chn; simp, hd0.lt⟩
        have HGl : Hid (G < wr.heap.size) := hd0.lt
        clear hd0
        go_wp2
        refine wp_region_ac 17 76 (Le3 wr.heap.size G) (JD wr.heap.size w.heap.size G A c L N l) [(fun q0 _ => q0 = .agg #[.int .i64 (N : Int), .slice As l.length cs]), (fun q0 _ => q0 = .pointer (some ⟨G, 0, none⟩)), (fun q0 _ => q0 = .pointer (some ⟨ks, 0, none⟩)), (fun q0 _ => q0 = .int .i64 (N : Int)), (fun q0 _ => q0 = .pointer (some ⟨G, 0, none⟩)), (fun q0 _ => ∃ y : Int, 0 ≤ y ∧ y ≤ 4 ∧ q0 = .int .i64 y), (fun q0 _ => ∃ y : Int, 0 ≤ y ∧ y ≤ 1048576 ∧ q0 = .int .i64 y), (fun q0 _ => ∃ z : Ev, Ls.Good N z ∧ q0 = .agg #[.int .i64 z.kind, .int .i64 z.time, .int .i64 z.u, .int .i64 z.v, .int .i64 z.weight, .int .i64 z.label, .int .i64 z.sign]), (fun _ _ => True), (fun _ _ => True), (fun _ _ => True), (fun _ _ => True), (fun _ _ => True), (fun _ _ => True), (fun _ _ => True), (fun _ _ => True), (fun _ _ => True)] (by kernel_rfl) (by kernel_rfl) rfl (fun _ _ _ => le3_trans) (le3_of (only_drewN 1 _) (Nat.le_refl _)) (HJ0.out _ rfl) ?_ ?_ ?_
        · intro R hR
          simp only [List.mem_cons, List.not_mem_nil, or_false] at hR
          rcases hR with rfl | rfl | rfl | rfl | rfl | rfl | rfl | rfl | rfl | rfl | rfl | rfl | rfl | rfl | rfl | rfl | rfl <;> exact fun _ _ _ h _ => h
        · simp only [List.take_succ_cons, List.take_zero]
          refine ⟨?_, ?_, ?_, ?_, ?_, ?_, ?_, ?_, ?_, ?_, ?_, ?_, ?_, ?_, ?_, ?_, ?_, trivial⟩
          · intro a ws f hle hjj hfi hun hdn hag hdep K Q hK
            have d4 : (a.tmps[4]?).getD undef = .pointer (some ⟨ks, 0, none⟩) := eval_get (hag 4 (freeB_spec (by kernel_rfl)))
            rw [if_pos (show Region.wanted _ _ = true from rfl)]
            have yy := Go.Joins.cell_of_block ((hle.block ks HKl.out HKg.out).trans HKb.out)
            have y0 := yy 0; have y1 := yy 1
            simp only [List.getElem?_toArray, List.getElem?_cons_succ, List.getElem?_cons_zero] at y0 y1
            unfold Oper.wp
            simp [go_sem, d4, y0, y1]
            exact hK _ _ (le3_refl _ _ _) (hjj.keep (by decide) (by decide)) rfl
          · intro a ws f hle hjj hfi hun hdn hag hdep K Q hK
            have d3 : (a.tmps[3]?).getD undef = .pointer (some ⟨G, 0, none⟩) := eval_get (hag 3 (freeB_spec (by kernel_rfl)))
            rw [if_pos (show Region.wanted _ _ = true from rfl)]
            unfold Oper.wp
            simp [go_sem, d3]
            exact hK _ _ (le3_refl _ _ _) (hjj.keep (by decide) (by decide)) rfl
          · intro a ws f hle hjj hfi hun hdn hag hdep K Q hK
            have d4 : (a.tmps[4]?).getD undef = .pointer (some ⟨ks, 0, none⟩) := eval_get (hag 4 (freeB_spec (by kernel_rfl)))
            rw [if_pos (show Region.wanted _ _ = true from rfl)]
            unfold Oper.wp
            simp [go_sem, d4]
            exact hK _ _ (le3_refl _ _ _) (hjj.keep (by decide) (by decide)) rfl
          · intro a ws f hle hjj hfi hun hdn hag hdep K Q hK
            have d24 : (a.tmps[24]?).getD undef = .pointer (some ⟨ks, 0, none⟩) := eval_get (dep_of hdep 2 24 rfl (by kernel_rfl) rfl rfl)
            rw [if_pos (show Region.wanted _ _ = true from rfl)]
            have y0 := Go.Joins.cell_of_block ((hle.block ks HKl.out HKg.out).trans HKb.out) 0
            unfold Oper.wp
            simp [go_sem, d24, y0]
            exact hK _ _ (le3_refl _ _ _) (hjj.keep (by decide) (by decide)) rfl
          · intro a ws f hle hjj hfi hun hdn hag hdep K Q hK
            have d3 : (a.tmps[3]?).getD undef = .pointer (some ⟨G, 0, none⟩) := eval_get (hag 3 (freeB_spec (by kernel_rfl)))
            rw [if_pos (show Region.wanted _ _ = true from rfl)]
            unfold Oper.wp
            simp [go_sem, d3]
            exact hK _ _ (le3_refl _ _ _) (hjj.keep (by decide) (by decide)) rfl
          · intro a ws f hle hjj hfi hun hdn hag hdep K Q hK
            have d26 : (a.tmps[26]?).getD undef = .pointer (some ⟨G, 0, none⟩) := eval_get (dep_of hdep 4 26 rfl (by kernel_rfl) rfl rfl)
            rw [if_pos (show Region.wanted _ _ = true from rfl)]
            obtain ⟨mm, hdm⟩ := hjj.dk
            have hcon := next_any w.heap.size G A c L mm 5 ws hdm hL (by decide)
            unfold Oper.wp
            simp [go_sem, d26]
            refine hcon.mono ?_
            rintro e w9 ⟨r, m9, rfl, hr0, hr1, hd9, hg9⟩
            exact hK _ _ (le3_of hg9 hle.size) ((hjj.next ⟨m9, hd9⟩ hg9).keep (by decide) (by decide)) ⟨r, hr0, by omega, rfl⟩
          · intro a ws f hle hjj hfi hun hdn hag hdep K Q hK
            have d27 : (fun q0 _ => ∃ y : Int, 0 ≤ y ∧ y ≤ 4 ∧ q0 = .int .i64 y) (a.eval (.tmp 27)) ws := dep_of hdep 5 27 rfl (by kernel_rfl) rfl rfl
            rw [if_pos (show Region.wanted _ _ = true from rfl)]
            obtain ⟨y, hy0, hy1, e27⟩ := d27
            have e27 := eval_get e27
            have hw : IntKind.i64.wrap (20 + y) = 20 + y := IntWalk.i64_in _ (by omega)
            unfold Oper.wp
            simp [go_sem, e27, hw]
            exact hK _ _ (le3_refl _ _ _) (hjj.keep (by decide) (by decide)) ⟨20 + y, by omega, by omega, rfl⟩
          · intro a ws f hle hjj hfi hun hdn hag hdep K Q hK
            have d23 : (a.tmps[23]?).getD undef = .pointer (some ⟨G, 0, none⟩) := eval_get (dep_of hdep 1 23 rfl (by kernel_rfl) rfl rfl)
            have d25 : (a.tmps[25]?).getD undef = .int .i64 (N : Int) := eval_get (dep_of hdep 3 25 rfl (by kernel_rfl) rfl rfl)
            have d28 : (fun q0 _ => ∃ y : Int, 0 ≤ y ∧ y ≤ 1048576 ∧ q0 = .int .i64 y) (a.eval (.tmp 28)) ws := dep_of hdep 6 28 rfl (by kernel_rfl) rfl rfl
            rw [if_pos (show Region.wanted _ _ = true from rfl)]
            obtain ⟨mm, hdm⟩ := hjj.dk
            obtain ⟨y, hy0, hy1, e28⟩ := d28
            have e28 := eval_get e28
            have hcon := event_any w.heap.size G A c L mm N y ws hdm hL (by have := HNN.out; omega) ⟨hy0, hy1⟩
            unfold Oper.wp
            simp [go_sem, d23, d25, e28]
            refine hcon.mono ?_
            rintro e w9 ⟨z, m9, rfl, hgo, hd9, hg9⟩
            exact hK _ _ (le3_of hg9 hle.size) ((hjj.next ⟨m9, hd9⟩ hg9).keep (by decide) (by decide)) ⟨z, ⟨hgo.1, hgo.2.1, hgo.2.2.1⟩, rfl⟩
          · intro a ws f hle hjj hfi hun hdn hag hdep K Q hK
            have d22 : (a.tmps[22]?).getD undef = .agg #[.int .i64 (N : Int), .slice As l.length cs] := eval_get (dep_of hdep 0 22 rfl (by kernel_rfl) rfl rfl)
            have d29 : (fun q0 _ => ∃ z : Ev, Ls.Good N z ∧ q0 = .agg #[.int .i64 z.kind, .int .i64 z.time, .int .i64 z.u, .int .i64 z.v, .int .i64 z.weight, .int .i64 z.label, .int .i64 z.sign]) (a.eval (.tmp 29)) ws := dep_of hdep 7 29 rfl (by kernel_rfl) rfl rfl
            rw [if_pos (show Region.wanted _ _ = true from rfl)]
            obtain ⟨z, hgo, e29⟩ := d29
            have e29 := eval_get e29
            have hcon := lapply_any N As cs l z.kind z.time z.u z.v z.weight z.label z.sign ws (HY.out.s.rl.keepG encL (n := 6) (by decide) HDK.out (le3_grown hle)).2 (by have := HLN.out; omega)
            unfold Oper.wp
            simp [go_sem, d22, e29]
            refine hcon.mono ?_
            rintro e w9 ⟨n9, l9, ev9, A9, A1, c9, c1, rfl, hif, hrl, hrv, hb⟩
            have h0 : Ls.apE N l z = 0 := ap_good HV.out hgo
            have hif' : n9 = N ∧ l9 = Ls.nextL l z ∧ ev9 = Ls.chg l z := by
              have := hif
              rw [if_pos h0] at this
              exact this
            obtain ⟨rfl, rfl, rfl⟩ := hif'
            obtain ⟨mm, hdm⟩ := hjj.dk
            have hgb := grown_below (grown_refl ws G) hb (Nat.le_refl _)
            have hx := hjj.done (A' := A9) (c' := c9) (A1 := A1) (c1 := c1) hgo ⟨mm, hdm.go hb⟩ hgb hrl hrv (hun 9 _ rfl (by kernel_rfl))
            rw [← h0] at hx
            exact hK _ _ (le3_of hgb hle.size) hx trivial
          · intro a ws f hle hjj hfi hun hdn hag hdep K Q hK
            have d30 : (fun _ _ => True) (a.eval (.tmp 30)) ws := dep_of hdep 8 30 rfl (by kernel_rfl) rfl rfl
            rw [if_pos (show Region.wanted _ _ = true from rfl)]
            have h8 : f 8 = true := hdn 8 _ rfl (by kernel_rfl)
            obtain ⟨z0, A0, c0, A10, c10, -, -, -, k4, -⟩ := hjj.new h8
            have hv := eval_get (k4 (8, 30, .tuple #[.agg #[.int .i64 (N : Nat), .slice A0 (Ls.nextL l z0).length c0], .slice A10 (Ls.chg l z0).length c10, .int .i64 0]) (by simp [pts]) (hdn 8 _ rfl (by kernel_rfl)))
            unfold Oper.wp
            simp [go_sem, hv]
            refine hK _ _ (le3_refl _ _ _) (hjj.add (p := 8) h8 (hdn 8 _ rfl (by kernel_rfl)) (by decide) (by decide) (by decide) (by decide) ?_) trivial
            intro z A' c' A1 c1 hp4 p hp
            have hv2 := eval_get (hp4 (8, 30, .tuple #[.agg #[.int .i64 (N : Nat), .slice A' (Ls.nextL l z).length c'], .slice A1 (Ls.chg l z).length c1, .int .i64 0]) (by simp [pts]) (hdn 8 _ rfl (by kernel_rfl)))
            rw [hv] at hv2
            simp only [pts, List.mem_cons, List.not_mem_nil, or_false] at hp
            rcases hp with rfl | rfl | rfl | rfl | rfl | rfl | rfl <;> (dsimp only; refine ⟨fun e => ?_, fun e => ?_⟩ <;> first | (exfalso; omega) | rfl | simp_all)
          · intro a ws f hle hjj hfi hun hdn hag hdep K Q hK
            have d21 : (fun _ _ => True) (a.eval (.tmp 21)) ws := dep_of hdep 9 21 rfl (by kernel_rfl) rfl rfl
            rw [if_pos (show Region.wanted _ _ = true from rfl)]
            have h8 : f 8 = true := hjj.ch.1 (hdn 9 _ rfl (by kernel_rfl))
            obtain ⟨z0, A0, c0, A10, c10, -, -, -, k4, -⟩ := hjj.new h8
            have hv := eval_get (k4 (9, 21, .tuple #[.agg #[.int .i64 (N : Nat), .slice A0 (Ls.nextL l z0).length c0], .slice A10 (Ls.chg l z0).length c10, .int .i64 0]) (by simp [pts]) (hdn 9 _ rfl (by kernel_rfl)))
            unfold Oper.wp
            simp [go_sem, hv]
            refine hK _ _ (le3_refl _ _ _) (hjj.add (p := 9) h8 (hdn 9 _ rfl (by kernel_rfl)) (by decide) (by decide) (by decide) (by decide) ?_) trivial
            intro z A' c' A1 c1 hp4 p hp
            have hv2 := eval_get (hp4 (9, 21, .tuple #[.agg #[.int .i64 (N : Nat), .slice A' (Ls.nextL l z).length c'], .slice A1 (Ls.chg l z).length c1, .int .i64 0]) (by simp [pts]) (hdn 9 _ rfl (by kernel_rfl)))
            rw [hv] at hv2
            simp only [pts, List.mem_cons, List.not_mem_nil, or_false] at hp
            rcases hp with rfl | rfl | rfl | rfl | rfl | rfl | rfl <;> (dsimp only; refine ⟨fun e => ?_, fun e => ?_⟩ <;> first | (exfalso; omega) | rfl | simp_all)
          · intro a ws f hle hjj hfi hun hdn hag hdep K Q hK
            have d21 : (fun _ _ => True) (a.eval (.tmp 21)) ws := dep_of hdep 9 21 rfl (by kernel_rfl) rfl rfl
            rw [if_pos (show Region.wanted _ _ = true from rfl)]
            have h8 : f 8 = true := hjj.ch.1 (hdn 9 _ rfl (by kernel_rfl))
            obtain ⟨z0, A0, c0, A10, c10, -, -, -, k4, -⟩ := hjj.new h8
            have hv := eval_get (k4 (9, 21, .tuple #[.agg #[.int .i64 (N : Nat), .slice A0 (Ls.nextL l z0).length c0], .slice A10 (Ls.chg l z0).length c10, .int .i64 0]) (by simp [pts]) (hdn 9 _ rfl (by kernel_rfl)))
            unfold Oper.wp
            simp [go_sem, hv]
            refine hK _ _ (le3_refl _ _ _) (hjj.add (p := 9) h8 (hdn 9 _ rfl (by kernel_rfl)) (by decide) (by decide) (by decide) (by decide) ?_) trivial
            intro z A' c' A1 c1 hp4 p hp
            have hv2 := eval_get (hp4 (9, 21, .tuple #[.agg #[.int .i64 (N : Nat), .slice A' (Ls.nextL l z).length c'], .slice A1 (Ls.chg l z).length c1, .int .i64 0]) (by simp [pts]) (hdn 9 _ rfl (by kernel_rfl)))
            rw [hv] at hv2
            simp only [pts, List.mem_cons, List.not_mem_nil, or_false] at hp
            rcases hp with rfl | rfl | rfl | rfl | rfl | rfl | rfl <;> (dsimp only; refine ⟨fun e => ?_, fun e => ?_⟩ <;> first | (exfalso; omega) | rfl | simp_all)
          · intro a ws f hle hjj hfi hun hdn hag hdep K Q hK
            have d21 : (fun _ _ => True) (a.eval (.tmp 21)) ws := dep_of hdep 9 21 rfl (by kernel_rfl) rfl rfl
            rw [if_pos (show Region.wanted _ _ = true from rfl)]
            have h8 : f 8 = true := hjj.ch.1 (hdn 9 _ rfl (by kernel_rfl))
            obtain ⟨z0, A0, c0, A10, c10, -, -, -, k4, -⟩ := hjj.new h8
            have hv := eval_get (k4 (9, 21, .tuple #[.agg #[.int .i64 (N : Nat), .slice A0 (Ls.nextL l z0).length c0], .slice A10 (Ls.chg l z0).length c10, .int .i64 0]) (by simp [pts]) (hdn 9 _ rfl (by kernel_rfl)))
            unfold Oper.wp
            simp [go_sem, hv]
            refine hK _ _ (le3_refl _ _ _) (hjj.add (p := 9) h8 (hdn 9 _ rfl (by kernel_rfl)) (by decide) (by decide) (by decide) (by decide) ?_) trivial
            intro z A' c' A1 c1 hp4 p hp
            have hv2 := eval_get (hp4 (9, 21, .tuple #[.agg #[.int .i64 (N : Nat), .slice A' (Ls.nextL l z).length c'], .slice A1 (Ls.chg l z).length c1, .int .i64 0]) (by simp [pts]) (hdn 9 _ rfl (by kernel_rfl)))
            rw [hv] at hv2
            simp only [pts, List.mem_cons, List.not_mem_nil, or_false] at hp
            rcases hp with rfl | rfl | rfl | rfl | rfl | rfl | rfl <;> (dsimp only; refine ⟨fun e => ?_, fun e => ?_⟩ <;> first | (exfalso; omega) | rfl | simp_all)
          · intro a ws f hle hjj hfi hun hdn hag hdep K Q hK
            rw [if_pos (show Region.wanted _ _ = true from rfl)]
            have hsz := hle.size
            unfold Oper.wp
            simp [go_sem]
            exact hK _ _ (le3_of (grown_below (grown_refl ws G) (below_new _ _) (Nat.le_refl _)) hsz) (hjj.alloc hsz (hun 14 _ rfl (by kernel_rfl))) trivial
          · intro a ws f hle hjj hfi hun hdn hag hdep K Q hK
            have d5 : (fun _ _ => True) (a.eval (.tmp 5)) ws := dep_of hdep 13 5 rfl (by kernel_rfl) rfl rfl
            have d31 : (fun _ _ => True) (a.eval (.tmp 31)) ws := dep_of hdep 10 31 rfl (by kernel_rfl) rfl rfl
            rw [if_pos (show Region.wanted _ _ = true from rfl)]
            have hsz := hle.size
            have h10 := hdn 10 _ rfl (by kernel_rfl)
            have h8 : f 8 = true := hjj.ch.1 (hjj.ch.2.1 h10)
            obtain ⟨z0, A0, c0, A10, c10, k1, k2, k3, k4, -⟩ := hjj.new h8
            have hv := eval_get (k4 (10, 31, .agg #[.int .i64 (N : Nat), .slice A0 (Ls.nextL l z0).length c0]) (by simp [pts]) h10)
            obtain ⟨b, x, y, e5, hb, hbb⟩ := hjj.b5 (hdn 13 _ rfl (by kernel_rfl))
            have e5' := eval_get e5
            have yy := Go.Joins.cell_of_block hbb
            have zz := Go.Joins.unfrozen_of_block hbb
            have y0 := yy 0; have y1 := yy 1
            have z0' := zz 0; have z1' := zz 1
            simp only [List.getElem?_toArray, List.getElem?_cons_succ, List.getElem?_cons_zero] at y0 y1
            unfold Oper.wp
            simp [go_sem, hv, e5', y0, y1, z0', z1']
            exact hK undef _ (le3_at (grown_trans set_grown set_grown) hsz hb) (hjj.store (v := undef) h10 hb e5 hbb k1 k2 k3 k4) trivial
          · intro a ws f hle hjj hfi hun hdn hag hdep K Q hK
            have d32 : (fun _ _ => True) (a.eval (.tmp 32)) ws := dep_of hdep 11 32 rfl (by kernel_rfl) rfl rfl
            rw [if_pos (show Region.wanted _ _ = true from rfl)]
            have h8 : f 8 = true := hjj.ch.1 (hjj.ch.2.2.1 (hdn 11 _ rfl (by kernel_rfl)))
            obtain ⟨z0, A0, c0, A10, c10, -, -, -, k4, -⟩ := hjj.new h8
            have hv := eval_get (k4 (11, 32, .slice A10 (Ls.chg l z0).length c10) (by simp [pts]) (hdn 11 _ rfl (by kernel_rfl)))
            unfold Oper.wp
            simp [go_sem, hv]
            refine hK _ _ (le3_refl _ _ _) (hjj.add (p := 11) h8 (hdn 11 _ rfl (by kernel_rfl)) (by decide) (by decide) (by decide) (by decide) ?_) trivial
            intro z A' c' A1 c1 hp4 p hp
            have hv2 := eval_get (hp4 (11, 32, .slice A1 (Ls.chg l z).length c1) (by simp [pts]) (hdn 11 _ rfl (by kernel_rfl)))
            rw [hv] at hv2
            simp only [pts, List.mem_cons, List.not_mem_nil, or_false] at hp
            rcases hp with rfl | rfl | rfl | rfl | rfl | rfl | rfl <;> (dsimp only; refine ⟨fun e => ?_, fun e => ?_⟩ <;> first | (exfalso; omega) | rfl | simp_all)
          · intro a ws f hle hjj hfi hun hdn hag hdep K Q hK
            have d33 : (fun _ _ => True) (a.eval (.tmp 33)) ws := dep_of hdep 12 33 rfl (by kernel_rfl) rfl rfl
            rw [if_pos (show Region.wanted _ _ = true from rfl)]
            have h8 : f 8 = true := hjj.ch.1 (hjj.ch.2.2.2.1 (hdn 12 _ rfl (by kernel_rfl)))
            obtain ⟨z0, A0, c0, A10, c10, -, -, -, k4, -⟩ := hjj.new h8
            have hv := eval_get (k4 (12, 33, .int .i64 0) (by simp [pts]) (hdn 12 _ rfl (by kernel_rfl)))
            unfold Oper.wp
            simp [go_sem, hv]
            refine hK _ _ (le3_refl _ _ _) (hjj.add (p := 12) h8 (hdn 12 _ rfl (by kernel_rfl)) (by decide) (by decide) (by decide) (by decide) ?_) trivial
            intro z A' c' A1 c1 hp4 p hp
            have hv2 := eval_get (hp4 (12, 33, .int .i64 0) (by simp [pts]) (hdn 12 _ rfl (by kernel_rfl)))
            rw [hv] at hv2
            simp only [pts, List.mem_cons, List.not_mem_nil, or_false] at hp
            rcases hp with rfl | rfl | rfl | rfl | rfl | rfl | rfl <;> (dsimp only; refine ⟨fun e => ?_, fun e => ?_⟩ <;> first | (exfalso; omega) | rfl | simp_all)
        · intro a ws f hle hjj hft hff hsz hdf hag hend
          have f11 : a.eval (.tmp 11) = .slice A L.length c := hag 11 (freeB_spec (by kernel_rfl))
          have f12 : a.eval (.tmp 12) = .pointer (some ⟨G, 0, none⟩) := hag 12 (freeB_spec (by kernel_rfl))
          have f13 : a.eval (.tmp 13) = .pointer (some ⟨G, 0, none⟩) := hag 13 (freeB_spec (by kernel_rfl))
          have f14 : a.eval (.tmp 14) = .agg #[.int .i64 (N : Int), .slice As0 l0.length cs0] := hag 14 (freeB_spec (by kernel_rfl))
          have f15 : a.eval (.tmp 15) = .pointer (some ⟨ks, 0, none⟩) := hag 15 (freeB_spec (by kernel_rfl))
          have f16 : a.eval (.tmp 16) = .int .i64 (N : Int) := hag 16 (freeB_spec (by kernel_rfl))
          have f17 : a.eval (.tmp 17) = .bool false := hag 17 (freeB_spec (by kernel_rfl))
          have f18 : a.eval (.tmp 18) = undef := hag 18 (freeB_spec (by kernel_rfl))
          have f19 : a.eval (.tmp 19) = .int .i64 k := hag 19 (freeB_spec (by kernel_rfl))
          have f22 : a.eval (.tmp 22) = .agg #[.int .i64 (N : Int), .slice As l.length cs] := end_of hend 0 22 (by decide) rfl rfl rfl
          have f23 : a.eval (.tmp 23) = .pointer (some ⟨G, 0, none⟩) := end_of hend 1 23 (by decide) rfl rfl rfl
          have f24 : a.eval (.tmp 24) = .pointer (some ⟨ks, 0, none⟩) := end_of hend 2 24 (by decide) rfl rfl rfl
          have f25 : a.eval (.tmp 25) = .int .i64 (N : Int) := end_of hend 3 25 (by decide) rfl rfl rfl
          have f26 : a.eval (.tmp 26) = .pointer (some ⟨G, 0, none⟩) := end_of hend 4 26 (by decide) rfl rfl rfl
          have ea := act_range 5 29 hsz hdf hag [5, 6, 7, 8, 9, 10, 11, 12, 13, 14, 15, 16, 17, 18, 19, 20, 21, 22, 23, 24, 25, 26, 27, 28, 29, 30, 31, 32, 33] (by decide) (by kernel_rfl) (of_decide_eq_true (by kernel_rfl))
          obtain ⟨z, A', c', A1, c1, hgo, hrl, hrv, hpp, h14⟩ := hjj.new (hft 8 (by decide))
          have e31 := hpp (10, 31, .agg #[.int .i64 (N : Nat), .slice A' (Ls.nextL l z).length c']) (by simp [pts]) (hft 10 (by decide))
          have e32 := hpp (11, 32, .slice A1 (Ls.chg l z).length c1) (by simp [pts]) (hft 11 (by decide))
          have e33 := hpp (12, 33, .int .i64 0) (by simp [pts]) (hft 12 (by decide))
          have e6 := hpp (15, 6, .slice A1 (Ls.chg l z).length c1) (by simp [pts]) (hft 15 (by decide))
          have e7 := hpp (16, 7, .int .i64 0) (by simp [pts]) (hft 16 (by decide))
          obtain ⟨b5, f5, hb5z⟩ := h14 (hft 14 (by decide))
          obtain ⟨b6, x6, y6, f56, hb5, -⟩ := hjj.b5 (hft 13 (by decide))
          rw [f5] at f56
          injection f56 with f56; injection f56 with f56; injection f56 with f56; subst f56
          clear hag hend hsz hdf
          simp only [List.map_cons, List.map_nil, f11, f12, f13, f14, f15, f16, f17, f18, f19, f22, f23, f24, f25, f26, f5, e6, e7, e31, e32, e33] at ea
          clear f11 f12 f13 f14 f15 f16 f17 f18 f19 f22 f23 f24 f25 f26 f5 e6 e7 e31 e32 e33 hpp
          generalize a.eval (.tmp 8) = x8 at ea
          generalize a.eval (.tmp 9) = x9 at ea
          generalize a.eval (.tmp 10) = x10 at ea
          generalize a.eval (.tmp 20) = x20 at ea
          generalize a.eval (.tmp 21) = x21 at ea
          generalize a.eval (.tmp 27) = x27 at ea
          generalize a.eval (.tmp 28) = x28 at ea
          generalize a.eval (.tmp 29) = x29 at ea
          generalize a.eval (.tmp 30) = x30 at ea
          simp only [List.take_succ_cons, List.take_zero, List.drop_succ_cons, List.drop_zero, List.cons_append, List.nil_append] at ea
          subst ea
          have HMt := Lib.hid (changes_math HV.out hgo)
          obtain ⟨q, HQ⟩ : ∃ q, Hid (Ls.nextL l z = q) := ⟨_, rfl⟩
          obtain ⟨ch, HC⟩ : ∃ ch, Hid (Ls.chg l z = ch) := ⟨_, rfl⟩
          rw [HQ.out] at hrl hb5z ⊢
          rw [HC.out] at hrv ⊢
          rw [HQ.out, HC.out] at HMt
          obtain ⟨m4, hd4⟩ := hjj.dk
          replace HY := Lib.hid (HY.out.next hd4 (le3_grown hle))
          have SA : Hid (SX b5 N A' c' q ws) := ⟨hb5z, hrl⟩
          have HKB : Hid (ks < b5) := Nat.lt_of_lt_of_le HKl.out hb5
          have HRV := Lib.hid hrv
          have HQV := Lib.hid HMt.out.2.2.1
          have HQL : Hid (q.length ≤ l.length + 1) := HMt.out.2.2.2.1
          have HCL : Hid (ch.length ≤ l.length + 1) := HMt.out.2.2.2.2
          have HA : Hid (Ls.allR N l ch = (q, (ch.length : Int), 0)) := HMt.out.1
          have HNil : Hid (ch = [] ↔ q = l) := HMt.out.2.1
          clear hjj hft hff hle hrl hrv hgo hd4 HJ0 HDK HKb HKl HKg HMt HQ HC HV hb5 hb5z h14
          have s0 := HY.out.s.c0; have s1 := HY.out.s.c1; have sl := HY.out.s.lt
          go_wp2_with fail
          clear s0 s1 sl
          refine (lall_any N As A1 cs c1 l ch _ HY.out.s.rl HRV.out (by have := HCL.out; have := HLN.out; omega)).mono ?_
          rintro e vb ⟨nb, lb, Ab, cb, rfl, hlb, hnb, hrl, hb⟩
          rw [HA.out] at hlb hnb ⊢
          rw [if_pos rfl] at hnb
          have hlb2 : q = lb := hlb.symm
          subst hlb2; subst hnb
          replace HY := Lib.hid (HY.out.go hb)
          replace SA := Lib.hid (SA.out.go hb)
          have HRb := Lib.hid hrl
          clear hb hrl HRV
          obtain ⟨kb, hkb⟩ : ∃ k, Hid (vb.heap.size = k) := ⟨_, rfl⟩
          obtain ⟨ub, hub⟩ : ∃ k, Hid (vb.alloc (.cells #[.int .i64 (N : Nat), .slice Ab q.length cb] 24) = k) := ⟨_, rfl⟩
          have BU : Hid (Below vb.heap.size vb ub) := by show Below _ _ _; rw [← hub.out]; exact below_new _ _
          have SB : Hid (SX kb N Ab cb q ub) := by show SX _ _ _ _ _ _; rw [← hkb.out, ← hub.out]; exact SX.new HRb.out _
          have a0 := SA.out.c0; have a1 := SA.out.c1; have al := SA.out.lt
          replace HY := Lib.hid (HY.out.go BU.out)
          replace SA := Lib.hid (SA.out.go BU.out)
          clear BU
          obtain ⟨m, HM⟩ : ∃ m, Hid (ch.length = m) := ⟨_, rfl⟩
          rw [HM.out]
          have HM100 : Hid (m ≤ 20000) := by show _ ≤ _; have := HCL.out; have := HLN.out; have := HM.out; omega
          go_wp2_with fail
          rw [hub.out]
          try simp only [hkb.out]
          clear a0 a1 al
          have CSm := sameS_any N N A' Ab c' cb q q ub SA.out.rl SB.out.rl (by have := HQL.out; have := HLN.out; omega)
          rw [show sameS N N q q = true by simp [sameS]] at CSm
          refine CSm.mono ?_
          rintro e v8 ⟨rfl, hb8⟩
          replace HY := Lib.hid (HY.out.go hb8)
          replace SA := Lib.hid (SA.out.go hb8)
          clear hb8 SB
          obtain ⟨bq, hs⟩ : ∃ b, Hid (sameS N N l q = b) := ⟨_, rfl⟩
          have CS2 := sameS_any N N As A' cs c' l q v8 HY.out.s.rl SA.out.rl (by have := HLN.out; omega)
          rw [hs.out] at CS2
          have s0 := HY.out.s.c0; have s1 := HY.out.s.c1; have sl := HY.out.s.lt
          have a0 := SA.out.c0; have a1 := SA.out.c1; have al := SA.out.lt
          go_wp2_with fail
          refine CS2.mono ?_
          rintro e v9 ⟨rfl, hb9⟩
          replace HY := Lib.hid (HY.out.go hb9)
          replace SA := Lib.hid (SA.out.go hb9)
          clear hb9 s0 s1 sl a0 a1 al
          have hbq : bq = ((m : Int) == 0) := by
            rw [← hs.out]
            by_cases hm : m = 0
            · have hq : q = l := HNil.out.1 (List.eq_nil_of_length_eq_zero (by rw [HM.out, hm]))
              simp [sameS, hq, hm]
            · have hq : ¬ l = q := fun e => hm (by have := HNil.out.2 e.symm; have h2 := HM.out; rw [this] at h2; exact h2.symm)
              simp [sameS, hq, hm]
          rw [← hbq]
          have hbb : (bq != bq) = false := by simp
          clear hbq
          have a0 := SA.out.c0; have a1 := SA.out.c1; have al := SA.out.lt
          go_wp2_with fail
          refine (lcheck_any N A' c' q _ SA.out.rl (by have := HQL.out; have := HLN.out; omega)).mono ?_
          rintro e v10 ⟨rfl, hb10⟩
          rw [chk0 HQV.out]
          replace HY := Lib.hid (HY.out.go hb10)
          replace SA := Lib.hid (SA.out.go hb10)
          clear hb10 a0 a1 al
          have s0 := HY.out.s.c0; have s1 := HY.out.s.c1; have sl := HY.out.s.lt
          have z0 := Go.Joins.unfrozen_of_block HY.out.s.b 0
          have z1 := Go.Joins.unfrozen_of_block HY.out.s.b 1
          have a0 := SA.out.c0; have a1 := SA.out.c1; have al := SA.out.lt
          go_wp2
          go_roundw
          case rel => exact ⟨k + 1, q, A', c', hlt, by go_num, HY.out.put SA.out HQV.out HQL.out⟩
          case measure => simp [RowKit.intOf]; omega

      · obtain rfl : k = 5 := by omega
        go_wp2_with fail
        refine (awake_any _).mono ?_
        rintro e v9 ⟨rfl, hb9⟩
        have HBE := Lib.hid (below_up HY.out.bel hb9)
        clear hb9
        go_wp2
        go_ret
        exact ⟨rfl, HBE.out⟩
end Go.Proofs.Ytagkpkkbkeefbaa
