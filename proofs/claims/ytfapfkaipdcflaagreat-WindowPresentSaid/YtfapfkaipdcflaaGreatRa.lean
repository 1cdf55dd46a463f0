
/-
  Words for memory: lists whose elements take several cells (events: seven numbers), and their appends; a deck of numbers; copies of elements; stores of structs.
-/
import Derived.Test.YtfapfkaipdcflaaGreatNb
import Derived.Test.YtfapfkaipdcflaaGreatQt
import Derived.Test.YtfapfkaipdcflaaGreatLs
import Derived.WalkKit
import Derived.LoopTactic
import Derived.Deep.QuietTactic
import Derived.BigQuiet
import Derived.Lib.Hide
import Derived.Lib.OwnBridge
import Derived.Laws.CopyRow
import Derived.IntWalk
import Derived.Deep.CutBlock
import Derived.OpenShut
namespace Go.Proofs.YtfapfkaipdcflaaGreat
open Go.RowKit Go.Lib

/-- one event -/
structure Ev where
  kind : Int
  time : Int
  u : Int
  v : Int
  weight : Int
  label : Int
  sign : Int
  deriving DecidableEq
def Ev.cells (e : Ev) : List Value := [.int .i64 e.kind, .int .i64 e.time, .int .i64 e.u, .int .i64 e.v, .int .i64 e.weight, .int .i64 e.label, .int .i64 e.sign]
section
variable {α : Type} {n : Nat} {f : α → List Value}
/-- how an element lies in memory: n cells -/
structure Enc (n : Nat) (f : α → List Value) : Prop where
  len : ∀ a, (f a).length = n
  one : ∀ a, ∀ u ∈ f a, u.oneCell' = true
def cl (f : α → List Value) (l : List α) : List Value := l.flatMap f
theorem cl_nil : cl f [] = [] := rfl
theorem cl_cons (a : α) (l : List α) : cl f (a :: l) = f a ++ cl f l := rfl
theorem cl_append (a b : List α) : cl f (a ++ b) = cl f a ++ cl f b := by simp [cl]
theorem cl_len (E : Enc n f) (l : List α) : (cl f l).length = l.length * n := by
  induction l with
  | nil => simp [cl]
  | cons a l ih => rw [cl_cons, List.length_append, ih, E.len, List.length_cons, Nat.add_mul]; omega
theorem cl_one (E : Enc n f) (l : List α) : ∀ u ∈ cl f l, u.oneCell' = true := by
  intro u hu
  obtain ⟨x, _, hx⟩ := List.mem_flatMap.1 hu
  exact E.one x u hx
theorem cl_at (E : Enc n f) (l : List α) (k : Nat) (a : α) (h : l[k]? = some a) (j : Nat) (hj : j < n) : (cl f l)[k * n + j]? = (f a)[j]? := by
  induction l generalizing k with
  | nil => simp at h
  | cons x l ih =>
    rw [cl_cons]
    cases k with
    | zero =>
      simp at h; subst h
      rw [List.getElem?_append_left (by rw [E.len]; omega)]
      simp
    | succ k =>
      have := ih k (by simpa using h)
      rw [List.getElem?_append_right (by rw [E.len, Nat.add_mul]; omega), ← this, E.len]
      congr 1
      rw [Nat.add_mul]; omega
theorem cl_drop (E : Enc n f) (l : List α) (k : Nat) : (cl f l).drop (k * n) = cl f (l.drop k) := by
  induction l generalizing k with
  | nil => simp [cl]
  | cons x l ih =>
    cases k with
    | zero => simp
    | succ k =>
      rw [cl_cons, List.drop_succ_cons, ← ih k, Nat.add_mul, Nat.one_mul, Nat.add_comm (k * n) n, ← List.drop_drop]
      have h1 : (f x ++ cl f l).drop n = cl f l := by
        have := List.drop_left (l₁ := f x) (l₂ := cl f l)
        rwa [E.len] at this
      rw [h1]
theorem cl_take (E : Enc n f) (l : List α) (k : Nat) : (cl f l).take (k * n) = cl f (l.take k) := by
  induction l generalizing k with
  | nil => simp [cl]
  | cons x l ih =>
    cases k with
    | zero => simp [cl]
    | succ k =>
      rw [List.take_succ_cons, cl_cons, cl_cons, ← ih k, Nat.add_mul, Nat.one_mul, Nat.add_comm (k * n) n]
      have h1 := E.len x
      rw [List.take_append, h1, List.take_of_length_le (by omega), show n + k * n - n = k * n by omega]

/-- a slice value reads as a list, in memory below block B -/
def RX (n : Nat) (f : α → List Value) (B : Nat) (w : World) (A : Option Addr) (c : Nat) (l : List α) : Prop := l.length ≤ c ∧ Reads w B n A l.length (cl f l)
variable {B : Nat} {w w' : World} {A : Option Addr} {c : Nat} {l : List α}
theorem RX.go (h : RX n f B w A c l) (hb : Below B w w') : RX n f B w' A c l := ⟨h.1, h.2.below hb⟩
theorem RX.more {B' : Nat} (h : RX n f B w A c l) (hB : B ≤ B') : RX n f B' w A c l := ⟨h.1, h.2.more hB⟩
theorem RX.up (h : RX n f w.heap.size w A c l) (hb : Below w.heap.size w w') : RX n f w'.heap.size w' A c l := (h.go hb).more hb.size
theorem RX.nil_ (B : Nat) (w : World) (A : Option Addr) (c : Nat) : RX n f B w A c [] := ⟨Nat.zero_le _, by simp [cl], fun h => absurd h (by simp)⟩
theorem RX.let_ (E : Enc n f) (hn : 0 < n) (h : RX n f B w A c l) {k : Nat} (hk : k < l.length) : ∃ (b off : Nat) (a : α), A = some ⟨b, off, none⟩ ∧ b < B ∧ l[k]? = some a ∧ ∀ j u, (f a)[j]? = some u → w.cell? ⟨b, off + (k * n + j), none⟩ = some u := by
  obtain ⟨ad, e, hb, hc⟩ := h.2.2 (by omega)
  have he : l[k]? = some l[k] := List.getElem?_eq_getElem hk
  have h0 : ∃ u, (cl f l)[0]? = some u := ⟨_, List.getElem?_eq_getElem (by rw [cl_len E]; have := Nat.mul_le_mul (show 1 ≤ l.length by omega) (show 1 ≤ n by omega); omega)⟩
  obtain ⟨b, off, spot⟩ := ad
  have hspot : spot = none := by
    obtain ⟨u, hu⟩ := h0
    simpa [Addr.add] using World.cell?_spot (hc 0 u hu)
  subst hspot
  refine ⟨b, off, l[k], e, hb, he, fun j u hu => ?_⟩
  have hj : j < n := by
    have := (List.getElem?_eq_some_iff.1 hu).1
    rwa [E.len] at this
  have := hc (k * n + j) u ((cl_at E l k _ he j hj).trans hu)
  rwa [Go.WideShapes.add_plain] at this
theorem RX.front (E : Enc n f) (h : RX n f B w A c l) {k : Nat} (hk : k ≤ l.length) : RX n f B w A c (l.take k) := by
  refine ⟨by have := h.1; simp; omega, by rw [cl_len E], fun h0 => ?_⟩
  obtain ⟨ad, e, hb, hc⟩ := h.2.2 (by simp at h0; omega)
  refine ⟨ad, e, hb, fun j u hu => hc j u ?_⟩
  rw [← cl_take E, List.getElem?_take] at hu
  split at hu
  · exact hu
  · simp at hu
theorem RX.cut (E : Enc n f) (h : RX n f B w A c l) {k : Nat} (hk : k ≤ l.length) : RX n f B w (if c = k then A else A.map (·.add (k * n))) (c - k) (l.drop k) := by
  refine ⟨by have := h.1; simp; omega, ?_⟩
  have := h.2.cut (k := k) (cap := c) hk h.1
  rw [cl_drop E] at this
  rw [List.length_drop]
  exact this
theorem RX.of_own {base : Nat} {e : TypeId} (h : w.ownsRow base e n (.slice A l.length c) l.length (cl f l)) : RX n f w.heap.size w A c l := by
  refine ⟨?_, Reads.of_own h⟩
  rcases h.2 with ⟨e0, _⟩ | ⟨g, cap, cur, e0, _, _, hn, _⟩
  · injection e0 with _ e1 e2; omega
  · injection e0 with _ _ e2; omega
theorem own_formX {base : Nat} {e : TypeId} {v : Value} (h : w.ownsRow base e n v l.length (cl f l)) : ∃ A c, v = .slice A l.length c := by
  rcases h.2 with ⟨e0, e1⟩ | ⟨g, cap, cur, e0, _⟩
  · exact ⟨none, 0, by rw [e0, e1]⟩
  · exact ⟨_, _, e0⟩
/-- a new block of cells reads as the list that it holds -/
theorem RX_new (E : Enc n f) (w : World) (l : List α) (e : TypeId) : RX n f (w.alloc (.cells (cl f l).toArray e)).heap.size (w.alloc (.cells (cl f l).toArray e)) (some ⟨w.heap.size, 0, none⟩) l.length l := by
  refine ⟨Nat.le_refl _, cl_len E l, fun _ => ⟨_, rfl, by simp, fun j x hx => ?_⟩⟩
  have := (Go.Joins.cell_of_block (w := w.alloc (.cells (cl f l).toArray e)) (heap_alloc_new w _) j)
  rw [show ((⟨w.heap.size, 0, none⟩ : Addr).add j) = ⟨w.heap.size, j, none⟩ by unfold Addr.add; split <;> simp_all]
  rw [this]; simpa using hx
end

theorem encE : Enc 7 Ev.cells := ⟨fun _ => rfl, fun a u hu => by simp [Ev.cells] at hu; rcases hu with rfl | rfl | rfl | rfl | rfl | rfl | rfl <;> rfl⟩
def Ls.Lk.cells (e : Ls.Lk) : List Value := [.int .i64 e.u, .int .i64 e.v, .int .i64 e.weight, .int .i64 e.label, .int .i64 e.sign, .int .i64 e.time]
theorem encL : Enc 6 Ls.Lk.cells := ⟨fun _ => rfl, fun a u hu => by simp [Ls.Lk.cells] at hu; rcases hu with rfl | rfl | rfl | rfl | rfl | rfl <;> rfl⟩
abbrev RV := RX 7 Ev.cells
abbrev RL := RX 6 Ls.Lk.cells
theorem RV.at_ {B : Nat} {w : World} {A : Option Addr} {c : Nat} {l : List Ev} (h : RV B w A c l) {k : Nat} (hk : k < l.length) : ∃ (b off : Nat) (a : Ev), A = some ⟨b, off, none⟩ ∧ b < B ∧ l[k]? = some a ∧
    w.cell? ⟨b, off + k * 7, none⟩ = some (.int .i64 a.kind) ∧ w.cell? ⟨b, off + k * 7 + 1, none⟩ = some (.int .i64 a.time) ∧ w.cell? ⟨b, off + k * 7 + 2, none⟩ = some (.int .i64 a.u) ∧ w.cell? ⟨b, off + k * 7 + 3, none⟩ = some (.int .i64 a.v) ∧
    w.cell? ⟨b, off + k * 7 + 4, none⟩ = some (.int .i64 a.weight) ∧ w.cell? ⟨b, off + k * 7 + 5, none⟩ = some (.int .i64 a.label) ∧ w.cell? ⟨b, off + k * 7 + 6, none⟩ = some (.int .i64 a.sign) := by
  obtain ⟨b, off, a, e, hb, ha, hc⟩ := RX.let_ encE (by decide) h hk
  have hj := fun j u hu => Nat.add_assoc off (k * 7) j ▸ hc j u hu
  exact ⟨b, off, a, e, hb, ha, hj 0 _ rfl, hj 1 _ rfl, hj 2 _ rfl, hj 3 _ rfl, hj 4 _ rfl, hj 5 _ rfl, hj 6 _ rfl⟩
theorem RL.at_ {B : Nat} {w : World} {A : Option Addr} {c : Nat} {l : List Ls.Lk} (h : RL B w A c l) {k : Nat} (hk : k < l.length) : ∃ (b off : Nat) (a : Ls.Lk), A = some ⟨b, off, none⟩ ∧ b < B ∧ l[k]? = some a ∧
    w.cell? ⟨b, off + k * 6, none⟩ = some (.int .i64 a.u) ∧ w.cell? ⟨b, off + k * 6 + 1, none⟩ = some (.int .i64 a.v) ∧ w.cell? ⟨b, off + k * 6 + 2, none⟩ = some (.int .i64 a.weight) ∧ w.cell? ⟨b, off + k * 6 + 3, none⟩ = some (.int .i64 a.label) ∧
    w.cell? ⟨b, off + k * 6 + 4, none⟩ = some (.int .i64 a.sign) ∧ w.cell? ⟨b, off + k * 6 + 5, none⟩ = some (.int .i64 a.time) := by
  obtain ⟨b, off, a, e, hb, ha, hc⟩ := RX.let_ encL (by decide) h hk
  have hj := fun j u hu => Nat.add_assoc off (k * 6) j ▸ hc j u hu
  exact ⟨b, off, a, e, hb, ha, hj 0 _ rfl, hj 1 _ rfl, hj 2 _ rfl, hj 3 _ rfl, hj 4 _ rfl, hj 5 _ rfl⟩

theorem ret_bool {a b : Bool} (h : a = b) : Ending.returned (.bool a) = .returned (.bool b) := by rw [h]
theorem ret_intN {a b : Int} (h : a = b) : Ending.returned (.int .i64 a) = .returned (.int .i64 b) := by rw [h]
theorem below_drewN (w : World) (n : Nat) : Below w.heap.size w (w.drewN n) := ⟨rfl, rfl, rfl, Nat.le_refl _, fun _ _ => rfl⟩
theorem below_new (w : World) (o : Obj) : Below w.heap.size w (w.alloc o) := (Below.refl _ _).alloc (Nat.le_refl _) o
theorem below_undraw {B n : Nat} {w w' : World} (h : Below B (w.drewN n) w') : Below B w w' := ⟨h.os, h.tape, h.output, h.size, h.block⟩
theorem below_le {B B' : Nat} {w w' : World} (h : Below B w w') (hb : B' ≤ B) : Below B' w w' := ⟨h.os, h.tape, h.output, h.size, fun k hk => h.block k (by omega)⟩

/-- an append to a list of the call's own: whatever its elements -/
theorem run_applX {α : Type} {n : Nat} {f : α → List Value} (E : Enc n f) (hn : 0 < n) (t e : TypeId) (z : Value) (bytes : Nat)
    (ht : Tryz.prog.underlying t = some (.slice e)) (hi : (Tryz.prog.info? e).map (fun i => (i.zero, i.size, i.bytes)) = some (some z, n, bytes)) (hzs : z.cells.size = n) (hb16 : bytes ≤ 64) {o : Oper} {a : Act} {K : Act → World → Prop} {Q : Exit → Act → World → Prop} (W : World) (s x : Operand)
    (ho : o.op = .call { callee := .builtin .append, args := #[s, x], argTypes := #[t, t] }) (base : Nat) (A2 : Option Addr) (c2 : Nat) (ks : List α)
    (hs : a.eval s = .slice A2 ks.length c2) (hown : W.ownsRow base e n (.slice A2 ks.length c2) ks.length (cl f ks)) (A' : Option Addr) (c' m : Nat) (news : List α) (hm : news.length = m)
    (hx : a.eval x = .slice A' m c') (hr : RX n f W.heap.size W A' c' news) (hk : ks.length + m ≤ 2000000000000) (hbase : base ≤ W.heap.size)
    (h : ∀ A3 c3 w', Hid (w'.ownsRow base e n (.slice A3 (ks ++ news).length c3) (ks ++ news).length (cl f (ks ++ news))) → Hid (Below base W w') → Hid (W.grownBy w' (Value.slice A2 ks.length c2).ownBlock) → K (a.put o.dst (.slice A3 (ks ++ news).length c3)) w') :
    o.wp Tryz.prog a W K Q := by
  subst hm
  obtain ⟨i0, hi0, hz0, hz1, hz2⟩ := info_parts hi
  refine wp_append_any _ s x t ho base e i0 _ n bytes ht hi0 hz0 hz1 hz2 hzs hn (.slice A2 ks.length c2) ks.length (cl f ks) hs hown
    _ A' news.length c' (cl f news) hx hr.2 (cl_one E news) (by simp only [maxLen]; omega) (Nat.le_trans (Nat.mul_le_mul hk hb16) (by omega)) hbase ?_
  intro v3 w3 hown3 hg3 hat3
  have hbw : Below base W w3 := (Below.refl _ _).grown hg3 hbase (fun k hk => (hown.lt k hk).1)
  have ho3 : w3.ownsRow base e n v3 (ks ++ news).length (cl f (ks ++ news)) := by rw [cl_append, List.length_append]; exact hown3
  obtain ⟨A3, c3, rfl⟩ := own_formX ho3
  exact h A3 c3 w3 ho3 hbw hg3

theorem own_up {w w' : World} {bs size : Nat} {e : TypeId} {v : Value} {k : Nat} {xs : List Value} (h : w.ownsRow bs e size v k xs) (hb : Below w.heap.size w w') : w'.ownsRow bs e size v k xs :=
  h.kept (row := none) ⟨hb.os, hb.tape, hb.output, hb.size, fun i hi _ => hb.block i hi⟩ (by
    rcases hA : v.ownBlock with _ | b
    · exact .inl rfl
    · exact .inr (by simp))
theorem infoV : (Tryz.prog.info? 57).map (fun i => (i.zero, i.size, i.bytes)) = some (some (.agg #[.int .i64 0, .int .i64 0, .int .i64 0, .int .i64 0, .int .i64 0, .int .i64 0, .int .i64 0]), 7, 56) := by kernel_rfl
theorem infoL : (Tryz.prog.info? 62).map (fun i => (i.zero, i.size, i.bytes)) = some (some (.agg #[.int .i64 0, .int .i64 0, .int .i64 0, .int .i64 0, .int .i64 0, .int .i64 0]), 6, 48) := by kernel_rfl
section
variable {ops : Array Oper} {rest : List Oper} {o : Oper} {a : Act} {Q : Exit → Act → World → Prop} (W : World) (hgd : o.guard = none) (s x : Operand)
  (base : Nat) (A2 : Option Addr) (c2 : Nat)
  include hgd
theorem wpList_applV (ho : o.op = .call { callee := .builtin .append, args := #[s, x], argTypes := #[40, 40] }) (ks : List Ev)
    (hs : a.eval s = .slice A2 ks.length c2) (hown : W.ownsRow base 57 7 (.slice A2 ks.length c2) ks.length (cl Ev.cells ks)) (A' : Option Addr) (c' m : Nat) (news : List Ev) (hm : news.length = m)
    (hx : a.eval x = .slice A' m c') (hr : RV W.heap.size W A' c' news) (hk : ks.length + m ≤ 2000000000000) (hbase : base ≤ W.heap.size)
    (h : ∀ A3 c3 w', Hid (w'.ownsRow base 57 7 (.slice A3 (ks ++ news).length c3) (ks ++ news).length (cl Ev.cells (ks ++ news))) → Hid (Below base W w') → Hid (W.grownBy w' (Value.slice A2 ks.length c2).ownBlock) → wpList Tryz.prog ops Q rest (a.put o.dst (.slice A3 (ks ++ news).length c3)) w') :
    wpList Tryz.prog ops Q (o :: rest) a W :=
  wpList_plain hgd fun _ hK => run_applX encE (by decide) 40 57 _ 56 Tryz.underlying40 infoV rfl (by decide) W s x ho base A2 c2 ks hs hown A' c' m news hm hx hr hk hbase fun A3 c3 w' h1 h2 h3 => hK _ _ (h A3 c3 w' h1 h2 h3)
theorem wpList_applL (ho : o.op = .call { callee := .builtin .append, args := #[s, x], argTypes := #[22, 22] }) (ks : List Ls.Lk)
    (hs : a.eval s = .slice A2 ks.length c2) (hown : W.ownsRow base 62 6 (.slice A2 ks.length c2) ks.length (cl Ls.Lk.cells ks)) (A' : Option Addr) (c' m : Nat) (news : List Ls.Lk) (hm : news.length = m)
    (hx : a.eval x = .slice A' m c') (hr : RL W.heap.size W A' c' news) (hk : ks.length + m ≤ 2000000000000) (hbase : base ≤ W.heap.size)
    (h : ∀ A3 c3 w', Hid (w'.ownsRow base 62 6 (.slice A3 (ks ++ news).length c3) (ks ++ news).length (cl Ls.Lk.cells (ks ++ news))) → Hid (Below base W w') → Hid (W.grownBy w' (Value.slice A2 ks.length c2).ownBlock) → wpList Tryz.prog ops Q rest (a.put o.dst (.slice A3 (ks ++ news).length c3)) w') :
    wpList Tryz.prog ops Q (o :: rest) a W :=
  wpList_plain hgd fun _ hK => run_applX encL (by decide) 22 62 _ 48 Tryz.underlying22 infoL rfl (by decide) W s x ho base A2 c2 ks hs hown A' c' m news hm hx hr hk hbase fun A3 c3 w' h1 h2 h3 => hK _ _ (h A3 c3 w' h1 h2 h3)
end
/-- a deck in block g (a block of the law's own, from base on): the list lies below base, and at says how far it has been used -/
structure Dk (base : Nat) (w : World) (g : Nat) (A : Option Addr) (c : Nat) (L : List Int) (at' : Nat) : Prop where
  blk : w.heap[g]? = some (.cells #[.slice A L.length c, .int .i64 (at' : Nat)] 64)
  le : at' ≤ L.length
  base_le : base ≤ g
  rb : RB base w A c L
theorem Dk.lt {base : Nat} {w : World} {g : Nat} {A : Option Addr} {c : Nat} {L : List Int} {n : Nat} (h : Dk base w g A c L n) : g < w.heap.size := by
  rcases Nat.lt_or_ge g w.heap.size with hlt | hge
  · exact hlt
  · have := h.blk; rw [Array.getElem?_eq_none hge] at this; cases this
theorem Dk.c0 {base : Nat} {w : World} {g : Nat} {A : Option Addr} {c : Nat} {L : List Int} {n : Nat} (h : Dk base w g A c L n) : w.cell? ⟨g, 0, none⟩ = some (.slice A L.length c) := Go.Joins.cell_of_block h.blk 0
theorem Dk.c1 {base : Nat} {w : World} {g : Nat} {A : Option Addr} {c : Nat} {L : List Int} {n : Nat} (h : Dk base w g A c L n) : w.cell? ⟨g, 1, none⟩ = some (.int .i64 (n : Nat)) := Go.Joins.cell_of_block h.blk 1
theorem Dk.f1 {base : Nat} {w : World} {g : Nat} {A : Option Addr} {c : Nat} {L : List Int} {n : Nat} (h : Dk base w g A c L n) : w.frozen? ⟨g, 1, none⟩ = false := Go.Joins.unfrozen_of_block h.blk 1
/-- the deck stays where a callee makes memory, or writes elsewhere -/
theorem Dk.go {base : Nat} {w w' : World} {g : Nat} {A : Option Addr} {c : Nat} {L : List Int} {n : Nat} (h : Dk base w g A c L n) (hb : Below w.heap.size w w') : Dk base w' g A c L n :=
  ⟨(hb.block g h.lt).trans h.blk, h.le, h.base_le, h.rb.go (below_le hb (Nat.le_of_lt (Nat.lt_of_le_of_lt h.base_le h.lt)))⟩
theorem RB.only {B : Nat} {w w' : World} {A : Option Addr} {c : Nat} {l : List Int} {g : Nat} (h : RB B w A c l) (hg : w.grownBy w' (some g)) (hB : B ≤ g) (hw : B ≤ w.heap.size) : RB B w' A c l :=
  ⟨h.1, h.2.keep fun p hp => World.cell?_of_block (hg.block p.block (by omega) (fun e => by injection e with e; omega))⟩
theorem only_drewN {w : World} (n g : Nat) : w.grownBy (w.drewN n) (some g) := ⟨rfl, rfl, rfl, Nat.le_refl _, fun _ _ _ => rfl⟩
theorem only_set {w : World} (n g i : Nat) (u : Value) : w.grownBy ((w.drewN n).setCell ⟨g, i, none⟩ u) (some g) :=
  ⟨rfl, rfl, rfl, by simp [World.setCell, World.drewN], fun k _ hk => by
    have : (w.drewN n).heap[k]? = w.heap[k]? := rfl
    rw [← this]
    exact Below.heap_setCell (w.drewN n) ⟨g, i, none⟩ u k (fun e => hk (by rw [e]))⟩
theorem Dk.set {base : Nat} {w : World} {g : Nat} {A : Option Addr} {c : Nat} {L : List Int} {n m : Nat} (k : Nat) (h : Dk base w g A c L n) (hm : m ≤ L.length) : Dk base ((w.drewN k).setCell ⟨g, 1, none⟩ (.int .i64 (m : Nat))) g A c L m := by
  refine ⟨?_, hm, h.base_le, h.rb.only (only_set k g 1 _) h.base_le (Nat.le_of_lt (Nat.lt_of_le_of_lt h.base_le h.lt))⟩
  have hb : w.heap[g]? = some (.cells #[.slice A L.length c, .int .i64 (n : Nat)] 64) := h.blk
  simp [World.setCell, Array.getElem?_modify, hb]

/-- what Next answers: a number from 0 to n - 1 (0 where there is none), and the deck goes on -/
def NextP (base g : Nat) (A : Option Addr) (c : Nat) (L : List Int) (n : Int) (w : World) (e : Ending) (w' : World) : Prop :=
  ∃ (r : Int) (m : Nat), e = .returned (.int .i64 r) ∧ 0 ≤ r ∧ (r < n ∨ r = 0) ∧ Dk base w' g A c L m ∧ w.grownBy w' (some g)

theorem mod_any (x n : Int) (w : World) (hn : 1 ≤ n) (hn' : n ≤ 4611686018427387904) : Calls Tryz.prog 24 #[.int .i64 x, .int .i64 n] w fun e w' => e = .returned (.int .i64 ((x.tmod n + n) % n)) ∧ w = w' := by
  have h1 := Int.tmod_lt_of_pos x (show (0 : Int) < n by omega)
  have h2 := Int.lt_tmod_of_pos x (show (0 : Int) < n by omega)
  have hz : (n == 0) = false := by rw [beq_eq_false_iff_ne]; omega
  have hz' : n ≠ 0 := by omega
  obtain ⟨t, Ht⟩ : ∃ t, Hid (t = x.tmod n) := ⟨_, rfl⟩
  have h3 : Hid (wrap64 (x.tmod n + n) = t + n) := by show _ = _; rw [Ht.out]; unfold wrap64; omega
  have h4 : Hid ((t + n).tmod n = (t + n) % n) := Int.tmod_eq_emod_of_nonneg (by rw [Ht.out]; omega)
  clear h1 h2
  go_enter Tryz.func24, Tryz.ntmps24
  go_wp2
  go_ret
  refine ⟨ret_intN ?_, rfl⟩
  rw [h3.out, h4.out, Ht.out]

set_option maxHeartbeats 1000000 in
theorem next_any (base g : Nat) (A : Option Addr) (c : Nat) (L : List Int) (m : Nat) (n : Int) (w : World) (D : Dk base w g A c L m) (hL : L.length ≤ 17592186044416) (hn : n ≤ 4611686018427387904) :
    Calls Tryz.prog 12 #[.pointer (some ⟨g, 0, none⟩), .int .i64 n] w (NextP base g A c L n w) := by
  have HD := Lib.hid D
  have k0 := D.c0; have k1 := D.c1; have kf := D.f1; have kl := D.lt
  have kle := D.le
  clear D
  by_cases h1 : n < 1
  · have e1 : decide (n < 1) = true := by simpa using h1
    go_enter Tryz.func12, Tryz.ntmps12
    go_wp2
    go_quiet (fail)
    go_wp2
    go_ret
    exact ⟨0, m, rfl, by omega, .inr rfl, HD.out.go ⟨rfl, rfl, rfl, Nat.le_refl _, fun _ _ => rfl⟩, only_drewN _ _⟩
  · have e1 : decide (n < 1) = false := by simpa using h1
    by_cases h2 : m < L.length
    · obtain ⟨ad, x, rfl, hb, hx, hc⟩ := (HD.out.rb.rd (Nat.le_of_lt (Nat.lt_of_le_of_lt HD.out.base_le kl))).let_ h2
      clear hx
      obtain ⟨bA, oA, hspot⟩ : ∃ b o, ad = ⟨b, o, none⟩ := by
        obtain ⟨ad', x', e, _, _, hc'⟩ := (HD.out.rb.rd (Nat.le_of_lt (Nat.lt_of_le_of_lt HD.out.base_le kl))).let_ (k := 0) (by omega)
        injection e with e
        subst e
        obtain ⟨b, o, sp⟩ := ad
        have := World.cell?_spot hc'
        simp [Addr.add] at this
        subst this
        exact ⟨b, o, rfl⟩
      subst hspot
      rw [Go.WideShapes.add_plain] at hc
      have e2 : decide (L.length ≤ m) = false := by rw [decide_eq_false_iff_not]; omega
      have hr1 := Int.emod_nonneg (x.tmod n + n) (show n ≠ 0 by omega)
      have hr2 := Int.emod_lt_of_pos (x.tmod n + n) (show 0 < n by omega)
      have C15 := Lib.hid (fun w => mod_any x n w (by omega) hn)
      obtain ⟨r, Hr⟩ : ∃ r, Hid (r = (x.tmod n + n) % n) := ⟨_, rfl⟩
      rw [← Hr.out] at C15 hr1 hr2
      go_enter Tryz.func12, Tryz.ntmps12
      go_wp2
      go_quiet (fail)
      go_wp2
      go_quiet (fail)
      go_wp2_with (go_at_call 24; refine (C15.out _).mono ?_; rintro e w' ⟨rfl, rfl⟩)
      go_ret
      refine ⟨r, m + 1, rfl, hr1, .inl hr2, ?_, only_set _ _ _ _⟩
      exact HD.out.set (m := m + 1) _ (by omega)
    · have e2 : decide (L.length ≤ m) = true := by rw [decide_eq_true_eq]; omega
      go_enter Tryz.func12, Tryz.ntmps12
      go_wp2
      go_quiet (fail)
      go_wp2
      go_ret
      exact ⟨0, m, rfl, by omega, .inr rfl, HD.out.go ⟨rfl, rfl, rfl, Nat.le_refl _, fun _ _ => rfl⟩, only_drewN _ _⟩

theorem new_any (A : Option Addr) (c : Nat) (L : List Int) (w : World) (h : RD w A c L) :
    Calls Tryz.prog 8 #[.slice A L.length c] w fun e w' => e = .returned (.pointer (some ⟨w.heap.size, 0, none⟩)) ∧ Dk w.heap.size w' w.heap.size A c L 0 ∧ Below w.heap.size w w' := by
  have H := Lib.hid h
  clear h
  go_enter Tryz.func8, Tryz.ntmps8
  go_wp2
  go_ret
  refine ⟨rfl, ⟨heap_alloc_new _ _, Nat.zero_le _, Nat.le_refl _, ?_⟩, (Below.refl _ _).alloc (Nat.le_refl _) _⟩
  exact (RD.rb H.out).go ((Below.refl _ _).alloc (Nat.le_refl _) _)
theorem Dk.goB {base B : Nat} {w w' : World} {g : Nat} {A : Option Addr} {c : Nat} {L : List Int} {n : Nat} (h : Dk base w g A c L n) (hb : Below B w w') (hB : g < B) : Dk base w' g A c L n :=
  ⟨(hb.block g hB).trans h.blk, h.le, h.base_le, h.rb.go ⟨hb.os, hb.tape, hb.output, hb.size, fun k hk => hb.block k (by have := h.base_le; omega)⟩⟩
theorem grown_below {w w1 w2 : World} {g B : Nat} (h : w.grownBy w1 (some g)) (hb : Below B w1 w2) (hB : w.heap.size ≤ B) : w.grownBy w2 (some g) :=
  ⟨hb.os.trans h.os, hb.tape.trans h.tape, hb.output.trans h.output, Nat.le_trans h.size hb.size, fun i hi hne => (hb.block i (by omega)).trans (h.block i hi hne)⟩
theorem grown_trans {w w1 w2 : World} {g : Nat} (h : w.grownBy w1 (some g)) (h2 : w1.grownBy w2 (some g)) : w.grownBy w2 (some g) :=
  ⟨h2.os.trans h.os, h2.tape.trans h.tape, h2.output.trans h.output, Nat.le_trans h.size h2.size, fun i hi hne => (h2.block i (Nat.lt_of_lt_of_le hi h.size) hne).trans (h.block i hi hne)⟩
theorem grown_refl (w : World) (g : Nat) : w.grownBy w (some g) := ⟨rfl, rfl, rfl, Nat.le_refl _, fun _ _ _ => rfl⟩
theorem own_kept {w w' : World} {base e size : Nat} {v : Value} {n g : Nat} {xs : List Value} (h : w.ownsRow base e size v n xs) (hg : w.grownBy w' (some g)) (hb : g < base) : w'.ownsRow base e size v n xs :=
  h.kept hg (.inr fun h0 => by have := (h.lt _ h0).1; omega)

theorem lt_of_some {wr : World} {k : Nat} {o : Obj} (h : wr.heap[k]? = some o) : k < wr.heap.size := by
  rcases Nat.lt_or_ge k wr.heap.size with hlt | hge
  · exact hlt
  · rw [Array.getElem?_eq_none hge] at h; cases h
theorem ret_tup2 {a b : Value} {a' b' : Value} (h : a = a') (g : b = b') : Ending.returned (.tuple #[a, b]) = .returned (.tuple #[a', b']) := by rw [h, g]
/-- a copy of elements of sz cells into a block that is known -/
theorem run_copyN {P : Program} (w : World) (dT sT ty elem : TypeId) (sz : Nat) (g o dLen dCap : Nat) (sp : Option Addr) (sLen sCap : Nat) (cur : Array Value) (t : TypeId) (cs : List Value)
    (hu : P.underlying dT = some (.slice elem)) (hs : (P.info? elem).map (·.size) = some sz)
    (hg : w.heap[g]? = some (.cells cur t (0, 0))) (hn : cs.length = Nat.min sLen dLen * sz)
    (hsrc : 0 < cs.length → ∃ a, sp = some a ∧ ∀ j v, cs[j]? = some v → w.cell? (a.add j) = some v) (hnil : cs.length = 0 → Nat.min sLen dLen = 0) (hfit : o + cs.length ≤ cur.size) (h1 : ∀ v ∈ cs, v.oneCell' = true) :
    (Builtin.copy_ #[dT, sT] ty #[.slice (some ⟨g, o, none⟩) dLen dCap, .slice sp sLen sCap]).run P w =
      .ok (goInt (Nat.min sLen dLen)) (w.setRow g (cur.toList.take o ++ cs ++ cur.toList.drop (o + cs.length)).toArray) := by
  have hst := run_storeCells_at P g o t cs 0 cur w hg (by simpa using hfit) h1
  cases hq : P.info? elem with
  | none => simp [hq] at hs
  | some i =>
    have hi : i.size = sz := by simpa [hq] using hs
    by_cases h0 : cs.length = 0
    · obtain rfl : cs = [] := List.eq_nil_of_length_eq_zero h0
      have hm := hnil h0
      rw [hm]
      have e : (cur.toList.take o ++ [] ++ cur.toList.drop (o + ([] : List Value).length)).toArray = cur := by simp
      rw [e, setRow_self w g cur t (0, 0) hg]
      cases sp with
      | none => simp [Builtin.copy_, run_underlying hu, Builtin.lenOf, Builtin.firstCells, sizeOf, typeInfo, hq, hm, storeCells]
      | some a =>
        have hl := run_loadCells_list (P := P) w a [] (by simp)
        simp only [List.length_nil] at hl
        simp [Builtin.copy_, run_underlying hu, Builtin.lenOf, Builtin.firstCells, sizeOf, typeInfo, hq, hm, hl, storeCells]
    · obtain ⟨a, rfl, hc⟩ := hsrc (by omega)
      have hl := run_loadCells_list (P := P) w a cs hc
      simp [Builtin.copy_, run_underlying hu, Builtin.lenOf, Builtin.firstCells, sizeOf, typeInfo, hq, hi, ← hn, hl, hst]
theorem wp_copy_eq {P : Program} (w : World) {o : Oper} {a : Act} {K : Act → World → Prop} {Q : Exit → Act → World → Prop} (d s : Operand) (t t' : TypeId)
    (ho : o.op = .call { callee := .builtin .copy, args := #[d, s], argTypes := #[t, t'] }) (v u : Value) (hd : a.eval d = v) (hs : a.eval s = u) {v' : Value} {w' : World}
    (hr : (Builtin.copy_ #[t, t'] o.type #[v, u]).run P w = .ok v' w') (h : K (a.put o.dst v') w') : o.wp P a w K Q := by
  unfold Oper.wp execOp
  simp only [ho, resolve, invoke, builtin, Sem.run_bind, Sem.run_pure, Result.andThen_ok, List.map_toArray, List.map_cons, List.map_nil, hd, hs, hr]
  exact h
theorem wpList_copy_eq {P : Program} (w : World) {ops : Array Oper} {rest : List Oper} {o : Oper} {a : Act} {Q : Exit → Act → World → Prop} (hgd : o.guard = none) (d s : Operand) (t t' : TypeId)
    (ho : o.op = .call { callee := .builtin .copy, args := #[d, s], argTypes := #[t, t'] }) (v u : Value) (hd : a.eval d = v) (hs : a.eval s = u) {v' : Value} {w' : World}
    (hr : (Builtin.copy_ #[t, t'] o.type #[v, u]).run P w = .ok v' w') (h : wpList P ops Q rest (a.put o.dst v') w') : wpList P ops Q (o :: rest) a w :=
  wpList_plain hgd fun _ hK => wp_copy_eq w d s t t' ho v u hd hs hr (hK _ _ h)
theorem setCell_cells {w : World} {g : Nat} {cs : Array Value} {T : TypeId} (h : w.heap[g]? = some (.cells cs T (0, 0))) (j : Nat) (v : Value) : (w.setCell ⟨g, j, none⟩ v).heap[g]? = some (.cells (cs.setIfInBounds j v) T (0, 0)) := by
  simp [World.setCell, Array.getElem?_modify, h]
theorem set7_blkT (w : World) (g : Nat) (a0 a1 a2 a3 a4 a5 a6 : Value) {T : TypeId} (h : w.heap[g]? = some (.cells #[a0, a1, a2, a3, a4, a5, a6] T (0, 0))) (v0 v1 v2 v3 v4 v5 v6 : Value) :
    (((((((w.setCell ⟨g, 0, none⟩ v0).setCell ⟨g, 1, none⟩ v1).setCell ⟨g, 2, none⟩ v2).setCell ⟨g, 3, none⟩ v3).setCell ⟨g, 4, none⟩ v4).setCell ⟨g, 5, none⟩ v5).setCell ⟨g, 6, none⟩ v6).heap[g]? = some (.cells #[v0, v1, v2, v3, v4, v5, v6] T (0, 0)) := by
  have := setCell_cells (setCell_cells (setCell_cells (setCell_cells (setCell_cells (setCell_cells (setCell_cells h 0 v0) 1 v1) 2 v2) 3 v3) 4 v4) 5 v5) 6 v6
  rw [this]
  rfl
/-- seven stores into a block of the call's own -/
theorem below_set7 {B g : Nat} {w w' : World} (h : Below B w w') (hg : B ≤ g) (v0 v1 v2 v3 v4 v5 v6 : Value) :
    Below B w (((((((w'.setCell ⟨g, 0, none⟩ v0).setCell ⟨g, 1, none⟩ v1).setCell ⟨g, 2, none⟩ v2).setCell ⟨g, 3, none⟩ v3).setCell ⟨g, 4, none⟩ v4).setCell ⟨g, 5, none⟩ v5).setCell ⟨g, 6, none⟩ v6) :=
  (((((((h.setCell (p := ⟨g, 0, none⟩) hg _).setCell (p := ⟨g, 1, none⟩) hg _).setCell (p := ⟨g, 2, none⟩) hg _).setCell (p := ⟨g, 3, none⟩) hg _).setCell (p := ⟨g, 4, none⟩) hg _).setCell (p := ⟨g, 5, none⟩) hg _).setCell (p := ⟨g, 6, none⟩) hg _)
theorem ret_struct1 {fn : Func} {R : Ending → World → Prop} {a : Act} {w : World} {p : Nat} (hres : fn.results = #[.cell p 57]) (hd : a.defers = []) (g : Nat) (hp : a.tmps.getD p undef = .pointer (some ⟨g, 0, none⟩))
    {v0 v1 v2 v3 v4 v5 v6 : Value} (hb : w.heap[g]? = some (.cells #[v0, v1, v2, v3, v4, v5, v6] 57 (0, 0))) (h : R (.returned (.agg #[v0, v1, v2, v3, v4, v5, v6])) w) : bodyPost Tryz.prog fn R .ret a w := by
  have hc := Go.Joins.cell_of_block hb
  have y0 := hc 0; have y1 := hc 1; have y2 := hc 2; have y3 := hc 3; have y4 := hc 4; have y5 := hc 5; have y6 := hc 6
  simp only [List.getElem?_toArray, List.getElem?_cons_succ, List.getElem?_cons_zero] at y0 y1 y2 y3 y4 y5 y6
  have hp' : (a.tmps[p]?).getD undef = .pointer (some ⟨g, 0, none⟩) := by simpa using hp
  refine bodyPost_ret (v := .agg #[v0, v1, v2, v3, v4, v5, v6]) ?_ hd h
  clear hp h hd hb hc
  simp [results, hres, go_sem, hp', y0, y1, y2, y3, y4, y5, y6]
end Go.Proofs.YtfapfkaipdcflaaGreat
