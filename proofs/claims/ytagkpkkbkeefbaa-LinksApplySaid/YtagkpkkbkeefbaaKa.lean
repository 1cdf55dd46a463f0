/-
  Words for memory: lists whose elements take several cells (events: seven numbers; links: six), and their appends.
-/
import Derived.Test.YtagkpkkbkeefbaaGl
import Derived.Test.YtagkpkkbkeefbaaQt
import Derived.Test.YtagkpkkbkeefbaaLs
import Derived.Lib.OwnBridge
import Derived.OpenShut
namespace Go.Proofs.Ytagkpkkbkeefbaa
open Go.RowKit Go.Lib

/-- one event -/
structure Ev where
  kind : Int
  time : Int
  u : Int
  v : Int
  weight : Int
  label : Int
  sign : Int
  deriving DecidableEq
def Ev.cells (e : Ev) : List Value := [.int .i64 e.kind, .int .i64 e.time, .int .i64 e.u, .int .i64 e.v, .int .i64 e.weight, .int .i64 e.label, .int .i64 e.sign]

section
variable {α : Type} {n : Nat} {f : α → List Value}
/-- how an element lies in memory: n cells -/
structure Enc (n : Nat) (f : α → List Value) : Prop where
  len : ∀ a, (f a).length = n
  one : ∀ a, ∀ u ∈ f a, u.oneCell' = true
def cl (f : α → List Value) (l : List α) : List Value := l.flatMap f
theorem cl_nil : cl f [] = [] := rfl
theorem cl_cons (a : α) (l : List α) : cl f (a :: l) = f a ++ cl f l := rfl
theorem cl_append (a b : List α) : cl f (a ++ b) = cl f a ++ cl f b := by simp [cl]
theorem cl_len (E : Enc n f) (l : List α) : (cl f l).length = l.length * n := by
  induction l with
  | nil => simp [cl]
  | cons a l ih => rw [cl_cons, List.length_append, ih, E.len, List.length_cons, Nat.add_mul]; omega
theorem cl_one (E : Enc n f) (l : List α) : ∀ u ∈ cl f l, u.oneCell' = true := by
  intro u hu
  obtain ⟨x, _, hx⟩ := List.mem_flatMap.1 hu
  exact E.one x u hx
theorem cl_at (E : Enc n f) (l : List α) (k : Nat) (a : α) (h : l[k]? = some a) (j : Nat) (hj : j < n) : (cl f l)[k * n + j]? = (f a)[j]? := by
  induction l generalizing k with
  | nil => simp at h
  | cons x l ih =>
    rw [cl_cons]
    cases k with
    | zero =>
      simp at h; subst h
      rw [List.getElem?_append_left (by rw [E.len]; omega)]
      simp
    | succ k =>
      have := ih k (by simpa using h)
      rw [List.getElem?_append_right (by rw [E.len, Nat.add_mul]; omega), ← this, E.len]
      congr 1
      rw [Nat.add_mul]; omega
theorem cl_drop (E : Enc n f) (l : List α) (k : Nat) : (cl f l).drop (k * n) = cl f (l.drop k) := by
  induction l generalizing k with
  | nil => simp [cl]
  | cons x l ih =>
    cases k with
    | zero => simp
    | succ k =>
      rw [cl_cons, List.drop_succ_cons, ← ih k, Nat.add_mul, Nat.one_mul, Nat.add_comm (k * n) n, ← List.drop_drop]
      have h1 : (f x ++ cl f l).drop n = cl f l := by
        have := List.drop_left (l₁ := f x) (l₂ := cl f l)
        rwa [E.len] at this
      rw [h1]
theorem cl_take (E : Enc n f) (l : List α) (k : Nat) : (cl f l).take (k * n) = cl f (l.take k) := by
  induction l generalizing k with
  | nil => simp [cl]
  | cons x l ih =>
    cases k with
    | zero => simp [cl]
    | succ k =>
      rw [List.take_succ_cons, cl_cons, cl_cons, ← ih k, Nat.add_mul, Nat.one_mul, Nat.add_comm (k * n) n]
      have h1 := E.len x
      rw [List.take_append, h1, List.take_of_length_le (by omega), show n + k * n - n = k * n by omega]

/-- a slice value reads as a list, in memory below block B -/
def RX (n : Nat) (f : α → List Value) (B : Nat) (w : World) (A : Option Addr) (c : Nat) (l : List α) : Prop := l.length ≤ c ∧ Reads w B n A l.length (cl f l)
variable {B : Nat} {w w' : World} {A : Option Addr} {c : Nat} {l : List α}
theorem RX.go (h : RX n f B w A c l) (hb : Below B w w') : RX n f B w' A c l := ⟨h.1, h.2.below hb⟩
theorem RX.more {B' : Nat} (h : RX n f B w A c l) (hB : B ≤ B') : RX n f B' w A c l := ⟨h.1, h.2.more hB⟩
theorem RX.up (h : RX n f w.heap.size w A c l) (hb : Below w.heap.size w w') : RX n f w'.heap.size w' A c l := (h.go hb).more hb.size
theorem RX.nil_ (B : Nat) (w : World) (A : Option Addr) (c : Nat) : RX n f B w A c [] := ⟨Nat.zero_le _, by simp [cl], fun h => absurd h (by simp)⟩
theorem RX.let_ (E : Enc n f) (hn : 0 < n) (h : RX n f B w A c l) {k : Nat} (hk : k < l.length) : ∃ (b off : Nat) (a : α), A = some ⟨b, off, none⟩ ∧ b < B ∧ l[k]? = some a ∧ ∀ j u, (f a)[j]? = some u → w.cell? ⟨b, off + (k * n + j), none⟩ = some u := by
  obtain ⟨ad, e, hb, hc⟩ := h.2.2 (by omega)
  have he : l[k]? = some l[k] := List.getElem?_eq_getElem hk
  have h0 : ∃ u, (cl f l)[0]? = some u := ⟨_, List.getElem?_eq_getElem (by rw [cl_len E]; have := Nat.mul_le_mul (show 1 ≤ l.length by omega) (show 1 ≤ n by omega); omega)⟩
  obtain ⟨b, off, spot⟩ := ad
  have hspot : spot = none := by
    obtain ⟨u, hu⟩ := h0
    simpa [Addr.add] using World.cell?_spot (hc 0 u hu)
  subst hspot
  refine ⟨b, off, l[k], e, hb, he, fun j u hu => ?_⟩
  have hj : j < n := by
    have := (List.getElem?_eq_some_iff.1 hu).1
    rwa [E.len] at this
  have := hc (k * n + j) u ((cl_at E l k _ he j hj).trans hu)
  rwa [Go.WideShapes.add_plain] at this
theorem RX.front (E : Enc n f) (h : RX n f B w A c l) {k : Nat} (hk : k ≤ l.length) : RX n f B w A c (l.take k) := by
  refine ⟨by have := h.1; simp; omega, by rw [cl_len E], fun h0 => ?_⟩
  obtain ⟨ad, e, hb, hc⟩ := h.2.2 (by simp at h0; omega)
  refine ⟨ad, e, hb, fun j u hu => hc j u ?_⟩
  rw [← cl_take E, List.getElem?_take] at hu
  split at hu
  · exact hu
  · simp at hu
theorem RX.cut (E : Enc n f) (h : RX n f B w A c l) {k : Nat} (hk : k ≤ l.length) : RX n f B w (if c = k then A else A.map (·.add (k * n))) (c - k) (l.drop k) := by
  refine ⟨by have := h.1; simp; omega, ?_⟩
  have := h.2.cut (k := k) (cap := c) hk h.1
  rw [cl_drop E] at this
  rw [List.length_drop]
  exact this
theorem RX.of_own {base : Nat} {e : TypeId} (h : w.ownsRow base e n (.slice A l.length c) l.length (cl f l)) : RX n f w.heap.size w A c l := by
  refine ⟨?_, Reads.of_own h⟩
  rcases h.2 with ⟨e0, _⟩ | ⟨g, cap, cur, e0, _, _, hn, _⟩
  · injection e0 with _ e1 e2; omega
  · injection e0 with _ _ e2; omega
theorem own_formX {base : Nat} {e : TypeId} {v : Value} (h : w.ownsRow base e n v l.length (cl f l)) : ∃ A c, v = .slice A l.length c := by
  rcases h.2 with ⟨e0, e1⟩ | ⟨g, cap, cur, e0, _⟩
  · exact ⟨none, 0, by rw [e0, e1]⟩
  · exact ⟨_, _, e0⟩
/-- a new block of cells reads as the list that it holds -/
theorem RX_new (E : Enc n f) (w : World) (l : List α) (e : TypeId) : RX n f (w.alloc (.cells (cl f l).toArray e)).heap.size (w.alloc (.cells (cl f l).toArray e)) (some ⟨w.heap.size, 0, none⟩) l.length l := by
  refine ⟨Nat.le_refl _, cl_len E l, fun _ => ⟨_, rfl, by simp, fun j x hx => ?_⟩⟩
  have := (Go.Joins.cell_of_block (w := w.alloc (.cells (cl f l).toArray e)) (heap_alloc_new w _) j)
  rw [show ((⟨w.heap.size, 0, none⟩ : Addr).add j) = ⟨w.heap.size, j, none⟩ by unfold Addr.add; split <;> simp_all]
  rw [this]; simpa using hx
end

theorem encE : Enc 7 Ev.cells := ⟨fun _ => rfl, fun a u hu => by simp [Ev.cells] at hu; rcases hu with rfl | rfl | rfl | rfl | rfl | rfl | rfl <;> rfl⟩
theorem below_le {B B' : Nat} {w w' : World} (h : Below B w w') (hb : B' ≤ B) : Below B' w w' := ⟨h.os, h.tape, h.output, h.size, fun k hk => h.block k (by omega)⟩
def Ls.Lk.cells (e : Ls.Lk) : List Value := [.int .i64 e.u, .int .i64 e.v, .int .i64 e.weight, .int .i64 e.label, .int .i64 e.sign, .int .i64 e.time]
theorem encL : Enc 6 Ls.Lk.cells := ⟨fun _ => rfl, fun a u hu => by simp [Ls.Lk.cells] at hu; rcases hu with rfl | rfl | rfl | rfl | rfl | rfl <;> rfl⟩
abbrev RV := RX 7 Ev.cells
abbrev RL := RX 6 Ls.Lk.cells
theorem RV.at_ {B : Nat} {w : World} {A : Option Addr} {c : Nat} {l : List Ev} (h : RV B w A c l) {k : Nat} (hk : k < l.length) : ∃ (b off : Nat) (a : Ev), A = some ⟨b, off, none⟩ ∧ b < B ∧ l[k]? = some a ∧
    w.cell? ⟨b, off + k * 7, none⟩ = some (.int .i64 a.kind) ∧ w.cell? ⟨b, off + k * 7 + 1, none⟩ = some (.int .i64 a.time) ∧ w.cell? ⟨b, off + k * 7 + 2, none⟩ = some (.int .i64 a.u) ∧ w.cell? ⟨b, off + k * 7 + 3, none⟩ = some (.int .i64 a.v) ∧
    w.cell? ⟨b, off + k * 7 + 4, none⟩ = some (.int .i64 a.weight) ∧ w.cell? ⟨b, off + k * 7 + 5, none⟩ = some (.int .i64 a.label) ∧ w.cell? ⟨b, off + k * 7 + 6, none⟩ = some (.int .i64 a.sign) := by
  obtain ⟨b, off, a, e, hb, ha, hc⟩ := RX.let_ encE (by decide) h hk
  have hj := fun j u hu => Nat.add_assoc off (k * 7) j ▸ hc j u hu
  exact ⟨b, off, a, e, hb, ha, hj 0 _ rfl, hj 1 _ rfl, hj 2 _ rfl, hj 3 _ rfl, hj 4 _ rfl, hj 5 _ rfl, hj 6 _ rfl⟩
theorem RL.at_ {B : Nat} {w : World} {A : Option Addr} {c : Nat} {l : List Ls.Lk} (h : RL B w A c l) {k : Nat} (hk : k < l.length) : ∃ (b off : Nat) (a : Ls.Lk), A = some ⟨b, off, none⟩ ∧ b < B ∧ l[k]? = some a ∧
    w.cell? ⟨b, off + k * 6, none⟩ = some (.int .i64 a.u) ∧ w.cell? ⟨b, off + k * 6 + 1, none⟩ = some (.int .i64 a.v) ∧ w.cell? ⟨b, off + k * 6 + 2, none⟩ = some (.int .i64 a.weight) ∧ w.cell? ⟨b, off + k * 6 + 3, none⟩ = some (.int .i64 a.label) ∧
    w.cell? ⟨b, off + k * 6 + 4, none⟩ = some (.int .i64 a.sign) ∧ w.cell? ⟨b, off + k * 6 + 5, none⟩ = some (.int .i64 a.time) := by
  obtain ⟨b, off, a, e, hb, ha, hc⟩ := RX.let_ encL (by decide) h hk
  have hj := fun j u hu => Nat.add_assoc off (k * 6) j ▸ hc j u hu
  exact ⟨b, off, a, e, hb, ha, hj 0 _ rfl, hj 1 _ rfl, hj 2 _ rfl, hj 3 _ rfl, hj 4 _ rfl, hj 5 _ rfl⟩

/-- an append to a list of the call's own: whatever its elements -/
theorem run_applX {α : Type} {n : Nat} {f : α → List Value} (E : Enc n f) (hn : 0 < n) (t e : TypeId) (z : Value) (bytes : Nat)
    (ht : Try.prog.underlying t = some (.slice e)) (hi : (Try.prog.info? e).map (fun i => (i.zero, i.size, i.bytes)) = some (some z, n, bytes)) (hzs : z.cells.size = n) (hb16 : bytes ≤ 64) {o : Oper} {a : Act} {K : Act → World → Prop} {Q : Exit → Act → World → Prop} (W : World) (s x : Operand)
    (ho : o.op = .call { callee := .builtin .append, args := #[s, x], argTypes := #[t, t] }) (base : Nat) (A2 : Option Addr) (c2 : Nat) (ks : List α)
    (hs : a.eval s = .slice A2 ks.length c2) (hown : W.ownsRow base e n (.slice A2 ks.length c2) ks.length (cl f ks)) (A' : Option Addr) (c' m : Nat) (news : List α) (hm : news.length = m)
    (hx : a.eval x = .slice A' m c') (hr : RX n f W.heap.size W A' c' news) (hk : ks.length + m ≤ 2000000000000) (hbase : base ≤ W.heap.size)
    (h : ∀ A3 c3 w', Hid (w'.ownsRow base e n (.slice A3 (ks ++ news).length c3) (ks ++ news).length (cl f (ks ++ news))) → Hid (Below base W w') → Hid (W.grownBy w' (Value.slice A2 ks.length c2).ownBlock) → K (a.put o.dst (.slice A3 (ks ++ news).length c3)) w') :
    o.wp Try.prog a W K Q := by
  subst hm
  obtain ⟨i0, hi0, hz0, hz1, hz2⟩ := info_parts hi
  refine wp_append_any _ s x t ho base e i0 _ n bytes ht hi0 hz0 hz1 hz2 hzs hn (.slice A2 ks.length c2) ks.length (cl f ks) hs hown
    _ A' news.length c' (cl f news) hx hr.2 (cl_one E news) (by simp only [maxLen]; omega) (Nat.le_trans (Nat.mul_le_mul hk hb16) (by omega)) hbase ?_
  intro v3 w3 hown3 hg3 hat3
  have hbw : Below base W w3 := (Below.refl _ _).grown hg3 hbase (fun k hk => (hown.lt k hk).1)
  have ho3 : w3.ownsRow base e n v3 (ks ++ news).length (cl f (ks ++ news)) := by rw [cl_append, List.length_append]; exact hown3
  obtain ⟨A3, c3, rfl⟩ := own_formX ho3
  exact h A3 c3 w3 ho3 hbw hg3

theorem own_up {w w' : World} {bs size : Nat} {e : TypeId} {v : Value} {k : Nat} {xs : List Value} (h : w.ownsRow bs e size v k xs) (hb : Below w.heap.size w w') : w'.ownsRow bs e size v k xs :=
  h.kept (row := none) ⟨hb.os, hb.tape, hb.output, hb.size, fun i hi _ => hb.block i hi⟩ (by
    rcases hA : v.ownBlock with _ | b
    · exact .inl rfl
    · exact .inr (by simp))
theorem infoV : (Try.prog.info? 26).map (fun i => (i.zero, i.size, i.bytes)) = some (some (.agg #[.int .i64 0, .int .i64 0, .int .i64 0, .int .i64 0, .int .i64 0, .int .i64 0, .int .i64 0]), 7, 56) := by kernel_rfl
theorem infoL : (Try.prog.info? 62).map (fun i => (i.zero, i.size, i.bytes)) = some (some (.agg #[.int .i64 0, .int .i64 0, .int .i64 0, .int .i64 0, .int .i64 0, .int .i64 0]), 6, 48) := by kernel_rfl

section
variable {ops : Array Oper} {rest : List Oper} {o : Oper} {a : Act} {Q : Exit → Act → World → Prop} (W : World) (hgd : o.guard = none) (s x : Operand)
  (base : Nat) (A2 : Option Addr) (c2 : Nat)
  include hgd
theorem wpList_applV (ho : o.op = .call { callee := .builtin .append, args := #[s, x], argTypes := #[32, 32] }) (ks : List Ev)
    (hs : a.eval s = .slice A2 ks.length c2) (hown : W.ownsRow base 26 7 (.slice A2 ks.length c2) ks.length (cl Ev.cells ks)) (A' : Option Addr) (c' m : Nat) (news : List Ev) (hm : news.length = m)
    (hx : a.eval x = .slice A' m c') (hr : RV W.heap.size W A' c' news) (hk : ks.length + m ≤ 2000000000000) (hbase : base ≤ W.heap.size)
    (h : ∀ A3 c3 w', Hid (w'.ownsRow base 26 7 (.slice A3 (ks ++ news).length c3) (ks ++ news).length (cl Ev.cells (ks ++ news))) → Hid (Below base W w') → Hid (W.grownBy w' (Value.slice A2 ks.length c2).ownBlock) → wpList Try.prog ops Q rest (a.put o.dst (.slice A3 (ks ++ news).length c3)) w') :
    wpList Try.prog ops Q (o :: rest) a W :=
  wpList_plain hgd fun _ hK => run_applX encE (by decide) 32 26 _ 56 Try.underlying32 infoV rfl (by decide) W s x ho base A2 c2 ks hs hown A' c' m news hm hx hr hk hbase fun A3 c3 w' h1 h2 h3 => hK _ _ (h A3 c3 w' h1 h2 h3)
theorem wpList_applL (ho : o.op = .call { callee := .builtin .append, args := #[s, x], argTypes := #[22, 22] }) (ks : List Ls.Lk)
    (hs : a.eval s = .slice A2 ks.length c2) (hown : W.ownsRow base 62 6 (.slice A2 ks.length c2) ks.length (cl Ls.Lk.cells ks)) (A' : Option Addr) (c' m : Nat) (news : List Ls.Lk) (hm : news.length = m)
    (hx : a.eval x = .slice A' m c') (hr : RL W.heap.size W A' c' news) (hk : ks.length + m ≤ 2000000000000) (hbase : base ≤ W.heap.size)
    (h : ∀ A3 c3 w', Hid (w'.ownsRow base 62 6 (.slice A3 (ks ++ news).length c3) (ks ++ news).length (cl Ls.Lk.cells (ks ++ news))) → Hid (Below base W w') → Hid (W.grownBy w' (Value.slice A2 ks.length c2).ownBlock) → wpList Try.prog ops Q rest (a.put o.dst (.slice A3 (ks ++ news).length c3)) w') :
    wpList Try.prog ops Q (o :: rest) a W :=
  wpList_plain hgd fun _ hK => run_applX encL (by decide) 22 62 _ 48 Try.underlying22 infoL rfl (by decide) W s x ho base A2 c2 ks hs hown A' c' m news hm hx hr hk hbase fun A3 c3 w' h1 h2 h3 => hK _ _ (h A3 c3 w' h1 h2 h3)
end
end Go.Proofs.Ytagkpkkbkeefbaa
