/-
  Words for memory: lists whose elements take several cells (events: seven numbers; bytes; strings), and their appends; a deck of numbers.
-/
import Derived.Test.YtnohmgmpabckkaaDoorNb
import Derived.Test.YtnohmgmpabckkaaDoorQt
import Derived.WalkKit
import Derived.LoopTactic
import Derived.Deep.QuietTactic
import Derived.BigQuiet
import Derived.Lib.Hide
import Derived.Lib.UnsafeStr
import Derived.Lib.OwnBridge
import Derived.Laws.BytesArg
import Derived.OpenShut
namespace Go.Proofs.YtnohmgmpabckkaaDoor
open Go.RowKit Go.Lib

/-- one event -/
structure Ev where
  kind : Int
  time : Int
  u : Int
  v : Int
  weight : Int
  label : Int
  sign : Int
  deriving DecidableEq
def Ev.cells (e : Ev) : List Value := [.int .i64 e.kind, .int .i64 e.time, .int .i64 e.u, .int .i64 e.v, .int .i64 e.weight, .int .i64 e.label, .int .i64 e.sign]
def byc (b : UInt8) : List Value := [.int .u8 b.toNat]
def stc (s : ByteArray) : List Value := [.string s]

section
variable {α : Type} {n : Nat} {f : α → List Value}
/-- how an element lies in memory: n cells -/
structure Enc (n : Nat) (f : α → List Value) : Prop where
  len : ∀ a, (f a).length = n
  one : ∀ a, ∀ u ∈ f a, u.oneCell' = true
def cl (f : α → List Value) (l : List α) : List Value := l.flatMap f
theorem cl_nil : cl f [] = [] := rfl
theorem cl_cons (a : α) (l : List α) : cl f (a :: l) = f a ++ cl f l := rfl
theorem cl_append (a b : List α) : cl f (a ++ b) = cl f a ++ cl f b := by simp [cl]
theorem cl_len (E : Enc n f) (l : List α) : (cl f l).length = l.length * n := by
  induction l with
  | nil => simp [cl]
  | cons a l ih => rw [cl_cons, List.length_append, ih, E.len, List.length_cons, Nat.add_mul]; omega
theorem cl_one (E : Enc n f) (l : List α) : ∀ u ∈ cl f l, u.oneCell' = true := by
  intro u hu
  obtain ⟨x, _, hx⟩ := List.mem_flatMap.1 hu
  exact E.one x u hx
theorem cl_at (E : Enc n f) (l : List α) (k : Nat) (a : α) (h : l[k]? = some a) (j : Nat) (hj : j < n) : (cl f l)[k * n + j]? = (f a)[j]? := by
  induction l generalizing k with
  | nil => simp at h
  | cons x l ih =>
    rw [cl_cons]
    cases k with
    | zero =>
      simp at h; subst h
      rw [List.getElem?_append_left (by rw [E.len]; omega)]
      simp
    | succ k =>
      have := ih k (by simpa using h)
      rw [List.getElem?_append_right (by rw [E.len, Nat.add_mul]; omega), ← this, E.len]
      congr 1
      rw [Nat.add_mul]; omega
theorem cl_drop (E : Enc n f) (l : List α) (k : Nat) : (cl f l).drop (k * n) = cl f (l.drop k) := by
  induction l generalizing k with
  | nil => simp [cl]
  | cons x l ih =>
    cases k with
    | zero => simp
    | succ k =>
      rw [cl_cons, List.drop_succ_cons, ← ih k, Nat.add_mul, Nat.one_mul, Nat.add_comm (k * n) n, ← List.drop_drop]
      have h1 : (f x ++ cl f l).drop n = cl f l := by
        have := List.drop_left (l₁ := f x) (l₂ := cl f l)
        rwa [E.len] at this
      rw [h1]
theorem cl_take (E : Enc n f) (l : List α) (k : Nat) : (cl f l).take (k * n) = cl f (l.take k) := by
  induction l generalizing k with
  | nil => simp [cl]
  | cons x l ih =>
    cases k with
    | zero => simp [cl]
    | succ k =>
      rw [List.take_succ_cons, cl_cons, cl_cons, ← ih k, Nat.add_mul, Nat.one_mul, Nat.add_comm (k * n) n]
      have h1 := E.len x
      rw [List.take_append, h1, List.take_of_length_le (by omega), show n + k * n - n = k * n by omega]

/-- a slice value reads as a list, in memory below block B -/
def RX (n : Nat) (f : α → List Value) (B : Nat) (w : World) (A : Option Addr) (c : Nat) (l : List α) : Prop := l.length ≤ c ∧ Reads w B n A l.length (cl f l)
variable {B : Nat} {w w' : World} {A : Option Addr} {c : Nat} {l : List α}
theorem RX.go (h : RX n f B w A c l) (hb : Below B w w') : RX n f B w' A c l := ⟨h.1, h.2.below hb⟩
theorem RX.more {B' : Nat} (h : RX n f B w A c l) (hB : B ≤ B') : RX n f B' w A c l := ⟨h.1, h.2.more hB⟩
theorem RX.up (h : RX n f w.heap.size w A c l) (hb : Below w.heap.size w w') : RX n f w'.heap.size w' A c l := (h.go hb).more hb.size
theorem RX.nil_ (B : Nat) (w : World) (A : Option Addr) (c : Nat) : RX n f B w A c [] := ⟨Nat.zero_le _, by simp [cl], fun h => absurd h (by simp)⟩
theorem RX.let_ (E : Enc n f) (hn : 0 < n) (h : RX n f B w A c l) {k : Nat} (hk : k < l.length) : ∃ (b off : Nat) (a : α), A = some ⟨b, off, none⟩ ∧ b < B ∧ l[k]? = some a ∧ ∀ j u, (f a)[j]? = some u → w.cell? ⟨b, off + (k * n + j), none⟩ = some u := by
  obtain ⟨ad, e, hb, hc⟩ := h.2.2 (by omega)
  have he : l[k]? = some l[k] := List.getElem?_eq_getElem hk
  have h0 : ∃ u, (cl f l)[0]? = some u := ⟨_, List.getElem?_eq_getElem (by rw [cl_len E]; have := Nat.mul_le_mul (show 1 ≤ l.length by omega) (show 1 ≤ n by omega); omega)⟩
  obtain ⟨b, off, spot⟩ := ad
  have hspot : spot = none := by
    obtain ⟨u, hu⟩ := h0
    simpa [Addr.add] using World.cell?_spot (hc 0 u hu)
  subst hspot
  refine ⟨b, off, l[k], e, hb, he, fun j u hu => ?_⟩
  have hj : j < n := by
    have := (List.getElem?_eq_some_iff.1 hu).1
    rwa [E.len] at this
  have := hc (k * n + j) u ((cl_at E l k _ he j hj).trans hu)
  rwa [Go.WideShapes.add_plain] at this
theorem RX.front (E : Enc n f) (h : RX n f B w A c l) {k : Nat} (hk : k ≤ l.length) : RX n f B w A c (l.take k) := by
  refine ⟨by have := h.1; simp; omega, by rw [cl_len E], fun h0 => ?_⟩
  obtain ⟨ad, e, hb, hc⟩ := h.2.2 (by simp at h0; omega)
  refine ⟨ad, e, hb, fun j u hu => hc j u ?_⟩
  rw [← cl_take E, List.getElem?_take] at hu
  split at hu
  · exact hu
  · simp at hu
theorem RX.cut (E : Enc n f) (h : RX n f B w A c l) {k : Nat} (hk : k ≤ l.length) : RX n f B w (if c = k then A else A.map (·.add (k * n))) (c - k) (l.drop k) := by
  refine ⟨by have := h.1; simp; omega, ?_⟩
  have := h.2.cut (k := k) (cap := c) hk h.1
  rw [cl_drop E] at this
  rw [List.length_drop]
  exact this
theorem RX.of_own {base : Nat} {e : TypeId} (h : w.ownsRow base e n (.slice A l.length c) l.length (cl f l)) : RX n f w.heap.size w A c l := by
  refine ⟨?_, Reads.of_own h⟩
  rcases h.2 with ⟨e0, _⟩ | ⟨g, cap, cur, e0, _, _, hn, _⟩
  · injection e0 with _ e1 e2; omega
  · injection e0 with _ _ e2; omega
theorem own_formX {base : Nat} {e : TypeId} {v : Value} (h : w.ownsRow base e n v l.length (cl f l)) : ∃ A c, v = .slice A l.length c := by
  rcases h.2 with ⟨e0, e1⟩ | ⟨g, cap, cur, e0, _⟩
  · exact ⟨none, 0, by rw [e0, e1]⟩
  · exact ⟨_, _, e0⟩
/-- a new block of cells reads as the list that it holds -/
theorem RX_new (E : Enc n f) (w : World) (l : List α) (e : TypeId) : RX n f (w.alloc (.cells (cl f l).toArray e)).heap.size (w.alloc (.cells (cl f l).toArray e)) (some ⟨w.heap.size, 0, none⟩) l.length l := by
  refine ⟨Nat.le_refl _, cl_len E l, fun _ => ⟨_, rfl, by simp, fun j x hx => ?_⟩⟩
  have := (Go.Joins.cell_of_block (w := w.alloc (.cells (cl f l).toArray e)) (heap_alloc_new w _) j)
  rw [show ((⟨w.heap.size, 0, none⟩ : Addr).add j) = ⟨w.heap.size, j, none⟩ by unfold Addr.add; split <;> simp_all]
  rw [this]; simpa using hx
end

theorem encE : Enc 7 Ev.cells := ⟨fun _ => rfl, fun a u hu => by simp [Ev.cells] at hu; rcases hu with rfl | rfl | rfl | rfl | rfl | rfl | rfl <;> rfl⟩
theorem encB : Enc 1 byc := ⟨fun _ => rfl, fun a u hu => by simp [byc] at hu; subst hu; rfl⟩
theorem encS : Enc 1 stc := ⟨fun _ => rfl, fun a u hu => by simp [stc] at hu; subst hu; rfl⟩
abbrev RE := RX 7 Ev.cells
abbrev RBy := RX 1 byc
abbrev RSt := RX 1 stc
theorem RE.at_ {B : Nat} {w : World} {A : Option Addr} {c : Nat} {l : List Ev} (h : RE B w A c l) {k : Nat} (hk : k < l.length) : ∃ (b off : Nat) (a : Ev), A = some ⟨b, off, none⟩ ∧ b < B ∧ l[k]? = some a ∧
    w.cell? ⟨b, off + k * 7, none⟩ = some (.int .i64 a.kind) ∧ w.cell? ⟨b, off + k * 7 + 1, none⟩ = some (.int .i64 a.time) ∧ w.cell? ⟨b, off + k * 7 + 2, none⟩ = some (.int .i64 a.u) ∧ w.cell? ⟨b, off + k * 7 + 3, none⟩ = some (.int .i64 a.v) ∧
    w.cell? ⟨b, off + k * 7 + 4, none⟩ = some (.int .i64 a.weight) ∧ w.cell? ⟨b, off + k * 7 + 5, none⟩ = some (.int .i64 a.label) ∧ w.cell? ⟨b, off + k * 7 + 6, none⟩ = some (.int .i64 a.sign) := by
  obtain ⟨b, off, a, e, hb, ha, hc⟩ := RX.let_ encE (by decide) h hk
  have hj := fun j u hu => Nat.add_assoc off (k * 7) j ▸ hc j u hu
  exact ⟨b, off, a, e, hb, ha, hj 0 _ rfl, hj 1 _ rfl, hj 2 _ rfl, hj 3 _ rfl, hj 4 _ rfl, hj 5 _ rfl, hj 6 _ rfl⟩
theorem RBy.at_ {B : Nat} {w : World} {A : Option Addr} {c : Nat} {l : List UInt8} (h : RBy B w A c l) {k : Nat} (hk : k < l.length) : ∃ (b off : Nat) (a : UInt8), A = some ⟨b, off, none⟩ ∧ b < B ∧ l[k]? = some a ∧ w.cell? ⟨b, off + k, none⟩ = some (.int .u8 a.toNat) := by
  obtain ⟨b, off, a, e, hb, ha, hc⟩ := RX.let_ encB (by decide) h hk
  refine ⟨b, off, a, e, hb, ha, ?_⟩
  have := hc 0 _ rfl
  rwa [Nat.mul_one, Nat.add_zero] at this
theorem RSt.at_ {B : Nat} {w : World} {A : Option Addr} {c : Nat} {l : List ByteArray} (h : RSt B w A c l) {k : Nat} (hk : k < l.length) : ∃ (b off : Nat) (a : ByteArray), A = some ⟨b, off, none⟩ ∧ b < B ∧ l[k]? = some a ∧ w.cell? ⟨b, off + k, none⟩ = some (.string a) := by
  obtain ⟨b, off, a, e, hb, ha, hc⟩ := RX.let_ encS (by decide) h hk
  refine ⟨b, off, a, e, hb, ha, ?_⟩
  have := hc 0 _ rfl
  rwa [Nat.mul_one, Nat.add_zero] at this
theorem cl_byc (l : List UInt8) : cl byc l = byteCells l := by induction l <;> simp_all [cl, byc, byteCells]
theorem cl_stc (l : List ByteArray) : cl stc l = l.map Value.string := by induction l <;> simp_all [cl, stc]

theorem ret_bool {a b : Bool} (h : a = b) : Ending.returned (.bool a) = .returned (.bool b) := by rw [h]
theorem ret_intN {a b : Int} (h : a = b) : Ending.returned (.int .i64 a) = .returned (.int .i64 b) := by rw [h]
theorem below_drewN (w : World) (n : Nat) : Below w.heap.size w (w.drewN n) := ⟨rfl, rfl, rfl, Nat.le_refl _, fun _ _ => rfl⟩
theorem below_new (w : World) (o : Obj) : Below w.heap.size w (w.alloc o) := (Below.refl _ _).alloc (Nat.le_refl _) o
theorem below_undraw {B n : Nat} {w w' : World} (h : Below B (w.drewN n) w') : Below B w w' := ⟨h.os, h.tape, h.output, h.size, h.block⟩
theorem below_le {B B' : Nat} {w w' : World} (h : Below B w w') (hb : B' ≤ B) : Below B' w w' := ⟨h.os, h.tape, h.output, h.size, fun k hk => h.block k (by omega)⟩

/-- an append to a list of the call's own: whatever its elements -/
theorem run_applX {α : Type} {n : Nat} {f : α → List Value} (E : Enc n f) (hn : 0 < n) (t e : TypeId) (z : Value) (bytes : Nat)
    (ht : Tryd.prog.underlying t = some (.slice e)) (hi : (Tryd.prog.info? e).map (fun i => (i.zero, i.size, i.bytes)) = some (some z, n, bytes)) (hzs : z.cells.size = n) (hb16 : bytes ≤ 64) {o : Oper} {a : Act} {K : Act → World → Prop} {Q : Exit → Act → World → Prop} (W : World) (s x : Operand)
    (ho : o.op = .call { callee := .builtin .append, args := #[s, x], argTypes := #[t, t] }) (base : Nat) (A2 : Option Addr) (c2 : Nat) (ks : List α)
    (hs : a.eval s = .slice A2 ks.length c2) (hown : W.ownsRow base e n (.slice A2 ks.length c2) ks.length (cl f ks)) (A' : Option Addr) (c' m : Nat) (news : List α) (hm : news.length = m)
    (hx : a.eval x = .slice A' m c') (hr : RX n f W.heap.size W A' c' news) (hk : ks.length + m ≤ 2000000000000) (hbase : base ≤ W.heap.size)
    (h : ∀ A3 c3 w', Hid (w'.ownsRow base e n (.slice A3 (ks ++ news).length c3) (ks ++ news).length (cl f (ks ++ news))) → Hid (Below base W w') → Hid (W.grownBy w' (Value.slice A2 ks.length c2).ownBlock) → K (a.put o.dst (.slice A3 (ks ++ news).length c3)) w') :
    o.wp Tryd.prog a W K Q := by
  subst hm
  obtain ⟨i0, hi0, hz0, hz1, hz2⟩ := info_parts hi
  refine wp_append_any _ s x t ho base e i0 _ n bytes ht hi0 hz0 hz1 hz2 hzs hn (.slice A2 ks.length c2) ks.length (cl f ks) hs hown
    _ A' news.length c' (cl f news) hx hr.2 (cl_one E news) (by simp only [maxLen]; omega) (Nat.le_trans (Nat.mul_le_mul hk hb16) (by omega)) hbase ?_
  intro v3 w3 hown3 hg3 hat3
  have hbw : Below base W w3 := (Below.refl _ _).grown hg3 hbase (fun k hk => (hown.lt k hk).1)
  have ho3 : w3.ownsRow base e n v3 (ks ++ news).length (cl f (ks ++ news)) := by rw [cl_append, List.length_append]; exact hown3
  obtain ⟨A3, c3, rfl⟩ := own_formX ho3
  exact h A3 c3 w3 ho3 hbw hg3

theorem own_up {w w' : World} {bs size : Nat} {e : TypeId} {v : Value} {k : Nat} {xs : List Value} (h : w.ownsRow bs e size v k xs) (hb : Below w.heap.size w w') : w'.ownsRow bs e size v k xs :=
  h.kept (row := none) ⟨hb.os, hb.tape, hb.output, hb.size, fun i hi _ => hb.block i hi⟩ (by
    rcases hA : v.ownBlock with _ | b
    · exact .inl rfl
    · exact .inr (by simp))
theorem infoE : (Tryd.prog.info? 23).map (fun i => (i.zero, i.size, i.bytes)) = some (some (.agg #[.int .i64 0, .int .i64 0, .int .i64 0, .int .i64 0, .int .i64 0, .int .i64 0, .int .i64 0]), 7, 56) := by kernel_rfl
theorem infoB : (Tryd.prog.info? 5).map (fun i => (i.zero, i.size, i.bytes)) = some (some (.int .u8 0), 1, 1) := by kernel_rfl
theorem infoS : (Tryd.prog.info? 9).map (fun i => (i.zero, i.size, i.bytes)) = some (some (.string ByteArray.empty), 1, 16) := by kernel_rfl

section
variable {ops : Array Oper} {rest : List Oper} {o : Oper} {a : Act} {Q : Exit → Act → World → Prop} (W : World) (hgd : o.guard = none) (s x : Operand)
  (base : Nat) (A2 : Option Addr) (c2 : Nat)
  include hgd
theorem wpList_applE (ho : o.op = .call { callee := .builtin .append, args := #[s, x], argTypes := #[27, 27] }) (ks : List Ev)
    (hs : a.eval s = .slice A2 ks.length c2) (hown : W.ownsRow base 23 7 (.slice A2 ks.length c2) ks.length (cl Ev.cells ks)) (A' : Option Addr) (c' m : Nat) (news : List Ev) (hm : news.length = m)
    (hx : a.eval x = .slice A' m c') (hr : RE W.heap.size W A' c' news) (hk : ks.length + m ≤ 2000000000000) (hbase : base ≤ W.heap.size)
    (h : ∀ A3 c3 w', Hid (w'.ownsRow base 23 7 (.slice A3 (ks ++ news).length c3) (ks ++ news).length (cl Ev.cells (ks ++ news))) → Hid (Below base W w') → Hid (W.grownBy w' (Value.slice A2 ks.length c2).ownBlock) → wpList Tryd.prog ops Q rest (a.put o.dst (.slice A3 (ks ++ news).length c3)) w') :
    wpList Tryd.prog ops Q (o :: rest) a W :=
  wpList_plain hgd fun _ hK => run_applX encE (by decide) 27 23 _ 56 Tryd.underlying27 infoE rfl (by decide) W s x ho base A2 c2 ks hs hown A' c' m news hm hx hr hk hbase fun A3 c3 w' h1 h2 h3 => hK _ _ (h A3 c3 w' h1 h2 h3)
theorem wpList_applB (ho : o.op = .call { callee := .builtin .append, args := #[s, x], argTypes := #[34, 34] }) (ks : List UInt8)
    (hs : a.eval s = .slice A2 ks.length c2) (hown : W.ownsRow base 5 1 (.slice A2 ks.length c2) ks.length (cl byc ks)) (A' : Option Addr) (c' m : Nat) (news : List UInt8) (hm : news.length = m)
    (hx : a.eval x = .slice A' m c') (hr : RBy W.heap.size W A' c' news) (hk : ks.length + m ≤ 2000000000000) (hbase : base ≤ W.heap.size)
    (h : ∀ A3 c3 w', Hid (w'.ownsRow base 5 1 (.slice A3 (ks ++ news).length c3) (ks ++ news).length (cl byc (ks ++ news))) → Hid (Below base W w') → Hid (W.grownBy w' (Value.slice A2 ks.length c2).ownBlock) → wpList Tryd.prog ops Q rest (a.put o.dst (.slice A3 (ks ++ news).length c3)) w') :
    wpList Tryd.prog ops Q (o :: rest) a W :=
  wpList_plain hgd fun _ hK => run_applX encB (by decide) 34 5 _ 1 Tryd.underlying34 infoB rfl (by decide) W s x ho base A2 c2 ks hs hown A' c' m news hm hx hr hk hbase fun A3 c3 w' h1 h2 h3 => hK _ _ (h A3 c3 w' h1 h2 h3)
theorem wpList_applS (ho : o.op = .call { callee := .builtin .append, args := #[s, x], argTypes := #[66, 66] }) (ks : List ByteArray)
    (hs : a.eval s = .slice A2 ks.length c2) (hown : W.ownsRow base 9 1 (.slice A2 ks.length c2) ks.length (cl stc ks)) (A' : Option Addr) (c' m : Nat) (news : List ByteArray) (hm : news.length = m)
    (hx : a.eval x = .slice A' m c') (hr : RSt W.heap.size W A' c' news) (hk : ks.length + m ≤ 2000000000000) (hbase : base ≤ W.heap.size)
    (h : ∀ A3 c3 w', Hid (w'.ownsRow base 9 1 (.slice A3 (ks ++ news).length c3) (ks ++ news).length (cl stc (ks ++ news))) → Hid (Below base W w') → Hid (W.grownBy w' (Value.slice A2 ks.length c2).ownBlock) → wpList Tryd.prog ops Q rest (a.put o.dst (.slice A3 (ks ++ news).length c3)) w') :
    wpList Tryd.prog ops Q (o :: rest) a W :=
  wpList_plain hgd fun _ hK => run_applX encS (by decide) 66 9 _ 16 Tryd.underlying66 infoS rfl (by decide) W s x ho base A2 c2 ks hs hown A' c' m news hm hx hr hk hbase fun A3 c3 w' h1 h2 h3 => hK _ _ (h A3 c3 w' h1 h2 h3)
end
/-- a deck in block g (a block of the law's own, from base on): the list lies below base, and at says how far it has been used -/
structure Dk (base : Nat) (w : World) (g : Nat) (A : Option Addr) (c : Nat) (L : List Int) (at' : Nat) : Prop where
  blk : w.heap[g]? = some (.cells #[.slice A L.length c, .int .i64 (at' : Nat)] 49)
  le : at' ≤ L.length
  base_le : base ≤ g
  rb : RB base w A c L
theorem Dk.lt {base : Nat} {w : World} {g : Nat} {A : Option Addr} {c : Nat} {L : List Int} {n : Nat} (h : Dk base w g A c L n) : g < w.heap.size := by
  rcases Nat.lt_or_ge g w.heap.size with hlt | hge
  · exact hlt
  · have := h.blk; rw [Array.getElem?_eq_none hge] at this; cases this
theorem Dk.c0 {base : Nat} {w : World} {g : Nat} {A : Option Addr} {c : Nat} {L : List Int} {n : Nat} (h : Dk base w g A c L n) : w.cell? ⟨g, 0, none⟩ = some (.slice A L.length c) := Go.Joins.cell_of_block h.blk 0
theorem Dk.c1 {base : Nat} {w : World} {g : Nat} {A : Option Addr} {c : Nat} {L : List Int} {n : Nat} (h : Dk base w g A c L n) : w.cell? ⟨g, 1, none⟩ = some (.int .i64 (n : Nat)) := Go.Joins.cell_of_block h.blk 1
theorem Dk.f1 {base : Nat} {w : World} {g : Nat} {A : Option Addr} {c : Nat} {L : List Int} {n : Nat} (h : Dk base w g A c L n) : w.frozen? ⟨g, 1, none⟩ = false := Go.Joins.unfrozen_of_block h.blk 1
/-- the deck stays where a callee makes memory, or writes elsewhere -/
theorem Dk.go {base : Nat} {w w' : World} {g : Nat} {A : Option Addr} {c : Nat} {L : List Int} {n : Nat} (h : Dk base w g A c L n) (hb : Below w.heap.size w w') : Dk base w' g A c L n :=
  ⟨(hb.block g h.lt).trans h.blk, h.le, h.base_le, h.rb.go (below_le hb (Nat.le_of_lt (Nat.lt_of_le_of_lt h.base_le h.lt)))⟩
theorem RB.only {B : Nat} {w w' : World} {A : Option Addr} {c : Nat} {l : List Int} {g : Nat} (h : RB B w A c l) (hg : w.grownBy w' (some g)) (hB : B ≤ g) (hw : B ≤ w.heap.size) : RB B w' A c l :=
  ⟨h.1, h.2.keep fun p hp => World.cell?_of_block (hg.block p.block (by omega) (fun e => by injection e with e; omega))⟩
theorem only_drewN {w : World} (n g : Nat) : w.grownBy (w.drewN n) (some g) := ⟨rfl, rfl, rfl, Nat.le_refl _, fun _ _ _ => rfl⟩
theorem only_set {w : World} (n g i : Nat) (u : Value) : w.grownBy ((w.drewN n).setCell ⟨g, i, none⟩ u) (some g) :=
  ⟨rfl, rfl, rfl, by simp [World.setCell, World.drewN], fun k _ hk => by
    have : (w.drewN n).heap[k]? = w.heap[k]? := rfl
    rw [← this]
    exact Below.heap_setCell (w.drewN n) ⟨g, i, none⟩ u k (fun e => hk (by rw [e]))⟩
theorem Dk.set {base : Nat} {w : World} {g : Nat} {A : Option Addr} {c : Nat} {L : List Int} {n m : Nat} (k : Nat) (h : Dk base w g A c L n) (hm : m ≤ L.length) : Dk base ((w.drewN k).setCell ⟨g, 1, none⟩ (.int .i64 (m : Nat))) g A c L m := by
  refine ⟨?_, hm, h.base_le, h.rb.only (only_set k g 1 _) h.base_le (Nat.le_of_lt (Nat.lt_of_le_of_lt h.base_le h.lt))⟩
  have hb : w.heap[g]? = some (.cells #[.slice A L.length c, .int .i64 (n : Nat)] 49) := h.blk
  simp [World.setCell, Array.getElem?_modify, hb]

/-- what Next answers: a number from 0 to n - 1 (0 where there is none), and the deck goes on -/
def NextP (base g : Nat) (A : Option Addr) (c : Nat) (L : List Int) (n : Int) (w : World) (e : Ending) (w' : World) : Prop :=
  ∃ (r : Int) (m : Nat), e = .returned (.int .i64 r) ∧ 0 ≤ r ∧ (r < n ∨ r = 0) ∧ Dk base w' g A c L m ∧ w.grownBy w' (some g)

theorem mod_any (x n : Int) (w : World) (hn : 1 ≤ n) (hn' : n ≤ 4611686018427387904) : Calls Tryd.prog 21 #[.int .i64 x, .int .i64 n] w fun e w' => e = .returned (.int .i64 ((x.tmod n + n) % n)) ∧ w = w' := by
  have h1 := Int.tmod_lt_of_pos x (show (0 : Int) < n by omega)
  have h2 := Int.lt_tmod_of_pos x (show (0 : Int) < n by omega)
  have hz : (n == 0) = false := by rw [beq_eq_false_iff_ne]; omega
  have hz' : n ≠ 0 := by omega
  obtain ⟨t, Ht⟩ : ∃ t, Hid (t = x.tmod n) := ⟨_, rfl⟩
  have h3 : Hid (wrap64 (x.tmod n + n) = t + n) := by show _ = _; rw [Ht.out]; unfold wrap64; omega
  have h4 : Hid ((t + n).tmod n = (t + n) % n) := Int.tmod_eq_emod_of_nonneg (by rw [Ht.out]; omega)
  clear h1 h2
  go_enter Tryd.func21, Tryd.ntmps21
  go_wp2
  go_ret
  refine ⟨ret_intN ?_, rfl⟩
  rw [h3.out, h4.out, Ht.out]

set_option maxHeartbeats 1000000 in
theorem next_any (base g : Nat) (A : Option Addr) (c : Nat) (L : List Int) (m : Nat) (n : Int) (w : World) (D : Dk base w g A c L m) (hL : L.length ≤ 17592186044416) (hn : n ≤ 4611686018427387904) :
    Calls Tryd.prog 8 #[.pointer (some ⟨g, 0, none⟩), .int .i64 n] w (NextP base g A c L n w) := by
  have HD := Lib.hid D
  have k0 := D.c0; have k1 := D.c1; have kf := D.f1; have kl := D.lt
  have kle := D.le
  clear D
  by_cases h1 : n < 1
  · have e1 : decide (n < 1) = true := by simpa using h1
    go_enter Tryd.func8, Tryd.ntmps8
    go_wp2
    go_quiet (fail)
    go_wp2
    go_ret
    exact ⟨0, m, rfl, by omega, .inr rfl, HD.out.go ⟨rfl, rfl, rfl, Nat.le_refl _, fun _ _ => rfl⟩, only_drewN _ _⟩
  · have e1 : decide (n < 1) = false := by simpa using h1
    by_cases h2 : m < L.length
    · obtain ⟨ad, x, rfl, hb, hx, hc⟩ := (HD.out.rb.rd (Nat.le_of_lt (Nat.lt_of_le_of_lt HD.out.base_le kl))).let_ h2
      clear hx
      obtain ⟨bA, oA, hspot⟩ : ∃ b o, ad = ⟨b, o, none⟩ := by
        obtain ⟨ad', x', e, _, _, hc'⟩ := (HD.out.rb.rd (Nat.le_of_lt (Nat.lt_of_le_of_lt HD.out.base_le kl))).let_ (k := 0) (by omega)
        injection e with e
        subst e
        obtain ⟨b, o, sp⟩ := ad
        have := World.cell?_spot hc'
        simp [Addr.add] at this
        subst this
        exact ⟨b, o, rfl⟩
      subst hspot
      rw [Go.WideShapes.add_plain] at hc
      have e2 : decide (L.length ≤ m) = false := by rw [decide_eq_false_iff_not]; omega
      have hr1 := Int.emod_nonneg (x.tmod n + n) (show n ≠ 0 by omega)
      have hr2 := Int.emod_lt_of_pos (x.tmod n + n) (show 0 < n by omega)
      have C15 := Lib.hid (fun w => mod_any x n w (by omega) hn)
      obtain ⟨r, Hr⟩ : ∃ r, Hid (r = (x.tmod n + n) % n) := ⟨_, rfl⟩
      rw [← Hr.out] at C15 hr1 hr2
      go_enter Tryd.func8, Tryd.ntmps8
      go_wp2
      go_quiet (fail)
      go_wp2
      go_quiet (fail)
      go_wp2_with (go_at_call 21; refine (C15.out _).mono ?_; rintro e w' ⟨rfl, rfl⟩)
      go_ret
      refine ⟨r, m + 1, rfl, hr1, .inl hr2, ?_, only_set _ _ _ _⟩
      exact HD.out.set (m := m + 1) _ (by omega)
    · have e2 : decide (L.length ≤ m) = true := by rw [decide_eq_true_eq]; omega
      go_enter Tryd.func8, Tryd.ntmps8
      go_wp2
      go_quiet (fail)
      go_wp2
      go_ret
      exact ⟨0, m, rfl, by omega, .inr rfl, HD.out.go ⟨rfl, rfl, rfl, Nat.le_refl _, fun _ _ => rfl⟩, only_drewN _ _⟩

theorem new_any (A : Option Addr) (c : Nat) (L : List Int) (w : World) (h : RD w A c L) :
    Calls Tryd.prog 6 #[.slice A L.length c] w fun e w' => e = .returned (.pointer (some ⟨w.heap.size, 0, none⟩)) ∧ Dk w.heap.size w' w.heap.size A c L 0 ∧ Below w.heap.size w w' := by
  have H := Lib.hid h
  clear h
  go_enter Tryd.func6, Tryd.ntmps6
  go_wp2
  go_ret
  refine ⟨rfl, ⟨heap_alloc_new _ _, Nat.zero_le _, Nat.le_refl _, ?_⟩, (Below.refl _ _).alloc (Nat.le_refl _) _⟩
  exact (RD.rb H.out).go ((Below.refl _ _).alloc (Nat.le_refl _) _)
theorem Dk.goB {base B : Nat} {w w' : World} {g : Nat} {A : Option Addr} {c : Nat} {L : List Int} {n : Nat} (h : Dk base w g A c L n) (hb : Below B w w') (hB : g < B) : Dk base w' g A c L n :=
  ⟨(hb.block g hB).trans h.blk, h.le, h.base_le, h.rb.go ⟨hb.os, hb.tape, hb.output, hb.size, fun k hk => hb.block k (by have := h.base_le; omega)⟩⟩
theorem grown_below {w w1 w2 : World} {g B : Nat} (h : w.grownBy w1 (some g)) (hb : Below B w1 w2) (hB : w.heap.size ≤ B) : w.grownBy w2 (some g) :=
  ⟨hb.os.trans h.os, hb.tape.trans h.tape, hb.output.trans h.output, Nat.le_trans h.size hb.size, fun i hi hne => (hb.block i (by omega)).trans (h.block i hi hne)⟩
theorem grown_trans {w w1 w2 : World} {g : Nat} (h : w.grownBy w1 (some g)) (h2 : w1.grownBy w2 (some g)) : w.grownBy w2 (some g) :=
  ⟨h2.os.trans h.os, h2.tape.trans h.tape, h2.output.trans h.output, Nat.le_trans h.size h2.size, fun i hi hne => (h2.block i (Nat.lt_of_lt_of_le hi h.size) hne).trans (h.block i hi hne)⟩
theorem grown_refl (w : World) (g : Nat) : w.grownBy w (some g) := ⟨rfl, rfl, rfl, Nat.le_refl _, fun _ _ _ => rfl⟩
theorem own_kept {w w' : World} {base e size : Nat} {v : Value} {n g : Nat} {xs : List Value} (h : w.ownsRow base e size v n xs) (hg : w.grownBy w' (some g)) (hb : g < base) : w'.ownsRow base e size v n xs :=
  h.kept hg (.inr fun h0 => by have := (h.lt _ h0).1; omega)

end Go.Proofs.YtnohmgmpabckkaaDoor
