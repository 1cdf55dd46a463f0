/-
  Joined texts: a, b, c, d, e, f, g, h, i.
-/
import Derived.Test.YtagkpkkbkeefbaaNn
import Derived.WalkKit
import Derived.LoopTactic
import Derived.Deep.QuietTactic
import Derived.BigQuiet
import Derived.Lib.Hide
import Derived.OpenShut
import Derived.Test.YtagkpkkbkeefbaaQt
import Derived.Deep.CutBlock
import Derived.Deep.CutRange
import Derived.Deep.DeepCutAuto
import Derived.Deep.RegionLaw
import Derived.IntWalk
/-
  Words for lists of edges (pairs of integers, two cells each), and the small functions of the reference over edges.
-/
namespace Go.Proofs.Ytagkpkkbkeefbaa
open Go.RowKit

abbrev Ed := Int × Int
def ev (l : List Ed) : List Value := l.flatMap fun e => [.int .i64 e.1, .int .i64 e.2]
theorem len_ev (l : List Ed) : (ev l).length = l.length * 2 := by induction l <;> simp_all [ev]; omega
theorem ev_append (a b : List Ed) : ev (a ++ b) = ev a ++ ev b := by simp [ev]
theorem ev_one (l : List Ed) : ∀ u ∈ ev l, u.oneCell' = true := by
  intro u hu
  obtain ⟨x, _, hx⟩ := List.mem_flatMap.1 hu
  simp at hx
  rcases hx with rfl | rfl <;> rfl
theorem ev_at (l : List Ed) (k : Nat) (e : Ed) (h : l[k]? = some e) : (ev l)[k * 2]? = some (.int .i64 e.1) ∧ (ev l)[k * 2 + 1]? = some (.int .i64 e.2) := by
  induction l generalizing k with
  | nil => simp at h
  | cons x l ih =>
    cases k with
    | zero => simp at h; subst h; simp [ev]
    | succ k =>
      have := ih k (by simpa using h)
      have e1 : ev (x :: l) = .int .i64 x.1 :: .int .i64 x.2 :: ev l := by simp [ev]
      rw [e1, show (k + 1) * 2 = k * 2 + 1 + 1 by omega]
      exact this
theorem ev_drop (l : List Ed) (k : Nat) : (ev l).drop (k * 2) = ev (l.drop k) := by
  induction l generalizing k with
  | nil => simp [ev]
  | cons x l ih =>
    cases k with
    | zero => simp
    | succ k =>
      have e1 : ev (x :: l) = .int .i64 x.1 :: .int .i64 x.2 :: ev l := by simp [ev]
      rw [e1, show (k + 1) * 2 = k * 2 + 1 + 1 by omega]
      simpa using ih k
theorem ev_take (l : List Ed) (k : Nat) : (ev l).take (k * 2) = ev (l.take k) := by
  induction l generalizing k with
  | nil => simp [ev]
  | cons x l ih =>
    cases k with
    | zero => simp [ev]
    | succ k =>
      have e1 : ev (x :: l) = .int .i64 x.1 :: .int .i64 x.2 :: ev l := by simp [ev]
      have e2 : ev (x :: l.take k) = .int .i64 x.1 :: .int .i64 x.2 :: ev (l.take k) := by simp [ev]
      rw [e1, show (k + 1) * 2 = k * 2 + 1 + 1 by omega, show (x :: l).take (k + 1) = x :: l.take k from rfl, e2]
      simp [ih k]

/-- a slice value reads as a list of edges, in memory below block B -/
def RE (B : Nat) (w : World) (A : Option Addr) (c : Nat) (l : List Ed) : Prop := l.length ≤ c ∧ Reads w B 2 A l.length (ev l)
section
variable {B : Nat} {w w' : World} {A : Option Addr} {c : Nat} {l : List Ed}
theorem RE.go (h : RE B w A c l) (hb : Below B w w') : RE B w' A c l := ⟨h.1, h.2.below hb⟩
theorem RE.more {B' : Nat} (h : RE B w A c l) (hB : B ≤ B') : RE B' w A c l := ⟨h.1, h.2.more hB⟩
theorem RE.up (h : RE w.heap.size w A c l) (hb : Below w.heap.size w w') : RE w'.heap.size w' A c l := (h.go hb).more hb.size
theorem RE.alloc (h : RE w.heap.size w A c l) (o : Obj) : RE w.heap.size (w.alloc o) A c l := h.go ((Below.refl _ _).alloc (Nat.le_refl _) o)
theorem RE.nil_ (B : Nat) (w : World) (A : Option Addr) (c : Nat) : RE B w A c [] := ⟨Nat.zero_le _, by simp [ev], fun h => absurd h (by simp)⟩
theorem RE.let_ (h : RE B w A c l) {k : Nat} (hk : k < l.length) : ∃ (b off : Nat) (u v : Int), A = some ⟨b, off, none⟩ ∧ b < B ∧ l[k]? = some (u, v) ∧ w.cell? ⟨b, off + k * 2, none⟩ = some (.int .i64 u) ∧ w.cell? ⟨b, off + k * 2 + 1, none⟩ = some (.int .i64 v) := by
  obtain ⟨ad, e, hb, hc⟩ := h.2.2 (by omega)
  have he : l[k]? = some l[k] := List.getElem?_eq_getElem hk
  obtain ⟨h1, h2⟩ := ev_at l k _ he
  have h0 : ∃ u, (ev l)[0]? = some u := ⟨_, List.getElem?_eq_getElem (by rw [len_ev]; omega)⟩
  obtain ⟨b, off, spot⟩ := ad
  have hspot : spot = none := by
    obtain ⟨u, hu⟩ := h0
    simpa [Addr.add] using World.cell?_spot (hc 0 u hu)
  subst hspot
  refine ⟨b, off, l[k].1, l[k].2, e, hb, he, ?_, ?_⟩
  · have := hc _ _ h1
    rwa [Go.WideShapes.add_plain] at this
  · have := hc _ _ h2
    rwa [Go.WideShapes.add_plain] at this
theorem RE.tail_ (h : RE B w A c l) {k : Nat} (hk : k ≤ l.length) : RE B w (if c = k then A else A.map (·.add (k * 2))) (c - k) (l.drop k) := by
  refine ⟨by have := h.1; simp; omega, ?_⟩
  have := h.2.cut (k := k) (cap := c) hk h.1
  rw [ev_drop] at this
  rw [List.length_drop]
  exact this
theorem RE.front (h : RE B w A c l) {k : Nat} (hk : k ≤ l.length) : RE B w A c (l.take k) := by
  refine ⟨by have := h.1; simp; omega, by rw [len_ev], fun h0 => ?_⟩
  obtain ⟨ad, e, hb, hc⟩ := h.2.2 (by simp at h0; omega)
  refine ⟨ad, e, hb, fun j u hu => hc j u ?_⟩
  rw [← ev_take, List.getElem?_take] at hu
  split at hu
  · exact hu
  · simp at hu
theorem RE.of_own {base : Nat} {e : TypeId} (h : w.ownsRow base e 2 (.slice A l.length c) l.length (ev l)) : RE w.heap.size w A c l := by
  refine ⟨?_, Reads.of_own h⟩
  rcases h.2 with ⟨e0, _⟩ | ⟨g, cap, cur, e0, _, _, hn, _⟩
  · injection e0 with _ e1 e2; omega
  · injection e0 with _ _ e2; omega
end
def bef (a b : Ed) : Bool := decide (a.1 < b.1) || (decide (a.1 = b.1) && decide (a.2 < b.2))
theorem before_any (u v x y : Int) (w : World) : Calls Try.prog 35 #[.agg #[.int .i64 u, .int .i64 v], .agg #[.int .i64 x, .int .i64 y]] w fun e w' => e = .returned (.bool (bef (u, v) (x, y))) ∧ Below w.heap.size w w' := by
  have hB : Below w.heap.size w ((w.alloc (.cells #[.int .i64 u, .int .i64 v] 69)).alloc (.cells #[.int .i64 x, .int .i64 y] 69)) := ((Below.refl _ _).alloc (Nat.le_refl _) _).alloc (by simp) _
  by_cases h1 : u < x
  · have HR := Lib.hid (show bef (u, v) (x, y) = true by simp [bef, h1])
    go_enter Try.func35, Try.ntmps35
    go_wp2
    go_ret
    exact ⟨ret_bool HR.out.symm, hB⟩
  · by_cases h2 : u = x
    · subst h2
      have hd : (u == u) = true := by simp
      by_cases h3 : v < y
      · have HR := Lib.hid (show bef (u, v) (u, y) = true by simp [bef, h3])
        go_enter Try.func35, Try.ntmps35
        go_wp2
        go_ret
        exact ⟨ret_bool HR.out.symm, hB⟩
      · have HR := Lib.hid (show bef (u, v) (u, y) = false by simp [bef, h3])
        go_enter Try.func35, Try.ntmps35
        go_wp2
        go_ret
        exact ⟨ret_bool HR.out.symm, hB⟩
    · have hd : (u == x) = false := by simpa using h2
      have HR := Lib.hid (show bef (u, v) (x, y) = false by simp [bef, h1, h2])
      clear h2
      go_enter Try.func35, Try.ntmps35
      go_wp2
      go_ret
      exact ⟨ret_bool HR.out.symm, hB⟩

def endsB (n u v : Int) : Bool := decide (0 ≤ u) && decide (0 ≤ v) && decide (u < n) && decide (v < n) && !decide (u = v)

end Go.Proofs.Ytagkpkkbkeefbaa

/-
  The reference's SameEdges, Same and Check.
-/
namespace Go.Proofs.Ytagkpkkbkeefbaa
open Go.RowKit

def eqE (a b : List Ed) : Bool := decide (a = b)
theorem take_succ_e {α : Type} (l : List α) (y : α) (k : Nat) (h : l[k]? = some y) : l.take (k + 1) = l.take k ++ [y] := by
  obtain ⟨hk, rfl⟩ := List.getElem?_eq_some_iff.1 h
  exact List.take_succ_eq_append_getElem hk
theorem eqE_len (a b : List Ed) (h : a.length ≠ b.length) : eqE a b = false := by
  simp only [eqE, decide_eq_false_iff_not]; rintro rfl; exact h rfl
theorem eqE_at (a b : List Ed) (k : Nat) (x y : Ed) (h1 : a[k]? = some x) (h2 : b[k]? = some y) (h : x ≠ y) : eqE a b = false := by
  simp only [eqE, decide_eq_false_iff_not]; rintro rfl; rw [h1] at h2; injection h2 with h2; exact h h2
theorem draws1 (w : World) (a b : Nat) : ∃ m, (w.drewN a).drewN b = w.drewN m := ⟨_, World.drewN_drewN _ _ _⟩

set_option maxHeartbeats 1000000 in
theorem sameE_any (A B : Option Addr) (c d : Nat) (a b : List Ed) (w : World) (h : RE w.heap.size w A c a) (h' : RE w.heap.size w B d b) (hl : a.length ≤ 65536) (_hl' : b.length ≤ 65536) :
    Calls Try.prog 48 #[.slice A a.length c, .slice B b.length d] w fun e w' => e = .returned (.bool (eqE a b)) ∧ ∃ n, w' = w.drewN n := by
  by_cases hlen : a.length = b.length
  · have hd : ((a.length : Int) != (b.length : Int)) = false := by rw [hlen]; simp
    have HL := Lib.hid hlen
    clear hlen
    go_enter Try.func48, Try.ntmps48
    go_wp2
    go_loopw [13] (fun i wr => ∃ (k n : Nat), k ≤ a.length ∧ i = .int .i64 k ∧ wr = w.drewN n ∧ Hid (a.take k = b.take k)) (fun i _ => a.length - (RowKit.intOf i).toNat)
    case atStart => exact ⟨0, 0, Nat.zero_le _, rfl, rfl, rfl⟩
    case round =>
      obtain ⟨k, n, hk, rfl, rfl, HN⟩ := hrel
      by_cases hlt : k < a.length
      · have hltb : k < b.length := by rw [← HL.out]; exact hlt
        obtain ⟨ba, oa, u, v, rfl, hb, hx, hc0, hc1⟩ := h.let_ hlt
        obtain ⟨be, oe, x, y, rfl, hb', hy, hd0, hd1⟩ := h'.let_ hltb
        have HX := Lib.hid hx
        have HY := Lib.hid hy
        clear hx hy
        by_cases h1 : u = x
        · by_cases h2 : v = y
          · subst h1; subst h2
            have e1 : (u == u) = true := by simp
            have e2 : (v == v) = true := by simp
            have HR : Hid (a.take (k + 1) = b.take (k + 1)) := by
              show _ = _
              rw [take_succ_e a _ k HX.out, take_succ_e b _ k HY.out, HN.out]
            go_wp2
            go_quiet (fail)
            go_wp2
            go_roundw
            case rel => exact ⟨k + 1, _, by omega, by go_num, rfl, HR.out⟩
            case measure => simp [RowKit.intOf]; omega
          · have e2 : (v == y) = false := by simpa using h2
            have HR := Lib.hid (eqE_at a b k _ _ HX.out HY.out (fun h0 => h2 (by injection h0)))
            clear h2
            go_wp2
            go_quiet (fail)
            go_wp2
            go_ret
            exact ⟨ret_bool HR.out.symm, by first | exact ⟨_, rfl⟩ | exact draws1 _ _ _⟩
        · have e1 : (u == x) = false := by simpa using h1
          have HR := Lib.hid (eqE_at a b k _ _ HX.out HY.out (fun h0 => h1 (by injection h0)))
          clear h1
          go_wp2
          go_quiet (fail)
          go_wp2
          go_ret
          exact ⟨ret_bool HR.out.symm, by first | exact ⟨_, rfl⟩ | exact draws1 _ _ _⟩
      · have HR : Hid (eqE a b = true) := by
          show _ = _
          have := HN.out
          rw [List.take_of_length_le (by omega), List.take_of_length_le (by rw [← HL.out]; omega)] at this
          simpa [eqE] using this
        go_wp2
        go_ret
        exact ⟨ret_bool HR.out.symm, _, rfl⟩
  · have hd : ((a.length : Int) != (b.length : Int)) = true := by simp; omega
    have HR := Lib.hid (eqE_len a b hlen)
    clear hlen
    go_enter Try.func48, Try.ntmps48
    go_wp2
    go_ret
    exact ⟨ret_bool HR.out.symm, 0, rfl⟩

def sameG (n m : Int) (a b : List Ed) : Bool := decide (n = m) && eqE a b
theorem sameG_any (n m : Int) (A B : Option Addr) (c d : Nat) (a b : List Ed) (w : World) (h : RE w.heap.size w A c a) (h' : RE w.heap.size w B d b) (hl : a.length ≤ 65536) (hl' : b.length ≤ 65536) :
    Calls Try.prog 28 #[.agg #[.int .i64 n, .slice A a.length c], .agg #[.int .i64 m, .slice B b.length d]] w fun e w' => e = .returned (.bool (sameG n m a b)) ∧ Below w.heap.size w w' := by
  have H := Lib.hid h
  have H' := Lib.hid h'
  clear h h'
  have hB : Below w.heap.size w ((w.alloc (.cells #[.int .i64 n, .slice A a.length c] 54)).alloc (.cells #[.int .i64 m, .slice B b.length d] 54)) := ((Below.refl _ _).alloc (Nat.le_refl _) _).alloc (by simp) _
  have HB := Lib.hid hB
  by_cases h1 : n = m
  · subst h1
    have HR := Lib.hid (show sameG n n a b = eqE a b by simp [sameG])
    have e1 : (n == n) = true := by simp
    go_enter Try.func28, Try.ntmps28
    go_wp2_with fail
    refine (sameE_any A B c d a b _ (H.out.up hB) (H'.out.up hB) hl hl').mono ?_
    rintro e w1 ⟨rfl, k, rfl⟩
    go_wp2
    go_ret
    exact ⟨ret_bool HR.out.symm, HB.out.trans ⟨rfl, rfl, rfl, Nat.le_refl _, fun _ _ => rfl⟩⟩
  · have HR := Lib.hid (show sameG n m a b = false by simp [sameG, h1])
    have e1 : (n == m) = false := by simpa using h1
    clear h1
    go_enter Try.func28, Try.ntmps28
    go_wp2
    go_ret
    exact ⟨ret_bool HR.out.symm, HB.out⟩
end Go.Proofs.Ytagkpkkbkeefbaa

/-
  The reference's Check.
-/
namespace Go.Proofs.Ytagkpkkbkeefbaa
open Go.RowKit

/-- the first error of the edges of a graph of n nodes, behind an edge p -/
def ck (n : Int) : Option Ed → List Ed → Int
  | _, [] => 0
  | p, e :: l => if e.1 < 0 ∨ e.2 ≤ e.1 ∨ n ≤ e.2 then 6 else if (match p with | some q => !bef q e | none => false) then 5 else ck n (some e) l
def chk (n : Int) (l : List Ed) : Int := if n < 0 ∨ 64 < n then 1 else ck n none l
theorem drop_at_e {α : Type} (l : List α) (y : α) (k : Nat) (h : l[k]? = some y) : l.drop k = y :: l.drop (k + 1) := by
  obtain ⟨hk, rfl⟩ := List.getElem?_eq_some_iff.1 h
  exact List.drop_eq_getElem_cons hk
def pre (l : List Ed) (k : Nat) : Option Ed := if k = 0 then none else l[k - 1]?
theorem ck_node (n : Int) (l : List Ed) (k : Nat) (e : Ed) (h : l[k]? = some e) (p : Option Ed) (h1 : e.1 < 0 ∨ e.2 ≤ e.1 ∨ n ≤ e.2) : ck n p (l.drop k) = 6 := by
  rw [drop_at_e l e k h]; unfold ck; rw [if_pos h1]
theorem ck_order (n : Int) (l : List Ed) (k : Nat) (e q : Ed) (h : l[k]? = some e) (h1 : ¬ (e.1 < 0 ∨ e.2 ≤ e.1 ∨ n ≤ e.2)) (hb : bef q e = false) : ck n (some q) (l.drop k) = 5 := by
  rw [drop_at_e l e k h]; unfold ck; rw [if_neg h1, if_pos (by simp [hb])]
theorem ck_next (n : Int) (l : List Ed) (k : Nat) (e q : Ed) (h : l[k]? = some e) (h1 : ¬ (e.1 < 0 ∨ e.2 ≤ e.1 ∨ n ≤ e.2)) (hb : bef q e = true) : ck n (some q) (l.drop k) = ck n (some e) (l.drop (k + 1)) := by
  rw [drop_at_e l e k h]
  show (if _ then _ else if _ then _ else _) = _
  rw [if_neg h1, if_neg (by simp [hb])]
theorem ck_first (n : Int) (l : List Ed) (k : Nat) (e : Ed) (h : l[k]? = some e) (h1 : ¬ (e.1 < 0 ∨ e.2 ≤ e.1 ∨ n ≤ e.2)) : ck n none (l.drop k) = ck n (some e) (l.drop (k + 1)) := by
  rw [drop_at_e l e k h]
  show (if _ then _ else if _ then _ else _) = _
  rw [if_neg h1, if_neg (by simp)]
theorem ck_end (n : Int) (l : List Ed) (k : Nat) (p : Option Ed) (h : l.length ≤ k) : ck n p (l.drop k) = 0 := by rw [List.drop_eq_nil_of_le h]; rfl
theorem pre_succ (l : List Ed) (k : Nat) (e : Ed) (h : l[k]? = some e) : pre l (k + 1) = some e := by simp [pre, h]

end Go.Proofs.Ytagkpkkbkeefbaa

/-
  The reference's Find, Neighbours, Degree.
-/
namespace Go.Proofs.Ytagkpkkbkeefbaa
open Go.RowKit

def edg (u v : Int) : Ed := (min u v, max u v)
/-- the place of an edge -/
def fnd (e : Ed) : Nat → List Ed → Int
  | _, [] => -1
  | k, x :: l => if x = e then (k : Int) else fnd e (k + 1) l
theorem fnd_hit (e : Ed) (l : List Ed) (k : Nat) (h : l[k]? = some e) : fnd e k (l.drop k) = k := by
  rw [drop_at_e l e k h]; unfold fnd; rw [if_pos rfl]
theorem fnd_next (e x : Ed) (l : List Ed) (k : Nat) (h : l[k]? = some x) (hne : x ≠ e) : fnd e k (l.drop k) = fnd e (k + 1) (l.drop (k + 1)) := by
  rw [drop_at_e l x k h]
  show (if x = e then _ else _) = _
  rw [if_neg hne]
theorem fnd_end (e : Ed) (l : List Ed) (k : Nat) (h : l.length ≤ k) : fnd e k (l.drop k) = -1 := by rw [List.drop_eq_nil_of_le h]; rfl
def find (n : Int) (l : List Ed) (u v : Int) : Int := if chk n l = 0 then fnd (edg u v) 0 l else -1

/-- what stays known of a function's first box, a graph by value -/
structure Gb (w : World) (g : Nat) (n : Int) (A : Option Addr) (c : Nat) (l : List Ed) (wr : World) : Prop where
  blk : wr.heap[g]? = some (.cells #[.int .i64 n, .slice A l.length c] 54)
  lt : g < wr.heap.size
  re : RE wr.heap.size wr A c l
  bel : Below w.heap.size w wr
theorem Gb.start {w : World} {n : Int} {A : Option Addr} {c : Nat} {l : List Ed} (h : RE w.heap.size w A c l) : Gb w w.heap.size n A c l (w.alloc (.cells #[.int .i64 n, .slice A l.length c] 54)) :=
  ⟨heap_alloc_new _ _, by simp, h.up ((Below.refl _ _).alloc (Nat.le_refl _) _), (Below.refl _ _).alloc (Nat.le_refl _) _⟩
theorem Gb.go {w wr w' : World} {g : Nat} {n : Int} {A : Option Addr} {c : Nat} {l : List Ed} (h : Gb w g n A c l wr) (hb : Below wr.heap.size wr w') : Gb w g n A c l w' :=
  ⟨(hb.block g h.lt).trans h.blk, Nat.lt_of_lt_of_le h.lt hb.size, h.re.up hb, h.bel.trans (hb.mono h.bel.size)⟩
theorem Gb.c0 {w wr : World} {g : Nat} {n : Int} {A : Option Addr} {c : Nat} {l : List Ed} (h : Gb w g n A c l wr) : wr.cell? ⟨g, 0, none⟩ = some (.int .i64 n) := Go.Joins.cell_of_block h.blk 0
theorem Gb.c1 {w wr : World} {g : Nat} {n : Int} {A : Option Addr} {c : Nat} {l : List Ed} (h : Gb w g n A c l wr) : wr.cell? ⟨g, 1, none⟩ = some (.slice A l.length c) := Go.Joins.cell_of_block h.blk 1

end Go.Proofs.Ytagkpkkbkeefbaa

/-
  The reference's Neighbours, Degree and Common.
-/
namespace Go.Proofs.Ytagkpkkbkeefbaa
open Go.RowKit Go.Lib

/-- as wpList_push, and what else stays: every block but the list's own -/
theorem wpList_pushG {ops : Array Oper} {rest : List Oper} {o : Oper} {a : Act} {Q : Exit → Act → World → Prop} (W : World) (hgd : o.guard = none) (s x : Operand)
    (ho : o.op = .call { callee := .builtin .append, args := #[s, x], argTypes := #[27, 27] }) (base : Nat) (A2 : Option Addr) (c2 : Nat) (ks : List Int) (z : Int)
    (hs : a.eval s = .slice A2 ks.length c2) (hown : W.ownsRow base 3 1 (.slice A2 ks.length c2) ks.length (vals ks)) (hx : a.eval x = .slice (some ⟨W.heap.size, 0, none⟩) 1 1)
    (hk : ks.length ≤ 200000) (hbase : base ≤ W.heap.size)
    (h : ∀ A3 c3 w', Hid (w'.ownsRow base 3 1 (.slice A3 (ks ++ [z]).length c3) (ks ++ [z]).length (vals (ks ++ [z]))) → Hid (Below base W w') → Hid (W.grownBy w' (Value.slice A2 ks.length c2).ownBlock) → wpList Try.prog ops Q rest (a.put o.dst (.slice A3 (ks ++ [z]).length c3)) w') :
    wpList Try.prog ops Q (o :: rest) a (W.alloc (.cells #[.int .i64 z] 3)) := by
  obtain ⟨i0, hi0, hz0, hz1, hz2⟩ := info_parts int_info
  refine wpList_append_any _ hgd s x 27 ho base 3 i0 _ 1 8 Try.underlying27 hi0 hz0 hz1 hz2 rfl (by omega) (.slice A2 ks.length c2) ks.length (vals ks) hs (hown.alloc _)
    _ (some ⟨W.heap.size, 0, none⟩) 1 1 [.int .i64 z] hx (reads_new1 W z 3) (by simp [Value.oneCell']) (by simp only [maxLen]; omega) (by omega) (by simp; omega) ?_
  intro v3 w3 hown3 hg3 hat3
  have hbw : Below base W w3 := below_grown1 (w1 := W) (Below.refl _ _) hg3 (fun k hk => (hown.lt k hk).1) hbase
  have hgr : W.grownBy w3 (Value.slice A2 ks.length c2).ownBlock :=
    ⟨hbw.os, hbw.tape, hbw.output, hbw.size, fun i hi hne => (hg3.block i (by simp; omega) hne).trans (Below.heap_alloc W _ i hi)⟩
  have ho3 : w3.ownsRow base 3 1 v3 (ks ++ [z]).length (vals (ks ++ [z])) := by rw [vals_append, List.length_append]; exact hown3
  obtain ⟨A3, c3, rfl⟩ := own_form ho3
  exact h A3 c3 w3 ho3 hbw hgr

/-- what edges say of a node's neighbours, in their order -/
def rawN (v : Int) (l : List Ed) : List Int := l.flatMap fun e => (if e.1 = v then [e.2] else []) ++ (if e.2 = v then [e.1] else [])
theorem rawN_succ (v : Int) (l : List Ed) (x y : Int) (k : Nat) (h : l[k]? = some (x, y)) : rawN v (l.take (k + 1)) = rawN v (l.take k) ++ (if x = v then [y] else []) ++ (if y = v then [x] else []) := by
  rw [take_succ_e l _ k h]; simp [rawN]
theorem rawN_len (v : Int) (l : List Ed) (k : Nat) (hk : k ≤ l.length) : (rawN v (l.take k)).length ≤ 2 * k := by
  induction k with
  | zero => simp [rawN]
  | succ k ih =>
    have h := List.getElem?_eq_getElem (l := l) (i := k) (by omega)
    rw [rawN_succ v l l[k].1 l[k].2 k h]
    have := ih (by omega)
    simp only [List.length_append]
    split <;> split <;> simp <;> omega
def nbr (n : Int) (l : List Ed) (v : Int) : List Int := if chk n l = 0 then Ns.norm (rawN v l) else []
theorem nbr_len (n : Int) (l : List Ed) (v : Int) : (nbr n l v).length ≤ 2 * l.length := by
  unfold nbr
  split
  · have h1 := Ns.len_norm (rawN v l)
    have h2 := rawN_len v l l.length (Nat.le_refl _)
    rw [List.take_length] at h2
    omega
  · simp


end Go.Proofs.Ytagkpkkbkeefbaa

/-
  The deck: a list of numbers from which choices are made; New, Next, Mod.
-/
namespace Go.Proofs.Ytagkpkkbkeefbaa
open Go.RowKit Go.Lib

/-- a deck in block g (a block of the law's own, from base on): the list lies below base, and at says how far it has been used -/
structure Dk (base : Nat) (w : World) (g : Nat) (A : Option Addr) (c : Nat) (L : List Int) (at' : Nat) : Prop where
  blk : w.heap[g]? = some (.cells #[.slice A L.length c, .int .i64 (at' : Nat)] 66)
  le : at' ≤ L.length
  base_le : base ≤ g
  rb : RB base w A c L
theorem Dk.lt {base : Nat} {w : World} {g : Nat} {A : Option Addr} {c : Nat} {L : List Int} {n : Nat} (h : Dk base w g A c L n) : g < w.heap.size := by
  rcases Nat.lt_or_ge g w.heap.size with hlt | hge
  · exact hlt
  · have := h.blk; rw [Array.getElem?_eq_none hge] at this; cases this
theorem Dk.c0 {base : Nat} {w : World} {g : Nat} {A : Option Addr} {c : Nat} {L : List Int} {n : Nat} (h : Dk base w g A c L n) : w.cell? ⟨g, 0, none⟩ = some (.slice A L.length c) := Go.Joins.cell_of_block h.blk 0
theorem Dk.c1 {base : Nat} {w : World} {g : Nat} {A : Option Addr} {c : Nat} {L : List Int} {n : Nat} (h : Dk base w g A c L n) : w.cell? ⟨g, 1, none⟩ = some (.int .i64 (n : Nat)) := Go.Joins.cell_of_block h.blk 1
theorem Dk.f1 {base : Nat} {w : World} {g : Nat} {A : Option Addr} {c : Nat} {L : List Int} {n : Nat} (h : Dk base w g A c L n) : w.frozen? ⟨g, 1, none⟩ = false := Go.Joins.unfrozen_of_block h.blk 1
/-- the deck stays where a callee makes memory, or writes elsewhere -/
theorem Dk.go {base : Nat} {w w' : World} {g : Nat} {A : Option Addr} {c : Nat} {L : List Int} {n : Nat} (h : Dk base w g A c L n) (hb : Below w.heap.size w w') : Dk base w' g A c L n :=
  ⟨(hb.block g h.lt).trans h.blk, h.le, h.base_le, h.rb.go (below_le' hb (Nat.le_of_lt (Nat.lt_of_le_of_lt h.base_le h.lt)))⟩
  where below_le' {B B' : Nat} {w w' : World} (h : Below B w w') (hb : B' ≤ B) : Below B' w w' := ⟨h.os, h.tape, h.output, h.size, fun k hk => h.block k (by omega)⟩
theorem RB.only {B : Nat} {w w' : World} {A : Option Addr} {c : Nat} {l : List Int} {g : Nat} (h : RB B w A c l) (hg : w.grownBy w' (some g)) (hB : B ≤ g) (hw : B ≤ w.heap.size) : RB B w' A c l :=
  ⟨h.1, h.2.keep fun p hp => World.cell?_of_block (hg.block p.block (by omega) (fun e => by injection e with e; omega))⟩
theorem only_drewN {w : World} (n g : Nat) : w.grownBy (w.drewN n) (some g) := ⟨rfl, rfl, rfl, Nat.le_refl _, fun _ _ _ => rfl⟩
theorem only_set {w : World} (n g i : Nat) (u : Value) : w.grownBy ((w.drewN n).setCell ⟨g, i, none⟩ u) (some g) :=
  ⟨rfl, rfl, rfl, by simp [World.setCell, World.drewN], fun k _ hk => by
    have : (w.drewN n).heap[k]? = w.heap[k]? := rfl
    rw [← this]
    exact Below.heap_setCell (w.drewN n) ⟨g, i, none⟩ u k (fun e => hk (by rw [e]))⟩
theorem Dk.set {base : Nat} {w : World} {g : Nat} {A : Option Addr} {c : Nat} {L : List Int} {n m : Nat} (k : Nat) (h : Dk base w g A c L n) (hm : m ≤ L.length) : Dk base ((w.drewN k).setCell ⟨g, 1, none⟩ (.int .i64 (m : Nat))) g A c L m := by
  refine ⟨?_, hm, h.base_le, h.rb.only (only_set k g 1 _) h.base_le (Nat.le_of_lt (Nat.lt_of_le_of_lt h.base_le h.lt))⟩
  have hb : w.heap[g]? = some (.cells #[.slice A L.length c, .int .i64 (n : Nat)] 66) := h.blk
  simp [World.setCell, Array.getElem?_modify, hb]

theorem ret_intN {a b : Int} (h : a = b) : Ending.returned (.int .i64 a) = .returned (.int .i64 b) := by rw [h]
/-- what Next answers: a number from 0 to n - 1 (0 where there is none), and the deck goes on -/
def NextP (base g : Nat) (A : Option Addr) (c : Nat) (L : List Int) (n : Int) (w : World) (e : Ending) (w' : World) : Prop :=
  ∃ (r : Int) (m : Nat), e = .returned (.int .i64 r) ∧ 0 ≤ r ∧ (r < n ∨ r = 0) ∧ Dk base w' g A c L m ∧ w.grownBy w' (some g)

theorem mod_any (x n : Int) (w : World) (hn : 1 ≤ n) (hn' : n ≤ 4611686018427387904) : Calls Try.prog 30 #[.int .i64 x, .int .i64 n] w fun e w' => e = .returned (.int .i64 ((x.tmod n + n) % n)) ∧ w = w' := by
  have h1 := Int.tmod_lt_of_pos x (show (0 : Int) < n by omega)
  have h2 := Int.lt_tmod_of_pos x (show (0 : Int) < n by omega)
  have hz : (n == 0) = false := by rw [beq_eq_false_iff_ne]; omega
  have hz' : n ≠ 0 := by omega
  obtain ⟨t, Ht⟩ : ∃ t, Hid (t = x.tmod n) := ⟨_, rfl⟩
  have h3 : Hid (wrap64 (x.tmod n + n) = t + n) := by show _ = _; rw [Ht.out]; unfold wrap64; omega
  have h4 : Hid ((t + n).tmod n = (t + n) % n) := Int.tmod_eq_emod_of_nonneg (by rw [Ht.out]; omega)
  clear h1 h2
  go_enter Try.func30, Try.ntmps30
  go_wp2
  go_ret
  refine ⟨ret_intN ?_, rfl⟩
  rw [h3.out, h4.out, Ht.out]

set_option maxHeartbeats 1000000 in
theorem next_any (base g : Nat) (A : Option Addr) (c : Nat) (L : List Int) (m : Nat) (n : Int) (w : World) (D : Dk base w g A c L m) (hL : L.length ≤ 17592186044416) (hn : n ≤ 4611686018427387904) :
    Calls Try.prog 21 #[.pointer (some ⟨g, 0, none⟩), .int .i64 n] w (NextP base g A c L n w) := by
  have HD := Lib.hid D
  have k0 := D.c0; have k1 := D.c1; have kf := D.f1; have kl := D.lt
  have kle := D.le
  clear D
  by_cases h1 : n < 1
  · have e1 : decide (n < 1) = true := by simpa using h1
    go_enter Try.func21, Try.ntmps21
    go_wp2
    go_quiet (fail)
    go_wp2
    go_ret
    exact ⟨0, m, rfl, by omega, .inr rfl, HD.out.go ⟨rfl, rfl, rfl, Nat.le_refl _, fun _ _ => rfl⟩, only_drewN _ _⟩
  · have e1 : decide (n < 1) = false := by simpa using h1
    by_cases h2 : m < L.length
    · obtain ⟨ad, x, rfl, hb, hx, hc⟩ := (HD.out.rb.rd (Nat.le_of_lt (Nat.lt_of_le_of_lt HD.out.base_le kl))).let_ h2
      clear hx
      obtain ⟨bA, oA, hspot⟩ : ∃ b o, ad = ⟨b, o, none⟩ := by
        obtain ⟨ad', x', e, _, _, hc'⟩ := (HD.out.rb.rd (Nat.le_of_lt (Nat.lt_of_le_of_lt HD.out.base_le kl))).let_ (k := 0) (by omega)
        injection e with e
        subst e
        obtain ⟨b, o, sp⟩ := ad
        have := World.cell?_spot hc'
        simp [Addr.add] at this
        subst this
        exact ⟨b, o, rfl⟩
      subst hspot
      rw [Go.WideShapes.add_plain] at hc
      have e2 : decide (L.length ≤ m) = false := by rw [decide_eq_false_iff_not]; omega
      have hr1 := Int.emod_nonneg (x.tmod n + n) (show n ≠ 0 by omega)
      have hr2 := Int.emod_lt_of_pos (x.tmod n + n) (show 0 < n by omega)
      have C15 := Lib.hid (fun w => mod_any x n w (by omega) hn)
      obtain ⟨r, Hr⟩ : ∃ r, Hid (r = (x.tmod n + n) % n) := ⟨_, rfl⟩
      rw [← Hr.out] at C15 hr1 hr2
      go_enter Try.func21, Try.ntmps21
      go_wp2
      go_quiet (fail)
      go_wp2
      go_quiet (fail)
      go_wp2_with (go_at_call 30; refine (C15.out _).mono ?_; rintro e w' ⟨rfl, rfl⟩)
      go_ret
      refine ⟨r, m + 1, rfl, hr1, .inl hr2, ?_, only_set _ _ _ _⟩
      exact HD.out.set (m := m + 1) _ (by omega)
    · have e2 : decide (L.length ≤ m) = true := by rw [decide_eq_true_eq]; omega
      go_enter Try.func21, Try.ntmps21
      go_wp2
      go_quiet (fail)
      go_wp2
      go_ret
      exact ⟨0, m, rfl, by omega, .inr rfl, HD.out.go ⟨rfl, rfl, rfl, Nat.le_refl _, fun _ _ => rfl⟩, only_drewN _ _⟩

theorem new_any (A : Option Addr) (c : Nat) (L : List Int) (w : World) (h : RD w A c L) :
    Calls Try.prog 9 #[.slice A L.length c] w fun e w' => e = .returned (.pointer (some ⟨w.heap.size, 0, none⟩)) ∧ Dk w.heap.size w' w.heap.size A c L 0 ∧ Below w.heap.size w w' := by
  have H := Lib.hid h
  clear h
  go_enter Try.func9, Try.ntmps9
  go_wp2
  go_ret
  refine ⟨rfl, ⟨heap_alloc_new _ _, Nat.zero_le _, Nat.le_refl _, ?_⟩, (Below.refl _ _).alloc (Nat.le_refl _) _⟩
  exact (RD.rb H.out).go ((Below.refl _ _).alloc (Nat.le_refl _) _)
end Go.Proofs.Ytagkpkkbkeefbaa

/-
  Set: a set of nodes made by choices.
-/
namespace Go.Proofs.Ytagkpkkbkeefbaa
open Go.RowKit Go.Lib

theorem Dk.goB {base B : Nat} {w w' : World} {g : Nat} {A : Option Addr} {c : Nat} {L : List Int} {n : Nat} (h : Dk base w g A c L n) (hb : Below B w w') (hB : g < B) : Dk base w' g A c L n :=
  ⟨(hb.block g hB).trans h.blk, h.le, h.base_le, h.rb.go ⟨hb.os, hb.tape, hb.output, hb.size, fun k hk => hb.block k (by have := h.base_le; omega)⟩⟩
theorem grown_below {w w1 w2 : World} {g B : Nat} (h : w.grownBy w1 (some g)) (hb : Below B w1 w2) (hB : w.heap.size ≤ B) : w.grownBy w2 (some g) :=
  ⟨hb.os.trans h.os, hb.tape.trans h.tape, hb.output.trans h.output, Nat.le_trans h.size hb.size, fun i hi hne => (hb.block i (by omega)).trans (h.block i hi hne)⟩
theorem grown_trans {w w1 w2 : World} {g : Nat} (h : w.grownBy w1 (some g)) (h2 : w1.grownBy w2 (some g)) : w.grownBy w2 (some g) :=
  ⟨h2.os.trans h.os, h2.tape.trans h.tape, h2.output.trans h.output, Nat.le_trans h.size h2.size, fun i hi hne => (h2.block i (Nat.lt_of_lt_of_le hi h.size) hne).trans (h.block i hi hne)⟩
theorem grown_refl (w : World) (g : Nat) : w.grownBy w (some g) := ⟨rfl, rfl, rfl, Nat.le_refl _, fun _ _ _ => rfl⟩
theorem own_kept {w w' : World} {base e size : Nat} {v : Value} {n g : Nat} {xs : List Value} (h : w.ownsRow base e size v n xs) (hg : w.grownBy w' (some g)) (hb : g < base) : w'.ownsRow base e size v n xs :=
  h.kept hg (.inr fun h0 => by have := (h.lt _ h0).1; omega)

/-- what Set answers: a set of the nodes below N, in memory of its own -/
def SetP (base g : Nat) (A : Option Addr) (c : Nat) (L : List Int) (N : Nat) (w : World) (e : Ending) (w' : World) : Prop :=
  ∃ (l : List Int) (A1 : Option Addr) (c1 m : Nat), e = .returned (.slice A1 l.length c1) ∧ Ns.Asc l ∧ (∀ z ∈ l, 0 ≤ z ∧ z < N) ∧ l.length ≤ N ∧ w'.ownsRow w.heap.size 3 1 (.slice A1 l.length c1) l.length (vals l) ∧ Dk base w' g A c L m ∧ w.grownBy w' (some g)
theorem asc_push (l : List Int) (k : Nat) (h : Ns.Asc l) (hb : ∀ z ∈ l, 0 ≤ z ∧ z < (k : Int)) : Ns.Asc (l ++ [(k : Int)]) ∧ ∀ z ∈ l ++ [(k : Int)], 0 ≤ z ∧ z < ((k + 1 : Nat) : Int) := by
  refine ⟨List.pairwise_append.2 ⟨h, List.pairwise_singleton _ _, fun a ha b hb' => ?_⟩, fun z hz => ?_⟩
  · rw [List.mem_singleton] at hb'; subst hb'; exact (hb a ha).2
  · rcases List.mem_append.1 hz with h1 | h1
    · have := hb z h1; omega
    · rw [List.mem_singleton] at h1; omega

end Go.Proofs.Ytagkpkkbkeefbaa

/-
  Append of an edge, of a list of edges; what is a valid list of edges grows.
-/
namespace Go.Proofs.Ytagkpkkbkeefbaa
open Go.RowKit Go.Lib

theorem ed_info : (Try.prog.info? 69).map (fun i => (i.zero, i.size, i.bytes)) = some (some (.agg #[.int .i64 0, .int .i64 0]), 2, 16) := by kernel_rfl
theorem own_formE {w : World} {base : Nat} {v : Value} {l : List Ed} (h : w.ownsRow base 69 2 v l.length (ev l)) : ∃ A c, v = .slice A l.length c := by
  rcases h.2 with ⟨e0, e1⟩ | ⟨g, cap, cur, e0, _⟩
  · exact ⟨none, 0, by rw [e0, e1]⟩
  · exact ⟨_, _, e0⟩
theorem RE_newB (w : World) (u v : Int) : RE (w.alloc (.cells #[.int .i64 u, .int .i64 v] 69)).heap.size (w.alloc (.cells #[.int .i64 u, .int .i64 v] 69)) (some ⟨w.heap.size, 0, none⟩) 1 [(u, v)] := by
  refine ⟨Nat.le_refl _, rfl, fun _ => ⟨_, rfl, by simp, fun j x hx => ?_⟩⟩
  have := (Go.Joins.cell_of_block (w := w.alloc (.cells #[.int .i64 u, .int .i64 v] 69)) (heap_alloc_new w _) j)
  rw [show ((⟨w.heap.size, 0, none⟩ : Addr).add j) = ⟨w.heap.size, j, none⟩ by unfold Addr.add; split <;> simp_all]
  rw [this]; simpa [ev] using hx
theorem wp_applE {o : Oper} {a : Act} {K : Act → World → Prop} {Q : Exit → Act → World → Prop} (W : World) (s x : Operand)
    (ho : o.op = .call { callee := .builtin .append, args := #[s, x], argTypes := #[52, 52] }) (base : Nat) (A2 : Option Addr) (c2 : Nat) (ks : List Ed)
    (hs : a.eval s = .slice A2 ks.length c2) (hown : W.ownsRow base 69 2 (.slice A2 ks.length c2) ks.length (ev ks)) (A' : Option Addr) (c' m : Nat) (news : List Ed) (hm : news.length = m)
    (hx : a.eval x = .slice A' m c') (hr : RE W.heap.size W A' c' news) (hk : ks.length + m ≤ 200000) (hbase : base ≤ W.heap.size)
    (h : ∀ A3 c3 w', Hid (w'.ownsRow base 69 2 (.slice A3 (ks ++ news).length c3) (ks ++ news).length (ev (ks ++ news))) → Hid (Below base W w') → K (a.put o.dst (.slice A3 (ks ++ news).length c3)) w') :
    o.wp Try.prog a W K Q := by
  subst hm
  obtain ⟨i0, hi0, hz0, hz1, hz2⟩ := info_parts ed_info
  refine wp_append_any _ s x 52 ho base 69 i0 _ 2 16 Try.underlying52 hi0 hz0 hz1 hz2 rfl (by omega) (.slice A2 ks.length c2) ks.length (ev ks) hs hown
    _ A' news.length c' (ev news) hx hr.2 (ev_one news) (by simp only [maxLen]; omega) (by omega) hbase ?_
  intro v3 w3 hown3 hg3 hat3
  have hbw : Below base W w3 := (Below.refl _ _).grown hg3 hbase (fun k hk => (hown.lt k hk).1)
  have ho3 : w3.ownsRow base 69 2 v3 (ks ++ news).length (ev (ks ++ news)) := by rw [ev_append, List.length_append]; exact hown3
  obtain ⟨A3, c3, rfl⟩ := own_formE ho3
  exact h A3 c3 w3 ho3 hbw
theorem wpList_applE {ops : Array Oper} {rest : List Oper} {o : Oper} {a : Act} {Q : Exit → Act → World → Prop} (W : World) (hgd : o.guard = none) (s x : Operand)
    (ho : o.op = .call { callee := .builtin .append, args := #[s, x], argTypes := #[52, 52] }) (base : Nat) (A2 : Option Addr) (c2 : Nat) (ks : List Ed)
    (hs : a.eval s = .slice A2 ks.length c2) (hown : W.ownsRow base 69 2 (.slice A2 ks.length c2) ks.length (ev ks)) (A' : Option Addr) (c' m : Nat) (news : List Ed) (hm : news.length = m)
    (hx : a.eval x = .slice A' m c') (hr : RE W.heap.size W A' c' news) (hk : ks.length + m ≤ 200000) (hbase : base ≤ W.heap.size)
    (h : ∀ A3 c3 w', Hid (w'.ownsRow base 69 2 (.slice A3 (ks ++ news).length c3) (ks ++ news).length (ev (ks ++ news))) → Hid (Below base W w') → wpList Try.prog ops Q rest (a.put o.dst (.slice A3 (ks ++ news).length c3)) w') :
    wpList Try.prog ops Q (o :: rest) a W :=
  wpList_plain hgd fun _ hK => wp_applE W s x ho base A2 c2 ks hs hown A' c' m news hm hx hr hk hbase fun A3 c3 w' h1 h2 => hK _ _ (h A3 c3 w' h1 h2)
theorem step_applE {ops : Array Oper} {o : Oper} {a : Act} {K : Act → World → Prop} {Q : Exit → Act → World → Prop} {E : Prop} (W : World) (hgd : o.guard = none) (s x : Operand)
    (ho : o.op = .call { callee := .builtin .append, args := #[s, x], argTypes := #[52, 52] }) (base : Nat) (A2 : Option Addr) (c2 : Nat) (ks : List Ed)
    (hs : a.eval s = .slice A2 ks.length c2) (hown : W.ownsRow base 69 2 (.slice A2 ks.length c2) ks.length (ev ks)) (A' : Option Addr) (c' m : Nat) (news : List Ed) (hm : news.length = m)
    (hx : a.eval x = .slice A' m c') (hr : RE W.heap.size W A' c' news) (hk : ks.length + m ≤ 200000) (hbase : base ≤ W.heap.size)
    (h : ∀ A3 c3 w', Hid (w'.ownsRow base 69 2 (.slice A3 (ks ++ news).length c3) (ks ++ news).length (ev (ks ++ news))) → Hid (Below base W w') → K (a.put o.dst (.slice A3 (ks ++ news).length c3)) w') :
    if Region.wanted o (yielded ops a.tmps) = true then Oper.wp Try.prog o a W K Q else E := by
  have hw : Region.wanted o (yielded ops a.tmps) = true := by simp [Region.wanted, hgd]
  rw [if_pos hw]
  exact wp_applE W s x ho base A2 c2 ks hs hown A' c' m news hm hx hr hk hbase h

def nb : Option Ed → Ed → Bool
  | some q, x => !bef q x
  | none, _ => false
theorem ck_cons (n : Int) (p : Option Ed) (x : Ed) (l : List Ed) : ck n p (x :: l) = if x.1 < 0 ∨ x.2 ≤ x.1 ∨ n ≤ x.2 then 6 else if nb p x = true then 5 else ck n (some x) l := by
  cases p <;> rfl
/-- a valid list with a further edge behind all of it is valid -/
theorem ck_push (n : Int) (e : Ed) (he : ¬ (e.1 < 0 ∨ e.2 ≤ e.1 ∨ n ≤ e.2)) : ∀ (l : List Ed) (p : Option Ed), ck n p l = 0 → (∀ q ∈ l, bef q e = true) → (l = [] → ∀ q, p = some q → bef q e = true) → ck n p (l ++ [e]) = 0 := by
  intro l
  induction l with
  | nil =>
    intro p _ _ hp
    rw [List.nil_append, ck_cons, if_neg he]
    cases p with
    | none => rw [if_neg (by simp [nb])]; rfl
    | some q => rw [if_neg (by simp [nb, hp rfl q rfl])]; rfl
  | cons x l ih =>
    intro p h hb _
    rw [ck_cons] at h
    rw [List.cons_append, ck_cons]
    by_cases h1 : x.1 < 0 ∨ x.2 ≤ x.1 ∨ n ≤ x.2
    · rw [if_pos h1] at h; omega
    · rw [if_neg h1] at h ⊢
      by_cases h2 : nb p x = true
      · rw [if_pos h2] at h; omega
      · rw [if_neg h2] at h ⊢
        exact ih (some x) h (fun q hq => hb q (List.mem_cons_of_mem _ hq)) (fun _ q hq => by injection hq with hq; subst hq; exact hb x (by simp))
theorem chk_push (n : Int) (l : List Ed) (u v : Int) (h : chk n l = 0) (hu : 0 ≤ u) (huv : u < v) (hv : v < n) (hb : ∀ e ∈ l, e.1 < u ∨ e.1 = u ∧ e.2 < v) : chk n (l ++ [(u, v)]) = 0 := by
  unfold chk at h ⊢
  split at h
  · omega
  · next h1 =>
    rw [if_neg h1]
    refine ck_push n (u, v) (by simp; omega) l none h (fun q hq => ?_) (fun _ q hq => by cases hq)
    rcases hb q hq with h2 | ⟨h2, h3⟩ <;> simp [bef, h2] <;> omega
theorem chk_nil (n : Int) (h0 : 0 ≤ n) (h1 : n ≤ 64) : chk n [] = 0 := by unfold chk; rw [if_neg (by omega)]; rfl
end Go.Proofs.Ytagkpkkbkeefbaa

/-
  Graph: a valid graph made by choices.
-/
namespace Go.Proofs.Ytagkpkkbkeefbaa
open Go.RowKit Go.Lib

/-- the state while a graph is made: the result's cell, the graph's cell, the deck, the edges -/
structure GS (base g : Nat) (A : Option Addr) (c : Nat) (L : List Int) (w : World) (g5 : Nat) (N : Nat) (A2 : Option Addr) (c2 : Nat) (ks : List Ed) (m : Nat) (wr : World) : Prop where
  b4 : wr.heap[w.heap.size]? = some (.cells #[.int .i64 0, .slice none 0 0] 54)
  b5 : wr.heap[g5]? = some (.cells #[.int .i64 (N : Nat), .slice A2 ks.length c2] 54)
  dk : Dk base wr g A c L m
  own : wr.ownsRow (g5 + 1) 69 2 (.slice A2 ks.length c2) ks.length (ev ks)
  gr : w.grownBy wr (some g)
  lg : g < w.heap.size
  l5 : w.heap.size < g5
theorem lt_of_some {wr : World} {k : Nat} {o : Obj} (h : wr.heap[k]? = some o) : k < wr.heap.size := by
  rcases Nat.lt_or_ge k wr.heap.size with hlt | hge
  · exact hlt
  · rw [Array.getElem?_eq_none hge] at h; cases h
section
variable {base g : Nat} {A : Option Addr} {c : Nat} {L : List Int} {w : World} {g5 N : Nat} {A2 : Option Addr} {c2 : Nat} {ks : List Ed} {m : Nat} {wr : World}
theorem GS.l5r (h : GS base g A c L w g5 N A2 c2 ks m wr) : g5 < wr.heap.size := lt_of_some h.b5
theorem GS.next {m' : Nat} {w' : World} (h : GS base g A c L w g5 N A2 c2 ks m wr) (D : Dk base w' g A c L m') (hg : wr.grownBy w' (some g)) : GS base g A c L w g5 N A2 c2 ks m' w' :=
  ⟨(hg.block _ (lt_of_some h.b4) (fun e => by injection e with e; have := h.lg; omega)).trans h.b4, (hg.block _ h.l5r (fun e => by injection e with e; have := h.lg; have := h.l5; omega)).trans h.b5, D,
    own_kept h.own hg (by have := h.lg; have := h.l5; omega), grown_trans h.gr hg, h.lg, h.l5⟩
theorem setCell_only {u : World} {k i : Nat} {v : Value} (j : Nat) (hj : j ≠ k) : (u.setCell ⟨k, i, none⟩ v).heap[j]? = u.heap[j]? := Below.heap_setCell u ⟨k, i, none⟩ v j (fun e => hj (by first | exact e | exact e.symm))
theorem setCell_two {u : World} {k : Nat} {x y v : Value} {t : TypeId} (h : u.heap[k]? = some (.cells #[x, y] t)) : (u.setCell ⟨k, 0, none⟩ v).heap[k]? = some (.cells #[v, y] t) ∧ (u.setCell ⟨k, 1, none⟩ v).heap[k]? = some (.cells #[x, v] t) := by
  constructor <;> simp [World.setCell, Array.getElem?_modify, h]
theorem set_grown {u : World} {k i : Nat} {v : Value} : u.grownBy (u.setCell ⟨k, i, none⟩ v) (some k) := ⟨rfl, rfl, rfl, by simp [World.setCell], fun j _ hj => setCell_only j (fun e => hj (by rw [e]))⟩
theorem dk_other {n : Nat} {u w' : World} {k : Nat} (h : Dk base u g A c L n) (hg : u.grownBy w' (some k)) (hk : g < k) : Dk base w' g A c L n :=
  ⟨(hg.block g h.lt (fun e => by injection e with e; omega)).trans h.blk, h.le, h.base_le, h.rb.only hg (by have := h.base_le; omega) (by have := h.base_le; have := h.lt; omega)⟩
theorem grown_other {u w' : World} {k : Nat} (h : w.grownBy u (some g)) (hg : u.grownBy w' (some k)) (hk : w.heap.size ≤ k) : w.grownBy w' (some g) :=
  ⟨hg.os.trans h.os, hg.tape.trans h.tape, hg.output.trans h.output, Nat.le_trans h.size hg.size, fun i hi hne => (hg.block i (Nat.lt_of_lt_of_le hi h.size) (fun e => by injection e with e; omega)).trans (h.block i hi hne)⟩
theorem GS.setN (N' : Nat) (h : GS base g A c L w g5 N A2 c2 ks m wr) : GS base g A c L w g5 N' A2 c2 ks m (wr.setCell ⟨g5, 0, none⟩ (.int .i64 (N' : Nat))) :=
  ⟨(setCell_only _ (by have := h.l5; omega)).trans h.b4, (setCell_two h.b5).1, dk_other h.dk set_grown (by have := h.lg; have := h.l5; omega),
    h.own.kept set_grown (.inr fun e => by have := (h.own.lt _ e).1; omega), grown_other h.gr set_grown (by have := h.l5; omega), h.lg, h.l5⟩
theorem GS.push {A3 : Option Addr} {c3 : Nat} {ks' : List Ed} {o : Obj} {w3 : World} (h : GS base g A c L w g5 N A2 c2 ks m wr) (ho : w3.ownsRow (g5 + 1) 69 2 (.slice A3 ks'.length c3) ks'.length (ev ks')) (hb : Below (g5 + 1) (wr.alloc o) w3) :
    GS base g A c L w g5 N A3 c3 ks' m (w3.setCell ⟨g5, 1, none⟩ (.slice A3 ks'.length c3)) := by
  have h5 := h.l5r
  have hl := h.lg
  have hm := h.l5
  have hba : Below (g5 + 1) wr w3 := ((Below.refl _ _).alloc (by omega) o).trans hb
  have b5 : w3.heap[g5]? = some (.cells #[.int .i64 (N : Nat), .slice A2 ks.length c2] 54) := (hba.block g5 (by omega)).trans h.b5
  refine ⟨(setCell_only _ (by omega)).trans ((hba.block _ (by omega)).trans h.b4), (setCell_two b5).2, dk_other (h.dk.goB hba (by omega)) set_grown (by omega),
    ho.kept set_grown (.inr fun e => by have := (ho.lt _ e).1; omega), grown_other (grown_below h.gr hba (by omega)) set_grown (by omega), hl, hm⟩
theorem GS.c50 (h : GS base g A c L w g5 N A2 c2 ks m wr) : wr.cell? ⟨g5, 0, none⟩ = some (.int .i64 (N : Nat)) := Go.Joins.cell_of_block h.b5 0
theorem GS.c51 (h : GS base g A c L w g5 N A2 c2 ks m wr) : wr.cell? ⟨g5, 1, none⟩ = some (.slice A2 ks.length c2) := Go.Joins.cell_of_block h.b5 1
theorem GS.f5 (h : GS base g A c L w g5 N A2 c2 ks m wr) (i : Nat) : wr.frozen? ⟨g5, i, none⟩ = false := Go.Joins.unfrozen_of_block h.b5 i
end

/-- behind the result's stores -/
structure GFin (base g : Nat) (A : Option Addr) (c : Nat) (L : List Int) (w : World) (g5 : Nat) (N : Nat) (A2 : Option Addr) (c2 : Nat) (ks : List Ed) (m : Nat) (wf : World) : Prop where
  own : wf.ownsRow (w.heap.size + 1) 69 2 (.slice A2 ks.length c2) ks.length (ev ks)
  dk : Dk base wf g A c L m
  gr : w.grownBy wf (some g)
theorem GS.fin {base g : Nat} {A : Option Addr} {c : Nat} {L : List Int} {w : World} {g5 N : Nat} {A2 : Option Addr} {c2 : Nat} {ks : List Ed} {m : Nat} {wr : World} (h : GS base g A c L w g5 N A2 c2 ks m wr) (i j : Nat) (x y : Value) :
    GFin base g A c L w g5 N A2 c2 ks m ((wr.setCell ⟨w.heap.size, i, none⟩ x).setCell ⟨w.heap.size, j, none⟩ y) := by
  have hl := h.lg
  have h5 := h.l5
  have o1 := h.own.kept (w' := wr.setCell ⟨w.heap.size, i, none⟩ x) set_grown (.inr fun e => by have := (h.own.lt _ e).1; omega)
  have o2 := o1.kept (w' := (wr.setCell ⟨w.heap.size, i, none⟩ x).setCell ⟨w.heap.size, j, none⟩ y) set_grown (.inr fun e => by have := (o1.lt _ e).1; omega)
  exact ⟨Go.Joins.ownsRow_le o2 (by omega), dk_other (dk_other h.dk set_grown hl) set_grown hl, grown_other (grown_other h.gr set_grown (Nat.le_refl _)) set_grown (Nat.le_refl _)⟩
/-- what Graph answers: a valid graph of at most M nodes, its edges in memory of its own -/
def GraphP (base g : Nat) (A : Option Addr) (c : Nat) (L : List Int) (M : Nat) (w : World) (e : Ending) (w' : World) : Prop :=
  ∃ (N : Nat) (l : List Ed) (A1 : Option Addr) (c1 m : Nat), e = .returned (.agg #[.int .i64 (N : Nat), .slice A1 l.length c1]) ∧ N ≤ M ∧ chk N l = 0 ∧ l.length ≤ 10000 ∧ w'.ownsRow (w.heap.size + 1) 69 2 (.slice A1 l.length c1) l.length (ev l) ∧ Dk base w' g A c L m ∧ w.grownBy w' (some g)

structure Inv (N : Nat) (ks : List Ed) (u v : Nat) : Prop where
  ok : chk N ks = 0
  below : ∀ e ∈ ks, e.1 < (u : Int) ∨ e.1 = (u : Int) ∧ e.2 < (v : Int)
  len : ks.length ≤ u * 100 + v
theorem Inv.start {N u : Nat} {ks : List Ed} (h : Inv N ks u 0) : Inv N ks u (u + 1) := ⟨h.ok, fun e he => by rcases h.below e he with h1 | ⟨h1, h2⟩; exact .inl h1; exact .inr ⟨h1, by omega⟩, by have := h.len; omega⟩
theorem Inv.next {N u v : Nat} {ks : List Ed} (h : Inv N ks u v) : Inv N ks u (v + 1) := ⟨h.ok, fun e he => by rcases h.below e he with h1 | ⟨h1, h2⟩; exact .inl h1; exact .inr ⟨h1, by omega⟩, by have := h.len; omega⟩
theorem Inv.up {N u v : Nat} {ks : List Ed} (h : Inv N ks u v) (hv : v ≤ 100) : Inv N ks (u + 1) 0 := ⟨h.ok, fun e he => by rcases h.below e he with h1 | ⟨h1, h2⟩ <;> exact .inl (by omega), by have := h.len; omega⟩
theorem Inv.push {N u v : Nat} {ks : List Ed} (h : Inv N ks u v) (hv : v < N) (hu : u + 1 ≤ v) : Inv N (ks ++ [((u : Int), (v : Int))]) u (v + 1) := by
  refine ⟨chk_push N ks u v h.ok (by omega) (by omega) (by omega) h.below, fun e he => ?_, by have := h.len; simp; omega⟩
  rcases List.mem_append.1 he with h1 | h1
  · rcases h.below e h1 with h2 | ⟨h2, h3⟩
    · exact .inl h2
    · exact .inr ⟨h2, by omega⟩
  · rw [List.mem_singleton] at h1; subst h1; exact .inr ⟨rfl, by simp; omega⟩
def GCut (base g : Nat) (A : Option Addr) (c : Nat) (L : List Int) (M : Nat) (w : World) (g5 : Nat) (wx : World) : Prop := ∃ (N m2 : Nat), N ≤ M ∧ GS base g A c L w g5 N none 0 [] m2 wx
set_option maxHeartbeats 4000000 in
set_option maxRecDepth 100000 in
theorem graph_any (base g : Nat) (A : Option Addr) (c : Nat) (L : List Int) (m : Nat) (M : Nat) (w : World) (D : Dk base w g A c L m) (hL : L.length ≤ 17592186044416) (hM : M ≤ 60) :
    Calls Try.prog 31 #[.pointer (some ⟨g, 0, none⟩), .int .i64 M] w (GraphP base g A c L M w) := by
  have HD0 := Lib.hid (D.go ((Below.refl _ _).alloc (Nat.le_refl _) (.cells #[.int .i64 0, .slice none 0 0] 54)))
  have hgw : Hid (g < w.heap.size) := D.lt
  clear D
  go_enter Try.func31, Try.ntmps31
  go_wp2_with fail
  refine (next_any base g A c L m ((M : Int) + 1) _ HD0.out hL (by omega)).mono ?_
  rintro e w1 ⟨r, m1, rfl, hr1, hr2, D1, g1⟩
  obtain ⟨N0, rfl⟩ : ∃ N0 : Nat, r = N0 := ⟨r.toNat, by omega⟩
  have hN0 : N0 ≤ M := by omega
  clear hr1 hr2
  have HD1 := Lib.hid D1
  have HG1 := Lib.hid g1
  have hgs : w.heap.size < w1.heap.size := by have := g1.size; simp at this; omega
  have HGS : Hid (GS base g A c L w w1.heap.size N0 none 0 [] m1 (w1.alloc (.cells #[.int .i64 N0, .slice none 0 0] 54))) := by
    have hb4 : w1.heap[w.heap.size]? = some (.cells #[.int .i64 0, .slice none 0 0] 54) := (g1.block _ (by simp) (fun e => by injection e with e; have := hgw.out; omega)).trans (heap_alloc_new w _)
    have hgr : w.grownBy w1 (some g) := ⟨g1.os, g1.tape, g1.output, by have := g1.size; simp at this; omega, fun i hi hne => (g1.block i (by simp; omega) hne).trans (Below.heap_alloc w _ i hi)⟩
    exact ⟨(Below.heap_alloc w1 _ _ hgs).trans hb4, heap_alloc_new _ _, D1.go ((Below.refl _ _).alloc (Nat.le_refl _) _), World.ownsRow_nil _ _ _ _,
      grown_below hgr ((Below.refl _ _).alloc (Nat.le_refl _) _) (by omega), hgw.out, hgs⟩
  clear D1 g1 HD0 HG1
  obtain ⟨g5, Hg5⟩ : ∃ g5, Hid (g5 = w1.heap.size) := ⟨_, rfl⟩
  go_upto_if 16 with fail
  go_cut [] from 16 to 26 (fun wx => GCut base g A c L M w g5 wx)
  case first =>
    by_cases h4 : N0 < 4
    · go_wp2
      have hc0 := HGS.out.c50
      have HDr : Hid (Dk base (w1.alloc (.cells #[.int .i64 N0, .slice none 0 0] 54)).drew g A c L m1) := HGS.out.dk.go ⟨rfl, rfl, rfl, Nat.le_refl _, fun _ _ => rfl⟩
      have HM1 := Lib.hid (show (M : Int) + 1 ≤ 4611686018427387904 by omega)
      have C19 := Lib.hid (next_any base g A c L m1 ((M : Int) + 1) _ HDr.out hL HM1.out)
      have hgl := Lib.hid (show g < w1.heap.size by have := hgw.out; omega)
      have hw1 : IntKind.i64.wrap ((M : Int) + 1) = (M : Int) + 1 := IntWalk.i64_in _ (by omega)
      go_region_law (first | (go_simp; go_at_call 21; go_loud ((refine C19.out.mono ?_); rintro e w2 ⟨r2, m2, rfl, hr1, hr2, D2, g2⟩; obtain ⟨N1, rfl⟩ : ∃ N1 : Nat, r2 = N1 := ⟨r2.toNat, by omega⟩; have hw2 : IntKind.i64.wrap ((N0 : Int) + N1) = (N0 : Int) + N1 := IntWalk.i64_in _ (by omega); have hb2 : w2.heap[w1.heap.size]? = some (.cells #[.int .i64 N0, .slice none 0 0] 54) := (g2.block _ (by simp) (fun h0 => by injection h0 with h0; have := hgl.out; omega)).trans (heap_alloc_new w1 _); have hc2 := Go.Joins.cell_of_block hb2 0; have hf2 := Go.Joins.unfrozen_of_block hb2 0; simp at hc2; clear hb2; have HD2 := Lib.hid D2; have HG2 := Lib.hid g2; clear D2 g2 hr1 hr2)))
      all_goals
        clear hw1 hw2
        have HGS2 := Lib.hid (HGS.out.next HD2.out ⟨HG2.out.os, HG2.out.tape, HG2.out.output, HG2.out.size, HG2.out.block⟩)
        go_wp2
        go_meet
        obtain ⟨N2, hN2⟩ : ∃ N2 : Nat, min (M : Int) ((N0 : Int) + N1) = (N2 : Int) := ⟨(min (M : Int) ((N0 : Int) + N1)).toNat, by omega⟩
        rw [hN2, Hg5.out]
        exact ⟨N2, m2, by omega, HGS2.out.setN N2⟩
    · go_wp2
      go_meet
      rw [Hg5.out]
      exact ⟨N0, m1, hN0, HGS.out⟩
  case rest =>
    obtain ⟨N, m2, hN, HS0⟩ := hcut
    have HS := Lib.hid HS0
    clear HS0
    rw [Hg5.out] at HS
    have hN64 : N ≤ 60 := by omega
    clear Hg5 HGS HD1 hN0
    go_wp2_with fail
    refine (next_any base g A c L m2 4 wc HS.out.dk hL (by omega)).mono ?_
    rintro e w3 ⟨dn, m3, rfl, hd1, hd2, D3, g3⟩
    have HS3 := Lib.hid (HS.out.next D3 g3)
    clear D3 g3 HS
    have hd3 : dn < 4 := by omega
    clear hd2
    go_wp2
    go_loopw [7] (fun i wr => ∃ (u : Nat) (A2 : Option Addr) (c2 : Nat) (ks : List Ed) (m' : Nat), u ≤ N ∧ i = .int .i64 u ∧ Hid (GS base g A c L w w1.heap.size N A2 c2 ks m' wr) ∧ Hid (Inv N ks u 0)) (fun i _ => N - (RowKit.intOf i).toNat)
    case atStart => exact ⟨0, none, 0, [], m3, Nat.zero_le _, rfl, HS3.out, chk_nil _ (by omega) (by omega), by simp, by simp⟩
    case round =>
      obtain ⟨u, A2, c2, ks, m', hu, rfl, HS, HI⟩ := hrel
      have k0 := HS.out.c50; have kl := HS.out.l5r
      by_cases hlt : u < N
      · go_wp2
        go_loopw [8] (fun j wr => ∃ (v : Nat) (A2 : Option Addr) (c2 : Nat) (ks : List Ed) (m' : Nat), u + 1 ≤ v ∧ v ≤ N ∧ j = .int .i64 v ∧ Hid (GS base g A c L w w1.heap.size N A2 c2 ks m' wr) ∧ Hid (Inv N ks u v)) (fun j _ => N - (RowKit.intOf j).toNat)
        case atStart => exact ⟨u + 1, A2, c2, ks, m', Nat.le_refl _, by omega, by go_num, HS.out, HI.out.start⟩
        case round =>
          clear k0 kl HS HI
          obtain ⟨v, A4, c4, ls, m4, hv1, hv2, rfl, HS, HI⟩ := hrel
          have k0 := HS.out.c50; have kl := HS.out.l5r
          by_cases hlt2 : v < N
          · go_wp2_with fail
            refine (next_any base g A c L m4 5 _ HS.out.dk hL (by omega)).mono ?_
            rintro e w5 ⟨r, m5, rfl, hr1, hr2, D5, g5'⟩
            have HS5 := Lib.hid (HS.out.next D5 g5')
            clear D5 g5' k0 kl HS
            by_cases hge : 5 - (1 + dn) ≤ r
            · have k1 := HS5.out.c51; have kl := HS5.out.l5r
              have HP := Lib.hid (HI.out.push hlt2 hv1)
              have hlen : ls.length ≤ 100000 := by have := HI.out.len; have : u * 100 ≤ 60 * 100 := Nat.mul_le_mul_right _ (by omega); omega
              go_wp2_with (at_builtin; refine wpList_applE _ rfl (.tmp 50) (.tmp 54) rfl (w1.heap.size + 1) A4 c4 ls rfl (HS5.out.own.alloc _) (some ⟨w5.heap.size, 0, none⟩) 1 1 [((u : Int), (v : Int))] rfl rfl (RE_newB _ _ _) (by omega) (by simp; omega) ?_; intro A6 c6 w6 HO6 HB6; have HB7 := HB6.out; have f0 : w6.heap[w1.heap.size]? = _ := (HB7.block _ (by omega)).trans ((Below.heap_alloc w5 _ _ kl).trans HS5.out.b5); have f1 := Go.Joins.cell_of_block f0 1; have f2 := Go.Joins.unfrozen_of_block f0 1; have HF := Lib.hid (HS5.out.push HO6.out HB6.out); clear HB7 f0)
              go_roundw
              case rel => exact ⟨v + 1, A6, c6, ls ++ [((u : Int), (v : Int))], m5, by omega, by omega, by go_num, by show GS _ _ _ _ _ _ _ _ _ _ _ _ _; have h := HF.out; rw [List.length_append, List.length_singleton] at h; exact h, HP.out⟩
              case measure => simp [RowKit.intOf]; omega
            · go_wp2
              go_roundw
              case rel => exact ⟨v + 1, A4, c4, ls, m5, by omega, by omega, by go_num, HS5.out, HI.out.next⟩
              case measure => simp [RowKit.intOf]; omega
          · go_wp2
            go_roundw
            case rel => exact ⟨u + 1, A4, c4, ls, m4, by omega, by go_num, HS.out, HI.out.up (by omega)⟩
            case measure => simp [RowKit.intOf]; omega
      · have k1 := HS.out.c51
        have b0 := Go.Joins.cell_of_block HS.out.b4 0; have b1 := Go.Joins.cell_of_block HS.out.b4 1; have d0 := Go.Joins.unfrozen_of_block HS.out.b4 0; have d1 := Go.Joins.unfrozen_of_block HS.out.b4 1
        simp at b0 b1
        have hb4 := (setCell_two (setCell_two HS.out.b4 (v := .int .i64 (N : Nat))).1 (v := .slice A2 ks.length c2)).2
        have hf0 := Go.Joins.cell_of_block hb4 0; have hf1 := Go.Joins.cell_of_block hb4 1
        simp at hf0 hf1
        have HFin : Hid (GFin base g A c L w w1.heap.size N A2 c2 ks m' ((wr.setCell ⟨w.heap.size, 0, none⟩ (.int .i64 (N : Nat))).setCell ⟨w.heap.size, 1, none⟩ (.slice A2 ks.length c2))) := (HS.out.fin _ _ _ _)
        have hkl : ks.length ≤ 10000 := by have := HI.out.len; have : u * 100 ≤ 60 * 100 := Nat.mul_le_mul_right _ (by omega); omega
        go_wp2
        generalize ((wr.setCell ⟨w.heap.size, 0, none⟩ (.int .i64 (N : Nat))).setCell ⟨w.heap.size, 1, none⟩ (.slice A2 ks.length c2)) = wf at HFin hf0 hf1 ⊢
        exact bodyPost_ret (v := .agg #[.int .i64 (N : Nat), .slice A2 ks.length c2]) (by simp [results, Try.results31, go_sem, hf0, hf1]) rfl
          ⟨N, ks, A2, c2, m', rfl, by omega, HI.out.ok, hkl, HFin.out.own, HFin.out.dk, HFin.out.gr⟩
end Go.Proofs.Ytagkpkkbkeefbaa
