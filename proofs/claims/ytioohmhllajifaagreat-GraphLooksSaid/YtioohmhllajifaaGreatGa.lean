/-
  Words for lists of edges (pairs of integers, two cells each), and the small functions of the reference over edges.
-/
import Derived.Test.YtioohmhllajifaaGreatNd
import Derived.WalkKit
import Derived.LoopTactic
import Derived.Deep.QuietTactic
import Derived.BigQuiet
import Derived.Lib.Hide
import Derived.OpenShut
namespace Go.Proofs.YtioohmhllajifaaGreat
open Go.RowKit

abbrev Ed := Int × Int
def ev (l : List Ed) : List Value := l.flatMap fun e => [.int .i64 e.1, .int .i64 e.2]
theorem len_ev (l : List Ed) : (ev l).length = l.length * 2 := by induction l <;> simp_all [ev]; omega
theorem ev_append (a b : List Ed) : ev (a ++ b) = ev a ++ ev b := by simp [ev]
theorem ev_one (l : List Ed) : ∀ u ∈ ev l, u.oneCell' = true := by
  intro u hu
  obtain ⟨x, _, hx⟩ := List.mem_flatMap.1 hu
  simp at hx
  rcases hx with rfl | rfl <;> rfl
theorem ev_at (l : List Ed) (k : Nat) (e : Ed) (h : l[k]? = some e) : (ev l)[k * 2]? = some (.int .i64 e.1) ∧ (ev l)[k * 2 + 1]? = some (.int .i64 e.2) := by
  induction l generalizing k with
  | nil => simp at h
  | cons x l ih =>
    cases k with
    | zero => simp at h; subst h; simp [ev]
    | succ k =>
      have := ih k (by simpa using h)
      have e1 : ev (x :: l) = .int .i64 x.1 :: .int .i64 x.2 :: ev l := by simp [ev]
      rw [e1, show (k + 1) * 2 = k * 2 + 1 + 1 by omega]
      exact this
theorem ev_drop (l : List Ed) (k : Nat) : (ev l).drop (k * 2) = ev (l.drop k) := by
  induction l generalizing k with
  | nil => simp [ev]
  | cons x l ih =>
    cases k with
    | zero => simp
    | succ k =>
      have e1 : ev (x :: l) = .int .i64 x.1 :: .int .i64 x.2 :: ev l := by simp [ev]
      rw [e1, show (k + 1) * 2 = k * 2 + 1 + 1 by omega]
      simpa using ih k
theorem ev_take (l : List Ed) (k : Nat) : (ev l).take (k * 2) = ev (l.take k) := by
  induction l generalizing k with
  | nil => simp [ev]
  | cons x l ih =>
    cases k with
    | zero => simp [ev]
    | succ k =>
      have e1 : ev (x :: l) = .int .i64 x.1 :: .int .i64 x.2 :: ev l := by simp [ev]
      have e2 : ev (x :: l.take k) = .int .i64 x.1 :: .int .i64 x.2 :: ev (l.take k) := by simp [ev]
      rw [e1, show (k + 1) * 2 = k * 2 + 1 + 1 by omega, show (x :: l).take (k + 1) = x :: l.take k from rfl, e2]
      simp [ih k]

/-- a slice value reads as a list of edges, in memory below block B -/
def RE (B : Nat) (w : World) (A : Option Addr) (c : Nat) (l : List Ed) : Prop := l.length ≤ c ∧ Reads w B 2 A l.length (ev l)
section
variable {B : Nat} {w w' : World} {A : Option Addr} {c : Nat} {l : List Ed}
theorem RE.go (h : RE B w A c l) (hb : Below B w w') : RE B w' A c l := ⟨h.1, h.2.below hb⟩
theorem RE.more {B' : Nat} (h : RE B w A c l) (hB : B ≤ B') : RE B' w A c l := ⟨h.1, h.2.more hB⟩
theorem RE.up (h : RE w.heap.size w A c l) (hb : Below w.heap.size w w') : RE w'.heap.size w' A c l := (h.go hb).more hb.size
theorem RE.alloc (h : RE w.heap.size w A c l) (o : Obj) : RE w.heap.size (w.alloc o) A c l := h.go ((Below.refl _ _).alloc (Nat.le_refl _) o)
theorem RE.nil_ (B : Nat) (w : World) (A : Option Addr) (c : Nat) : RE B w A c [] := ⟨Nat.zero_le _, by simp [ev], fun h => absurd h (by simp)⟩
theorem RE.let_ (h : RE B w A c l) {k : Nat} (hk : k < l.length) : ∃ (b off : Nat) (u v : Int), A = some ⟨b, off, none⟩ ∧ b < B ∧ l[k]? = some (u, v) ∧ w.cell? ⟨b, off + k * 2, none⟩ = some (.int .i64 u) ∧ w.cell? ⟨b, off + k * 2 + 1, none⟩ = some (.int .i64 v) := by
  obtain ⟨ad, e, hb, hc⟩ := h.2.2 (by omega)
  have he : l[k]? = some l[k] := List.getElem?_eq_getElem hk
  obtain ⟨h1, h2⟩ := ev_at l k _ he
  have h0 : ∃ u, (ev l)[0]? = some u := ⟨_, List.getElem?_eq_getElem (by rw [len_ev]; omega)⟩
  obtain ⟨b, off, spot⟩ := ad
  have hspot : spot = none := by
    obtain ⟨u, hu⟩ := h0
    simpa [Addr.add] using World.cell?_spot (hc 0 u hu)
  subst hspot
  refine ⟨b, off, l[k].1, l[k].2, e, hb, he, ?_, ?_⟩
  · have := hc _ _ h1
    rwa [Go.WideShapes.add_plain] at this
  · have := hc _ _ h2
    rwa [Go.WideShapes.add_plain] at this
theorem RE.tail_ (h : RE B w A c l) {k : Nat} (hk : k ≤ l.length) : RE B w (if c = k then A else A.map (·.add (k * 2))) (c - k) (l.drop k) := by
  refine ⟨by have := h.1; simp; omega, ?_⟩
  have := h.2.cut (k := k) (cap := c) hk h.1
  rw [ev_drop] at this
  rw [List.length_drop]
  exact this
theorem RE.front (h : RE B w A c l) {k : Nat} (hk : k ≤ l.length) : RE B w A c (l.take k) := by
  refine ⟨by have := h.1; simp; omega, by rw [len_ev], fun h0 => ?_⟩
  obtain ⟨ad, e, hb, hc⟩ := h.2.2 (by simp at h0; omega)
  refine ⟨ad, e, hb, fun j u hu => hc j u ?_⟩
  rw [← ev_take, List.getElem?_take] at hu
  split at hu
  · exact hu
  · simp at hu
theorem RE.of_own {base : Nat} {e : TypeId} (h : w.ownsRow base e 2 (.slice A l.length c) l.length (ev l)) : RE w.heap.size w A c l := by
  refine ⟨?_, Reads.of_own h⟩
  rcases h.2 with ⟨e0, _⟩ | ⟨g, cap, cur, e0, _, _, hn, _⟩
  · injection e0 with _ e1 e2; omega
  · injection e0 with _ _ e2; omega
end
def bef (a b : Ed) : Bool := decide (a.1 < b.1) || (decide (a.1 = b.1) && decide (a.2 < b.2))
theorem before_any (u v x y : Int) (w : World) : Calls Tryz.prog 49 #[.agg #[.int .i64 u, .int .i64 v], .agg #[.int .i64 x, .int .i64 y]] w fun e w' => e = .returned (.bool (bef (u, v) (x, y))) ∧ Below w.heap.size w w' := by
  have hB : Below w.heap.size w ((w.alloc (.cells #[.int .i64 u, .int .i64 v] 53)).alloc (.cells #[.int .i64 x, .int .i64 y] 53)) := ((Below.refl _ _).alloc (Nat.le_refl _) _).alloc (by simp) _
  by_cases h1 : u < x
  · have HR := Lib.hid (show bef (u, v) (x, y) = true by simp [bef, h1])
    go_enter Tryz.func49, Tryz.ntmps49
    go_wp2
    go_ret
    exact ⟨ret_bool HR.out.symm, hB⟩
  · by_cases h2 : u = x
    · subst h2
      have hd : (u == u) = true := by simp
      by_cases h3 : v < y
      · have HR := Lib.hid (show bef (u, v) (u, y) = true by simp [bef, h3])
        go_enter Tryz.func49, Tryz.ntmps49
        go_wp2
        go_ret
        exact ⟨ret_bool HR.out.symm, hB⟩
      · have HR := Lib.hid (show bef (u, v) (u, y) = false by simp [bef, h3])
        go_enter Tryz.func49, Tryz.ntmps49
        go_wp2
        go_ret
        exact ⟨ret_bool HR.out.symm, hB⟩
    · have hd : (u == x) = false := by simpa using h2
      have HR := Lib.hid (show bef (u, v) (x, y) = false by simp [bef, h1, h2])
      clear h2
      go_enter Tryz.func49, Tryz.ntmps49
      go_wp2
      go_ret
      exact ⟨ret_bool HR.out.symm, hB⟩

def endsB (n u v : Int) : Bool := decide (0 ≤ u) && decide (0 ≤ v) && decide (u < n) && decide (v < n) && !decide (u = v)

theorem edge_any (u v : Int) (w : World) : Calls Tryz.prog 31 #[.int .i64 u, .int .i64 v] w fun e w' => e = .returned (.agg #[.int .i64 (min u v), .int .i64 (max u v)]) ∧ Below w.heap.size w w' := by
  go_enter Tryz.func31, Tryz.ntmps31
  go_wp2
  all_goals exact bodyPost_ret (v := .agg #[.int .i64 (min u v), .int .i64 (max u v)]) (by simp [results, Tryz.results31, go_sem] <;> omega) rfl ⟨rfl, (Below.refl _ _).alloc (Nat.le_refl _) _⟩
end Go.Proofs.YtioohmhllajifaaGreat
