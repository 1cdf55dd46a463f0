/-
  The words of an event: the table of the kinds, strconv.Itoa, wordsOf.
-/
import Derived.Test.YtnohmgmpabckkaaDoorVe
import Derived.Test.YtnohmgmpabckkaaDoorVs
import Derived.Lib.Join
namespace Go.Proofs.YtnohmgmpabckkaaDoor
open Go.RowKit Go.Lib

def mk (l : List UInt8) : ByteArray := ⟨l.toArray⟩
theorem mk_data (l : List UInt8) : (mk l).data.toList = l := by simp [mk]
theorem mk_size (l : List UInt8) : (mk l).size = l.length := by simp [mk, ByteArray.size]
theorem mk_append (a b : List UInt8) : mk a ++ mk b = mk (a ++ b) := by
  apply ByteArray.ext
  simp [mk]
/-- what the program's variables hold -/
structure KW (w : World) : Prop where
  k1 : w.cell? ⟨0, 1, none⟩ = some (.string ⟨#[115, 101, 116]⟩)
  k2 : w.cell? ⟨0, 2, none⟩ = some (.string ⟨#[99, 117, 116]⟩)
  k3 : w.cell? ⟨0, 3, none⟩ = some (.string ⟨#[108, 101, 97, 118, 101]⟩)
  ml : ∃ m, w.cell? ⟨1, 0, none⟩ = some (.int .i64 m)
  tb : TabIs Tryd.prog w "internal/strconv.uint64pow10" .u64 Lib.pow10Tab
  sz : 7 ≤ w.heap.size
theorem KW.go {B : Nat} {w w' : World} (h : KW w) (hb : Below B w w') (hB : 7 ≤ B) : KW w' := by
  have hg : Tryd.prog.globalNamed "internal/strconv.uint64pow10" = some 2 := by kernel_rfl
  refine ⟨(hb.cell (p := ⟨0, 1, none⟩) (by show 0 < B; omega)).trans h.k1, (hb.cell (p := ⟨0, 2, none⟩) (by show 0 < B; omega)).trans h.k2, (hb.cell (p := ⟨0, 3, none⟩) (by show 0 < B; omega)).trans h.k3, ?_, ?_, Nat.le_trans h.sz hb.size⟩
  · obtain ⟨m, hm⟩ := h.ml
    exact ⟨m, (hb.cell (p := ⟨1, 0, none⟩) (by show 1 < B; omega)).trans hm⟩
  · have := h.tb
    unfold TabIs World.var? at this ⊢
    rw [hg] at this ⊢
    simp only [Option.bind_some] at this ⊢
    rw [hb.block 2 (by omega)]
    exact this
theorem KW.up {w w' : World} (h : KW w) (hb : Below w.heap.size w w') : KW w' := h.go hb h.sz
theorem KW.over {w : World} (h : KW w) (x : More w) : KW (over w x) := h.up (over_below w x)
theorem below_growN (w : World) (q : Nat) (os : Array Obj) : Below w.heap.size w (Sort.grow (w.drewN q) os) := by
  refine ⟨rfl, rfl, rfl, by simp [Sort.grow, World.drewN], fun k hk => ?_⟩
  simp only [Sort.grow, World.drewN]
  exact Array.getElem?_append_left hk
theorem itoa_any (n : Int) (h0 : 0 ≤ n) (h1 : n ≤ 2000000) (w : World) (K : KW w) : Calls Tryd.prog 35 #[.int .i64 n] w fun e w' => e = .returned (.string (mk (Lib.itoa n))) ∧ Below w.heap.size w w' :=
  (Tryd.strconv_Itoa n (by omega) (by omega) w K.tb).mono fun e w' ⟨he, k, os, hw⟩ => ⟨he, hw ▸ below_growN w k os⟩
theorem signWord_any (z : Int) (w : World) : Calls Tryd.prog 45 #[.int .i64 z] w fun e w' => e = .returned (.string (mk (if z = -1 then [45] else [43]))) ∧ w = w' := by
  by_cases h : z = -1
  · subst h
    go_enter Tryd.func45, Tryd.ntmps45
    go_wp2
    go_ret
    exact ⟨rfl, rfl⟩
  · have hd : (z == -1) = false := by simpa using h
    rw [if_neg h]
    clear h
    go_enter Tryd.func45, Tryd.ntmps45
    go_wp2
    go_ret
    exact ⟨rfl, rfl⟩
/-- the words of an event's line -/
def wl (e : Ev) : List (List UInt8) :=
  [if e.kind = 1 then [115, 101, 116] else if e.kind = 2 then [99, 117, 116] else [108, 101, 97, 118, 101], Lib.itoa e.time, Lib.itoa e.u] ++
    (if e.kind = 3 then [] else [Lib.itoa e.v]) ++ (if e.kind = 1 then [Lib.itoa e.weight, Lib.itoa e.label, if e.sign = -1 then [45] else [43]] else [])
/-- the bounds of a valid event's numbers -/
structure VB (e : Ev) : Prop where
  k : e.kind = 1 ∨ e.kind = 2 ∨ e.kind = 3
  t : 0 ≤ e.time ∧ e.time ≤ 1048576
  u : 0 ≤ e.u ∧ e.u < 64
  v : 0 ≤ e.v ∧ e.v < 64
  w : 0 ≤ e.weight ∧ e.weight ≤ 1000
  l : 0 ≤ e.label ∧ e.label ≤ 15
  s1 : e.kind = 1 → e.sign = 1 ∨ e.sign = -1
  s2 : e.kind ≠ 1 → e.weight = 0 ∧ e.label = 0 ∧ e.sign = 0
  v3 : e.kind = 3 → e.v = 0
theorem vb_of (e : Ev) (h : chkE e = 0) : VB e := by
  unfold chkE at h
  split at h
  · omega
  rename_i h1
  split at h
  · omega
  rename_i h2
  split at h
  · omega
  rename_i h3
  split at h
  · omega
  rename_i h4
  simp only [Bool.not_eq_false] at h3 h4
  have h1' : e.kind = 1 ∨ e.kind = 2 ∨ e.kind = 3 := by omega
  unfold nodesB okN at h3
  unfold attrB at h4
  refine ⟨h1', by omega, ?_, ?_, ?_, ?_, ?_, ?_, ?_⟩ <;> (split at h3 <;> split at h4 <;> simp at h3 h4 <;> omega)
end Go.Proofs.YtnohmgmpabckkaaDoor
