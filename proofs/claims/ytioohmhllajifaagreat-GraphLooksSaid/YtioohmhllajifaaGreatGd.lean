/-
  The reference's Find, Neighbours, Degree.
-/
import Derived.Test.YtioohmhllajifaaGreatGc
namespace Go.Proofs.YtioohmhllajifaaGreat
open Go.RowKit

def edg (u v : Int) : Ed := (min u v, max u v)
/-- the place of an edge -/
def fnd (e : Ed) : Nat → List Ed → Int
  | _, [] => -1
  | k, x :: l => if x = e then (k : Int) else fnd e (k + 1) l
theorem fnd_hit (e : Ed) (l : List Ed) (k : Nat) (h : l[k]? = some e) : fnd e k (l.drop k) = k := by
  rw [drop_at_e l e k h]; unfold fnd; rw [if_pos rfl]
theorem fnd_next (e x : Ed) (l : List Ed) (k : Nat) (h : l[k]? = some x) (hne : x ≠ e) : fnd e k (l.drop k) = fnd e (k + 1) (l.drop (k + 1)) := by
  rw [drop_at_e l x k h]
  show (if x = e then _ else _) = _
  rw [if_neg hne]
theorem fnd_end (e : Ed) (l : List Ed) (k : Nat) (h : l.length ≤ k) : fnd e k (l.drop k) = -1 := by rw [List.drop_eq_nil_of_le h]; rfl
def find (n : Int) (l : List Ed) (u v : Int) : Int := if chk n l = 0 then fnd (edg u v) 0 l else -1

/-- what stays known of a function's first box, a graph by value -/
structure Gb (w : World) (g : Nat) (n : Int) (A : Option Addr) (c : Nat) (l : List Ed) (wr : World) : Prop where
  blk : wr.heap[g]? = some (.cells #[.int .i64 n, .slice A l.length c] 28)
  lt : g < wr.heap.size
  re : RE wr.heap.size wr A c l
  bel : Below w.heap.size w wr
theorem Gb.start {w : World} {n : Int} {A : Option Addr} {c : Nat} {l : List Ed} (h : RE w.heap.size w A c l) : Gb w w.heap.size n A c l (w.alloc (.cells #[.int .i64 n, .slice A l.length c] 28)) :=
  ⟨heap_alloc_new _ _, by simp, h.up ((Below.refl _ _).alloc (Nat.le_refl _) _), (Below.refl _ _).alloc (Nat.le_refl _) _⟩
theorem Gb.go {w wr w' : World} {g : Nat} {n : Int} {A : Option Addr} {c : Nat} {l : List Ed} (h : Gb w g n A c l wr) (hb : Below wr.heap.size wr w') : Gb w g n A c l w' :=
  ⟨(hb.block g h.lt).trans h.blk, Nat.lt_of_lt_of_le h.lt hb.size, h.re.up hb, h.bel.trans (hb.mono h.bel.size)⟩
theorem Gb.c0 {w wr : World} {g : Nat} {n : Int} {A : Option Addr} {c : Nat} {l : List Ed} (h : Gb w g n A c l wr) : wr.cell? ⟨g, 0, none⟩ = some (.int .i64 n) := Go.Joins.cell_of_block h.blk 0
theorem Gb.c1 {w wr : World} {g : Nat} {n : Int} {A : Option Addr} {c : Nat} {l : List Ed} (h : Gb w g n A c l wr) : wr.cell? ⟨g, 1, none⟩ = some (.slice A l.length c) := Go.Joins.cell_of_block h.blk 1

set_option maxHeartbeats 2000000 in
theorem find_any (n : Int) (A : Option Addr) (c : Nat) (l : List Ed) (u v : Int) (w : World) (h : RE w.heap.size w A c l) (hl : l.length ≤ 65536) :
    Calls Tryz.prog 10 #[.agg #[.int .i64 n, .slice A l.length c], .int .i64 u, .int .i64 v] w fun e w' => e = .returned (.int .i64 (find n l u v)) ∧ Below w.heap.size w w' := by
  have HG0 := Lib.hid (Gb.start (n := n) h)
  clear h
  obtain ⟨X, HX⟩ : ∃ X, Hid (chk n l = X) := ⟨_, rfl⟩
  by_cases hX : X = 0
  · subst hX
    have HF := Lib.hid (show find n l u v = fnd (edg u v) 0 l by unfold find; rw [if_pos HX.out])
    go_enter Tryz.func10, Tryz.ntmps10
    go_wp2_with fail
    refine (check_any n A c l _ HG0.out.re hl).mono ?_
    rintro e w1 ⟨rfl, hb⟩
    rw [HX.out]
    have HG := Lib.hid (HG0.out.go hb)
    have z1 := HG.out.c0; have z2 := HG.out.c1; have z3 := HG.out.lt
    clear hb HG0
    go_wp2
    obtain ⟨g, Hg⟩ : ∃ g, Hid (g = w.heap.size) := ⟨_, rfl⟩
    rw [← Hg.out] at HG z1 z2 z3 ⊢
    clear z1 z2 z3 Hg
    go_loopw [15] (fun i wr => ∃ (k : Nat), k ≤ l.length ∧ i = .int .i64 k ∧ Hid (Gb w g n A c l wr) ∧ Hid (find n l u v = fnd (edg u v) k (l.drop k))) (fun i _ => l.length - (RowKit.intOf i).toNat)
    case atStart => exact ⟨0, Nat.zero_le _, rfl, HG.out, HF.out⟩
    case round =>
      obtain ⟨k, hk, rfl, HR, HN⟩ := hrel
      by_cases hlt : k < l.length
      · obtain ⟨b, off, x, y, rfl, hb, hx, hc0, hc1⟩ := HR.out.re.let_ hlt
        have HXk := Lib.hid hx
        clear hx
        have HRa := Lib.hid (HR.out.go ((Below.refl _ _).alloc (Nat.le_refl _) (.cells #[.int .i64 x, .int .i64 y] 53)))
        have C46 := Lib.hid (fun w => edge_any u v w)
        obtain ⟨p, Hp⟩ : ∃ p, Hid (p = min u v) := ⟨_, rfl⟩
        obtain ⟨q, Hq⟩ : ∃ q, Hid (q = max u v) := ⟨_, rfl⟩
        rw [← Hp.out, ← Hq.out] at C46
        by_cases h1 : x = p ∧ y = q
        · obtain ⟨rfl, rfl⟩ := h1
          have e1 : (x == x) = true := by simp
          have e2 : (y == y) = true := by simp
          have HRR := Lib.hid (HN.out.trans (fnd_hit (edg u v) l k (by rw [HXk.out, edg, ← Hp.out, ← Hq.out])))
          go_wp2
          refine wp_region_over (by kernel_rfl) (by kernel_rfl) ?_
          repeat (go_big_quiet_step (first | (go_at_call 31; exact calls_over (C46.out _))))
          refine wpQuiet_nil ?_
          rintro _ ⟨z, rfl⟩
          have hbx := Lib.hid (over_below _ z)
          go_wp2
          go_ret
          exact ⟨ret_int HRR.out.symm, HRa.out.bel.trans (hbx.out.mono HRa.out.bel.size)⟩
        · have HRR := Lib.hid (HN.out.trans (fnd_next (edg u v) (x, y) l k HXk.out (by
            rw [edg, ← Hp.out, ← Hq.out]; intro h0; injection h0 with h2 h3; exact h1 ⟨h2, h3⟩)))
          have he : (x == p && y == q) = false := by
            refine Bool.eq_false_iff.2 fun h0 => h1 ?_
            simpa using h0
          rcases (show x ≠ p ∨ (x = p ∧ y ≠ q) by
            by_cases hxp : x = p
            · exact .inr ⟨hxp, fun h2 => h1 ⟨hxp, h2⟩⟩
            · exact .inl hxp) with h2 | ⟨h2, h3⟩
          · have e1 : (x == p) = false := by simpa using h2
            clear h1 h2 he
            go_wp2
            refine wp_region_over (by kernel_rfl) (by kernel_rfl) ?_
            repeat (go_big_quiet_step (first | (go_at_call 31; exact calls_over (C46.out _))))
            refine wpQuiet_nil ?_
            rintro _ ⟨z, rfl⟩
            have hbx := Lib.hid (over_below _ z)
            go_wp2
            go_roundw
            case rel => exact ⟨k + 1, by omega, by go_num, HRa.out.go hbx.out, HRR.out⟩
            case measure => simp [RowKit.intOf]; omega
          · subst h2
            have e1 : (x == x) = true := by simp
            have e2 : (y == q) = false := by simpa using h3
            clear h1 h3 he
            go_wp2
            refine wp_region_over (by kernel_rfl) (by kernel_rfl) ?_
            repeat (go_big_quiet_step (first | (go_at_call 31; exact calls_over (C46.out _))))
            refine wpQuiet_nil ?_
            rintro _ ⟨z, rfl⟩
            have hbx := Lib.hid (over_below _ z)
            go_wp2
            go_roundw
            case rel => exact ⟨k + 1, by omega, by go_num, HRa.out.go hbx.out, HRR.out⟩
            case measure => simp [RowKit.intOf]; omega
      · have HRR := Lib.hid (HN.out.trans (fnd_end (edg u v) l k (by omega)))
        go_wp2
        go_ret
        exact ⟨ret_int HRR.out.symm, HR.out.bel⟩
  · have HF := Lib.hid (show find n l u v = -1 by unfold find; rw [if_neg (by rw [HX.out]; exact hX)])
    have e1 : (X != 0) = true := by simpa using hX
    clear hX
    go_enter Tryz.func10, Tryz.ntmps10
    go_wp2_with fail
    refine (check_any n A c l _ HG0.out.re hl).mono ?_
    rintro e w1 ⟨rfl, hb⟩
    rw [HX.out]
    have HG := Lib.hid (HG0.out.go hb)
    clear hb HG0
    go_wp2
    go_ret
    exact ⟨ret_int HF.out.symm, HG.out.bel⟩
end Go.Proofs.YtioohmhllajifaaGreat
