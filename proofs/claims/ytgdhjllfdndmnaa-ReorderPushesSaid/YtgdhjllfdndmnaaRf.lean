/-
  The queue: what waits, in a box of its own; upTo, release.
-/
import Derived.Test.YtgdhjllfdndmnaaRe
import Derived.Test.YtgdhjllfdndmnaaIn
import Derived.Laws.ResultCell
namespace Go.Proofs.Ytgdhjllfdndmnaa
open Go.RowKit Go.Lib

/-- a queue in block P, what waits in a row of its own -/
structure QB (base P : Nat) (A : Option Addr) (c : Nat) (b : Rd.Bf) (w : World) : Prop where
  blk : w.heap[P]? = some (.cells #[.int .i64 b.bound, .int .i64 b.latest, .int .i64 b.mark, .slice A b.wait.length c] 53 (0, 0))
  own : OW base w A c b.wait
  hP : base ≤ P
/-- all blocks stay but P and one row -/
structure Tw (P : Nat) (r : Option Nat) (w w' : World) : Prop where
  os : w'.os = w.os
  tape : w'.tape = w.tape
  output : w'.output = w.output
  size : w.heap.size ≤ w'.heap.size
  block : ∀ k, k < w.heap.size → k ≠ P → r ≠ some k → w'.heap[k]? = w.heap[k]?
section
variable {P : Nat} {r r1 : Option Nat} {w w1 w2 : World}
theorem Tw.refl : Tw P r w w := ⟨rfl, rfl, rfl, Nat.le_refl _, fun _ _ _ _ => rfl⟩
theorem Tw.trans (h : Tw P r w w1) (h2 : Tw P r1 w1 w2) (hf : Fr w.heap.size r r1) : Tw P r w w2 :=
  ⟨h2.os.trans h.os, h2.tape.trans h.tape, h2.output.trans h.output, Nat.le_trans h.size h2.size, fun k hk hP hr =>
    (h2.block k (Nat.lt_of_lt_of_le hk h.size) hP (fun e => (hf k e).elim hr (fun h0 => by omega))).trans (h.block k hk hP hr)⟩
theorem Tw.of_below (h : Below w.heap.size w w1) : Tw P r w w1 := ⟨h.os, h.tape, h.output, h.size, fun k hk _ _ => h.block k hk⟩
theorem Tw.of_grown (h : w.grownBy w1 r) : Tw P r w w1 := ⟨h.os, h.tape, h.output, h.size, fun k hk _ hr => h.block k hk (fun e => hr e.symm)⟩
theorem Tw.more (h : Tw P none w w1) : Tw P r w w1 := ⟨h.os, h.tape, h.output, h.size, fun k hk hP _ => h.block k hk hP (fun e => by cases e)⟩
theorem Tw.set {i : Nat} {v : Value} : Tw P none w (w.setCell ⟨P, i, none⟩ v) := ⟨rfl, rfl, rfl, by simp [World.setCell], fun k _ hk _ => Below.heap_setCell w ⟨P, i, none⟩ v k hk⟩
theorem Tw.grownP (h : Tw P none w w1) : w.grownBy w1 (some P) := ⟨h.os, h.tape, h.output, h.size, fun k hk hne => h.block k hk (fun e => hne (by rw [e])) (fun e => by cases e)⟩
theorem Tw.below {B : Nat} (h : Tw P r w w1) (hP : B ≤ P) (hr : ∀ k, r = some k → B ≤ k) (hB : B ≤ w.heap.size) : Below B w w1 :=
  ⟨h.os, h.tape, h.output, h.size, fun k hk => h.block k (by omega) (by omega) (fun e => by have := hr k e; omega)⟩
end
section
variable {base P c : Nat} {A : Option Addr} {b : Rd.Bf} {w w' : World}
theorem QB.lP (h : QB base P A c b w) : P < w.heap.size := lt_of_some h.blk
theorem QB.go (h : QB base P A c b w) (hb : Below w.heap.size w w') : QB base P A c b w' := ⟨(hb.block _ h.lP).trans h.blk, h.own.go hb, h.hP⟩
theorem QB.ne (h : QB base P A c b w) : bk A c ≠ some P := h.own.ne h.blk (by decide)
theorem QB.cells (h : QB base P A c b w) : w.cell? ⟨P, 0, none⟩ = some (.int .i64 b.bound) ∧ w.cell? ⟨P, 1, none⟩ = some (.int .i64 b.latest) ∧ w.cell? ⟨P, 2, none⟩ = some (.int .i64 b.mark) ∧ w.cell? ⟨P, 3, none⟩ = some (.slice A b.wait.length c) :=
  ⟨Go.Joins.cell_of_block h.blk 0, Go.Joins.cell_of_block h.blk 1, Go.Joins.cell_of_block h.blk 2, Go.Joins.cell_of_block h.blk 3⟩
theorem QB.fz (h : QB base P A c b w) (i : Nat) : w.frozen? ⟨P, i, none⟩ = false := Go.Joins.unfrozen_of_block h.blk i
end
theorem upto_take {t : Int} {l : List Ev} (h : Rd.Asc l) : l.take (Rd.upto t l).length = Rd.upto t l := by
  have hs := Rd.asc_split t l h
  have := List.take_left (l₁ := Rd.upto t l) (l₂ := Rd.behind t l)
  rwa [hs] at this
theorem upto_drop {t : Int} {l : List Ev} (h : Rd.Asc l) : l.drop (Rd.upto t l).length = Rd.behind t l := by
  have hs := Rd.asc_split t l h
  have := List.drop_left (l₁ := Rd.upto t l) (l₂ := Rd.behind t l)
  rwa [hs] at this
theorem upTo_any (base P : Nat) (A : Option Addr) (c : Nat) (b : Rd.Bf) (t : Int) (ht : -4194304 ≤ t ∧ t ≤ 4194304) (w : World) (h : QB base P A c b w) (ha : Rd.Asc b.wait) (hl : b.wait.length ≤ 65536) :
    Calls Try.prog 39 #[.pointer (some ⟨P, 0, none⟩), .int .i64 t] w fun e w' => e = .returned (.int .i64 (Rd.upto t b.wait).length) ∧ Below w.heap.size w w' := by
  obtain ⟨n, L, M, l⟩ := b
  obtain ⟨p0, p1, p2, p3⟩ := h.cells
  dsimp only at p0 p1 p2 p3 ha hl ⊢
  have f1 : IntKind.i64.wrap (t + 1) = t + 1 := IntWalk.i64_in _ (by omega)
  have C := Lib.hid (search_any A c l t w h.own.rv ha hl)
  generalize (Rd.upto t l).length = k at C ⊢
  clear h
  go_enter Try.func39, Try.ntmps39
  go_wp2_with fail
  refine C.out.mono ?_
  rintro e w1 ⟨⟨F, rfl⟩, hb⟩
  have HB := Lib.hid hb
  clear hb C
  go_wp2
  go_ret
  exact ⟨rfl, HB.out⟩
/-- a list of events that reads, in memory from block B on -/
def RN (B : Nat) (w : World) (A : Option Addr) (c : Nat) (l : List Ev) : Prop := RV w.heap.size w A c l ∧ (l ≠ [] → ∃ ad, A = some ad ∧ B ≤ ad.block)
theorem RN.lo {B B' : Nat} {w : World} {A : Option Addr} {c : Nat} {l : List Ev} (h : RN B w A c l) (hB : B' ≤ B) : RN B' w A c l :=
  ⟨h.1, fun hl => by obtain ⟨ad, e, hb⟩ := h.2 hl; exact ⟨ad, e, by omega⟩⟩
theorem RN.go {B : Nat} {w w' : World} {A : Option Addr} {c : Nat} {l : List Ev} (h : RN B w A c l) (hb : Below w.heap.size w w') : RN B w' A c l := ⟨h.1.up hb, h.2⟩
theorem RN.nil_ (B : Nat) (w : World) (A : Option Addr) (c : Nat) : RN B w A c [] := ⟨RX.nil_ _ _ _ _, fun h => absurd rfl h⟩
theorem RN.kept {B : Nat} {w w' : World} {A : Option Addr} {c : Nat} {l : List Ev} {r : Option Nat} (h : RN B w A c l) (hg : w.grownBy w' r) (hr : ∀ k, r = some k → k < B) : RN B w' A c l := by
  refine ⟨⟨h.1.1, h.1.2.1, fun h0 => ?_⟩, h.2⟩
  obtain ⟨ad, e, hb, hc⟩ := h.1.2.2 h0
  obtain ⟨ad', e', hB⟩ := h.2 (fun e => by rw [e] at h0; simp at h0)
  rw [e] at e'
  injection e' with e'
  subst e'
  refine ⟨ad, e, Nat.lt_of_lt_of_le hb hg.size, fun j u hu => ?_⟩
  have hbe := hg.block ad.block hb (fun e => by have := hr _ e.symm; omega)
  exact (World.cell?_of_block (by rw [block_of_add]; exact hbe)).trans (hc j u hu)
/-- what release answers -/
def RelP (base P : Nat) (A : Option Addr) (c : Nat) (b : Rd.Bf) (t : Int) (w : World) (en : Ending) (w' : World) : Prop :=
  ∃ (A1 A2 : Option Addr) (c1 c2 : Nat), en = .returned (.slice A2 (Rd.rel b t).2.length c2) ∧ QB base P A1 c1 (Rd.rel b t).1 w' ∧ RN base w' A2 c2 (Rd.rel b t).2 ∧ Tw P none w w' ∧ Fr w.heap.size (bk A c) (bk A1 c1)
theorem rel_end {base P c k : Nat} {A : Option Addr} {n L M t mx : Int} {l : List Ev} {w w1 : World} (h : QB base P A c ⟨n, L, M, l⟩ w1) (hb : Below w.heap.size w w1) (hk : k ≤ l.length) (hr : Rd.rel ⟨n, L, M, l⟩ t = (⟨n, L, mx, l.drop k⟩, l.take k)) (X : Option Addr) (j q : Nat)
    (hX : (if c = k then A else A.map (·.add (k * 7))) = X) (hj : l.length - k = j) (hq : c - k = q) :
    RelP base P A c ⟨n, L, M, l⟩ t w (.returned (.slice A k k)) ((w1.setCell ⟨P, 3, none⟩ (.slice X j q)).setCell ⟨P, 2, none⟩ (.int .i64 mx)) := by
  subst hX; subst hj; subst hq
  have hT : Tw P none w1 ((w1.setCell ⟨P, 3, none⟩ (.slice (if c = k then A else A.map (·.add (k * 7))) (l.length - k) (c - k))).setCell ⟨P, 2, none⟩ (.int .i64 mx)) := Tw.set.trans Tw.set (Fr.refl _ _)
  have hO : OW base ((w1.setCell ⟨P, 3, none⟩ (.slice (if c = k then A else A.map (·.add (k * 7))) (l.length - k) (c - k))).setCell ⟨P, 2, none⟩ (.int .i64 mx)) A c l := h.own.kept hT.grownP (fun k hk e => h.ne (by rw [hk, e]))
  have hB := setCell_cells (setCell_cells h.blk 3 (.slice (if c = k then A else A.map (·.add (k * 7))) (l.length - k) (c - k))) 2 (.int .i64 mx)
  unfold RelP
  rw [hr]
  refine ⟨_, A, _, k, ?_, ⟨?_, hO.cut hk, h.hP⟩, ?_, (Tw.of_below hb).trans hT (Fr.refl _ _), bk_cut A c k _⟩
  · simp [List.length_take, Nat.min_eq_left hk]
  · rw [hB, List.length_drop]
    rfl
  · have := hO.rv.front encE hk
    refine ⟨⟨by simp; omega, this.2⟩, fun hl => ?_⟩
    rcases hO.2.2 with h1 | ⟨g, o, cur, h1, h2, -⟩
    · exfalso
      have h3 := hO.1
      apply hl
      rw [List.eq_nil_of_length_eq_zero (l := l) (by omega)]
      simp
    · exact ⟨_, h1, h2⟩
set_option maxHeartbeats 2000000 in
theorem release_any (base P : Nat) (A : Option Addr) (c : Nat) (b : Rd.Bf) (t : Int) (ht : -4194304 ≤ t ∧ t ≤ 4194304) (w : World) (h : QB base P A c b w) (ha : Rd.Asc b.wait) (hl : b.wait.length ≤ 65536) :
    Calls Try.prog 30 #[.pointer (some ⟨P, 0, none⟩), .int .i64 t] w (RelP base P A c b t w) := by
  have C := Lib.hid (upTo_any base P A c b t ht w h ha hl)
  have H := Lib.hid h
  have HA := Lib.hid ha
  have hkl : (Rd.upto t b.wait).length ≤ b.wait.length := by have := Rd.len_split t b.wait; omega
  have HT := Lib.hid (upto_take (t := t) ha)
  have HD := Lib.hid (upto_drop (t := t) ha)
  obtain ⟨n, L, M, l⟩ := b
  dsimp only at hkl HT HD C hl
  have hlc : l.length ≤ c := H.out.own.1
  have hcm : c ≤ 9223372036854775807 := by have := H.out.own.2.1; unfold maxLen at this; omega
  have HR : Hid (Rd.rel ⟨n, L, M, l⟩ t = (⟨n, L, max M t, l.drop (Rd.upto t l).length⟩, l.take (Rd.upto t l).length)) := by
    show _ = _
    rw [HT.out, HD.out]; rfl
  obtain ⟨k, HK⟩ : ∃ k, Hid ((Rd.upto t l).length = k) := ⟨_, rfl⟩
  rw [HK.out] at hkl C HR
  obtain ⟨mx, HX⟩ : ∃ mx, Hid (max M t = mx) := ⟨_, rfl⟩
  rw [HX.out] at HR
  have HKL := Lib.hid hkl
  obtain ⟨m, HM⟩ : ∃ m, Hid (l.length = m) := ⟨_, rfl⟩
  rw [HM.out] at hkl hlc hl
  clear h ha HT HD
  have hmx : (t ≤ M ∧ mx = M) ∨ (M < t ∧ mx = t) := by have := HX.out; omega
  clear HX
  by_cases hc : c = k
  · subst hc
    rcases hmx with ⟨hmx, h9⟩ | ⟨hmx, h9⟩
    all_goals subst h9
    all_goals
      go_enter Try.func30, Try.ntmps30
      go_wp2_with fail
      refine C.out.mono ?_
      rintro e w1 ⟨rfl, hb⟩
      have H1 := Lib.hid (H.out.go hb)
      have HB := Lib.hid hb
      obtain ⟨p0, p1, p2, p3⟩ := H1.out.cells
      dsimp only at p0 p1 p2 p3
      have z2 := H1.out.fz 2; have z3 := H1.out.fz 3
      have hPl := H1.out.lP
      rw [HM.out] at p3
      clear hb C H
      go_wp2
      go_ret
      refine rel_end H1.out HB.out HKL.out HR.out _ _ _ ?_ ?_ ?_
      · simp 
      · rw [HM.out]; try omega
      · try omega
  · have f5 : ¬ c = k := hc
    rcases hmx with ⟨hmx, h9⟩ | ⟨hmx, h9⟩
    all_goals subst h9
    all_goals
      go_enter Try.func30, Try.ntmps30
      go_wp2_with fail
      refine C.out.mono ?_
      rintro e w1 ⟨rfl, hb⟩
      have H1 := Lib.hid (H.out.go hb)
      have HB := Lib.hid hb
      obtain ⟨p0, p1, p2, p3⟩ := H1.out.cells
      dsimp only at p0 p1 p2 p3
      have z2 := H1.out.fz 2; have z3 := H1.out.fz 3
      have hPl := H1.out.lP
      rw [HM.out] at p3
      clear hb C H
      go_wp2
      go_ret
      refine rel_end H1.out HB.out HKL.out HR.out _ _ _ ?_ ?_ ?_
      · simp [f5]
      · rw [HM.out]; try omega
      · try omega
end Go.Proofs.Ytgdhjllfdndmnaa
