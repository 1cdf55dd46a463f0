/-
  slices.SortFunc at events and at links, in a row of the caller's own.
-/
import Derived.Test.YtfapfkaipdcflaaGreatSe
import Derived.Test.YtfapfkaipdcflaaGreatSs
import Derived.Shelf.SlSortCmp.WholeK
import Derived.Shelf.SlSortCmp.NoneTotal
namespace Go.Proofs.YtfapfkaipdcflaaGreat
open Go.RowKit Go.Lib Go.Sort

instance : Inhabited Ev := ⟨⟨0, 0, 0, 0, 0, 0, 0⟩⟩
instance : Inhabited Ls.Lk := ⟨⟨0, 0, 0, 0, 0, 0⟩⟩
section
variable {α : Type} [Inhabited α] {n : Nat} {f : α → List Value}
theorem flat_cl (E : Enc n f) (hn : 0 < n) (l : List α) : (flatK f n l.toArray).toList = cl f l := by
  apply List.ext_getElem?
  intro j
  by_cases hj : j < l.length * n
  · have h1 : j / n < l.length := (Nat.div_lt_iff_lt_mul hn).2 hj
    have h2 : j % n < n := Nat.mod_lt _ hn
    have hl : l[j / n]? = some l[j / n] := List.getElem?_eq_getElem h1
    have hc := cl_at E l (j / n) _ hl (j % n) h2
    rw [Nat.mul_comm, Nat.div_add_mod] at hc
    rw [hc]
    have h3 : j % n < (f l[j / n]).length := by rw [E.len]; exact h2
    unfold flatK
    simp [hj, h1, h3]
  · rw [List.getElem?_eq_none (by simp; omega), List.getElem?_eq_none (by rw [cl_len E]; omega)]
variable {w : World} {base g c : Nat} {T : TypeId} {l : List α}
theorem own_holdsX (E : Enc n f) (hn : 0 < n) (h : w.ownsRow base T n (.slice (some ⟨g, 0, none⟩) l.length c) l.length (cl f l)) : HoldsK f n w g 0 l.toArray := by
  intro j hj
  have hj' : j < l.length * n := by simpa using hj
  refine ⟨?_, by rw [Nat.zero_add]; exact h.frozenAt _⟩
  rw [Nat.zero_add, h.cellAt j hj', ← flat_cl E hn, Array.getElem?_toList]
  rw [Array.getElem?_eq_getElem hj, getElem!_pos _ j hj]
  rfl
theorem own_sortedX (E : Enc n f) (hn : 0 < n) (h : w.ownsRow base T n (.slice (some ⟨g, 0, none⟩) l.length c) l.length (cl f l)) (ts : List α) (hts : ts.length = l.length) (m : Nat) (os : Array Obj) :
    (sortWorldK f n w g 0 m ts.toArray os).ownsRow base T n (.slice (some ⟨g, 0, none⟩) ts.length c) ts.length (cl f ts) ∧ Below base w (sortWorldK f n w g 0 m ts.toArray os) := by
  rcases h.2 with ⟨h', _⟩ | ⟨g', cap', cur, h', hb, hg, hnc, hcm, hcs, htake⟩
  · simp at h'
  simp only [Value.slice.injEq, Option.some.injEq, Addr.mk.injEq, and_true, true_and] at h'
  obtain ⟨rfl, rfl⟩ := h'
  have hgl : g < w.heap.size := (Array.getElem?_eq_some_iff.1 hg).1
  have hlc : l.length * n ≤ c * n := Nat.mul_le_mul_right _ hnc
  have e1 : (sortWorldK f n w g 0 m ts.toArray os).heap[g]? = some (.cells (putCells id 0 (flatK f n ts.toArray) cur) T (0, 0)) := by
    unfold sortWorldK putRowK
    rw [heap_grow_old _ _ (by simpa [putRow, mapBlock, Sort.ahead] using hgl)]
    simp [putRow, mapBlock, Sort.ahead, Array.getElem?_modify, hg, onCells]
  refine ⟨⟨cl_len E ts, .inr ⟨g, c, _, rfl, hb, e1, by omega, hcm, by simpa [putCells] using hcs, ?_⟩⟩, rfl, rfl, rfl, ?_, ?_⟩
  · rw [← flat_cl E hn ts]
    apply List.ext_getElem?
    intro j
    by_cases hj : j < ts.length * n
    · rw [List.getElem?_take_of_lt hj, Array.getElem?_toList, Array.getElem?_toList]
      have hj2 : j < cur.size := by rw [hcs]; rw [hts] at hj; omega
      simp [putCells, hj, hj2]
    · rw [List.getElem?_take_eq_none (by omega), List.getElem?_eq_none (by simp; omega)]
  · simp [sortWorldK, putRowK, putRow, mapBlock, Sort.ahead, grow]
  · intro k hk
    have hne : g ≠ k := by omega
    unfold sortWorldK putRowK
    by_cases hkw : k < w.heap.size
    · rw [heap_grow_old _ _ (by simpa [putRow, mapBlock, Sort.ahead] using hkw)]
      simp [putRow, mapBlock, Sort.ahead, Array.getElem?_modify, hne]
    · omega
end
/-- one event's edge comes before another's -/
def befV (a b : Ev) : Prop := a.u < b.u ∨ (a.u = b.u ∧ a.v < b.v)
theorem orL2 (a b : Int) : orL [a, b] < 0 ↔ a < 0 ∨ (a = 0 ∧ b < 0) := by
  show (if a = 0 then (if b = 0 then 0 else b) else a) < 0 ↔ _
  split <;> (try split) <;> omega
theorem cmpV_neg (a b : Ev) : cmpV a b < 0 ↔ befV a b := by
  unfold cmpV befV
  rw [orL2, compareInt_neg, compareInt_neg, compareInt_zero]
theorem cmpA_neg (a b : Ls.Lk) : cmpA a b < 0 ↔ Ls.old a b = true := by
  have h3 : ∀ x y z : Int, orL [x, y, z] < 0 ↔ x < 0 ∨ (x = 0 ∧ orL [y, z] < 0) := fun x y z => by
    show (if x = 0 then orL [y, z] else x) < 0 ↔ _
    split <;> omega
  unfold cmpA Ls.old Ls.before
  rw [h3, orL2, compareInt_neg, compareInt_zero, compareInt_neg, compareInt_zero, compareInt_neg]
  simp
theorem swoV : SWO (ltOf cmpV) where
  irrefl x := by unfold ltOf; rw [decide_eq_false_iff_not, cmpV_neg]; unfold befV; omega
  trans x y z h1 h2 := by unfold ltOf at *; rw [decide_eq_true_eq, cmpV_neg] at *; unfold befV at *; omega
  ntrans x y z h1 h2 := by unfold ltOf at *; rw [decide_eq_false_iff_not, cmpV_neg] at *; unfold befV at *; omega
theorem swoA : SWO (ltOf cmpA) where
  irrefl x := by unfold ltOf; rw [decide_eq_false_iff_not, cmpA_neg, Ls.old_irr]; decide
  trans x y z h1 h2 := by unfold ltOf at *; rw [decide_eq_true_eq, cmpA_neg] at *; exact Ls.old_trans _ _ _ h1 h2
  ntrans x y z h1 h2 := by
    unfold ltOf at *
    rw [decide_eq_false_iff_not, cmpA_neg] at *
    simp [Ls.old, Ls.before] at *
    omega
theorem cmpLaysV (g size : Nat) (w : World) : CmpLays Tryz.prog 62 #[] Ev.cells 7 cmpV g 0 size w := fun _ _ _ _ x y => cmpV_grow x.kind x.time x.u x.v x.weight x.label x.sign y.kind y.time y.u y.v y.weight y.label y.sign _
theorem cmpLaysA (g size : Nat) (w : World) : CmpLays Tryz.prog 59 #[] Ls.Lk.cells 6 cmpA g 0 size w := fun _ _ _ _ x y => cmpA_grow x.u x.v x.weight x.label x.sign x.time y.u y.v y.weight y.label y.sign y.time _
/-- a list that is sorted: no later one is less than an earlier one -/
def Srt {α : Type} (cf : α → α → Int) (l : List α) : Prop := l.Pairwise fun a b => ¬ cf b a < 0
theorem srt_of {α : Type} [Inhabited α] {cf : α → α → Int} {ts : List α} {n : Nat} (hn : ts.length = n) (h : SortedIn (ltOf cf) 0 n ts.toArray) : Srt cf ts := by
  refine List.pairwise_iff_getElem.2 fun i j hi hj hij => ?_
  have := h i j (Nat.zero_le _) hij (by omega)
  unfold ltOf at this
  simpa [hi, hj] using this
theorem perm_of {α : Type} [Inhabited α] {l ts : List α} (h : PermIn 0 l.toArray.size l.toArray ts.toArray) : ts.length = l.length ∧ ts.Perm l := by
  have hlen : ts.length = l.length := by simpa using h.1
  refine ⟨hlen, ?_⟩
  have := h.2.2
  rw [show l.toArray.size = ts.length by simp [hlen]] at this
  rw [show (ts.toArray.extract 0 ts.length).toList = ts by simp, show (l.toArray.extract 0 ts.length).toList = l by simp [hlen]] at this
  exact this
set_option maxHeartbeats 1000000 in
theorem sortV_own (base : Nat) (A : Option Addr) (c : Nat) (l : List Ev) (w : World) (h : w.ownsRow base 57 7 (.slice A l.length c) l.length (cl Ev.cells l)) (hl : l.length ≤ 65536) (hbase : base ≤ w.heap.size) :
    Calls Tryz.prog 61 #[.slice A l.length c, .func (.func 62) #[] #[]] w fun e w' => e = .returned (.tuple #[]) ∧ ∃ ts : List Ev, ts.length = l.length ∧ ts.Perm l ∧ Srt cmpV ts ∧
      w'.ownsRow base 57 7 (.slice A ts.length c) ts.length (cl Ev.cells ts) ∧ Below base w w' := by
  have eg : ∀ args w, (callFunc 62 args).run Tryz.prog w = .ok (.enter 62 args) w := enters_of Tryz.func62 (by kernel_rfl) rfl
  rcases h.2 with ⟨h', h0⟩ | ⟨g, cap', cur, h', hb, hg, _⟩
  · have h0 : l = [] := List.eq_nil_of_length_eq_zero h0
    subst h0
    have hcon := AnyF.slices_SortFunc_none Tryz.sortV A c (.func (.func 62) #[] #[]) w
    change Calls Tryz.prog 61 _ _ _ at hcon
    refine hcon.mono ?_
    rintro e w' ⟨rfl, rfl⟩
    exact ⟨rfl, [], rfl, List.Perm.refl _, List.Pairwise.nil, h, Below.refl _ _⟩
  · injection h' with e1 e2 e3
    subst e1
    have hcon := AnyQ.slices_SortFunc Tryz.sortV 7 Tryz.isAgg57 Tryz.sizeOf57 Ev.cells encE.len encE.one cmpV swoV 62 #[] g 0 c l.toArray w eg (cmpLaysV g _ w) (own_holdsX encE (by decide) h) (lt_of_some hg) (by simp; omega)
    change Calls Tryz.prog 61 _ _ _ at hcon
    refine hcon.mono ?_
    rintro e w' ⟨rfl, d', n, os, hp, hs, rfl⟩
    obtain ⟨ts, rfl⟩ : ∃ ts : List Ev, d' = ts.toArray := ⟨d'.toList, by simp⟩
    obtain ⟨hlen, hperm⟩ := perm_of hp
    obtain ⟨h1, h2⟩ := own_sortedX encE (by decide) h ts hlen n os
    exact ⟨rfl, ts, hlen, hperm, srt_of (by simpa using hlen) hs, h1, h2⟩
set_option maxHeartbeats 1000000 in
theorem sortL_own (base : Nat) (A : Option Addr) (c : Nat) (l : List Ls.Lk) (w : World) (h : w.ownsRow base 62 6 (.slice A l.length c) l.length (cl Ls.Lk.cells l)) (hl : l.length ≤ 65536) (hbase : base ≤ w.heap.size) :
    Calls Tryz.prog 78 #[.slice A l.length c, .func (.func 59) #[] #[]] w fun e w' => e = .returned (.tuple #[]) ∧ ∃ ts : List Ls.Lk, ts.length = l.length ∧ ts.Perm l ∧ Srt cmpA ts ∧
      w'.ownsRow base 62 6 (.slice A ts.length c) ts.length (cl Ls.Lk.cells ts) ∧ Below base w w' := by
  have eg : ∀ args w, (callFunc 59 args).run Tryz.prog w = .ok (.enter 59 args) w := enters_of Tryz.func59 (by kernel_rfl) rfl
  rcases h.2 with ⟨h', h0⟩ | ⟨g, cap', cur, h', hb, hg, _⟩
  · have h0 : l = [] := List.eq_nil_of_length_eq_zero h0
    subst h0
    have hcon := AnyF.slices_SortFunc_none Tryz.sortL A c (.func (.func 59) #[] #[]) w
    change Calls Tryz.prog 78 _ _ _ at hcon
    refine hcon.mono ?_
    rintro e w' ⟨rfl, rfl⟩
    exact ⟨rfl, [], rfl, List.Perm.refl _, List.Pairwise.nil, h, Below.refl _ _⟩
  · injection h' with e1 e2 e3
    subst e1
    have hcon := AnyQ.slices_SortFunc Tryz.sortL 6 Tryz.isAgg62 Tryz.sizeOf62 Ls.Lk.cells encL.len encL.one cmpA swoA 59 #[] g 0 c l.toArray w eg (cmpLaysA g _ w) (own_holdsX encL (by decide) h) (lt_of_some hg) (by simp; omega)
    change Calls Tryz.prog 78 _ _ _ at hcon
    refine hcon.mono ?_
    rintro e w' ⟨rfl, d', n, os, hp, hs, rfl⟩
    obtain ⟨ts, rfl⟩ : ∃ ts : List Ls.Lk, d' = ts.toArray := ⟨d'.toList, by simp⟩
    obtain ⟨hlen, hperm⟩ := perm_of hp
    obtain ⟨h1, h2⟩ := own_sortedX encL (by decide) h ts hlen n os
    exact ⟨rfl, ts, hlen, hperm, srt_of (by simpa using hlen) hs, h1, h2⟩
/-- what expires, sorted: one list -/
theorem srtV_eq (t : Int) (K : List Ls.Lk) (ts : List Ev) (hd : Ls.Dist K) (hp : ts.Perm (K.map fun x => Ls.cutE x t)) (hs : Srt cmpV ts) : ts = (Ls.sortL K).map fun x => Ls.cutE x t := by
  have hstrict : ts.Pairwise befV := by
    have hd2 : (K.map fun x => Ls.cutE x t).Pairwise fun a b => ¬ (a.u = b.u ∧ a.v = b.v) := by
      rw [List.pairwise_map]
      exact hd.imp fun {a b} h => by simp [Ls.same] at h; simpa [Ls.cutE] using h
    have hd3 : ts.Pairwise fun a b => ¬ (a.u = b.u ∧ a.v = b.v) := (hp.pairwise_iff (fun {a b} h h' => h ⟨h'.1.symm, h'.2.symm⟩)).2 hd2
    refine (hs.and hd3).imp ?_
    rintro a b ⟨h1, h2⟩
    rw [cmpV_neg] at h1
    unfold befV at *
    omega
  refine Ls.pw_unique befV (fun a h => by unfold befV at h; omega) (fun a b c h g => by unfold befV at *; omega) _ _ hstrict ?_ fun x => ?_
  · rw [List.pairwise_map]
    exact (Ls.asc_sortL K).imp fun {a b} h => by simp [Ls.before] at h; simpa [befV, Ls.cutE] using h
  · rw [hp.mem_iff, List.mem_map, List.mem_map]
    simp only [Ls.mem_sortL K hd]
/-- links of different edges, sorted by age -/
theorem srtA_aged (S ts : List Ls.Lk) (hd : Ls.Dist S) (hp : ts.Perm S) (hs : Srt cmpA ts) : Ls.Aged ts := by
  have hd3 : ts.Pairwise fun a b => Ls.same a b = false := (hp.pairwise_iff (fun {a b} h => by rw [Ls.same_comm]; exact h)).2 hd
  refine (hs.and hd3).imp ?_
  rintro a b ⟨h1, h2⟩
  rw [cmpA_neg] at h1
  rcases Ls.old_tri a b h2 with h | h
  · exact h
  · exact absurd h h1
end Go.Proofs.YtfapfkaipdcflaaGreat
