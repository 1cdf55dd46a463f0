/-
  Joined texts: Gr, Hc, Hd, He.
-/
import Derived.Test.YtagkpkkbkeefbaaGn
import Derived.Laws.OwnMore
import Derived.Lib.SlicesCompact
import Derived.Lib.SliceRun
import Derived.Deep.Draws
import Derived.IntWalk
import Derived.Test.YtagkpkkbkeefbaaHb
import Derived.Test.YtagkpkkbkeefbaaSs
import Derived.Shelf.SlSortCmp.WholeK
import Derived.Test.YtagkpkkbkeefbaaEa
import Derived.OwnWalk
/-
  A store into a list of edges that is owned (for the maker's Spoilt).
-/
namespace Go.Proofs.Ytagkpkkbkeefbaa
open Go.RowKit Go.Lib

theorem ev_cons (e : Ed) (l : List Ed) : ev (e :: l) = .int .i64 e.1 :: .int .i64 e.2 :: ev l := rfl
theorem ev_set0 (l : List Ed) (k : Nat) (x y z : Int) (h : l[k]? = some (x, y)) : (ev l).set (k * 2) (.int .i64 z) = ev (l.set k (z, y)) := by
  induction l generalizing k with
  | nil => simp at h
  | cons e l ih =>
    cases k with
    | zero =>
      simp at h; subst h; rfl
    | succ k =>
      have h' : l[k]? = some (x, y) := by simpa using h
      rw [List.set_cons_succ, ev_cons, ev_cons, ← ih k h', show (k + 1) * 2 = k * 2 + 1 + 1 by omega]
      rfl
theorem ev_set1 (l : List Ed) (k : Nat) (x y z : Int) (h : l[k]? = some (x, y)) : (ev l).set (k * 2 + 1) (.int .i64 z) = ev (l.set k (x, z)) := by
  induction l generalizing k with
  | nil => simp at h
  | cons e l ih =>
    cases k with
    | zero =>
      simp at h; subst h; rfl
    | succ k =>
      have h' : l[k]? = some (x, y) := by simpa using h
      rw [List.set_cons_succ, ev_cons, ev_cons, ← ih k h', show (k + 1) * 2 + 1 = k * 2 + 1 + 1 + 1 by omega]
      rfl
section
variable {w : World} {base b c : Nat} {l : List Ed} {A : Option Addr}
theorem own_spotE (h : w.ownsRow base 69 2 (.slice A l.length c) l.length (ev l)) (h0 : 0 < l.length) : ∃ b, A = some ⟨b, 0, none⟩ ∧ base ≤ b ∧ b < w.heap.size := by
  rcases h.2 with ⟨_, e1⟩ | ⟨g, cap, cur, e0, hg, hh, _⟩
  · omega
  · injection e0 with e0 e1 e2
    exact ⟨g, e0, hg, (Array.getElem?_eq_some_iff.1 hh).1⟩
theorem own_cells (h : w.ownsRow base 69 2 (.slice (some ⟨b, 0, none⟩) l.length c) l.length (ev l)) {k : Nat} {x y : Int} (hk : l[k]? = some (x, y)) :
    w.cell? ⟨b, k * 2, none⟩ = some (.int .i64 x) ∧ w.cell? ⟨b, k * 2 + 1, none⟩ = some (.int .i64 y) ∧ w.frozen? ⟨b, k * 2, none⟩ = false ∧ w.frozen? ⟨b, k * 2 + 1, none⟩ = false := by
  have hl : k < l.length := (List.getElem?_eq_some_iff.mp hk).1
  obtain ⟨h1, h2⟩ := ev_at l k _ hk
  exact ⟨(h.cellAt _ (by omega)).trans h1, (h.cellAt _ (by omega)).trans h2, h.frozenAt _, h.frozenAt _⟩
theorem own_set0 (h : w.ownsRow base 69 2 (.slice (some ⟨b, 0, none⟩) l.length c) l.length (ev l)) {k : Nat} {x y : Int} (hk : l[k]? = some (x, y)) (z : Int) :
    (w.setCell ⟨b, k * 2, none⟩ (.int .i64 z)).ownsRow base 69 2 (.slice (some ⟨b, 0, none⟩) (l.set k (z, y)).length c) (l.set k (z, y)).length (ev (l.set k (z, y))) := by
  have := (h.stored (k * 2) (.int .i64 z)).1
  rw [ev_set0 l k x y z hk] at this
  rw [List.length_set]; exact this
theorem own_set1 (h : w.ownsRow base 69 2 (.slice (some ⟨b, 0, none⟩) l.length c) l.length (ev l)) {k : Nat} {x y : Int} (hk : l[k]? = some (x, y)) (z : Int) :
    (w.setCell ⟨b, k * 2 + 1, none⟩ (.int .i64 z)).ownsRow base 69 2 (.slice (some ⟨b, 0, none⟩) (l.set k (x, z)).length c) (l.set k (x, z)).length (ev (l.set k (x, z))) := by
  have := (h.stored (k * 2 + 1) (.int .i64 z)).1
  rw [ev_set1 l k x y z hk] at this
  rw [List.length_set]; exact this
end
end Go.Proofs.Ytagkpkkbkeefbaa

/-
  slices.Compact at edges, in a row of the caller's own.
-/
namespace Go.Proofs.Ytagkpkkbkeefbaa
open Go.RowKit Go.Lib

section
variable {w : World} {base g n c : Nat} {e : TypeId} {size : Nat} {xs : List Value}
theorem own_setCells (vs : List Value) : ∀ (o : Nat) (w : World) (xs : List Value), w.ownsRow base e size (.slice (some ⟨g, 0, none⟩) n c) n xs →
    ∃ ys, (w.setCells g o vs).ownsRow base e size (.slice (some ⟨g, 0, none⟩) n c) n ys ∧ ys.take o = xs.take o := by
  induction vs with
  | nil => intro o w xs h; exact ⟨xs, h, rfl⟩
  | cons v vs ih =>
    intro o w xs h
    obtain ⟨ys, h1, h2⟩ := ih (o + 1) _ _ (h.stored o v).1
    refine ⟨ys, h1, ?_⟩
    have h3 := congrArg (List.take o) h2
    rw [List.take_take, List.take_take, Nat.min_eq_left (Nat.le_succ o)] at h3
    rw [h3]
    apply List.ext_getElem?
    intro i
    by_cases hi : i < o
    · rw [List.getElem?_take_of_lt hi, List.getElem?_take_of_lt hi, List.getElem?_set_ne (by omega)]
    · rw [List.getElem?_take_eq_none (by omega), List.getElem?_take_eq_none (by omega)]
theorem own_front (h : w.ownsRow base e size (.slice (some ⟨g, 0, none⟩) n c) n xs) {k : Nat} (hk : k ≤ n) : w.ownsRow base e size (.slice (some ⟨g, 0, none⟩) k c) k (xs.take (k * size)) := by
  have hm : k * size ≤ n * size := Nat.mul_le_mul_right _ hk
  refine ⟨by rw [List.length_take, h.1]; omega, ?_⟩
  rcases h.2 with ⟨h', _⟩ | ⟨g', cap', cur, h', hb, hg, hnc, hcm, hcs, htake⟩
  · simp at h'
  · simp only [Value.slice.injEq, Option.some.injEq, Addr.mk.injEq, and_true, true_and] at h'
    obtain ⟨rfl, rfl⟩ := h'
    exact .inr ⟨g, c, cur, rfl, hb, hg, by omega, hcm, hcs, by rw [← htake, List.take_take, Nat.min_eq_left hm]⟩
theorem below_drew0 (base : Nat) (w : World) (n : Nat) : Below base w (w.drewN n) := ⟨rfl, rfl, rfl, Nat.le_refl _, fun _ _ => rfl⟩
theorem below_setCells (vs : List Value) (hb : base ≤ g) : ∀ (o : Nat) (w0 w : World), Below base w0 w → Below base w0 (w.setCells g o vs) := by
  induction vs with
  | nil => intro o w0 w h; exact h
  | cons v vs ih => intro o w0 w h; exact ih (o + 1) _ _ (h.setCell hb v)
end

theorem run_clearE (w : World) (ty : TypeId) (b o n c : Nat) (hn : 0 < n)
    (hc : ∀ j, j < n * 2 → (w.cell? ⟨b, o + j, none⟩).isSome = true) (hf : ∀ j, j < n * 2 → w.frozen? ⟨b, o + j, none⟩ = false) :
    (Builtin.clear_ #[52] ty #[.slice (some ⟨b, o, none⟩) n c]).run Try.prog w = .ok (.tuple #[]) (w.setCells b o (List.replicate (n * 2) (.int .i64 0))) := by
  have hzc : (Builtin.zeroCells (Value.agg #[.int .i64 0, .int .i64 0]).cells n).toList = List.replicate (n * 2) (.int .i64 0) := by
    have e : (Value.agg #[.int .i64 0, .int .i64 0]).cells = #[.int .i64 0, .int .i64 0] := rfl
    rw [e]
    simp [Builtin.zeroCells]
    apply List.ext_getElem
    · simp
    · intro i h1 h2
      have : i % 2 = 0 ∨ i % 2 = 1 := by omega
      rcases this with h | h <;> simp [h]
  have hst := run_storeCells_cells (P := Try.prog) b o (List.replicate (n * 2) (.int .i64 0)) 0 w (by simpa using hc) (by simpa using hf) (by intro v hv'; rw [List.eq_of_mem_replicate hv']; rfl)
  simp only [Nat.add_zero] at hst
  obtain ⟨m, rfl⟩ : ∃ m, n = m + 1 := ⟨n - 1, by omega⟩
  simp [Builtin.clear_, run_underlying Try.underlying52, hzc, hst]

theorem keeps_at (l : List Ed) (k : Nat) (x y : Ed) (hk : l[k + 1]? = some x) (hj : l[k]? = some y) : keeps l.toArray (k + 1) = decide (x ≠ y) := by
  have e1 : l.toArray[k + 1]! = x := by simp [hk]
  have e2 : l.toArray[k + 1 - 1]! = y := by simp [hj]
  unfold keeps
  rw [e1, e2]
  simp
theorem compact_len (l : List Ed) (k : Nat) (h : ∀ j, j < k → keeps l.toArray j = true) (hk : l.length ≤ k) : compact l = l := compact_all l fun j hj => h j (by omega)

theorem comp_high {l ks : List Ed} {m kk i : Nat} (h : CompInv l.toArray m kk ks.toArray) (hl : ks.length = l.length) (hi : kk ≤ i) : ks[i]? = l[i]? := by
  by_cases h1 : i < l.length
  · have h2 := h.high i hi
    rw [getElem!_pos ks.toArray i (by simpa [hl] using h1), getElem!_pos l.toArray i (by simpa using h1)] at h2
    rw [List.getElem?_eq_getElem (by omega), List.getElem?_eq_getElem h1]
    simpa using h2
  · rw [List.getElem?_eq_none (by omega), List.getElem?_eq_none (by omega)]
theorem comp_take (l ks : List Ed) (kk : Nat) (hk : kk < ks.length) (h2 : (compactUpTo l.toArray l.length).length = kk) (h1 : ∀ j, j < kk → (compactUpTo l.toArray l.length)[j]? = some ks.toArray[j]!) : ks.take kk = compact l := by
  unfold compact
  apply List.ext_getElem?
  intro i
  by_cases hi : i < kk
  · rw [List.getElem?_take_of_lt hi, h1 i hi, getElem!_pos ks.toArray i (by simp; omega), List.getElem?_eq_getElem (by omega)]
    simp
  · rw [List.getElem?_take_eq_none (by omega), List.getElem?_eq_none (by omega)]

set_option maxHeartbeats 4000000 in
set_option maxRecDepth 100000 in
theorem compactE_own (base g c : Nat) (l : List Ed) (w : World) (h : w.ownsRow base 69 2 (.slice (some ⟨g, 0, none⟩) l.length c) l.length (ev l)) (hl : l.length ≤ 65536) (hg : base ≤ g) (hc : l.length ≤ c) :
    Calls Try.prog 66 #[.slice (some ⟨g, 0, none⟩) l.length c] w fun e w' => e = .returned (.slice (some ⟨g, 0, none⟩) (compact l).length c) ∧
      w'.ownsRow base 69 2 (.slice (some ⟨g, 0, none⟩) (compact l).length c) (compact l).length (ev (compact l)) ∧ Below base w w' := by
  obtain ⟨R, HR⟩ : ∃ R, Hid (compact l = R) := ⟨_, rfl⟩
  rw [HR.out]
  have H := Lib.hid h
  clear h
  by_cases h2 : l.length < 2
  · have e : R = l := HR.out.symm.trans (compact_all l fun j hj => keeps_lt_one _ j (by omega))
    subst e
    go_enter Try.func66, Try.ntmps66
    go_wp2
    go_ret
    exact ⟨rfl, H.out, Below.refl _ _⟩
  · go_enter Try.func66, Try.ntmps66
    go_wp2
    go_loopw [3] (fun i wr => ∃ (k n : Nat), k + 1 ≤ l.length ∧ i = .int .i64 ((k + 1 : Nat)) ∧ wr = w.drewN n ∧ Hid (∀ j, j < k + 1 → keeps l.toArray j = true)) (fun i _ => l.length - (RowKit.intOf i).toNat)
    case atStart => exact ⟨0, 0, by omega, rfl, rfl, keeps_lt_one _⟩
    case round =>
      obtain ⟨k, n, hk, rfl, rfl, HK⟩ := hrel
      by_cases hlt : k + 1 < l.length
      · obtain ⟨x, hx⟩ : ∃ x, l[k + 1]? = some x := ⟨_, List.getElem?_eq_getElem hlt⟩
        obtain ⟨y, hy⟩ : ∃ y, l[k]? = some y := ⟨_, List.getElem?_eq_getElem (by omega)⟩
        obtain ⟨u, v⟩ := x
        obtain ⟨p, q⟩ := y
        obtain ⟨a0, a1, -, -⟩ := own_cells H.out hx
        obtain ⟨b0, b1, -, -⟩ := own_cells H.out hy
        have HP := Lib.hid (keeps_at l k _ _ hx hy)
        clear hx hy
        by_cases hne : (u, v) = (p, q)
        · injection hne with hu hv
          subst hu; subst hv
          have e1 : (u == u) = true := by simp
          have e2 : (v == v) = true := by simp
          have HD : Hid (keeps l.toArray (k + 1) = false) := by show _ = _; rw [HP.out]; simp
          have hck : ¬ c = k + 1 := by omega
          go_wp2
          go_quiet (fail)
          go_wp2
          clear a0 a1 b0 b1
          go_loopw [3, 5] (fun s3 s5 wr => ∃ (kk j : Nat) (ks : List Ed), s3 = .int .i64 kk ∧ s5 = .int .i64 ((j + 1 : Nat)) ∧ k + 1 + (j + 1) ≤ l.length ∧ kk ≤ k + 1 + j ∧ ks.length = l.length ∧ Hid (CompInv l.toArray (k + 1 + (j + 1)) kk ks.toArray) ∧ Hid (wr.ownsRow base 69 2 (.slice (some ⟨g, 0, none⟩) ks.length c) ks.length (ev ks)) ∧ Hid (Below base w wr)) (fun _ s5 _ => l.length - (k + 1) - (RowKit.intOf s5).toNat)
          case atStart => exact ⟨k + 1, 0, l, rfl, rfl, by omega, by omega, rfl, CompInv.start HK.out HD.out, H.out, below_drew0 _ _ _⟩
          case round =>
            obtain ⟨kk, j, ks, rfl, rfl, hj, hkk, hks, HI, HO, HB⟩ := hrel
            have hck2 : ¬ c = kk := by omega
            by_cases hlt2 : k + 1 + (j + 1) < l.length
            · obtain ⟨x, hx⟩ : ∃ x, l[k + 1 + (j + 1)]? = some x := ⟨_, List.getElem?_eq_getElem hlt2⟩
              obtain ⟨y, hy⟩ : ∃ y, l[k + 1 + j]? = some y := ⟨_, List.getElem?_eq_getElem (by omega)⟩
              obtain ⟨z, hz⟩ : ∃ z, ks[kk]? = some z := ⟨_, List.getElem?_eq_getElem (by omega)⟩
              obtain ⟨u2, v2⟩ := x
              obtain ⟨p2, q2⟩ := y
              obtain ⟨o1, o2⟩ := z
              obtain ⟨a0, a1, -, -⟩ := own_cells HO.out ((comp_high HI.out hks (by omega)).trans hx)
              obtain ⟨b0, b1, -, -⟩ := own_cells HO.out ((comp_high HI.out hks hkk).trans hy)
              obtain ⟨d0, d1, f0, f1⟩ := own_cells HO.out hz
              rw [show (k + 1 + (j + 1)) * 2 = (k + 1) * 2 + (j + 1) * 2 by omega] at a0 a1
              rw [show (k + 1 + j) * 2 = (k + 1) * 2 + j * 2 by omega] at b0 b1
              have HP2 := Lib.hid (keeps_at l (k + 1 + j) _ _ hx hy)
              have HX := Lib.hid hx
              have HZ := Lib.hid hz
              have D0 := Lib.hid d0; have D1 := Lib.hid d1; have F0 := Lib.hid f0; have F1 := Lib.hid f1
              clear hx hy hz d0 d1 f0 f1
              by_cases hne : (u2, v2) = (p2, q2)
              · injection hne with hu hv
                subst hu; subst hv
                have e1 : (u2 != u2) = false := by simp
                have e2 : (v2 != v2) = false := by simp
                have HD2 : Hid (keeps l.toArray (k + 1 + (j + 1)) = false) := by show keeps l.toArray (k + 1 + j + 1) = _; rw [HP2.out]; simp
                go_wp2
                go_quiet (fail)
                go_wp2
                go_roundw
                case rel => exact ⟨kk, j + 1, ks, rfl, by go_num, by omega, by omega, hks, HI.out.skip HD2.out, HO.out, HB.out.trans (below_drew0 _ _ _)⟩
                case measure => simp [RowKit.intOf]; omega
              · have HD2 : Hid (keeps l.toArray (k + 1 + (j + 1)) = true) := by show keeps l.toArray (k + 1 + j + 1) = _; rw [HP2.out]; exact decide_eq_true hne
                have HI2 : Hid (CompInv l.toArray (k + 1 + (j + 1 + 1)) (kk + 1) (ks.set kk (u2, v2)).toArray) := by
                  have h1 := HI.out.keep (by simpa using hlt2) HD2.out
                  have e : l.toArray[k + 1 + (j + 1)]! = (u2, v2) := by have := HX.out; simp [this]
                  rw [e] at h1
                  show CompInv _ _ _ _
                  rw [show k + 1 + (j + 1 + 1) = k + 1 + (j + 1) + 1 by omega]
                  simpa using h1
                have HO2 : ∀ m, Hid ((((wr.drewN m).setCell ⟨g, kk * 2, none⟩ (.int .i64 u2)).setCell ⟨g, kk * 2 + 1, none⟩ (.int .i64 v2)).ownsRow base 69 2 (.slice (some ⟨g, 0, none⟩) (ks.set kk (u2, v2)).length c) (ks.set kk (u2, v2)).length (ev (ks.set kk (u2, v2)))) := fun m => by
                  have h1 := own_set0 (w := wr.drewN m) HO.out HZ.out u2
                  have h2 := own_set1 h1 (k := kk) (x := u2) (y := o2) (by rw [List.getElem?_set_self (by omega)]) v2
                  rw [List.set_set] at h2
                  exact h2
                have HB2 : ∀ m, Hid (Below base w (((wr.drewN m).setCell ⟨g, kk * 2, none⟩ (.int .i64 u2)).setCell ⟨g, kk * 2 + 1, none⟩ (.int .i64 v2))) := fun m =>
                  ((HB.out.trans (below_drew0 _ _ m)).setCell hg _).setCell hg _
                have HO3 := Lib.hid HO2
                have HB3 := Lib.hid HB2
                clear HO2 HB2
                by_cases hu : u2 = p2
                · subst hu
                  have e1 : (u2 != u2) = false := by simp
                  have e0 : (u2 == u2) = true := by simp
                  have e3 : (v2 == q2) = false := by simpa using hne
                  have e2 : (v2 != q2) = true := by simpa using hne
                  clear hne
                  go_wp2
                  have hh1 : (0 : Int) ≤ (j : Int) + 1 := by omega
                  have hh2 : (j : Int) + 1 < ((l.length - (k + 1) : Nat) : Int) := by omega
                  have hh3 : (j : Int) < ((l.length - (k + 1) : Nat) : Int) := by omega
                  have hh4 : IntKind.i64.wrap (j : Int) = (j : Int) := IntWalk.i64_in _ (by omega)
                  go_quiet (fail)
                  clear hh1 hh2 hh3 hh4
                  have d0 := D0.out; have d1 := D1.out; have f0 := F0.out; have f1 := F1.out
                  go_wp2
                  go_roundw
                  case rel => exact ⟨kk + 1, j + 1, ks.set kk (u2, v2), by go_num, by go_num, by omega, by omega, by simpa using hks, HI2.out, (HO3.out _).out, (HB3.out _).out⟩
                  case measure => simp [RowKit.intOf]; omega
                · have e1 : (u2 != p2) = true := by simpa using hu
                  have e3 : (u2 == p2) = false := by simpa using hu
                  clear hne hu
                  go_wp2
                  have hh1 : (0 : Int) ≤ (j : Int) + 1 := by omega
                  have hh2 : (j : Int) + 1 < ((l.length - (k + 1) : Nat) : Int) := by omega
                  have hh3 : (j : Int) < ((l.length - (k + 1) : Nat) : Int) := by omega
                  have hh4 : IntKind.i64.wrap (j : Int) = (j : Int) := IntWalk.i64_in _ (by omega)
                  go_quiet (fail)
                  clear hh1 hh2 hh3 hh4
                  have d0 := D0.out; have d1 := D1.out; have f0 := F0.out; have f1 := F1.out
                  go_wp2
                  go_roundw
                  case rel => exact ⟨kk + 1, j + 1, ks.set kk (u2, v2), by go_num, by go_num, by omega, by omega, by simpa using hks, HI2.out, (HO3.out _).out, (HB3.out _).out⟩
                  case measure => simp [RowKit.intOf]; omega
            · have hend : k + 1 + (j + 1) = l.length := by omega
              have hcl := fun ty => run_clearE wr ty g (kk * 2) (l.length - kk) (c - kk) (by omega)
                (fun i hi => by rw [HO.out.cellAt (kk * 2 + i) (by omega), List.getElem?_eq_getElem (by rw [len_ev]; omega)]; rfl) (fun i hi => HO.out.frozenAt _)
              have HRl : Hid (R.length = kk) := by
                show _ = _
                rw [← HR.out]
                have h1 := HI.out.len
                rw [hend] at h1
                simpa [compact] using h1
              have HRe : Hid (ks.take kk = R) := by
                show _ = _
                rw [← HR.out]
                have h1 := HI.out.low
                have h2 := HI.out.len
                rw [hend] at h1 h2
                exact comp_take l ks kk (by omega) h2 h1
              obtain ⟨ys, hy1, hy2⟩ := own_setCells (List.replicate ((l.length - kk) * 2) (.int .i64 0)) (kk * 2) wr _ HO.out
              have hy3 := own_front hy1 (k := kk) (by omega)
              rw [hy2, ev_take, HRe.out] at hy3
              have HF := Lib.hid hy3
              have HBF := Lib.hid (below_setCells (List.replicate ((l.length - kk) * 2) (.int .i64 0)) hg (kk * 2) _ _ HB.out)
              clear hy1 hy2 hy3
              go_wp2
              go_ret
              exact ⟨by rw [HRl.out]; rfl, by rw [HRl.out]; exact HF.out, HBF.out⟩
        · have HD : Hid (keeps l.toArray (k + 1) = true) := by show _ = _; rw [HP.out]; exact decide_eq_true hne
          have HK2 : Hid (∀ j, j < k + 1 + 1 → keeps l.toArray j = true) := fun j hj => by
            by_cases e : j = k + 1
            · rw [e]; exact HD.out
            · exact HK.out j (by omega)
          by_cases hu : u = p
          · subst hu
            have e1 : (u == u) = true := by simp
            have e2 : (v == q) = false := by simpa using hne
            clear hne
            go_wp2
            go_quiet (fail)
            go_wp2
            go_roundw
            case rel => exact ⟨k + 1, _, by omega, by go_num, rfl, HK2.out⟩
            case measure => simp [RowKit.intOf]; omega
          · have e1 : (u == p) = false := by simpa using hu
            clear hne hu
            go_wp2
            go_quiet (fail)
            go_wp2
            go_roundw
            case rel => exact ⟨k + 1, _, by omega, by go_num, rfl, HK2.out⟩
            case measure => simp [RowKit.intOf]; omega
      · have e : R = l := HR.out.symm.trans (compact_len l (k + 1) HK.out (by omega))
        subst e
        go_wp2
        go_ret
        exact ⟨rfl, H.out, below_drew0 _ _ _⟩
end Go.Proofs.Ytagkpkkbkeefbaa

/-
  slices.SortFunc at edges, in a row of the caller's own; what sorting and compacting make of a list of edges.
-/
namespace Go.Proofs.Ytagkpkkbkeefbaa
open Go.RowKit Go.Lib Go.Sort

def encEg (e : Ed) : List Value := [.int .i64 e.1, .int .i64 e.2]
theorem flat_ev (l : List Ed) : (flatK encEg 2 l.toArray).toList = ev l := by
  apply List.ext_getElem?
  intro j
  by_cases hj : j < l.length * 2
  · have h1 : j / 2 < l.length := by omega
    have hl : l[j / 2]? = some l[j / 2] := List.getElem?_eq_getElem h1
    obtain ⟨a, b⟩ := ev_at l (j / 2) _ hl
    have e1 : (flatK encEg 2 l.toArray).toList[j]? = some ((encEg l[j / 2])[j % 2]!) := by
      unfold flatK
      simp [hj, h1]
    rw [e1]
    have : j % 2 = 0 ∨ j % 2 = 1 := by omega
    rcases this with h | h
    · rw [h]; have : j = j / 2 * 2 := by omega
      rw [← this] at a; rw [a]; rfl
    · rw [h]; have : j = j / 2 * 2 + 1 := by omega
      rw [← this] at b; rw [b]; rfl
  · rw [List.getElem?_eq_none (by simp; omega), List.getElem?_eq_none (by rw [len_ev]; omega)]

section
variable {w : World} {base g c : Nat} {l : List Ed}
theorem own_holds (h : w.ownsRow base 69 2 (.slice (some ⟨g, 0, none⟩) l.length c) l.length (ev l)) : HoldsK encEg 2 w g 0 l.toArray := by
  intro j hj
  have hj' : j < l.length * 2 := by simpa using hj
  refine ⟨?_, by rw [Nat.zero_add]; exact h.frozenAt _⟩
  rw [Nat.zero_add, h.cellAt j hj', ← flat_ev, Array.getElem?_toList]
  rw [Array.getElem?_eq_getElem hj, getElem!_pos _ j hj]
  rfl
theorem own_sorted (h : w.ownsRow base 69 2 (.slice (some ⟨g, 0, none⟩) l.length c) l.length (ev l)) (ts : List Ed) (hts : ts.length = l.length) (n : Nat) (os : Array Obj) :
    (sortWorldK encEg 2 w g 0 n ts.toArray os).ownsRow base 69 2 (.slice (some ⟨g, 0, none⟩) ts.length c) ts.length (ev ts) ∧ Below base w (sortWorldK encEg 2 w g 0 n ts.toArray os) := by
  rcases h.2 with ⟨h', _⟩ | ⟨g', cap', cur, h', hb, hg, hnc, hcm, hcs, htake⟩
  · simp at h'
  simp only [Value.slice.injEq, Option.some.injEq, Addr.mk.injEq, and_true, true_and] at h'
  obtain ⟨rfl, rfl⟩ := h'
  have hgl : g < w.heap.size := (Array.getElem?_eq_some_iff.1 hg).1
  have e1 : (sortWorldK encEg 2 w g 0 n ts.toArray os).heap[g]? = some (.cells (putCells id 0 (flatK encEg 2 ts.toArray) cur) 69 (0, 0)) := by
    unfold sortWorldK putRowK
    rw [heap_grow_old _ _ (by simpa [putRow, mapBlock, Sort.ahead] using hgl)]
    simp [putRow, mapBlock, Sort.ahead, Array.getElem?_modify, hg, onCells]
  refine ⟨⟨len_ev ts, .inr ⟨g, c, _, rfl, hb, e1, by omega, hcm, by simpa [putCells] using hcs, ?_⟩⟩, rfl, rfl, rfl, ?_, ?_⟩
  · rw [← flat_ev ts]
    apply List.ext_getElem?
    intro j
    by_cases hj : j < ts.length * 2
    · rw [List.getElem?_take_of_lt hj, Array.getElem?_toList, Array.getElem?_toList]
      have hj2 : j < cur.size := by omega
      simp [putCells, hj, hj2]
    · rw [List.getElem?_take_eq_none (by omega), List.getElem?_eq_none (by simp; omega)]
  · simp [sortWorldK, putRowK, putRow, mapBlock, Sort.ahead, grow]
  · intro k hk
    have hne : g ≠ k := by omega
    unfold sortWorldK putRowK
    by_cases hkw : k < w.heap.size
    · rw [heap_grow_old _ _ (by simpa [putRow, mapBlock, Sort.ahead] using hkw)]
      simp [putRow, mapBlock, Sort.ahead, Array.getElem?_modify, hne]
    · omega
end
end Go.Proofs.Ytagkpkkbkeefbaa

/-
  Package graph's Of.
-/
namespace Go.Proofs.Ytagkpkkbkeefbaa
open Go.RowKit Go.Lib Go.Sort

theorem swoE : SWO (ltOf cmpE) where
  irrefl x := by unfold ltOf; rw [ltE_bef]; exact bef_irrefl x
  trans x y z h1 h2 := by unfold ltOf at *; rw [ltE_bef] at *; exact bef_trans x y z h1 h2
  ntrans x y z h1 h2 := by
    unfold ltOf at *
    rw [ltE_bef] at *
    rw [bef_no] at *
    omega
theorem cmpLaysE (g size : Nat) (w : World) : CmpLays Try.prog 65 #[] encEg 2 cmpE g 0 size w := fun _ _ _ _ x y => cmpE_grow x.1 x.2 y.1 y.2 _

set_option maxHeartbeats 1000000 in
theorem sortE_own (base g c : Nat) (l : List Ed) (w : World) (h : w.ownsRow base 69 2 (.slice (some ⟨g, 0, none⟩) l.length c) l.length (ev l)) (hl : l.length ≤ 65536) (hg : g < w.heap.size) :
    Calls Try.prog 64 #[.slice (some ⟨g, 0, none⟩) l.length c, .func (.func 65) #[] #[]] w fun e w' => e = .returned (.tuple #[]) ∧ ∃ ts : List Ed, ts.length = l.length ∧ ts.Perm l ∧ (∀ i j, i < j → j < ts.length → bef ts.toArray[j]! ts.toArray[i]! = false) ∧
      w'.ownsRow base 69 2 (.slice (some ⟨g, 0, none⟩) ts.length c) ts.length (ev ts) ∧ Below base w w' := by
  have eg : ∀ args w, (callFunc 65 args).run Try.prog w = .ok (.enter 65 args) w := enters_of Try.func65 (by kernel_rfl) rfl
  have hcon := AnyQ.slices_SortFunc Try.sortE 2 Try.isAgg69 Try.sizeOf69 encEg (fun _ => rfl) (fun x v hv => by simp [encEg] at hv; rcases hv with rfl | rfl <;> rfl) cmpE swoE 65 #[] g 0 c l.toArray w eg (cmpLaysE g _ w) (own_holds h) hg (by simp; omega)
  change Calls Try.prog 64 _ _ _ at hcon
  refine hcon.mono ?_
  rintro e w' ⟨rfl, d', n, os, hp, hs, rfl⟩
  obtain ⟨ts, rfl⟩ : ∃ ts : List Ed, d' = ts.toArray := ⟨d'.toList, by simp⟩
  have hlen : ts.length = l.length := by simpa using hp.1
  obtain ⟨h1, h2⟩ := own_sorted h ts hlen n os
  refine ⟨rfl, ts, hlen, ?_, fun i j hij hj => ?_, h1, h2⟩
  · have := hp.2.2
    rw [show l.toArray.size = ts.length by simp [hlen]] at this
    rw [show (ts.toArray.extract 0 ts.length).toList = ts by simp, show (l.toArray.extract 0 ts.length).toList = l by simp [hlen]] at this
    exact this
  · have := hs i j (Nat.zero_le _) hij (by simp; omega)
    unfold ltOf at this
    rwa [ltE_bef] at this

/-- the state while the edges are gathered: the result's cell is block g4; the row lies behind it -/
structure OS (w : World) (g4 ga c2 : Nat) (ks : List Ed) (wr : World) : Prop where
  b4 : wr.heap[g4]? = some (.cells #[.int .i64 0, .slice none 0 0] 54)
  own : wr.ownsRow (g4 + 1) 69 2 (.slice (some ⟨ga, 0, none⟩) ks.length c2) ks.length (ev ks)
  bel : Below w.heap.size w wr
  l4 : w.heap.size ≤ g4
section
variable {w : World} {g4 ga c2 : Nat} {ks : List Ed} {wr : World}
theorem OS.lt (h : OS w g4 ga c2 ks wr) : g4 < wr.heap.size := lt_of_some h.b4
theorem OS.gga (h : OS w g4 ga c2 ks wr) : g4 < ga ∧ ga < wr.heap.size := by
  rcases h.own.2 with ⟨h', _⟩ | ⟨g', cap', cur, h', hb, hg, hnc, hcm, hcs, htake⟩
  · simp at h'
  · simp only [Value.slice.injEq, Option.some.injEq, Addr.mk.injEq, and_true, true_and] at h'
    obtain ⟨rfl, rfl⟩ := h'
    exact ⟨by omega, lt_of_some hg⟩
theorem OS.cap (h : OS w g4 ga c2 ks wr) : ks.length ≤ c2 := by
  rcases h.own.2 with ⟨h', _⟩ | ⟨g', cap', cur, h', hb, hg, hnc, hcm, hcs, htake⟩
  · simp at h'
  · simp only [Value.slice.injEq, Option.some.injEq, Addr.mk.injEq, and_true, true_and] at h'
    obtain ⟨rfl, rfl⟩ := h'
    exact hnc
theorem OS.go (h : OS w g4 ga c2 ks wr) {w3 : World} (hb : Below wr.heap.size wr w3) : OS w g4 ga c2 ks w3 :=
  ⟨(hb.block _ h.lt).trans h.b4, h.own.kept (row := none) ⟨hb.os, hb.tape, hb.output, hb.size, fun i hi _ => hb.block i hi⟩ (.inr (by simp [Value.ownBlock])), h.bel.trans (hb.mono h.bel.size), h.l4⟩
theorem OS.fin (h : OS w g4 ga c2 ks wr) (i j : Nat) (x y : Value) : ((wr.setCell ⟨g4, i, none⟩ x).setCell ⟨g4, j, none⟩ y).ownsRow w.heap.size 69 2 (.slice (some ⟨ga, 0, none⟩) ks.length c2) ks.length (ev ks) ∧ Below w.heap.size w ((wr.setCell ⟨g4, i, none⟩ x).setCell ⟨g4, j, none⟩ y) := by
  have h4 := h.l4
  have o1 := h.own.kept (w' := wr.setCell ⟨g4, i, none⟩ x) set_grown (.inr fun e => by have := (h.own.lt _ e).1; omega)
  have o2 := o1.kept (w' := (wr.setCell ⟨g4, i, none⟩ x).setCell ⟨g4, j, none⟩ y) set_grown (.inr fun e => by have := (o1.lt _ e).1; omega)
  exact ⟨Go.Joins.ownsRow_le o2 (by omega), (h.bel.setCell h4 _).setCell h4 _⟩
theorem OS.push (h : OS w g4 ga c2 ks wr) {ga' c3 : Nat} {ks' : List Ed} {w3 : World} (ho : w3.ownsRow (g4 + 1) 69 2 (.slice (some ⟨ga', 0, none⟩) ks'.length c3) ks'.length (ev ks')) (hb : Below (g4 + 1) wr w3) : OS w g4 ga' c3 ks' w3 :=
  ⟨(hb.block _ (by omega)).trans h.b4, ho, h.bel.trans (hb.mono (by have := h.l4; omega)), h.l4⟩
end

def edgL (l : List Ed) : List Ed := l.map fun e => edg e.1 e.2
theorem edgL_succ (l : List Ed) (x y : Int) (k : Nat) (h : l[k]? = some (x, y)) : edgL (l.take (k + 1)) = edgL (l.take k) ++ [(min x y, max x y)] := by
  rw [take_succ_e l _ k h]; simp [edgL, edg]
theorem len_edgL (l : List Ed) : (edgL l).length = l.length := by simp [edgL]

set_option maxHeartbeats 4000000 in
set_option maxRecDepth 100000 in
theorem gof_any (n : Int) (A : Option Addr) (c : Nat) (l : List Ed) (w : World) (h : RE w.heap.size w A c l) (hl : l.length ≤ 65536) :
    Calls Try.prog 47 #[.int .i64 n, .slice A l.length c] w (GivesG w (if ofe n l = 0 then n else 0) (if ofe n l = 0 then ofl l else []) (ofe n l)) := by
  have b4 : (w.alloc (.cells #[.int .i64 0, .slice none 0 0] 54)).heap[w.heap.size]? = some (.cells #[.int .i64 0, .slice none 0 0] 54) := heap_alloc_new _ _
  have HB0 : Hid (Below w.heap.size w (w.alloc (.cells #[.int .i64 0, .slice none 0 0] 54))) := (Below.refl _ _).alloc (Nat.le_refl _) _
  have H := Lib.hid h
  have CN := Lib.hid (fun W => cnt_any n W)
  clear h
  by_cases hbad : n < 0 ∨ 64 < n
  · have HR := Lib.hid (show ofe n l = 1 by unfold ofe; rw [if_pos hbad])
    rw [HR.out, if_neg (by decide), if_neg (by decide)]
    have hc : cntB n = false := by unfold cntB; simp; omega
    rw [hc] at CN
    clear b4 HR hbad hc
    go_enter Try.func47, Try.ntmps47
    go_wp2_with (go_at_call 61; refine (CN.out _).mono ?_; rintro e w' ⟨rfl, rfl⟩)
    exact bodyPost_ret (v := .tuple #[.agg #[.int .i64 0, .slice none 0 0], .int .i64 1]) (by simp [results, Try.results47, go_sem]) rfl
      ⟨none, 0, rfl, World.ownsRow_nil _ _ _ _, HB0.out⟩
  · have hc : cntB n = true := by unfold cntB; simp; omega
    rw [hc] at CN
    have HOF : Hid (ofe n l = if allE n l = true then 0 else 6) := by show _ = _; unfold ofe; rw [if_neg hbad]
    have HB4 := Lib.hid b4
    clear hbad b4 hc
    obtain ⟨m, Hm⟩ : ∃ m, Hid ((if ofe n l = 0 then n else 0) = m) := ⟨_, rfl⟩
    obtain ⟨L, HL⟩ : ∃ L, Hid ((if ofe n l = 0 then ofl l else []) = L) := ⟨_, rfl⟩
    obtain ⟨r, Hr⟩ : ∃ r, Hid (ofe n l = r) := ⟨_, rfl⟩
    rw [Hm.out, HL.out, Hr.out]
    obtain ⟨i0, hi0, hz0, hz1, hz2⟩ := info_parts ed_info
    have HI0 := Lib.hid hi0
    have HZ0 := Lib.hid hz0
    have HZ1 := Lib.hid hz1
    have HZ2 := Lib.hid hz2
    clear hi0 hz0 hz1 hz2
    go_enter Try.func47, Try.ntmps47
    go_wp2_with (first
      | (go_at_call 61; refine (CN.out _).mono ?_; rintro e w' ⟨rfl, rfl⟩)
      | (at_make; refine wpList_make_own _ rfl (.const (.int .i64 0)) (.tmp 14) 52 rfl (w.heap.size + 1) 69 i0 _ 2 Try.underlying52 HI0.out HZ0.out HZ1.out .i64 .i64 l.length l.length rfl rfl rfl (by rw [HZ2.out]; omega) (by simp only [maxLen]; omega) (by simp) ?_; intro w1 ho1 hg1; have HO1 := Lib.hid ho1; have HG1 := Lib.hid hg1; clear ho1 hg1))
    have HOS : Hid (OS w w.heap.size (w.heap.size + 1) l.length [] w1) := by
      have hb : Below (w.alloc (.cells #[.int .i64 0, .slice none 0 0] 54)).heap.size (w.alloc (.cells #[.int .i64 0, .slice none 0 0] 54)) w1 := (Below.refl _ _).grown HG1.out (Nat.le_refl _) (fun k hk => by cases hk)
      refine ⟨(hb.block _ (by simp)).trans HB4.out, ?_, HB0.out.trans (hb.mono (by simp)), Nat.le_refl _⟩
      have := HO1.out
      simpa [ev] using this
    clear HO1 HG1 HB0 HB4 HI0 HZ0 HZ1 HZ2
    go_loopw [6, 18] (fun s i wr => ∃ (k ga c2 : Nat) (ks : List Ed), k ≤ l.length ∧ i = .int .i64 k ∧ s = .slice (some ⟨ga, 0, none⟩) ks.length c2 ∧ ks.length ≤ k ∧ Hid (ks = edgL (l.take k)) ∧ Hid (allE n (l.take k) = true) ∧ Hid (OS w w.heap.size ga c2 ks wr)) (fun _ i _ => l.length - (RowKit.intOf i).toNat)
    case atStart => exact ⟨0, w.heap.size + 1, l.length, [], Nat.zero_le _, rfl, by simp, Nat.le_refl _, rfl, rfl, HOS.out⟩
    case round =>
      obtain ⟨k, ga, c2, ks, hk, rfl, rfl, hks, HK, HA, HO⟩ := hrel
      by_cases hlt : k < l.length
      · obtain ⟨b, off, x, y, rfl, hb, hx, hc0, hc1⟩ := (H.out.go HO.out.bel).let_ hlt
        have HX := Lib.hid hx
        clear hx
        have kl := HO.out.lt
        have HOa := Lib.hid (HO.out.go ((Below.refl _ _).alloc (Nat.le_refl _) (.cells #[.int .i64 x, .int .i64 y] 69)))
        obtain ⟨P, HP⟩ : ∃ P, Hid (endsB n x y = P) := ⟨_, rfl⟩
        have CJ := Lib.hid (fun W => joined_any n x y W)
        rw [HP.out] at CJ
        cases P
        · have HR : Hid (ofe n l = 6) := by show _ = _; rw [HOF.out, allE_no n l x y k HX.out HP.out]; rfl
          have e1 := Hm.out; have e2 := HL.out; have e3 := Hr.out
          rw [HR.out] at e1 e2 e3
          rw [if_neg (by decide)] at e1 e2
          subst e1; subst e2; subst e3
          have p0 := Go.Joins.cell_of_block HO.out.b4 0; have p1 := Go.Joins.cell_of_block HO.out.b4 1; have q0 := Go.Joins.unfrozen_of_block HO.out.b4 0; have q1 := Go.Joins.unfrozen_of_block HO.out.b4 1
          simp at p0 p1
          have hb4 := (setCell_two (setCell_two HO.out.b4 (v := .int .i64 0)).1 (v := .slice none 0 0)).2
          have hb5 := (Below.heap_alloc _ (.cells #[.int .i64 x, .int .i64 y] 69) _ (lt_of_some hb4)).trans hb4
          have hf0 := Go.Joins.cell_of_block hb5 0; have hf1 := Go.Joins.cell_of_block hb5 1
          simp at hf0 hf1
          have HFin := Lib.hid (((HO.out.bel.setCell (p := ⟨w.heap.size, 0, none⟩) (Nat.le_refl _) (.int .i64 0)).setCell (p := ⟨w.heap.size, 1, none⟩) (Nat.le_refl _) (.slice none 0 0)).alloc (by simp; omega) (.cells #[.int .i64 x, .int .i64 y] 69))
          clear hb4 hb5
          go_wp2_with (go_at_call 62; refine (CJ.out _).mono ?_; rintro e w2 ⟨rfl, rfl⟩)
          generalize (((wr.setCell ⟨w.heap.size, 0, none⟩ (.int .i64 0)).setCell ⟨w.heap.size, 1, none⟩ (.slice none 0 0)).alloc (.cells #[.int .i64 x, .int .i64 y] 69)) = wf at HFin hf0 hf1 ⊢
          exact bodyPost_ret (v := .tuple #[.agg #[.int .i64 0, .slice none 0 0], .int .i64 6]) (by simp [results, Try.results47, go_sem, hf0, hf1]) rfl
            ⟨none, 0, rfl, World.ownsRow_nil _ _ _ _, HFin.out⟩
        · have HN := Lib.hid (edgL_succ l x y k HX.out)
          have HN2 := Lib.hid (allE_succ n l x y k HX.out HA.out HP.out)
          rw [← HK.out] at HN
          have C35 := Lib.hid (fun W => between_any x y W)
          obtain ⟨p, Hp⟩ : ∃ p, Hid (p = min x y) := ⟨_, rfl⟩
          obtain ⟨q, Hq⟩ : ∃ q, Hid (q = max x y) := ⟨_, rfl⟩
          rw [← Hp.out, ← Hq.out] at C35 HN
          go_wp2_with (first
            | (go_at_call 62; refine (CJ.out _).mono ?_; rintro e w2 ⟨rfl, rfl⟩)
            | (go_at_call 63; refine (C35.out _).mono ?_; rintro e w3 ⟨rfl, hb3⟩; have HO3 := Lib.hid (HOa.out.go hb3); clear hb3)
            | (at_builtin; refine wpList_applE _ rfl (.tmp 30) (.tmp 36) rfl (w.heap.size + 1) (some ⟨ga, 0, none⟩) c2 ks rfl (HO3.out.own.alloc _) (some ⟨w3.heap.size, 0, none⟩) 1 1 [(p, q)] rfl rfl (RE_newB _ _ _) (by omega) (by have := HO3.out.lt; simp; omega) ?_; intro A5 c5 w5 HO5 HB5))
          obtain ⟨ga5, hA5, -, -⟩ := own_spotE HO5.out (by simp)
          subst hA5
          have HO6 := Lib.hid ((HO3.out.go ((Below.refl _ _).alloc (Nat.le_refl _) (.cells #[.int .i64 p, .int .i64 q] 69))).push HO5.out HB5.out)
          clear HO5 HB5 HO3
          go_wp2
          go_roundw
          case rel => exact ⟨k + 1, ga5, c5, ks ++ [(p, q)], by omega, by go_num, by simp, by simp; omega, HN.out.symm, HN2.out, HO6.out⟩
          case measure => simp [RowKit.intOf]; omega
      · have HT : Hid (l.take k = l) := List.take_of_length_le (by omega)
        have HR : Hid (ofe n l = 0) := by show _ = _; rw [HOF.out, if_pos]; rw [← HT.out]; exact HA.out
        have HK2 : Hid (ks = edgL l) := by show _ = _; rw [HK.out, HT.out]
        have e1 := Hm.out; have e2 := HL.out; have e3 := Hr.out
        rw [HR.out] at e1 e2 e3
        rw [if_pos rfl] at e1 e2
        subst e1; subst e3
        have HL2 := Lib.hid e2
        clear e2
        go_wp2_with fail
        refine (sortE_own (w.heap.size + 1) ga c2 ks _ HO.out.own (by omega) HO.out.gga.2).mono ?_
        rintro e w2 ⟨rfl, ts, hts, hp, hs, ho2, hb2⟩
        rw [← hts]
        have HO2 := Lib.hid (HO.out.push ho2 hb2)
        have HC : Hid (compact ts = L) := by
          show _ = _
          rw [← HL2.out]
          exact compactE_sorted l ts (by have := HK2.out; rw [this] at hp; exact hp) hs
        have htl : ts.length ≤ 65536 := by omega
        clear hts hp hs ho2 hb2
        go_wp2_with fail
        refine (compactE_own (w.heap.size + 1) ga c2 ts _ HO2.out.own htl (by have := HO2.out.gga; omega) HO2.out.cap).mono ?_
        rintro e w3 ⟨rfl, ho3, hb3⟩
        have HO3 := Lib.hid (HO2.out.push ho3 hb3)
        rw [HC.out] at HO3 ⊢
        clear ho3 hb3
        have b0 := Go.Joins.cell_of_block HO3.out.b4 0; have b1 := Go.Joins.cell_of_block HO3.out.b4 1; have d0 := Go.Joins.unfrozen_of_block HO3.out.b4 0; have d1 := Go.Joins.unfrozen_of_block HO3.out.b4 1
        simp at b0 b1
        have hb4 := (setCell_two (setCell_two HO3.out.b4 (v := .int .i64 n)).1 (v := .slice (some ⟨ga, 0, none⟩) L.length c2)).2
        have hf0 := Go.Joins.cell_of_block hb4 0; have hf1 := Go.Joins.cell_of_block hb4 1
        simp at hf0 hf1
        have HFin := Lib.hid (HO3.out.fin 0 1 (.int .i64 n) (.slice (some ⟨ga, 0, none⟩) L.length c2))
        clear hb4
        go_wp2
        generalize ((w3.setCell ⟨w.heap.size, 0, none⟩ (.int .i64 n)).setCell ⟨w.heap.size, 1, none⟩ (.slice (some ⟨ga, 0, none⟩) L.length c2)) = wf at HFin hf0 hf1 ⊢
        exact bodyPost_ret (v := .tuple #[.agg #[.int .i64 n, .slice (some ⟨ga, 0, none⟩) L.length c2], .int .i64 0]) (by simp [results, Try.results47, go_sem, hf0, hf1]) rfl
          ⟨_, c2, rfl, HFin.out.1, HFin.out.2⟩
end Go.Proofs.Ytagkpkkbkeefbaa
