/-
  slices.Compact at edges, in a row of the caller's own.
-/
import Derived.Test.YtioohmhllajifaaGreatGr
import Derived.Test.YtioohmhllajifaaGreatGb
import Derived.Lib.SlicesCompact
import Derived.Lib.SliceRun
import Derived.Deep.Draws
import Derived.IntWalk
namespace Go.Proofs.YtioohmhllajifaaGreat
open Go.RowKit Go.Lib

section
variable {w : World} {base g n c : Nat} {e : TypeId} {size : Nat} {xs : List Value}
theorem own_setCells (vs : List Value) : ∀ (o : Nat) (w : World) (xs : List Value), w.ownsRow base e size (.slice (some ⟨g, 0, none⟩) n c) n xs →
    ∃ ys, (w.setCells g o vs).ownsRow base e size (.slice (some ⟨g, 0, none⟩) n c) n ys ∧ ys.take o = xs.take o := by
  induction vs with
  | nil => intro o w xs h; exact ⟨xs, h, rfl⟩
  | cons v vs ih =>
    intro o w xs h
    obtain ⟨ys, h1, h2⟩ := ih (o + 1) _ _ (h.stored o v).1
    refine ⟨ys, h1, ?_⟩
    have h3 := congrArg (List.take o) h2
    rw [List.take_take, List.take_take, Nat.min_eq_left (Nat.le_succ o)] at h3
    rw [h3]
    apply List.ext_getElem?
    intro i
    by_cases hi : i < o
    · rw [List.getElem?_take_of_lt hi, List.getElem?_take_of_lt hi, List.getElem?_set_ne (by omega)]
    · rw [List.getElem?_take_eq_none (by omega), List.getElem?_take_eq_none (by omega)]
theorem own_front (h : w.ownsRow base e size (.slice (some ⟨g, 0, none⟩) n c) n xs) {k : Nat} (hk : k ≤ n) : w.ownsRow base e size (.slice (some ⟨g, 0, none⟩) k c) k (xs.take (k * size)) := by
  have hm : k * size ≤ n * size := Nat.mul_le_mul_right _ hk
  refine ⟨by rw [List.length_take, h.1]; omega, ?_⟩
  rcases h.2 with ⟨h', _⟩ | ⟨g', cap', cur, h', hb, hg, hnc, hcm, hcs, htake⟩
  · simp at h'
  · simp only [Value.slice.injEq, Option.some.injEq, Addr.mk.injEq, and_true, true_and] at h'
    obtain ⟨rfl, rfl⟩ := h'
    exact .inr ⟨g, c, cur, rfl, hb, hg, by omega, hcm, hcs, by rw [← htake, List.take_take, Nat.min_eq_left hm]⟩
theorem below_drew0 (base : Nat) (w : World) (n : Nat) : Below base w (w.drewN n) := ⟨rfl, rfl, rfl, Nat.le_refl _, fun _ _ => rfl⟩
theorem below_setCells (vs : List Value) (hb : base ≤ g) : ∀ (o : Nat) (w0 w : World), Below base w0 w → Below base w0 (w.setCells g o vs) := by
  induction vs with
  | nil => intro o w0 w h; exact h
  | cons v vs ih => intro o w0 w h; exact ih (o + 1) _ _ (h.setCell hb v)
end

theorem run_clearE (w : World) (ty : TypeId) (b o n c : Nat) (hn : 0 < n)
    (hc : ∀ j, j < n * 2 → (w.cell? ⟨b, o + j, none⟩).isSome = true) (hf : ∀ j, j < n * 2 → w.frozen? ⟨b, o + j, none⟩ = false) :
    (Builtin.clear_ #[26] ty #[.slice (some ⟨b, o, none⟩) n c]).run Tryz.prog w = .ok (.tuple #[]) (w.setCells b o (List.replicate (n * 2) (.int .i64 0))) := by
  have hzc : (Builtin.zeroCells (Value.agg #[.int .i64 0, .int .i64 0]).cells n).toList = List.replicate (n * 2) (.int .i64 0) := by
    have e : (Value.agg #[.int .i64 0, .int .i64 0]).cells = #[.int .i64 0, .int .i64 0] := rfl
    rw [e]
    simp [Builtin.zeroCells]
    apply List.ext_getElem
    · simp
    · intro i h1 h2
      have : i % 2 = 0 ∨ i % 2 = 1 := by omega
      rcases this with h | h <;> simp [h]
  have hst := run_storeCells_cells (P := Tryz.prog) b o (List.replicate (n * 2) (.int .i64 0)) 0 w (by simpa using hc) (by simpa using hf) (by intro v hv'; rw [List.eq_of_mem_replicate hv']; rfl)
  simp only [Nat.add_zero] at hst
  obtain ⟨m, rfl⟩ : ∃ m, n = m + 1 := ⟨n - 1, by omega⟩
  simp [Builtin.clear_, run_underlying Tryz.underlying26, hzc, hst]

theorem keeps_at (l : List Ed) (k : Nat) (x y : Ed) (hk : l[k + 1]? = some x) (hj : l[k]? = some y) : keeps l.toArray (k + 1) = decide (x ≠ y) := by
  have e1 : l.toArray[k + 1]! = x := by simp [hk]
  have e2 : l.toArray[k + 1 - 1]! = y := by simp [hj]
  unfold keeps
  rw [e1, e2]
  simp
theorem compact_len (l : List Ed) (k : Nat) (h : ∀ j, j < k → keeps l.toArray j = true) (hk : l.length ≤ k) : compact l = l := compact_all l fun j hj => h j (by omega)

theorem comp_high {l ks : List Ed} {m kk i : Nat} (h : CompInv l.toArray m kk ks.toArray) (hl : ks.length = l.length) (hi : kk ≤ i) : ks[i]? = l[i]? := by
  by_cases h1 : i < l.length
  · have h2 := h.high i hi
    rw [getElem!_pos ks.toArray i (by simpa [hl] using h1), getElem!_pos l.toArray i (by simpa using h1)] at h2
    rw [List.getElem?_eq_getElem (by omega), List.getElem?_eq_getElem h1]
    simpa using h2
  · rw [List.getElem?_eq_none (by omega), List.getElem?_eq_none (by omega)]
theorem comp_take (l ks : List Ed) (kk : Nat) (hk : kk < ks.length) (h2 : (compactUpTo l.toArray l.length).length = kk) (h1 : ∀ j, j < kk → (compactUpTo l.toArray l.length)[j]? = some ks.toArray[j]!) : ks.take kk = compact l := by
  unfold compact
  apply List.ext_getElem?
  intro i
  by_cases hi : i < kk
  · rw [List.getElem?_take_of_lt hi, h1 i hi, getElem!_pos ks.toArray i (by simp; omega), List.getElem?_eq_getElem (by omega)]
    simp
  · rw [List.getElem?_take_eq_none (by omega), List.getElem?_eq_none (by omega)]

set_option maxHeartbeats 4000000 in
set_option maxRecDepth 100000 in
theorem compactE_own (base g c : Nat) (l : List Ed) (w : World) (h : w.ownsRow base 53 2 (.slice (some ⟨g, 0, none⟩) l.length c) l.length (ev l)) (hl : l.length ≤ 65536) (hg : base ≤ g) (hc : l.length ≤ c) :
    Calls Tryz.prog 47 #[.slice (some ⟨g, 0, none⟩) l.length c] w fun e w' => e = .returned (.slice (some ⟨g, 0, none⟩) (compact l).length c) ∧
      w'.ownsRow base 53 2 (.slice (some ⟨g, 0, none⟩) (compact l).length c) (compact l).length (ev (compact l)) ∧ Below base w w' := by
  obtain ⟨R, HR⟩ : ∃ R, Hid (compact l = R) := ⟨_, rfl⟩
  rw [HR.out]
  have H := Lib.hid h
  clear h
  by_cases h2 : l.length < 2
  · have e : R = l := HR.out.symm.trans (compact_all l fun j hj => keeps_lt_one _ j (by omega))
    subst e
    go_enter Tryz.func47, Tryz.ntmps47
    go_wp2
    go_ret
    exact ⟨rfl, H.out, Below.refl _ _⟩
  · go_enter Tryz.func47, Tryz.ntmps47
    go_wp2
    go_loopw [3] (fun i wr => ∃ (k n : Nat), k + 1 ≤ l.length ∧ i = .int .i64 ((k + 1 : Nat)) ∧ wr = w.drewN n ∧ Hid (∀ j, j < k + 1 → keeps l.toArray j = true)) (fun i _ => l.length - (RowKit.intOf i).toNat)
    case atStart => exact ⟨0, 0, by omega, rfl, rfl, keeps_lt_one _⟩
    case round =>
      obtain ⟨k, n, hk, rfl, rfl, HK⟩ := hrel
      by_cases hlt : k + 1 < l.length
      · obtain ⟨x, hx⟩ : ∃ x, l[k + 1]? = some x := ⟨_, List.getElem?_eq_getElem hlt⟩
        obtain ⟨y, hy⟩ : ∃ y, l[k]? = some y := ⟨_, List.getElem?_eq_getElem (by omega)⟩
        obtain ⟨u, v⟩ := x
        obtain ⟨p, q⟩ := y
        obtain ⟨a0, a1, -, -⟩ := own_cells H.out hx
        obtain ⟨b0, b1, -, -⟩ := own_cells H.out hy
        have HP := Lib.hid (keeps_at l k _ _ hx hy)
        clear hx hy
        by_cases hne : (u, v) = (p, q)
        · injection hne with hu hv
          subst hu; subst hv
          have e1 : (u == u) = true := by simp
          have e2 : (v == v) = true := by simp
          have HD : Hid (keeps l.toArray (k + 1) = false) := by show _ = _; rw [HP.out]; simp
          have hck : ¬ c = k + 1 := by omega
          go_wp2
          go_quiet (fail)
          go_wp2
          clear a0 a1 b0 b1
          go_loopw [3, 5] (fun s3 s5 wr => ∃ (kk j : Nat) (ks : List Ed), s3 = .int .i64 kk ∧ s5 = .int .i64 ((j + 1 : Nat)) ∧ k + 1 + (j + 1) ≤ l.length ∧ kk ≤ k + 1 + j ∧ ks.length = l.length ∧ Hid (CompInv l.toArray (k + 1 + (j + 1)) kk ks.toArray) ∧ Hid (wr.ownsRow base 53 2 (.slice (some ⟨g, 0, none⟩) ks.length c) ks.length (ev ks)) ∧ Hid (Below base w wr)) (fun _ s5 _ => l.length - (k + 1) - (RowKit.intOf s5).toNat)
          case atStart => exact ⟨k + 1, 0, l, rfl, rfl, by omega, by omega, rfl, CompInv.start HK.out HD.out, H.out, below_drew0 _ _ _⟩
          case round =>
            obtain ⟨kk, j, ks, rfl, rfl, hj, hkk, hks, HI, HO, HB⟩ := hrel
            have hck2 : ¬ c = kk := by omega
            by_cases hlt2 : k + 1 + (j + 1) < l.length
            · obtain ⟨x, hx⟩ : ∃ x, l[k + 1 + (j + 1)]? = some x := ⟨_, List.getElem?_eq_getElem hlt2⟩
              obtain ⟨y, hy⟩ : ∃ y, l[k + 1 + j]? = some y := ⟨_, List.getElem?_eq_getElem (by omega)⟩
              obtain ⟨z, hz⟩ : ∃ z, ks[kk]? = some z := ⟨_, List.getElem?_eq_getElem (by omega)⟩
              obtain ⟨u2, v2⟩ := x
              obtain ⟨p2, q2⟩ := y
              obtain ⟨o1, o2⟩ := z
              obtain ⟨a0, a1, -, -⟩ := own_cells HO.out ((comp_high HI.out hks (by omega)).trans hx)
              obtain ⟨b0, b1, -, -⟩ := own_cells HO.out ((comp_high HI.out hks hkk).trans hy)
              obtain ⟨d0, d1, f0, f1⟩ := own_cells HO.out hz
              rw [show (k + 1 + (j + 1)) * 2 = (k + 1) * 2 + (j + 1) * 2 by omega] at a0 a1
              rw [show (k + 1 + j) * 2 = (k + 1) * 2 + j * 2 by omega] at b0 b1
              have HP2 := Lib.hid (keeps_at l (k + 1 + j) _ _ hx hy)
              have HX := Lib.hid hx
              have HZ := Lib.hid hz
              have D0 := Lib.hid d0; have D1 := Lib.hid d1; have F0 := Lib.hid f0; have F1 := Lib.hid f1
              clear hx hy hz d0 d1 f0 f1
              by_cases hne : (u2, v2) = (p2, q2)
              · injection hne with hu hv
                subst hu; subst hv
                have e1 : (u2 != u2) = false := by simp
                have e2 : (v2 != v2) = false := by simp
                have HD2 : Hid (keeps l.toArray (k + 1 + (j + 1)) = false) := by show keeps l.toArray (k + 1 + j + 1) = _; rw [HP2.out]; simp
                go_wp2
                go_quiet (fail)
                go_wp2
                go_roundw
                case rel => exact ⟨kk, j + 1, ks, rfl, by go_num, by omega, by omega, hks, HI.out.skip HD2.out, HO.out, HB.out.trans (below_drew0 _ _ _)⟩
                case measure => simp [RowKit.intOf]; omega
              · have HD2 : Hid (keeps l.toArray (k + 1 + (j + 1)) = true) := by show keeps l.toArray (k + 1 + j + 1) = _; rw [HP2.out]; exact decide_eq_true hne
                have HI2 : Hid (CompInv l.toArray (k + 1 + (j + 1 + 1)) (kk + 1) (ks.set kk (u2, v2)).toArray) := by
                  have h1 := HI.out.keep (by simpa using hlt2) HD2.out
                  have e : l.toArray[k + 1 + (j + 1)]! = (u2, v2) := by have := HX.out; simp [this]
                  rw [e] at h1
                  show CompInv _ _ _ _
                  rw [show k + 1 + (j + 1 + 1) = k + 1 + (j + 1) + 1 by omega]
                  simpa using h1
                have HO2 : ∀ m, Hid ((((wr.drewN m).setCell ⟨g, kk * 2, none⟩ (.int .i64 u2)).setCell ⟨g, kk * 2 + 1, none⟩ (.int .i64 v2)).ownsRow base 53 2 (.slice (some ⟨g, 0, none⟩) (ks.set kk (u2, v2)).length c) (ks.set kk (u2, v2)).length (ev (ks.set kk (u2, v2)))) := fun m => by
                  have h1 := own_set0 (w := wr.drewN m) HO.out HZ.out u2
                  have h2 := own_set1 h1 (k := kk) (x := u2) (y := o2) (by rw [List.getElem?_set_self (by omega)]) v2
                  rw [List.set_set] at h2
                  exact h2
                have HB2 : ∀ m, Hid (Below base w (((wr.drewN m).setCell ⟨g, kk * 2, none⟩ (.int .i64 u2)).setCell ⟨g, kk * 2 + 1, none⟩ (.int .i64 v2))) := fun m =>
                  ((HB.out.trans (below_drew0 _ _ m)).setCell hg _).setCell hg _
                have HO3 := Lib.hid HO2
                have HB3 := Lib.hid HB2
                clear HO2 HB2
                by_cases hu : u2 = p2
                · subst hu
                  have e1 : (u2 != u2) = false := by simp
                  have e0 : (u2 == u2) = true := by simp
                  have e3 : (v2 == q2) = false := by simpa using hne
                  have e2 : (v2 != q2) = true := by simpa using hne
                  clear hne
                  go_wp2
                  have hh1 : (0 : Int) ≤ (j : Int) + 1 := by omega
                  have hh2 : (j : Int) + 1 < ((l.length - (k + 1) : Nat) : Int) := by omega
                  have hh3 : (j : Int) < ((l.length - (k + 1) : Nat) : Int) := by omega
                  have hh4 : IntKind.i64.wrap (j : Int) = (j : Int) := IntWalk.i64_in _ (by omega)
                  go_quiet (fail)
                  clear hh1 hh2 hh3 hh4
                  have d0 := D0.out; have d1 := D1.out; have f0 := F0.out; have f1 := F1.out
                  go_wp2
                  go_roundw
                  case rel => exact ⟨kk + 1, j + 1, ks.set kk (u2, v2), by go_num, by go_num, by omega, by omega, by simpa using hks, HI2.out, (HO3.out _).out, (HB3.out _).out⟩
                  case measure => simp [RowKit.intOf]; omega
                · have e1 : (u2 != p2) = true := by simpa using hu
                  have e3 : (u2 == p2) = false := by simpa using hu
                  clear hne hu
                  go_wp2
                  have hh1 : (0 : Int) ≤ (j : Int) + 1 := by omega
                  have hh2 : (j : Int) + 1 < ((l.length - (k + 1) : Nat) : Int) := by omega
                  have hh3 : (j : Int) < ((l.length - (k + 1) : Nat) : Int) := by omega
                  have hh4 : IntKind.i64.wrap (j : Int) = (j : Int) := IntWalk.i64_in _ (by omega)
                  go_quiet (fail)
                  clear hh1 hh2 hh3 hh4
                  have d0 := D0.out; have d1 := D1.out; have f0 := F0.out; have f1 := F1.out
                  go_wp2
                  go_roundw
                  case rel => exact ⟨kk + 1, j + 1, ks.set kk (u2, v2), by go_num, by go_num, by omega, by omega, by simpa using hks, HI2.out, (HO3.out _).out, (HB3.out _).out⟩
                  case measure => simp [RowKit.intOf]; omega
            · have hend : k + 1 + (j + 1) = l.length := by omega
              have hcl := fun ty => run_clearE wr ty g (kk * 2) (l.length - kk) (c - kk) (by omega)
                (fun i hi => by rw [HO.out.cellAt (kk * 2 + i) (by omega), List.getElem?_eq_getElem (by rw [len_ev]; omega)]; rfl) (fun i hi => HO.out.frozenAt _)
              have HRl : Hid (R.length = kk) := by
                show _ = _
                rw [← HR.out]
                have h1 := HI.out.len
                rw [hend] at h1
                simpa [compact] using h1
              have HRe : Hid (ks.take kk = R) := by
                show _ = _
                rw [← HR.out]
                have h1 := HI.out.low
                have h2 := HI.out.len
                rw [hend] at h1 h2
                exact comp_take l ks kk (by omega) h2 h1
              obtain ⟨ys, hy1, hy2⟩ := own_setCells (List.replicate ((l.length - kk) * 2) (.int .i64 0)) (kk * 2) wr _ HO.out
              have hy3 := own_front hy1 (k := kk) (by omega)
              rw [hy2, ev_take, HRe.out] at hy3
              have HF := Lib.hid hy3
              have HBF := Lib.hid (below_setCells (List.replicate ((l.length - kk) * 2) (.int .i64 0)) hg (kk * 2) _ _ HB.out)
              clear hy1 hy2 hy3
              go_wp2
              go_ret
              exact ⟨by rw [HRl.out]; rfl, by rw [HRl.out]; exact HF.out, HBF.out⟩
        · have HD : Hid (keeps l.toArray (k + 1) = true) := by show _ = _; rw [HP.out]; exact decide_eq_true hne
          have HK2 : Hid (∀ j, j < k + 1 + 1 → keeps l.toArray j = true) := fun j hj => by
            by_cases e : j = k + 1
            · rw [e]; exact HD.out
            · exact HK.out j (by omega)
          by_cases hu : u = p
          · subst hu
            have e1 : (u == u) = true := by simp
            have e2 : (v == q) = false := by simpa using hne
            clear hne
            go_wp2
            go_quiet (fail)
            go_wp2
            go_roundw
            case rel => exact ⟨k + 1, _, by omega, by go_num, rfl, HK2.out⟩
            case measure => simp [RowKit.intOf]; omega
          · have e1 : (u == p) = false := by simpa using hu
            clear hne hu
            go_wp2
            go_quiet (fail)
            go_wp2
            go_roundw
            case rel => exact ⟨k + 1, _, by omega, by go_num, rfl, HK2.out⟩
            case measure => simp [RowKit.intOf]; omega
      · have e : R = l := HR.out.symm.trans (compact_len l (k + 1) HK.out (by omega))
        subst e
        go_wp2
        go_ret
        exact ⟨rfl, H.out, below_drew0 _ _ _⟩
end Go.Proofs.YtioohmhllajifaaGreat
