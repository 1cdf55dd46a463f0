/-
  Valid and Open; the place of a time among events that wait.
-/
import Derived.Test.YtgdhjllfdndmnaaRc
namespace Go.Proofs.Ytgdhjllfdndmnaa
open Go.RowKit Go.Lib

/-- the box of a buffer, behind a callee that only makes memory -/
theorem box4 {w w1 : World} {a0 a1 a2 a3 : Value} {T : TypeId} (hb : Below (w.alloc (.cells #[a0, a1, a2, a3] T)).heap.size (w.alloc (.cells #[a0, a1, a2, a3] T)) w1) :
    w1.cell? ⟨w.heap.size, 0, none⟩ = some a0 ∧ w1.cell? ⟨w.heap.size, 1, none⟩ = some a1 ∧ w1.cell? ⟨w.heap.size, 2, none⟩ = some a2 ∧ w1.cell? ⟨w.heap.size, 3, none⟩ = some a3 := by
  have h := (hb.block w.heap.size (by simp)).trans (heap_alloc_new _ _)
  exact ⟨Go.Joins.cell_of_block h 0, Go.Joins.cell_of_block h 1, Go.Joins.cell_of_block h 2, Go.Joins.cell_of_block h 3⟩
set_option maxHeartbeats 1000000 in
theorem valid_any (n L M : Int) (A : Option Addr) (c : Nat) (l : List Ev) (w : World) (h : RV w.heap.size w A c l) (hl : l.length ≤ 65536) :
    Calls Try.prog 19 #[.agg #[.int .i64 n, .int .i64 L, .int .i64 M, .slice A l.length c]] w fun e w' => e = .returned (.bool (decide (Rd.V ⟨n, L, M, l⟩))) ∧ Below w.heap.size w w' := by
  have H := Lib.hid (h.up (below_new w (.cells #[.int .i64 n, .int .i64 L, .int .i64 M, .slice A l.length c] 24)))
  have HV := Lib.hid (valid_eq ⟨n, L, M, l⟩)
  obtain ⟨R, HR⟩ : ∃ R, Hid (decide (Rd.V ⟨n, L, M, l⟩) = R) := ⟨_, rfl⟩
  rw [HR.out] at HV ⊢
  have C := Lib.hid (fun w => numbers_any n L M (.slice A l.length c) l w)
  have hnb : Hid (numB ⟨n, L, M, l⟩ = true → -1 ≤ M ∧ M ≤ 1048576) := by
    show _ → _
    intro h
    simp [numB] at h
    omega
  have HN : Hid (R = (numB ⟨n, L, M, l⟩ && decide (l.length ≤ 4096) && evF L (M + 1) l)) := HV.out
  clear HV HR h
  obtain ⟨X, HX⟩ : ∃ X, Hid (numB ⟨n, L, M, l⟩ = X) := ⟨_, rfl⟩
  rw [HX.out] at HN hnb
  simp only [HX.out] at C
  clear HX
  obtain ⟨Y, HY⟩ : ∃ Y, Hid (evF L (M + 1) l = Y) := ⟨_, rfl⟩
  rw [HY.out] at HN
  have HLW := Lib.hid hl
  clear hl
  cases X with
  | false =>
    obtain rfl : R = false := HN.out
    go_enter Try.func19, Try.ntmps19
    go_wp2_with fail
    refine (C.out _).mono ?_
    rintro e w2 ⟨rfl, hb2⟩
    have HB2 := Lib.hid (below_viaE hb2)
    clear hb2 C H
    go_wp2
    go_ret
    exact ⟨rfl, HB2.out⟩
  | true =>
    have hM := hnb.out rfl
    by_cases hL : l.length ≤ 4096
    · have hd : decide ((l.length : Int) ≤ 4096) = true := by rw [decide_eq_true_eq]; omega
      obtain rfl : R = Y := by rw [HN.out, decide_eq_true hL]; simp
      have C2 := Lib.hid (fun w h => events_any n L M hM A c l w h HLW.out)
      simp only [HY.out] at C2
      clear hM hL HN hnb
      go_enter Try.func19, Try.ntmps19
      go_wp2_with fail
      refine (C.out _).mono ?_
      rintro e w2 ⟨rfl, hb2⟩
      have HB2 := Lib.hid (below_viaE hb2)
      have H2 := Lib.hid (H.out.up hb2)
      obtain ⟨b0, b1, b2, b3⟩ := box4 hb2
      clear hb2 C H
      go_wp2_with fail
      refine (C2.out _ H2.out).mono ?_
      rintro e w3 ⟨rfl, hb3⟩
      have HB3 := Lib.hid (HB2.out.trans (hb3.mono HB2.out.size))
      clear hb3 C2
      go_wp2
      go_ret
      exact ⟨rfl, HB3.out⟩
    · have hd : decide ((l.length : Int) ≤ 4096) = false := by rw [decide_eq_false_iff_not]; omega
      obtain rfl : R = false := by rw [HN.out, decide_eq_false hL]; simp
      clear hM hL HN hnb
      go_enter Try.func19, Try.ntmps19
      go_wp2_with fail
      refine (C.out _).mono ?_
      rintro e w2 ⟨rfl, hb2⟩
      have HB2 := Lib.hid (below_viaE hb2)
      obtain ⟨b0, b1, b2, b3⟩ := box4 hb2
      clear hb2 C H
      go_wp2
      go_ret
      exact ⟨rfl, HB2.out⟩
/-! the place of a time -/
def cmpI (a b : Int) : Int := if a < b then -1 else if a > b then 1 else 0
theorem nan_any (x : Int) (w : World) : Calls Try.prog 51 #[.int .i64 x] w fun e w' => e = .returned (.bool false) ∧ w = w' := by
  have h : (x != x) = false := by simp
  go_enter Try.func51, Try.ntmps51
  go_wp2
  go_ret
  exact ⟨rfl, rfl⟩
theorem cmp_any (x y : Int) (w : World) : Calls Try.prog 48 #[.int .i64 x, .int .i64 y] w fun e w' => e = .returned (.int .i64 (cmpI x y)) ∧ w = w' := by
  obtain ⟨R, HR⟩ : ∃ R, Hid (cmpI x y = R) := ⟨_, rfl⟩
  rw [HR.out]
  go_enter Try.func48, Try.ntmps48
  go_wp2_with (go_at_call 51; refine (nan_any _ _).mono ?_; rintro e w' ⟨rfl, rfl⟩)
  all_goals (go_ret; refine ⟨ret_intN ?_, rfl⟩; rw [← HR.out]; clear HR; simp_all [cmpI]; try omega)
theorem less_any (k t u v x y z s : Int) (w : World) : Calls Try.prog 47 #[.agg #[.int .i64 k, .int .i64 t, .int .i64 u, .int .i64 v, .int .i64 x, .int .i64 y, .int .i64 z], .int .i64 s] w fun e w' => e = .returned (.int .i64 (cmpI t s)) ∧ Below w.heap.size w w' := by
  have HB := Lib.hid (below_new w (.cells #[.int .i64 k, .int .i64 t, .int .i64 u, .int .i64 v, .int .i64 x, .int .i64 y, .int .i64 z] 26))
  go_enter Try.func47, Try.ntmps47
  go_wp2_with (go_at_call 48; refine (cmp_any _ _ _).mono ?_; rintro e w' ⟨rfl, rfl⟩)
  go_ret
  exact ⟨rfl, HB.out⟩
theorem cmpI_neg (a b : Int) : cmpI a b < 0 ↔ a < b := by
  unfold cmpI
  split
  · simp; omega
  · split <;> simp <;> omega
/-- the place of a time, among events in order -/
theorem upto_at {t : Int} {l : List Ev} (h : Rd.Asc l) {m : Nat} {a : Ev} (ha : l[m]? = some a) : a.time < t + 1 ↔ m < (Rd.upto t l).length := by
  have hs := Rd.asc_split t l h
  rw [← hs] at ha
  constructor
  · intro h1
    rcases Nat.lt_or_ge m (Rd.upto t l).length with h2 | h2
    · exact h2
    · rw [List.getElem?_append_right h2] at ha
      have := (Rd.behind_mem.1 (List.mem_of_getElem? ha)).2
      omega
  · intro h1
    rw [List.getElem?_append_left h1] at ha
    have := (Rd.upto_mem.1 (List.mem_of_getElem? ha)).2
    omega
set_option maxHeartbeats 2000000 in
theorem search_any (A : Option Addr) (c : Nat) (l : List Ev) (t : Int) (w : World) (h : RV w.heap.size w A c l) (ha : Rd.Asc l) (hl : l.length ≤ 65536) :
    Calls Try.prog 46 #[.slice A l.length c, .int .i64 (t + 1), .func (.func 47) #[] #[]] w fun e w' =>
      (∃ F, e = .returned (.tuple #[.int .i64 (Rd.upto t l).length, .bool F])) ∧ Below w.heap.size w w' := by
  have H := Lib.hid h
  have HA := Lib.hid ha
  have hpl : (Rd.upto t l).length ≤ l.length := by have := Rd.len_split t l; omega
  have HM := Lib.hid (fun m a hm => upto_at (t := t) ha (m := m) (a := a) hm)
  obtain ⟨p, HP⟩ : ∃ p, Hid ((Rd.upto t l).length = p) := ⟨_, rfl⟩
  rw [HP.out] at hpl ⊢
  simp only [HP.out] at HM
  obtain ⟨s, HS⟩ : ∃ s, Hid (t + 1 = s) := ⟨_, rfl⟩
  rw [HS.out]
  simp only [HS.out] at HM
  clear h ha
  go_enter Try.func46, Try.ntmps46
  go_wp2
  go_loopw [9, 10] (fun i j wr => ∃ (a b : Nat), i = .int .i64 a ∧ j = .int .i64 b ∧ a ≤ p ∧ p ≤ b ∧ b ≤ l.length ∧ Hid (Below w.heap.size w wr)) (fun i j _ => (RowKit.intOf j).toNat - (RowKit.intOf i).toNat)
  case atStart => exact ⟨0, l.length, rfl, rfl, by omega, hpl, Nat.le_refl _, Below.refl _ _⟩
  case round =>
    obtain ⟨a, b, rfl, rfl, hap, hpb, hbl, HBR⟩ := hrel
    have HRr := Lib.hid (H.out.up HBR.out)
    by_cases hab : a < b
    · obtain ⟨m, hm⟩ : ∃ m, m = (a + b) / 2 := ⟨_, rfl⟩
      have hm1 : a ≤ m := by omega
      have hm2 : m < b := by omega
      obtain ⟨bb, off, ⟨k1, t1, u1, v1, x1, y1, z1⟩, rfl, hb, hx, c0, c1, c2, c3, c4, c5, c6⟩ := RV.at_ (k := m) HRr.out (by omega)
      dsimp only at c0 c1 c2 c3 c4 c5 c6
      have hlt := HM.out m _ hx
      have C := Lib.hid (fun w => less_any k1 t1 u1 v1 x1 y1 z1 s w)
      have hlt2 := (cmpI_neg t1 s).trans hlt
      obtain ⟨X, HX⟩ : ∃ X, Hid (cmpI t1 s = X) := ⟨_, rfl⟩
      rw [HX.out] at hlt2
      simp only [HX.out] at C
      have fm : ((a : Int) + (b : Int)) / 2 = (m : Int) := by omega
      have HMM := Lib.hid hm
      clear hm hx hlt
      by_cases hX : X < 0
      all_goals
        go_wp2_with fail
        refine (C.out _).mono ?_
        rintro e w2 ⟨rfl, hb2⟩
        have HB2 := Lib.hid hb2
        clear hb2 C c0 c1 c2 c3 c4 c5 c6
        go_wp2
        go_roundw
        case rel => first
          | exact ⟨m + 1, b, by go_num, rfl, by omega, hpb, hbl, HBR.out.trans (HB2.out.mono HBR.out.size)⟩
          | exact ⟨a, m, rfl, rfl, hap, by omega, by omega, HBR.out.trans (HB2.out.mono HBR.out.size)⟩
        case measure => simp [RowKit.intOf]; omega
    · obtain rfl : a = p := by omega
      obtain rfl : b = a := by omega
      by_cases hin : b < l.length
      · obtain ⟨bb, off, ⟨k1, t1, u1, v1, x1, y1, z1⟩, rfl, hb, hx, c0, c1, c2, c3, c4, c5, c6⟩ := RV.at_ (k := b) HRr.out hin
        dsimp only at c0 c1 c2 c3 c4 c5 c6
        have C := Lib.hid (fun w => less_any k1 t1 u1 v1 x1 y1 z1 s w)
        obtain ⟨X, HX⟩ : ∃ X, Hid (cmpI t1 s = X) := ⟨_, rfl⟩
        simp only [HX.out] at C
        clear hx HX
        go_wp2_with fail
        refine (C.out _).mono ?_
        rintro e w2 ⟨rfl, hb2⟩
        have HB2 := Lib.hid hb2
        clear hb2 C c0 c1 c2 c3 c4 c5 c6
        go_wp2
        go_ret2
        exact ⟨⟨_, rfl⟩, HBR.out.trans (HB2.out.mono HBR.out.size)⟩
      · go_wp2
        go_ret2
        exact ⟨⟨_, rfl⟩, HBR.out⟩
end Go.Proofs.Ytgdhjllfdndmnaa
