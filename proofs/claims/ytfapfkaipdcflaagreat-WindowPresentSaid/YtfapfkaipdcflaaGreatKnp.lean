/-
  Joined texts: Kn, Ko, Kp.
-/
import Derived.Test.YtfapfkaipdcflaaGreatKm
import Derived.Lib.SliceRun
/-
  An event happens.
-/
namespace Go.Proofs.YtfapfkaipdcflaaGreat.K
open Go.RowKit Go.Lib

set_option maxHeartbeats 2000000 in
theorem apply_any (base P : Nat) (A : Option Addr) (c : Nat) (l : List Ls.Lk) (k t u v x y z : Int) (hk : k = 1 ∨ k = 2 ∨ k = 3) (w : World) (h : PS base P A c l w) (ha : Ls.Asc l) (hl : l.length ≤ 65536) (hbase : base ≤ w.heap.size) :
    Calls Tryz.prog 51 #[.pointer (some ⟨P, 0, none⟩), .agg #[.int .i64 k, .int .i64 t, .int .i64 u, .int .i64 v, .int .i64 x, .int .i64 y, .int .i64 z]] w (AppP base P l ⟨k, t, u, v, x, y, z⟩ w) := by
  have HB := Lib.hid (below_new w (.cells #[.int .i64 k, .int .i64 t, .int .i64 u, .int .i64 v, .int .i64 x, .int .i64 y, .int .i64 z] 57))
  have H1 := Lib.hid (h.go HB.out)
  have hb1 := Lib.hid (Nat.le_trans hbase HB.out.size)
  have hb0 := Lib.hid hbase
  clear h hbase
  rcases hk with rfl | rfl | rfl
  · have CL := Lib.hid (fun w => linkOf_any 1 t u v x y z w)
    have CS : Hid (∀ w2, PS base P A c l w2 → base ≤ w2.heap.size → Calls Tryz.prog 70 #[.pointer (some ⟨P, 0, none⟩), .agg #[.int .i64 (min u v), .int .i64 (max u v), .int .i64 x, .int .i64 y, .int .i64 z, .int .i64 t]] w2 (SetLP base P l ⟨min u v, max u v, x, y, z, t⟩ w2)) := fun w2 h2 hb => set_any base P A c l _ _ _ _ _ _ w2 h2 ha hl hb
    have HLK : Hid (Ls.lk ⟨1, t, u, v, x, y, z⟩ = ⟨min u v, max u v, x, y, z, t⟩) := rfl
    obtain ⟨U, HU⟩ : ∃ U, Hid (min u v = U) := ⟨_, rfl⟩
    obtain ⟨V, HV⟩ : ∃ V, Hid (max u v = V) := ⟨_, rfl⟩
    simp only [HU.out, HV.out] at CL CS HLK
    go_enter Tryz.func51, Tryz.ntmps51
    go_wp2_with fail
    refine (CL.out _).mono ?_
    rintro e w2 ⟨rfl, hb2⟩
    have HB2 := Lib.hid hb2
    clear hb2 CL
    go_wp2_with fail
    refine (CS.out w2 (H1.out.go HB2.out) (Nat.le_trans hb1.out HB2.out.size)).mono ?_
    rintro e w3 ⟨A3, A4, c3, c4, ev, rfl, hev, hrv, hps, hbw⟩
    have HEV : Hid (Ls.chg l ⟨1, t, u, v, x, y, z⟩ = ev) := by
      show _ = _
      rw [hev, Ls.chg, if_pos rfl, HLK.out]
    have HNX : Hid (Ls.nextL l ⟨1, t, u, v, x, y, z⟩ = Ls.put ⟨U, V, x, y, z, t⟩ l) := by
      show _ = _
      rw [Ls.nextL, if_pos rfl, HLK.out]
    have HRV := Lib.hid hrv
    have HPS := Lib.hid hps
    have HBW := Lib.hid ((below_le HB.out hb0.out).trans (((below_le HB2.out hb1.out)).trans hbw))
    clear hev hrv hps hbw CS
    go_wp2
    go_ret
    exact ⟨A3, A4, c3, c4, by rw [HEV.out]; rfl, by rw [HEV.out]; exact HRV.out, by rw [HNX.out]; exact HPS.out, HBW.out⟩
  · have CC := Lib.hid (cut_any base P A c l t u v x y z _ H1.out ha hl hb1.out)
    go_enter Tryz.func51, Tryz.ntmps51
    go_wp2_with fail
    refine CC.out.mono ?_
    rintro e w3 ⟨A3, A4, c3, c4, rfl, hrv, hps, hbw⟩
    have HRV := Lib.hid hrv
    have HPS := Lib.hid hps
    have HBW := Lib.hid ((below_le HB.out hb0.out).trans hbw)
    obtain ⟨m, HM⟩ : ∃ m, Hid ((Ls.chg l ⟨2, t, u, v, x, y, z⟩).length = m) := ⟨_, rfl⟩
    rw [HM.out]
    clear hrv hps hbw CC
    go_wp2
    go_ret
    exact ⟨A3, A4, c3, c4, by rw [HM.out]; rfl, HRV.out, HPS.out, HBW.out⟩
  · have CC := Lib.hid (leave_any base P A c l t u v x y z _ H1.out hl hb1.out)
    go_enter Tryz.func51, Tryz.ntmps51
    go_wp2_with fail
    refine CC.out.mono ?_
    rintro e w3 ⟨A3, A4, c3, c4, rfl, hrv, hps, hbw⟩
    have HRV := Lib.hid hrv
    have HPS := Lib.hid hps
    have HBW := Lib.hid ((below_le HB.out hb0.out).trans hbw)
    obtain ⟨m, HM⟩ : ∃ m, Hid ((Ls.chg l ⟨3, t, u, v, x, y, z⟩).length = m) := ⟨_, rfl⟩
    rw [HM.out]
    clear hrv hps hbw CC
    go_wp2
    go_ret
    exact ⟨A3, A4, c3, c4, by rw [HM.out]; rfl, HRV.out, HPS.out, HBW.out⟩
set_option maxHeartbeats 2000000 in
set_option maxRecDepth 100000 in
theorem clone_any (A : Option Addr) (c : Nat) (l : List Ls.Lk) (w : World) (h : RL w.heap.size w A c l) (hl : l.length ≤ 65536) :
    Calls Tryz.prog 49 #[.slice A l.length c] w fun e w' => ∃ A' c', e = .returned (.slice A' l.length c') ∧ w'.ownsRow w.heap.size 62 6 (.slice A' l.length c') l.length (cl Ls.Lk.cells l) ∧ Below w.heap.size w w' := by
  have H := Lib.hid h
  have q22 : ∀ (w : World) (a : Option Addr) (n c n' c' : Nat), (binOp .eql 22 (.slice a n c) (.slice none n' c')).run Tryz.prog w = .ok (.bool a.isNone) w := fun w a n c n' c' => Lib.run_eql_slice_nil w _ _ a n c n' c' Tryz.underlying22
  cases A with
  | none =>
    have h0 : l = [] := by
      cases l with
      | nil => rfl
      | cons a l =>
        obtain ⟨_, _, _, e, _⟩ := RX.let_ encL (by decide) (k := 0) h (by simp)
        cases e
    subst h0
    clear h
    go_enter Tryz.func49, Tryz.ntmps49
    go_wp2
    go_ret
    exact ⟨none, 0, rfl, World.ownsRow_nil _ _ _ _, Below.refl _ _⟩
  | some ad =>
    obtain ⟨n, HN⟩ : ∃ n, Hid (l.length = n) := ⟨_, rfl⟩
    have HO : Hid ((w.alloc (.cells #[] 62)).ownsRow w.heap.size 62 6 (.slice (some ⟨w.heap.size, 0, none⟩) ([] : List Ls.Lk).length 0) ([] : List Ls.Lk).length (cl Ls.Lk.cells [])) := World.ownsRow_made w #[] 0 (Nat.le_refl _) (by unfold maxLen; omega) rfl
    clear h
    go_enter Tryz.func49, Tryz.ntmps49
    go_wp2_with (at_builtin; (refine wpList_applL _ rfl (.tmp 5) (.tmp 6) w.heap.size (some ⟨w.heap.size, 0, none⟩) 0 rfl [] (by simp [Act.eval]) HO.out (some ad) c l.length l rfl (by simp [Act.eval]) (H.out.up (below_new _ _)) (by simp; omega) (by simp) ?_; intro A6 c6 w6 HO6 HB6 HG6))
    have HBW : Hid (Below w.heap.size w w6) := (below_new w _).trans HB6.out
    simp only [List.nil_append] at HO6 ⊢
    go_wp2
    go_ret
    exact ⟨A6, c6, rfl, HO6.out, HBW.out⟩
end Go.Proofs.YtfapfkaipdcflaaGreat.K

/-
  Apply of package links.
-/
namespace Go.Proofs.YtfapfkaipdcflaaGreat.K
open Go.RowKit Go.Lib

namespace Ls
open Go.Proofs.YtfapfkaipdcflaaGreat.Ls
/-- the error of an event for a state of n nodes -/
def chkEv (n : Int) (e : Ev) : Int := if chkE e ≠ 0 then chkE e else if n ≤ e.u ∨ n ≤ e.v then 6 else 0
/-- the error of Apply -/
def apE (n : Int) (l : List Lk) (e : Ev) : Int := if chkS n l ≠ 0 then chkS n l else chkEv n e
theorem chkEv_good (n : Int) (e : Ev) : chkEv n e = 0 ↔ Go.Proofs.YtfapfkaipdcflaaGreat.Ls.Good n e := by
  unfold chkEv Go.Proofs.YtfapfkaipdcflaaGreat.Ls.Good
  by_cases h : chkE e = 0
  · rw [if_neg (by simpa using h)]
    split
    · next h1 => simp; omega
    · next h1 => simp [h]; omega
  · rw [if_pos h]; simp [h]
theorem apE_zero (n : Int) (l : List Lk) (e : Ev) : apE n l e = 0 ↔ V n l ∧ Go.Proofs.YtfapfkaipdcflaaGreat.Ls.Good n e := by
  unfold apE
  by_cases h : chkS n l = 0
  · rw [if_neg (by simpa using h), chkEv_good, ← chkS_zero]; simp [h]
  · rw [if_pos h, ← chkS_zero]; simp [h]
end Ls
theorem new_three (w : World) (o1 o2 o3 : Obj) (W : World) (hW : ((w.alloc o1).alloc o2).alloc o3 = W) : W.heap[w.heap.size]? = some o1 ∧ W.heap[w.heap.size + 1]? = some o2 ∧ W.heap[w.heap.size + 2]? = some o3 ∧ W.heap.size = w.heap.size + 3 ∧ Below w.heap.size w W := by
  subst hW
  obtain ⟨a, b, c, d⟩ := new_two w o1 o2
  have e : (((w.alloc o1).alloc o2).alloc o3).heap.size = w.heap.size + 3 := by simp
  refine ⟨(Below.heap_alloc _ _ _ (by omega)).trans a, (Below.heap_alloc _ _ _ (by omega)).trans b, ?_, e, d.trans ((below_new _ _).mono (by omega))⟩
  have := heap_alloc_new ((w.alloc o1).alloc o2) o3
  rwa [c] at this
/-- a state, a value and an error that are returned -/
theorem ret_state3 {fn : Func} {R : Ending → World → Prop} {a : Act} {w : World} {p q r : Nat} (hres : fn.results = #[.cell p 24, .tmp q, .tmp r]) (hd : a.defers = []) (g : Nat) (hp : a.tmps.getD p undef = .pointer (some ⟨g, 0, none⟩)) (x y : Value) (hq : a.tmps.getD q undef = x) (hr : a.tmps.getD r undef = y)
    {v0 v1 : Value} (hb : w.heap[g]? = some (.cells #[v0, v1] 24 (0, 0))) (h : R (.returned (.tuple #[.agg #[v0, v1], x, y])) w) : bodyPost Tryz.prog fn R .ret a w := by
  have hc := Go.Joins.cell_of_block hb
  have y0 := hc 0; have y1 := hc 1
  simp only [List.getElem?_toArray, List.getElem?_cons_succ, List.getElem?_cons_zero] at y0 y1
  have hp' : (a.tmps[p]?).getD undef = .pointer (some ⟨g, 0, none⟩) := by simpa using hp
  have hq' : (a.tmps[q]?).getD undef = x := by simpa using hq
  have hr' : (a.tmps[r]?).getD undef = y := by simpa using hr
  refine bodyPost_ret (v := .tuple #[.agg #[v0, v1], x, y]) ?_ hd h
  clear hp hq hr h hd hb hc
  simp [results, hres, go_sem, hp', hq', hr', y0, y1]
/-- what Apply answers -/
def ApplyP (n : Int) (l : List Ls.Lk) (e : Ev) (w : World) (en : Ending) (w' : World) : Prop :=
  ∃ (n' : Int) (l' : List Ls.Lk) (ev : List Ev) (A' A1 : Option Addr) (c' c1 : Nat), en = .returned (.tuple #[.agg #[.int .i64 n', .slice A' l'.length c'], .slice A1 ev.length c1, .int .i64 (Ls.apE n l e)]) ∧
    (if Ls.apE n l e = 0 then n' = n ∧ l' = Ls.nextL l e ∧ ev = Ls.chg l e else n' = 0 ∧ l' = [] ∧ ev = []) ∧ RL w'.heap.size w' A' c' l' ∧ RV w'.heap.size w' A1 c1 ev ∧ Below w.heap.size w w'
end Go.Proofs.YtfapfkaipdcflaaGreat.K

/-
  All of package links.
-/
namespace Go.Proofs.YtfapfkaipdcflaaGreat.K
open Go.RowKit Go.Lib

namespace Ls
open Go.Proofs.YtfapfkaipdcflaaGreat.Ls
/-- what All answers: links, the number, the error -/
def allR (n : Int) (l : List Lk) (es : List Ev) : List Lk × Int × Int := if chkS n l ≠ 0 then ([], 0, chkS n l) else allS n 0 l es
/-- the same, where cnt changes have been counted -/
def addC (cnt : Int) (r : List Lk × Int × Int) : List Lk × Int × Int := if r.2.2 ≠ 0 then r else (r.1, r.2.1 + cnt, 0)
theorem addC_zero (r : List Lk × Int × Int) : addC 0 r = r := by
  unfold addC
  split
  · rfl
  · next h =>
    obtain ⟨a, b, c⟩ := r
    simp at h
    subst h
    simp
theorem allS_bad (n : Int) (i : Nat) (l : List Lk) (e : Ev) (es : List Ev) (h : chkEv n e ≠ 0) : allS n i l (e :: es) = ([], (i : Int), chkEv n e) := by
  unfold allS
  unfold chkEv at h ⊢
  by_cases h1 : chkE e = 0
  · rw [if_neg (by simpa using h1)] at h ⊢
    split at h
    · next h2 => rw [if_pos h2, if_neg (by simpa using h1), if_pos h2]
    · simp at h
  · rw [if_pos h1, if_pos h1]
theorem allS_step (n : Int) (i : Nat) (l : List Lk) (e : Ev) (es : List Ev) (cnt : Int) (h : chkEv n e = 0) : addC cnt (allS n i l (e :: es)) = addC (cnt + (chg l e).length) (allS n (i + 1) (nextL l e) es) := by
  obtain ⟨h1, h2, h3⟩ := (chkEv_good n e).1 h
  conv => lhs; unfold allS
  rw [if_neg (by simpa using h1), if_neg (by omega)]
  unfold addC
  by_cases h4 : (allS n (i + 1) (nextL l e) es).2.2 = 0
  · simp [h4]; omega
  · simp [h4]
theorem allS_nil (n : Int) (i : Nat) (l : List Lk) (cnt : Int) : addC cnt (allS n i l []) = (l, cnt, 0) := by simp [addC, allS]
theorem len_put (n : Lk) (l : List Lk) : (put n l).length ≤ l.length + 1 := by
  induction l with
  | nil => simp [put]
  | cons a l ih =>
    unfold put
    split
    · simp
    · split
      · simp
      · simp; omega
theorem len_next (l : List Lk) (e : Ev) : (nextL l e).length ≤ l.length + 1 := by
  unfold nextL
  split
  · exact len_put _ _
  · exact Nat.le_trans (List.length_filter_le _ _) (by omega)
theorem len_chg (l : List Lk) (e : Ev) : (chg l e).length ≤ l.length + 1 := by
  unfold chg
  split
  · split <;> simp
  · rw [List.length_map]; exact Nat.le_trans (List.length_filter_le _ _) (by omega)
end Ls
theorem RV_at {B : Nat} {w : World} {A : Option Addr} {c : Nat} {l : List Ev} (h : RV B w A c l) {k : Nat} (hk : k < l.length) : ∃ (b off : Nat) (a : Ev), A = some ⟨b, off, none⟩ ∧ b < B ∧ l[k]? = some a ∧
    w.cell? ⟨b, off + k * 7, none⟩ = some (.int .i64 a.kind) ∧ w.cell? ⟨b, off + k * 7 + 1, none⟩ = some (.int .i64 a.time) ∧ w.cell? ⟨b, off + k * 7 + 2, none⟩ = some (.int .i64 a.u) ∧ w.cell? ⟨b, off + k * 7 + 3, none⟩ = some (.int .i64 a.v) ∧
    w.cell? ⟨b, off + k * 7 + 4, none⟩ = some (.int .i64 a.weight) ∧ w.cell? ⟨b, off + k * 7 + 5, none⟩ = some (.int .i64 a.label) ∧ w.cell? ⟨b, off + k * 7 + 6, none⟩ = some (.int .i64 a.sign) := RV.at_ h hk
/-- what All answers -/
def AllP (n : Int) (l : List Ls.Lk) (es : List Ev) (w : World) (en : Ending) (w' : World) : Prop :=
  ∃ (n' : Int) (l' : List Ls.Lk) (A' : Option Addr) (c' : Nat), en = .returned (.tuple #[.agg #[.int .i64 n', .slice A' l'.length c'], .int .i64 (Ls.allR n l es).2.1, .int .i64 (Ls.allR n l es).2.2]) ∧
    l' = (Ls.allR n l es).1 ∧ n' = (if (Ls.allR n l es).2.2 = 0 then n else 0) ∧ RL w'.heap.size w' A' c' l' ∧ Below w.heap.size w w'
/-- the loop's state in All -/
structure AL (w : World) (G base P : Nat) (n : Int) (sv : Value) (A : Option Addr) (c : Nat) (l : List Ls.Lk) (wr : World) : Prop where
  b0 : wr.heap[G]? = some (.cells #[.int .i64 n, sv] 24)
  b1 : wr.heap[G + 1]? = some (.cells #[.int .i64 0, .slice none 0 0] 24)
  ps : PS base P A c l wr
  bel : Below w.heap.size w wr
  hb : G + 2 ≤ base
  bs : base ≤ wr.heap.size
theorem AL.go {w wr w' : World} {G base P : Nat} {n : Int} {sv : Value} {A : Option Addr} {c : Nat} {l : List Ls.Lk} (h : AL w G base P n sv A c l wr) (hb : Below wr.heap.size wr w') : AL w G base P n sv A c l w' :=
  ⟨(hb.block _ (lt_of_some h.b0)).trans h.b0, (hb.block _ (lt_of_some h.b1)).trans h.b1, h.ps.go hb, h.bel.trans (hb.mono h.bel.size), h.hb, Nat.le_trans h.bs hb.size⟩
theorem AL.next {w wr w' : World} {G base P : Nat} {n : Int} {sv : Value} {A A' : Option Addr} {c c' : Nat} {l l' : List Ls.Lk} (h : AL w G base P n sv A c l wr) (hw : w.heap.size ≤ base) (hp : PS base P A' c' l' w') (hb : Below base wr w') : AL w G base P n sv A' c' l' w' :=
  ⟨(hb.block _ (by have := h.hb; omega)).trans h.b0, (hb.block _ (by have := h.hb; omega)).trans h.b1, hp, h.bel.trans (hb.mono hw), h.hb, Nat.le_trans h.bs hb.size⟩
set_option maxHeartbeats 8000000 in
set_option maxRecDepth 100000 in
theorem lall_any (n : Int) (A B : Option Addr) (c d : Nat) (l : List Ls.Lk) (es : List Ev) (w : World) (h : RL w.heap.size w A c l) (hE : RV w.heap.size w B d es) (hl : l.length + es.length ≤ 60000) :
    Calls Tryz.prog 30 #[.agg #[.int .i64 n, .slice A l.length c], .slice B es.length d] w (AllP n l es w) := by
  obtain ⟨W1, hW1⟩ : ∃ W1, ((w.alloc (.cells #[.int .i64 n, .slice A l.length c] 24)).alloc (.cells #[.int .i64 0, .slice none 0 0] 24)) = W1 := ⟨_, rfl⟩
  obtain ⟨n0, n1, n3, n4⟩ := new_two w (.cells #[.int .i64 n, .slice A l.length c] 24) (.cells #[.int .i64 0, .slice none 0 0] 24)
  rw [hW1] at n0 n1 n3 n4
  obtain ⟨G, hG⟩ : ∃ G, Hid (w.heap.size = G) := ⟨_, rfl⟩
  have HW1 := Lib.hid hW1
  have HB1 := Lib.hid n4
  have H1 := Lib.hid (h.up n4)
  have HE1 := Lib.hid (hE.up n4)
  rw [hG.out] at n0 n1 n3
  have N0 := Lib.hid n0; have N1 := Lib.hid n1; have N3 := Lib.hid n3
  have C13 := Lib.hid (lcheck_any n A c l W1 H1.out (by omega))
  have s0 := Go.Joins.cell_of_block n0 0; have s1 := Go.Joins.cell_of_block n0 1
  simp only [List.getElem?_toArray, List.getElem?_cons_succ, List.getElem?_cons_zero] at s0 s1
  clear h hE hW1 n4 n0 n1
  obtain ⟨R, HR⟩ : ∃ R, Hid (Ls.chkS n l = R) := ⟨_, rfl⟩
  simp only [HR.out] at C13
  go_enter Tryz.func30, Tryz.ntmps30
  go_wp2_with fail
  rw [HW1.out]
  simp only [hG.out]
  refine C13.out.mono ?_
  rintro e w2 ⟨rfl, hb2⟩
  have B2 := Lib.hid hb2
  clear hb2 C13 s0 s1
  by_cases hR : R = 0
  · subst hR
    have HV := Lib.hid ((Ls.chkS_zero n l).1 HR.out)
    have HAR : Hid (Ls.allR n l es = Ls.addC 0 (Ls.allS n 0 l es)) := by show _ = _; rw [Ls.allR, HR.out, if_neg (by decide), Ls.addC_zero]
    have n0 := (B2.out.block G (by rw [N3.out]; omega)).trans N0.out
    have s1 := Go.Joins.cell_of_block n0 1
    simp only [List.getElem?_toArray, List.getElem?_cons_succ, List.getElem?_cons_zero] at s1
    have hs2 : G + 2 ≤ w2.heap.size := by have := B2.out.size; rw [N3.out] at this; exact this
    have M0 := Lib.hid n0
    have M1 := Lib.hid ((B2.out.block (G + 1) (by rw [N3.out]; omega)).trans N1.out)
    have C38 := Lib.hid (clone_any A c l w2 (H1.out.up B2.out) (by omega))
    clear n0
    go_wp2_with fail
    refine C38.out.mono ?_
    rintro e w4 ⟨A4, c4, rfl, ho4, hb4⟩
    have hs4 : w2.heap.size ≤ w4.heap.size := hb4.size
    have BP : Below w2.heap.size w2 (w4.alloc (.cells #[.slice A4 l.length c4] 95)) := hb4.trans ((below_new _ _).mono hs4)
    have hw2 : Hid (w.heap.size ≤ w2.heap.size) := by show _ ≤ _; rw [hG.out]; omega
    have HAL : Hid (AL w G w2.heap.size w4.heap.size n (.slice A l.length c) A4 c4 l (w4.alloc (.cells #[.slice A4 l.length c4] 95))) :=
      ⟨(BP.block G (by omega)).trans M0.out, (BP.block (G + 1) (by omega)).trans M1.out, ⟨heap_alloc_new _ _, own_up ho4 (below_new _ _), hs4⟩, HB1.out.trans ((B2.out.trans (BP.mono B2.out.size)).mono HB1.out.size), hs2, BP.size⟩
    obtain ⟨base, hbase⟩ : ∃ base, Hid (w2.heap.size = base) := ⟨_, rfl⟩
    rw [hbase.out] at HAL hw2
    have HEr := Lib.hid (HE1.out.up B2.out)
    have HBw := Lib.hid (BP)
    clear ho4 hb4 C38 s1 BP
    go_wp2
    obtain ⟨P, hP⟩ : ∃ P, Hid (w4.heap.size = P) := ⟨_, rfl⟩
    rw [hP.out] at HAL ⊢
    obtain ⟨W5, hW5⟩ : ∃ W5, Hid (w4.alloc (.cells #[.slice A4 l.length c4] 95) = W5) := ⟨_, rfl⟩
    rw [hW5.out] at HAL HBw ⊢
    have HE5 := Lib.hid (HEr.out.go HBw.out)
    have hEb : Hid (w2.heap.size ≤ base) := by rw [hbase.out]; exact Nat.le_refl _
    go_loopw [9, 25] (fun q i wr => ∃ (j : Nat) (cnt : Nat) (lc : List Ls.Lk) (A5 : Option Addr) (c5 : Nat), j ≤ es.length ∧ i = .int .i64 j ∧ q = .int .i64 cnt ∧ cnt ≤ j * 60001 ∧ Hid (lc.length ≤ l.length + j) ∧ Hid (Ls.V n lc) ∧
      Hid (Ls.allR n l es = Ls.addC cnt (Ls.allS n j lc (es.drop j))) ∧ Hid (AL w G base P n (.slice A l.length c) A5 c5 lc wr) ∧ Hid (RV w2.heap.size wr B d es)) (fun _ i _ => es.length - (RowKit.intOf i).toNat)
    case atStart => exact ⟨0, 0, l, A4, c4, Nat.zero_le _, rfl, rfl, by omega, Nat.le_refl _, HV.out, HAR.out, HAL.out, HE5.out⟩
    case round =>
      obtain ⟨j, cnt, lc, A5, c5, hj, rfl, rfl, hcnt, HLC, HVC, HRR, HA5, HER⟩ := hrel
      clear HAL HE5 HBw HEr HAR
      have z0 := Go.Joins.cell_of_block HA5.out.b0 0
      simp only [List.getElem?_toArray, List.getElem?_cons_zero] at z0
      have hGr := lt_of_some HA5.out.b0
      by_cases hlt : j < es.length
      · obtain ⟨bb, off, ⟨k, t, u, v, x, y, z⟩, rfl, hbb, hx, c0, c1, c2, c3, c4', c5', c6⟩ := RV_at HER.out hlt
        dsimp only at c0 c1 c2 c3 c4' c5' c6
        have hD : Hid (es.drop j = ⟨k, t, u, v, x, y, z⟩ :: es.drop (j + 1)) := drop_at_e es _ j hx
        have C37 := Lib.hid (fun w => checkEvent_any n k t u v x y z w)
        obtain ⟨R2, HR2⟩ : ∃ R2, Hid (Ls.chkEv n ⟨k, t, u, v, x, y, z⟩ = R2) := ⟨_, rfl⟩
        simp only [show (if chkE ⟨k, t, u, v, x, y, z⟩ ≠ 0 then chkE ⟨k, t, u, v, x, y, z⟩ else if n ≤ u ∨ n ≤ v then 6 else 0) = R2 from HR2.out] at C37
        have hbw : bb < wr.heap.size := by have := HA5.out.bs; have := hEb.out; omega
        clear hx
        go_wp2_with fail
        refine (C37.out _).mono ?_
        rintro e w7 ⟨rfl, hb7⟩
        obtain ⟨b0, b1, b2, b3, b4, b5, b6⟩ := box7 hb7
        have hbr7 := below_viaE hb7
        have HA7 := Lib.hid (HA5.out.go hbr7)
        have HE7 := Lib.hid (HER.out.go (below_le hbr7 (Nat.le_trans hEb.out HA5.out.bs)))
        have hws : wr.heap.size < w7.heap.size := by have := hb7.size; simp at this; omega
        have r0 := Go.Joins.cell_of_block HA7.out.b1 0; have r1 := Go.Joins.cell_of_block HA7.out.b1 1
        have f0 := Go.Joins.unfrozen_of_block HA7.out.b1 0; have f1 := Go.Joins.unfrozen_of_block HA7.out.b1 1
        simp only [List.getElem?_toArray, List.getElem?_cons_succ, List.getElem?_cons_zero] at r0 r1
        clear hb7 hbr7 C37 c0 c1 c2 c3 c4' c5' c6 z0
        by_cases hR2 : R2 = 0
        · subst hR2
          have HGD := Lib.hid ((Ls.chkEv_good n ⟨k, t, u, v, x, y, z⟩).1 HR2.out)
          have CA := Lib.hid (apply_any base P A5 c5 lc k t u v x y z (by have := (Ls.good_kind HGD.out).1; simpa using this) _ HA7.out.ps HVC.out.2.2.1 (by have := HLC.out; omega) HA7.out.bs)
          go_wp2_with fail
          refine CA.out.mono ?_
          rintro e w8 ⟨A8, A9, c8, c9, rfl, ho9, hps8, hb8⟩
          have HA8 := Lib.hid (HA7.out.next hw2.out hps8 hb8)
          have HE8 := Lib.hid (HE7.out.go (below_le hb8 hEb.out))
          have hlen := Ls.len_chg lc ⟨k, t, u, v, x, y, z⟩
          obtain ⟨m, HM⟩ : ∃ m, Hid ((Ls.chg lc ⟨k, t, u, v, x, y, z⟩).length = m) := ⟨_, rfl⟩
          rw [HM.out] at hlen
          have hm : m ≤ 60001 := by have := HLC.out; omega
          have fw : IntKind.i64.wrap ((cnt : Int) + (m : Int)) = (cnt : Int) + (m : Int) := IntWalk.i64_in _ (by omega)
          rw [HM.out]
          clear hps8 hb8 ho9 CA hlen b0 b1 b2 b3 b4 b5 b6 r0 r1 f0 f1
          go_wp2
          go_roundw
          case rel =>
            refine ⟨j + 1, cnt + m, Ls.nextL lc ⟨k, t, u, v, x, y, z⟩, A8, c8, hlt, by go_num, by go_num, by omega, ?_, Ls.next_valid HVC.out HGD.out, ?_, HA8.out, HE8.out⟩
            · have := Ls.len_next lc ⟨k, t, u, v, x, y, z⟩
              have := HLC.out
              show _ ≤ _
              omega
            · show _ = _
              rw [HRR.out, hD.out, Ls.allS_step n j lc _ _ _ HR2.out, HM.out]
              congr 1
          case measure => simp [RowKit.intOf]; omega
        · have hd : (R2 != 0) = true := by simpa using hR2
          have hd' : (R2 == 0) = false := by simpa using hR2
          have HRE : Hid (Ls.allR n l es = ([], (j : Int), R2)) := by
            show _ = _
            rw [HRR.out, hD.out, Ls.allS_bad n j lc _ _ (by rw [HR2.out]; exact hR2), HR2.out, Ls.addC, if_pos hR2]
          have H2 := Lib.hid hR2
          have hGw : Hid (w.heap.size ≤ G + 1) := by show _ ≤ _; rw [hG.out]; omega
          have hG17 := lt_of_some HA7.out.b1
          clear hR2 b0 b1 b2 b3 b4 b5 b6
          go_wp2
          have hblk := setCell_cells (setCell_cells HA7.out.b1 0 (.int .i64 0)) 1 (.slice none 0 0)
          have hbel : Below w.heap.size w _ := (HA7.out.bel.setCell (p := ⟨G + 1, 0, none⟩) hGw.out (.int .i64 0)).setCell (p := ⟨G + 1, 1, none⟩) hGw.out (.slice none 0 0)
          exact ret_state3 (p := 4) (q := 5) (r := 6) Tryz.results30 rfl (G + 1) rfl _ _ rfl rfl hblk ⟨0, [], none, 0, by rw [HRE.out]; rfl, by rw [HRE.out], by rw [HRE.out, if_neg H2.out], RX.nil_ _ _ _ _, hbel⟩
      · have HRE : Hid (Ls.allR n l es = (lc, (cnt : Int), 0)) := by
          show _ = _
          rw [HRR.out, List.drop_eq_nil_of_le (by omega), Ls.allS_nil]
        have r0 := Go.Joins.cell_of_block HA5.out.b1 0; have r1 := Go.Joins.cell_of_block HA5.out.b1 1
        have f0 := Go.Joins.unfrozen_of_block HA5.out.b1 0; have f1 := Go.Joins.unfrozen_of_block HA5.out.b1 1
        simp only [List.getElem?_toArray, List.getElem?_cons_succ, List.getElem?_cons_zero] at r0 r1
        have hGw : Hid (w.heap.size ≤ G + 1) := by show _ ≤ _; rw [hG.out]; omega
        have p0 := HA5.out.ps.c0
        obtain ⟨m, HM⟩ : ∃ m, Hid (lc.length = m) := ⟨_, rfl⟩
        rw [HM.out] at p0
        go_wp2
        have hblk := setCell_cells (setCell_cells HA5.out.b1 0 (.int .i64 n)) 1 (.slice A5 m c5)
        have hbel : Below w.heap.size w _ := (HA5.out.bel.setCell (p := ⟨G + 1, 0, none⟩) hGw.out (.int .i64 n)).setCell (p := ⟨G + 1, 1, none⟩) hGw.out (.slice A5 m c5)
        have hne : (Value.slice A5 lc.length c5).ownBlock ≠ some (G + 1) := fun e => by have := (HA5.out.ps.own.lt _ e).1; have := HA5.out.hb; omega
        have hown := (HA5.out.ps.own.kept (w' := wr.setCell ⟨G + 1, 0, none⟩ (.int .i64 n)) set_grown (.inr hne)).kept (w' := (wr.setCell ⟨G + 1, 0, none⟩ (.int .i64 n)).setCell ⟨G + 1, 1, none⟩ (.slice A5 m c5)) set_grown (.inr hne)
        exact ret_state3 (p := 4) (q := 5) (r := 6) Tryz.results30 rfl (G + 1) rfl _ _ rfl rfl hblk ⟨n, lc, A5, c5, by rw [HRE.out, HM.out]; rfl, by rw [HRE.out], by rw [HRE.out, if_pos rfl], RX.of_own hown, hbel⟩
  · have HAE : Hid (Ls.allR n l es = ([], 0, R)) := by show _ = _; rw [Ls.allR, HR.out, if_pos hR]
    have hd : (R != 0) = true := by simpa using hR
    have hd' : (R == 0) = false := by simpa using hR
    have n2 := (B2.out.block (G + 1) (by rw [N3.out]; omega)).trans N1.out
    have r0 := Go.Joins.cell_of_block n2 0; have r1 := Go.Joins.cell_of_block n2 1
    have f0 := Go.Joins.unfrozen_of_block n2 0; have f1 := Go.Joins.unfrozen_of_block n2 1
    simp only [List.getElem?_toArray, List.getElem?_cons_succ, List.getElem?_cons_zero] at r0 r1
    have M2 := Lib.hid n2
    have H2 := Lib.hid hR
    clear n2 hR
    go_wp2
    have hblk := setCell_cells (setCell_cells M2.out 0 (.int .i64 0)) 1 (.slice none 0 0)
    have hbel : Below w.heap.size w _ := ((HB1.out.trans (B2.out.mono HB1.out.size)).setCell (p := ⟨G + 1, 0, none⟩) (by show w.heap.size ≤ G + 1; rw [hG.out]; omega) (.int .i64 0)).setCell (p := ⟨G + 1, 1, none⟩) (by show w.heap.size ≤ G + 1; rw [hG.out]; omega) (.slice none 0 0)
    exact ret_state3 (p := 4) (q := 5) (r := 6) Tryz.results30 rfl (G + 1) rfl _ _ rfl rfl hblk ⟨0, [], none, 0, by rw [HAE.out]; rfl, by rw [HAE.out], by rw [HAE.out, if_neg H2.out], RX.nil_ _ _ _ _, hbel⟩
end Go.Proofs.YtfapfkaipdcflaaGreat.K
