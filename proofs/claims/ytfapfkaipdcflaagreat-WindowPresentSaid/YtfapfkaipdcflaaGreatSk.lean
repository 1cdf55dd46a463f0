/-
  slices.SortedFunc over the values of a slice of links; presentIn.
-/
import Derived.Test.YtfapfkaipdcflaaGreatSi
import Derived.Test.YtfapfkaipdcflaaGreatSg
import Derived.Test.YtfapfkaipdcflaaGreatSj
namespace Go.Proofs.YtfapfkaipdcflaaGreat
open Go.RowKit Go.Lib

theorem own_other {w w' : World} {base g : Nat} {T U : TypeId} {n k : Nat} {v : Value} {xs : List Value} {cs : Array Value} (h : w.ownsRow base T n v k xs) (hg : w.heap[g]? = some (.cells cs U (0, 0))) (hne : T ≠ U) (hb : w.grownBy w' (some g)) : w'.ownsRow base T n v k xs := by
  refine h.kept hb ?_
  rcases h.2 with ⟨rfl, _⟩ | ⟨g', cap, cur, rfl, _, hgb, _⟩
  · exact .inl rfl
  · refine .inr fun e' => ?_
    have : g' = g := by simpa [Value.ownBlock] using e'
    subst this
    rw [hgb] at hg
    injection hg with hg
    injection hg with _ hg
    exact hne hg
theorem ownsRow_base {w : World} {b b' : Nat} {T : TypeId} {n k : Nat} {v : Value} {xs : List Value} (h : w.ownsRow b T n v k xs) (hb : b' ≤ b) : w.ownsRow b' T n v k xs := by
  refine ⟨h.1, ?_⟩
  rcases h.2 with h' | ⟨g', cap, cur, e, h1, h2⟩
  · exact .inl h'
  · exact .inr ⟨g', cap, cur, e, by omega, h2⟩
/-- a list of one's own that holds the links sorted by age -/
def SA (base : Nat) (zs : List Ls.Lk) (A : Option Addr) (c : Nat) (ts : List Ls.Lk) (w : World) : Prop :=
  ts.length = zs.length ∧ ts.Perm zs ∧ Srt cmpA ts ∧ w.ownsRow base 62 6 (.slice A ts.length c) ts.length (cl Ls.Lk.cells ts)
theorem SA.go {base c : Nat} {zs ts : List Ls.Lk} {A : Option Addr} {w w' : World} (h : SA base zs A c ts w) (hb : Below w.heap.size w w') : SA base zs A c ts w' := ⟨h.1, h.2.1, h.2.2.1, own_up h.2.2.2 hb⟩
theorem sortedFunc_any (Bs : Nat) (A : Option Addr) (c : Nat) (zs : List Ls.Lk) (hz : zs.length ≤ 65536) (w : World) (hBs : Bs < w.heap.size) (hc : w.cell? ⟨Bs, 0, none⟩ = some (.slice A zs.length c)) (hZ : RL w.heap.size w A c zs) :
    Calls Tryz.prog 57 #[.func (.func 79) #[] #[.pointer (some ⟨Bs, 0, none⟩)], .func (.func 59) #[] #[]] w fun e w' =>
      ∃ A' c' ts, e = .returned (.slice A' ts.length c') ∧ SA w.heap.size zs A' c' ts w' ∧ Below w.heap.size w w' := by
  have C := Lib.hid (collect_any Bs A c zs hz w hBs hc hZ)
  have HZN := Lib.hid hz
  clear hc hZ hz
  go_enter Tryz.func57, Tryz.ntmps57
  go_wp2_with fail
  refine C.out.mono ?_
  rintro e w1 ⟨v, rfl, ho, hb⟩
  obtain ⟨A1, c1, rfl⟩ := own_formX ho
  have HB := Lib.hid hb
  have C2 := Lib.hid (sortL_own w.heap.size A1 c1 zs w1 ho HZN.out hb.size)
  clear ho hb C
  go_wp2_with fail
  refine C2.out.mono ?_
  rintro e w2 ⟨rfl, ts, hlen, hp, hs, ho, hb⟩
  have HO : Hid (SA w.heap.size zs A1 c1 ts w2) := ⟨hlen, hp, hs, ho⟩
  have HB2 := Lib.hid (HB.out.trans hb)
  have HL := Lib.hid hlen
  clear ho hb C2 hp hs hlen
  go_wp2
  go_ret
  exact ⟨A1, c1, ts, by rw [HL.out]; rfl, HO.out, HB2.out⟩
/-- what presentIn answers -/
def PresP (base : Nat) (W M : Int) (zs : List Ls.Lk) (w : World) (e : Ending) (w' : World) : Prop :=
  ∃ A' c' ts, e = .returned (.agg #[.int .i64 W, .int .i64 M, .slice A' ts.length c']) ∧ SA base zs A' c' ts w' ∧ Below base w w'
set_option maxHeartbeats 2000000 in
set_option maxRecDepth 100000 in
theorem presentIn_any (W M : Int) (A : Option Addr) (c : Nat) (zs : List Ls.Lk) (hz : zs.length ≤ 65536) (w : World) (hZ : RL w.heap.size w A c zs) :
    Calls Tryz.prog 37 #[.agg #[.int .i64 W, .int .i64 M], .slice A zs.length c] w (PresP w.heap.size W M zs w) := by
  obtain ⟨W1, HW1⟩ : ∃ W1, Hid (W1 = (w.alloc (.cells #[.int .i64 W, .int .i64 M] 74)).alloc (.cells #[.int .i64 0, .int .i64 0, .slice none 0 0] 81)) := ⟨_, rfl⟩
  obtain ⟨G, HGG⟩ : ∃ G, Hid (G = w.heap.size) := ⟨_, rfl⟩
  have HB1 : Hid (Below w.heap.size w W1) := by show Below _ _ _; rw [HW1.out]; exact (below_new _ _).alloc (by simp) _
  have HGx : Hid (W1.heap[G]? = some (.cells #[.int .i64 W, .int .i64 M] 74 (0, 0))) := by show _ = _; rw [HW1.out, HGG.out, Below.heap_alloc _ _ _ (by simp)]; exact heap_alloc_new _ _
  have HGy : Hid (W1.heap[G + 1]? = some (.cells #[.int .i64 0, .int .i64 0, .slice none 0 0] 81 (0, 0))) := by show _ = _; rw [HW1.out, HGG.out]; have := heap_alloc_new (w.alloc (.cells #[.int .i64 W, .int .i64 M] 74)) (.cells #[.int .i64 0, .int .i64 0, .slice none 0 0] 81); simpa using this
  have HZ1 : Hid (RL W1.heap.size W1 A c zs) := hZ.up HB1.out
  have HZL := Lib.hid hz
  obtain ⟨m, HM⟩ : ∃ m, Hid (zs.length = m) := ⟨_, rfl⟩
  have HGl := Lib.hid (lt_of_some HGx.out)
  have HGL2 := Lib.hid (lt_of_some HGy.out)
  have HV : Hid (∀ ws : World, Calls Tryz.prog 58 #[.slice A m c] ws fun e w' => e = .returned (.func (.func 79) #[] #[.pointer (some ⟨ws.heap.size, 0, none⟩)]) ∧ w' = ws.alloc (.cells #[.slice A m c] 22)) := fun ws => values_any A c m ws
  have HS : Hid (∀ (ws : World) (Bs : Nat), Below W1.heap.size W1 ws → Bs < ws.heap.size → ws.cell? ⟨Bs, 0, none⟩ = some (.slice A m c) → Calls Tryz.prog 57 #[.func (.func 79) #[] #[.pointer (some ⟨Bs, 0, none⟩)], .func (.func 59) #[] #[]] ws fun e w' =>
      ∃ A' c' ts, e = .returned (.slice A' ts.length c') ∧ SA w.heap.size zs A' c' ts w' ∧ Below ws.heap.size ws w') := by
    intro ws Bs hb h1 h2
    rw [← HM.out] at h2
    refine (sortedFunc_any Bs A c zs HZL.out ws h1 h2 (HZ1.out.up hb)).mono ?_
    rintro e w' ⟨A', c', ts, e1, hs, hb2⟩
    exact ⟨A', c', ts, e1, ⟨hs.1, hs.2.1, hs.2.2.1, ownsRow_base hs.2.2.2 (Nat.le_trans HB1.out.size hb.size)⟩, hb2⟩
  have HM7 : Hid (∀ (q0 : Value) (w5 w6 : World), (∃ Bs, q0 = .func (.func 79) #[] #[.pointer (some ⟨Bs, 0, none⟩)] ∧ Bs < w5.heap.size ∧ w5.cell? ⟨Bs, 0, none⟩ = some (.slice A m c)) → Below w5.heap.size w5 w6 → ∃ Bs, q0 = .func (.func 79) #[] #[.pointer (some ⟨Bs, 0, none⟩)] ∧ Bs < w6.heap.size ∧ w6.cell? ⟨Bs, 0, none⟩ = some (.slice A m c)) := by
    rintro q0 w5 w6 ⟨Bs, h1, h2, h3⟩ hb
    exact ⟨Bs, h1, Nat.lt_of_lt_of_le h2 hb.size, (hb.cell (p := ⟨Bs, 0, none⟩) h2).trans h3⟩
  rw [HM.out]
  clear hZ hz
  go_enter Tryz.func37, Tryz.ntmps37
  go_wp2
  rw [← HW1.out, ← HGG.out]
  refine wp_region_inv 5 10 [(fun q0 _ => q0 = .agg #[.int .i64 W, .int .i64 M]), (fun q0 _ => q0 = .slice A m c), (fun q0 w5 => ∃ Bs, q0 = .func (.func 79) #[] #[.pointer (some ⟨Bs, 0, none⟩)] ∧ Bs < w5.heap.size ∧ w5.cell? ⟨Bs, 0, none⟩ = some (.slice A m c)), (fun q0 w5 => ∃ A' c' ts, q0 = .slice A' ts.length c' ∧ SA w.heap.size zs A' c' ts w5), (fun q0 w5 => ∃ A' c' ts, q0 = .agg #[.int .i64 W, .int .i64 M, .slice A' ts.length c'] ∧ SA w.heap.size zs A' c' ts w5)] (by kernel_rfl) (by kernel_rfl) rfl ?_ ?_ ?_
  · intro R hR
    simp only [List.mem_cons, List.not_mem_nil, or_false] at hR
    rcases hR with rfl | rfl | rfl | rfl | rfl
    · exact mono_eq _
    · exact mono_eq _
    · exact (fun _ _ _ h hb => HM7.out _ _ _ h hb)
    · exact (fun _ _ _ h hb => by obtain ⟨A1, c1, ts, h1, h2⟩ := h; exact ⟨A1, c1, ts, h1, h2.go hb⟩)
    · exact (fun _ _ _ h hb => by obtain ⟨A1, c1, ts, h1, h2⟩ := h; exact ⟨A1, c1, ts, h1, h2.go hb⟩)
  · simp only [List.take_succ_cons, List.take_zero]
    refine ⟨?_, ?_, ?_, ?_, ?_, trivial⟩
    · intro a ws hb hag hdep K Q hK
      have d2 : (a.tmps[2]?).getD undef = .pointer (some ⟨G, 0, none⟩) := eval_get (hag 2 (freeB_spec (by kernel_rfl)))
      rw [if_pos (show Region.wanted _ _ = true from rfl)]
      have yy := Go.Joins.cell_of_block ((hb.block G HGl.out).trans HGx.out)
      have y0 := yy 0; have y1 := yy 1
      simp only [List.getElem?_toArray, List.getElem?_cons_succ, List.getElem?_cons_zero] at y0 y1
      clear yy
      unfold Oper.wp
      simp [go_sem, d2, y0, y1]
      exact hK _ _ (Below.refl _ _) rfl
    · intro a ws hb hag hdep K Q hK
      have d1 : (a.tmps[1]?).getD undef = .slice A m c := eval_get (hag 1 (freeB_spec (by kernel_rfl)))
      rw [if_pos (show Region.wanted _ _ = true from rfl)]
      unfold Oper.wp
      simp [go_sem, *]
      exact hK _ _ (Below.refl _ _) rfl
    · intro a ws hb hag hdep K Q hK
      have d6 : (a.tmps[6]?).getD undef = .slice A m c := eval_get (dep_of hdep 1 6 rfl (by kernel_rfl) rfl rfl)
      rw [if_pos (show Region.wanted _ _ = true from rfl)]
      have hcon := HV.out ws
      unfold Oper.wp
      simp [go_sem, d6]
      refine hcon.mono ?_
      rintro e w9 ⟨rfl, rfl⟩
      exact hK _ _ (below_new _ _) ⟨ws.heap.size, rfl, by simp, Go.Joins.cell_of_block (heap_alloc_new ws _) 0⟩
    · intro a ws hb hag hdep K Q hK
      have d7 : (fun q0 w5 => ∃ Bs, q0 = .func (.func 79) #[] #[.pointer (some ⟨Bs, 0, none⟩)] ∧ Bs < w5.heap.size ∧ w5.cell? ⟨Bs, 0, none⟩ = some (.slice A m c)) (a.eval (.tmp 7)) ws := dep_of hdep 2 7 rfl (by kernel_rfl) rfl rfl
      rw [if_pos (show Region.wanted _ _ = true from rfl)]
      obtain ⟨Bs, e7, h7, h7c⟩ := d7
      have e7 := eval_get e7
      have hcon := HS.out ws Bs hb h7 h7c
      unfold Oper.wp
      simp [go_sem, e7]
      refine hcon.mono ?_
      rintro e w9 ⟨A1, c1, ts, rfl, hs, hb9⟩
      exact hK _ _ hb9 ⟨A1, c1, ts, rfl, hs⟩
    · intro a ws hb hag hdep K Q hK
      have d5 : (a.tmps[5]?).getD undef = .agg #[.int .i64 W, .int .i64 M] := eval_get (dep_of hdep 0 5 rfl (by kernel_rfl) rfl rfl)
      have d8 : (fun q0 w5 => ∃ A' c' ts, q0 = .slice A' ts.length c' ∧ SA w.heap.size zs A' c' ts w5) (a.eval (.tmp 8)) ws := dep_of hdep 3 8 rfl (by kernel_rfl) rfl rfl
      rw [if_pos (show Region.wanted _ _ = true from rfl)]
      obtain ⟨A1, c1, ts, e8, hs⟩ := d8
      have e8 := eval_get e8
      unfold Oper.wp
      simp [go_sem, d5, e8]
      exact hK _ _ (Below.refl _ _) ⟨A1, c1, ts, rfl, hs⟩
  · intro a ws hb hsz hdf hag hend
    have f5 : a.eval (.tmp 5) = .agg #[.int .i64 W, .int .i64 M] := end_of hend 0 5 (by decide) rfl rfl rfl
    have f6 : a.eval (.tmp 6) = .slice A m c := end_of hend 1 6 (by decide) rfl rfl rfl
    have f7 : (fun q0 w5 => ∃ Bs, q0 = .func (.func 79) #[] #[.pointer (some ⟨Bs, 0, none⟩)] ∧ Bs < w5.heap.size ∧ w5.cell? ⟨Bs, 0, none⟩ = some (.slice A m c)) (a.eval (.tmp 7)) ws := end_of hend 2 7 (by decide) rfl rfl rfl
    have f8 : (fun q0 w5 => ∃ A' c' ts, q0 = .slice A' ts.length c' ∧ SA w.heap.size zs A' c' ts w5) (a.eval (.tmp 8)) ws := end_of hend 3 8 (by decide) rfl rfl rfl
    have f9 : (fun q0 w5 => ∃ A' c' ts, q0 = .agg #[.int .i64 W, .int .i64 M, .slice A' ts.length c'] ∧ SA w.heap.size zs A' c' ts w5) (a.eval (.tmp 9)) ws := end_of hend 4 9 (by decide) rfl rfl rfl
    have f0 : a.eval (.tmp 0) = .agg #[.int .i64 W, .int .i64 M] := hag 0 (freeB_spec (by kernel_rfl))
    have f1 : a.eval (.tmp 1) = .slice A m c := hag 1 (freeB_spec (by kernel_rfl))
    have f2 : a.eval (.tmp 2) = .pointer (some ⟨G, 0, none⟩) := hag 2 (freeB_spec (by kernel_rfl))
    have f4 : a.eval (.tmp 4) = .pointer (some ⟨G + 1, 0, none⟩) := hag 4 (freeB_spec (by kernel_rfl))
    obtain ⟨T, D⟩ := a
    obtain rfl : D = [] := hdf
    obtain ⟨us, rfl⟩ : ∃ us : List Value, T = us.toArray := ⟨T.toList, by simp⟩
    replace hsz : us.length = 10 := by simpa using hsz
    obtain _ | ⟨x0, us⟩ := us
    · simp at hsz
    obtain _ | ⟨x1, us⟩ := us
    · simp at hsz
    obtain _ | ⟨x2, us⟩ := us
    · simp at hsz
    obtain _ | ⟨x3, us⟩ := us
    · simp at hsz
    obtain _ | ⟨x4, us⟩ := us
    · simp at hsz
    obtain _ | ⟨x5, us⟩ := us
    · simp at hsz
    obtain _ | ⟨x6, us⟩ := us
    · simp at hsz
    obtain _ | ⟨x7, us⟩ := us
    · simp at hsz
    obtain _ | ⟨x8, us⟩ := us
    · simp at hsz
    obtain _ | ⟨x9, us⟩ := us
    · simp at hsz
    obtain rfl : us = [] := by cases us with | nil => rfl | cons _ _ => simp at hsz
    clear hag hend hsz
    obtain rfl : x0 = .agg #[.int .i64 W, .int .i64 M] := f0
    obtain rfl : x1 = .slice A m c := f1
    obtain rfl : x2 = .pointer (some ⟨G, 0, none⟩) := f2
    obtain rfl : x4 = .pointer (some ⟨G + 1, 0, none⟩) := f4
    obtain rfl : x5 = .agg #[.int .i64 W, .int .i64 M] := f5
    obtain rfl : x6 = .slice A m c := f6
    replace f7 : (fun q0 w5 => ∃ Bs, q0 = .func (.func 79) #[] #[.pointer (some ⟨Bs, 0, none⟩)] ∧ Bs < w5.heap.size ∧ w5.cell? ⟨Bs, 0, none⟩ = some (.slice A m c)) x7 ws := f7
    replace f8 : (fun q0 w5 => ∃ A' c' ts, q0 = .slice A' ts.length c' ∧ SA w.heap.size zs A' c' ts w5) x8 ws := f8
    replace f9 : (fun q0 w5 => ∃ A' c' ts, q0 = .agg #[.int .i64 W, .int .i64 M, .slice A' ts.length c'] ∧ SA w.heap.size zs A' c' ts w5) x9 ws := f9
    obtain ⟨Bs, rfl, -, -⟩ := f7
    obtain ⟨A8, c8, ts8, rfl, -⟩ := f8
    obtain ⟨A9, c9, ts, rfl, hs⟩ := f9
    have HS9 := Lib.hid hs
    have HY := Lib.hid ((hb.block _ HGL2.out).trans HGy.out)
    have hyc := Go.Joins.cell_of_block HY.out
    have y0 := hyc 0; have y1 := hyc 1; have y2 := hyc 2
    simp only [List.getElem?_toArray, List.getElem?_cons_succ, List.getElem?_cons_zero] at y0 y1 y2
    have q0 := Go.Joins.unfrozen_of_block HY.out 0; have q1 := Go.Joins.unfrozen_of_block HY.out 1; have q2 := Go.Joins.unfrozen_of_block HY.out 2
    have hl2 : G + 1 < ws.heap.size := Nat.lt_of_lt_of_le HGL2.out hb.size
    have HBW := Lib.hid (HB1.out.trans (hb.mono HB1.out.size))
    clear hyc hs HV HS HM7 hb
    simp only [List.drop_succ_cons, List.drop_zero]
    go_wp2
    have hblk := setCell_cells (setCell_cells (setCell_cells HY.out 0 (.int .i64 W)) 1 (.int .i64 M)) 2 (.slice A9 ts.length c9)
    have hcc := Go.Joins.cell_of_block hblk
    have v0 := hcc 0; have v1 := hcc 1; have v2 := hcc 2
    simp at v0 v1 v2
    clear hcc
    refine bodyPost_ret (v := .agg #[.int .i64 W, .int .i64 M, .slice A9 ts.length c9]) ?_ rfl ?_
    · simp [results, Tryz.results37, go_sem, v0, v1, v2]
    · have hG1 : w.heap.size ≤ G + 1 := by rw [HGG.out]; omega
      refine ⟨A9, c9, ts, rfl, ?_, ((HBW.out.setCell (p := ⟨G + 1, 0, none⟩) hG1 _).setCell (p := ⟨G + 1, 1, none⟩) hG1 _).setCell (p := ⟨G + 1, 2, none⟩) hG1 _⟩
      refine ⟨HS9.out.1, HS9.out.2.1, HS9.out.2.2.1, ?_⟩
      refine own_other HS9.out.2.2.2 HY.out (by decide) ?_
      exact grown_trans (grown_trans (only_set1 _ _ _ rfl) (only_set1 _ _ _ rfl)) (only_set1 _ _ _ rfl)
end Go.Proofs.YtfapfkaipdcflaaGreat
