/-
  slices.Insert of one link, in a row of the caller's own.
-/
import Derived.Test.YtfapfkaipdcflaaGreatKk
import Derived.Lib.Overlaps
import Derived.Lib.AppendZerosOnto
namespace Go.Proofs.YtfapfkaipdcflaaGreat.K
open Go.RowKit Go.Lib

/-- what Insert answers -/
def InsP (base : Nat) (l : List Ls.Lk) (v : Value) (w : World) (e : Ending) (w' : World) : Prop :=
  ∃ (A : Option Addr) (c : Nat), e = .returned (.slice A l.length c) ∧ w'.ownsRow base 62 6 (.slice A l.length c) l.length (cl Ls.Lk.cells l) ∧ w.grownBy w' v.ownBlock
theorem own_blk {w : World} {base c : Nat} {A : Option Addr} {l : List Ls.Lk} (own : w.ownsRow base 62 6 (.slice A l.length c) l.length (cl Ls.Lk.cells l)) (h0 : 0 < l.length) :
    ∃ (g : Nat) (cur : Array Value), A = some ⟨g, 0, none⟩ ∧ base ≤ g ∧ w.heap[g]? = some (.cells cur 62 (0, 0)) ∧ l.length ≤ c ∧ c ≤ maxLen ∧ cur.size = c * 6 ∧ cur.toList.take (l.length * 6) = cl Ls.Lk.cells l := by
  rcases own.2 with ⟨_, h1⟩ | ⟨g, cap, cur, hv, hb, hg, hn, hm, hs, ht⟩
  · omega
  · injection hv with e1 e2 e3
    subst e1; subst e3
    exact ⟨g, cur, rfl, hb, hg, hn, hm, hs, ht⟩
/-- the cells behind the two copies -/
theorem ins_cells (l : List Ls.Lk) (a : Ls.Lk) (i : Nat) (cur : List Value) (hi : i ≤ l.length) (h : cur.take (i * 6) = cl Ls.Lk.cells (l.take i)) (hs : (l.length + 1) * 6 ≤ cur.length) :
    ∀ c1, c1 = cur.take ((i + 1) * 6) ++ cl Ls.Lk.cells (l.drop i) ++ cur.drop ((i + 1) * 6 + (cl Ls.Lk.cells (l.drop i)).length) →
      (c1.take (i * 6) ++ a.cells ++ c1.drop (i * 6 + a.cells.length)).take ((l.length + 1) * 6) = cl Ls.Lk.cells (l.take i ++ a :: l.drop i) ∧ c1.length = cur.length ∧ (c1.take (i * 6) ++ a.cells ++ c1.drop (i * 6 + a.cells.length)).length = cur.length := by
  rintro c1 rfl
  have e2 : (cl Ls.Lk.cells (l.drop i)).length = (l.length - i) * 6 := by rw [cl_len encL, List.length_drop]
  have ea : a.cells.length = 6 := rfl
  have e0 : (cur.take ((i + 1) * 6)).length = (i + 1) * 6 := by rw [List.length_take]; omega
  have e1 : (cur.take ((i + 1) * 6) ++ cl Ls.Lk.cells (l.drop i) ++ cur.drop ((i + 1) * 6 + (cl Ls.Lk.cells (l.drop i)).length)).take (i * 6) = cl Ls.Lk.cells (l.take i) := by
    rw [List.append_assoc, List.take_append_of_le_length (by omega), List.take_take, ← h]
    congr 1
    omega
  have e3 : (cur.take ((i + 1) * 6) ++ cl Ls.Lk.cells (l.drop i) ++ cur.drop ((i + 1) * 6 + (cl Ls.Lk.cells (l.drop i)).length)).drop (i * 6 + a.cells.length) = cl Ls.Lk.cells (l.drop i) ++ cur.drop ((i + 1) * 6 + (cl Ls.Lk.cells (l.drop i)).length) := by
    rw [ea, show i * 6 + 6 = (cur.take ((i + 1) * 6)).length by omega, List.append_assoc, List.drop_left]
  have e4 : (cl Ls.Lk.cells (l.take i)).length = i * 6 := by rw [cl_len encL, List.length_take, Nat.min_eq_left hi]
  refine ⟨?_, ?_, ?_⟩
  · rw [e1, e3, cl_append, cl_cons, ← List.append_assoc, List.take_append_of_le_length (by simp only [List.length_append, e2, e4, ea]; omega), List.take_of_length_le (by simp only [List.length_append, e2, e4, ea]; omega), List.append_assoc]
  · simp only [List.length_append, List.length_drop, e0, e2]; omega
  · rw [e1, e3]; simp only [List.length_append, List.length_drop, e2, e4, ea]; omega
theorem grow_cells (l : List Ls.Lk) (a : Ls.Lk) (i : Nat) (row : List Value) (hi : i ≤ l.length) (h : row.take (i * 6) = cl Ls.Lk.cells (l.take i)) (hs : (l.length + 1) * 6 ≤ row.length) :
    ∀ c1, c1 = row.take (i * 6) ++ a.cells ++ row.drop (i * 6 + a.cells.length) → c1.length = row.length ∧
      (c1.take ((i + 1) * 6) ++ cl Ls.Lk.cells (l.drop i) ++ c1.drop ((i + 1) * 6 + (cl Ls.Lk.cells (l.drop i)).length)).take ((l.length + 1) * 6) = cl Ls.Lk.cells (l.take i ++ a :: l.drop i) ∧
      (c1.take ((i + 1) * 6) ++ cl Ls.Lk.cells (l.drop i) ++ c1.drop ((i + 1) * 6 + (cl Ls.Lk.cells (l.drop i)).length)).length = row.length := by
  rintro c1 hc1
  have e2 : (cl Ls.Lk.cells (l.drop i)).length = (l.length - i) * 6 := by rw [cl_len encL, List.length_drop]
  have ea : a.cells.length = 6 := rfl
  have e4 : (cl Ls.Lk.cells (l.take i)).length = i * 6 := by rw [cl_len encL, List.length_take, Nat.min_eq_left hi]
  have h1 : c1.length = row.length := by
    rw [hc1]
    simp only [List.length_append, List.length_drop, List.length_take, ea]
    omega
  have h2 : c1.take ((i + 1) * 6) = cl Ls.Lk.cells (l.take i) ++ a.cells := by
    have : (cl Ls.Lk.cells (l.take i) ++ a.cells).length = (i + 1) * 6 := by rw [List.length_append, e4, ea]; omega
    rw [hc1, h, List.take_append_of_le_length (by omega), List.take_of_length_le (by omega)]
  refine ⟨h1, ?_, ?_⟩
  · rw [h2, List.take_append_of_le_length (by simp only [List.length_append, e2, e4, ea]; omega), List.take_of_length_le (by simp only [List.length_append, e2, e4, ea]; omega), List.append_assoc, cl_append, cl_cons]
  · rw [h2]; simp only [List.length_append, List.length_drop, e2, e4, ea, h1]; omega
set_option maxHeartbeats 4000000 in
set_option maxRecDepth 100000 in
theorem insert_end (base : Nat) (A : Option Addr) (c : Nat) (l : List Ls.Lk) (a : Ls.Lk) (vb : Nat) (w : World) (own : w.ownsRow base 62 6 (.slice A l.length c) l.length (cl Ls.Lk.cells l))
    (hv : RL w.heap.size w (some ⟨vb, 0, none⟩) 1 [a]) (hl : l.length ≤ 65536) (hbase : base ≤ w.heap.size) :
    Calls Tryz.prog 68 #[.slice A l.length c, .int .i64 l.length, .slice (some ⟨vb, 0, none⟩) 1 1] w (InsP base (l ++ [a]) (.slice A l.length c) w) := by
  have HO := Lib.hid own
  have HV := Lib.hid hv
  have hle := (RX.of_own own).1
  have hmx : c ≤ 9223372036854775807 := by
    rcases own.2 with ⟨h1, _⟩ | ⟨g, cap, cur, h1, _, _, _, h2, _⟩
    · injection h1 with _ _ h3; omega
    · injection h1 with _ _ h3; unfold maxLen at h2; omega
  obtain ⟨n, HN⟩ : ∃ n, Hid (l.length = n) := ⟨_, rfl⟩
  have hC : Hid (∀ (s x : Operand) (ops : Array Oper) (rest : List Oper) (o : Oper) (a' : Act) (Q : Exit → Act → World → Prop), True) := fun _ _ _ _ _ _ _ => trivial
  clear own hv hC
  by_cases hc : c = l.length
  all_goals
    go_enter Tryz.func68, Tryz.ntmps68
    go_wp2_with (at_builtin; (refine wpList_applL _ rfl (.tmp 23) (.tmp 24) base A c rfl l (by simp [Act.eval]) HO.out (some ⟨vb, 0, none⟩) 1 1 [a] rfl (by simp [Act.eval]) HV.out (by omega) hbase ?_; intro A6 c6 w6 HO6 HB6 HG6))
    go_wp2
    go_ret
    exact ⟨A6, c6, by rw [List.length_append]; rfl, HO6.out, HG6.out⟩
theorem over_false (w : World) (vb g o lb cb : Nat) (v0 v1 v2 v3 v4 v5 : Value) (cur : Array Value) (hne : vb ≠ g) (hv : w.heap[vb]? = some (.cells #[v0, v1, v2, v3, v4, v5] 62 (0, 0))) (hg : w.heap[g]? = some (.cells cur 62 (0, 0))) (hs : cur.size ≠ 0) :
    (callFunc 87 #[.slice (some ⟨vb, 0, none⟩) 1 1, .slice (some ⟨g, o, none⟩) lb cb]).run Tryz.prog w = .ok (.value (.bool false)) w := by
  rw [run_callFunc_extern Tryz.func87 (by kernel_rfl) (by kernel_rfl) (by kernel_rfl) (e := Extern.SlicesOverlaps.overlaps #[22, 22] #[4]) (by kernel_rfl),
    Lib.run_overlaps_apart w 22 4 62 Tryz.underlying22 6 (fun w => by
      obtain ⟨i0, hi0, hz0, hz1, hz2⟩ := info_parts infoL
      simp [sizeOf, typeInfo, hi0, hz1]) ⟨vb, 0, none⟩ ⟨g, o, none⟩ 1 1 lb cb hne 62 62 6 cur.size (by simp [World.shape?, hv]) (by simp [World.shape?, hg]) hs
      (Go.Joins.unfrozen_of_block hv 0) (Go.Joins.unfrozen_of_block hv 6)]
  rfl
set_option maxHeartbeats 4000000 in
set_option maxRecDepth 100000 in
theorem insert_room (base : Nat) (A : Option Addr) (c : Nat) (l : List Ls.Lk) (i : Nat) (a : Ls.Lk) (vb : Nat) (w : World) (own : w.ownsRow base 62 6 (.slice A l.length c) l.length (cl Ls.Lk.cells l))
    (hi : i < l.length) (hroom : l.length + 1 ≤ c) (hv : w.heap[vb]? = some (.cells a.cells.toArray 62 (0, 0))) (hne : (Value.slice A l.length c).ownBlock ≠ some vb) (hl : l.length ≤ 65536) :
    Calls Tryz.prog 68 #[.slice A l.length c, .int .i64 i, .slice (some ⟨vb, 0, none⟩) 1 1] w (InsP base (l.take i ++ a :: l.drop i) (.slice A l.length c) w) := by
  obtain ⟨g, cur, rfl, hbg, hg, hle, hcm, hsz, htk⟩ := own_blk own (by omega)
  have hgv : g ≠ vb := fun e => hne (by rw [e]; rfl)
  unfold maxLen at hcm
  obtain ⟨n, HN⟩ : ∃ n, Hid (l.length = n) := ⟨_, rfl⟩
  have HG := Lib.hid hg
  have HV := Lib.hid hv
  have HT := Lib.hid htk
  have HS := Lib.hid hsz
  have hgl := lt_of_some hg
  have hvl := lt_of_some hv
  have hov : ∀ lb cb, (callFunc 87 #[.slice (some ⟨vb, 0, none⟩) 1 1, .slice (some ⟨g, (i + 1) * 6, none⟩) lb cb]).run Tryz.prog w = .ok (.value (.bool false)) w :=
    fun lb cb => over_false w vb g ((i + 1) * 6) lb cb _ _ _ _ _ _ cur (Ne.symm hgv) hv hg (by omega)
  rw [HN.out] at hi hroom hle hl ⊢
  have hHL : Hid ((l.take i ++ a :: l.drop i).length = n + 1) := by show _ = _; rw [List.length_append, List.length_cons, List.length_take, List.length_drop, HN.out]; omega
  have f1 : IntKind.i64.wrap ((n : Int) + 1) = (n : Int) + 1 := IntWalk.i64_in _ (by omega)
  have f2 : IntKind.i64.wrap ((i : Int) + 1) = (i : Int) + 1 := IntWalk.i64_in _ (by omega)
  have f3 : ((n : Int) + 1).toNat = n + 1 := by omega
  have f4 : ((i : Int) + 1).toNat = i + 1 := by omega
  have f5 : ¬ c = i := by omega
  have f6 : ¬ c = i + 1 := by omega
  have f7 : (0 : Int) ≤ (i : Int) + 1 := by omega
  have f8 : (0 : Int) ≤ (n : Int) + 1 := by omega
  have f9 : (n : Int) + 1 ≤ (c : Int) := by omega
  have f10 : (i : Int) + 1 ≤ (n : Int) + 1 := by omega
  have f11 : (i : Int) ≤ (n : Int) + 1 := by omega
  have f12 : decide (i = n) = false := by simp; omega
  clear own hne hg hv htk hsz
  go_enter Tryz.func68, Tryz.ntmps68
  go_wp2_with (simp only [hov])
  refine wp_region_over_tail 8 (by kernel_rfl) (by kernel_rfl) ?_
  simp only [List.take_succ_cons, List.take_zero, List.drop_succ_cons, List.drop_zero]
  repeat (go_big_quiet_step (fail))
  refine wpQuiet_nil ?_
  rintro _ ⟨xx, rfl⟩
  have hbx := Lib.hid (over_below _ xx)
  generalize over _ xx = wx at hbx ⊢
  obtain ⟨m, hm⟩ : ∃ m, n - i = m := ⟨_, rfl⟩
  have hm1 : n + 1 - i = m + 1 := by omega
  have hnm : n = i + m := by omega
  have hgx := (hbx.out.block g hgl).trans HG.out
  have hvx := (hbx.out.block vb hvl).trans HV.out
  have hlen : (cl Ls.Lk.cells (l.drop i)).length = m * 6 := by rw [cl_len encL, List.length_drop, HN.out, hm]
  have hcur : cur.size = c * 6 := HS.out
  have htk1 : cur.toList.take (i * 6) = cl Ls.Lk.cells (l.take i) := by
    rw [← cl_take encL, ← HT.out, List.take_take]
    congr 1
    rw [HN.out]; omega
  have hdr : cl Ls.Lk.cells (l.drop i) = (cur.toList.take (n * 6)).drop (i * 6) := by rw [← cl_drop encL, ← HT.out, HN.out]
  obtain ⟨c1, hc1⟩ : ∃ c1, c1 = cur.toList.take ((i + 1) * 6) ++ cl Ls.Lk.cells (l.drop i) ++ cur.toList.drop ((i + 1) * 6 + (cl Ls.Lk.cells (l.drop i)).length) := ⟨_, rfl⟩
  obtain ⟨i1, i2, i3⟩ := ins_cells l a i cur.toList (by rw [HN.out]; omega) htk1 (by simp [hcur, HN.out]; omega) c1 hc1
  rw [HN.out] at i1
  have hrun : ∀ ty dc sc, (Builtin.copy_ #[22, 22] ty #[.slice (some ⟨g, (i + 1) * 6, none⟩) m dc, .slice (some ⟨g, i * 6, none⟩) (m + 1) sc]).run Tryz.prog wx = .ok (goInt m) (wx.setRow g c1.toArray) := by
    intro ty dc sc
    have := run_copyN (P := Tryz.prog) wx 22 22 ty 62 6 g ((i + 1) * 6) m dc (some ⟨g, i * 6, none⟩) (m + 1) sc cur 62 (cl Ls.Lk.cells (l.drop i)) Tryz.underlying22 (by kernel_rfl) hgx
      (by rw [hlen]; congr 1; exact (Nat.min_eq_right (by omega)).symm)
      (fun _ => ⟨_, rfl, fun j v' hj => ?_⟩) (fun h0 => by rw [hlen] at h0; rw [show m = 0 by omega]; exact Nat.min_zero _) (by rw [hlen, hcur]; omega) (cl_one encL _)
    · rw [this, show Nat.min (m + 1) m = m from Nat.min_eq_right (by omega), hc1]
    · have hcell := Go.Joins.cell_of_block hgx
      have hj2 := (List.getElem?_eq_some_iff.1 hj).1
      rw [hlen] at hj2
      rw [Go.WideShapes.add_plain, hcell, ← hj, hdr, List.getElem?_drop, List.getElem?_take_of_lt (by omega)]
      simp
  have h2 : Hid ((wx.setRow g c1.toArray).heap[g]? = some (.cells c1.toArray 62 (0, 0))) := setRow_heap _ _ _ _ _ _ hgx
  have h2v : Hid ((wx.setRow g c1.toArray).heap[vb]? = some (.cells a.cells.toArray 62 (0, 0))) := (setRow_other _ _ _ _ (Ne.symm hgv)).trans hvx
  have h2G : Hid (w.grownBy (wx.setRow g c1.toArray) (some g)) :=
    ⟨hbx.out.os, hbx.out.tape, hbx.out.output, by have := hbx.out.size; simp [World.setRow]; omega, fun k hk hne => (setRow_other _ _ _ _ (fun e => hne (by rw [e]))).trans (hbx.out.block k hk)⟩
  obtain ⟨W2, hW2⟩ : ∃ W2, wx.setRow g c1.toArray = W2 := ⟨_, rfl⟩
  rw [hW2] at h2 h2v h2G
  simp only [hW2] at hrun
  have hrun2 : ∀ ty dc, (Builtin.copy_ #[22, 22] ty #[.slice (some ⟨g, i * 6, none⟩) (m + 1) dc, .slice (some ⟨vb, 0, none⟩) 1 1]).run Tryz.prog W2 = .ok (goInt 1) (W2.setRow g (c1.take (i * 6) ++ a.cells ++ c1.drop (i * 6 + a.cells.length)).toArray) := by
    intro ty dc
    have := run_copyN (P := Tryz.prog) W2 22 22 ty 62 6 g (i * 6) (m + 1) dc (some ⟨vb, 0, none⟩) 1 1 c1.toArray 62 a.cells Tryz.underlying22 (by kernel_rfl) h2.out
      (by rw [show Nat.min 1 (m + 1) = 1 from Nat.min_eq_left (by omega)]; rfl)
      (fun _ => ⟨_, rfl, fun j v' hj => ?_⟩) (fun h0 => absurd h0 (by simp [Ls.Lk.cells])) (by rw [show a.cells.length = 6 from rfl]; simp [i2, hcur]; omega) (encL.one a)
    · rw [this, show Nat.min 1 (m + 1) = 1 from Nat.min_eq_left (by omega)]; rfl
    · have hcell := Go.Joins.cell_of_block h2v.out
      rw [Go.WideShapes.add_plain, hcell, ← hj]
      simp
  have hR : Hid (InsP base (l.take i ++ a :: l.drop i) (.slice (some ⟨g, 0, none⟩) n c) w (.returned (.slice (some ⟨g, 0, none⟩) (n + 1) c)) (W2.setRow g (c1.take (i * 6) ++ a.cells ++ c1.drop (i * 6 + a.cells.length)).toArray)) := by
    refine ⟨some ⟨g, 0, none⟩, c, by rw [hHL.out], ?_, ?_⟩
    · rw [hHL.out]
      refine ⟨by rw [cl_len encL, hHL.out], .inr ⟨g, c, _, rfl, hbg, setRow_heap _ _ _ _ _ _ h2.out, by omega, by unfold maxLen; omega, ?_, ?_⟩⟩
      · simpa [hcur] using i3
      · simpa using i1
    · have h3 := h2G.out
      exact ⟨h3.os, h3.tape, h3.output, by have := h3.size; simp [World.setRow]; omega, fun k hk hne => (setRow_other _ _ _ _ (fun e => hne (by rw [e]; rfl))).trans (h3.block k hk (fun e => hne (by rw [e]; rfl)))⟩
  generalize (c1.take (i * 6) ++ a.cells ++ c1.drop (i * 6 + a.cells.length)).toArray = C2 at hrun2 hR
  simp only [hm, hm1]
  clear htk1 hdr hc1 i1 i2 i3 hlen hcur hgx hvx h2 h2v h2G hW2 hov hnm hm
  refine wpList_copy_eq wx rfl (.tmp 73) (.tmp 76) 22 22 rfl _ _ rfl rfl (hrun _ _ _) ?_
  have f13 : n + 1 - i = m + 1 := hm1
  go_wp2_with (((refine wpList_copy_eq W2 rfl (.tmp 80) (.tmp 81) 22 22 rfl _ _ rfl rfl (hrun2 _ _) ?_)))
  trace_state
  go_wp2
  go_ret
  exact hR.out
set_option maxHeartbeats 4000000 in
set_option maxRecDepth 100000 in
theorem insert_grow (base : Nat) (A : Option Addr) (c : Nat) (l : List Ls.Lk) (i : Nat) (a : Ls.Lk) (vb : Nat) (w : World) (own : w.ownsRow base 62 6 (.slice A l.length c) l.length (cl Ls.Lk.cells l))
    (hi : i < l.length) (hroom : c < l.length + 1) (hv : w.heap[vb]? = some (.cells a.cells.toArray 62 (0, 0))) (hl : l.length ≤ 65536) (hbase : base ≤ w.heap.size) :
    Calls Tryz.prog 68 #[.slice A l.length c, .int .i64 i, .slice (some ⟨vb, 0, none⟩) 1 1] w (InsP base (l.take i ++ a :: l.drop i) (.slice A l.length c) w) := by
  obtain ⟨g, cur, rfl, hbg, hg, hle, hcm, hsz, htk⟩ := own_blk own (by omega)
  unfold maxLen at hcm
  obtain ⟨n, HN⟩ : ∃ n, Hid (l.length = n) := ⟨_, rfl⟩
  have hgl := lt_of_some hg
  have hvl := lt_of_some hv
  rw [HN.out] at hi hroom hle hl htk ⊢
  have hHL : Hid ((l.take i ++ a :: l.drop i).length = n + 1) := by show _ = _; rw [List.length_append, List.length_cons, List.length_take, List.length_drop, HN.out]; omega
  obtain ⟨i0, hi0, hz0, hzs, hzb⟩ := info_parts infoL
  have hgc := Go.Joins.cell_of_block hg
  have hcurl : cur.toList.length = c * 6 := by simpa using hsz
  have htk1 : cur.toList.take (i * 6) = cl Ls.Lk.cells (l.take i) := by
    rw [← cl_take encL, ← htk, List.take_take]
    congr 1
    omega
  have e4 : (cl Ls.Lk.cells (l.take i)).length = i * 6 := by rw [cl_len encL, List.length_take, HN.out, Nat.min_eq_left (by omega)]
  have hold : (Builtin.firstCells i0.size i (.slice (some ⟨g, 0, none⟩) i c)).run Tryz.prog w.drew = .ok (cl Ls.Lk.cells (l.take i)).toArray w.drew := by
    rw [hzs]
    refine run_firstCells_some w.drew 6 i ⟨g, 0, none⟩ i c (cl Ls.Lk.cells (l.take i)) e4 (fun j v' hj => ?_)
    have hj2 := (List.getElem?_eq_some_iff.1 hj).1
    have hcell : w.drew.cell? ⟨g, 0 + j, none⟩ = cur[0 + j]? := hgc (0 + j)
    rw [Go.WideShapes.add_plain, hcell, ← hj, ← htk1, List.getElem?_take_of_lt (by omega)]
    simp
  have hik : i + (n + 1 - i) = n + 1 := by omega
  have hrz := Lib.run_append_grow_zeros (P := Tryz.prog) w 22 3 22 62 i0 _ .i64 .i64 Tryz.underlying22 Tryz.underlying3 hi0 hz0 (some ⟨g, 0, none⟩) i c (cl Ls.Lk.cells (l.take i)) hold (n + 1 - i) (by omega) (by omega) (by omega) (by omega) (by rw [hzb]; omega) (by rw [hzb, hik]; exact growslice_fits hroom (by omega))
  rw [hik] at hrz
  obtain ⟨G, hG⟩ : ∃ G, grownCap w (n + 1) c 62 = G := ⟨_, rfl⟩
  rw [hG] at hrz
  have hGn : n + 1 ≤ G := by rw [← hG]; exact grownCap_ge w _ _ _
  have hG63 : G ≤ maxLen := by rw [← hG]; exact grownCap_le_maxLen w (n + 1) c 62 (by unfold maxLen; omega)
  obtain ⟨ROW, hROW⟩ : ∃ ROW : Array Value, (cl Ls.Lk.cells (l.take i)).toArray ++ Builtin.zeroCells (Value.agg #[.int .i64 0, .int .i64 0, .int .i64 0, .int .i64 0, .int .i64 0, .int .i64 0]).cells (n + 1 - i) ++ Builtin.zeroCells (Value.agg #[.int .i64 0, .int .i64 0, .int .i64 0, .int .i64 0, .int .i64 0, .int .i64 0]).cells (G - (n + 1)) = ROW := ⟨_, rfl⟩
  have hRs : ROW.size = G * 6 := by
    rw [← hROW]
    simp only [Array.size_append, List.size_toArray, size_zeroCells, e4, show (Value.agg #[.int .i64 0, .int .i64 0, .int .i64 0, .int .i64 0, .int .i64 0, .int .i64 0]).cells.size = 6 from rfl]
    omega
  have hRt : ROW.toList.take (i * 6) = cl Ls.Lk.cells (l.take i) := by
    rw [← hROW]
    simp only [Array.toList_append, List.append_assoc]
    rw [List.take_append_of_le_length (by omega), List.take_of_length_le (by omega)]
  rw [hROW] at hrz
  obtain ⟨W1, hW1⟩ : ∃ W1, w.drew.alloc (.cells ROW 62) = W1 := ⟨_, rfl⟩
  rw [hW1] at hrz
  have h1 : W1.heap[w.heap.size]? = some (.cells ROW 62 (0, 0)) := by rw [← hW1]; exact heap_alloc_new w.drew _
  have hB1 : Below w.heap.size w W1 := by rw [← hW1]; exact (below_drewN w 1).trans (below_new w.drew _)
  obtain ⟨c1, hc1⟩ : ∃ c1, c1 = ROW.toList.take (i * 6) ++ a.cells ++ ROW.toList.drop (i * 6 + a.cells.length) := ⟨_, rfl⟩
  obtain ⟨i1, i2, i3⟩ := grow_cells l a i ROW.toList (by rw [HN.out]; omega) hRt (by simp [hRs, HN.out]; omega) c1 hc1
  rw [HN.out] at i2
  have hv1 := (hB1.block vb hvl).trans hv
  have hg1 := (hB1.block g hgl).trans hg
  obtain ⟨m, hm⟩ : ∃ m, n - i = m := ⟨_, rfl⟩
  have hm1 : n + 1 - i = m + 1 := by omega
  have hlen : (cl Ls.Lk.cells (l.drop i)).length = m * 6 := by rw [cl_len encL, List.length_drop, HN.out, hm]
  have hdr : cl Ls.Lk.cells (l.drop i) = (cur.toList.take (n * 6)).drop (i * 6) := by rw [← cl_drop encL, ← htk]
  obtain ⟨W2, hW2⟩ : ∃ W2, W1.setRow w.heap.size c1.toArray = W2 := ⟨_, rfl⟩
  have hrunA : ∀ ty dc, (Builtin.copy_ #[22, 22] ty #[.slice (some ⟨w.heap.size, i * 6, none⟩) (m + 1) dc, .slice (some ⟨vb, 0, none⟩) 1 1]).run Tryz.prog W1 = .ok (goInt 1) W2 := by
    intro ty dc
    have := run_copyN (P := Tryz.prog) W1 22 22 ty 62 6 w.heap.size (i * 6) (m + 1) dc (some ⟨vb, 0, none⟩) 1 1 ROW 62 a.cells Tryz.underlying22 (by kernel_rfl) h1
      (by rw [show Nat.min 1 (m + 1) = 1 from Nat.min_eq_left (by omega)]; rfl)
      (fun _ => ⟨_, rfl, fun j v' hj => ?_⟩) (fun h0 => absurd h0 (by simp [Ls.Lk.cells])) (by rw [show a.cells.length = 6 from rfl, hRs]; omega) (encL.one a)
    · rw [this, show Nat.min 1 (m + 1) = 1 from Nat.min_eq_left (by omega), ← hW2, hc1]; rfl
    · have hcell := Go.Joins.cell_of_block hv1
      rw [Go.WideShapes.add_plain, hcell, ← hj]
      simp
  have h2 : W2.heap[w.heap.size]? = some (.cells c1.toArray 62 (0, 0)) := by rw [← hW2]; exact setRow_heap _ _ _ _ _ _ h1
  have hB2 : Below w.heap.size w W2 := by rw [← hW2]; exact hB1.trans ⟨rfl, rfl, rfl, by simp [World.setRow], fun k hk => setRow_other _ _ _ _ (by omega)⟩
  have hrunB : Hid (∀ (W : World), Below W2.heap.size W2 W → ∀ ty dc sc, (Builtin.copy_ #[22, 22] ty #[.slice (some ⟨w.heap.size, (i + 1) * 6, none⟩) m dc, .slice (some ⟨g, i * 6, none⟩) m sc]).run Tryz.prog W = .ok (goInt m) (W.setRow w.heap.size (c1.take ((i + 1) * 6) ++ cl Ls.Lk.cells (l.drop i) ++ c1.drop ((i + 1) * 6 + (cl Ls.Lk.cells (l.drop i)).length)).toArray)) := by
    intro W hB ty dc sc
    have hg2 := (hB.block g (by have := hB2.size; omega)).trans ((hB2.block g hgl).trans hg)
    have := run_copyN (P := Tryz.prog) W 22 22 ty 62 6 w.heap.size ((i + 1) * 6) m dc (some ⟨g, i * 6, none⟩) m sc c1.toArray 62 (cl Ls.Lk.cells (l.drop i)) Tryz.underlying22 (by kernel_rfl) ((hB.block _ (lt_of_some h2)).trans h2)
      (by rw [hlen]; congr 1; exact (Nat.min_self _).symm)
      (fun _ => ⟨_, rfl, fun j v' hj => ?_⟩) (fun h0 => by rw [hlen] at h0; rw [show m = 0 by omega]; exact Nat.min_zero _) (by rw [hlen]; simp [i1, hRs]; omega) (cl_one encL _)
    · rw [this, show Nat.min m m = m from Nat.min_self _]
    · have hcell := Go.Joins.cell_of_block hg2
      have hj2 := (List.getElem?_eq_some_iff.1 hj).1
      rw [hlen] at hj2
      rw [Go.WideShapes.add_plain, hcell, ← hj, hdr, List.getElem?_drop, List.getElem?_take_of_lt (by omega)]
      simp
  have hR : Hid (∀ W, Below W2.heap.size W2 W → InsP base (l.take i ++ a :: l.drop i) (.slice (some ⟨g, 0, none⟩) n c) w (.returned (.slice (some ⟨w.heap.size, 0, none⟩) (n + 1) G)) (W.setRow w.heap.size (c1.take ((i + 1) * 6) ++ cl Ls.Lk.cells (l.drop i) ++ c1.drop ((i + 1) * 6 + (cl Ls.Lk.cells (l.drop i)).length)).toArray)) := by
    intro W hB
    refine ⟨some ⟨w.heap.size, 0, none⟩, G, by rw [hHL.out], ?_, ?_⟩
    · rw [hHL.out]
      refine ⟨by rw [cl_len encL, hHL.out], .inr ⟨w.heap.size, G, _, rfl, hbase, setRow_heap _ _ _ _ _ _ ((hB.block _ (lt_of_some h2)).trans h2), hGn, hG63, ?_, ?_⟩⟩
      · simpa [hRs] using i3
      · simpa using i2
    · have h3 := hB2.trans (hB.mono hB2.size)
      exact ⟨h3.os, h3.tape, h3.output, by have := h3.size; simp [World.setRow]; omega, fun k hk hne => (setRow_other _ _ _ _ (by omega)).trans (h3.block k hk)⟩
  generalize (c1.take ((i + 1) * 6) ++ cl Ls.Lk.cells (l.drop i) ++ c1.drop ((i + 1) * 6 + (cl Ls.Lk.cells (l.drop i)).length)).toArray = C2 at hrunB hR
  have HBW := Lib.hid hB2
  have hWW := Lib.hid (lt_of_some h2)
  unfold maxLen at hG63
  have hrz2 : ∀ ty, (Builtin.append_ #[22, 3] ty #[.slice (some ⟨g, 0, none⟩) i c, .int .i64 ((n : Int) + 1 - (i : Int))]).run Tryz.prog w = .ok (.slice (some ⟨w.heap.size, 0, none⟩) (n + 1) G) W1 := by
    intro ty
    have e : (n : Int) + 1 - (i : Int) = ((n + 1 - i : Nat) : Int) := by omega
    rw [e]
    exact hrz
  have f1 : IntKind.i64.wrap ((n : Int) + 1) = (n : Int) + 1 := IntWalk.i64_in _ (by omega)
  have f2 : IntKind.i64.wrap ((i : Int) + 1) = (i : Int) + 1 := IntWalk.i64_in _ (by omega)
  have f3 : IntKind.i64.wrap ((n : Int) + 1 - (i : Int)) = (n : Int) + 1 - (i : Int) := IntWalk.i64_in _ (by omega)
  have f4 : ((i : Int) + 1).toNat = i + 1 := by omega
  have f5 : ¬ c = i := by omega
  have f6 : ¬ G = i + 1 := by omega
  have f6' : ¬ G = i := by omega
  have f7 : (0 : Int) ≤ (i : Int) + 1 := by omega
  have f10 : (i : Int) + 1 ≤ (n : Int) + 1 := by omega
  have f11 : (i : Int) ≤ (n : Int) + 1 := by omega
  have f12 : decide (i = n) = false := by simp; omega
  have f13 : (i : Int) ≤ (c : Int) := by omega
  have f14 : n + 1 - (i + 1) = m := by omega
  have f15 : (n : Int) + 1 ≤ (G : Int) := by omega
  have f16 : (i : Int) ≤ (n : Int) := by omega
  have f17 : (n : Int) ≤ (c : Int) := by omega
  clear own hg hv htk hsz htk1 hold hrz hROW hRs hRt hW1 h1 hB1 hc1 i1 i2 i3 hv1 hg1 hlen hdr hW2 h2 hB2 hG hik e4 hcurl hgc hi0 hz0 hzs hzb
  go_enter Tryz.func68, Tryz.ntmps68
  go_wp2_with (first
    | (at_builtin; refine Lib.wpList_append_run _ rfl _ _ _ _ rfl _ _ rfl rfl _ _ (hrz2 _) ?_)
    | (refine wpList_copy_eq W1 rfl (.tmp 43) (.tmp 44) 22 22 rfl _ _ rfl rfl (hrunA _ _) ?_))
  clear hrz2 hrunA
  go_wp2
  simp only [Act.put, goInt, List.setIfInBounds_toArray, List.set_cons_succ, List.set_cons_zero]
  refine wp_region_over_tail 8 (by kernel_rfl) (by kernel_rfl) ?_
  simp only [List.take_succ_cons, List.take_zero, List.drop_succ_cons, List.drop_zero]
  repeat (go_big_quiet_step (fail))
  refine wpQuiet_nil ?_
  rintro _ ⟨xx, rfl⟩
  have hbx := Lib.hid (over_below _ xx)
  generalize over _ xx = wx at hbx ⊢
  have HB3 := Lib.hid (hrunB.out wx hbx.out)
  have HR3 := Lib.hid (hR.out wx hbx.out)
  try simp only [hm, f14]
  refine wpList_copy_eq wx rfl (.tmp 50) (.tmp 53) 22 22 rfl _ _ rfl rfl (HB3.out _ _ _) ?_
  clear hrunB hR HB3
  go_wp2
  go_ret
  exact HR3.out
/-- one link inserted -/
theorem insert_any (base : Nat) (A : Option Addr) (c : Nat) (l : List Ls.Lk) (i : Nat) (a : Ls.Lk) (vb : Nat) (w : World) (own : w.ownsRow base 62 6 (.slice A l.length c) l.length (cl Ls.Lk.cells l))
    (hi : i ≤ l.length) (hv : w.heap[vb]? = some (.cells a.cells.toArray 62 (0, 0))) (hne : (Value.slice A l.length c).ownBlock ≠ some vb) (hl : l.length ≤ 65536) (hbase : base ≤ w.heap.size) :
    Calls Tryz.prog 68 #[.slice A l.length c, .int .i64 i, .slice (some ⟨vb, 0, none⟩) 1 1] w (InsP base (l.take i ++ a :: l.drop i) (.slice A l.length c) w) := by
  rcases Nat.lt_or_ge i l.length with h | h
  · rcases Nat.lt_or_ge c (l.length + 1) with h2 | h2
    · exact insert_grow base A c l i a vb w own h h2 hv hl hbase
    · exact insert_room base A c l i a vb w own h h2 hv hne hl
  · obtain rfl : i = l.length := by omega
    have hr : RL w.heap.size w (some ⟨vb, 0, none⟩) 1 [a] := by
      refine ⟨Nat.le_refl _, by simp [cl, Ls.Lk.cells], fun _ => ⟨_, rfl, lt_of_some hv, fun j x hx => ?_⟩⟩
      have := Go.Joins.cell_of_block hv j
      rw [Go.WideShapes.add_plain, Nat.zero_add, this]
      simpa [cl] using hx
    have := insert_end base A c l a vb w own hr hl hbase
    rw [List.take_length, List.drop_length]
    exact this
end Go.Proofs.YtfapfkaipdcflaaGreat.K
