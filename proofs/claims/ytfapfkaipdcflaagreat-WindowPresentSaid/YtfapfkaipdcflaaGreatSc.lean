/-
  slices.Insert of one link, in a row of the caller's own that may begin within its block.
-/
import Derived.Test.YtfapfkaipdcflaaGreatSb
import Derived.Lib.Overlaps
import Derived.Lib.AppendZerosOnto
import Derived.Lib.SliceRun
namespace Go.Proofs.YtfapfkaipdcflaaGreat
open Go.RowKit Go.Lib

/-- what Insert answers -/
def InsP (base : Nat) (l : List Ls.Lk) (A : Option Addr) (c : Nat) (w : World) (e : Ending) (w' : World) : Prop :=
  ∃ (A' : Option Addr) (c' : Nat), e = .returned (.slice A' l.length c') ∧ OW base w' A' c' l ∧ w.grownBy w' (bk A c) ∧ Fr w.heap.size (bk A c) (bk A' c')
theorem ow_blk {w : World} {base c : Nat} {A : Option Addr} {l : List Ls.Lk} (own : OW base w A c l) (h0 : 0 < l.length) :
    ∃ (g o : Nat) (cur : Array Value), A = some ⟨g, o, none⟩ ∧ bk A c = some g ∧ base ≤ g ∧ w.heap[g]? = some (.cells cur 62 (0, 0)) ∧ l.length ≤ c ∧ c ≤ maxLen ∧ cur.size = o + c * 6 ∧ (cur.toList.drop o).take (l.length * 6) = cl Ls.Lk.cells l := by
  obtain ⟨h1, h2, h3 | ⟨g, o, cur, hA, hb, hg, hs, ht⟩⟩ := own
  · omega
  · exact ⟨g, o, cur, hA, by rw [hA]; unfold bk; rw [if_neg (by omega)]; rfl, hb, hg, h1, h2, hs, ht⟩
/-- cells put into a row, seen from its beginning -/
theorem put_drop (cur cs : List Value) (o x : Nat) (h : o + x ≤ cur.length) :
    (cur.take (o + x) ++ cs ++ cur.drop (o + x + cs.length)).drop o = (cur.drop o).take x ++ cs ++ (cur.drop o).drop (x + cs.length) := by
  rw [List.append_assoc, List.drop_append_of_le_length (by rw [List.length_take]; omega), List.drop_take, Nat.add_sub_cancel_left, List.drop_drop, List.append_assoc, Nat.add_assoc]
theorem put_len (cur cs : List Value) (x : Nat) (h : x + cs.length ≤ cur.length) : (cur.take x ++ cs ++ cur.drop (x + cs.length)).length = cur.length := by
  simp only [List.length_append, List.length_take, List.length_drop]; omega
/-- the cells behind the two copies -/
theorem ins_cells (l : List Ls.Lk) (a : Ls.Lk) (i : Nat) (cur : List Value) (hi : i ≤ l.length) (h : cur.take (i * 6) = cl Ls.Lk.cells (l.take i)) (hs : (l.length + 1) * 6 ≤ cur.length) :
    ∀ c1, c1 = cur.take ((i + 1) * 6) ++ cl Ls.Lk.cells (l.drop i) ++ cur.drop ((i + 1) * 6 + (cl Ls.Lk.cells (l.drop i)).length) →
      (c1.take (i * 6) ++ a.cells ++ c1.drop (i * 6 + a.cells.length)).take ((l.length + 1) * 6) = cl Ls.Lk.cells (l.take i ++ a :: l.drop i) := by
  rintro c1 rfl
  have e2 : (cl Ls.Lk.cells (l.drop i)).length = (l.length - i) * 6 := by rw [cl_len encL, List.length_drop]
  have ea : a.cells.length = 6 := rfl
  have e0 : (cur.take ((i + 1) * 6)).length = (i + 1) * 6 := by rw [List.length_take]; omega
  have e1 : (cur.take ((i + 1) * 6) ++ cl Ls.Lk.cells (l.drop i) ++ cur.drop ((i + 1) * 6 + (cl Ls.Lk.cells (l.drop i)).length)).take (i * 6) = cl Ls.Lk.cells (l.take i) := by
    rw [List.append_assoc, List.take_append_of_le_length (by omega), List.take_take, ← h]
    congr 1
    omega
  have e3 : (cur.take ((i + 1) * 6) ++ cl Ls.Lk.cells (l.drop i) ++ cur.drop ((i + 1) * 6 + (cl Ls.Lk.cells (l.drop i)).length)).drop (i * 6 + a.cells.length) = cl Ls.Lk.cells (l.drop i) ++ cur.drop ((i + 1) * 6 + (cl Ls.Lk.cells (l.drop i)).length) := by
    rw [ea, show i * 6 + 6 = (cur.take ((i + 1) * 6)).length by omega, List.append_assoc, List.drop_left]
  have e4 : (cl Ls.Lk.cells (l.take i)).length = i * 6 := by rw [cl_len encL, List.length_take, Nat.min_eq_left hi]
  rw [e1, e3, cl_append, cl_cons, ← List.append_assoc, List.take_append_of_le_length (by simp only [List.length_append, e2, e4, ea]; omega), List.take_of_length_le (by simp only [List.length_append, e2, e4, ea]; omega), List.append_assoc]
theorem grow_cells (l : List Ls.Lk) (a : Ls.Lk) (i : Nat) (row : List Value) (hi : i ≤ l.length) (h : row.take (i * 6) = cl Ls.Lk.cells (l.take i)) (hs : (l.length + 1) * 6 ≤ row.length) :
    ∀ c1, c1 = row.take (i * 6) ++ a.cells ++ row.drop (i * 6 + a.cells.length) → c1.length = row.length ∧
      (c1.take ((i + 1) * 6) ++ cl Ls.Lk.cells (l.drop i) ++ c1.drop ((i + 1) * 6 + (cl Ls.Lk.cells (l.drop i)).length)).take ((l.length + 1) * 6) = cl Ls.Lk.cells (l.take i ++ a :: l.drop i) ∧
      (c1.take ((i + 1) * 6) ++ cl Ls.Lk.cells (l.drop i) ++ c1.drop ((i + 1) * 6 + (cl Ls.Lk.cells (l.drop i)).length)).length = row.length := by
  rintro c1 hc1
  have e2 : (cl Ls.Lk.cells (l.drop i)).length = (l.length - i) * 6 := by rw [cl_len encL, List.length_drop]
  have ea : a.cells.length = 6 := rfl
  have e4 : (cl Ls.Lk.cells (l.take i)).length = i * 6 := by rw [cl_len encL, List.length_take, Nat.min_eq_left hi]
  have h1 : c1.length = row.length := by
    rw [hc1]
    simp only [List.length_append, List.length_drop, List.length_take, ea]
    omega
  have h2 : c1.take ((i + 1) * 6) = cl Ls.Lk.cells (l.take i) ++ a.cells := by
    have : (cl Ls.Lk.cells (l.take i) ++ a.cells).length = (i + 1) * 6 := by rw [List.length_append, e4, ea]; omega
    rw [hc1, h, List.take_append_of_le_length (by omega), List.take_of_length_le (by omega)]
  refine ⟨h1, ?_, ?_⟩
  · rw [h2, List.take_append_of_le_length (by simp only [List.length_append, e2, e4, ea]; omega), List.take_of_length_le (by simp only [List.length_append, e2, e4, ea]; omega), List.append_assoc, cl_append, cl_cons]
  · rw [h2]; simp only [List.length_append, List.length_drop, e2, e4, ea, h1]; omega
set_option maxRecDepth 100000 in
/-- an append of one link -/
theorem run_append_ow (base : Nat) (A : Option Addr) (c : Nat) (l : List Ls.Lk) (a : Ls.Lk) (vb : Nat) (w : World) (own : OW base w A c l)
    (hv : w.heap[vb]? = some (.cells a.cells.toArray 62 (0, 0))) (hl : l.length ≤ 65536) (hbase : base ≤ w.heap.size) :
    ∃ A' c' w', (∀ ty, (Builtin.append_ #[22, 22] ty #[.slice A l.length c, .slice (some ⟨vb, 0, none⟩) 1 1]).run Tryz.prog w = .ok (.slice A' (l.length + 1) c') w') ∧
      OW base w' A' c' (l ++ [a]) ∧ w.grownBy w' (bk A c) ∧ Fr w.heap.size (bk A c) (bk A' c') := by
  obtain ⟨i0, hi0, hz0, hzs, hzb⟩ := info_parts infoL
  have hnews : ∀ j u, a.cells[j]? = some u → w.cell? ((⟨vb, 0, none⟩ : Addr).add j) = some u := by
    intro j u hj
    have hcell := Go.Joins.cell_of_block hv
    rw [Go.WideShapes.add_plain, hcell, ← hj]
    simp
  have hln : a.cells.length = 1 * i0.size := by rw [hzs]; rfl
  have hlc : (cl Ls.Lk.cells (l ++ [a])) = cl Ls.Lk.cells l ++ a.cells := by rw [cl_append, cl_cons, cl_nil, List.append_nil]
  have hll : (cl Ls.Lk.cells l).length = l.length * 6 := cl_len encL l
  have hlen : (cl Ls.Lk.cells l ++ a.cells).length = (l.length + 1) * 6 := by rw [← hlc, cl_len encL]; simp
  by_cases hroom : l.length + 1 ≤ c
  · obtain ⟨h1, h2, h3 | ⟨g, o, cur, rfl, hb, hg, hs, ht⟩⟩ := own
    · omega
    · have hfc := run_firstCells_some (P := Tryz.prog) w 6 1 ⟨vb, 0, none⟩ 1 1 a.cells rfl hnews
      have hst := run_storeCells_at Tryz.prog g (o + l.length * 6) 62 a.cells 0 cur w hg (by rw [show a.cells.length = 6 from rfl]; omega) (encL.one a)
      simp only [Nat.add_zero] at hst
      refine ⟨some ⟨g, o, none⟩, c, w.setRow g (cur.toList.take (o + l.length * 6) ++ a.cells ++ cur.toList.drop (o + l.length * 6 + a.cells.length)).toArray, fun ty => ?_, ⟨by simp; omega, h2, .inr ⟨g, o, _, rfl, hb, setRow_heap _ _ _ _ _ _ hg, ?_, ?_⟩⟩, ?_, Fr.refl _ _⟩
      · simp [Builtin.append_, run_underlying Tryz.underlying22, sizeOf, typeInfo, hi0, Builtin.lenOf, hroom, hfc, hzs, Addr.add_lit, hst]
      · have := put_len cur.toList a.cells (o + l.length * 6) (by rw [show a.cells.length = 6 from rfl]; simp; omega)
        simp only [List.size_toArray, this]; simpa using hs
      · simp only []
        rw [put_drop _ _ _ _ (by simp; omega), ht, hlc, List.length_append, List.take_append_of_le_length (by rw [hlen]; simp), List.take_of_length_le (by rw [hlen]; simp)]
      · unfold bk
        rw [if_neg (by omega)]
        exact ⟨rfl, rfl, rfl, by simp, fun k _ hk => setRow_other w g k _ (fun e => hk (by simp [e]))⟩
  · have hcl : c = l.length := by have := own.1; omega
    have hge := grownCap_ge w (l.length + 1) c 62
    have hcm : grownCap w (l.length + 1) c 62 ≤ maxLen := grownCap_le_maxLen w (l.length + 1) c 62 (by unfold maxLen; omega)
    have fin : ∀ G, l.length + 1 ≤ G → G ≤ maxLen → ∀ cs : Array Value, cs = (cl Ls.Lk.cells l).toArray ++ a.cells.toArray ++ Builtin.zeroCells (Value.agg #[.int .i64 0, .int .i64 0, .int .i64 0, .int .i64 0, .int .i64 0, .int .i64 0]).cells (G - (l.length + 1)) →
        OW base (w.drew.alloc (.cells cs 62)) (some ⟨w.heap.size, 0, none⟩) G (l ++ [a]) ∧ w.grownBy (w.drew.alloc (.cells cs 62)) (bk A c) ∧ Fr w.heap.size (bk A c) (bk (some ⟨w.heap.size, 0, none⟩) G) := by
      rintro G hG1 hG2 cs rfl
      refine ⟨⟨by simp; omega, hG2, .inr ⟨w.heap.size, 0, _, rfl, hbase, heap_alloc_new w.drew _, ?_, ?_⟩⟩, ⟨rfl, rfl, rfl, by simp, fun k hk _ => heap_alloc_old w.drew _ hk⟩, ?_⟩
      · simp only [Array.size_append, List.size_toArray, size_zeroCells, hll, show a.cells.length = 6 from rfl, show (Value.agg #[.int .i64 0, .int .i64 0, .int .i64 0, .int .i64 0, .int .i64 0, .int .i64 0]).cells.size = 6 from rfl]
        omega
      · simp only [Array.toList_append, List.drop_zero, hlc, List.length_append, List.length_cons, List.length_nil]
        rw [← hlen, List.append_assoc, List.length_append, ← List.length_append, ← List.append_assoc]
        exact List.take_left
      · intro k hk
        unfold bk at hk
        rw [if_neg (by omega)] at hk
        simp at hk
        exact .inr (by omega)
    rcases A with _ | b
    · have h0 : l = [] := by
        obtain ⟨h1, h2, h3 | ⟨g, o, cur, hA, _⟩⟩ := own
        · exact List.eq_nil_of_length_eq_zero (by omega)
        · cases hA
      subst h0
      simp at hcl
      subst hcl
      have hr := fun ty => run_append_nil (P := Tryz.prog) w 22 ty 62 i0 _ Tryz.underlying22 hi0 hz0 ⟨vb, 0, none⟩ 1 1 a.cells hln hnews (by omega) (by omega) (by rw [hzb]; omega)
      obtain ⟨f1, f2, f3⟩ := fin (grownCap w 1 0 62) (by simpa using hge) (by simpa using hcm) _ rfl
      exact ⟨_, _, _, fun ty => by simpa [cl] using hr ty, by simpa [cl] using f1, by simpa [cl] using f2, f3⟩
    · have holds : ∀ j u, (cl Ls.Lk.cells l)[j]? = some u → w.cell? (b.add j) = some u := by
        intro j u hj
        have h0 : 0 < l.length := by
          have := (List.getElem?_eq_some_iff.1 hj).1
          omega
        obtain ⟨ad, e, _, hc⟩ := own.rv.2.2 h0
        injection e with e
        subst e
        exact hc j u hj
      have hr := fun ty => run_append_grow (P := Tryz.prog) w 22 ty 62 i0 _ Tryz.underlying22 hi0 hz0 b l.length c (cl Ls.Lk.cells l) (by rw [hll, hzs]) holds ⟨vb, 0, none⟩ 1 1 a.cells hln hnews (by omega) (by omega) (by rw [hzb]; exact growslice_fits (by omega) (by omega))
      obtain ⟨f1, f2, f3⟩ := fin _ hge hcm _ rfl
      exact ⟨_, _, _, hr, f1, f2, f3⟩
set_option maxHeartbeats 4000000 in
set_option maxRecDepth 100000 in
theorem insert_end (base : Nat) (A : Option Addr) (c : Nat) (l : List Ls.Lk) (a : Ls.Lk) (vb : Nat) (w : World) (own : OW base w A c l)
    (hv : w.heap[vb]? = some (.cells a.cells.toArray 62 (0, 0))) (hl : l.length ≤ 65536) (hbase : base ≤ w.heap.size) :
    Calls Tryz.prog 68 #[.slice A l.length c, .int .i64 l.length, .slice (some ⟨vb, 0, none⟩) 1 1] w (InsP base (l ++ [a]) A c w) := by
  obtain ⟨A6, c6, w6, hrun, o6, g6, b6⟩ := run_append_ow base A c l a vb w own hv hl hbase
  have hle := own.1
  have hmx : c ≤ 9223372036854775807 := by have := own.2.1; unfold maxLen at this; omega
  obtain ⟨n, HN⟩ : ∃ n, Hid (l.length = n) := ⟨_, rfl⟩
  have HR : Hid (InsP base (l ++ [a]) A c w (.returned (.slice A6 (n + 1) c6)) w6) := ⟨A6, c6, by rw [List.length_append, ← HN.out]; rfl, o6, g6, b6⟩
  rw [HN.out] at hle hl hrun ⊢
  clear own hv o6 g6 b6
  by_cases hc : c = n
  all_goals
    go_enter Tryz.func68, Tryz.ntmps68
    go_wp2_with (at_builtin; refine Lib.wpList_append_run _ rfl _ _ _ _ rfl _ _ rfl rfl _ _ (hrun _) ?_)
    go_wp2
    go_ret
    exact HR.out
theorem over_false (w : World) (vb g o lb cb : Nat) (v0 v1 v2 v3 v4 v5 : Value) (cur : Array Value) (hne : vb ≠ g) (hv : w.heap[vb]? = some (.cells #[v0, v1, v2, v3, v4, v5] 62 (0, 0))) (hg : w.heap[g]? = some (.cells cur 62 (0, 0))) (hs : cur.size ≠ 0) :
    (callFunc 87 #[.slice (some ⟨vb, 0, none⟩) 1 1, .slice (some ⟨g, o, none⟩) lb cb]).run Tryz.prog w = .ok (.value (.bool false)) w := by
  rw [run_callFunc_extern Tryz.func87 (by kernel_rfl) (by kernel_rfl) (by kernel_rfl) (e := Extern.SlicesOverlaps.overlaps #[22, 22] #[4]) (by kernel_rfl),
    Lib.run_overlaps_apart w 22 4 62 Tryz.underlying22 6 (fun w => by
      obtain ⟨i0, hi0, hz0, hz1, hz2⟩ := info_parts infoL
      simp [sizeOf, typeInfo, hi0, hz1]) ⟨vb, 0, none⟩ ⟨g, o, none⟩ 1 1 lb cb hne 62 62 6 cur.size (by simp [World.shape?, hv]) (by simp [World.shape?, hg]) hs
      (Go.Joins.unfrozen_of_block hv 0) (Go.Joins.unfrozen_of_block hv 6)]
  rfl
set_option maxHeartbeats 4000000 in
set_option maxRecDepth 100000 in
theorem insert_room (base : Nat) (A : Option Addr) (c : Nat) (l : List Ls.Lk) (i : Nat) (a : Ls.Lk) (vb : Nat) (w : World) (own : OW base w A c l)
    (hi : i < l.length) (hroom : l.length + 1 ≤ c) (hv : w.heap[vb]? = some (.cells a.cells.toArray 62 (0, 0))) (hne : bk A c ≠ some vb) (hl : l.length ≤ 65536) :
    Calls Tryz.prog 68 #[.slice A l.length c, .int .i64 i, .slice (some ⟨vb, 0, none⟩) 1 1] w (InsP base (l.take i ++ a :: l.drop i) A c w) := by
  obtain ⟨g, o, cur, rfl, hbk, hbg, hg, hle, hcm, hsz, htk⟩ := ow_blk own (by omega)
  have hgv : g ≠ vb := fun e => hne (by rw [hbk, e])
  unfold maxLen at hcm
  obtain ⟨n, HN⟩ : ∃ n, Hid (l.length = n) := ⟨_, rfl⟩
  have HG := Lib.hid hg
  have HV := Lib.hid hv
  have HT := Lib.hid htk
  have HS := Lib.hid hsz
  have HBK := Lib.hid hbk
  have hgl := lt_of_some hg
  have hvl := lt_of_some hv
  have hov : ∀ lb cb, (callFunc 87 #[.slice (some ⟨vb, 0, none⟩) 1 1, .slice (some ⟨g, o + (i + 1) * 6, none⟩) lb cb]).run Tryz.prog w = .ok (.value (.bool false)) w :=
    fun lb cb => over_false w vb g (o + (i + 1) * 6) lb cb _ _ _ _ _ _ cur (Ne.symm hgv) hv hg (by omega)
  rw [HN.out] at hi hroom hle hl ⊢
  have hHL : Hid ((l.take i ++ a :: l.drop i).length = n + 1) := by show _ = _; rw [List.length_append, List.length_cons, List.length_take, List.length_drop, HN.out]; omega
  have f1 : IntKind.i64.wrap ((n : Int) + 1) = (n : Int) + 1 := IntWalk.i64_in _ (by omega)
  have f2 : IntKind.i64.wrap ((i : Int) + 1) = (i : Int) + 1 := IntWalk.i64_in _ (by omega)
  have f3 : ((n : Int) + 1).toNat = n + 1 := by omega
  have f4 : ((i : Int) + 1).toNat = i + 1 := by omega
  have f5 : ¬ c = i := by omega
  have f6 : ¬ c = i + 1 := by omega
  have f7 : (0 : Int) ≤ (i : Int) + 1 := by omega
  have f8 : (0 : Int) ≤ (n : Int) + 1 := by omega
  have f9 : (n : Int) + 1 ≤ (c : Int) := by omega
  have f10 : (i : Int) + 1 ≤ (n : Int) + 1 := by omega
  have f11 : (i : Int) ≤ (n : Int) + 1 := by omega
  have f12 : decide (i = n) = false := by simp; omega
  clear own hne hg hv htk hsz hbk
  go_enter Tryz.func68, Tryz.ntmps68
  go_wp2_with (simp only [hov])
  refine wp_region_over_tail 8 (by kernel_rfl) (by kernel_rfl) ?_
  simp only [List.take_succ_cons, List.take_zero, List.drop_succ_cons, List.drop_zero]
  repeat (go_big_quiet_step (fail))
  refine wpQuiet_nil ?_
  rintro _ ⟨xx, rfl⟩
  have hbx := Lib.hid (over_below _ xx)
  generalize over _ xx = wx at hbx ⊢
  obtain ⟨m, hm⟩ : ∃ m, n - i = m := ⟨_, rfl⟩
  have hm1 : n + 1 - i = m + 1 := by omega
  have hnm : n = i + m := by omega
  have hgx := (hbx.out.block g hgl).trans HG.out
  have hvx := (hbx.out.block vb hvl).trans HV.out
  have hlen : (cl Ls.Lk.cells (l.drop i)).length = m * 6 := by rw [cl_len encL, List.length_drop, HN.out, hm]
  have hcur : cur.size = o + c * 6 := HS.out
  have hcul : cur.toList.length = o + c * 6 := by simpa using hcur
  have htk1 : (cur.toList.drop o).take (i * 6) = cl Ls.Lk.cells (l.take i) := by
    rw [← cl_take encL, ← HT.out, List.take_take]
    congr 1
    rw [HN.out]; omega
  have hdr : cl Ls.Lk.cells (l.drop i) = ((cur.toList.drop o).take (n * 6)).drop (i * 6) := by rw [← cl_drop encL, ← HT.out, HN.out]
  obtain ⟨c1, hc1⟩ : ∃ c1, c1 = cur.toList.take (o + (i + 1) * 6) ++ cl Ls.Lk.cells (l.drop i) ++ cur.toList.drop (o + (i + 1) * 6 + (cl Ls.Lk.cells (l.drop i)).length) := ⟨_, rfl⟩
  have i2 : c1.length = cur.toList.length := by rw [hc1]; exact put_len _ _ _ (by rw [hlen, hcul]; omega)
  have i1 := ins_cells l a i (cur.toList.drop o) (by rw [HN.out]; omega) htk1 (by rw [HN.out, List.length_drop, hcul]; omega) (c1.drop o) (by rw [hc1]; exact put_drop _ _ _ _ (by rw [hcul]; omega))
  have i3 : (c1.take (o + i * 6) ++ a.cells ++ c1.drop (o + i * 6 + a.cells.length)).length = cur.toList.length := by rw [put_len _ _ _ (by rw [i2, hcul, show a.cells.length = 6 from rfl]; omega), i2]
  rw [← put_drop _ _ _ _ (by rw [i2, hcul]; omega)] at i1
  rw [HN.out] at i1
  have hrun : ∀ ty dc sc, (Builtin.copy_ #[22, 22] ty #[.slice (some ⟨g, o + (i + 1) * 6, none⟩) m dc, .slice (some ⟨g, o + i * 6, none⟩) (m + 1) sc]).run Tryz.prog wx = .ok (goInt m) (wx.setRow g c1.toArray) := by
    intro ty dc sc
    have := run_copyN (P := Tryz.prog) wx 22 22 ty 62 6 g (o + (i + 1) * 6) m dc (some ⟨g, o + i * 6, none⟩) (m + 1) sc cur 62 (cl Ls.Lk.cells (l.drop i)) Tryz.underlying22 (by kernel_rfl) hgx
      (by rw [hlen]; congr 1; exact (Nat.min_eq_right (by omega)).symm)
      (fun _ => ⟨_, rfl, fun j v' hj => ?_⟩) (fun h0 => by rw [hlen] at h0; rw [show m = 0 by omega]; exact Nat.min_zero _) (by rw [hlen, hcur]; omega) (cl_one encL _)
    · rw [this, show Nat.min (m + 1) m = m from Nat.min_eq_right (by omega), hc1]
    · have hcell := Go.Joins.cell_of_block hgx
      have hj2 := (List.getElem?_eq_some_iff.1 hj).1
      rw [hlen] at hj2
      rw [Go.WideShapes.add_plain, hcell, ← hj, hdr, List.getElem?_drop, List.getElem?_take_of_lt (by omega), List.getElem?_drop, Nat.add_assoc]
      simp
  have h2 : Hid ((wx.setRow g c1.toArray).heap[g]? = some (.cells c1.toArray 62 (0, 0))) := setRow_heap _ _ _ _ _ _ hgx
  have h2v : Hid ((wx.setRow g c1.toArray).heap[vb]? = some (.cells a.cells.toArray 62 (0, 0))) := (setRow_other _ _ _ _ (Ne.symm hgv)).trans hvx
  have h2G : Hid (w.grownBy (wx.setRow g c1.toArray) (some g)) :=
    ⟨hbx.out.os, hbx.out.tape, hbx.out.output, by have := hbx.out.size; simp [World.setRow]; omega, fun k hk hne => (setRow_other _ _ _ _ (fun e => hne (by rw [e]))).trans (hbx.out.block k hk)⟩
  obtain ⟨W2, hW2⟩ : ∃ W2, wx.setRow g c1.toArray = W2 := ⟨_, rfl⟩
  rw [hW2] at h2 h2v h2G
  simp only [hW2] at hrun
  have hrun2 : ∀ ty dc, (Builtin.copy_ #[22, 22] ty #[.slice (some ⟨g, o + i * 6, none⟩) (m + 1) dc, .slice (some ⟨vb, 0, none⟩) 1 1]).run Tryz.prog W2 = .ok (goInt 1) (W2.setRow g (c1.take (o + i * 6) ++ a.cells ++ c1.drop (o + i * 6 + a.cells.length)).toArray) := by
    intro ty dc
    have := run_copyN (P := Tryz.prog) W2 22 22 ty 62 6 g (o + i * 6) (m + 1) dc (some ⟨vb, 0, none⟩) 1 1 c1.toArray 62 a.cells Tryz.underlying22 (by kernel_rfl) h2.out
      (by rw [show Nat.min 1 (m + 1) = 1 from Nat.min_eq_left (by omega)]; rfl)
      (fun _ => ⟨_, rfl, fun j v' hj => ?_⟩) (fun h0 => absurd h0 (by simp [Ls.Lk.cells])) (by rw [show a.cells.length = 6 from rfl]; simp [i2, hcur]; omega) (encL.one a)
    · rw [this, show Nat.min 1 (m + 1) = 1 from Nat.min_eq_left (by omega)]; rfl
    · have hcell := Go.Joins.cell_of_block h2v.out
      rw [Go.WideShapes.add_plain, hcell, ← hj]
      simp
  have hR : Hid (InsP base (l.take i ++ a :: l.drop i) (some ⟨g, o, none⟩) c w (.returned (.slice (some ⟨g, o, none⟩) (n + 1) c)) (W2.setRow g (c1.take (o + i * 6) ++ a.cells ++ c1.drop (o + i * 6 + a.cells.length)).toArray)) := by
    refine ⟨some ⟨g, o, none⟩, c, by rw [hHL.out], ?_, ?_, Fr.refl _ _⟩
    · refine ⟨by rw [hHL.out]; omega, by unfold maxLen; omega, .inr ⟨g, o, _, rfl, hbg, setRow_heap _ _ _ _ _ _ h2.out, ?_, ?_⟩⟩
      · rw [List.size_toArray, i3, hcul]
      · rw [hHL.out]; simpa using i1
    · have h3 := h2G.out
      rw [HBK.out]
      exact ⟨h3.os, h3.tape, h3.output, by have := h3.size; simp [World.setRow]; omega, fun k hk hne => (setRow_other _ _ _ _ (fun e => hne (by rw [e]))).trans (h3.block k hk (fun e => hne (by rw [e])))⟩
  generalize (c1.take (o + i * 6) ++ a.cells ++ c1.drop (o + i * 6 + a.cells.length)).toArray = C2 at hrun2 hR
  simp only [hm, hm1]
  clear htk1 hdr hc1 i1 i2 i3 hlen hcur hgx hvx h2 h2v h2G hW2 hov hnm hm
  refine wpList_copy_eq wx rfl (.tmp 73) (.tmp 76) 22 22 rfl _ _ rfl rfl (hrun _ _ _) ?_
  have f13 : n + 1 - i = m + 1 := hm1
  go_wp2_with (((refine wpList_copy_eq W2 rfl (.tmp 80) (.tmp 81) 22 22 rfl _ _ rfl rfl (hrun2 _ _) ?_)))
  go_wp2
  go_ret
  exact hR.out
set_option maxHeartbeats 4000000 in
set_option maxRecDepth 100000 in
theorem insert_grow (base : Nat) (A : Option Addr) (c : Nat) (l : List Ls.Lk) (i : Nat) (a : Ls.Lk) (vb : Nat) (w : World) (own : OW base w A c l)
    (hi : i < l.length) (hroom : c < l.length + 1) (hv : w.heap[vb]? = some (.cells a.cells.toArray 62 (0, 0))) (hl : l.length ≤ 65536) (hbase : base ≤ w.heap.size) :
    Calls Tryz.prog 68 #[.slice A l.length c, .int .i64 i, .slice (some ⟨vb, 0, none⟩) 1 1] w (InsP base (l.take i ++ a :: l.drop i) A c w) := by
  obtain ⟨g, o, cur, rfl, hbk, hbg, hg, hle, hcm, hsz, htk⟩ := ow_blk own (by omega)
  have HBK := Lib.hid hbk
  clear hbk
  unfold maxLen at hcm
  obtain ⟨n, HN⟩ : ∃ n, Hid (l.length = n) := ⟨_, rfl⟩
  have hgl := lt_of_some hg
  have hvl := lt_of_some hv
  rw [HN.out] at hi hroom hle hl htk ⊢
  have hHL : Hid ((l.take i ++ a :: l.drop i).length = n + 1) := by show _ = _; rw [List.length_append, List.length_cons, List.length_take, List.length_drop, HN.out]; omega
  obtain ⟨i0, hi0, hz0, hzs, hzb⟩ := info_parts infoL
  have hgc := Go.Joins.cell_of_block hg
  have hcurl : cur.toList.length = o + c * 6 := by simpa using hsz
  have htk1 : (cur.toList.drop o).take (i * 6) = cl Ls.Lk.cells (l.take i) := by
    rw [← cl_take encL, ← htk, List.take_take]
    congr 1
    omega
  have e4 : (cl Ls.Lk.cells (l.take i)).length = i * 6 := by rw [cl_len encL, List.length_take, HN.out, Nat.min_eq_left (by omega)]
  have hold : (Builtin.firstCells i0.size i (.slice (some ⟨g, o, none⟩) i c)).run Tryz.prog w.drew = .ok (cl Ls.Lk.cells (l.take i)).toArray w.drew := by
    rw [hzs]
    refine run_firstCells_some w.drew 6 i ⟨g, o, none⟩ i c (cl Ls.Lk.cells (l.take i)) e4 (fun j v' hj => ?_)
    have hj2 := (List.getElem?_eq_some_iff.1 hj).1
    have hcell : w.drew.cell? ⟨g, o + j, none⟩ = cur[o + j]? := hgc (o + j)
    rw [Go.WideShapes.add_plain, hcell, ← hj, ← htk1, List.getElem?_take_of_lt (by omega), List.getElem?_drop]
    simp
  have hik : i + (n + 1 - i) = n + 1 := by omega
  have hrz := Lib.run_append_grow_zeros (P := Tryz.prog) w 22 3 22 62 i0 _ .i64 .i64 Tryz.underlying22 Tryz.underlying3 hi0 hz0 (some ⟨g, o, none⟩) i c (cl Ls.Lk.cells (l.take i)) hold (n + 1 - i) (by omega) (by omega) (by omega) (by omega) (by rw [hzb]; omega) (by rw [hzb, hik]; exact growslice_fits hroom (by omega))
  rw [hik] at hrz
  obtain ⟨G, hG⟩ : ∃ G, grownCap w (n + 1) c 62 = G := ⟨_, rfl⟩
  rw [hG] at hrz
  have hGn : n + 1 ≤ G := by rw [← hG]; exact grownCap_ge w _ _ _
  have hG63 : G ≤ maxLen := by rw [← hG]; exact grownCap_le_maxLen w (n + 1) c 62 (by unfold maxLen; omega)
  obtain ⟨ROW, hROW⟩ : ∃ ROW : Array Value, (cl Ls.Lk.cells (l.take i)).toArray ++ Builtin.zeroCells (Value.agg #[.int .i64 0, .int .i64 0, .int .i64 0, .int .i64 0, .int .i64 0, .int .i64 0]).cells (n + 1 - i) ++ Builtin.zeroCells (Value.agg #[.int .i64 0, .int .i64 0, .int .i64 0, .int .i64 0, .int .i64 0, .int .i64 0]).cells (G - (n + 1)) = ROW := ⟨_, rfl⟩
  have hRs : ROW.size = G * 6 := by
    rw [← hROW]
    simp only [Array.size_append, List.size_toArray, size_zeroCells, e4, show (Value.agg #[.int .i64 0, .int .i64 0, .int .i64 0, .int .i64 0, .int .i64 0, .int .i64 0]).cells.size = 6 from rfl]
    omega
  have hRt : ROW.toList.take (i * 6) = cl Ls.Lk.cells (l.take i) := by
    rw [← hROW]
    simp only [Array.toList_append, List.append_assoc]
    rw [List.take_append_of_le_length (by omega), List.take_of_length_le (by omega)]
  rw [hROW] at hrz
  obtain ⟨W1, hW1⟩ : ∃ W1, w.drew.alloc (.cells ROW 62) = W1 := ⟨_, rfl⟩
  rw [hW1] at hrz
  have h1 : W1.heap[w.heap.size]? = some (.cells ROW 62 (0, 0)) := by rw [← hW1]; exact heap_alloc_new w.drew _
  have hB1 : Below w.heap.size w W1 := by rw [← hW1]; exact (below_drewN w 1).trans (below_new w.drew _)
  obtain ⟨c1, hc1⟩ : ∃ c1, c1 = ROW.toList.take (i * 6) ++ a.cells ++ ROW.toList.drop (i * 6 + a.cells.length) := ⟨_, rfl⟩
  obtain ⟨i1, i2, i3⟩ := grow_cells l a i ROW.toList (by rw [HN.out]; omega) hRt (by simp [hRs, HN.out]; omega) c1 hc1
  rw [HN.out] at i2
  have hv1 := (hB1.block vb hvl).trans hv
  have hg1 := (hB1.block g hgl).trans hg
  obtain ⟨m, hm⟩ : ∃ m, n - i = m := ⟨_, rfl⟩
  have hm1 : n + 1 - i = m + 1 := by omega
  have hlen : (cl Ls.Lk.cells (l.drop i)).length = m * 6 := by rw [cl_len encL, List.length_drop, HN.out, hm]
  have hdr : cl Ls.Lk.cells (l.drop i) = ((cur.toList.drop o).take (n * 6)).drop (i * 6) := by rw [← cl_drop encL, ← htk]
  obtain ⟨W2, hW2⟩ : ∃ W2, W1.setRow w.heap.size c1.toArray = W2 := ⟨_, rfl⟩
  have hrunA : ∀ ty dc, (Builtin.copy_ #[22, 22] ty #[.slice (some ⟨w.heap.size, i * 6, none⟩) (m + 1) dc, .slice (some ⟨vb, 0, none⟩) 1 1]).run Tryz.prog W1 = .ok (goInt 1) W2 := by
    intro ty dc
    have := run_copyN (P := Tryz.prog) W1 22 22 ty 62 6 w.heap.size (i * 6) (m + 1) dc (some ⟨vb, 0, none⟩) 1 1 ROW 62 a.cells Tryz.underlying22 (by kernel_rfl) h1
      (by rw [show Nat.min 1 (m + 1) = 1 from Nat.min_eq_left (by omega)]; rfl)
      (fun _ => ⟨_, rfl, fun j v' hj => ?_⟩) (fun h0 => absurd h0 (by simp [Ls.Lk.cells])) (by rw [show a.cells.length = 6 from rfl, hRs]; omega) (encL.one a)
    · rw [this, show Nat.min 1 (m + 1) = 1 from Nat.min_eq_left (by omega), ← hW2, hc1]; rfl
    · have hcell := Go.Joins.cell_of_block hv1
      rw [Go.WideShapes.add_plain, hcell, ← hj]
      simp
  have h2 : W2.heap[w.heap.size]? = some (.cells c1.toArray 62 (0, 0)) := by rw [← hW2]; exact setRow_heap _ _ _ _ _ _ h1
  have hB2 : Below w.heap.size w W2 := by rw [← hW2]; exact hB1.trans ⟨rfl, rfl, rfl, by simp [World.setRow], fun k hk => setRow_other _ _ _ _ (by omega)⟩
  have hrunB : Hid (∀ (W : World), Below W2.heap.size W2 W → ∀ ty dc sc, (Builtin.copy_ #[22, 22] ty #[.slice (some ⟨w.heap.size, (i + 1) * 6, none⟩) m dc, .slice (some ⟨g, o + i * 6, none⟩) m sc]).run Tryz.prog W = .ok (goInt m) (W.setRow w.heap.size (c1.take ((i + 1) * 6) ++ cl Ls.Lk.cells (l.drop i) ++ c1.drop ((i + 1) * 6 + (cl Ls.Lk.cells (l.drop i)).length)).toArray)) := by
    intro W hB ty dc sc
    have hg2 := (hB.block g (by have := hB2.size; omega)).trans ((hB2.block g hgl).trans hg)
    have := run_copyN (P := Tryz.prog) W 22 22 ty 62 6 w.heap.size ((i + 1) * 6) m dc (some ⟨g, o + i * 6, none⟩) m sc c1.toArray 62 (cl Ls.Lk.cells (l.drop i)) Tryz.underlying22 (by kernel_rfl) ((hB.block _ (lt_of_some h2)).trans h2)
      (by rw [hlen]; congr 1; exact (Nat.min_self _).symm)
      (fun _ => ⟨_, rfl, fun j v' hj => ?_⟩) (fun h0 => by rw [hlen] at h0; rw [show m = 0 by omega]; exact Nat.min_zero _) (by rw [hlen]; simp [i1, hRs]; omega) (cl_one encL _)
    · rw [this, show Nat.min m m = m from Nat.min_self _]
    · have hcell := Go.Joins.cell_of_block hg2
      have hj2 := (List.getElem?_eq_some_iff.1 hj).1
      rw [hlen] at hj2
      rw [Go.WideShapes.add_plain, hcell, ← hj, hdr, List.getElem?_drop, List.getElem?_take_of_lt (by omega), List.getElem?_drop, Nat.add_assoc]
      simp
  have hR : Hid (∀ W, Below W2.heap.size W2 W → InsP base (l.take i ++ a :: l.drop i) (some ⟨g, o, none⟩) c w (.returned (.slice (some ⟨w.heap.size, 0, none⟩) (n + 1) G)) (W.setRow w.heap.size (c1.take ((i + 1) * 6) ++ cl Ls.Lk.cells (l.drop i) ++ c1.drop ((i + 1) * 6 + (cl Ls.Lk.cells (l.drop i)).length)).toArray)) := by
    intro W hB
    refine ⟨some ⟨w.heap.size, 0, none⟩, G, by rw [hHL.out], ?_, ?_, ?_⟩
    · refine ⟨by rw [hHL.out]; exact hGn, hG63, .inr ⟨w.heap.size, 0, _, rfl, hbase, setRow_heap _ _ _ _ _ _ ((hB.block _ (lt_of_some h2)).trans h2), ?_, ?_⟩⟩
      · rw [List.size_toArray, i3]; simp [hRs]
      · rw [hHL.out]; simpa using i2
    · have h3 := hB2.trans (hB.mono hB2.size)
      exact ⟨h3.os, h3.tape, h3.output, by have := h3.size; simp [World.setRow]; omega, fun k hk hne => (setRow_other _ _ _ _ (by omega)).trans (h3.block k hk)⟩
    · intro k hk
      unfold bk at hk
      rw [if_neg (by omega)] at hk
      simp at hk
      exact .inr (by omega)
  generalize (c1.take ((i + 1) * 6) ++ cl Ls.Lk.cells (l.drop i) ++ c1.drop ((i + 1) * 6 + (cl Ls.Lk.cells (l.drop i)).length)).toArray = C2 at hrunB hR
  have HBW := Lib.hid hB2
  have hWW := Lib.hid (lt_of_some h2)
  unfold maxLen at hG63
  have hrz2 : ∀ ty, (Builtin.append_ #[22, 3] ty #[.slice (some ⟨g, o, none⟩) i c, .int .i64 ((n : Int) + 1 - (i : Int))]).run Tryz.prog w = .ok (.slice (some ⟨w.heap.size, 0, none⟩) (n + 1) G) W1 := by
    intro ty
    have e : (n : Int) + 1 - (i : Int) = ((n + 1 - i : Nat) : Int) := by omega
    rw [e]
    exact hrz
  have f1 : IntKind.i64.wrap ((n : Int) + 1) = (n : Int) + 1 := IntWalk.i64_in _ (by omega)
  have f2 : IntKind.i64.wrap ((i : Int) + 1) = (i : Int) + 1 := IntWalk.i64_in _ (by omega)
  have f3 : IntKind.i64.wrap ((n : Int) + 1 - (i : Int)) = (n : Int) + 1 - (i : Int) := IntWalk.i64_in _ (by omega)
  have f4 : ((i : Int) + 1).toNat = i + 1 := by omega
  have f5 : ¬ c = i := by omega
  have f6 : ¬ G = i + 1 := by omega
  have f6' : ¬ G = i := by omega
  have f7 : (0 : Int) ≤ (i : Int) + 1 := by omega
  have f10 : (i : Int) + 1 ≤ (n : Int) + 1 := by omega
  have f11 : (i : Int) ≤ (n : Int) + 1 := by omega
  have f12 : decide (i = n) = false := by simp; omega
  have f13 : (i : Int) ≤ (c : Int) := by omega
  have f14 : n + 1 - (i + 1) = m := by omega
  have f15 : (n : Int) + 1 ≤ (G : Int) := by omega
  have f16 : (i : Int) ≤ (n : Int) := by omega
  have f17 : (n : Int) ≤ (c : Int) := by omega
  clear own hg hv htk hsz htk1 hold hrz hROW hRs hRt hW1 h1 hB1 hc1 i1 i2 i3 hv1 hg1 hlen hdr hW2 h2 hB2 hG hik e4 hcurl hgc hi0 hz0 hzs hzb
  go_enter Tryz.func68, Tryz.ntmps68
  go_wp2_with (first
    | (at_builtin; refine Lib.wpList_append_run _ rfl _ _ _ _ rfl _ _ rfl rfl _ _ (hrz2 _) ?_)
    | (refine wpList_copy_eq W1 rfl (.tmp 43) (.tmp 44) 22 22 rfl _ _ rfl rfl (hrunA _ _) ?_))
  clear hrz2 hrunA
  go_wp2
  simp only [Act.put, goInt, List.setIfInBounds_toArray, List.set_cons_succ, List.set_cons_zero]
  refine wp_region_over_tail 8 (by kernel_rfl) (by kernel_rfl) ?_
  simp only [List.take_succ_cons, List.take_zero, List.drop_succ_cons, List.drop_zero]
  repeat (go_big_quiet_step (fail))
  refine wpQuiet_nil ?_
  rintro _ ⟨xx, rfl⟩
  have hbx := Lib.hid (over_below _ xx)
  generalize over _ xx = wx at hbx ⊢
  have HB3 := Lib.hid (hrunB.out wx hbx.out)
  have HR3 := Lib.hid (hR.out wx hbx.out)
  try simp only [hm, f14]
  refine wpList_copy_eq wx rfl (.tmp 50) (.tmp 53) 22 22 rfl _ _ rfl rfl (HB3.out _ _ _) ?_
  clear hrunB hR HB3
  go_wp2
  go_ret
  exact HR3.out
/-- one event inserted -/
theorem insert_any (base : Nat) (A : Option Addr) (c : Nat) (l : List Ls.Lk) (i : Nat) (a : Ls.Lk) (vb : Nat) (w : World) (own : OW base w A c l)
    (hi : i ≤ l.length) (hv : w.heap[vb]? = some (.cells a.cells.toArray 62 (0, 0))) (hne : bk A c ≠ some vb) (hl : l.length ≤ 65536) (hbase : base ≤ w.heap.size) :
    Calls Tryz.prog 68 #[.slice A l.length c, .int .i64 i, .slice (some ⟨vb, 0, none⟩) 1 1] w (InsP base (l.take i ++ a :: l.drop i) A c w) := by
  rcases Nat.lt_or_ge i l.length with h | h
  · rcases Nat.lt_or_ge c (l.length + 1) with h2 | h2
    · exact insert_grow base A c l i a vb w own h h2 hv hl hbase
    · exact insert_room base A c l i a vb w own h h2 hv hne hl
  · obtain rfl : i = l.length := by omega
    have := insert_end base A c l a vb w own hv hl hbase
    rw [List.take_length, List.drop_length]
    exact this
end Go.Proofs.YtfapfkaipdcflaaGreat
