/-
  A link taken out.
-/
import Derived.Test.YtfapfkaipdcflaaGreatKh
namespace Go.Proofs.YtfapfkaipdcflaaGreat.K
open Go.RowKit Go.Lib

theorem set7_blkT (w : World) (g : Nat) (a0 a1 a2 a3 a4 a5 a6 : Value) {T : TypeId} (h : w.heap[g]? = some (.cells #[a0, a1, a2, a3, a4, a5, a6] T (0, 0))) (v0 v1 v2 v3 v4 v5 v6 : Value) :
    (((((((w.setCell ⟨g, 0, none⟩ v0).setCell ⟨g, 1, none⟩ v1).setCell ⟨g, 2, none⟩ v2).setCell ⟨g, 3, none⟩ v3).setCell ⟨g, 4, none⟩ v4).setCell ⟨g, 5, none⟩ v5).setCell ⟨g, 6, none⟩ v6).heap[g]? = some (.cells #[v0, v1, v2, v3, v4, v5, v6] T (0, 0)) := by
  have := setCell_cells (setCell_cells (setCell_cells (setCell_cells (setCell_cells (setCell_cells (setCell_cells h 0 v0) 1 v1) 2 v2) 3 v3) 4 v4) 5 v5) 6 v6
  rw [this]
  rfl
/-- seven stores into a block of the call's own -/
theorem below_set7 {B g : Nat} {w w' : World} (h : Below B w w') (hg : B ≤ g) (v0 v1 v2 v3 v4 v5 v6 : Value) :
    Below B w (((((((w'.setCell ⟨g, 0, none⟩ v0).setCell ⟨g, 1, none⟩ v1).setCell ⟨g, 2, none⟩ v2).setCell ⟨g, 3, none⟩ v3).setCell ⟨g, 4, none⟩ v4).setCell ⟨g, 5, none⟩ v5).setCell ⟨g, 6, none⟩ v6) :=
  (((((((h.setCell (p := ⟨g, 0, none⟩) hg _).setCell (p := ⟨g, 1, none⟩) hg _).setCell (p := ⟨g, 2, none⟩) hg _).setCell (p := ⟨g, 3, none⟩) hg _).setCell (p := ⟨g, 4, none⟩) hg _).setCell (p := ⟨g, 5, none⟩) hg _).setCell (p := ⟨g, 6, none⟩) hg _)
/-- an event that is returned -/
theorem ret_event {fn : Func} {R : Ending → World → Prop} {a : Act} {w : World} {p : Nat} (hres : fn.results = #[.cell p 57]) (hd : a.defers = []) (g : Nat) (hp : a.tmps.getD p undef = .pointer (some ⟨g, 0, none⟩))
    {v0 v1 v2 v3 v4 v5 v6 : Value} (hb : w.heap[g]? = some (.cells #[v0, v1, v2, v3, v4, v5, v6] 57 (0, 0))) (h : R (.returned (.agg #[v0, v1, v2, v3, v4, v5, v6])) w) : bodyPost Tryz.prog fn R .ret a w := by
  have hc := Go.Joins.cell_of_block hb
  have y0 := hc 0; have y1 := hc 1; have y2 := hc 2; have y3 := hc 3; have y4 := hc 4; have y5 := hc 5; have y6 := hc 6
  simp only [List.getElem?_toArray, List.getElem?_cons_succ, List.getElem?_cons_zero] at y0 y1 y2 y3 y4 y5 y6
  have hp' : (a.tmps[p]?).getD undef = .pointer (some ⟨g, 0, none⟩) := by simpa using hp
  refine bodyPost_ret (v := .agg #[v0, v1, v2, v3, v4, v5, v6]) ?_ hd h
  clear hp h hd hb hc
  simp [results, hres, go_sem, hp', y0, y1, y2, y3, y4, y5, y6]
/-- what remove answers -/
def RemP (base P g c : Nat) (l : List Ls.Lk) (k : Nat) (u v t : Int) (w : World) (e : Ending) (w' : World) : Prop :=
  e = .returned (.agg #[.int .i64 2, .int .i64 t, .int .i64 u, .int .i64 v, .int .i64 0, .int .i64 0, .int .i64 0]) ∧ PSg base P g c (l.eraseIdx k) w' ∧ Two P g w w'
set_option maxHeartbeats 4000000 in
set_option maxRecDepth 100000 in
theorem remove_any (base P g c : Nat) (l : List Ls.Lk) (k : Nat) (u v x y z t s : Int) (w : World) (h : PSg base P g c l w) (hk : l[k]? = some ⟨u, v, x, y, z, t⟩) (hl : l.length ≤ 65536) :
    Calls Tryz.prog 91 #[.pointer (some ⟨P, 0, none⟩), .int .i64 k, .int .i64 s] w (RemP base P g c l k u v s w) := by
  have hkl : k < l.length := (List.getElem?_eq_some_iff.1 hk).1
  obtain ⟨n, HN⟩ : ∃ n, Hid (l.length = n) := ⟨_, rfl⟩
  have H := Lib.hid h
  have HK := Lib.hid hk
  have p0 := h.c0; have pf := h.f0
  have hPl := h.lP; have hgl := h.lg; have hne := h.ne
  have hle := h.le
  have hcm := h.cm
  unfold maxLen at hcm
  rw [HN.out] at p0 hkl hle hl
  obtain ⟨bb, off, ⟨u1, v1, x1, y1, z1, t1⟩, ead, hb, hx, c0, c1, c2, c3, c4, c5⟩ := RL.at_ (k := k) h.rl (by rw [HN.out]; exact hkl)
  injection ead with ead
  injection ead with e1 e2
  subst e1; subst e2
  rw [hk] at hx
  injection hx with hx
  injection hx with e1 e2 e3 e4 e5 e6
  subst e1; subst e2; subst e3; subst e4; subst e5; subst e6
  simp only [Nat.zero_add] at c0 c1 c2 c3 c4 c5
  have hk0 : (k : Int) < (n : Int) := by omega
  clear h hk hb
  go_enter Tryz.func91, Tryz.ntmps91
  go_wp2
  obtain ⟨n0, n1, n2, n3⟩ := new_two w (.cells #[.int .i64 0, .int .i64 0, .int .i64 0, .int .i64 0, .int .i64 0, .int .i64 0, .int .i64 0] 57) (.cells #[.int .i64 u, .int .i64 v, .int .i64 x, .int .i64 y, .int .i64 z, .int .i64 t] 62)
  generalize ((w.alloc (.cells #[.int .i64 0, .int .i64 0, .int .i64 0, .int .i64 0, .int .i64 0, .int .i64 0, .int .i64 0] 57)).alloc (.cells #[.int .i64 u, .int .i64 v, .int .i64 x, .int .i64 y, .int .i64 z, .int .i64 t] 62)) = W1 at n0 n1 n2 n3 ⊢
  have N0 := Lib.hid n0; have N1 := Lib.hid n1; have N2 := Lib.hid n2; have N3 := Lib.hid n3
  have q0 := (bcellE n3 P 0 hPl).trans p0
  have hPl1 : P < W1.heap.size := by rw [n2]; omega
  clear n0 n1 n2 n3 p0 c0 c1 c2 c3 c4 c5 pf
  have f1 : IntKind.i64.wrap ((k : Int) + 1) = (k : Int) + 1 := IntWalk.i64_in _ (by omega)
  have f2 : (0 : Int) ≤ (k : Int) + 1 := by omega
  have f3 : ((k : Int) + 1).toNat = k + 1 := by omega
  have f4 : (k : Int) + 1 ≤ (n : Int) := by omega
  have f5 : ¬ c = k := by omega
  refine wp_region_over_tail 13 (by kernel_rfl) (by kernel_rfl) ?_
  simp only [List.take_succ_cons, List.take_zero, List.drop_succ_cons, List.drop_zero]
  repeat (go_big_quiet_step (fail))
  refine wpQuiet_nil ?_
  rintro _ ⟨xx, rfl⟩
  have hbx := Lib.hid (over_below _ xx)
  generalize over _ xx = wx at hbx ⊢
  obtain ⟨m, hm⟩ : ∃ m, n - (k + 1) = m := ⟨_, rfl⟩
  have hmn : n = k + 1 + m := by omega
  have hnk : n - k = m + 1 := by omega
  have HX : ∃ X : Option Addr, (if c = k + 1 then some ⟨g, 0, none⟩ else some ⟨g, (k + 1) * 6, none⟩ : Option Addr) = X ∧ Hid (0 < m → X = some ⟨g, (k + 1) * 6, none⟩) := ⟨_, rfl, fun h => by rw [if_neg (by omega)]⟩
  obtain ⟨X, hX, HX⟩ := HX
  have HW := Lib.hid (H.out.go (N3.out.trans (hbx.out.mono (by rw [N2.out]; omega))))
  have hrun : ∃ W2, (∀ ty dc sc, (Builtin.copy_ #[22, 22] ty #[.slice (some ⟨g, k * 6, none⟩) (m + 1) dc, .slice X m sc]).run Tryz.prog wx = .ok (goInt m) W2) ∧ Hid (∃ cur' : Array Value, W2 = wx.setRow g cur' ∧ cur'.size = c * 6 ∧ cur'.toList.take ((l.eraseIdx k).length * 6) = cl Ls.Lk.cells (l.eraseIdx k)) := by
    obtain ⟨cur, hc1, hc2, hc3⟩ := HW.out.row
    have hlen : l.length = n := HN.out
    have hin : l.length * 6 ≤ cur.toList.length := by simp [hc2]; omega
    obtain ⟨e1, e2⟩ := erase_cells l k cur.toList (by omega) hc3 hin
    refine ⟨_, fun ty dc sc => ?_, _, rfl, ?_, e1⟩
    · have := run_copyN (P := Tryz.prog) wx 22 22 ty 62 6 g (k * 6) (m + 1) dc X m sc cur 62 (cl Ls.Lk.cells (l.drop (k + 1))) Tryz.underlying22 (by kernel_rfl) hc1
        (by rw [cl_len encL, List.length_drop, hlen, hm]; congr 1; exact (Nat.min_eq_left (by omega)).symm)
        (fun h0 => ?_) (fun h0 => ?_) (by rw [cl_len encL, List.length_drop, hc2]; omega) (cl_one encL _)
      · rw [this, show Nat.min m (m + 1) = m from Nat.min_eq_left (by omega)]
      · have hm0 : 0 < m := by rw [cl_len encL, List.length_drop, hlen, hm] at h0; omega
        refine ⟨_, HX.out hm0, fun j v' hj => ?_⟩
        have hcell := Go.Joins.cell_of_block hc1
        rw [Go.WideShapes.add_plain, hcell, ← hj]
        rw [← cl_drop encL, List.getElem?_drop, ← hc3, List.getElem?_take_of_lt]
        · simp
        · have := (List.getElem?_eq_some_iff.1 hj).1
          rw [cl_len encL, List.length_drop] at this
          omega
      · rw [cl_len encL, List.length_drop, hlen, hm] at h0
        have : m = 0 := by omega
        rw [this]
        exact Nat.zero_min _
    · simpa [hc2] using e2
  obtain ⟨W2, hrun, HW2⟩ := hrun
  simp only [hX, hm, hnk]
  refine wpList_copy_eq wx rfl (.tmp 21) (.tmp 28) 22 22 rfl _ _ rfl rfl (hrun _ _ _) ?_
  clear hrun hX
  have hP2 : Hid (W2.heap[P]? = some (.cells #[.slice (some ⟨g, 0, none⟩) l.length c] 95)) := by
    obtain ⟨cur', rfl, _⟩ := HW2.out
    exact (setRow_other _ _ _ _ hne).trans HW.out.b
  have hg2 : Hid (∃ cur' : Array Value, W2.heap[g]? = some (.cells cur' 62 (0, 0)) ∧ cur'.size = c * 6 ∧ cur'.toList.take ((l.eraseIdx k).length * 6) = cl Ls.Lk.cells (l.eraseIdx k)) := by
    obtain ⟨cur', rfl, h1, h2⟩ := HW2.out
    obtain ⟨cur, hc1, -, -⟩ := HW.out.row
    exact ⟨cur', setRow_heap _ _ _ _ _ _ hc1, h1, h2⟩
  have h2T : Hid (Two P g w W2) := by
    obtain ⟨cur', rfl, _⟩ := HW2.out
    exact ((Two.of_below N3.out).new hbx.out (by rw [N2.out]; omega)).trans Two.setg
  have hxx : ∀ i, i ≠ g → W2.heap[i]? = wx.heap[i]? := by
    obtain ⟨cur', rfl, _⟩ := HW2.out
    exact fun i hi => setRow_other _ _ _ _ hi
  have HE : Hid (W2.heap[w.heap.size]? = some (.cells #[.int .i64 0, .int .i64 0, .int .i64 0, .int .i64 0, .int .i64 0, .int .i64 0, .int .i64 0] 57)) := (hxx _ (by omega)).trans ((hbx.out.block _ (by rw [N2.out]; omega)).trans N0.out)
  have HL : Hid (W2.heap[w.heap.size + 1]? = some (.cells #[.int .i64 u, .int .i64 v, .int .i64 x, .int .i64 y, .int .i64 z, .int .i64 t] 62)) := (hxx _ (by omega)).trans ((hbx.out.block _ (by rw [N2.out]; omega)).trans N1.out)
  clear hxx HW2 HX
  have hp0 := Go.Joins.cell_of_block hP2.out 0
  have hpf := Go.Joins.unfrozen_of_block hP2.out 0
  simp only [List.getElem?_toArray, List.getElem?_cons_zero] at hp0
  rw [HN.out] at hp0
  have hlc := Go.Joins.cell_of_block HL.out
  have l0 := hlc 0; have l1 := hlc 1
  simp only [List.getElem?_toArray, List.getElem?_cons_succ, List.getElem?_cons_zero] at l0 l1
  have hef := Go.Joins.unfrozen_of_block HE.out
  have hec := Go.Joins.cell_of_block HE.out
  have e0 := hec 0; have e1 := hec 1; have e2 := hec 2; have e3 := hec 3; have e4 := hec 4; have e5 := hec 5; have e6 := hec 6
  have g0 := hef 0; have g1 := hef 1; have g2 := hef 2; have g3 := hef 3; have g4 := hef 4; have g5 := hef 5; have g6 := hef 6
  simp only [List.getElem?_toArray, List.getElem?_cons_succ, List.getElem?_cons_zero] at e0 e1 e2 e3 e4 e5 e6
  have f6 : IntKind.i64.wrap ((k : Int) + (m : Int)) = (k : Int) + (m : Int) := IntWalk.i64_in _ (by omega)
  have f7 : (0 : Int) ≤ (k : Int) + (m : Int) := by omega
  have f8 : ((k : Int) + (m : Int)).toNat = k + m := by omega
  have f9 : (k : Int) + (m : Int) ≤ (c : Int) := by omega
  clear hlc hef hec hm hnk f1 f2 f3 f4 f5 q0
  have hmn' := Lib.hid hmn
  clear hmn
  go_wp2
  have HL2 : Hid ((l.eraseIdx k).length = k + m) := by show _ = _; rw [List.length_eraseIdx, if_pos (by rw [HN.out]; omega), HN.out]; have := hmn'.out; omega
  have hE3 := (setCell_only (u := W2) (k := P) (i := 0) (v := .slice (some ⟨g, 0, none⟩) (k + m) c) w.heap.size (by omega)).trans HE.out
  have hS : PSg base P g c (l.eraseIdx k) (W2.setCell ⟨P, 0, none⟩ (.slice (some ⟨g, 0, none⟩) (k + m) c)) := by
    obtain ⟨cur', h1, h2, h3⟩ := hg2.out
    refine ⟨?_, ⟨cur', (setCell_only _ (Ne.symm hne)).trans h1, h2, h3⟩, by rw [HL2.out]; omega, H.out.cm, H.out.hP, H.out.hg⟩
    rw [HL2.out]
    exact setCell_cells hP2.out 0 _
  have hT := h2T.out.trans (Two.setP (w := W2) (i := 0) (v := .slice (some ⟨g, 0, none⟩) (k + m) c))
  generalize W2.setCell ⟨P, 0, none⟩ (.slice (some ⟨g, 0, none⟩) (k + m) c) = W3 at hE3 hS hT ⊢
  have hblk := set7_blkT W3 w.heap.size _ _ _ _ _ _ _ hE3 (.int .i64 2) (.int .i64 s) (.int .i64 u) (.int .i64 v) (.int .i64 0) (.int .i64 0) (.int .i64 0)
  have hbel : Below w.heap.size W3 _ := below_set7 (Below.refl _ _) (Nat.le_refl _) (.int .i64 2) (.int .i64 s) (.int .i64 u) (.int .i64 v) (.int .i64 0) (.int .i64 0) (.int .i64 0)
  exact ret_event (p := 6) Tryz.results91 rfl w.heap.size rfl hblk ⟨rfl, hS.goB hbel hPl hgl, hT.new hbel (Nat.le_refl _)⟩
end Go.Proofs.YtfapfkaipdcflaaGreat.K
