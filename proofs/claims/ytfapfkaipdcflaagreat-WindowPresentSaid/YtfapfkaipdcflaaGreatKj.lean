/-
  A link cut; all links of a node cut.
-/
import Derived.Test.YtfapfkaipdcflaaGreatKi
namespace Go.Proofs.YtfapfkaipdcflaaGreat.K
open Go.RowKit Go.Lib

/-- what happens where an event happens: what changed, as a list, and the links behind it -/
def AppP (base P : Nat) (l : List Ls.Lk) (e : Ev) (w : World) (en : Ending) (w' : World) : Prop :=
  ∃ (A A1 : Option Addr) (c c1 : Nat), en = .returned (.slice A1 (Ls.chg l e).length c1) ∧ w'.ownsRow base 57 7 (.slice A1 (Ls.chg l e).length c1) (Ls.chg l e).length (cl Ev.cells (Ls.chg l e)) ∧ PS base P A c (Ls.nextL l e) w' ∧ Below base w w'
theorem next_cut2 (l : List Ls.Lk) (e : Ev) (hk : e.kind = 2) : Ls.nextL l e = Ls.cut (Ls.lk e) l := by
  unfold Ls.nextL Ls.cut
  rw [if_neg (by omega)]
  exact List.filter_congr fun y _ => by simp [Ls.hit, hk]
theorem chg_cut2 (l : List Ls.Lk) (e : Ev) (ha : Ls.Asc l) (hk : e.kind = 2) : Ls.chg l e = match l[Ls.pos (Ls.lk e) l]? with | some a => if Ls.fnd (Ls.lk e) l = true then [Ls.cutE a e.time] else [] | none => [] := by
  have hf : l.filter (Ls.hit e) = l.filter fun y => Ls.same y (Ls.lk e) := List.filter_congr fun y _ => by simp [Ls.hit, hk]
  have h0 : Ls.chg l e = (l.filter fun y => Ls.same y (Ls.lk e)).map fun x => Ls.cutE x e.time := by unfold Ls.chg; rw [if_neg (by omega), hf]
  rw [h0]
  rcases Ls.edge_one l ha (Ls.lk e) with h1 | ⟨x, hx, hs, he⟩
  · rw [h1]
    have hn : Ls.fnd (Ls.lk e) l = false := by
      cases hc : Ls.fnd (Ls.lk e) l with
      | false => rfl
      | true =>
        obtain ⟨x, hx, hs⟩ := (Ls.fnd_iff _ l ha).1 hc
        rw [List.filter_eq_nil_iff] at h1
        exact absurd hs (h1 x hx)
    rw [hn]
    cases l[Ls.pos (Ls.lk e) l]? <;> simp
  · rw [he]
    have hf := (Ls.fnd_iff _ l ha).2 ⟨x, hx, hs⟩
    obtain ⟨a, h2, h3, _⟩ := Ls.fnd_at _ l hf
    rw [h2, hf]
    have := Ls.eq_of_same l ha x a hx (List.mem_of_getElem? h2) (by rw [Ls.same_trans x _ a hs, Ls.same_comm]; exact h3)
    subst this
    rfl
theorem RV_new1 (w : World) (e : Ev) : RV (w.alloc (.cells #[.int .i64 e.kind, .int .i64 e.time, .int .i64 e.u, .int .i64 e.v, .int .i64 e.weight, .int .i64 e.label, .int .i64 e.sign] 57)).heap.size (w.alloc (.cells #[.int .i64 e.kind, .int .i64 e.time, .int .i64 e.u, .int .i64 e.v, .int .i64 e.weight, .int .i64 e.label, .int .i64 e.sign] 57)) (some ⟨w.heap.size, 0, none⟩) 1 [e] := RX_new encE w [e] 57
theorem own_new1 {base : Nat} (w : World) (e : Ev) (hb : base ≤ w.heap.size) : (w.alloc (.cells #[.int .i64 e.kind, .int .i64 e.time, .int .i64 e.u, .int .i64 e.v, .int .i64 e.weight, .int .i64 e.label, .int .i64 e.sign] 57)).ownsRow base 57 7 (.slice (some ⟨w.heap.size, 0, none⟩) 1 1) 1 (cl Ev.cells [e]) :=
  ⟨rfl, .inr ⟨w.heap.size, 1, _, rfl, hb, heap_alloc_new w _, Nat.le_refl _, by unfold maxLen; omega, rfl, rfl⟩⟩
set_option maxHeartbeats 4000000 in
set_option maxRecDepth 100000 in
theorem cut_any (base P : Nat) (A : Option Addr) (c : Nat) (l : List Ls.Lk) (t u v x y z : Int) (w : World) (h : PS base P A c l w) (ha : Ls.Asc l) (hl : l.length ≤ 65536) (hbase : base ≤ w.heap.size) :
    Calls Tryz.prog 72 #[.pointer (some ⟨P, 0, none⟩), .agg #[.int .i64 2, .int .i64 t, .int .i64 u, .int .i64 v, .int .i64 x, .int .i64 y, .int .i64 z]] w (AppP base P l ⟨2, t, u, v, x, y, z⟩ w) := by
  have HC := Lib.hid (chg_cut2 l ⟨2, t, u, v, x, y, z⟩ ha rfl)
  have HN := Lib.hid (next_cut2 l ⟨2, t, u, v, x, y, z⟩ rfl)
  have HS := Lib.hid (Ls.cut_split (Ls.lk ⟨2, t, u, v, x, y, z⟩) l ha)
  have HFA := Lib.hid (Ls.fnd_at (Ls.lk ⟨2, t, u, v, x, y, z⟩) l)
  obtain ⟨W1, HW1⟩ : ∃ W1, Hid (W1 = w.alloc (.cells #[.int .i64 2, .int .i64 t, .int .i64 u, .int .i64 v, .int .i64 x, .int .i64 y, .int .i64 z] 57)) := ⟨_, rfl⟩
  have HB1 : Hid (Below w.heap.size w W1) := by show Below _ _ _; rw [HW1.out]; exact below_new _ _
  have hs1 : Hid (W1.heap.size = w.heap.size + 1) := by show _ = _; rw [HW1.out]; simp
  have H1 := Lib.hid (h.go HB1.out)
  have q0 := H1.out.c0
  have hPl : P < W1.heap.size := H1.out.lP
  have hwl : w.heap.size < W1.heap.size := by rw [hs1.out]; omega
  have hbl : Hid (W1.heap[w.heap.size]? = some (.cells #[.int .i64 2, .int .i64 t, .int .i64 u, .int .i64 v, .int .i64 x, .int .i64 y, .int .i64 z] 57)) := by show _ = _; rw [HW1.out]; exact heap_alloc_new _ _
  have hec := Go.Joins.cell_of_block hbl.out
  have e0 := hec 0; have e1 := hec 1; have e2 := hec 2; have e3 := hec 3; have e4 := hec 4; have e5 := hec 5; have e6 := hec 6
  simp only [List.getElem?_toArray, List.getElem?_cons_succ, List.getElem?_cons_zero] at e0 e1 e2 e3 e4 e5 e6
  have C56 := Lib.hid (fun w => linkOf_any 2 t u v x y z w)
  have C45 : Hid (∀ x' : More W1, Calls Tryz.prog 89 #[.slice A l.length c, .agg #[.int .i64 (min u v), .int .i64 (max u v), .int .i64 x, .int .i64 y, .int .i64 z, .int .i64 t]] (over W1 x') fun e w' => e = .returned (.tuple #[.int .i64 (Ls.pos (Ls.lk ⟨2, t, u, v, x, y, z⟩) l), .bool (Ls.fnd (Ls.lk ⟨2, t, u, v, x, y, z⟩) l)]) ∧ Below (over W1 x').heap.size (over W1 x') w') :=
    fun x' => locate_any A c l _ _ _ _ _ _ _ (H1.out.rl.up (over_below _ x')) ha hl
  obtain ⟨p, HP⟩ : ∃ p, Hid (Ls.pos (Ls.lk ⟨2, t, u, v, x, y, z⟩) l = p) := ⟨_, rfl⟩
  obtain ⟨F, HF⟩ : ∃ F, Hid (Ls.fnd (Ls.lk ⟨2, t, u, v, x, y, z⟩) l = F) := ⟨_, rfl⟩
  obtain ⟨U, HU⟩ : ∃ U, Hid (min u v = U) := ⟨_, rfl⟩
  obtain ⟨V, HV⟩ : ∃ V, Hid (max u v = V) := ⟨_, rfl⟩
  simp only [HP.out, HF.out, HU.out, HV.out] at C45 C56 HC HS HFA
  have HB := Lib.hid hbase
  clear h hec hbase
  go_enter Tryz.func72, Tryz.ntmps72
  go_wp2
  rw [← HW1.out]
  refine wp_region_over (by kernel_rfl) (by kernel_rfl) ?_
  repeat (go_big_quiet_step (first | (go_at_call 71; exact calls_over (C56.out _)) | (go_at_call 89; exact calls_over (C45.out _))))
  refine wpQuiet_nil ?_
  rintro _ ⟨xx, rfl⟩
  have hbx := Lib.hid (over_below _ xx)
  generalize over _ xx = wx at hbx ⊢
  have HX := Lib.hid (H1.out.go hbx.out)
  have HBX : Hid (Below w.heap.size w wx) := HB1.out.trans (hbx.out.mono (by rw [hs1.out]; omega))
  have e1x := (bcellE hbx.out _ _ hwl).trans e1
  have hwx : w.heap.size < wx.heap.size := Nat.lt_of_lt_of_le hwl hbx.out.size
  clear C56 C45 e0 e1 e2 e3 e4 e5 e6 q0
  cases F with
  | false =>
    have hc0 : Hid (Ls.chg l ⟨2, t, u, v, x, y, z⟩ = []) := by
      show _ = _
      rw [HC.out]
      cases l[p]? <;> simp
    have hn0 : Hid (Ls.nextL l ⟨2, t, u, v, x, y, z⟩ = l) := by show _ = _; rw [HN.out, HS.out]; simp
    go_wp2
    go_ret
    refine ⟨A, none, c, 0, by rw [hc0.out]; rfl, by rw [hc0.out]; exact World.ownsRow_nil _ _ _ _, by rw [hn0.out]; exact HX.out, below_le HBX.out HB.out⟩
  | true =>
    obtain ⟨⟨u1, v1, x1, y1, z1, t1⟩, ha1, ha2, ha3⟩ := HFA.out rfl
    have hc0 : Hid (Ls.chg l ⟨2, t, u, v, x, y, z⟩ = [⟨2, t, u1, v1, 0, 0, 0⟩]) := by
      show _ = _
      rw [HC.out, ha1]
      rfl
    have hn0 : Hid (Ls.nextL l ⟨2, t, u, v, x, y, z⟩ = l.eraseIdx p) := by show _ = _; rw [HN.out, HS.out]; simp
    obtain ⟨g, rfl, HG⟩ := HX.out.g (by omega)
    have C71 := Lib.hid (remove_any base P g c l p u1 v1 x1 y1 z1 t1 t wx HG ha1 hl)
    have HGl := Lib.hid HG.hg
    clear ha1 ha2 ha3
    go_wp2_with fail
    refine C71.out.mono ?_
    rintro e w3 ⟨rfl, h3, t3⟩
    have H3 := Lib.hid h3
    have T3 := Lib.hid t3
    have hb3s : base ≤ w3.heap.size := Nat.le_trans HB.out (Nat.le_trans HBX.out.size t3.size)
    clear h3 t3 HG C71
    go_wp2
    go_ret
    refine ⟨_, some ⟨w3.heap.size, 0, none⟩, c, 1, by rw [hc0.out]; rfl, by rw [hc0.out]; exact own_new1 w3 ⟨2, t, u1, v1, 0, 0, 0⟩ hb3s, by rw [hn0.out]; exact (H3.out.go (below_new _ _)).ps, ?_⟩
    have hb3 : Below base wx w3 := T3.out.below HX.out.hP HGl.out (Nat.le_trans HB.out HBX.out.size)
    exact (below_le HBX.out HB.out).trans (hb3.alloc (Nat.le_trans HB.out (Nat.le_trans HBX.out.size hb3.size)) _)
end Go.Proofs.YtfapfkaipdcflaaGreat.K
