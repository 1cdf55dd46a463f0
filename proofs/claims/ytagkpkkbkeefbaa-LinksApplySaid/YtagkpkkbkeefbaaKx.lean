/-
  LinksBack, walked.
-/
import Derived.Test.YtagkpkkbkeefbaaKv
import Derived.Test.YtagkpkkbkeefbaaKw
namespace Go.Proofs.Ytagkpkkbkeefbaa
open Go.RowKit Go.Lib

/-- the law's state: the deck in block G, a state in the box ks -/
structure LX (w : World) (G ks : Nat) (A : Option Addr) (c : Nat) (L : List Int) (n : Int) (As : Option Addr) (cs : Nat) (l : List Ls.Lk) (wr : World) : Prop where
  dk : ∃ m, Dk w.heap.size wr G A c L m
  b : wr.heap[ks]? = some (.cells #[.int .i64 n, .slice As l.length cs] 24)
  own : wr.ownsRow (G + 1) 62 6 (.slice As l.length cs) l.length (cl Ls.Lk.cells l)
  bel : Below w.heap.size w wr
  lg : w.heap.size ≤ G
  l4 : G < ks
section
variable {w : World} {G ks : Nat} {A : Option Addr} {c : Nat} {L : List Int} {n : Int} {As : Option Addr} {cs : Nat} {l : List Ls.Lk} {wr w' : World}
theorem LX.go (h : LX w G ks A c L n As cs l wr) (hb : Below wr.heap.size wr w') : LX w G ks A c L n As cs l w' := by
  obtain ⟨m, hd⟩ := h.dk
  exact ⟨⟨m, hd.go hb⟩, (hb.block _ (lt_of_some h.b)).trans h.b, own_up h.own hb, h.bel.trans (hb.mono h.bel.size), h.lg, h.l4⟩
theorem LX.next {m : Nat} (h : LX w G ks A c L n As cs l wr) (hd : Dk w.heap.size w' G A c L m) (hg : wr.grownBy w' (some G)) : LX w G ks A c L n As cs l w' := by
  have h4 := h.l4
  refine ⟨⟨m, hd⟩, (hg.block _ (lt_of_some h.b) (fun e => by injection e with e; omega)).trans h.b, own_kept h.own hg (by omega), h.bel.grown hg h.bel.size (fun k hk => by injection hk with hk; have := h.lg; omega), h.lg, h4⟩
theorem LX.sx (h : LX w G ks A c L n As cs l wr) : SX ks n As cs l wr := ⟨h.b, RX.of_own h.own⟩
theorem LX.start {m : Nat} {v0 v1 : World} (hg : w.heap.size ≤ G) (hG : G < v0.heap.size) (hb : Below w.heap.size w v0) (hd : Dk w.heap.size v1 G A c L m) (hgr : v0.grownBy v1 (some G)) (ho : v1.ownsRow (v0.heap.size + 1) 62 6 (.slice As l.length cs) l.length (cl Ls.Lk.cells l)) :
    LX w G v1.heap.size A c L n As cs l (v1.alloc (.cells #[.int .i64 n, .slice As l.length cs] 24)) := by
  have hs := hgr.size
  have hbel : Below w.heap.size w v1 := hb.grown hgr hb.size (fun k hk => by injection hk with hk; omega)
  exact ⟨⟨m, hd.go (below_new _ _)⟩, heap_alloc_new _ _, own_up (Go.Joins.ownsRow_le ho (by omega)) (below_new _ _), hbel.alloc hbel.size _, hg, by omega⟩
end
theorem all_good {n : Int} {l : List Ls.Lk} {es : List Ev} (hV : Ls.V n l) (h : ∀ e ∈ es, Ls.Good n e) : Ls.allR n l es = (Ls.runL l es, ((Ls.numL l es : Nat) : Int), 0) := by
  unfold Ls.allR
  rw [chk0 hV, if_neg (by decide), Ls.allS_ok n es h]
theorem ap_good {n : Int} {l : List Ls.Lk} {e : Ev} (hV : Ls.V n l) (h : Ls.Good n e) : Ls.apE n l e = 0 := (Ls.apE_zero n l e).2 ⟨hV, h⟩
theorem run_valid {n : Int} {l : List Ls.Lk} {es : List Ev} (hV : Ls.V n l) (h : ∀ e ∈ es, Ls.Good n e) : Ls.V n (Ls.runL l es) := by
  induction es generalizing l with
  | nil => exact hV
  | cons e es ih => exact ih (Ls.next_valid hV (h e (by simp))) (fun x hx => h x (by simp [hx]))
theorem run_len {l : List Ls.Lk} {es : List Ev} : (Ls.runL l es).length ≤ l.length + es.length := by
  induction es generalizing l with
  | nil => exact Nat.le_refl _
  | cons e es ih =>
    have h1 := ih (l := Ls.nextL l e)
    have h2 := Ls.len_next l e
    show (Ls.runL (Ls.nextL l e) es).length ≤ _
    simp only [List.length_cons]
    omega
theorem RV_two (w : World) (a b : Ev) : RV (w.alloc (.cells #[.int .i64 a.kind, .int .i64 a.time, .int .i64 a.u, .int .i64 a.v, .int .i64 a.weight, .int .i64 a.label, .int .i64 a.sign, .int .i64 b.kind, .int .i64 b.time, .int .i64 b.u, .int .i64 b.v, .int .i64 b.weight, .int .i64 b.label, .int .i64 b.sign] 26)).heap.size (w.alloc (.cells #[.int .i64 a.kind, .int .i64 a.time, .int .i64 a.u, .int .i64 a.v, .int .i64 a.weight, .int .i64 a.label, .int .i64 a.sign, .int .i64 b.kind, .int .i64 b.time, .int .i64 b.u, .int .i64 b.v, .int .i64 b.weight, .int .i64 b.label, .int .i64 b.sign] 26)) (some ⟨w.heap.size, 0, none⟩) 2 [a, b] := RX_new encE w [a, b] 26
/-- the mathematics of LinksBack -/
theorem back_math {N u v : Int} {l : List Ls.Lk} (hV : Ls.V N l) (ht : ∀ x ∈ l, x.time ≤ 19) (hu : 0 ≤ u ∧ u < N) (hv : 0 ≤ v ∧ v < N) (hne : v ≠ u) :
    Ls.Good N ⟨1, 30, v, u, 3, 0, -1⟩ ∧ Ls.Good N ⟨2, 30, u, v, 0, 0, 0⟩ ∧ Ls.Good N ⟨3, 30, u, 0, 0, 0, 0⟩ ∧ Ls.runL l [⟨1, 30, v, u, 3, 0, -1⟩, ⟨2, 30, u, v, 0, 0, 0⟩] = Ls.runL l [⟨2, 30, u, v, 0, 0, 0⟩] ∧
      Ls.numL l [⟨1, 30, v, u, 3, 0, -1⟩, ⟨2, 30, u, v, 0, 0, 0⟩] = 2 ∧ Ls.numL l [⟨2, 30, u, v, 0, 0, 0⟩] ≤ 1 := by
  have hn : N ≤ 64 := hV.2.1
  have g1 : Ls.Good N ⟨1, 30, v, u, 3, 0, -1⟩ := ⟨by simp [chkE, nodesB, okN, attrB]; omega, by show v < N; omega, by show u < N; omega⟩
  have g2 : Ls.Good N ⟨2, 30, u, v, 0, 0, 0⟩ := ⟨by simp [chkE, nodesB, okN, attrB]; omega, by show u < N; omega, by show v < N; omega⟩
  have g3 : Ls.Good N ⟨3, 30, u, 0, 0, 0, 0⟩ := ⟨by simp [chkE, nodesB, okN, attrB]; omega, by show u < N; omega, by show (0 : Int) < N; omega⟩
  obtain ⟨h1, h2, h3⟩ := Ls.set_cut l hV.2.2.1 ⟨1, 30, v, u, 3, 0, -1⟩ ⟨2, 30, u, v, 0, 0, 0⟩ rfl rfl (by simp [Ls.same, Ls.lk, Int.min_comm v u, Int.max_comm v u]) (fun hm => by have := ht _ hm; simp [Ls.lk] at this)
  exact ⟨g1, g2, g3, h1, h2, h3⟩
theorem leave_eq (l : List Ls.Lk) (u : Int) : Ls.nextL l ⟨3, 30, u, 0, 0, 0, 0⟩ = l.filter fun y => !Ls.has u y := by
  unfold Ls.nextL
  rw [if_neg (show ¬ ((3 : Int) = 1) by decide)]
  rfl
/-- an event that stands in a box -/
def EX (k : Nat) (e : Ev) (wr : World) : Prop := wr.heap[k]? = some (.cells #[.int .i64 e.kind, .int .i64 e.time, .int .i64 e.u, .int .i64 e.v, .int .i64 e.weight, .int .i64 e.label, .int .i64 e.sign] 26)
theorem EX.go {k : Nat} {e : Ev} {wr w' : World} (h : EX k e wr) (hb : Below wr.heap.size wr w') : EX k e w' := (hb.block _ (lt_of_some h)).trans h
theorem EX.lt {k : Nat} {e : Ev} {wr : World} (h : EX k e wr) : k < wr.heap.size := lt_of_some h
theorem EX.cs {k : Nat} {e : Ev} {wr : World} (h : EX k e wr) : wr.cell? ⟨k, 0, none⟩ = some (.int .i64 e.kind) ∧ wr.cell? ⟨k, 1, none⟩ = some (.int .i64 e.time) ∧ wr.cell? ⟨k, 2, none⟩ = some (.int .i64 e.u) ∧ wr.cell? ⟨k, 3, none⟩ = some (.int .i64 e.v) ∧ wr.cell? ⟨k, 4, none⟩ = some (.int .i64 e.weight) ∧ wr.cell? ⟨k, 5, none⟩ = some (.int .i64 e.label) ∧ wr.cell? ⟨k, 6, none⟩ = some (.int .i64 e.sign) :=
  ⟨Go.Joins.cell_of_block h 0, Go.Joins.cell_of_block h 1, Go.Joins.cell_of_block h 2, Go.Joins.cell_of_block h 3, Go.Joins.cell_of_block h 4, Go.Joins.cell_of_block h 5, Go.Joins.cell_of_block h 6⟩
theorem find_fact {N : Int} {l : List Ls.Lk} (hV : Ls.V N l) (u : Int) (x : Ls.Lk) (hx : x ∈ l) : Ls.findS N (l.filter fun y => !Ls.has u y) x.u x.v < 0 ↔ Ls.has u x = true := by
  have hV2 : Ls.V N (l.filter fun y => !Ls.has u y) := ⟨hV.1, hV.2.1, Ls.asc_filter _ _ hV.2.2.1, fun y hy => hV.2.2.2 y (List.mem_filter.1 hy).1⟩
  have hlt := Ls.valid_lt hV x hx
  unfold Ls.findS
  rw [if_pos (chk0 hV2), Ls.find_congr (Ls.btw x.u x.v) x (by rw [Ls.same, Ls.btw]; dsimp only; rw [show min x.u x.v = x.u by omega, show max x.u x.v = x.v by omega]; simp)]
  exact Ls.find_left l hV.2.2.1 u x hx
set_option maxHeartbeats 8000000 in
set_option maxRecDepth 100000 in
theorem back_law (A : Option Addr) (c : Nat) (L : List Int) (w : World) (h : RD w A c L) (hL : L.length ≤ 17592186044416) :
    Calls Try.prog 6 #[.slice A L.length c] w fun e w' => e = .returned (.bool true) ∧ Below w.heap.size w w' := by
  have CN := Lib.hid (new_any A c L w h)
  clear h
  go_enter Try.func6, Try.ntmps6
  go_wp2_with fail
  refine CN.out.mono ?_
  rintro e v0 ⟨rfl, hd, hb0⟩
  have CSt := Lib.hid (state_any w.heap.size w.heap.size A c L 0 7 v0 hd hL (by decide))
  have HB0 := Lib.hid hb0
  have hG0 := Lib.hid hd.lt
  clear hd hb0 CN
  obtain ⟨G, hG⟩ : ∃ G, Hid (w.heap.size = G) := ⟨_, rfl⟩
  go_wp2_with fail
  refine CSt.out.mono ?_
  rintro e v1 ⟨N, l, As, cs, m1, rfl, hN, ⟨hV, htm⟩, hl, ho, D1, g1⟩
  have HV := Lib.hid hV
  have HTM := Lib.hid htm
  have HL := Lib.hid hl
  have HLX := Lib.hid (LX.start (n := (N : Int)) (Nat.le_refl _) hG0.out HB0.out D1 g1 ho)
  obtain ⟨ks, Hks⟩ : ∃ k, Hid (v1.heap.size = k) := ⟨_, rfl⟩
  obtain ⟨us, Hus⟩ : ∃ u, Hid (v1.alloc (.cells #[.int .i64 (N : Nat), .slice As l.length cs] 24) = u) := ⟨_, rfl⟩
  rw [Hks.out, Hus.out, hG.out] at HLX
  clear hV hl ho D1 g1 HB0 CSt htm hG0
  by_cases hN2 : N < 2
  · have hd : decide ((N : Int) < 2) = true := by rw [decide_eq_true_eq]; omega
    go_wp2_with fail
    rw [Hus.out]
    refine (awake_any _).mono ?_
    rintro e v9 ⟨rfl, hb9⟩
    have HB := Lib.hid (below_up HLX.out.bel hb9)
    clear hb9
    go_wp2
    go_ret
    exact ⟨rfl, HB.out⟩
  · have hd : decide ((N : Int) < 2) = false := by rw [decide_eq_false_iff_not]; omega
    have HNN : Hid (2 ≤ (N : Int) ∧ (N : Int) ≤ 7) := by show _ ∧ _; omega
    clear hN2
    go_wp2_with fail
    rw [Hus.out]
    try simp only [Hks.out, hG.out]
    obtain ⟨m2, hd2⟩ := HLX.out.dk
    refine (next_any w.heap.size G A c L m2 (N : Int) us hd2 hL (by omega)).mono ?_
    rintro e v2 ⟨u, m3, rfl, hu1, hu2, D2, g2⟩
    have HU : Hid (0 ≤ u ∧ u < (N : Int)) := by show _ ∧ _; have := HNN.out; omega
    have HL2 := Lib.hid (HLX.out.next D2 g2)
    have HD2 := Lib.hid D2
    clear D2 g2 hu1 hu2 hd2 HLX
    go_wp2
    have HKb := Lib.hid HL2.out.b
    have HKl : Hid (ks < v2.heap.size) := lt_of_some HKb.out
    have HKg : Hid (some ks ≠ some G) := fun e => by injection e with e; have := HL2.out.l4; omega
    have HJ0 : Hid (∃ m, Dk w.heap.size (v2.drewN 1) G A c L m) := ⟨m3, HD2.out.go (below_drewN _ _)⟩
    refine wp_region_ac 11 132 (fun u v => u.grownBy v (some G)) (fun _ _ wr => ∃ m, Dk w.heap.size wr G A c L m) [(fun q0 _ => q0 = .int .i64 u), (fun q0 _ => q0 = .int .i64 (u + 1)), (fun q0 _ => q0 = .pointer (some ⟨G, 0, none⟩)), (fun q0 _ => q0 = .pointer (some ⟨ks, 0, none⟩)), (fun q0 _ => q0 = .int .i64 (N : Int)), (fun q0 _ => q0 = .int .i64 ((N : Int) - 1)), (fun q0 _ => ∃ y : Int, 0 ≤ y ∧ y ≤ ((N : Int) - 2) ∧ q0 = .int .i64 y), (fun q0 _ => ∃ y : Int, (u + 1) ≤ y ∧ y ≤ (u + (N : Int) - 1) ∧ q0 = .int .i64 y), (fun q0 _ => q0 = .pointer (some ⟨ks, 0, none⟩)), (fun q0 _ => q0 = .int .i64 (N : Int)), (fun q0 _ => ∃ y : Int, 0 ≤ y ∧ y < (N : Int) ∧ y ≠ u ∧ q0 = .int .i64 y)] (by kernel_rfl) (by kernel_rfl) rfl (fun _ _ _ h1 h2 => grown_trans h1 h2) (only_drewN 1 _) HJ0.out ?_ ?_ ?_
    · intro R hR
      simp only [List.mem_cons, List.not_mem_nil, or_false] at hR
      rcases hR with rfl | rfl | rfl | rfl | rfl | rfl | rfl | rfl | rfl | rfl | rfl <;> exact fun _ _ _ h _ => h
    · simp only [List.take_succ_cons, List.take_zero]
      refine ⟨?_, ?_, ?_, ?_, ?_, ?_, ?_, ?_, ?_, ?_, ?_, trivial⟩
      · intro a ws f hle hjj hfi hun hdn hag hdep K Q hK
        have d5 : (a.tmps[5]?).getD undef = .int .i64 u := eval_get (hag 5 (freeB_spec (by kernel_rfl)))
        rw [if_pos (show Region.wanted _ _ = true from rfl)]
        unfold Oper.wp
        simp [go_sem, d5]
        exact hK _ _ (grown_refl _ _) hjj rfl
      · intro a ws f hle hjj hfi hun hdn hag hdep K Q hK
        have d31 : (a.tmps[31]?).getD undef = .int .i64 u := eval_get (dep_of hdep 0 31 rfl (by kernel_rfl) rfl rfl)
        rw [if_pos (show Region.wanted _ _ = true from rfl)]
        have hw : IntKind.i64.wrap (u + 1) = u + 1 := IntWalk.i64_in _ (by have := HU.out; have := HNN.out; omega)
        unfold Oper.wp
        simp [go_sem, d31, hw]
        exact hK _ _ (grown_refl _ _) hjj rfl
      · intro a ws f hle hjj hfi hun hdn hag hdep K Q hK
        have d3 : (a.tmps[3]?).getD undef = .pointer (some ⟨G, 0, none⟩) := eval_get (hag 3 (freeB_spec (by kernel_rfl)))
        rw [if_pos (show Region.wanted _ _ = true from rfl)]
        unfold Oper.wp
        simp [go_sem, d3]
        exact hK _ _ (grown_refl _ _) hjj rfl
      · intro a ws f hle hjj hfi hun hdn hag hdep K Q hK
        have d4 : (a.tmps[4]?).getD undef = .pointer (some ⟨ks, 0, none⟩) := eval_get (hag 4 (freeB_spec (by kernel_rfl)))
        rw [if_pos (show Region.wanted _ _ = true from rfl)]
        unfold Oper.wp
        simp [go_sem, d4]
        exact hK _ _ (grown_refl _ _) hjj rfl
      · intro a ws f hle hjj hfi hun hdn hag hdep K Q hK
        have d34 : (a.tmps[34]?).getD undef = .pointer (some ⟨ks, 0, none⟩) := eval_get (dep_of hdep 3 34 rfl (by kernel_rfl) rfl rfl)
        rw [if_pos (show Region.wanted _ _ = true from rfl)]
        have y0 := Go.Joins.cell_of_block ((hle.block ks HKl.out HKg.out).trans HKb.out) 0
        unfold Oper.wp
        simp [go_sem, d34, y0]
        exact hK _ _ (grown_refl _ _) hjj rfl
      · intro a ws f hle hjj hfi hun hdn hag hdep K Q hK
        have d35 : (a.tmps[35]?).getD undef = .int .i64 (N : Int) := eval_get (dep_of hdep 4 35 rfl (by kernel_rfl) rfl rfl)
        rw [if_pos (show Region.wanted _ _ = true from rfl)]
        have hw : IntKind.i64.wrap ((N : Int) - 1) = (N : Int) - 1 := IntWalk.i64_in _ (by have := HNN.out; omega)
        unfold Oper.wp
        simp [go_sem, d35, hw]
        exact hK _ _ (grown_refl _ _) hjj rfl
      · intro a ws f hle hjj hfi hun hdn hag hdep K Q hK
        have d33 : (a.tmps[33]?).getD undef = .pointer (some ⟨G, 0, none⟩) := eval_get (dep_of hdep 2 33 rfl (by kernel_rfl) rfl rfl)
        have d36 : (a.tmps[36]?).getD undef = .int .i64 ((N : Int) - 1) := eval_get (dep_of hdep 5 36 rfl (by kernel_rfl) rfl rfl)
        rw [if_pos (show Region.wanted _ _ = true from rfl)]
        obtain ⟨mm, hdm⟩ := hjj
        have hcon := next_any w.heap.size G A c L mm ((N : Int) - 1) ws hdm hL (by have := HNN.out; omega)
        unfold Oper.wp
        simp [go_sem, d33, d36]
        refine hcon.mono ?_
        rintro e w9 ⟨r, m9, rfl, hr0, hr1, hd9, hg9⟩
        exact hK _ _ hg9 ⟨m9, hd9⟩ ⟨r, hr0, by have := HNN.out; omega, rfl⟩
      · intro a ws f hle hjj hfi hun hdn hag hdep K Q hK
        have d32 : (a.tmps[32]?).getD undef = .int .i64 (u + 1) := eval_get (dep_of hdep 1 32 rfl (by kernel_rfl) rfl rfl)
        have d37 : (fun q0 _ => ∃ y : Int, 0 ≤ y ∧ y ≤ ((N : Int) - 2) ∧ q0 = .int .i64 y) (a.eval (.tmp 37)) ws := dep_of hdep 6 37 rfl (by kernel_rfl) rfl rfl
        rw [if_pos (show Region.wanted _ _ = true from rfl)]
        obtain ⟨y, hy0, hy1, e37⟩ := d37
        have e37 := eval_get e37
        have hw : IntKind.i64.wrap (u + 1 + y) = u + 1 + y := IntWalk.i64_in _ (by have := HU.out; have := HNN.out; omega)
        unfold Oper.wp
        simp [go_sem, d32, e37, hw]
        exact hK _ _ (grown_refl _ _) hjj ⟨u + 1 + y, by omega, by omega, rfl⟩
      · intro a ws f hle hjj hfi hun hdn hag hdep K Q hK
        have d4 : (a.tmps[4]?).getD undef = .pointer (some ⟨ks, 0, none⟩) := eval_get (hag 4 (freeB_spec (by kernel_rfl)))
        rw [if_pos (show Region.wanted _ _ = true from rfl)]
        unfold Oper.wp
        simp [go_sem, d4]
        exact hK _ _ (grown_refl _ _) hjj rfl
      · intro a ws f hle hjj hfi hun hdn hag hdep K Q hK
        have d39 : (a.tmps[39]?).getD undef = .pointer (some ⟨ks, 0, none⟩) := eval_get (dep_of hdep 8 39 rfl (by kernel_rfl) rfl rfl)
        rw [if_pos (show Region.wanted _ _ = true from rfl)]
        have y0 := Go.Joins.cell_of_block ((hle.block ks HKl.out HKg.out).trans HKb.out) 0
        unfold Oper.wp
        simp [go_sem, d39, y0]
        exact hK _ _ (grown_refl _ _) hjj rfl
      · intro a ws f hle hjj hfi hun hdn hag hdep K Q hK
        have d38 : (fun q0 _ => ∃ y : Int, (u + 1) ≤ y ∧ y ≤ (u + (N : Int) - 1) ∧ q0 = .int .i64 y) (a.eval (.tmp 38)) ws := dep_of hdep 7 38 rfl (by kernel_rfl) rfl rfl
        have d40 : (a.tmps[40]?).getD undef = .int .i64 (N : Int) := eval_get (dep_of hdep 9 40 rfl (by kernel_rfl) rfl rfl)
        rw [if_pos (show Region.wanted _ _ = true from rfl)]
        obtain ⟨y, hy0, hy1, e38⟩ := d38
        have e38 := eval_get e38
        have hn := HNN.out
        have hu := HU.out
        have hz0 : ¬ N = 0 := by omega
        have hz1 : (N : Int) ≠ 0 := by omega
        have hmod : y.tmod (N : Int) = y % (N : Int) := Int.tmod_eq_emod_of_nonneg (by omega)
        have q1 := Int.emod_nonneg y hz1
        have q2 := Int.emod_lt_of_pos y (show 0 < (N : Int) by omega)
        have q3 : y % (N : Int) ≠ u := by
          intro e
          by_cases hlt : y < (N : Int)
          · rw [Int.emod_eq_of_lt (by omega) hlt] at e; omega
          · have : y % (N : Int) = (y - N) % (N : Int) := by rw [Int.sub_emod_right]
            rw [this, Int.emod_eq_of_lt (by omega) (by omega)] at e; omega
        unfold Oper.wp
        simp [go_sem, d40, e38, hz0, hmod]
        exact hK _ _ (grown_refl _ _) hjj ⟨y % (N : Int), q1, q2, q3, rfl⟩
    · intro a ws f hle hjj hft hff hsz hdf hag hend
      have f31 : a.eval (.tmp 31) = .int .i64 u := end_of hend 0 31 (by decide) rfl rfl rfl
      have f32 : a.eval (.tmp 32) = .int .i64 (u + 1) := end_of hend 1 32 (by decide) rfl rfl rfl
      have f33 : a.eval (.tmp 33) = .pointer (some ⟨G, 0, none⟩) := end_of hend 2 33 (by decide) rfl rfl rfl
      have f34 : a.eval (.tmp 34) = .pointer (some ⟨ks, 0, none⟩) := end_of hend 3 34 (by decide) rfl rfl rfl
      have f35 : a.eval (.tmp 35) = .int .i64 (N : Int) := end_of hend 4 35 (by decide) rfl rfl rfl
      have f36 : a.eval (.tmp 36) = .int .i64 ((N : Int) - 1) := end_of hend 5 36 (by decide) rfl rfl rfl
      have f37 : (fun q0 _ => ∃ y : Int, 0 ≤ y ∧ y ≤ ((N : Int) - 2) ∧ q0 = .int .i64 y) (a.eval (.tmp 37)) ws := end_of hend 6 37 (by decide) rfl rfl rfl
      have f38 : (fun q0 _ => ∃ y : Int, (u + 1) ≤ y ∧ y ≤ (u + (N : Int) - 1) ∧ q0 = .int .i64 y) (a.eval (.tmp 38)) ws := end_of hend 7 38 (by decide) rfl rfl rfl
      have f39 : a.eval (.tmp 39) = .pointer (some ⟨ks, 0, none⟩) := end_of hend 8 39 (by decide) rfl rfl rfl
      have f40 : a.eval (.tmp 40) = .int .i64 (N : Int) := end_of hend 9 40 (by decide) rfl rfl rfl
      have f41 : (fun q0 _ => ∃ y : Int, 0 ≤ y ∧ y < (N : Int) ∧ y ≠ u ∧ q0 = .int .i64 y) (a.eval (.tmp 41)) ws := end_of hend 10 41 (by decide) rfl rfl rfl
      have ea := act_block 31 11 hsz hdf hag [31, 32, 33, 34, 35, 36, 37, 38, 39, 40, 41] (by kernel_rfl) (by kernel_rfl) (of_decide_eq_true (by kernel_rfl))
      clear hag hend hsz hdf
      simp only [List.map_cons, List.map_nil, f31, f32, f33, f34, f35, f36, f39, f40] at ea
      clear f31 f32 f33 f34 f35 f36 f39 f40
      generalize a.eval (.tmp 37) = x37 at ea f37
      generalize a.eval (.tmp 38) = x38 at ea f38
      generalize a.eval (.tmp 41) = x41 at ea f41
      simp only [List.take_succ_cons, List.take_zero, List.drop_succ_cons, List.drop_zero, List.cons_append, List.nil_append] at ea
      subst ea
      obtain ⟨v, hv0, hv1, hvu, e41⟩ := f41
      have HVV : Hid (0 ≤ v ∧ v < (N : Int)) := ⟨hv0, hv1⟩
      have HVU := Lib.hid hvu
      obtain ⟨m4, hd4⟩ := hjj
      have HL4 := Lib.hid (HL2.out.next hd4 hle)
      have HB : Hid (Below w.heap.size w ws) := HL4.out.bel
      have S := Lib.hid HL4.out.sx
      have HM := Lib.hid (back_math HV.out HTM.out HU.out HVV.out hvu)
      subst e41
      clear f37 f38 hv0 hv1 hvu hft hff hle hd4 HL2 HL4 HD2 HJ0 HKb HKl HKg
      obtain ⟨q, HQ⟩ : ∃ q, Hid (Ls.runL l [⟨2, 30, u, v, 0, 0, 0⟩] = q) := ⟨_, rfl⟩
      obtain ⟨n1, HN1⟩ : ∃ n1, Hid (Ls.numL l [⟨2, 30, u, v, 0, 0, 0⟩] = n1) := ⟨_, rfl⟩
      have HA1 : Hid (Ls.allR N l [⟨1, 30, v, u, 3, 0, -1⟩, ⟨2, 30, u, v, 0, 0, 0⟩] = (q, 2, 0)) := by
        show _ = _
        rw [all_good HV.out (by intro e he; simp at he; rcases he with rfl | rfl; exact HM.out.1; exact HM.out.2.1), HM.out.2.2.2.1, HM.out.2.2.2.2.1, HQ.out]
        rfl
      have HA2 : Hid (Ls.allR N l [⟨2, 30, u, v, 0, 0, 0⟩] = (q, (n1 : Int), 0)) := by
        show _ = _
        rw [all_good HV.out (by intro e he; simp at he; subst he; exact HM.out.2.1), HQ.out, HN1.out]
      have hn1 : n1 ≤ 1 := by rw [← HN1.out]; exact HM.out.2.2.2.2.2
      have HA3 : Hid (Ls.apE N l ⟨3, 30, u, 0, 0, 0, 0⟩ = 0) := ap_good HV.out HM.out.2.2.1
      obtain ⟨q3, HQ3⟩ : ∃ q3, Hid ((l.filter fun y => !Ls.has u y) = q3) := ⟨_, rfl⟩
      have HA4 : Hid (Ls.nextL l ⟨3, 30, u, 0, 0, 0, 0⟩ = q3) := by show _ = _; rw [leave_eq, HQ3.out]
      have HQL : Hid (q.length ≤ 10001) := by show _ ≤ _; rw [← HQ.out]; have := run_len (l := l) (es := [⟨2, 30, u, v, 0, 0, 0⟩]); have := HL.out; simp at *; omega
      have HL3 : Hid (q3.length ≤ l.length) := by show _ ≤ _; rw [← HQ3.out]; exact List.length_filter_le _ _
      have HVQ3 : Hid (∀ x ∈ l, Ls.findS N q3 x.u x.v < 0 ↔ Ls.has u x = true) := by show ∀ _ ∈ _, _; rw [← HQ3.out]; exact fun x hx => find_fact HV.out u x hx
      have HLn := HL.out
      obtain ⟨wa, hwa⟩ : ∃ wa, Hid (ws.alloc (.cells #[.int .i64 2, .int .i64 30, .int .i64 u, .int .i64 v, .int .i64 0, .int .i64 0, .int .i64 0] 26) = wa) := ⟨_, rfl⟩
      obtain ⟨ke, hke⟩ : ∃ ke, Hid (ws.heap.size = ke) := ⟨_, rfl⟩
      have hzs : Hid (ke + 1 = wa.heap.size) := by show _ = _; rw [← hwa.out, ← hke.out]; simp
      have E : Hid (EX ke ⟨2, 30, u, v, 0, 0, 0⟩ wa) := by show EX _ _ _; rw [← hwa.out, ← hke.out]; exact heap_alloc_new _ _
      have BA : Hid (Below ws.heap.size ws wa) := by show Below _ _ _; rw [← hwa.out]; exact below_new _ _
      clear HM
      have s0 := S.out.c0; have s1 := S.out.c1; have sl := S.out.lt
      go_wp2_with fail
      rw [hwa.out]
      simp only [hke.out, hzs.out]
      replace S := Lib.hid (S.out.go BA.out)
      replace HB := Lib.hid (below_up HB.out BA.out)
      clear s0 s1 sl
      refine (lall_any N As (some ⟨wa.heap.size, 0, none⟩) cs 2 l [⟨1, 30, v, u, 3, 0, -1⟩, ⟨2, 30, u, v, 0, 0, 0⟩] _ (S.out.go (below_new _ _)).rl (RV_two wa ⟨1, 30, v, u, 3, 0, -1⟩ ⟨2, 30, u, v, 0, 0, 0⟩) (by simp; omega)).mono ?_
      rintro e va ⟨na, la, Aa, ca, rfl, hla, hna, hrl, hb⟩
      rw [HA1.out] at hla hna ⊢
      rw [if_pos rfl] at hna
      have hla2 : q = la := hla.symm
      subst hla2; subst hna
      replace S := Lib.hid ((S.out.go (below_new _ _)).go hb)
      replace E := Lib.hid ((E.out.go (below_new _ _)).go hb)
      replace HB := Lib.hid (below_up (below_up HB.out (below_new _ _)) hb)
      have HRa := Lib.hid hrl
      clear hb hrl BA
      obtain ⟨ka, hka⟩ : ∃ k, Hid (va.heap.size = k) := ⟨_, rfl⟩
      obtain ⟨ua, hua⟩ : ∃ k, Hid (va.alloc (.cells #[.int .i64 (N : Nat), .slice Aa q.length ca] 24) = k) := ⟨_, rfl⟩
      have hza : Hid (ka + 1 = ua.heap.size) := by show _ = _; rw [← hua.out, ← hka.out]; simp
      have s0 := S.out.c0; have s1 := S.out.c1; have sl := S.out.lt
      obtain ⟨e0, e1, e2, e3, e4, e5, e6⟩ := E.out.cs
      have el := E.out.lt
      dsimp only at e0 e1 e2 e3 e4 e5 e6
      go_wp2_with fail
      rw [hua.out]
      simp only [hka.out, hza.out]
      clear s0 s1 sl e0 e1 e2 e3 e4 e5 e6 el
      have BU : Hid (Below va.heap.size va ua) := by show Below _ _ _; rw [← hua.out]; exact below_new _ _
      have SA : Hid (SX ka N Aa ca q ua) := by show SX _ _ _ _ _ _; rw [← hka.out, ← hua.out]; exact SX.new HRa.out _
      replace S := Lib.hid (S.out.go BU.out)
      replace E := Lib.hid (E.out.go BU.out)
      replace HB := Lib.hid (below_up HB.out BU.out)
      refine (lall_any N As (some ⟨ua.heap.size, 0, none⟩) cs 1 l [⟨2, 30, u, v, 0, 0, 0⟩] _ (S.out.go (below_new _ _)).rl (RV_new1 ua ⟨2, 30, u, v, 0, 0, 0⟩) (by simp; omega)).mono ?_
      rintro e vb ⟨nb, lb, Ab, cb, rfl, hlb, hnb, hrl, hb⟩
      rw [HA2.out] at hlb hnb ⊢
      rw [if_pos rfl] at hnb
      have hlb2 : q = lb := hlb.symm
      subst hlb2; subst hnb
      replace S := Lib.hid ((S.out.go (below_new _ _)).go hb)
      replace SA := Lib.hid ((SA.out.go (below_new _ _)).go hb)
      replace HB := Lib.hid (below_up (below_up HB.out (below_new _ _)) hb)
      have HRb := Lib.hid hrl
      clear hb hrl BU E
      obtain ⟨kb, hkb⟩ : ∃ k, Hid (vb.heap.size = k) := ⟨_, rfl⟩
      obtain ⟨ub, hub⟩ : ∃ k, Hid (vb.alloc (.cells #[.int .i64 (N : Nat), .slice Ab q.length cb] 24) = k) := ⟨_, rfl⟩
      have s0 := S.out.c0; have s1 := S.out.c1; have sl := S.out.lt
      go_wp2_with fail
      rw [hub.out]
      try simp only [hkb.out]
      clear s0 s1 sl
      have BU : Hid (Below vb.heap.size vb ub) := by show Below _ _ _; rw [← hub.out]; exact below_new _ _
      have SB : Hid (SX kb N Ab cb q ub) := by show SX _ _ _ _ _ _; rw [← hkb.out, ← hub.out]; exact SX.new HRb.out _
      replace S := Lib.hid (S.out.go BU.out)
      replace SA := Lib.hid (SA.out.go BU.out)
      replace HB := Lib.hid (below_up HB.out BU.out)
      refine (lapply_any N As cs l 3 30 u 0 0 0 0 _ S.out.rl (by omega)).mono ?_
      rintro e vc ⟨nc, lc, evc, Ac, A1, cc, c1, rfl, hif, hrl, hrv, hb⟩
      rw [HA3.out, if_pos rfl, HA4.out] at hif
      obtain ⟨he1, he2, he3⟩ := hif
      have he4 := he2.symm
      subst he4; subst he1; subst he3
      rw [HA3.out]
      replace S := Lib.hid (S.out.go hb)
      replace SA := Lib.hid (SA.out.go hb)
      replace SB := Lib.hid (SB.out.go hb)
      replace HB := Lib.hid (below_up HB.out hb)
      have HRc := Lib.hid hrl
      clear hb hrl hrv BU
      obtain ⟨kc, hkc⟩ : ∃ k, Hid (vc.heap.size = k) := ⟨_, rfl⟩
      obtain ⟨uc, huc⟩ : ∃ k, Hid (vc.alloc (.cells #[.int .i64 (N : Nat), .slice Ac q3.length cc] 24) = k) := ⟨_, rfl⟩
      have s0 := S.out.c0; have s1 := S.out.c1; have sl := S.out.lt
      have a0 := SA.out.c0; have a1 := SA.out.c1; have al := SA.out.lt
      have b0 := SB.out.c0; have b1 := SB.out.c1; have bl := SB.out.lt
      obtain ⟨m, HMc⟩ : ∃ m, Hid ((Ls.chg l ⟨3, 30, u, 0, 0, 0, 0⟩).length = m) := ⟨_, rfl⟩
      rw [HMc.out]
      go_wp2_with fail
      rw [huc.out]
      try simp only [hkc.out]
      clear s0 s1 sl a0 a1 al b0 b1 bl
      have BU : Hid (Below vc.heap.size vc uc) := by show Below _ _ _; rw [← huc.out]; exact below_new _ _
      have SC : Hid (SX kc N Ac cc q3 uc) := by show SX _ _ _ _ _ _; rw [← hkc.out, ← huc.out]; exact SX.new HRc.out _
      replace S := Lib.hid (S.out.go BU.out)
      replace SA := Lib.hid (SA.out.go BU.out)
      replace SB := Lib.hid (SB.out.go BU.out)
      replace HB := Lib.hid (below_up HB.out BU.out)
      have CSm := sameS_any N N Aa Ab ca cb q q uc SA.out.rl SB.out.rl (by have := HQL.out; omega)
      rw [show sameS N N q q = true by simp [sameS]] at CSm
      refine CSm.mono ?_
      rintro e v8 ⟨rfl, hb8⟩
      replace S := Lib.hid (S.out.go hb8)
      replace SC := Lib.hid (SC.out.go hb8)
      replace HB := Lib.hid (below_up HB.out hb8)
      clear hb8 SA SB BU
      have s0 := S.out.c0; have s1 := S.out.c1; have sl := S.out.lt
      obtain ⟨n, HNl⟩ : ∃ n, Hid (l.length = n) := ⟨_, rfl⟩
      rw [HNl.out] at s1
      have hn10 : n ≤ 10000 := by rw [← HNl.out]; exact HLn
      have f1 : decide ((n1 : Int) > 1) = false := by rw [decide_eq_false_iff_not]; omega
      go_wp2
      clear s0 s1 sl
      go_loopw [99] (fun i wr => ∃ (k : Nat), k ≤ n ∧ i = .int .i64 k ∧ Hid (Below v8.heap.size v8 wr)) (fun i _ => n - (RowKit.intOf i).toNat)
      case atStart => exact ⟨0, Nat.zero_le _, rfl, Below.refl _ _⟩
      case round =>
        obtain ⟨k, hk, rfl, HBR⟩ := hrel
        have Sr := Lib.hid (S.out.go HBR.out)
        have SCr := Lib.hid (SC.out.go HBR.out)
        by_cases hlt : k < n
        · obtain ⟨b, off, ⟨xu, xv, xw, xl, xs, xt⟩, rfl, hb, hx, c0, c1, c2, c3, c4, c5⟩ := RL.at_ (k := k) Sr.out.rl (by rw [HNl.out]; exact hlt)
          dsimp only at c0 c1 c2 c3 c4 c5
          have HF := Lib.hid (HVQ3.out _ (List.mem_of_getElem? hx))
          have HBX : Hid (Below wr.heap.size wr (wr.alloc (.cells #[.int .i64 xu, .int .i64 xv, .int .i64 xw, .int .i64 xl, .int .i64 xs, .int .i64 xt] 62))) := below_new _ _
          have d0 := SCr.out.c0; have d1 := SCr.out.c1; have dl := SCr.out.lt
          obtain ⟨fv, HFV⟩ : ∃ fv, Hid (Ls.findS N q3 xu xv = fv) := ⟨_, rfl⟩
          have HF2 : Hid (fv < 0 ↔ (xu = u ∨ xv = u)) := by
            have := HF.out
            dsimp only at this
            rw [HFV.out] at this
            show _ ↔ _
            rw [this]
            simp [Ls.has]
          have HSC2 := Lib.hid (SCr.out.go HBX.out)
          have C24 : Hid (∀ x' : More (wr.alloc (.cells #[.int .i64 xu, .int .i64 xv, .int .i64 xw, .int .i64 xl, .int .i64 xs, .int .i64 xt] 62)), Calls Try.prog 24 #[.agg #[.int .i64 (N : Nat), .slice Ac q3.length cc], .int .i64 xu, .int .i64 xv] (over _ x') fun e w' => e = .returned (.int .i64 fv) ∧ Below (over _ x').heap.size (over _ x') w') := by
            intro x'
            have := lfind_any N Ac cc q3 xu xv (over _ x') (HSC2.out.rl.up (over_below _ x')) (by have := HL3.out; omega)
            rw [HFV.out] at this
            exact this
          clear hx HF
          have hif2 := HF2.out
          by_cases hu1 : xu = u
          · have g1 : (xu == u) = true := by simp [hu1]
            have hfv : fv < 0 := hif2.2 (.inl hu1)
            clear hif2
            subst hu1
            go_wp2
            refine wp_region_over (by kernel_rfl) (by kernel_rfl) ?_
            repeat (go_big_quiet_step (first | (go_at_call 24; exact calls_over (C24.out _))))
            refine wpQuiet_nil ?_
            rintro _ ⟨zz, rfl⟩
            have hbz := Lib.hid (over_below _ zz)
            clear c0 c1 c2 c3 c4 c5 d0 d1 dl
            go_wp2
            go_roundw
            case rel => exact ⟨k + 1, hlt, by go_num, below_up HBR.out (below_up HBX.out hbz.out)⟩
            case measure => simp [RowKit.intOf]; omega
          · have g1 : (xu == u) = false := by simpa using hu1
            by_cases hv1 : xv = u
            · have g2 : (xv == u) = true := by simp [hv1]
              have hfv : fv < 0 := hif2.2 (.inr hv1)
              clear hif2
              subst hv1
              go_wp2
              refine wp_region_over (by kernel_rfl) (by kernel_rfl) ?_
              repeat (go_big_quiet_step (first | (go_at_call 24; exact calls_over (C24.out _))))
              refine wpQuiet_nil ?_
              rintro _ ⟨zz, rfl⟩
              have hbz := Lib.hid (over_below _ zz)
              clear c0 c1 c2 c3 c4 c5 d0 d1 dl
              go_wp2
              go_roundw
              case rel => exact ⟨k + 1, hlt, by go_num, below_up HBR.out (below_up HBX.out hbz.out)⟩
              case measure => simp [RowKit.intOf]; omega
            · have g2 : (xv == u) = false := by simpa using hv1
              have hfv : 0 ≤ fv := by
                have : ¬ fv < 0 := fun h => by rcases hif2.1 h with h | h; exact hu1 h; exact hv1 h
                omega
              clear hif2 hu1 hv1
              go_wp2
              refine wp_region_over (by kernel_rfl) (by kernel_rfl) ?_
              repeat (go_big_quiet_step (first | (go_at_call 24; exact calls_over (C24.out _))))
              refine wpQuiet_nil ?_
              rintro _ ⟨zz, rfl⟩
              have hbz := Lib.hid (over_below _ zz)
              clear c0 c1 c2 c3 c4 c5 d0 d1 dl
              go_wp2
              go_roundw
              case rel => exact ⟨k + 1, hlt, by go_num, below_up HBR.out (below_up HBX.out hbz.out)⟩
              case measure => simp [RowKit.intOf]; omega
        · obtain rfl : k = n := by omega
          have d0 := SCr.out.c0; have d1 := SCr.out.c1; have dl := SCr.out.lt
          have s0 := Sr.out.c0; have s1 := Sr.out.c1; have sl := Sr.out.lt
          rw [HNl.out] at s1
          have hl3 : q3.length ≤ k := by rw [← HNl.out]; exact HL3.out
          have f2 : decide ((q3.length : Int) ≤ (k : Int)) = true := by rw [decide_eq_true_eq]; omega
          have f3 : decide (q3.length ≤ k) = true := by rw [decide_eq_true_eq]; omega
          go_wp2_with fail
          refine (awake_any _).mono ?_
          rintro e v9 ⟨rfl, hb9⟩
          have HBE := Lib.hid (below_up (below_up HB.out HBR.out) hb9)
          clear hb9
          go_wp2
          go_ret
          exact ⟨rfl, HBE.out⟩
end Go.Proofs.Ytagkpkkbkeefbaa
