/-
  The walk of GraphChecks.
-/
import Derived.Test.YtioohmhllajifaaLd
import Derived.Test.YtioohmhllajifaaGm
import Derived.Test.YtioohmhllajifaaIv
namespace Go.Proofs.Ytioohmhllajifaa
open Go.RowKit Go.Lib

/-- a list of edges that is read, none of it in block g -/
def KE (g : Nat) (W : World) (A : Option Addr) (c : Nat) (l : List Ed) : Prop := RE W.heap.size W A c l ∧ ∀ ad : Addr, A = some ad → 0 < l.length → ad.block ≠ g
section
variable {g : Nat} {W W' : World} {A : Option Addr} {c : Nat} {l : List Ed}
theorem KE.only (h : KE g W A c l) (hg : W.grownBy W' (some g)) : KE g W' A c l := by
  refine ⟨⟨h.1.1, h.1.2.1, fun h0 => ?_⟩, h.2⟩
  obtain ⟨ad, e, hb, hc⟩ := h.1.2.2 h0
  refine ⟨ad, e, Nat.lt_of_lt_of_le hb hg.size, fun j x hx => ?_⟩
  have hne := h.2 ad e h0
  rw [← hc j x hx]
  have eb : (ad.add j).block = ad.block := by unfold Addr.add; split <;> rfl
  exact World.cell?_of_block (a := ad.add j) (by rw [eb]; exact hg.block _ hb (fun e => hne (by injection e)))
theorem KE.go (h : KE g W A c l) (hb : Below W.heap.size W W') : KE g W' A c l := ⟨h.1.up hb, h.2⟩
theorem KE.of_own (h : W.ownsRow (g + 1) 52 2 (.slice A l.length c) l.length (ev l)) : KE g W A c l := by
  refine ⟨RE.of_own h, fun ad e h0 => ?_⟩
  obtain ⟨b, e', hb, _⟩ := own_spotE h h0
  rw [e'] at e
  injection e with e
  rw [← e]
  show b ≠ g
  omega
theorem KE.low (h : RE g W A c l) (hg : g ≤ W.heap.size) : KE g W A c l := by
  refine ⟨h.more hg, fun ad e h0 => ?_⟩
  obtain ⟨ad', e', hb, _⟩ := h.2.2 h0
  rw [e'] at e
  injection e with e
  rw [← e]; omega
end
theorem grown_new (w : World) (g : Nat) (o : Obj) : w.grownBy (w.alloc o) (some g) := grown_below (grown_refl w g) (alloc_new w o) (Nat.le_refl _)

/-- a graph as a value of which the list is not far off -/
def FG (g k : Nat) (M : Int) : Fact := fun z W => ∃ (n : Int) (l : List Ed) (A : Option Addr) (c : Nat), z = .agg #[.int .i64 n, .slice A l.length c] ∧ l.length ≤ k ∧ inM M l ∧ W.ownsRow (g + 1) 52 2 (.slice A l.length c) l.length (ev l)
theorem FG_mono {g k : Nat} {M : Int} {v : Value} {w w' : World} (h : FG g k M v w) (hg : w.grownBy w' (some g)) : FG g k M v w' := by
  obtain ⟨n, l, A, c, h1, h2, h3, h4⟩ := h
  exact ⟨n, l, A, c, h1, h2, h3, own_kept h4 hg (Nat.lt_succ_self g)⟩
structure GQ where
  n : Int
  A : Option Addr
  c : Nat
  l : List Ed
def gv : List GQ → List Value
  | [] => []
  | q :: r => .int .i64 q.n :: .slice q.A q.l.length q.c :: gv r
theorem gv_at : ∀ (G : List GQ) (k : Nat) (q : GQ), G[k]? = some q → (gv G)[k * 2]? = some (.int .i64 q.n) ∧ (gv G)[k * 2 + 1]? = some (.slice q.A q.l.length q.c)
  | [], k, q, h => by simp at h
  | p :: r, 0, q, h => by simp at h; subst h; exact ⟨rfl, rfl⟩
  | p :: r, k + 1, q, h => by
    obtain ⟨h1, h2⟩ := gv_at r k q (by simpa using h)
    rw [show (k + 1) * 2 = k * 2 + 1 + 1 by omega]
    exact ⟨by simpa [gv] using h1, by simpa [gv] using h2⟩
/-- a list of four graphs -/
def F4 (g : Nat) : Fact := fun z W => ∃ (x : Nat) (G : List GQ), z = .slice (some ⟨x, 0, none⟩) 4 4 ∧ x ≠ g ∧ W.heap[x]? = some (.cells (gv G).toArray 24) ∧ G.length = 4 ∧ ∀ q ∈ G, q.l.length ≤ 65536 ∧ KE g W q.A q.c q.l
theorem F4_mono {g : Nat} {v : Value} {w w' : World} (h : F4 g v w) (hg : w.grownBy w' (some g)) : F4 g v w' := by
  obtain ⟨x, G, h1, h2, h3, h4, h5⟩ := h
  exact ⟨x, G, h1, h2, (hg.block x (lt_of_some h3) (fun e => h2 (by injection e))).trans h3, h4, fun q hq => ⟨(h5 q hq).1, (h5 q hq).2.only hg⟩⟩
def J6 (base g : Nat) (A : Option Addr) (c : Nat) (L : List Int) (_f : Nat → Bool) (W : World) : Prop := ∃ m, Dk base W g A c L m
/-- a list of three numbers -/
def F3 (xs : List Int) : Fact := fun z W => ∃ y : Nat, z = .slice (some ⟨y, 0, none⟩) 3 3 ∧ RD W (some ⟨y, 0, none⟩) 3 xs
theorem F3_mono (xs : List Int) : Mono (F3 xs) := fun _ _ _ ⟨y, h1, h2⟩ hb => ⟨y, h1, h2.go hb⟩

/-- what stands in the loops -/
structure CJ (w : World) (g g4 : Nat) (A : Option Addr) (c : Nat) (L : List Int) (n : Int) (A1 : Option Addr) (c1 : Nat) (l : List Ed) (x : Nat) (G : List GQ) (Al : Option Addr) (cl : Nat) (ll : List Ed) (wr : World) : Prop where
  ls : LS w g g4 A c L n A1 c1 l wr
  b : wr.heap[x]? = some (.cells (gv G).toArray 24)
  ok : ∀ q ∈ G, q.l.length ≤ 65536 ∧ RE wr.heap.size wr q.A q.c q.l
  rl : RE wr.heap.size wr Al cl ll
section
variable {w : World} {g g4 : Nat} {A : Option Addr} {c : Nat} {L : List Int} {n : Int} {A1 : Option Addr} {c1 : Nat} {l : List Ed} {x : Nat} {G : List GQ} {Al : Option Addr} {cl : Nat} {ll : List Ed} {wr w' : World}
theorem CJ.go (h : CJ w g g4 A c L n A1 c1 l x G Al cl ll wr) (hb : Below wr.heap.size wr w') : CJ w g g4 A c L n A1 c1 l x G Al cl ll w' :=
  ⟨h.ls.go hb, (hb.block _ (lt_of_some h.b)).trans h.b, fun q hq => ⟨(h.ok q hq).1, (h.ok q hq).2.up hb⟩, h.rl.up hb⟩
theorem CJ.at_ (h : CJ w g g4 A c L n A1 c1 l x G Al cl ll wr) {k : Nat} {q : GQ} (hq : G[k]? = some q) : wr.cell? ⟨x, k * 2, none⟩ = some (.int .i64 q.n) ∧ wr.cell? ⟨x, k * 2 + 1, none⟩ = some (.slice q.A q.l.length q.c) := by
  obtain ⟨h1, h2⟩ := gv_at G k q hq
  have e1 := Go.Joins.cell_of_block h.b (k * 2)
  have e2 := Go.Joins.cell_of_block h.b (k * 2 + 1)
  exact ⟨e1.trans (by simpa using h1), e2.trans (by simpa using h2)⟩
end
theorem len_fold (l : List Ed) : ∀ s : List Ed, (l.foldl (fun s e => insE (edg e.1 e.2) s) s).length ≤ s.length + l.length := by
  induction l with
  | nil => intro s; simp
  | cons e r ih =>
    intro s
    rw [List.foldl_cons]
    have h1 := ih (insE (edg e.1 e.2) s)
    have h2 := len_insE_le (edg e.1 e.2) s
    simp only [List.length_cons]
    omega
theorem len_ofl_le (l : List Ed) : (ofl l).length ≤ l.length := by have := len_fold l []; simpa [ofl] using this

set_option maxHeartbeats 8000000 in
set_option maxRecDepth 100000 in
theorem checks_any (nR : Int) (AR : Option Addr) (cR : Nat) (lR : List Ed) (A : Option Addr) (c : Nat) (L : List Int) (u : Int) (w : World) (hR : RE w.heap.size w AR cR lR) (h : RD w A c L) (hL : L.length ≤ 17592186044416) :
    Calls Try.prog 3 #[.agg #[.int .i64 nR, .slice AR lR.length cR], .slice A L.length c, .int .i64 u] w fun e w' => e = .returned (.bool true) ∧ Below w.heap.size w w' := by
  obtain ⟨g3, Hg3⟩ : ∃ x, Hid (w.heap.size = x) := ⟨_, rfl⟩
  obtain ⟨W1, HW1⟩ : ∃ x, Hid (w.alloc (.cells #[.int .i64 nR, .slice AR lR.length cR] 24) = x) := ⟨_, rfl⟩
  have HB1 : Hid (Below w.heap.size w W1) := by show Below _ _ _; rw [← HW1.out]; exact alloc_new _ _
  have HX1 : Hid (BX g3 nR AR cR lR W1) := by show BX _ _ _ _ _ _; rw [← HW1.out, ← Hg3.out]; exact BX.new hR _
  have HD1 := Lib.hid (h.go HB1.out)
  clear h hR
  by_cases h300 : 300 < lR.length
  · have hd300 : decide ((300 : Int) < (lR.length : Int)) = true := by rw [decide_eq_true_iff]; omega
    go_enter Try.func3, Try.ntmps3
    go_wp2_with fail
    refine (awake3_any _).mono ?_
    rw [HW1.out]
    rintro e w9 ⟨rfl, hb9⟩
    have HB9 := Lib.hid (HB1.out.trans (hb9.mono HB1.out.size))
    go_wp2
    go_ret
    exact ⟨rfl, HB9.out⟩
  have hd300 : decide ((300 : Int) < (lR.length : Int)) = false := by rw [decide_eq_false_iff_not]; omega
  go_enter Try.func3, Try.ntmps3
  go_wp2_with fail
  rw [HW1.out, Hg3.out]
  refine (new_any A c L W1 HD1.out).mono ?_
  rintro e w1 ⟨rfl, hd, hb⟩
  have HD := Lib.hid hd
  have HB := Lib.hid hb
  clear hd hb
  have HGW : Hid (W1.heap.size < w1.heap.size) := HD.out.lt
  obtain ⟨g, Hg⟩ : ∃ x, Hid (W1.heap.size = x) := ⟨_, rfl⟩
  go_wp2_with fail
  refine (graph_any W1.heap.size W1.heap.size A c L 0 8 _ HD.out hL (by omega)).mono ?_
  rintro e w2 ⟨N, l, A1, c1, m, rfl, hN, hck, hl, ho, hdk, hgr⟩
  obtain ⟨g4, Hg4⟩ : ∃ x, Hid (w2.heap.size = x) := ⟨_, rfl⟩
  obtain ⟨W2, HW2⟩ : ∃ x, Hid (w2.alloc (.cells #[.int .i64 (N : Int), .slice A1 l.length c1] 24) = x) := ⟨_, rfl⟩
  have HS : Hid (LS W1 g g4 A c L (N : Int) A1 c1 l W2) := by show LS _ _ _ _ _ _ _ _ _ _ _; rw [← HW2.out, ← Hg4.out, ← Hg.out]; exact LS.start (n := (N : Int)) (Nat.le_refl _) HD.out.lt HB.out hdk hgr ho
  have HM := Lib.hid (inM_valid hck)
  have HZ : Hid (Below W1.heap.size W1 w2) := HB.out.grown hgr HB.out.size (fun k hk => by injection hk with hk; omega)
  have z2 : g3 < w2.heap.size := Nat.lt_of_lt_of_le HX1.out.lt HZ.out.size
  clear hck ho hdk hgr HD HB HGW HZ
  go_wp2_with fail
  rw [HW2.out, Hg4.out, Hg.out]
  obtain ⟨m0, hd0⟩ := HS.out.dk
  refine (raw_any W1.heap.size g A c L m0 N _ hd0 hL (by omega)).mono ?_
  rintro e w3 ⟨ll, Al, cl, m3, rfl, hll, -, ho, hdk, hgr⟩
  have HS3 := Lib.hid (HS.out.next hdk hgr)
  have HL3 : Hid (w3.ownsRow (g + 1) 52 2 (.slice Al ll.length cl) ll.length (ev ll)) := Go.Joins.ownsRow_le ho (by have := HS.out.lt; have := HS.out.l4; omega)
  clear hd0 ho hdk hgr HS z2
  obtain ⟨Y, HY⟩ : ∃ x, Hid (W1.heap.size = x) := ⟨_, rfl⟩
  have HKR : Hid (KE g w3 AR cR lR) := by show KE _ _ _ _ _; rw [← Hg.out]; exact KE.low (HX1.out.re.go HS3.out.bel) HS3.out.bel.size
  have HXB : Hid (BX g3 nR AR cR lR w3) := HX1.out.go HS3.out.bel
  have HNE : Hid (g3 ≠ g) := by show _ ≠ _; rw [← Hg.out]; have := HX1.out.lt; omega
  have y0 := HXB.out.c0; have y1 := HXB.out.c1; have yl := HXB.out.lt; have z0 := HS3.out.c0; have z1 := HS3.out.c1'; have z2 := HS3.out.lt
  go_wp2_with fail
  clear y0 y1 yl z0 z1 z2
  refine wp_region_at 13 88 (fun u v => u.grownBy v (some g)) (J6 W1.heap.size g A c L) [(fun z _ => z = .agg #[.int .i64 nR, .slice AR lR.length cR]), (fun z _ => z = .agg #[.int .i64 (N : Int), .slice A1 l.length c1]), (fun z _ => z = .pointer (some ⟨g, 0, none⟩)), (fun z _ => z = .agg #[.int .i64 (N : Int), .slice A1 l.length c1]), (FG g 10001 66), (fun z _ => z = .pointer (some ⟨g, 0, none⟩)), (fun z _ => z = .pointer (some ⟨g, 0, none⟩)), (fun z _ => z = .agg #[.int .i64 (N : Int), .slice A1 l.length c1]), (FG g 10001 66), (FG g 10002 68), (F4 g), (fun z _ => z = .int .i64 4), (fun z _ => z = .int .i64 0)] (by kernel_rfl) (by kernel_rfl) rfl (fun _ _ _ h1 h2 => grown_trans h1 h2) (only_drewN 1 g) (by obtain ⟨m9, h9⟩ := HS3.out.dk; exact ⟨m9, h9.go ⟨rfl, rfl, rfl, Nat.le_refl _, fun _ _ => rfl⟩⟩) ?_ ?_ ?_
  · intro R hR
    simp only [List.mem_cons, List.not_mem_nil, or_false] at hR
    rcases hR with rfl | rfl | rfl | rfl | rfl | rfl | rfl | rfl | rfl | rfl | rfl | rfl | rfl
    · exact fun _ _ _ h _ => h
    · exact fun _ _ _ h _ => h
    · exact fun _ _ _ h _ => h
    · exact fun _ _ _ h _ => h
    · exact fun _ _ _ h hle => FG_mono h hle
    · exact fun _ _ _ h _ => h
    · exact fun _ _ _ h _ => h
    · exact fun _ _ _ h _ => h
    · exact fun _ _ _ h hle => FG_mono h hle
    · exact fun _ _ _ h hle => FG_mono h hle
    · exact fun _ _ _ h hle => F4_mono h hle
    · exact fun _ _ _ h _ => h
    · exact fun _ _ _ h _ => h
  · simp only [List.take_succ_cons, List.take_zero]
    refine ⟨?_, ?_, ?_, ?_, ?_, ?_, ?_, ?_, ?_, ?_, ?_, ?_, ?_, trivial⟩
    · intro a ws f hle hjj hfi hun hag hdep K Q hK
      have d3 : (a.tmps[3]?).getD undef = .pointer (some ⟨g3, 0, none⟩) := eval_get (hag 3 (freeB_spec (by kernel_rfl)))
      rw [if_pos (show Region.wanted _ _ = true from rfl)]
      have HX2 := HXB.out
      have b3 := (hle.block _ HX2.lt (fun e => HNE.out (by injection e))).trans HX2.b
      have y0 := Go.Joins.cell_of_block b3 0; have y1 := Go.Joins.cell_of_block b3 1; have yl := lt_of_some b3
      obtain ⟨mq, hdq⟩ := hjj
      have HS4 := HS3.out.next hdq hle
      have z0 := HS4.c0; have z1 := HS4.c1'; have z2 := HS4.lt
      have hjj : J6 W1.heap.size g A c L f ws := ⟨mq, hdq⟩
      simp at y0 y1
      clear b3 HS4 hdq HX2
      unfold Oper.wp
      simp [go_sem, *]
      exact hK _ _ (grown_refl _ _) hjj rfl
    · intro a ws f hle hjj hfi hun hag hdep K Q hK
      have d8 : (a.tmps[8]?).getD undef = .pointer (some ⟨g4, 0, none⟩) := eval_get (hag 8 (freeB_spec (by kernel_rfl)))
      rw [if_pos (show Region.wanted _ _ = true from rfl)]
      have HX2 := HXB.out
      have b3 := (hle.block _ HX2.lt (fun e => HNE.out (by injection e))).trans HX2.b
      have y0 := Go.Joins.cell_of_block b3 0; have y1 := Go.Joins.cell_of_block b3 1; have yl := lt_of_some b3
      obtain ⟨mq, hdq⟩ := hjj
      have HS4 := HS3.out.next hdq hle
      have z0 := HS4.c0; have z1 := HS4.c1'; have z2 := HS4.lt
      have hjj : J6 W1.heap.size g A c L f ws := ⟨mq, hdq⟩
      simp at y0 y1
      clear b3 HS4 hdq HX2
      unfold Oper.wp
      simp [go_sem, *]
      exact hK _ _ (grown_refl _ _) hjj rfl
    · intro a ws f hle hjj hfi hun hag hdep K Q hK
      have d7 : (a.tmps[7]?).getD undef = .pointer (some ⟨g, 0, none⟩) := eval_get (hag 7 (freeB_spec (by kernel_rfl)))
      rw [if_pos (show Region.wanted _ _ = true from rfl)]
      unfold Oper.wp
      simp [go_sem, d7]
      exact hK _ _ (grown_refl _ _) hjj rfl
    · intro a ws f hle hjj hfi hun hag hdep K Q hK
      have d8 : (a.tmps[8]?).getD undef = .pointer (some ⟨g4, 0, none⟩) := eval_get (hag 8 (freeB_spec (by kernel_rfl)))
      rw [if_pos (show Region.wanted _ _ = true from rfl)]
      have HX2 := HXB.out
      have b3 := (hle.block _ HX2.lt (fun e => HNE.out (by injection e))).trans HX2.b
      have y0 := Go.Joins.cell_of_block b3 0; have y1 := Go.Joins.cell_of_block b3 1; have yl := lt_of_some b3
      obtain ⟨mq, hdq⟩ := hjj
      have HS4 := HS3.out.next hdq hle
      have z0 := HS4.c0; have z1 := HS4.c1'; have z2 := HS4.lt
      have hjj : J6 W1.heap.size g A c L f ws := ⟨mq, hdq⟩
      simp at y0 y1
      clear b3 HS4 hdq HX2
      unfold Oper.wp
      simp [go_sem, *]
      exact hK _ _ (grown_refl _ _) hjj rfl
    · intro a ws f hle hjj hfi hun hag hdep K Q hK
      have d33 : (a.tmps[33]?).getD undef = .pointer (some ⟨g, 0, none⟩) := eval_get (dep_of hdep 2 33 rfl (by kernel_rfl) rfl rfl)
      have d34 : (a.tmps[34]?).getD undef = .agg #[.int .i64 (N : Int), .slice A1 l.length c1] := eval_get (dep_of hdep 3 34 rfl (by kernel_rfl) rfl rfl)
      rw [if_pos (show Region.wanted _ _ = true from rfl)]
      obtain ⟨mm, hdm⟩ := hjj
      have hcon := spoilt_any W1.heap.size g A c L mm (N : Int) 64 A1 c1 l ws hdm (RE.of_own (own_kept HS3.out.own hle (Nat.lt_succ_self g))) (by omega) hL (by omega) HM.out
      have hgl := hdm.lt
      unfold Oper.wp
      simp [go_sem, d33, d34]
      refine hcon.mono ?_
      rintro e w9 ⟨n9, l9, A9, c9, m9, rfl, -, hl9, hm9, ho9, hd9, hg9⟩
      exact hK _ _ hg9 ⟨m9, hd9⟩ ⟨n9, l9, A9, c9, rfl, by omega, hm9, Go.Joins.ownsRow_le ho9 (by omega)⟩
    · intro a ws f hle hjj hfi hun hag hdep K Q hK
      have d7 : (a.tmps[7]?).getD undef = .pointer (some ⟨g, 0, none⟩) := eval_get (hag 7 (freeB_spec (by kernel_rfl)))
      rw [if_pos (show Region.wanted _ _ = true from rfl)]
      unfold Oper.wp
      simp [go_sem, d7]
      exact hK _ _ (grown_refl _ _) hjj rfl
    · intro a ws f hle hjj hfi hun hag hdep K Q hK
      have d7 : (a.tmps[7]?).getD undef = .pointer (some ⟨g, 0, none⟩) := eval_get (hag 7 (freeB_spec (by kernel_rfl)))
      rw [if_pos (show Region.wanted _ _ = true from rfl)]
      unfold Oper.wp
      simp [go_sem, d7]
      exact hK _ _ (grown_refl _ _) hjj rfl
    · intro a ws f hle hjj hfi hun hag hdep K Q hK
      have d8 : (a.tmps[8]?).getD undef = .pointer (some ⟨g4, 0, none⟩) := eval_get (hag 8 (freeB_spec (by kernel_rfl)))
      rw [if_pos (show Region.wanted _ _ = true from rfl)]
      have HX2 := HXB.out
      have b3 := (hle.block _ HX2.lt (fun e => HNE.out (by injection e))).trans HX2.b
      have y0 := Go.Joins.cell_of_block b3 0; have y1 := Go.Joins.cell_of_block b3 1; have yl := lt_of_some b3
      obtain ⟨mq, hdq⟩ := hjj
      have HS4 := HS3.out.next hdq hle
      have z0 := HS4.c0; have z1 := HS4.c1'; have z2 := HS4.lt
      have hjj : J6 W1.heap.size g A c L f ws := ⟨mq, hdq⟩
      simp at y0 y1
      clear b3 HS4 hdq HX2
      unfold Oper.wp
      simp [go_sem, *]
      exact hK _ _ (grown_refl _ _) hjj rfl
    · intro a ws f hle hjj hfi hun hag hdep K Q hK
      have d37 : (a.tmps[37]?).getD undef = .pointer (some ⟨g, 0, none⟩) := eval_get (dep_of hdep 6 37 rfl (by kernel_rfl) rfl rfl)
      have d38 : (a.tmps[38]?).getD undef = .agg #[.int .i64 (N : Int), .slice A1 l.length c1] := eval_get (dep_of hdep 7 38 rfl (by kernel_rfl) rfl rfl)
      rw [if_pos (show Region.wanted _ _ = true from rfl)]
      obtain ⟨mm, hdm⟩ := hjj
      have hcon := spoilt_any W1.heap.size g A c L mm (N : Int) 64 A1 c1 l ws hdm (RE.of_own (own_kept HS3.out.own hle (Nat.lt_succ_self g))) (by omega) hL (by omega) HM.out
      have hgl := hdm.lt
      unfold Oper.wp
      simp [go_sem, d37, d38]
      refine hcon.mono ?_
      rintro e w9 ⟨n9, l9, A9, c9, m9, rfl, -, hl9, hm9, ho9, hd9, hg9⟩
      exact hK _ _ hg9 ⟨m9, hd9⟩ ⟨n9, l9, A9, c9, rfl, by omega, hm9, Go.Joins.ownsRow_le ho9 (by omega)⟩
    · intro a ws f hle hjj hfi hun hag hdep K Q hK
      have d36 : (a.tmps[36]?).getD undef = .pointer (some ⟨g, 0, none⟩) := eval_get (dep_of hdep 5 36 rfl (by kernel_rfl) rfl rfl)
      have d39 : (FG g 10001 66) (a.eval (.tmp 39)) ws := dep_of hdep 8 39 rfl (by kernel_rfl) rfl rfl
      rw [if_pos (show Region.wanted _ _ = true from rfl)]
      obtain ⟨mm, hdm⟩ := hjj
      obtain ⟨n8, l8, A8, c8, e39, k8, i8, o8⟩ := d39
      have e39 := eval_get e39
      have hcon := spoilt_any W1.heap.size g A c L mm n8 66 A8 c8 l8 ws hdm (RE.of_own o8) (by omega) hL (by omega) i8
      have hgl := hdm.lt
      unfold Oper.wp
      simp [go_sem, d36, e39]
      refine hcon.mono ?_
      rintro e w9 ⟨n9, l9, A9, c9, m9, rfl, -, hl9, hm9, ho9, hd9, hg9⟩
      exact hK _ _ hg9 ⟨m9, hd9⟩ ⟨n9, l9, A9, c9, rfl, by omega, hm9, Go.Joins.ownsRow_le ho9 (by omega)⟩
    · intro a ws f hle hjj hfi hun hag hdep K Q hK
      have d31 : (a.tmps[31]?).getD undef = .agg #[.int .i64 nR, .slice AR lR.length cR] := eval_get (dep_of hdep 0 31 rfl (by kernel_rfl) rfl rfl)
      have d32 : (a.tmps[32]?).getD undef = .agg #[.int .i64 (N : Int), .slice A1 l.length c1] := eval_get (dep_of hdep 1 32 rfl (by kernel_rfl) rfl rfl)
      have d35 : (FG g 10001 66) (a.eval (.tmp 35)) ws := dep_of hdep 4 35 rfl (by kernel_rfl) rfl rfl
      have d40 : (FG g 10002 68) (a.eval (.tmp 40)) ws := dep_of hdep 9 40 rfl (by kernel_rfl) rfl rfl
      rw [if_pos (show Region.wanted _ _ = true from rfl)]
      obtain ⟨n5, l5, A5, c5, e35, k5, -, o5⟩ := d35
      have e35 := eval_get e35
      obtain ⟨n6, l6, A6, c6, e40, k6, -, o6⟩ := d40
      have e40 := eval_get e40
      have kr := HKR.out.only hle
      have kg : KE g ws A1 c1 l := KE.of_own (own_kept HS3.out.own hle (Nat.lt_succ_self g))
      obtain ⟨mm, hdm⟩ := hjj
      have hgl := hdm.lt
      unfold Oper.wp
      simp [go_sem, d31, d32, e35, e40]
      refine hK _ _ (grown_new _ _ _) ⟨mm, hdm.go (alloc_new _ _)⟩ ⟨ws.heap.size, [⟨nR, AR, cR, lR⟩, ⟨N, A1, c1, l⟩, ⟨n5, A5, c5, l5⟩, ⟨n6, A6, c6, l6⟩], rfl, by omega, heap_alloc_new _ _, rfl, ?_⟩
      intro q hq
      simp only [List.mem_cons, List.not_mem_nil, or_false] at hq
      rcases hq with rfl | rfl | rfl | rfl
      · exact ⟨by show lR.length ≤ _; omega, kr.go (alloc_new _ _)⟩
      · exact ⟨by show l.length ≤ _; omega, kg.go (alloc_new _ _)⟩
      · exact ⟨by show l5.length ≤ _; omega, (KE.of_own o5).go (alloc_new _ _)⟩
      · exact ⟨by show l6.length ≤ _; omega, (KE.of_own o6).go (alloc_new _ _)⟩
    · intro a ws f hle hjj hfi hun hag hdep K Q hK
      have d41 : (F4 g) (a.eval (.tmp 41)) ws := dep_of hdep 10 41 rfl (by kernel_rfl) rfl rfl
      rw [if_pos (show Region.wanted _ _ = true from rfl)]
      obtain ⟨x9, G9, e41, -⟩ := d41
      have e41 := eval_get e41
      unfold Oper.wp
      simp [go_sem, e41]
      exact hK _ _ (grown_refl _ _) hjj rfl
    · intro a ws f hle hjj hfi hun hag hdep K Q hK
      rw [if_pos (show Region.wanted _ _ = true from rfl)]
      unfold Oper.wp
      simp [go_sem]
      exact hK _ _ (grown_refl _ _) hjj rfl
  · intro a ws f hle hjj hft hff hsz hdf hag hend
    have f31 : a.eval (.tmp 31) = .agg #[.int .i64 nR, .slice AR lR.length cR] := end_of hend 0 31 (by decide) rfl rfl rfl
    have f32 : a.eval (.tmp 32) = .agg #[.int .i64 (N : Int), .slice A1 l.length c1] := end_of hend 1 32 (by decide) rfl rfl rfl
    have f33 : a.eval (.tmp 33) = .pointer (some ⟨g, 0, none⟩) := end_of hend 2 33 (by decide) rfl rfl rfl
    have f34 : a.eval (.tmp 34) = .agg #[.int .i64 (N : Int), .slice A1 l.length c1] := end_of hend 3 34 (by decide) rfl rfl rfl
    have f35 : (FG g 10001 66) (a.eval (.tmp 35)) ws := end_of hend 4 35 (by decide) rfl rfl rfl
    have f36 : a.eval (.tmp 36) = .pointer (some ⟨g, 0, none⟩) := end_of hend 5 36 (by decide) rfl rfl rfl
    have f37 : a.eval (.tmp 37) = .pointer (some ⟨g, 0, none⟩) := end_of hend 6 37 (by decide) rfl rfl rfl
    have f38 : a.eval (.tmp 38) = .agg #[.int .i64 (N : Int), .slice A1 l.length c1] := end_of hend 7 38 (by decide) rfl rfl rfl
    have f39 : (FG g 10001 66) (a.eval (.tmp 39)) ws := end_of hend 8 39 (by decide) rfl rfl rfl
    have f40 : (FG g 10002 68) (a.eval (.tmp 40)) ws := end_of hend 9 40 (by decide) rfl rfl rfl
    have f41 : (F4 g) (a.eval (.tmp 41)) ws := end_of hend 10 41 (by decide) rfl rfl rfl
    have f42 : a.eval (.tmp 42) = .int .i64 4 := end_of hend 11 42 (by decide) rfl rfl rfl
    have f43 : a.eval (.tmp 43) = .int .i64 0 := end_of hend 12 43 (by decide) rfl rfl rfl
    have f0 : a.eval (.tmp 0) = .agg #[.int .i64 nR, .slice AR lR.length cR] := hag 0 (freeB_spec (by kernel_rfl))
    have f1 : a.eval (.tmp 1) = .slice A L.length c := hag 1 (freeB_spec (by kernel_rfl))
    have f2 : a.eval (.tmp 2) = .int .i64 u := hag 2 (freeB_spec (by kernel_rfl))
    have f3 : a.eval (.tmp 3) = .pointer (some ⟨g3, 0, none⟩) := hag 3 (freeB_spec (by kernel_rfl))
    have f6 : a.eval (.tmp 6) = .bool false := hag 6 (freeB_spec (by kernel_rfl))
    have f7 : a.eval (.tmp 7) = .pointer (some ⟨g, 0, none⟩) := hag 7 (freeB_spec (by kernel_rfl))
    have f8 : a.eval (.tmp 8) = .pointer (some ⟨g4, 0, none⟩) := hag 8 (freeB_spec (by kernel_rfl))
    have f9 : a.eval (.tmp 9) = .slice Al ll.length cl := hag 9 (freeB_spec (by kernel_rfl))
    obtain ⟨T, D⟩ := a
    obtain rfl : D = [] := hdf
    obtain ⟨us, rfl⟩ : ∃ us : List Value, T = us.toArray := ⟨T.toList, by simp⟩
    replace hsz : us.length = 88 := by simpa using hsz
    obtain _ | ⟨x0, us⟩ := us
    · simp at hsz
    obtain _ | ⟨x1, us⟩ := us
    · simp at hsz
    obtain _ | ⟨x2, us⟩ := us
    · simp at hsz
    obtain _ | ⟨x3, us⟩ := us
    · simp at hsz
    obtain _ | ⟨x4, us⟩ := us
    · simp at hsz
    obtain _ | ⟨x5, us⟩ := us
    · simp at hsz
    obtain _ | ⟨x6, us⟩ := us
    · simp at hsz
    obtain _ | ⟨x7, us⟩ := us
    · simp at hsz
    obtain _ | ⟨x8, us⟩ := us
    · simp at hsz
    obtain _ | ⟨x9, us⟩ := us
    · simp at hsz
    obtain _ | ⟨x10, us⟩ := us
    · simp at hsz
    obtain _ | ⟨x11, us⟩ := us
    · simp at hsz
    obtain _ | ⟨x12, us⟩ := us
    · simp at hsz
    obtain _ | ⟨x13, us⟩ := us
    · simp at hsz
    obtain _ | ⟨x14, us⟩ := us
    · simp at hsz
    obtain _ | ⟨x15, us⟩ := us
    · simp at hsz
    obtain _ | ⟨x16, us⟩ := us
    · simp at hsz
    obtain _ | ⟨x17, us⟩ := us
    · simp at hsz
    obtain _ | ⟨x18, us⟩ := us
    · simp at hsz
    obtain _ | ⟨x19, us⟩ := us
    · simp at hsz
    obtain _ | ⟨x20, us⟩ := us
    · simp at hsz
    obtain _ | ⟨x21, us⟩ := us
    · simp at hsz
    obtain _ | ⟨x22, us⟩ := us
    · simp at hsz
    obtain _ | ⟨x23, us⟩ := us
    · simp at hsz
    obtain _ | ⟨x24, us⟩ := us
    · simp at hsz
    obtain _ | ⟨x25, us⟩ := us
    · simp at hsz
    obtain _ | ⟨x26, us⟩ := us
    · simp at hsz
    obtain _ | ⟨x27, us⟩ := us
    · simp at hsz
    obtain _ | ⟨x28, us⟩ := us
    · simp at hsz
    obtain _ | ⟨x29, us⟩ := us
    · simp at hsz
    obtain _ | ⟨x30, us⟩ := us
    · simp at hsz
    obtain _ | ⟨x31, us⟩ := us
    · simp at hsz
    obtain _ | ⟨x32, us⟩ := us
    · simp at hsz
    obtain _ | ⟨x33, us⟩ := us
    · simp at hsz
    obtain _ | ⟨x34, us⟩ := us
    · simp at hsz
    obtain _ | ⟨x35, us⟩ := us
    · simp at hsz
    obtain _ | ⟨x36, us⟩ := us
    · simp at hsz
    obtain _ | ⟨x37, us⟩ := us
    · simp at hsz
    obtain _ | ⟨x38, us⟩ := us
    · simp at hsz
    obtain _ | ⟨x39, us⟩ := us
    · simp at hsz
    obtain _ | ⟨x40, us⟩ := us
    · simp at hsz
    obtain _ | ⟨x41, us⟩ := us
    · simp at hsz
    obtain _ | ⟨x42, us⟩ := us
    · simp at hsz
    obtain _ | ⟨x43, us⟩ := us
    · simp at hsz
    obtain _ | ⟨x44, us⟩ := us
    · simp at hsz
    obtain _ | ⟨x45, us⟩ := us
    · simp at hsz
    obtain _ | ⟨x46, us⟩ := us
    · simp at hsz
    obtain _ | ⟨x47, us⟩ := us
    · simp at hsz
    obtain _ | ⟨x48, us⟩ := us
    · simp at hsz
    obtain _ | ⟨x49, us⟩ := us
    · simp at hsz
    obtain _ | ⟨x50, us⟩ := us
    · simp at hsz
    obtain _ | ⟨x51, us⟩ := us
    · simp at hsz
    obtain _ | ⟨x52, us⟩ := us
    · simp at hsz
    obtain _ | ⟨x53, us⟩ := us
    · simp at hsz
    obtain _ | ⟨x54, us⟩ := us
    · simp at hsz
    obtain _ | ⟨x55, us⟩ := us
    · simp at hsz
    obtain _ | ⟨x56, us⟩ := us
    · simp at hsz
    obtain _ | ⟨x57, us⟩ := us
    · simp at hsz
    obtain _ | ⟨x58, us⟩ := us
    · simp at hsz
    obtain _ | ⟨x59, us⟩ := us
    · simp at hsz
    obtain _ | ⟨x60, us⟩ := us
    · simp at hsz
    obtain _ | ⟨x61, us⟩ := us
    · simp at hsz
    obtain _ | ⟨x62, us⟩ := us
    · simp at hsz
    obtain _ | ⟨x63, us⟩ := us
    · simp at hsz
    obtain _ | ⟨x64, us⟩ := us
    · simp at hsz
    obtain _ | ⟨x65, us⟩ := us
    · simp at hsz
    obtain _ | ⟨x66, us⟩ := us
    · simp at hsz
    obtain _ | ⟨x67, us⟩ := us
    · simp at hsz
    obtain _ | ⟨x68, us⟩ := us
    · simp at hsz
    obtain _ | ⟨x69, us⟩ := us
    · simp at hsz
    obtain _ | ⟨x70, us⟩ := us
    · simp at hsz
    obtain _ | ⟨x71, us⟩ := us
    · simp at hsz
    obtain _ | ⟨x72, us⟩ := us
    · simp at hsz
    obtain _ | ⟨x73, us⟩ := us
    · simp at hsz
    obtain _ | ⟨x74, us⟩ := us
    · simp at hsz
    obtain _ | ⟨x75, us⟩ := us
    · simp at hsz
    obtain _ | ⟨x76, us⟩ := us
    · simp at hsz
    obtain _ | ⟨x77, us⟩ := us
    · simp at hsz
    obtain _ | ⟨x78, us⟩ := us
    · simp at hsz
    obtain _ | ⟨x79, us⟩ := us
    · simp at hsz
    obtain _ | ⟨x80, us⟩ := us
    · simp at hsz
    obtain _ | ⟨x81, us⟩ := us
    · simp at hsz
    obtain _ | ⟨x82, us⟩ := us
    · simp at hsz
    obtain _ | ⟨x83, us⟩ := us
    · simp at hsz
    obtain _ | ⟨x84, us⟩ := us
    · simp at hsz
    obtain _ | ⟨x85, us⟩ := us
    · simp at hsz
    obtain _ | ⟨x86, us⟩ := us
    · simp at hsz
    obtain _ | ⟨x87, us⟩ := us
    · simp at hsz
    obtain rfl : us = [] := by cases us with | nil => rfl | cons _ _ => simp at hsz
    clear hag hend hsz
    obtain rfl : x0 = .agg #[.int .i64 nR, .slice AR lR.length cR] := f0
    obtain rfl : x1 = .slice A L.length c := f1
    obtain rfl : x2 = .int .i64 u := f2
    obtain rfl : x3 = .pointer (some ⟨g3, 0, none⟩) := f3
    obtain rfl : x6 = .bool false := f6
    obtain rfl : x7 = .pointer (some ⟨g, 0, none⟩) := f7
    obtain rfl : x8 = .pointer (some ⟨g4, 0, none⟩) := f8
    obtain rfl : x9 = .slice Al ll.length cl := f9
    obtain rfl : x31 = .agg #[.int .i64 nR, .slice AR lR.length cR] := f31
    obtain rfl : x32 = .agg #[.int .i64 (N : Int), .slice A1 l.length c1] := f32
    obtain rfl : x33 = .pointer (some ⟨g, 0, none⟩) := f33
    obtain rfl : x34 = .agg #[.int .i64 (N : Int), .slice A1 l.length c1] := f34
    replace f35 : (FG g 10001 66) x35 ws := f35
    obtain rfl : x36 = .pointer (some ⟨g, 0, none⟩) := f36
    obtain rfl : x37 = .pointer (some ⟨g, 0, none⟩) := f37
    obtain rfl : x38 = .agg #[.int .i64 (N : Int), .slice A1 l.length c1] := f38
    replace f39 : (FG g 10001 66) x39 ws := f39
    replace f40 : (FG g 10002 68) x40 ws := f40
    replace f41 : (F4 g) x41 ws := f41
    obtain rfl : x42 = .int .i64 4 := f42
    obtain rfl : x43 = .int .i64 0 := f43
    obtain ⟨m9, hd9⟩ := hjj
    obtain ⟨x, G, rfl, hxg, hxb, hG4, hGok⟩ := f41
    have HS4 := HS3.out.next hd9 hle
    have HI : Hid (CJ W1 g g4 A c L (N : Int) A1 c1 l x G Al cl ll ws) := ⟨HS4, hxb, fun q hq => ⟨(hGok q hq).1, (hGok q hq).2.1⟩, RE.of_own (own_kept HL3.out hle (Nat.lt_succ_self g))⟩
    clear hle hft hff hd9 HS4 HS3 HL3 HKR HXB hxb hGok f35 f39 f40 HM hxg
    simp only [List.drop_succ_cons, List.drop_zero]
    go_wp2_with fail
    go_loopw [43] (fun i wr => ∃ (k : Nat), k ≤ 4 ∧ i = .int .i64 k ∧ Hid (CJ W1 g g4 A c L (N : Int) A1 c1 l x G Al cl ll wr)) (fun i _ => 4 - (RowKit.intOf i).toNat)
    case atStart => exact ⟨0, Nat.zero_le _, rfl, HI.out⟩
    case round =>
      obtain ⟨k, hk, rfl, HR⟩ := hrel
      by_cases hlt : k < 4
      · obtain ⟨q, hq⟩ : ∃ q, G[k]? = some q := ⟨_, List.getElem?_eq_getElem (by omega)⟩
        obtain ⟨p0, p1⟩ := HR.out.at_ hq
        obtain ⟨hql, hqr⟩ := HR.out.ok q (List.mem_of_getElem? hq)
        obtain ⟨nq, Aq, cq, lq⟩ := q
        simp only at p0 p1 hql hqr
        have xl := lt_of_some HR.out.b
        obtain ⟨gq, Hgq⟩ : ∃ x, Hid (wr.heap.size = x) := ⟨_, rfl⟩
        obtain ⟨W3, HW3⟩ : ∃ x, Hid (wr.alloc (.cells #[.int .i64 nq, .slice Aq lq.length cq] 24) = x) := ⟨_, rfl⟩
        have HQ : Hid (BX gq nq Aq cq lq W3) := by show BX _ _ _ _ _ _; rw [← HW3.out, ← Hgq.out]; exact BX.new hqr _
        have HR3 : Hid (CJ W1 g g4 A c L (N : Int) A1 c1 l x G Al cl ll W3) := by show CJ _ _ _ _ _ _ _ _ _ _ _ _ _ _ _ _; rw [← HW3.out]; exact HR.out.go (alloc_new _ _)
        obtain ⟨r, Hr⟩ : ∃ x, Hid (chk nq lq = x) := ⟨_, rfl⟩
        have C12 := Lib.hid (fun (x : More W3) => gcheck_any nq Aq cq lq (over W3 x) (HQ.out.go (over_below _ x)).re hql)
        have C13 := Lib.hid (fun (x : More W3) => check_any nq Aq cq lq (over W3 x) (HQ.out.go (over_below _ x)).re hql)
        simp only [Hr.out] at C12 C13
        clear hq hqr
        go_wp2_with fail
        rw [HW3.out, Hgq.out]
        clear p0 p1 xl
        have y0 := HQ.out.c0; have y1 := HQ.out.c1; have yl := HQ.out.lt
        refine wp_region_over (by kernel_rfl) (by kernel_rfl) ?_
        repeat (go_big_quiet_step (first | (go_at_call 12; exact calls_over (C12.out _)) | (go_at_call 13; exact calls_over (C13.out _))))
        refine wpQuiet_nil ?_
        rintro _ ⟨z, rfl⟩
        have HR4 := Lib.hid (HR3.out.go (over_below _ z))
        go_wp2
        go_roundw
        case rel => exact ⟨k + 1, by omega, by go_num, HR4.out⟩
        case measure => simp [RowKit.intOf]; omega
      · obtain rfl : k = 4 := by omega
        obtain ⟨mv, Hmv⟩ : ∃ x : Int, Hid ((u.tmod 70 + 70) % 70 = x) := ⟨_, rfl⟩
        have hmv : 0 ≤ mv ∧ mv < 70 := by rw [← Hmv.out]; omega
        have CM := Lib.hid (fun (W : World) => mod_any u 70 W (by omega) (by omega))
        simp only [Hmv.out] at CM
        clear Hmv
        go_wp2_with fail
        refine wp_region_inv 9 88 [(fun z _ => z = .pointer (some ⟨g4, 0, none⟩)), (fun z _ => z = .int .i64 (N : Int)), (fun z _ => z = .int .i64 u), (fun z _ => z = .int .i64 u), (fun z _ => z = .int .i64 mv), (fun z _ => z = .int .i64 (mv - 3)), (F3 [(N : Int), u, mv - 3]), (fun z _ => z = .int .i64 3), (fun z _ => z = .int .i64 0)] (by kernel_rfl) (by kernel_rfl) rfl ?_ ?_ ?_
        · intro R hR
          simp only [List.mem_cons, List.not_mem_nil, or_false] at hR
          rcases hR with rfl | rfl | rfl | rfl | rfl | rfl | rfl | rfl | rfl
          · exact mono_eq _
          · exact mono_eq _
          · exact mono_eq _
          · exact mono_eq _
          · exact mono_eq _
          · exact mono_eq _
          · exact F3_mono _
          · exact mono_eq _
          · exact mono_eq _
        · simp only [List.take_succ_cons, List.take_zero]
          refine ⟨?_, ?_, ?_, ?_, ?_, ?_, ?_, ?_, ?_, trivial⟩
          · intro a ws hb hag hdep K Q hK
            have d8 : (a.tmps[8]?).getD undef = .pointer (some ⟨g4, 0, none⟩) := eval_get (hag 8 (freeB_spec (by kernel_rfl)))
            rw [if_pos (show Region.wanted _ _ = true from rfl)]
            unfold Oper.wp
            simp [go_sem, d8]
            exact hK _ _ (Below.refl _ _) rfl
          · intro a ws hb hag hdep K Q hK
            have d53 : (a.tmps[53]?).getD undef = .pointer (some ⟨g4, 0, none⟩) := eval_get (dep_of hdep 0 53 rfl (by kernel_rfl) rfl rfl)
            rw [if_pos (show Region.wanted _ _ = true from rfl)]
            have HS2 := HR.out.ls.go hb
            have y0 := HS2.c0
            unfold Oper.wp
            simp [go_sem, d53, y0]
            exact hK _ _ (Below.refl _ _) rfl
          · intro a ws hb hag hdep K Q hK
            have d2 : (a.tmps[2]?).getD undef = .int .i64 u := eval_get (hag 2 (freeB_spec (by kernel_rfl)))
            rw [if_pos (show Region.wanted _ _ = true from rfl)]
            unfold Oper.wp
            simp [go_sem, d2]
            exact hK _ _ (Below.refl _ _) rfl
          · intro a ws hb hag hdep K Q hK
            have d2 : (a.tmps[2]?).getD undef = .int .i64 u := eval_get (hag 2 (freeB_spec (by kernel_rfl)))
            rw [if_pos (show Region.wanted _ _ = true from rfl)]
            unfold Oper.wp
            simp [go_sem, d2]
            exact hK _ _ (Below.refl _ _) rfl
          · intro a ws hb hag hdep K Q hK
            have d56 : (a.tmps[56]?).getD undef = .int .i64 u := eval_get (dep_of hdep 3 56 rfl (by kernel_rfl) rfl rfl)
            rw [if_pos (show Region.wanted _ _ = true from rfl)]
            have hcon := CM.out ws
            unfold Oper.wp
            simp [go_sem, d56]
            refine hcon.mono ?_
            rintro e w9 ⟨rfl, rfl⟩
            exact hK _ _ (Below.refl _ _) rfl
          · intro a ws hb hag hdep K Q hK
            have d57 : (a.tmps[57]?).getD undef = .int .i64 mv := eval_get (dep_of hdep 4 57 rfl (by kernel_rfl) rfl rfl)
            rw [if_pos (show Region.wanted _ _ = true from rfl)]
            have hw : IntKind.i64.wrap (mv - 3) = mv - 3 := IntWalk.i64_in _ (by omega)
            unfold Oper.wp
            simp [go_sem, d57, hw]
            exact hK _ _ (Below.refl _ _) rfl
          · intro a ws hb hag hdep K Q hK
            have d54 : (a.tmps[54]?).getD undef = .int .i64 (N : Int) := eval_get (dep_of hdep 1 54 rfl (by kernel_rfl) rfl rfl)
            have d55 : (a.tmps[55]?).getD undef = .int .i64 u := eval_get (dep_of hdep 2 55 rfl (by kernel_rfl) rfl rfl)
            have d58 : (a.tmps[58]?).getD undef = .int .i64 (mv - 3) := eval_get (dep_of hdep 5 58 rfl (by kernel_rfl) rfl rfl)
            rw [if_pos (show Region.wanted _ _ = true from rfl)]
            unfold Oper.wp
            simp [go_sem, d54, d55, d58]
            exact hK _ _ (alloc_new _ _) ⟨ws.heap.size, rfl, RD_block (l := [(N : Int), u, mv - 3]) (heap_alloc_new _ _)⟩
          · intro a ws hb hag hdep K Q hK
            have d59 : (F3 [(N : Int), u, mv - 3]) (a.eval (.tmp 59)) ws := dep_of hdep 6 59 rfl (by kernel_rfl) rfl rfl
            rw [if_pos (show Region.wanted _ _ = true from rfl)]
            obtain ⟨y9, e59, -⟩ := d59
            have e59 := eval_get e59
            unfold Oper.wp
            simp [go_sem, e59]
            exact hK _ _ (Below.refl _ _) rfl
          · intro a ws hb hag hdep K Q hK
            rw [if_pos (show Region.wanted _ _ = true from rfl)]
            unfold Oper.wp
            simp [go_sem]
            exact hK _ _ (Below.refl _ _) rfl
        · intro a ws hb hsz hdf hag hend
          have f53 : a.eval (.tmp 53) = .pointer (some ⟨g4, 0, none⟩) := end_of hend 0 53 (by decide) rfl rfl rfl
          have f54 : a.eval (.tmp 54) = .int .i64 (N : Int) := end_of hend 1 54 (by decide) rfl rfl rfl
          have f55 : a.eval (.tmp 55) = .int .i64 u := end_of hend 2 55 (by decide) rfl rfl rfl
          have f56 : a.eval (.tmp 56) = .int .i64 u := end_of hend 3 56 (by decide) rfl rfl rfl
          have f57 : a.eval (.tmp 57) = .int .i64 mv := end_of hend 4 57 (by decide) rfl rfl rfl
          have f58 : a.eval (.tmp 58) = .int .i64 (mv - 3) := end_of hend 5 58 (by decide) rfl rfl rfl
          have f59 : (F3 [(N : Int), u, mv - 3]) (a.eval (.tmp 59)) ws := end_of hend 6 59 (by decide) rfl rfl rfl
          have f60 : a.eval (.tmp 60) = .int .i64 3 := end_of hend 7 60 (by decide) rfl rfl rfl
          have f61 : a.eval (.tmp 61) = .int .i64 0 := end_of hend 8 61 (by decide) rfl rfl rfl
          have f2 : a.eval (.tmp 2) = .int .i64 u := hag 2 (freeB_spec (by kernel_rfl))
          have f8 : a.eval (.tmp 8) = .pointer (some ⟨g4, 0, none⟩) := hag 8 (freeB_spec (by kernel_rfl))
          have f9 : a.eval (.tmp 9) = .slice Al ll.length cl := hag 9 (freeB_spec (by kernel_rfl))
          obtain ⟨T, D⟩ := a
          obtain rfl : D = [] := hdf
          obtain ⟨us, rfl⟩ : ∃ us : List Value, T = us.toArray := ⟨T.toList, by simp⟩
          replace hsz : us.length = 88 := by simpa using hsz
          obtain _ | ⟨x0, us⟩ := us
          · simp at hsz
          obtain _ | ⟨x1, us⟩ := us
          · simp at hsz
          obtain _ | ⟨x2, us⟩ := us
          · simp at hsz
          obtain _ | ⟨x3, us⟩ := us
          · simp at hsz
          obtain _ | ⟨x4, us⟩ := us
          · simp at hsz
          obtain _ | ⟨x5, us⟩ := us
          · simp at hsz
          obtain _ | ⟨x6, us⟩ := us
          · simp at hsz
          obtain _ | ⟨x7, us⟩ := us
          · simp at hsz
          obtain _ | ⟨x8, us⟩ := us
          · simp at hsz
          obtain _ | ⟨x9, us⟩ := us
          · simp at hsz
          obtain _ | ⟨x10, us⟩ := us
          · simp at hsz
          obtain _ | ⟨x11, us⟩ := us
          · simp at hsz
          obtain _ | ⟨x12, us⟩ := us
          · simp at hsz
          obtain _ | ⟨x13, us⟩ := us
          · simp at hsz
          obtain _ | ⟨x14, us⟩ := us
          · simp at hsz
          obtain _ | ⟨x15, us⟩ := us
          · simp at hsz
          obtain _ | ⟨x16, us⟩ := us
          · simp at hsz
          obtain _ | ⟨x17, us⟩ := us
          · simp at hsz
          obtain _ | ⟨x18, us⟩ := us
          · simp at hsz
          obtain _ | ⟨x19, us⟩ := us
          · simp at hsz
          obtain _ | ⟨x20, us⟩ := us
          · simp at hsz
          obtain _ | ⟨x21, us⟩ := us
          · simp at hsz
          obtain _ | ⟨x22, us⟩ := us
          · simp at hsz
          obtain _ | ⟨x23, us⟩ := us
          · simp at hsz
          obtain _ | ⟨x24, us⟩ := us
          · simp at hsz
          obtain _ | ⟨x25, us⟩ := us
          · simp at hsz
          obtain _ | ⟨x26, us⟩ := us
          · simp at hsz
          obtain _ | ⟨x27, us⟩ := us
          · simp at hsz
          obtain _ | ⟨x28, us⟩ := us
          · simp at hsz
          obtain _ | ⟨x29, us⟩ := us
          · simp at hsz
          obtain _ | ⟨x30, us⟩ := us
          · simp at hsz
          obtain _ | ⟨x31, us⟩ := us
          · simp at hsz
          obtain _ | ⟨x32, us⟩ := us
          · simp at hsz
          obtain _ | ⟨x33, us⟩ := us
          · simp at hsz
          obtain _ | ⟨x34, us⟩ := us
          · simp at hsz
          obtain _ | ⟨x35, us⟩ := us
          · simp at hsz
          obtain _ | ⟨x36, us⟩ := us
          · simp at hsz
          obtain _ | ⟨x37, us⟩ := us
          · simp at hsz
          obtain _ | ⟨x38, us⟩ := us
          · simp at hsz
          obtain _ | ⟨x39, us⟩ := us
          · simp at hsz
          obtain _ | ⟨x40, us⟩ := us
          · simp at hsz
          obtain _ | ⟨x41, us⟩ := us
          · simp at hsz
          obtain _ | ⟨x42, us⟩ := us
          · simp at hsz
          obtain _ | ⟨x43, us⟩ := us
          · simp at hsz
          obtain _ | ⟨x44, us⟩ := us
          · simp at hsz
          obtain _ | ⟨x45, us⟩ := us
          · simp at hsz
          obtain _ | ⟨x46, us⟩ := us
          · simp at hsz
          obtain _ | ⟨x47, us⟩ := us
          · simp at hsz
          obtain _ | ⟨x48, us⟩ := us
          · simp at hsz
          obtain _ | ⟨x49, us⟩ := us
          · simp at hsz
          obtain _ | ⟨x50, us⟩ := us
          · simp at hsz
          obtain _ | ⟨x51, us⟩ := us
          · simp at hsz
          obtain _ | ⟨x52, us⟩ := us
          · simp at hsz
          obtain _ | ⟨x53, us⟩ := us
          · simp at hsz
          obtain _ | ⟨x54, us⟩ := us
          · simp at hsz
          obtain _ | ⟨x55, us⟩ := us
          · simp at hsz
          obtain _ | ⟨x56, us⟩ := us
          · simp at hsz
          obtain _ | ⟨x57, us⟩ := us
          · simp at hsz
          obtain _ | ⟨x58, us⟩ := us
          · simp at hsz
          obtain _ | ⟨x59, us⟩ := us
          · simp at hsz
          obtain _ | ⟨x60, us⟩ := us
          · simp at hsz
          obtain _ | ⟨x61, us⟩ := us
          · simp at hsz
          obtain _ | ⟨x62, us⟩ := us
          · simp at hsz
          obtain _ | ⟨x63, us⟩ := us
          · simp at hsz
          obtain _ | ⟨x64, us⟩ := us
          · simp at hsz
          obtain _ | ⟨x65, us⟩ := us
          · simp at hsz
          obtain _ | ⟨x66, us⟩ := us
          · simp at hsz
          obtain _ | ⟨x67, us⟩ := us
          · simp at hsz
          obtain _ | ⟨x68, us⟩ := us
          · simp at hsz
          obtain _ | ⟨x69, us⟩ := us
          · simp at hsz
          obtain _ | ⟨x70, us⟩ := us
          · simp at hsz
          obtain _ | ⟨x71, us⟩ := us
          · simp at hsz
          obtain _ | ⟨x72, us⟩ := us
          · simp at hsz
          obtain _ | ⟨x73, us⟩ := us
          · simp at hsz
          obtain _ | ⟨x74, us⟩ := us
          · simp at hsz
          obtain _ | ⟨x75, us⟩ := us
          · simp at hsz
          obtain _ | ⟨x76, us⟩ := us
          · simp at hsz
          obtain _ | ⟨x77, us⟩ := us
          · simp at hsz
          obtain _ | ⟨x78, us⟩ := us
          · simp at hsz
          obtain _ | ⟨x79, us⟩ := us
          · simp at hsz
          obtain _ | ⟨x80, us⟩ := us
          · simp at hsz
          obtain _ | ⟨x81, us⟩ := us
          · simp at hsz
          obtain _ | ⟨x82, us⟩ := us
          · simp at hsz
          obtain _ | ⟨x83, us⟩ := us
          · simp at hsz
          obtain _ | ⟨x84, us⟩ := us
          · simp at hsz
          obtain _ | ⟨x85, us⟩ := us
          · simp at hsz
          obtain _ | ⟨x86, us⟩ := us
          · simp at hsz
          obtain _ | ⟨x87, us⟩ := us
          · simp at hsz
          obtain rfl : us = [] := by cases us with | nil => rfl | cons _ _ => simp at hsz
          clear hag hend hsz
          obtain rfl : x2 = .int .i64 u := f2
          obtain rfl : x8 = .pointer (some ⟨g4, 0, none⟩) := f8
          obtain rfl : x9 = .slice Al ll.length cl := f9
          obtain rfl : x53 = .pointer (some ⟨g4, 0, none⟩) := f53
          obtain rfl : x54 = .int .i64 (N : Int) := f54
          obtain rfl : x55 = .int .i64 u := f55
          obtain rfl : x56 = .int .i64 u := f56
          obtain rfl : x57 = .int .i64 mv := f57
          obtain rfl : x58 = .int .i64 (mv - 3) := f58
          replace f59 : (F3 [(N : Int), u, mv - 3]) x59 ws := f59
          obtain rfl : x60 = .int .i64 3 := f60
          obtain rfl : x61 = .int .i64 0 := f61
          obtain ⟨y, rfl, hy⟩ := f59
          have HR2 := Lib.hid (HR.out.go hb)
          have HX := Lib.hid hy
          obtain ⟨xs, Hxs⟩ : ∃ x : List Int, Hid ([(N : Int), u, mv - 3] = x) := ⟨_, rfl⟩
          have hxs : 3 ≤ xs.length := by rw [← Hxs.out]; simp
          rw [Hxs.out] at HX
          clear hb hy HR Hxs CM
          simp only [List.drop_succ_cons, List.drop_zero]
          go_wp2_with fail
          go_loopw [61] (fun i wr => ∃ (k : Nat), k ≤ 3 ∧ i = .int .i64 k ∧ Hid (CJ W1 g g4 A c L (N : Int) A1 c1 l x G Al cl ll wr) ∧ Hid (RD wr (some ⟨y, 0, none⟩) 3 xs)) (fun i _ => 3 - (RowKit.intOf i).toNat)
          case atStart => exact ⟨0, Nat.zero_le _, rfl, HR2.out, HX.out⟩
          case round =>
            clear HX
            obtain ⟨k, hk, rfl, HR, HX⟩ := hrel
            by_cases hlt : k < 3
            · obtain ⟨ad, xk, e9, hbl, -, px⟩ := HX.out.let_ (k := k) (by omega)
              obtain rfl : ad = ⟨y, 0, none⟩ := by injection e9 with e9; exact e9.symm
              rw [Go.WideShapes.add_plain, Nat.zero_add] at px
              have hbl : y < wr.heap.size := hbl
              obtain ⟨eo, Heo⟩ : ∃ x, Hid (ofe xk ll = x) := ⟨_, rfl⟩
              obtain ⟨no, Hno⟩ : ∃ x, Hid ((if eo = 0 then xk else 0) = x) := ⟨_, rfl⟩
              obtain ⟨lo, Hlo⟩ : ∃ x, Hid ((if eo = 0 then ofl ll else []) = x) := ⟨_, rfl⟩
              have hlo : lo.length ≤ 65536 := by
                rw [← Hlo.out]; split
                · exact Nat.le_trans (len_ofl_le _) (by omega)
                · simp
              have CA := Lib.hid (fun (W : World) (h : RE W.heap.size W Al cl ll) => gof_any xk Al cl ll W h (by omega))
              have CB := Lib.hid (fun (W : World) (h : RE W.heap.size W Al cl ll) => rofg_any xk Al cl ll W h (by omega))
              simp only [Heo.out, Hno.out, Hlo.out] at CA CB
              go_wp2_with fail
              clear px hbl e9
              refine (CA.out wr HR.out.rl).mono ?_
              rintro e w3 ⟨Aa, ca, rfl, ho, hb⟩
              have HV := Lib.hid (HR.out.go hb)
              have HU := Lib.hid (HX.out.go hb)
              have HO : Hid (RE w3.heap.size w3 Aa ca lo) := RE.of_own ho
              clear CA ho hb HR HX
              obtain ⟨ga, Hga⟩ : ∃ x, Hid (w3.heap.size = x) := ⟨_, rfl⟩
              obtain ⟨W3, HW3⟩ : ∃ x, Hid (w3.alloc (.cells #[.int .i64 no, .slice Aa lo.length ca] 24) = x) := ⟨_, rfl⟩
              have HR3 : Hid (CJ W1 g g4 A c L (N : Int) A1 c1 l x G Al cl ll W3) := by show CJ _ _ _ _ _ _ _ _ _ _ _ _ _ _ _ _; rw [← HW3.out]; exact HV.out.go (alloc_new _ _)
              have HX3 : Hid (RD W3 (some ⟨y, 0, none⟩) 3 xs) := by show RD _ _ _ _; rw [← HW3.out]; exact HU.out.go (alloc_new _ _)
              have Ha3 : Hid (BX ga no Aa ca lo W3) := by show BX _ _ _ _ _ _; rw [← HW3.out, ← Hga.out]; exact BX.new HO.out _
              go_wp2_with fail
              rw [HW3.out, Hga.out]
              clear HV HU HO
              refine (CB.out W3 HR3.out.rl).mono ?_
              rintro e w4 ⟨Ab, cb, rfl, ho, hb⟩
              have HV := Lib.hid (HR3.out.go hb)
              have HU := Lib.hid (HX3.out.go hb)
              have HE := Lib.hid (Ha3.out.go hb)
              have HO : Hid (RE w4.heap.size w4 Ab cb lo) := ho
              clear CB ho hb HR3 HX3 Ha3
              have HR4 : Hid (CJ W1 g g4 A c L (N : Int) A1 c1 l x G Al cl ll (w4.alloc (.cells #[.int .i64 no, .slice Ab lo.length cb] 24))) := HV.out.go (alloc_new _ _)
              have HX4 : Hid (RD (w4.alloc (.cells #[.int .i64 no, .slice Ab lo.length cb] 24)) (some ⟨y, 0, none⟩) 3 xs) := HU.out.go (alloc_new _ _)
              have Ha4 : Hid (BX ga no Aa ca lo (w4.alloc (.cells #[.int .i64 no, .slice Ab lo.length cb] 24))) := HE.out.go (alloc_new _ _)
              have Hb4 : Hid (BX w4.heap.size no Ab cb lo (w4.alloc (.cells #[.int .i64 no, .slice Ab lo.length cb] 24))) := BX.new HO.out _
              have CS := Lib.hid (sameG_any no no Aa Ab ca cb lo lo _ Ha4.out.re Hb4.out.re hlo hlo)
              simp only [sameG_self] at CS
              have a0 := HE.out.c0; have a1 := HE.out.c1; have al := HE.out.lt
              go_wp2_with (go_at_call 17; refine CS.out.mono ?_; rintro e w6 ⟨rfl, hb⟩; have HR6 := Lib.hid (HR4.out.go hb); have HX6 := Lib.hid (HX4.out.go hb); clear hb)
              go_roundw
              case rel => exact ⟨k + 1, by omega, by go_num, HR6.out, HX6.out⟩
              case measure => simp [RowKit.intOf]; omega
            · obtain rfl : k = 3 := by omega
              go_wp2_with fail
              refine (awake3_any _).mono ?_
              rintro e w10 ⟨rfl, hb10⟩
              have HB11 := Lib.hid (HB1.out.trans (((HR.out.ls.bel.trans (hb10.mono HR.out.ls.bel.size))).mono HB1.out.size))
              clear hb10
              go_wp2
              go_ret
              exact ⟨rfl, HB11.out⟩
end Go.Proofs.Ytioohmhllajifaa
