/-
  The reference's Graph.
-/
import Derived.Test.YtagkpkkbkeefbaaMf
import Derived.Test.YtagkpkkbkeefbaaKm
namespace Go.Proofs.Ytagkpkkbkeefbaa
open Go.RowKit Go.Lib

def edc (e : Ed) : List Value := [.int .i64 e.1, .int .i64 e.2]
theorem encD : Enc 2 edc := ⟨fun _ => rfl, fun a u hu => by simp [edc] at hu; rcases hu with rfl | rfl <;> rfl⟩
theorem gr_of {w w' : World} {row : Option Nat} (h : Below w.heap.size w w') : w.grownBy w' row := ⟨h.os, h.tape, h.output, h.size, fun k hk _ => h.block k hk⟩
/-- what is known while an edge is written behind the others: k: it has been written -/
structure JG (base : Nat) (A2 : Option Addr) (c2 : Nat) (es es2 : List Ed) (k : Bool) (a : Act) (w : World) : Prop where
  sz : a.tmps.size = 33
  own : k = false → w.ownsRow base 69 2 (.slice A2 es.length c2) es.length (cl edc es)
  new : k = true → ∃ A' c', a.eval (.tmp 29) = .slice A' es2.length c' ∧ w.ownsRow base 69 2 (.slice A' es2.length c') es2.length (cl edc es2)
section
variable {base : Nat} {A2 : Option Addr} {c2 : Nat} {es es2 : List Ed} {k : Bool} {a : Act} {w w' : World}
theorem JG.put {d : Nat} {v : Value} (h : JG base A2 c2 es es2 k a w) (hd : d ≠ 29) : JG base A2 c2 es es2 k (a.put (some d) v) w :=
  ⟨by rw [size_put]; exact h.sz, h.own, fun hk => by rw [eval_put_other hd]; exact h.new hk⟩
theorem JG.below (h : JG base A2 c2 es es2 k a w) (hb : Below w.heap.size w w') : JG base A2 c2 es es2 k a w' :=
  ⟨h.sz, fun hk => own_up (h.own hk) hb, fun hk => by
    obtain ⟨A', c', e, ho⟩ := h.new hk
    exact ⟨A', c', e, own_up ho hb⟩⟩
theorem JG.done {A' : Option Addr} {c' : Nat} (h : JG base A2 c2 es es2 k a w) (ho : w'.ownsRow base 69 2 (.slice A' es2.length c') es2.length (cl edc es2)) : JG base A2 c2 es es2 true (a.put (some 29) (.slice A' es2.length c')) w' :=
  ⟨by rw [size_put]; exact h.sz, fun hk => absurd hk (by decide), fun _ => ⟨A', c', eval_put_same (by rw [h.sz]; decide), ho⟩⟩
end
/-- the loop's state: the box of the graph that is built -/
structure GBox (w2 : World) (n : Int) (es : List Ed) (A2 : Option Addr) (c2 : Nat) (wr : World) : Prop where
  b : wr.heap[w2.heap.size]? = some (.cells #[.int .i64 n, .slice A2 es.length c2] 54)
  own : wr.ownsRow (w2.heap.size + 1) 69 2 (.slice A2 es.length c2) es.length (cl edc es)
  bel : Below w2.heap.size w2 wr
theorem GBox.put {w2 : World} {n : Int} {es : List Ed} {A6 A2 : Option Addr} {c6 c2 m : Nat} {w6 : World} (ho : w6.ownsRow (w2.heap.size + 1) 69 2 (.slice A6 es.length c6) es.length (cl edc es)) (hb : Below w2.heap.size w2 w6)
    (hb6 : w6.heap[w2.heap.size]? = some (.cells #[.int .i64 n, .slice A2 m c2] 54)) : GBox w2 n es A6 c6 (w6.setCell ⟨w2.heap.size, 1, none⟩ (.slice A6 es.length c6)) := by
  have hne : (Value.slice A6 es.length c6).ownBlock ≠ some w2.heap.size := fun e => by have := (ho.lt _ e).1; omega
  exact ⟨setCell_cells hb6 1 _, ho.kept set_grown (.inr hne), hb.setCell (p := ⟨w2.heap.size, 1, none⟩) (Nat.le_refl _) _⟩
set_option maxHeartbeats 1000000 in
set_option maxRecDepth 100000 in
theorem rgraph_any (n : Int) (A : Option Addr) (c : Nat) (l : List Ls.Lk) (w : World) (h : RL w.heap.size w A c l) (hl : l.length ≤ 60000) :
    Calls Try.prog 27 #[.agg #[.int .i64 n, .slice A l.length c]] w (GraphPL n l w) := by
  obtain ⟨W1, hW1⟩ : ∃ W1, ((w.alloc (.cells #[.int .i64 n, .slice A l.length c] 24)).alloc (.cells #[.int .i64 0, .slice none 0 0] 54)) = W1 := ⟨_, rfl⟩
  obtain ⟨n0, n1, n3, n4⟩ := new_two w (.cells #[.int .i64 n, .slice A l.length c] 24) (.cells #[.int .i64 0, .slice none 0 0] 54)
  rw [hW1] at n0 n1 n3 n4
  obtain ⟨G, hG⟩ : ∃ G, Hid (w.heap.size = G) := ⟨_, rfl⟩
  have HW1 := Lib.hid hW1
  have HB1 := Lib.hid n4
  have H1 := Lib.hid (h.up n4)
  rw [hG.out] at n0 n1 n3
  have N0 := Lib.hid n0; have N1 := Lib.hid n1; have N3 := Lib.hid n3
  have C13 := Lib.hid (rcheckS_any n A c l W1 H1.out (by omega))
  have s0 := Go.Joins.cell_of_block n0 0; have s1 := Go.Joins.cell_of_block n0 1
  simp only [List.getElem?_toArray, List.getElem?_cons_succ, List.getElem?_cons_zero] at s0 s1
  clear h hW1 n4 n0 n1
  obtain ⟨R, HR⟩ : ∃ R, Hid (Ls.chkS n l = R) := ⟨_, rfl⟩
  simp only [HR.out] at C13
  go_enter Try.func27, Try.ntmps27
  go_wp2_with fail
  rw [HW1.out]
  simp only [hG.out]
  refine C13.out.mono ?_
  rintro e w2 ⟨rfl, hb2⟩
  have B2 := Lib.hid hb2
  clear hb2 C13 s0 s1
  have hs2 : G + 2 ≤ w2.heap.size := by have := B2.out.size; rw [N3.out] at this; exact this
  by_cases hR : R = 0
  · subst hR
    have HV := Lib.hid ((Ls.chkS_zero n l).1 HR.out)
    have M0 : Hid (w2.heap[G]? = some (.cells #[.int .i64 n, .slice A l.length c] 24)) := (B2.out.block G (by rw [N3.out]; omega)).trans N0.out
    have M1 : Hid (w2.heap[G + 1]? = some (.cells #[.int .i64 0, .slice none 0 0] 54)) := (B2.out.block (G + 1) (by rw [N3.out]; omega)).trans N1.out
    have H2 := Lib.hid (H1.out.up B2.out)
    have BW : Hid (Below w.heap.size w w2) := HB1.out.trans (B2.out.mono HB1.out.size)
    have z0 := Go.Joins.cell_of_block M0.out 0; have z1 := Go.Joins.cell_of_block M0.out 1
    simp only [List.getElem?_toArray, List.getElem?_cons_succ, List.getElem?_cons_zero] at z0 z1
    have hG2 : G < w2.heap.size := by omega
    obtain ⟨B5, HB5⟩ : ∃ B5, Hid (w2.heap.size = B5) := ⟨_, rfl⟩
    obtain ⟨W3, HW3⟩ : ∃ W3, Hid (w2.alloc (.cells #[.int .i64 n, .slice none 0 0] 54) = W3) := ⟨_, rfl⟩
    have HS3 : Hid (GBox w2 n [] none 0 W3) := by
      show GBox _ _ _ _ _ _
      rw [← HW3.out]
      exact ⟨heap_alloc_new _ _, World.ownsRow_nil _ _ _ _, below_new _ _⟩
    go_wp2
    rw [HW3.out]
    try simp only [HB5.out]
    clear z0 z1
    go_loopw [20] (fun i wr => ∃ (k : Nat) (A2 : Option Addr) (c2 : Nat), k ≤ l.length ∧ i = .int .i64 k ∧ Hid (GBox w2 n (Ls.edges (l.take k)) A2 c2 wr)) (fun i _ => l.length - (RowKit.intOf i).toNat)
    case atStart => exact ⟨0, none, 0, Nat.zero_le _, rfl, HS3.out⟩
    case round =>
      obtain ⟨k, A2, c2, hk, rfl, HS⟩ := hrel
      by_cases hlt : k < l.length
      · obtain ⟨b, off, ⟨u, v, x, y, z, t⟩, rfl, hb, hx, c0, c1, c2', c3, c4, c5⟩ := RL.at_ (k := k) (H2.out.go HS.out.bel) hlt
        dsimp only at c0 c1 c2' c3 c4 c5
        have hbw : b < wr.heap.size := Nat.lt_of_lt_of_le hb HS.out.bel.size
        have HE := Lib.hid (Ls.edges_take l k _ hx)
        dsimp only at HE
        obtain ⟨es, HES⟩ : ∃ es, Hid (Ls.edges (l.take k) = es) := ⟨_, rfl⟩
        have HEL : Hid (es.length ≤ 60000) := by show _ ≤ _; rw [← HES.out, Ls.len_edges, List.length_take]; omega
        rw [HES.out] at HS HE
        obtain ⟨m, HM⟩ : ∃ m, Hid (es.length = m) := ⟨_, rfl⟩
        obtain ⟨W1', HW1'⟩ : ∃ W1', Hid (wr.alloc (.cells #[.int .i64 u, .int .i64 v, .int .i64 x, .int .i64 y, .int .i64 z, .int .i64 t] 62) = W1') := ⟨_, rfl⟩
        have hb1 : Below wr.heap.size wr W1' := by rw [← HW1'.out]; exact below_new _ _
        have HEb : Hid (W1'.heap[wr.heap.size]? = some (.cells #[.int .i64 u, .int .i64 v, .int .i64 x, .int .i64 y, .int .i64 z, .int .i64 t] 62)) := by show _ = _; rw [← HW1'.out]; exact heap_alloc_new _ _
        have HEl : Hid (wr.heap.size < W1'.heap.size) := lt_of_some HEb.out
        have HEr : Hid (some wr.heap.size ≠ (Value.slice A2 m c2).ownBlock) := fun e => by rw [← HM.out] at e; have := (HS.out.own.lt _ e.symm).2; omega
        have H5b : Hid (W1'.heap[B5]? = some (.cells #[.int .i64 n, .slice A2 m c2] 54)) := by show _ = _; rw [← HM.out, ← HB5.out]; exact (hb1.block _ (lt_of_some HS.out.b)).trans HS.out.b
        have H5l : Hid (B5 < W1'.heap.size) := lt_of_some H5b.out
        have H5r : Hid (some B5 ≠ (Value.slice A2 m c2).ownBlock) := fun e => by rw [← HM.out] at e; have := (HS.out.own.lt _ e.symm).1; have := HB5.out; omega
        have HW1s : Hid (B5 + 1 ≤ W1'.heap.size) := by show _ ≤ _; have := H5l.out; omega
        have HBW : Hid (Below w2.heap.size w2 W1') := HS.out.bel.trans (hb1.mono HS.out.bel.size)
        have HM28 : Hid (∀ (q0 : Value) (w5 w6 : World), (∃ vb, q0 = .slice (some ⟨vb, 0, none⟩) 1 1 ∧ W1'.heap.size ≤ vb ∧ w5.heap[vb]? = some (.cells #[.int .i64 u, .int .i64 v] 69 (0, 0))) → w5.grownBy w6 (Value.slice A2 m c2).ownBlock → ∃ vb, q0 = .slice (some ⟨vb, 0, none⟩) 1 1 ∧ W1'.heap.size ≤ vb ∧ w6.heap[vb]? = some (.cells #[.int .i64 u, .int .i64 v] 69 (0, 0))) := by
          rintro q0 w5 w6 ⟨vb, e, h1, h2⟩ hg
          exact ⟨vb, e, h1, (hg.block vb (lt_of_some h2) (fun e => by rw [← HM.out] at e; have := (HS.out.own.lt _ e.symm).2; have := HEl.out; omega)).trans h2⟩
        have HJ0 : Hid (∀ a : Act, a.tmps.size = 33 → JG (B5 + 1) A2 c2 es (es ++ [(u, v)]) false a (W1'.drewN 1)) := fun a ha => ⟨ha, fun _ => by rw [← HB5.out]; exact own_up (own_up HS.out.own hb1) (below_drewN _ _), fun h => absurd h (by decide)⟩
        go_wp2
        rw [HW1'.out]
        clear hb1 c0 c1 c2' c3 c4 c5
        refine wp_region_ac 7 33 (fun u v => u.grownBy v (Value.slice A2 m c2).ownBlock) (fun f a wr => JG (B5 + 1) A2 c2 es (es ++ [(u, v)]) (f 5) a wr) [(fun q0 _ => q0 = .pointer (some ⟨B5, 1, none⟩)), (fun q0 _ => q0 = .slice A2 m c2), (fun q0 _ => q0 = .agg #[.int .i64 u, .int .i64 v, .int .i64 x, .int .i64 y, .int .i64 z, .int .i64 t]), (fun q0 _ => q0 = .agg #[.int .i64 u, .int .i64 v]), (fun q0 w5 => ∃ vb, q0 = .slice (some ⟨vb, 0, none⟩) 1 1 ∧ W1'.heap.size ≤ vb ∧ w5.heap[vb]? = some (.cells #[.int .i64 u, .int .i64 v] 69 (0, 0))), (fun _ _ => True), (fun q0 _ => q0 = .pointer (some ⟨B5, 1, none⟩))] (by kernel_rfl) (by kernel_rfl) rfl (fun _ _ _ => gr_trans) (gr_drewN _ _ _) (HJ0.out _ rfl) ?_ ?_ ?_
        · intro R hR
          simp only [List.mem_cons, List.not_mem_nil, or_false] at hR
          rcases hR with rfl | rfl | rfl | rfl | rfl | rfl | rfl <;> first | exact fun _ _ _ h _ => h | exact HM28.out
        · simp only [List.take_succ_cons, List.take_zero]
          refine ⟨?_, ?_, ?_, ?_, ?_, ?_, ?_, trivial⟩
          · intro a ws f hle hjj hfi hun hdn hag hdep K Q hK
            have d5 : (a.tmps[5]?).getD undef = .pointer (some ⟨B5, 0, none⟩) := eval_get (hag 5 (freeB_spec (by kernel_rfl)))
            rw [if_pos (show Region.wanted _ _ = true from rfl)]
            unfold Oper.wp
            simp [go_sem, d5]
            exact hK _ _ (gr_refl _ _) (hjj.put (by decide)) rfl
          · intro a ws f hle hjj hfi hun hdn hag hdep K Q hK
            have d24 : (a.tmps[24]?).getD undef = .pointer (some ⟨B5, 1, none⟩) := eval_get (dep_of hdep 0 24 rfl (by kernel_rfl) rfl rfl)
            rw [if_pos (show Region.wanted _ _ = true from rfl)]
            have y0 := Go.Joins.cell_of_block ((hle.block B5 H5l.out H5r.out).trans H5b.out) 1
            simp only [List.getElem?_toArray, List.getElem?_cons_succ, List.getElem?_cons_zero] at y0
            unfold Oper.wp
            simp [go_sem, d24, y0]
            exact hK _ _ (gr_refl _ _) (hjj.put (by decide)) rfl
          · intro a ws f hle hjj hfi hun hdn hag hdep K Q hK
            have d7 : (a.tmps[7]?).getD undef = .pointer (some ⟨wr.heap.size, 0, none⟩) := eval_get (hag 7 (freeB_spec (by kernel_rfl)))
            rw [if_pos (show Region.wanted _ _ = true from rfl)]
            have yy := Go.Joins.cell_of_block ((hle.block wr.heap.size HEl.out HEr.out).trans HEb.out)
            have y0 := yy 0; have y1 := yy 1; have y2 := yy 2; have y3 := yy 3; have y4 := yy 4; have y5 := yy 5
            simp only [List.getElem?_toArray, List.getElem?_cons_succ, List.getElem?_cons_zero] at y0 y1 y2 y3 y4 y5
            unfold Oper.wp
            simp [go_sem, d7, y0, y1, y2, y3, y4, y5]
            exact hK _ _ (gr_refl _ _) (hjj.put (by decide)) rfl
          · intro a ws f hle hjj hfi hun hdn hag hdep K Q hK
            have d26 : (a.tmps[26]?).getD undef = .agg #[.int .i64 u, .int .i64 v, .int .i64 x, .int .i64 y, .int .i64 z, .int .i64 t] := eval_get (dep_of hdep 2 26 rfl (by kernel_rfl) rfl rfl)
            rw [if_pos (show Region.wanted _ _ = true from rfl)]
            have hcon := redge_any u v x y z t ws
            unfold Oper.wp
            simp [go_sem, d26]
            refine hcon.mono ?_
            rintro e w9 ⟨rfl, hb9⟩
            exact hK _ _ (gr_of hb9) ((hjj.below hb9).put (by decide)) rfl
          · intro a ws f hle hjj hfi hun hdn hag hdep K Q hK
            have d27 : (a.tmps[27]?).getD undef = .agg #[.int .i64 u, .int .i64 v] := eval_get (dep_of hdep 3 27 rfl (by kernel_rfl) rfl rfl)
            rw [if_pos (show Region.wanted _ _ = true from rfl)]
            have hsz := hle.size
            unfold Oper.wp
            simp [go_sem, d27]
            exact hK _ _ (gr_alloc _ _ _) ((hjj.below (below_new _ _)).put (by decide)) ⟨_, rfl, hsz, heap_alloc_new _ _⟩
          · intro a ws f hle hjj hfi hun hdn hag hdep K Q hK
            have d25 : (a.tmps[25]?).getD undef = .slice A2 m c2 := eval_get (dep_of hdep 1 25 rfl (by kernel_rfl) rfl rfl)
            have d28 : (fun q0 w5 => ∃ vb, q0 = .slice (some ⟨vb, 0, none⟩) 1 1 ∧ W1'.heap.size ≤ vb ∧ w5.heap[vb]? = some (.cells #[.int .i64 u, .int .i64 v] 69 (0, 0))) (a.eval (.tmp 28)) ws := dep_of hdep 4 28 rfl (by kernel_rfl) rfl rfl
            rw [if_pos (show Region.wanted _ _ = true from rfl)]
            obtain ⟨vb, e28, hvb1, hvb2⟩ := d28
            have e25 : a.eval (.tmp 25) = .slice A2 es.length c2 := by rw [HM.out]; exact dep_of hdep 1 25 rfl (by kernel_rfl) rfl rfl
            have hrl : RX 2 edc ws.heap.size ws (some ⟨vb, 0, none⟩) 1 [(u, v)] := by
              refine ⟨Nat.le_refl _, rfl, fun _ => ⟨_, rfl, lt_of_some hvb2, fun j q hq => ?_⟩⟩
              have := Go.Joins.cell_of_block hvb2 j
              rw [Go.WideShapes.add_plain, Nat.zero_add, this]
              simpa [cl, edc] using hq
            refine run_applX encD (by decide) 52 69 _ 16 Try.underlying52 ed_info rfl (by decide) ws (.tmp 25) (.tmp 28) rfl (B5 + 1) A2 c2 es e25 (hjj.own hfi) (some ⟨vb, 0, none⟩) 1 1 [(u, v)] rfl e28 hrl (by have := HEL.out; omega) (by have := hle.size; have := HW1s.out; have := H5l.out; omega) ?_
            intro A6 c6 w6 HO6 HB6 HG6
            exact hK _ _ (by have := HG6.out; rw [HM.out] at this; exact this) (hjj.done HO6.out) trivial
          · intro a ws f hle hjj hfi hun hdn hag hdep K Q hK
            have d5 : (a.tmps[5]?).getD undef = .pointer (some ⟨B5, 0, none⟩) := eval_get (hag 5 (freeB_spec (by kernel_rfl)))
            rw [if_pos (show Region.wanted _ _ = true from rfl)]
            unfold Oper.wp
            simp [go_sem, d5]
            exact hK _ _ (gr_refl _ _) (hjj.put (by decide)) rfl
        · intro a ws f hle hjj hft hff hsz hdf hag hend
          have f24 : a.eval (.tmp 24) = .pointer (some ⟨B5, 1, none⟩) := end_of hend 0 24 (by decide) rfl rfl rfl
          have f25 : a.eval (.tmp 25) = .slice A2 m c2 := end_of hend 1 25 (by decide) rfl rfl rfl
          have f26 : a.eval (.tmp 26) = .agg #[.int .i64 u, .int .i64 v, .int .i64 x, .int .i64 y, .int .i64 z, .int .i64 t] := end_of hend 2 26 (by decide) rfl rfl rfl
          have f27 : a.eval (.tmp 27) = .agg #[.int .i64 u, .int .i64 v] := end_of hend 3 27 (by decide) rfl rfl rfl
          have f28 : (fun q0 w5 => ∃ vb, q0 = .slice (some ⟨vb, 0, none⟩) 1 1 ∧ W1'.heap.size ≤ vb ∧ w5.heap[vb]? = some (.cells #[.int .i64 u, .int .i64 v] 69 (0, 0))) (a.eval (.tmp 28)) ws := end_of hend 4 28 (by decide) rfl rfl rfl
          have f29 : (fun _ _ => True) (a.eval (.tmp 29)) ws := end_of hend 5 29 (by decide) rfl rfl rfl
          have f30 : a.eval (.tmp 30) = .pointer (some ⟨B5, 1, none⟩) := end_of hend 6 30 (by decide) rfl rfl rfl
          have ea := act_block 24 7 hsz hdf hag [24, 25, 26, 27, 28, 29, 30] (by kernel_rfl) (by kernel_rfl) (of_decide_eq_true (by kernel_rfl))
          obtain ⟨A6, c6, e29, ho⟩ := hjj.new (hft 5 (by decide))
          clear hag hend hsz hdf
          simp only [List.map_cons, List.map_nil, f24, f25, f26, f27, f30] at ea
          clear f24 f25 f26 f27 f30
          generalize a.eval (.tmp 28) = x28 at ea f28
          generalize a.eval (.tmp 29) = x29 at ea f29
          simp only [List.take_succ_cons, List.take_zero, List.drop_succ_cons, List.drop_zero, List.cons_append, List.nil_append] at ea
          subst ea
          have e29' : x29 = .slice A6 (es ++ [(u, v)]).length c6 := e29
          clear e29
          subst e29'
          have h5 := (hle.block B5 H5l.out H5r.out).trans H5b.out
          have p1 := Go.Joins.cell_of_block h5 1
          have pf := Go.Joins.unfrozen_of_block h5 1
          simp only [List.getElem?_toArray, List.getElem?_cons_succ, List.getElem?_cons_zero] at p1
          have hg5 : B5 < ws.heap.size := lt_of_some h5
          have HW6 : Hid (Below w2.heap.size w2 ws) := HBW.out.trans (gr_below hle (fun q e => by rw [← HM.out] at e; have := (HS.out.own.lt _ e).1; omega) HBW.out.size)
          rw [← HB5.out] at ho h5
          have HP := Lib.hid (GBox.put ho HW6.out h5)
          rw [HB5.out] at HP
          obtain ⟨m2, HM2⟩ : ∃ m2, Hid ((es ++ [(u, v)]).length = m2) := ⟨_, rfl⟩
          rw [HM2.out] at HP ⊢
          clear hjj hft hff hle ho h5 HJ0 HM28 f28
          go_wp2
          go_roundw
          case rel => exact ⟨k + 1, A6, c6, by omega, by go_num, by show GBox _ _ _ _ _ _; rw [HE.out]; exact HP.out⟩
          case measure => simp [RowKit.intOf]; omega
      · obtain rfl : k = l.length := by omega
        have hS := HS.out
        rw [List.take_length] at hS
        have HS2 := Lib.hid hS
        have b0 := (hS.bel.block (G + 1) (by omega)).trans M1.out
        have r0 := Go.Joins.cell_of_block b0 0; have r1 := Go.Joins.cell_of_block b0 1
        have f0 := Go.Joins.unfrozen_of_block b0 0; have f1 := Go.Joins.unfrozen_of_block b0 1
        have z0 := Go.Joins.cell_of_block hS.b 0; have z1 := Go.Joins.cell_of_block hS.b 1
        simp only [List.getElem?_toArray, List.getElem?_cons_succ, List.getElem?_cons_zero] at z0 z1 r0 r1
        have hg1 : G + 1 < wr.heap.size := lt_of_some b0
        have hg2 : w2.heap.size < wr.heap.size := lt_of_some hS.b
        rw [HB5.out] at z0 z1 hg2
        have HB1' := Lib.hid b0
        obtain ⟨m, HM⟩ : ∃ m, Hid ((Ls.edges l).length = m) := ⟨_, rfl⟩
        rw [HM.out] at z1
        clear b0 hS
        go_wp2
        have hblk := setCell_cells (setCell_cells HB1'.out 0 (.int .i64 n)) 1 (.slice A2 m c2)
        have hGw : w.heap.size ≤ G + 1 := by rw [hG.out]; omega
        have hbel : Below w.heap.size w _ := ((BW.out.trans (HS.out.bel.mono BW.out.size)).setCell (p := ⟨G + 1, 0, none⟩) hGw (.int .i64 n)).setCell (p := ⟨G + 1, 1, none⟩) hGw (.slice A2 m c2)
        have hne : (Value.slice A2 (Ls.edges l).length c2).ownBlock ≠ some (G + 1) := fun e => by have := (HS2.out.own.lt _ e).1; omega
        have hown := (HS2.out.own.kept (w' := wr.setCell ⟨G + 1, 0, none⟩ (.int .i64 n)) set_grown (.inr hne)).kept (w' := (wr.setCell ⟨G + 1, 0, none⟩ (.int .i64 n)).setCell ⟨G + 1, 1, none⟩ (.slice A2 m c2)) set_grown (.inr hne)
        exact ret_graph2 (p := 2) (q := 3) Try.results27 rfl (G + 1) rfl _ rfl hblk ⟨n, Ls.edges l, A2, c2, by rw [HR.out, HM.out]; rfl, by rw [HR.out, if_pos rfl]; exact ⟨rfl, rfl⟩, RE.of_own hown, hbel⟩
  · have hd : (R != 0) = true := by simpa using hR
    have hd' : (R == 0) = false := by simpa using hR
    have n2 := (B2.out.block (G + 1) (by rw [N3.out]; omega)).trans N1.out
    have r0 := Go.Joins.cell_of_block n2 0; have r1 := Go.Joins.cell_of_block n2 1
    have f0 := Go.Joins.unfrozen_of_block n2 0; have f1 := Go.Joins.unfrozen_of_block n2 1
    simp only [List.getElem?_toArray, List.getElem?_cons_succ, List.getElem?_cons_zero] at r0 r1
    have M2 := Lib.hid n2
    have H2 := Lib.hid hR
    clear n2 hR
    go_wp2
    have hblk := setCell_cells (setCell_cells M2.out 0 (.int .i64 0)) 1 (.slice none 0 0)
    have hbel : Below w.heap.size w _ := ((HB1.out.trans (B2.out.mono HB1.out.size)).setCell (p := ⟨G + 1, 0, none⟩) (by show w.heap.size ≤ G + 1; rw [hG.out]; omega) (.int .i64 0)).setCell (p := ⟨G + 1, 1, none⟩) (by show w.heap.size ≤ G + 1; rw [hG.out]; omega) (.slice none 0 0)
    exact ret_graph2 (p := 2) (q := 3) Try.results27 rfl (G + 1) rfl _ rfl hblk ⟨0, [], none, 0, by rw [HR.out]; rfl, by rw [HR.out, if_neg H2.out]; exact ⟨rfl, rfl⟩, RE.nil_ _ _ _ _, hbel⟩
end Go.Proofs.Ytagkpkkbkeefbaa
