/-
  The walk of GraphChanges.
-/
import Derived.Test.YtioohmhllajifaaLb
import Derived.Test.YtioohmhllajifaaGt
namespace Go.Proofs.Ytioohmhllajifaa
open Go.RowKit Go.Lib

section
variable {w : World} {g g4 : Nat} {A A1 : Option Addr} {c c1 : Nat} {L : List Int} {n : Int} {l : List Ed} {wr w' : World}
/-- behind Spoilt: its answer is stored into the graph's box -/
theorem LS.spoil {n2 : Int} {A2 : Option Addr} {c2 m : Nat} {l2 : List Ed} (h : LS w g g4 A c L n A1 c1 l wr) (ho : w'.ownsRow (wr.heap.size + 2) 52 2 (.slice A2 l2.length c2) l2.length (ev l2))
    (hd : Dk w.heap.size w' g A c L m) (hg : wr.grownBy w' (some g)) : LS w g g4 A c L n2 A2 c2 l2 ((w'.setCell ⟨g4, 0, none⟩ (.int .i64 n2)).setCell ⟨g4, 1, none⟩ (.slice A2 l2.length c2)) := by
  have h4 := h.l4
  have hlg := h.lg
  have hlt := h.lt
  have hs := hg.size
  have o0 := Go.Joins.ownsRow_le ho (show g + 1 ≤ wr.heap.size + 2 by omega)
  have hne : (Value.slice A2 l2.length c2).ownBlock ≠ some g4 := fun e => by have := (ho.lt _ e).1; omega
  have b := (hg.block _ hlt (fun e => by injection e with e; omega)).trans h.b4
  have b2 := (setCell_two (setCell_two b (v := .int .i64 n2)).1 (v := .slice A2 l2.length c2)).2
  have o1 := o0.kept (w' := w'.setCell ⟨g4, 0, none⟩ (.int .i64 n2)) set_grown (.inr hne)
  have o2 := o1.kept (w' := (w'.setCell ⟨g4, 0, none⟩ (.int .i64 n2)).setCell ⟨g4, 1, none⟩ (.slice A2 l2.length c2)) set_grown (.inr hne)
  have hbel : Below w.heap.size w w' := h.bel.grown hg h.bel.size (fun k hk => by injection hk with hk; omega)
  exact ⟨⟨m, dk_other (dk_other hd set_grown (by omega)) set_grown (by omega)⟩, b2, o2, (hbel.setCell (p := ⟨g4, 0, none⟩) (by show w.heap.size ≤ g4; omega) _).setCell (p := ⟨g4, 1, none⟩) (by show w.heap.size ≤ g4; omega) _, h.lg, h.l4⟩
end

/-- a graph that stands in a box, its list below the heap's size -/
structure BX (k : Nat) (n : Int) (A : Option Addr) (c : Nat) (l : List Ed) (wr : World) : Prop where
  b : wr.heap[k]? = some (.cells #[.int .i64 n, .slice A l.length c] 24)
  re : RE wr.heap.size wr A c l
section
variable {k : Nat} {n : Int} {A : Option Addr} {c : Nat} {l : List Ed} {wr w' : World}
theorem BX.go (h : BX k n A c l wr) (hb : Below wr.heap.size wr w') : BX k n A c l w' := ⟨(hb.block _ (lt_of_some h.b)).trans h.b, h.re.up hb⟩
theorem BX.new (h : RE wr.heap.size wr A c l) (n : Int) : BX wr.heap.size n A c l (wr.alloc (.cells #[.int .i64 n, .slice A l.length c] 24)) := ⟨heap_alloc_new _ _, (h.alloc _).more (by simp)⟩
theorem BX.c0 (h : BX k n A c l wr) : wr.cell? ⟨k, 0, none⟩ = some (.int .i64 n) := Go.Joins.cell_of_block h.b 0
theorem BX.c1 (h : BX k n A c l wr) : wr.cell? ⟨k, 1, none⟩ = some (.slice A l.length c) := Go.Joins.cell_of_block h.b 1
theorem BX.lt (h : BX k n A c l wr) : k < wr.heap.size := lt_of_some h.b
end
theorem alloc_new (w : World) (o : Obj) : Below w.heap.size w (w.alloc o) := (Below.refl _ _).alloc (Nat.le_refl _) _
theorem len_insE_le (e : Ed) (l : List Ed) : (insE e l).length ≤ l.length + 1 := by
  induction l with
  | nil => simp [insE]
  | cons x r ih =>
    simp only [insE]
    split
    · simp only [List.length_cons]; omega
    · split
      · simp
      · simp
theorem inM_valid {n : Int} {l : List Ed} (h : chk n l = 0) : inM 64 l := by
  obtain ⟨h1, h2, h3, _⟩ := (chk_zero n l).1 h
  intro z hz
  have := h3 z hz
  omega
theorem sameG_self (n : Int) (l : List Ed) : sameG n n l l = true := by simp [sameG, eqE]

/-- one pair's round of GraphChanges: what stands in the loop -/
def CI (w : World) (g g4 : Nat) (A : Option Addr) (c : Nat) (L : List Int) (n : Int) (A1 : Option Addr) (c1 : Nat) (l : List Ed) (gp : Nat) (ps : List Ed) (wr : World) : Prop :=
  LS w g g4 A c L n A1 c1 l wr ∧ RE wr.heap.size wr (some ⟨gp, 0, none⟩) 3 ps
theorem CI.go {w : World} {g g4 : Nat} {A : Option Addr} {c : Nat} {L : List Int} {n : Int} {A1 : Option Addr} {c1 : Nat} {l : List Ed} {gp : Nat} {ps : List Ed} {wr w' : World} (h : CI w g g4 A c L n A1 c1 l gp ps wr) (hb : Below wr.heap.size wr w') : CI w g g4 A c L n A1 c1 l gp ps w' :=
  ⟨h.1.go hb, h.2.up hb⟩

set_option maxHeartbeats 8000000 in
set_option maxRecDepth 100000 in
theorem changes_any (A : Option Addr) (c : Nat) (L : List Int) (u v : Int) (w : World) (h : RD w A c L) (hL : L.length ≤ 17592186044416) :
    Calls Try.prog 4 #[.slice A L.length c, .int .i64 u, .int .i64 v] w fun e w' => e = .returned (.bool true) ∧ Below w.heap.size w w' := by
  have H := Lib.hid h
  clear h
  go_enter Try.func4, Try.ntmps4
  go_wp2_with fail
  refine (new_any A c L _ H.out).mono ?_
  rintro e w1 ⟨rfl, hd, hb⟩
  have HD := Lib.hid hd
  have HB := Lib.hid hb
  clear hd hb
  go_wp2_with fail
  refine (graph_any w.heap.size w.heap.size A c L 0 8 _ HD.out hL (by omega)).mono ?_
  rintro e w2 ⟨N, l0, A0, c0, m, rfl, hN, hck, hl0, ho, hdk, hgr⟩
  obtain ⟨g4, Hg4⟩ : ∃ x, Hid (w2.heap.size = x) := ⟨_, rfl⟩
  obtain ⟨W2, HW2⟩ : ∃ x, Hid (w2.alloc (.cells #[.int .i64 (N : Int), .slice A0 l0.length c0] 24) = x) := ⟨_, rfl⟩
  have HS : Hid (LS w w.heap.size g4 A c L (N : Int) A0 c0 l0 W2) := by show LS _ _ _ _ _ _ _ _ _ _ _; rw [← HW2.out, ← Hg4.out]; exact LS.start (n := (N : Int)) (Nat.le_refl _) HD.out.lt HB.out hdk hgr ho
  have HM := Lib.hid (inM_valid hck)
  clear hck ho hdk hgr HD HB
  go_wp2_with fail
  rw [HW2.out, Hg4.out]
  obtain ⟨m0, hd0⟩ := HS.out.dk
  refine (next_any w.heap.size w.heap.size A c L m0 6 _ hd0 hL (by omega)).mono ?_
  rintro e w3 ⟨t, m3, rfl, ht0, ht1, hdk, hgr⟩
  have HS3 := Lib.hid (HS.out.next hdk hgr)
  clear hd0 hdk hgr HS
  have key : ∀ (n : Int) (A1 : Option Addr) (c1 : Nat) (l : List Ed) (wk : World), l.length ≤ 10001 → LS w w.heap.size g4 A c L n A1 c1 l wk → True := fun _ _ _ _ _ _ _ => trivial
  clear key
  by_cases h0 : t = 0
  · subst h0
    obtain ⟨m4, hd4⟩ := HS3.out.dk
    have HD4 := Lib.hid hd4
    clear hd4
    have z0 := HS3.out.c0; have z1 := HS3.out.c1'; have z2 := HS3.out.lt
    go_wp2_with fail
    refine (spoilt_any w.heap.size w.heap.size A c L m4 (N : Int) 64 A0 c0 l0 _ HD4.out HS3.out.re (by omega) hL (by omega) HM.out).mono ?_
    rintro e w4 ⟨n, l, A1, c1, m5, rfl, -, hl1, -, ho, hdk, hgr⟩
    have hl : l.length ≤ 10001 := by omega
    have hb4 := (hgr.block _ HS3.out.lt (fun e => by injection e with e; have := HS3.out.l4; omega)).trans HS3.out.b4
    have z0 := Go.Joins.cell_of_block hb4 0; have z1 := Go.Joins.cell_of_block hb4 1; have d0 := Go.Joins.unfrozen_of_block hb4 0; have d1 := Go.Joins.unfrozen_of_block hb4 1; have z2 := lt_of_some hb4
    simp at z0 z1
    obtain ⟨W4, HW4⟩ : ∃ x, Hid ((w4.setCell ⟨g4, 0, none⟩ (.int .i64 n)).setCell ⟨g4, 1, none⟩ (.slice A1 l.length c1) = x) := ⟨_, rfl⟩
    have HS4 : Hid (LS w w.heap.size g4 A c L n A1 c1 l W4) := by show LS _ _ _ _ _ _ _ _ _ _ _; rw [← HW4.out]; exact HS3.out.spoil ho hdk hgr
    clear ho hdk hgr HS3 HD4 hb4 HM
    go_wp2_with fail
    rw [HW4.out]
    clear z0 z1 z2 d0 d1
    obtain ⟨m6, hd6⟩ := HS4.out.dk
    have HD6 := Lib.hid hd6
    clear hd6
    refine (next_any w.heap.size w.heap.size A c L _ 9 _ HD6.out hL (by omega)).mono ?_
    rintro e w6 ⟨r6, m7, rfl, -, -, hdk, hgr⟩
    have HS5 := Lib.hid (HS4.out.next hdk hgr)
    have HD7 := Lib.hid hdk
    clear hdk hgr HS4 HD6
    go_wp2_with fail
    refine (next_any w.heap.size w.heap.size A c L _ 9 _ HD7.out hL (by omega)).mono ?_
    rintro e w7 ⟨r7, m8, rfl, -, -, hdk, hgr⟩
    have HS6 := Lib.hid (HS5.out.next hdk hgr)
    have HD8 := Lib.hid hdk
    clear hdk hgr HS5 HD7
    go_wp2_with fail
    refine (next_any w.heap.size w.heap.size A c L _ 8 _ HD8.out hL (by omega)).mono ?_
    rintro e w8 ⟨r8, m9, rfl, -, -, hdk, hgr⟩
    have HS7 := Lib.hid (HS6.out.next hdk hgr)
    have HD9 := Lib.hid hdk
    clear hdk hgr HS6 HD8
    go_wp2_with fail
    refine (next_any w.heap.size w.heap.size A c L _ 8 _ HD9.out hL (by omega)).mono ?_
    rintro e w9 ⟨r9, m10, rfl, -, -, hdk, hgr⟩
    have HS8 := Lib.hid (HS7.out.next hdk hgr)
    have HD10 := Lib.hid hdk
    clear hdk hgr HS7 HD9
    go_wp2_with fail
    clear HD10
    obtain ⟨gp, Hgp⟩ : ∃ x, Hid (w9.heap.size = x) := ⟨_, rfl⟩
    obtain ⟨ps, Hps⟩ : ∃ x, Hid ([(u, v), (r6, r7), (r8, r9)] = x) := ⟨_, rfl⟩
    have hps : 3 ≤ ps.length := by rw [← Hps.out]; simp
    have HI : Hid (CI w w.heap.size g4 A c L n A1 c1 l gp ps (w9.alloc (.cells #[.int .i64 u, .int .i64 v, .int .i64 r6, .int .i64 r7, .int .i64 r8, .int .i64 r9] 41))) := by
      refine ⟨HS8.out.go (alloc_new _ _), ?_⟩
      rw [← Hgp.out, ← Hps.out]
      exact RE_block (l := [(u, v), (r6, r7), (r8, r9)]) (heap_alloc_new _ _) (by simp)
    rw [Hgp.out]
    clear HS8 Hps
    go_loopw [44] (fun i wr => ∃ (k : Nat), k ≤ 3 ∧ i = .int .i64 k ∧ Hid (CI w w.heap.size g4 A c L n A1 c1 l gp ps wr)) (fun i _ => 3 - (RowKit.intOf i).toNat)
    case atStart => exact ⟨0, Nat.zero_le _, rfl, HI.out⟩
    case round =>
      obtain ⟨k, hk, rfl, HR⟩ := hrel
      by_cases hlt : k < 3
      · obtain ⟨b9, o9, pu, pv, e9, hbp, _, p0, p1⟩ := HR.out.2.let_ (k := k) (by omega)
        simp only [Option.some.injEq, Addr.mk.injEq, and_true] at e9
        obtain ⟨rfl, rfl⟩ := e9
        simp only [Nat.zero_add] at p0 p1
        obtain ⟨ea, Hea⟩ : ∃ x, Hid (addE n l pu pv = x) := ⟨_, rfl⟩
        obtain ⟨na, Hna⟩ : ∃ x, Hid ((if ea = 0 then n else 0) = x) := ⟨_, rfl⟩
        obtain ⟨la, Hla⟩ : ∃ x, Hid ((if ea = 0 then insE (edg pu pv) l else []) = x) := ⟨_, rfl⟩
        obtain ⟨ex, Hex⟩ : ∃ x, Hid (remE n l pu pv = x) := ⟨_, rfl⟩
        obtain ⟨nx, Hnx⟩ : ∃ x, Hid ((if ex = 0 then n else 0) = x) := ⟨_, rfl⟩
        obtain ⟨lx, Hlx⟩ : ∃ x, Hid ((if ex = 0 then remL l (edg pu pv) else []) = x) := ⟨_, rfl⟩
        have hla : la.length ≤ 65536 := by
          rw [← Hla.out]; split
          · exact Nat.le_trans (len_insE_le _ _) (by omega)
          · simp
        have hlx : lx.length ≤ 65536 := by
          rw [← Hlx.out]; split
          · exact Nat.le_trans (len_remL _ _) (by omega)
          · simp
        have CA := Lib.hid (fun (W : World) (h : RE W.heap.size W A1 c1 l) => gadd_any n A1 c1 l pu pv W h (by omega))
        have CB := Lib.hid (fun (W : World) (h : RE W.heap.size W A1 c1 l) => radd_any n A1 c1 l pu pv W h (by omega))
        have CX := Lib.hid (fun (W : World) (h : RE W.heap.size W A1 c1 l) => grem_any n A1 c1 l pu pv W h (by omega))
        have CY := Lib.hid (fun (W : World) (h : RE W.heap.size W A1 c1 l) => rrem_any n A1 c1 l pu pv W h (by omega))
        simp only [Hea.out, Hna.out, Hla.out] at CA CB
        simp only [Hex.out, Hnx.out, Hlx.out] at CX CY
        obtain ⟨gq, Hgq⟩ : ∃ x, Hid (wr.heap.size = x) := ⟨_, rfl⟩
        obtain ⟨W0, HW0⟩ : ∃ x, Hid (wr.alloc (.cells #[.int .i64 pu, .int .i64 pv] 41) = x) := ⟨_, rfl⟩
        have HR0 : Hid (CI w w.heap.size g4 A c L n A1 c1 l gp ps W0) := by show CI _ _ _ _ _ _ _ _ _ _ _ _ _; rw [← HW0.out]; exact HR.out.go (alloc_new _ _)
        have HQ0 : Hid (W0.heap[gq]? = some (.cells #[.int .i64 pu, .int .i64 pv] 41)) := by show _ = _; rw [← HW0.out, ← Hgq.out]; exact heap_alloc_new _ _
        have z0 := HR.out.1.c0; have z1 := HR.out.1.c1'; have z2 := HR.out.1.lt
        go_wp2_with fail
        rw [HW0.out, Hgq.out]
        clear z0 z1 z2 p0 p1
        refine (CA.out W0 HR0.out.1.re).mono ?_
        rintro e w1 ⟨Aa, ca, rfl, ho, hb⟩
        clear CA
        have HV1 := Lib.hid (HR0.out.go hb)
        have HU1 := Lib.hid ((hb.block _ (lt_of_some HQ0.out)).trans HQ0.out)
        have HO1 : Hid (RE w1.heap.size w1 Aa ca la) := RE.of_own ho
        clear ho hb HR0 HQ0 
        obtain ⟨ga, Hga⟩ : ∃ x, Hid (w1.heap.size = x) := ⟨_, rfl⟩
        obtain ⟨W1, HW1⟩ : ∃ x, Hid (w1.alloc (.cells #[.int .i64 na, .slice Aa la.length ca] 24) = x) := ⟨_, rfl⟩
        have HR1 : Hid (CI w w.heap.size g4 A c L n A1 c1 l gp ps W1) := by show CI _ _ _ _ _ _ _ _ _ _ _ _ _; rw [← HW1.out]; exact HV1.out.go (alloc_new _ _)
        have HQ1 : Hid (W1.heap[gq]? = some (.cells #[.int .i64 pu, .int .i64 pv] 41)) := by show _ = _; rw [← HW1.out]; exact ((alloc_new _ _).block _ (lt_of_some HU1.out)).trans HU1.out
        have Ha1 : Hid (BX ga na Aa ca la W1) := by show BX _ _ _ _ _ _; rw [← HW1.out, ← Hga.out]; exact BX.new HO1.out _
        have z0 := HV1.out.1.c0; have z1 := HV1.out.1.c1'; have z2 := HV1.out.1.lt; have q0 := Go.Joins.cell_of_block HU1.out 0; have q1 := Go.Joins.cell_of_block HU1.out 1; have ql := lt_of_some HU1.out
        simp at q0 q1
        go_wp2_with fail
        rw [HW1.out, Hga.out]
        clear z0 z1 z2 q0 q1 ql
        clear HV1 HU1 HO1 
        refine (CB.out W1 HR1.out.1.re).mono ?_
        rintro e w2 ⟨Ab, cb, rfl, ho, hb⟩
        clear CB
        have HV2 := Lib.hid (HR1.out.go hb)
        have HU2 := Lib.hid ((hb.block _ (lt_of_some HQ1.out)).trans HQ1.out)
        have HO2 : Hid (RE w2.heap.size w2 Ab cb la) := ho
        have HEa2 := Lib.hid (Ha1.out.go hb)
        clear ho hb HR1 HQ1 Ha1
        obtain ⟨gb, Hgb⟩ : ∃ x, Hid (w2.heap.size = x) := ⟨_, rfl⟩
        obtain ⟨W2, HW2⟩ : ∃ x, Hid (w2.alloc (.cells #[.int .i64 na, .slice Ab la.length cb] 24) = x) := ⟨_, rfl⟩
        have HR2 : Hid (CI w w.heap.size g4 A c L n A1 c1 l gp ps W2) := by show CI _ _ _ _ _ _ _ _ _ _ _ _ _; rw [← HW2.out]; exact HV2.out.go (alloc_new _ _)
        have HQ2 : Hid (W2.heap[gq]? = some (.cells #[.int .i64 pu, .int .i64 pv] 41)) := by show _ = _; rw [← HW2.out]; exact ((alloc_new _ _).block _ (lt_of_some HU2.out)).trans HU2.out
        have Hb2 : Hid (BX gb na Ab cb la W2) := by show BX _ _ _ _ _ _; rw [← HW2.out, ← Hgb.out]; exact BX.new HO2.out _
        have Ha2 : Hid (BX ga na Aa ca la W2) := by show BX _ _ _ _ _ _; rw [← HW2.out]; exact HEa2.out.go (alloc_new _ _)
        have z0 := HV2.out.1.c0; have z1 := HV2.out.1.c1'; have z2 := HV2.out.1.lt; have q0 := Go.Joins.cell_of_block HU2.out 0; have q1 := Go.Joins.cell_of_block HU2.out 1; have ql := lt_of_some HU2.out
        simp at q0 q1
        go_wp2_with fail
        rw [HW2.out, Hgb.out]
        clear z0 z1 z2 q0 q1 ql
        clear HV2 HU2 HO2 HEa2
        refine (CX.out W2 HR2.out.1.re).mono ?_
        rintro e w3 ⟨Ax, cx, rfl, ho, hb⟩
        clear CX
        have HV3 := Lib.hid (HR2.out.go hb)
        have HU3 := Lib.hid ((hb.block _ (lt_of_some HQ2.out)).trans HQ2.out)
        have HO3 : Hid (RE w3.heap.size w3 Ax cx lx) := RE.of_own ho
        have HEa3 := Lib.hid (Ha2.out.go hb)
        have HEb3 := Lib.hid (Hb2.out.go hb)
        clear ho hb HR2 HQ2 Ha2 Hb2
        obtain ⟨gx, Hgx⟩ : ∃ x, Hid (w3.heap.size = x) := ⟨_, rfl⟩
        obtain ⟨W3, HW3⟩ : ∃ x, Hid (w3.alloc (.cells #[.int .i64 nx, .slice Ax lx.length cx] 24) = x) := ⟨_, rfl⟩
        have HR3 : Hid (CI w w.heap.size g4 A c L n A1 c1 l gp ps W3) := by show CI _ _ _ _ _ _ _ _ _ _ _ _ _; rw [← HW3.out]; exact HV3.out.go (alloc_new _ _)
        have HQ3 : Hid (W3.heap[gq]? = some (.cells #[.int .i64 pu, .int .i64 pv] 41)) := by show _ = _; rw [← HW3.out]; exact ((alloc_new _ _).block _ (lt_of_some HU3.out)).trans HU3.out
        have Hx3 : Hid (BX gx nx Ax cx lx W3) := by show BX _ _ _ _ _ _; rw [← HW3.out, ← Hgx.out]; exact BX.new HO3.out _
        have Ha3 : Hid (BX ga na Aa ca la W3) := by show BX _ _ _ _ _ _; rw [← HW3.out]; exact HEa3.out.go (alloc_new _ _)
        have Hb3 : Hid (BX gb na Ab cb la W3) := by show BX _ _ _ _ _ _; rw [← HW3.out]; exact HEb3.out.go (alloc_new _ _)
        have z0 := HV3.out.1.c0; have z1 := HV3.out.1.c1'; have z2 := HV3.out.1.lt; have q0 := Go.Joins.cell_of_block HU3.out 0; have q1 := Go.Joins.cell_of_block HU3.out 1; have ql := lt_of_some HU3.out
        simp at q0 q1
        go_wp2_with fail
        rw [HW3.out, Hgx.out]
        clear z0 z1 z2 q0 q1 ql
        clear HV3 HU3 HO3 HEa3 HEb3
        refine (CY.out W3 HR3.out.1.re).mono ?_
        rintro e w4 ⟨Ay, cy, rfl, ho, hb⟩
        clear CY
        have HV4 := Lib.hid (HR3.out.go hb)
        have HU4 := Lib.hid ((hb.block _ (lt_of_some HQ3.out)).trans HQ3.out)
        have HO4 : Hid (RE w4.heap.size w4 Ay cy lx) := ho
        have HEa4 := Lib.hid (Ha3.out.go hb)
        have HEb4 := Lib.hid (Hb3.out.go hb)
        have HEx4 := Lib.hid (Hx3.out.go hb)
        clear ho hb HR3 HQ3 Ha3 Hb3 Hx3
        obtain ⟨gy, Hgy⟩ : ∃ x, Hid (w4.heap.size = x) := ⟨_, rfl⟩
        obtain ⟨W4, HW4⟩ : ∃ x, Hid (w4.alloc (.cells #[.int .i64 nx, .slice Ay lx.length cy] 24) = x) := ⟨_, rfl⟩
        have HR4 : Hid (CI w w.heap.size g4 A c L n A1 c1 l gp ps W4) := by show CI _ _ _ _ _ _ _ _ _ _ _ _ _; rw [← HW4.out]; exact HV4.out.go (alloc_new _ _)
        have HQ4 : Hid (W4.heap[gq]? = some (.cells #[.int .i64 pu, .int .i64 pv] 41)) := by show _ = _; rw [← HW4.out]; exact ((alloc_new _ _).block _ (lt_of_some HU4.out)).trans HU4.out
        have Hy4 : Hid (BX gy nx Ay cy lx W4) := by show BX _ _ _ _ _ _; rw [← HW4.out, ← Hgy.out]; exact BX.new HO4.out _
        have Ha4 : Hid (BX ga na Aa ca la W4) := by show BX _ _ _ _ _ _; rw [← HW4.out]; exact HEa4.out.go (alloc_new _ _)
        have Hb4 : Hid (BX gb na Ab cb la W4) := by show BX _ _ _ _ _ _; rw [← HW4.out]; exact HEb4.out.go (alloc_new _ _)
        have Hx4 : Hid (BX gx nx Ax cx lx W4) := by show BX _ _ _ _ _ _; rw [← HW4.out]; exact HEx4.out.go (alloc_new _ _)
        have a0 := HEa4.out.c0; have a1 := HEa4.out.c1; have al := HEa4.out.lt; have b0 := HEb4.out.c0; have b1 := HEb4.out.c1; have bl := HEb4.out.lt
        go_wp2_with fail
        rw [HW4.out, Hgy.out]
        clear a0 a1 al b0 b1 bl
        clear HV4 HU4 HO4 HEa4 HEb4 HEx4
        have CS := Lib.hid (sameG_any na na Aa Ab ca cb la la W4 Ha4.out.re Hb4.out.re hla hla)
        have CT := Lib.hid (fun (W : World) (h : RE W.heap.size W Ax cx lx) (h' : RE W.heap.size W Ay cy lx) => sameG_any nx nx Ax Ay cx cy lx lx W h h' hlx hlx)
        simp only [sameG_self] at CS CT
        refine CS.out.mono ?_
        rintro e w5 ⟨rfl, hb⟩
        have HR5 := Lib.hid (HR4.out.go hb)
        have Hx5 := Lib.hid (Hx4.out.go hb)
        have Hy5 := Lib.hid (Hy4.out.go hb)
        clear hb CS HR4 Ha4 Hb4 Hx4 Hy4
        have a0 := Hx5.out.c0; have a1 := Hx5.out.c1; have al := Hx5.out.lt; have b0 := Hy5.out.c0; have b1 := Hy5.out.c1; have bl := Hy5.out.lt
        go_wp2_with (go_at_call 17; refine (CT.out w5 Hx5.out.re Hy5.out.re).mono ?_; rintro e w6 ⟨rfl, hb⟩; have HR6 := Lib.hid (HR5.out.go hb); clear hb)
        go_roundw
        case rel => exact ⟨k + 1, by omega, by go_num, HR6.out⟩
        case measure => simp [RowKit.intOf]; omega
      · obtain rfl : k = 3 := by omega
        go_wp2_with fail
        refine (awake3_any _).mono ?_
        rintro e w10 ⟨rfl, hb10⟩
        have HB11 := Lib.hid (HR.out.1.bel.trans (hb10.mono HR.out.1.bel.size))
        clear hb10
        go_wp2
        go_ret
        exact ⟨rfl, HB11.out⟩
  · have e0 : (t == 0) = false := by simpa using h0
    have hl : l0.length ≤ 10001 := by omega
    have HS4 := HS3
    clear HS3
    obtain ⟨n, Hn⟩ : ∃ x : Int, Hid ((N : Int) = x) := ⟨_, rfl⟩
    go_wp2_with fail
    clear e0 h0
    rw [Hn.out] at HS4
    obtain ⟨m6, hd6⟩ := HS4.out.dk
    have HD6 := Lib.hid hd6
    clear hd6
    refine (next_any w.heap.size w.heap.size A c L _ 9 _ HD6.out hL (by omega)).mono ?_
    rintro e w6 ⟨r6, m7, rfl, -, -, hdk, hgr⟩
    have HS5 := Lib.hid (HS4.out.next hdk hgr)
    have HD7 := Lib.hid hdk
    clear hdk hgr HS4 HD6
    go_wp2_with fail
    refine (next_any w.heap.size w.heap.size A c L _ 9 _ HD7.out hL (by omega)).mono ?_
    rintro e w7 ⟨r7, m8, rfl, -, -, hdk, hgr⟩
    have HS6 := Lib.hid (HS5.out.next hdk hgr)
    have HD8 := Lib.hid hdk
    clear hdk hgr HS5 HD7
    go_wp2_with fail
    refine (next_any w.heap.size w.heap.size A c L _ 8 _ HD8.out hL (by omega)).mono ?_
    rintro e w8 ⟨r8, m9, rfl, -, -, hdk, hgr⟩
    have HS7 := Lib.hid (HS6.out.next hdk hgr)
    have HD9 := Lib.hid hdk
    clear hdk hgr HS6 HD8
    go_wp2_with fail
    refine (next_any w.heap.size w.heap.size A c L _ 8 _ HD9.out hL (by omega)).mono ?_
    rintro e w9 ⟨r9, m10, rfl, -, -, hdk, hgr⟩
    have HS8 := Lib.hid (HS7.out.next hdk hgr)
    have HD10 := Lib.hid hdk
    clear hdk hgr HS7 HD9
    go_wp2_with fail
    clear HD10
    obtain ⟨gp, Hgp⟩ : ∃ x, Hid (w9.heap.size = x) := ⟨_, rfl⟩
    obtain ⟨ps, Hps⟩ : ∃ x, Hid ([(u, v), (r6, r7), (r8, r9)] = x) := ⟨_, rfl⟩
    have hps : 3 ≤ ps.length := by rw [← Hps.out]; simp
    have HI : Hid (CI w w.heap.size g4 A c L n A0 c0 l0 gp ps (w9.alloc (.cells #[.int .i64 u, .int .i64 v, .int .i64 r6, .int .i64 r7, .int .i64 r8, .int .i64 r9] 41))) := by
      refine ⟨HS8.out.go (alloc_new _ _), ?_⟩
      rw [← Hgp.out, ← Hps.out]
      exact RE_block (l := [(u, v), (r6, r7), (r8, r9)]) (heap_alloc_new _ _) (by simp)
    rw [Hgp.out]
    clear HS8 Hps
    go_loopw [44] (fun i wr => ∃ (k : Nat), k ≤ 3 ∧ i = .int .i64 k ∧ Hid (CI w w.heap.size g4 A c L n A0 c0 l0 gp ps wr)) (fun i _ => 3 - (RowKit.intOf i).toNat)
    case atStart => exact ⟨0, Nat.zero_le _, rfl, HI.out⟩
    case round =>
      obtain ⟨k, hk, rfl, HR⟩ := hrel
      by_cases hlt : k < 3
      · obtain ⟨b9, o9, pu, pv, e9, hbp, _, p0, p1⟩ := HR.out.2.let_ (k := k) (by omega)
        simp only [Option.some.injEq, Addr.mk.injEq, and_true] at e9
        obtain ⟨rfl, rfl⟩ := e9
        simp only [Nat.zero_add] at p0 p1
        obtain ⟨ea, Hea⟩ : ∃ x, Hid (addE n l0 pu pv = x) := ⟨_, rfl⟩
        obtain ⟨na, Hna⟩ : ∃ x, Hid ((if ea = 0 then n else 0) = x) := ⟨_, rfl⟩
        obtain ⟨la, Hla⟩ : ∃ x, Hid ((if ea = 0 then insE (edg pu pv) l0 else []) = x) := ⟨_, rfl⟩
        obtain ⟨ex, Hex⟩ : ∃ x, Hid (remE n l0 pu pv = x) := ⟨_, rfl⟩
        obtain ⟨nx, Hnx⟩ : ∃ x, Hid ((if ex = 0 then n else 0) = x) := ⟨_, rfl⟩
        obtain ⟨lx, Hlx⟩ : ∃ x, Hid ((if ex = 0 then remL l0 (edg pu pv) else []) = x) := ⟨_, rfl⟩
        have hla : la.length ≤ 65536 := by
          rw [← Hla.out]; split
          · exact Nat.le_trans (len_insE_le _ _) (by omega)
          · simp
        have hlx : lx.length ≤ 65536 := by
          rw [← Hlx.out]; split
          · exact Nat.le_trans (len_remL _ _) (by omega)
          · simp
        have CA := Lib.hid (fun (W : World) (h : RE W.heap.size W A0 c0 l0) => gadd_any n A0 c0 l0 pu pv W h (by omega))
        have CB := Lib.hid (fun (W : World) (h : RE W.heap.size W A0 c0 l0) => radd_any n A0 c0 l0 pu pv W h (by omega))
        have CX := Lib.hid (fun (W : World) (h : RE W.heap.size W A0 c0 l0) => grem_any n A0 c0 l0 pu pv W h (by omega))
        have CY := Lib.hid (fun (W : World) (h : RE W.heap.size W A0 c0 l0) => rrem_any n A0 c0 l0 pu pv W h (by omega))
        simp only [Hea.out, Hna.out, Hla.out] at CA CB
        simp only [Hex.out, Hnx.out, Hlx.out] at CX CY
        obtain ⟨gq, Hgq⟩ : ∃ x, Hid (wr.heap.size = x) := ⟨_, rfl⟩
        obtain ⟨W0, HW0⟩ : ∃ x, Hid (wr.alloc (.cells #[.int .i64 pu, .int .i64 pv] 41) = x) := ⟨_, rfl⟩
        have HR0 : Hid (CI w w.heap.size g4 A c L n A0 c0 l0 gp ps W0) := by show CI _ _ _ _ _ _ _ _ _ _ _ _ _; rw [← HW0.out]; exact HR.out.go (alloc_new _ _)
        have HQ0 : Hid (W0.heap[gq]? = some (.cells #[.int .i64 pu, .int .i64 pv] 41)) := by show _ = _; rw [← HW0.out, ← Hgq.out]; exact heap_alloc_new _ _
        have z0 := HR.out.1.c0; have z1 := HR.out.1.c1'; have z2 := HR.out.1.lt
        go_wp2_with fail
        rw [HW0.out, Hgq.out]
        clear z0 z1 z2 p0 p1
        refine (CA.out W0 HR0.out.1.re).mono ?_
        rintro e w1 ⟨Aa, ca, rfl, ho, hb⟩
        clear CA
        have HV1 := Lib.hid (HR0.out.go hb)
        have HU1 := Lib.hid ((hb.block _ (lt_of_some HQ0.out)).trans HQ0.out)
        have HO1 : Hid (RE w1.heap.size w1 Aa ca la) := RE.of_own ho
        clear ho hb HR0 HQ0 
        obtain ⟨ga, Hga⟩ : ∃ x, Hid (w1.heap.size = x) := ⟨_, rfl⟩
        obtain ⟨W1, HW1⟩ : ∃ x, Hid (w1.alloc (.cells #[.int .i64 na, .slice Aa la.length ca] 24) = x) := ⟨_, rfl⟩
        have HR1 : Hid (CI w w.heap.size g4 A c L n A0 c0 l0 gp ps W1) := by show CI _ _ _ _ _ _ _ _ _ _ _ _ _; rw [← HW1.out]; exact HV1.out.go (alloc_new _ _)
        have HQ1 : Hid (W1.heap[gq]? = some (.cells #[.int .i64 pu, .int .i64 pv] 41)) := by show _ = _; rw [← HW1.out]; exact ((alloc_new _ _).block _ (lt_of_some HU1.out)).trans HU1.out
        have Ha1 : Hid (BX ga na Aa ca la W1) := by show BX _ _ _ _ _ _; rw [← HW1.out, ← Hga.out]; exact BX.new HO1.out _
        have z0 := HV1.out.1.c0; have z1 := HV1.out.1.c1'; have z2 := HV1.out.1.lt; have q0 := Go.Joins.cell_of_block HU1.out 0; have q1 := Go.Joins.cell_of_block HU1.out 1; have ql := lt_of_some HU1.out
        simp at q0 q1
        go_wp2_with fail
        rw [HW1.out, Hga.out]
        clear z0 z1 z2 q0 q1 ql
        clear HV1 HU1 HO1 
        refine (CB.out W1 HR1.out.1.re).mono ?_
        rintro e w2 ⟨Ab, cb, rfl, ho, hb⟩
        clear CB
        have HV2 := Lib.hid (HR1.out.go hb)
        have HU2 := Lib.hid ((hb.block _ (lt_of_some HQ1.out)).trans HQ1.out)
        have HO2 : Hid (RE w2.heap.size w2 Ab cb la) := ho
        have HEa2 := Lib.hid (Ha1.out.go hb)
        clear ho hb HR1 HQ1 Ha1
        obtain ⟨gb, Hgb⟩ : ∃ x, Hid (w2.heap.size = x) := ⟨_, rfl⟩
        obtain ⟨W2, HW2⟩ : ∃ x, Hid (w2.alloc (.cells #[.int .i64 na, .slice Ab la.length cb] 24) = x) := ⟨_, rfl⟩
        have HR2 : Hid (CI w w.heap.size g4 A c L n A0 c0 l0 gp ps W2) := by show CI _ _ _ _ _ _ _ _ _ _ _ _ _; rw [← HW2.out]; exact HV2.out.go (alloc_new _ _)
        have HQ2 : Hid (W2.heap[gq]? = some (.cells #[.int .i64 pu, .int .i64 pv] 41)) := by show _ = _; rw [← HW2.out]; exact ((alloc_new _ _).block _ (lt_of_some HU2.out)).trans HU2.out
        have Hb2 : Hid (BX gb na Ab cb la W2) := by show BX _ _ _ _ _ _; rw [← HW2.out, ← Hgb.out]; exact BX.new HO2.out _
        have Ha2 : Hid (BX ga na Aa ca la W2) := by show BX _ _ _ _ _ _; rw [← HW2.out]; exact HEa2.out.go (alloc_new _ _)
        have z0 := HV2.out.1.c0; have z1 := HV2.out.1.c1'; have z2 := HV2.out.1.lt; have q0 := Go.Joins.cell_of_block HU2.out 0; have q1 := Go.Joins.cell_of_block HU2.out 1; have ql := lt_of_some HU2.out
        simp at q0 q1
        go_wp2_with fail
        rw [HW2.out, Hgb.out]
        clear z0 z1 z2 q0 q1 ql
        clear HV2 HU2 HO2 HEa2
        refine (CX.out W2 HR2.out.1.re).mono ?_
        rintro e w3 ⟨Ax, cx, rfl, ho, hb⟩
        clear CX
        have HV3 := Lib.hid (HR2.out.go hb)
        have HU3 := Lib.hid ((hb.block _ (lt_of_some HQ2.out)).trans HQ2.out)
        have HO3 : Hid (RE w3.heap.size w3 Ax cx lx) := RE.of_own ho
        have HEa3 := Lib.hid (Ha2.out.go hb)
        have HEb3 := Lib.hid (Hb2.out.go hb)
        clear ho hb HR2 HQ2 Ha2 Hb2
        obtain ⟨gx, Hgx⟩ : ∃ x, Hid (w3.heap.size = x) := ⟨_, rfl⟩
        obtain ⟨W3, HW3⟩ : ∃ x, Hid (w3.alloc (.cells #[.int .i64 nx, .slice Ax lx.length cx] 24) = x) := ⟨_, rfl⟩
        have HR3 : Hid (CI w w.heap.size g4 A c L n A0 c0 l0 gp ps W3) := by show CI _ _ _ _ _ _ _ _ _ _ _ _ _; rw [← HW3.out]; exact HV3.out.go (alloc_new _ _)
        have HQ3 : Hid (W3.heap[gq]? = some (.cells #[.int .i64 pu, .int .i64 pv] 41)) := by show _ = _; rw [← HW3.out]; exact ((alloc_new _ _).block _ (lt_of_some HU3.out)).trans HU3.out
        have Hx3 : Hid (BX gx nx Ax cx lx W3) := by show BX _ _ _ _ _ _; rw [← HW3.out, ← Hgx.out]; exact BX.new HO3.out _
        have Ha3 : Hid (BX ga na Aa ca la W3) := by show BX _ _ _ _ _ _; rw [← HW3.out]; exact HEa3.out.go (alloc_new _ _)
        have Hb3 : Hid (BX gb na Ab cb la W3) := by show BX _ _ _ _ _ _; rw [← HW3.out]; exact HEb3.out.go (alloc_new _ _)
        have z0 := HV3.out.1.c0; have z1 := HV3.out.1.c1'; have z2 := HV3.out.1.lt; have q0 := Go.Joins.cell_of_block HU3.out 0; have q1 := Go.Joins.cell_of_block HU3.out 1; have ql := lt_of_some HU3.out
        simp at q0 q1
        go_wp2_with fail
        rw [HW3.out, Hgx.out]
        clear z0 z1 z2 q0 q1 ql
        clear HV3 HU3 HO3 HEa3 HEb3
        refine (CY.out W3 HR3.out.1.re).mono ?_
        rintro e w4 ⟨Ay, cy, rfl, ho, hb⟩
        clear CY
        have HV4 := Lib.hid (HR3.out.go hb)
        have HU4 := Lib.hid ((hb.block _ (lt_of_some HQ3.out)).trans HQ3.out)
        have HO4 : Hid (RE w4.heap.size w4 Ay cy lx) := ho
        have HEa4 := Lib.hid (Ha3.out.go hb)
        have HEb4 := Lib.hid (Hb3.out.go hb)
        have HEx4 := Lib.hid (Hx3.out.go hb)
        clear ho hb HR3 HQ3 Ha3 Hb3 Hx3
        obtain ⟨gy, Hgy⟩ : ∃ x, Hid (w4.heap.size = x) := ⟨_, rfl⟩
        obtain ⟨W4, HW4⟩ : ∃ x, Hid (w4.alloc (.cells #[.int .i64 nx, .slice Ay lx.length cy] 24) = x) := ⟨_, rfl⟩
        have HR4 : Hid (CI w w.heap.size g4 A c L n A0 c0 l0 gp ps W4) := by show CI _ _ _ _ _ _ _ _ _ _ _ _ _; rw [← HW4.out]; exact HV4.out.go (alloc_new _ _)
        have HQ4 : Hid (W4.heap[gq]? = some (.cells #[.int .i64 pu, .int .i64 pv] 41)) := by show _ = _; rw [← HW4.out]; exact ((alloc_new _ _).block _ (lt_of_some HU4.out)).trans HU4.out
        have Hy4 : Hid (BX gy nx Ay cy lx W4) := by show BX _ _ _ _ _ _; rw [← HW4.out, ← Hgy.out]; exact BX.new HO4.out _
        have Ha4 : Hid (BX ga na Aa ca la W4) := by show BX _ _ _ _ _ _; rw [← HW4.out]; exact HEa4.out.go (alloc_new _ _)
        have Hb4 : Hid (BX gb na Ab cb la W4) := by show BX _ _ _ _ _ _; rw [← HW4.out]; exact HEb4.out.go (alloc_new _ _)
        have Hx4 : Hid (BX gx nx Ax cx lx W4) := by show BX _ _ _ _ _ _; rw [← HW4.out]; exact HEx4.out.go (alloc_new _ _)
        have a0 := HEa4.out.c0; have a1 := HEa4.out.c1; have al := HEa4.out.lt; have b0 := HEb4.out.c0; have b1 := HEb4.out.c1; have bl := HEb4.out.lt
        go_wp2_with fail
        rw [HW4.out, Hgy.out]
        clear a0 a1 al b0 b1 bl
        clear HV4 HU4 HO4 HEa4 HEb4 HEx4
        have CS := Lib.hid (sameG_any na na Aa Ab ca cb la la W4 Ha4.out.re Hb4.out.re hla hla)
        have CT := Lib.hid (fun (W : World) (h : RE W.heap.size W Ax cx lx) (h' : RE W.heap.size W Ay cy lx) => sameG_any nx nx Ax Ay cx cy lx lx W h h' hlx hlx)
        simp only [sameG_self] at CS CT
        refine CS.out.mono ?_
        rintro e w5 ⟨rfl, hb⟩
        have HR5 := Lib.hid (HR4.out.go hb)
        have Hx5 := Lib.hid (Hx4.out.go hb)
        have Hy5 := Lib.hid (Hy4.out.go hb)
        clear hb CS HR4 Ha4 Hb4 Hx4 Hy4
        have a0 := Hx5.out.c0; have a1 := Hx5.out.c1; have al := Hx5.out.lt; have b0 := Hy5.out.c0; have b1 := Hy5.out.c1; have bl := Hy5.out.lt
        go_wp2_with (go_at_call 17; refine (CT.out w5 Hx5.out.re Hy5.out.re).mono ?_; rintro e w6 ⟨rfl, hb⟩; have HR6 := Lib.hid (HR5.out.go hb); clear hb)
        go_roundw
        case rel => exact ⟨k + 1, by omega, by go_num, HR6.out⟩
        case measure => simp [RowKit.intOf]; omega
      · obtain rfl : k = 3 := by omega
        go_wp2_with fail
        refine (awake3_any _).mono ?_
        rintro e w10 ⟨rfl, hb10⟩
        have HB11 := Lib.hid (HR.out.1.bel.trans (hb10.mono HR.out.1.bel.size))
        clear hb10
        go_wp2
        go_ret
        exact ⟨rfl, HB11.out⟩
end Go.Proofs.Ytioohmhllajifaa
