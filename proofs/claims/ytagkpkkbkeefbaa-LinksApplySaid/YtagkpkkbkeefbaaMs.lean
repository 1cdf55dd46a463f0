/-
  LinksApply, walked.
-/
import Derived.Test.YtagkpkkbkeefbaaMu
import Derived.Test.YtagkpkkbkeefbaaMr
namespace Go.Proofs.Ytagkpkkbkeefbaa
open Go.RowKit Go.Lib

section
variable {base G k : Nat} {A : Option Addr} {c m : Nat} {L : List Int} {n : Int} {As : Option Addr} {cs : Nat} {l : List Ls.Lk} {e : Ev} {wr w' : World}
theorem SX.next (h : SX k n As cs l wr) (h0 : Dk base wr G A c L m) (hg : wr.grownBy w' (some G)) (hk : k ≠ G) : SX k n As cs l w' :=
  ⟨(hg.block _ (lt_of_some h.b) (fun e => by injection e with e; omega)).trans h.b, (h.rl.keepG encL (n := 6) (by decide) h0.blk hg).2⟩
theorem EX.next (h : EX k e wr) (hg : wr.grownBy w' (some G)) (hk : k ≠ G) : EX k e w' := (hg.block _ (lt_of_some h) (fun e => by injection e with e; omega)).trans h
end
/-- the law's state -/
structure LP (w : World) (G ks : Nat) (A : Option Addr) (c : Nat) (L : List Int) (N : Int) (As : Option Addr) (cs : Nat) (l : List Ls.Lk) (N0 : Int) (A0 : Option Addr) (c0 : Nat) (l0 : List Ls.Lk) (e : Ev) (Ae : Option Addr) (ce : Nat) (es : List Ev) (wr : World) : Prop where
  dk : ∃ m, Dk G wr G A c L m
  s : SX ks N As cs l wr
  r : SX w.heap.size N0 A0 c0 l0 wr
  e : EX (w.heap.size + 1) e wr
  m : RV wr.heap.size wr Ae ce es
  bel : Below w.heap.size w wr
  lg : w.heap.size + 2 ≤ G
  l4 : G < ks
section
variable {w : World} {G ks : Nat} {A : Option Addr} {c : Nat} {L : List Int} {N : Int} {As : Option Addr} {cs : Nat} {l : List Ls.Lk} {N0 : Int} {A0 : Option Addr} {c0 : Nat} {l0 : List Ls.Lk} {e : Ev} {Ae : Option Addr} {ce : Nat} {es : List Ev} {wr w' : World}
theorem LP.go (h : LP w G ks A c L N As cs l N0 A0 c0 l0 e Ae ce es wr) (hb : Below wr.heap.size wr w') : LP w G ks A c L N As cs l N0 A0 c0 l0 e Ae ce es w' := by
  obtain ⟨m, hd⟩ := h.dk
  exact ⟨⟨m, hd.go hb⟩, h.s.go hb, h.r.go hb, h.e.go hb, h.m.up hb, h.bel.trans (hb.mono h.bel.size), h.lg, h.l4⟩
theorem LP.next {m : Nat} (h : LP w G ks A c L N As cs l N0 A0 c0 l0 e Ae ce es wr) (hd : Dk G w' G A c L m) (hg : wr.grownBy w' (some G)) : LP w G ks A c L N As cs l N0 A0 c0 l0 e Ae ce es w' := by
  have hlg := h.lg
  have h4 := h.l4
  obtain ⟨m0, h0⟩ := h.dk
  exact ⟨⟨m, hd⟩, h.s.next h0 hg (by omega), h.r.next h0 hg (by omega), h.e.next hg (by omega), (h.m.keepG encE (n := 7) (by decide) h0.blk hg).2, h.bel.grown hg h.bel.size (fun k hk => by injection hk with hk; omega), hlg, h4⟩
theorem LP.withM {Ae' : Option Addr} {ce' : Nat} {es' : List Ev} (h : LP w G ks A c L N As cs l N0 A0 c0 l0 e Ae ce es wr) (hm : RV wr.heap.size wr Ae' ce' es') : LP w G ks A c L N As cs l N0 A0 c0 l0 e Ae' ce' es' wr :=
  ⟨h.dk, h.s, h.r, h.e, hm, h.bel, h.lg, h.l4⟩
theorem LP.drew (h : LP w G ks A c L N As cs l N0 A0 c0 l0 e Ae ce es wr) : LP w G ks A c L N As cs l N0 A0 c0 l0 e Ae ce es (wr.drewN 1) := by
  obtain ⟨m, hd⟩ := h.dk
  exact h.next (hd.go (below_drewN _ _)) (only_drewN 1 _)
end
/-- what is known while the three states are put into a list -/
structure JL (w : World) (G ks : Nat) (A : Option Addr) (c : Nat) (L : List Int) (N : Int) (As : Option Addr) (cs : Nat) (l : List Ls.Lk) (N0 : Int) (A0 : Option Addr) (c0 : Nat) (l0 : List Ls.Lk) (e : Ev) (Ae : Option Addr) (ce : Nat) (es : List Ev) (f : Nat → Bool) (a : Act) (wr : World) : Prop where
  sz : a.tmps.size = 139
  lp : LP w G ks A c L N As cs l N0 A0 c0 l0 e Ae ce es wr
  ch : f 5 = true → f 4 = true
  new : f 4 = true → ∃ (N' : Int) (l' : List Ls.Lk) (A' : Option Addr) (c' : Nat), l'.length = l.length ∧ RL wr.heap.size wr A' c' l' ∧ a.eval (.tmp 46) = .agg #[.int .i64 N', .slice A' l'.length c'] ∧
    (f 5 = true → ∃ X : Nat, a.eval (.tmp 47) = .slice (some ⟨X, 0, none⟩) 3 3 ∧ wr.heap[X]? = some (.cells #[.int .i64 N, .slice As l.length cs, .int .i64 N0, .slice A0 l0.length c0, .int .i64 N', .slice A' l'.length c'] 24))
section
variable {w : World} {G ks : Nat} {A : Option Addr} {c : Nat} {L : List Int} {N : Int} {As : Option Addr} {cs : Nat} {l : List Ls.Lk} {N0 : Int} {A0 : Option Addr} {c0 : Nat} {l0 : List Ls.Lk} {e : Ev} {Ae : Option Addr} {ce : Nat} {es : List Ev} {f : Nat → Bool} {a : Act} {wr w' : World}
theorem JL.put {i d : Nat} {v : Value} (h : JL w G ks A c L N As cs l N0 A0 c0 l0 e Ae ce es f a wr) (hd : d ≠ 46 ∧ d ≠ 47) (hi : i ≠ 4 ∧ i ≠ 5) : JL w G ks A c L N As cs l N0 A0 c0 l0 e Ae ce es (fun k => if k = i then true else f k) (a.put (some d) v) wr := by
  refine ⟨by rw [size_put]; exact h.sz, h.lp, fun hk => ?_, fun hk => ?_⟩
  · rw [if_neg (Ne.symm hi.2)] at hk
    rw [if_neg (Ne.symm hi.1)]
    exact h.ch hk
  rw [if_neg (Ne.symm hi.1)] at hk
  obtain ⟨N', l', A', c', h1, h2, h3, h4⟩ := h.new hk
  refine ⟨N', l', A', c', h1, h2, by rw [eval_put_other hd.1]; exact h3, fun hk => ?_⟩
  rw [if_neg (Ne.symm hi.2)] at hk
  rw [eval_put_other hd.2]
  exact h4 hk
theorem JL.spoil {m : Nat} {N' : Int} {l' : List Ls.Lk} {A' : Option Addr} {c' : Nat} (h : JL w G ks A c L N As cs l N0 A0 c0 l0 e Ae ce es f a wr) (h5 : f 5 = false) (hl : l'.length = l.length) (hr : RL w'.heap.size w' A' c' l') (hd : Dk G w' G A c L m) (hg : wr.grownBy w' (some G)) :
    JL w G ks A c L N As cs l N0 A0 c0 l0 e Ae ce es (fun k => if k = 4 then true else f k) (a.put (some 46) (.agg #[.int .i64 N', .slice A' l'.length c'])) w' := by
  refine ⟨by rw [size_put]; exact h.sz, h.lp.next hd hg, fun _ => if_pos rfl, fun _ => ⟨N', l', A', c', hl, hr, eval_put_same (by rw [h.sz]; decide), fun hk => ?_⟩⟩
  rw [if_neg (show ¬ 5 = 4 by decide), h5] at hk
  cases hk
theorem JL.build (h : JL w G ks A c L N As cs l N0 A0 c0 l0 e Ae ce es f a wr) (hf : f 4 = true) : ∃ (N' : Int) (l' : List Ls.Lk) (A' : Option Addr) (c' : Nat), a.eval (.tmp 46) = .agg #[.int .i64 N', .slice A' l'.length c'] ∧
    JL w G ks A c L N As cs l N0 A0 c0 l0 e Ae ce es (fun k => if k = 5 then true else f k) (a.put (some 47) (.slice (some ⟨wr.heap.size, 0, none⟩) 3 3)) (wr.alloc (.cells #[.int .i64 N, .slice As l.length cs, .int .i64 N0, .slice A0 l0.length c0, .int .i64 N', .slice A' l'.length c'] 24)) := by
  obtain ⟨N', l', A', c', h1, h2, h3, -⟩ := h.new hf
  exact ⟨N', l', A', c', h3, by rw [size_put]; exact h.sz, h.lp.go (below_new _ _), fun _ => (if_neg (show ¬ 4 = 5 by decide)).trans hf, fun _ => ⟨N', l', A', c', h1, h2.up (below_new _ _), by rw [eval_put_other (by decide)]; exact h3, fun _ => ⟨wr.heap.size, eval_put_same (by rw [h.sz]; decide), heap_alloc_new _ _⟩⟩⟩
end
theorem box6s {wr : World} {X : Nat} {T : TypeId} {n0 n1 n2 : Int} {A0 A1 A2 : Option Addr} {c0 c1 c2 : Nat} {l0 l1 l2 : List Ls.Lk} (h : wr.heap[X]? = some (.cells #[.int .i64 n0, .slice A0 l0.length c0, .int .i64 n1, .slice A1 l1.length c1, .int .i64 n2, .slice A2 l2.length c2] T (0, 0)))
    (h0 : RL wr.heap.size wr A0 c0 l0) (h1 : RL wr.heap.size wr A1 c1 l1) (h2 : RL wr.heap.size wr A2 c2 l2) (e0 : l0.length ≤ 10000) (e1 : l1.length ≤ 10000) (e2 : l2.length ≤ 10000) (k : Nat) (hk : k < 3) :
    ∃ (nx : Int) (Ax : Option Addr) (cx : Nat) (lx : List Ls.Lk), wr.cell? ⟨X, k * 2, none⟩ = some (.int .i64 nx) ∧ wr.cell? ⟨X, k * 2 + 1, none⟩ = some (.slice Ax lx.length cx) ∧ RL wr.heap.size wr Ax cx lx ∧ lx.length ≤ 10000 := by
  obtain rfl | rfl | rfl : k = 0 ∨ k = 1 ∨ k = 2 := by omega
  · exact ⟨n0, A0, c0, l0, Go.Joins.cell_of_block h 0, Go.Joins.cell_of_block h 1, h0, e0⟩
  · exact ⟨n1, A1, c1, l1, Go.Joins.cell_of_block h 2, Go.Joins.cell_of_block h 3, h1, e1⟩
  · exact ⟨n2, A2, c2, l2, Go.Joins.cell_of_block h 4, Go.Joins.cell_of_block h 5, h2, e2⟩
theorem box3s {wr : World} {X : Nat} {T : TypeId} {A0 A1 A2 : Option Addr} {c0 c1 c2 : Nat} {l0 l1 l2 : List Ev} (h : wr.heap[X]? = some (.cells #[.slice A0 l0.length c0, .slice A1 l1.length c1, .slice A2 l2.length c2] T (0, 0)))
    (h0 : RV wr.heap.size wr A0 c0 l0) (h1 : RV wr.heap.size wr A1 c1 l1) (h2 : RV wr.heap.size wr A2 c2 l2) (e0 : l0.length ≤ 100) (e1 : l1.length ≤ 100) (e2 : l2.length ≤ 100) (k : Nat) (hk : k < 3) :
    ∃ (Ax : Option Addr) (cx : Nat) (lx : List Ev), wr.cell? ⟨X, k, none⟩ = some (.slice Ax lx.length cx) ∧ RV wr.heap.size wr Ax cx lx ∧ lx.length ≤ 100 := by
  obtain rfl | rfl | rfl : k = 0 ∨ k = 1 ∨ k = 2 := by omega
  · exact ⟨A0, c0, l0, Go.Joins.cell_of_block h 0, h0, e0⟩
  · exact ⟨A1, c1, l1, Go.Joins.cell_of_block h 1, h1, e1⟩
  · exact ⟨A2, c2, l2, Go.Joins.cell_of_block h 2, h2, e2⟩
theorem apply_eq {b : Prop} [Decidable b] {n n1 n2 : Int} {l l1 l2 : List Ls.Lk} {e e1 e2 : List Ev} (h1 : if b then n1 = n ∧ l1 = l ∧ e1 = e else n1 = 0 ∧ l1 = [] ∧ e1 = []) (h2 : if b then n2 = n ∧ l2 = l ∧ e2 = e else n2 = 0 ∧ l2 = [] ∧ e2 = []) : n1 = n2 ∧ l1 = l2 ∧ e1 = e2 ∧ l1.length ≤ l.length ∧ e1.length ≤ e.length := by
  split at h1
  · rw [if_pos (by assumption)] at h2
    obtain ⟨rfl, rfl, rfl⟩ := h1
    obtain ⟨rfl, rfl, rfl⟩ := h2
    exact ⟨rfl, rfl, rfl, Nat.le_refl _, Nat.le_refl _⟩
  · rw [if_neg (by assumption)] at h2
    obtain ⟨rfl, rfl, rfl⟩ := h1
    obtain ⟨rfl, rfl, rfl⟩ := h2
    exact ⟨rfl, rfl, rfl, Nat.zero_le _, Nat.zero_le _⟩
theorem own_one (w : World) (base : Nat) (hb : base ≤ w.heap.size) (e : Ev) : (w.alloc (.cells #[.int .i64 e.kind, .int .i64 e.time, .int .i64 e.u, .int .i64 e.v, .int .i64 e.weight, .int .i64 e.label, .int .i64 e.sign] 26)).ownsRow base 26 7 (.slice (some ⟨w.heap.size, 0, none⟩) 1 1) 1 (cl Ev.cells [e]) :=
  World.ownsRow_lit w #[.int .i64 e.kind, .int .i64 e.time, .int .i64 e.u, .int .i64 e.v, .int .i64 e.weight, .int .i64 e.label, .int .i64 e.sign] 1 hb (by decide) rfl
theorem allR_len {n : Int} {es : List Ev} {l : List Ls.Lk} : (Ls.allR n l es).1.length ≤ l.length + es.length := by
  have key : ∀ (es : List Ev) (i : Nat) (l : List Ls.Lk), (Ls.allS n i l es).1.length ≤ l.length + es.length := by
    intro es
    induction es with
    | nil => intro i l; simp [Ls.allS]
    | cons e es ih =>
      intro i l
      have h1 := ih (i + 1) (Ls.nextL l e)
      have h2 := Ls.len_next l e
      unfold Ls.allS
      split
      · simp
      · split
        · simp
        · dsimp only
          split
          · simp only [List.length_cons]; omega
          · simp only [List.length_cons]; omega
  unfold Ls.allR
  split
  · simp
  · exact key es 0 l
set_option maxHeartbeats 16000000 in
set_option maxRecDepth 100000 in
theorem apply_law (N0 : Int) (A0 : Option Addr) (c0 : Nat) (l0 : List Ls.Lk) (k t u v x y z : Int) (A : Option Addr) (c : Nat) (L : List Int) (w : World) (hr0 : RL w.heap.size w A0 c0 l0) (h : RD w A c L) (hL : L.length ≤ 17592186044416) :
    Calls Try.prog 3 #[.agg #[.int .i64 N0, .slice A0 l0.length c0], .agg #[.int .i64 k, .int .i64 t, .int .i64 u, .int .i64 v, .int .i64 x, .int .i64 y, .int .i64 z], .slice A L.length c] w fun e w' => e = .returned (.bool true) ∧ Below w.heap.size w w' := by
  obtain ⟨W1, hW1⟩ : ∃ W1, ((w.alloc (.cells #[.int .i64 N0, .slice A0 l0.length c0] 24)).alloc (.cells #[.int .i64 k, .int .i64 t, .int .i64 u, .int .i64 v, .int .i64 x, .int .i64 y, .int .i64 z] 26)) = W1 := ⟨_, rfl⟩
  obtain ⟨n0, n1, n3, n4⟩ := new_two w (.cells #[.int .i64 N0, .slice A0 l0.length c0] 24) (.cells #[.int .i64 k, .int .i64 t, .int .i64 u, .int .i64 v, .int .i64 x, .int .i64 y, .int .i64 z] 26)
  rw [hW1] at n0 n1 n3 n4
  have HW1 := Lib.hid hW1
  have HR1 : Hid (SX w.heap.size N0 A0 c0 l0 W1) := ⟨n0, hr0.up n4⟩
  have HE1 : Hid (EX (w.heap.size + 1) ⟨k, t, u, v, x, y, z⟩ W1) := n1
  have HB1 := Lib.hid n4
  have HS1 := Lib.hid n3
  have CN := Lib.hid (new_any A c L W1 (h.go n4))
  clear hW1 n0 n1 n3 n4 hr0 h
  by_cases h100 : l0.length > 100
  · have hd : decide ((l0.length : Int) > 100) = true := by rw [decide_eq_true_eq]; omega
    clear h100
    go_enter Try.func3, Try.ntmps3
    go_wp2_with fail
    rw [HW1.out]
    refine (awake_any _).mono ?_
    rintro e v9 ⟨rfl, hb9⟩
    have HBE := Lib.hid (below_up HB1.out hb9)
    clear hb9
    go_wp2
    go_ret
    exact ⟨rfl, HBE.out⟩
  · have hd : decide ((l0.length : Int) > 100) = false := by rw [decide_eq_false_iff_not]; omega
    have HL0 : Hid (l0.length ≤ 100) := by show _ ≤ _; omega
    clear h100
    go_enter Try.func3, Try.ntmps3
    go_wp2_with fail
    rw [HW1.out]
    refine CN.out.mono ?_
    rintro e v0 ⟨rfl, hd0, hb0⟩
    obtain ⟨G, hG⟩ : ∃ G, Hid (W1.heap.size = G) := ⟨_, rfl⟩
    rw [hG.out] at hd0
    simp only [hG.out]
    have CSt := Lib.hid (state_any G G A c L 0 6 v0 hd0 hL (by decide))
    have HD0 := Lib.hid hd0
    have HR0 := Lib.hid (HR1.out.go hb0)
    have HE0 := Lib.hid (HE1.out.go hb0)
    have HB0 := Lib.hid (below_up HB1.out hb0)
    have HGe : Hid (w.heap.size + 2 ≤ G) := by show _ ≤ _; have := HS1.out; have := hG.out; omega
    clear hd0 hb0 CN hd HR1 HE1 HB1 HS1
    go_wp2_with fail
    refine CSt.out.mono ?_
    rintro e v1 ⟨N, l, As, cs, m1, rfl, hN, ⟨hV, htm⟩, hl, ho, D1, g1⟩
    obtain ⟨ks, Hks⟩ : ∃ k, Hid (v1.heap.size = k) := ⟨_, rfl⟩
    obtain ⟨us, Hus⟩ : ∃ u, Hid (v1.alloc (.cells #[.int .i64 (N : Nat), .slice As l.length cs] 24) = u) := ⟨_, rfl⟩
    have HLP : Hid (LP w G ks A c L (N : Int) As cs l N0 A0 c0 l0 ⟨k, t, u, v, x, y, z⟩ none 0 [] us) := by
      have hlt := HD0.out.lt
      have hsz := g1.size
      have r1 := (HR0.out.next HD0.out g1 (by have := HGe.out; omega)).go (below_new v1 (.cells #[.int .i64 (N : Nat), .slice As l.length cs] 24))
      have e1 := (HE0.out.next g1 (by have := HGe.out; omega)).go (below_new v1 (.cells #[.int .i64 (N : Nat), .slice As l.length cs] 24))
      have b1 : Below w.heap.size w v1 := HB0.out.grown g1 HB0.out.size (fun k hk => by injection hk with hk; have := HGe.out; omega)
      have s1 := SX.new (RX.of_own ho) (N : Int)
      have hks := Hks.out
      rw [Hus.out] at r1 e1 s1
      rw [Hks.out] at s1
      refine ⟨⟨m1, ?_⟩, s1, r1, e1, RX.nil_ _ _ _ _, ?_, HGe.out, by omega⟩
      · rw [← Hus.out]; exact D1.go (below_new _ _)
      · rw [← Hus.out]; exact below_up b1 (below_new _ _)
    have HLN : Hid (l.length ≤ 10000) := hl
    obtain ⟨M, HMx⟩ : ∃ M : Nat, Hid (max (2 : Int) (N : Int) = (M : Int)) := ⟨max 2 N, by show _ = _; omega⟩
    have HMb : Hid (2 ≤ M ∧ M ≤ 64) := by show _ ∧ _; have := HMx.out; omega
    have hmx := HMx.out
    clear hV hl ho D1 g1 CSt htm hN HR0 HE0 HB0 HD0
    go_wp2_with fail
    rw [Hus.out]
    try simp only [Hks.out]
    clear hmx
    obtain ⟨m2, hd2⟩ := HLP.out.dk
    refine (mixed_any G G A c L m2 M 8 us hd2 hL HMb.out (by decide)).mono ?_
    rintro e v2 ⟨es, Ae, ce, m3, rfl, hes, -, hoe, D2, g2⟩
    replace HLP := Lib.hid ((HLP.out.next D2 g2).withM (RX.of_own hoe))
    have HEL : Hid (es.length ≤ 8) := hes
    clear D2 g2 hd2 hoe hes
    go_wp2_with fail
    have HJ0 : Hid (∀ a : Act, a.tmps.size = 139 → JL w G ks A c L (N : Int) As cs l N0 A0 c0 l0 ⟨k, t, u, v, x, y, z⟩ Ae ce es (fun _ => false) a (v2.drewN 1)) := fun a ha => ⟨ha, HLP.out.drew, fun hk => (by cases hk), fun hk => (by cases hk)⟩
    refine wp_region_ac 8 139 (fun _ _ => True) (fun f a wr => JL w G ks A c L (N : Int) As cs l N0 A0 c0 l0 ⟨k, t, u, v, x, y, z⟩ Ae ce es f a wr) [(fun q0 _ => q0 = .agg #[.int .i64 (N : Int), .slice As l.length cs]), (fun q0 _ => q0 = .agg #[.int .i64 N0, .slice A0 l0.length c0]), (fun q0 _ => q0 = .pointer (some ⟨G, 0, none⟩)), (fun q0 _ => q0 = .agg #[.int .i64 (N : Int), .slice As l.length cs]), (fun _ _ => True), (fun _ _ => True), (fun q0 _ => q0 = .int .i64 3), (fun q0 _ => q0 = .int .i64 0)] (by kernel_rfl) (by kernel_rfl) rfl (fun _ _ _ _ _ => trivial) trivial (HJ0.out _ rfl) ?_ ?_ ?_
    · intro R hR
      simp only [List.mem_cons, List.not_mem_nil, or_false] at hR
      rcases hR with rfl | rfl | rfl | rfl | rfl | rfl | rfl | rfl <;> exact fun _ _ _ h _ => h
    · simp only [List.take_succ_cons, List.take_zero]
      refine ⟨?_, ?_, ?_, ?_, ?_, ?_, ?_, ?_, trivial⟩
      · intro a ws f hle hjj hfi hun hdn hag hdep K Q hK
        have d8 : (a.tmps[8]?).getD undef = .pointer (some ⟨ks, 0, none⟩) := eval_get (hag 8 (freeB_spec (by kernel_rfl)))
        rw [if_pos (show Region.wanted _ _ = true from rfl)]
        have y0 := hjj.lp.s.c0; have y1 := hjj.lp.s.c1
        unfold Oper.wp
        simp [go_sem, d8, y0, y1]
        exact hK _ _ trivial (hjj.put (by decide) (by decide)) rfl
      · intro a ws f hle hjj hfi hun hdn hag hdep K Q hK
        have d3 : (a.tmps[3]?).getD undef = .pointer (some ⟨w.heap.size, 0, none⟩) := eval_get (hag 3 (freeB_spec (by kernel_rfl)))
        rw [if_pos (show Region.wanted _ _ = true from rfl)]
        have y0 := hjj.lp.r.c0; have y1 := hjj.lp.r.c1
        unfold Oper.wp
        simp [go_sem, d3, y0, y1]
        exact hK _ _ trivial (hjj.put (by decide) (by decide)) rfl
      · intro a ws f hle hjj hfi hun hdn hag hdep K Q hK
        have d7 : (a.tmps[7]?).getD undef = .pointer (some ⟨G, 0, none⟩) := eval_get (hag 7 (freeB_spec (by kernel_rfl)))
        rw [if_pos (show Region.wanted _ _ = true from rfl)]
        unfold Oper.wp
        simp [go_sem, d7]
        exact hK _ _ trivial (hjj.put (by decide) (by decide)) rfl
      · intro a ws f hle hjj hfi hun hdn hag hdep K Q hK
        have d8 : (a.tmps[8]?).getD undef = .pointer (some ⟨ks, 0, none⟩) := eval_get (hag 8 (freeB_spec (by kernel_rfl)))
        rw [if_pos (show Region.wanted _ _ = true from rfl)]
        have y0 := hjj.lp.s.c0; have y1 := hjj.lp.s.c1
        unfold Oper.wp
        simp [go_sem, d8, y0, y1]
        exact hK _ _ trivial (hjj.put (by decide) (by decide)) rfl
      · intro a ws f hle hjj hfi hun hdn hag hdep K Q hK
        have d44 : (a.tmps[44]?).getD undef = .pointer (some ⟨G, 0, none⟩) := eval_get (dep_of hdep 2 44 rfl (by kernel_rfl) rfl rfl)
        have d45 : (a.tmps[45]?).getD undef = .agg #[.int .i64 (N : Int), .slice As l.length cs] := eval_get (dep_of hdep 3 45 rfl (by kernel_rfl) rfl rfl)
        rw [if_pos (show Region.wanted _ _ = true from rfl)]
        obtain ⟨mm, hdm⟩ := hjj.lp.dk
        have hcon := spoilt_any G G A c L mm (N : Int) As cs l ws hdm hL hjj.lp.s.rl (by have := HLN.out; omega)
        unfold Oper.wp
        simp [go_sem, d44, d45]
        refine hcon.mono ?_
        rintro e w9 ⟨N', l', A', c', rfl, hl9, hr9, ⟨m9, hd9⟩, hg9⟩
        exact hK _ _ trivial (hjj.spoil (hun 5 _ rfl (by kernel_rfl)) hl9 hr9 hd9 hg9) trivial
      · intro a ws f hle hjj hfi hun hdn hag hdep K Q hK
        have d42 : (a.tmps[42]?).getD undef = .agg #[.int .i64 (N : Int), .slice As l.length cs] := eval_get (dep_of hdep 0 42 rfl (by kernel_rfl) rfl rfl)
        have d43 : (a.tmps[43]?).getD undef = .agg #[.int .i64 N0, .slice A0 l0.length c0] := eval_get (dep_of hdep 1 43 rfl (by kernel_rfl) rfl rfl)
        have d46 : (fun _ _ => True) (a.eval (.tmp 46)) ws := dep_of hdep 4 46 rfl (by kernel_rfl) rfl rfl
        rw [if_pos (show Region.wanted _ _ = true from rfl)]
        obtain ⟨N', l', A', c', e46, hj9⟩ := hjj.build (hdn 4 _ rfl (by kernel_rfl))
        have e46 := eval_get e46
        unfold Oper.wp
        simp [go_sem, d42, d43, e46]
        exact hK _ _ trivial hj9 trivial
      · intro a ws f hle hjj hfi hun hdn hag hdep K Q hK
        have d47 : (fun _ _ => True) (a.eval (.tmp 47)) ws := dep_of hdep 5 47 rfl (by kernel_rfl) rfl rfl
        rw [if_pos (show Region.wanted _ _ = true from rfl)]
        obtain ⟨N', l', A', c', -, -, -, h5⟩ := hjj.new (hjj.ch (hdn 5 _ rfl (by kernel_rfl)))
        obtain ⟨X, e47, -⟩ := h5 (hdn 5 _ rfl (by kernel_rfl))
        have e47 := eval_get e47
        unfold Oper.wp
        simp [go_sem, e47]
        exact hK _ _ trivial (hjj.put (by decide) (by decide)) rfl
      · intro a ws f hle hjj hfi hun hdn hag hdep K Q hK
        rw [if_pos (show Region.wanted _ _ = true from rfl)]
        unfold Oper.wp
        simp [go_sem]
        exact hK _ _ trivial (hjj.put (by decide) (by decide)) rfl
    · intro a ws f hle hjj hft hff hsz hdf hag hend
      have f42 : a.eval (.tmp 42) = .agg #[.int .i64 (N : Int), .slice As l.length cs] := end_of hend 0 42 (by decide) rfl rfl rfl
      have f43 : a.eval (.tmp 43) = .agg #[.int .i64 N0, .slice A0 l0.length c0] := end_of hend 1 43 (by decide) rfl rfl rfl
      have f44 : a.eval (.tmp 44) = .pointer (some ⟨G, 0, none⟩) := end_of hend 2 44 (by decide) rfl rfl rfl
      have f45 : a.eval (.tmp 45) = .agg #[.int .i64 (N : Int), .slice As l.length cs] := end_of hend 3 45 (by decide) rfl rfl rfl
      have f48 : a.eval (.tmp 48) = .int .i64 3 := end_of hend 6 48 (by decide) rfl rfl rfl
      have f49 : a.eval (.tmp 49) = .int .i64 0 := end_of hend 7 49 (by decide) rfl rfl rfl
      have ea := act_block 42 8 hsz hdf hag [42, 43, 44, 45, 46, 47, 48, 49] (by kernel_rfl) (by kernel_rfl) (of_decide_eq_true (by kernel_rfl))
      obtain ⟨N', l', A', c', hl', hr', e46, h5⟩ := hjj.new (hft 4 (by decide))
      obtain ⟨X, e47, hX⟩ := h5 (hft 5 (by decide))
      clear hag hend hsz hdf
      simp only [List.map_cons, List.map_nil, f42, f43, f44, f45, f48, f49, e46, e47] at ea
      clear f42 f43 f44 f45 f48 f49 e46 e47 h5
      simp only [List.take_succ_cons, List.take_zero, List.drop_succ_cons, List.drop_zero, List.cons_append, List.nil_append] at ea
      subst ea
      have HLP := Lib.hid hjj.lp
      have HX := Lib.hid hX
      have HRS := Lib.hid hr'
      have HLS : Hid (l'.length ≤ 10000) := by show _ ≤ _; rw [hl']; exact HLN.out
      clear hjj hle hft hff hX hr' hl' HJ0
      simp only [List.drop_succ_cons, List.drop_zero]
      go_wp2_with fail
      go_loopw [49] (fun i wr => ∃ (j : Nat), j ≤ 3 ∧ i = .int .i64 j ∧ Hid (Below ws.heap.size ws wr)) (fun i _ => 3 - (RowKit.intOf i).toNat)
      case atStart => exact ⟨0, Nat.zero_le _, rfl, Below.refl _ _⟩
      case round =>
        obtain ⟨j, hj, rfl, HB⟩ := hrel
        by_cases hlt : j < 3
        · obtain ⟨nx, Ax, cx, lx, x0, x1, hrx, hlx⟩ := box6s ((HB.out.block X (lt_of_some HX.out)).trans HX.out) (HLP.out.s.rl.up HB.out) (HLP.out.r.rl.up HB.out) (HRS.out.up HB.out) HLN.out (by have := HL0.out; omega) HLS.out j hlt
          have hXl : X < wr.heap.size := Nat.lt_of_lt_of_le (lt_of_some HX.out) HB.out.size
          obtain ⟨Qx, hQx⟩ : ∃ Q, Hid (wr.heap.size = Q) := ⟨_, rfl⟩
          obtain ⟨W2, hW2⟩ : ∃ W, Hid (wr.alloc (.cells #[.int .i64 nx, .slice Ax lx.length cx] 24) = W) := ⟨_, rfl⟩
          have HSX : Hid (SX Qx nx Ax cx lx W2) := by show SX _ _ _ _ _ _; rw [← hW2.out, ← hQx.out]; exact SX.new hrx nx
          have HBw : Hid (Below ws.heap.size ws W2) := by show Below _ _ _; rw [← hW2.out]; exact below_up HB.out (below_new _ _)
          have HLX : Hid (lx.length ≤ 10000) := hlx
          obtain ⟨E, hE⟩ : ∃ E, Hid (Ls.chkS nx lx = E) := ⟨_, rfl⟩
          have C13 : Hid (∀ x' : More W2, Calls Try.prog 13 #[.agg #[.int .i64 nx, .slice Ax lx.length cx]] (over W2 x') fun e w' => e = .returned (.int .i64 E) ∧ Below (over W2 x').heap.size (over W2 x') w') := by
            intro x'
            rw [← hE.out]
            exact lcheck_any nx Ax cx lx (over W2 x') (HSX.out.rl.up (over_below _ x')) (by have := HLX.out; omega)
          have C14 : Hid (∀ x' : More W2, Calls Try.prog 14 #[.agg #[.int .i64 nx, .slice Ax lx.length cx]] (over W2 x') fun e w' => e = .returned (.int .i64 E) ∧ Below (over W2 x').heap.size (over W2 x') w') := by
            intro x'
            rw [← hE.out]
            exact rcheckS_any nx Ax cx lx (over W2 x') (HSX.out.rl.up (over_below _ x')) (by have := HLX.out; omega)
          clear hrx hlx HB
          go_wp2_with fail
          rw [hW2.out]
          try simp only [hQx.out]
          clear x0 x1 hXl hW2
          have s0 := HSX.out.c0; have s1 := HSX.out.c1; have sl := HSX.out.lt
          refine wp_region_over (by kernel_rfl) (by kernel_rfl) ?_
          repeat (go_big_quiet_step (first | (go_at_call 13; exact calls_over (C13.out _)) | (go_at_call 14; exact calls_over (C14.out _))))
          refine wpQuiet_nil ?_
          rintro _ ⟨zz, rfl⟩
          obtain ⟨Wc, hWc⟩ : ∃ W, Hid (over W2 zz = W) := ⟨_, rfl⟩
          rw [hWc.out]
          have HBc : Hid (Below W2.heap.size W2 Wc) := by show Below _ _ _; rw [← hWc.out]; exact over_below _ zz
          replace HSX := Lib.hid (HSX.out.go HBc.out)
          replace HBw := Lib.hid (below_up HBw.out HBc.out)
          clear C13 C14 s0 s1 sl HBc hE hWc
          have HMr := Lib.hid (HLP.out.m.up HBw.out)
          have HEr := Lib.hid (HLP.out.e.go HBw.out)
          obtain ⟨e0, e1, e2, e3, e4, e5, e6⟩ := HEr.out.cs
          dsimp only at e0 e1 e2 e3 e4 e5 e6
          have el := HEr.out.lt
          go_wp2_with (at_builtin; (refine wpList_applV _ rfl (.tmp 59) (.tmp 60) Wc.heap.size (some ⟨Wc.heap.size, 0, none⟩) 1 rfl [(⟨k, t, u, v, x, y, z⟩ : Ev)] (by simp [Act.eval]) (own_one Wc _ (Nat.le_refl _) ⟨k, t, u, v, x, y, z⟩) Ae ce es.length es rfl (by simp [Act.eval]) ((HMr.out.up (below_new _ _))) (by have := HEL.out; simp; omega) (by simp) ?_; intro A7 c7 w7 HO7 HB7 HG7; have HN7 := Lib.hid (RX.of_own HO7.out); have HBl7 : Hid (Below Wc.heap.size Wc w7) := (below_new _ _).trans (HB7.out.mono (Nat.le_refl _)); obtain ⟨el2, Hel⟩ : ∃ o, Hid ([(⟨k, t, u, v, x, y, z⟩ : Ev)] ++ es = o) := ⟨_, rfl⟩; rw [Hel.out] at HN7 ⊢))
          clear e0 e1 e2 e3 e4 e5 e6 el HO7 HB7 HG7
          replace HSX := Lib.hid (HSX.out.go HBl7.out)
          replace HBw := Lib.hid (below_up HBw.out HBl7.out)
          have HELn : Hid (el2.length ≤ 9) := by show _ ≤ _; rw [← Hel.out]; have := HEL.out; simp; omega
          obtain ⟨n2, Hn2⟩ : ∃ n, Hid (el2.length = n) := ⟨_, rfl⟩
          rw [Hn2.out]
          have hn9 : n2 ≤ 9 := by rw [← Hn2.out]; exact HELn.out
          clear HMr HEr HBl7
          go_loopw [63] (fun i wr => ∃ (j2 : Nat), j2 ≤ n2 ∧ i = .int .i64 j2 ∧ Hid (Below w7.heap.size w7 wr)) (fun i _ => n2 - (RowKit.intOf i).toNat)
          case atStart => exact ⟨0, Nat.zero_le _, rfl, Below.refl _ _⟩
          case round =>
            obtain ⟨j2, hj2, rfl, HB2⟩ := hrel
            by_cases hlt2 : j2 < n2
            · obtain ⟨b, off, ⟨ek, et, eu, ev', ex, ey, ez⟩, rfl, hb, -, c0, c1, c2, c3, c4, c5, c6⟩ := RV_at (HN7.out.up HB2.out) (k := j2) (by rw [Hn2.out]; exact hlt2)
              dsimp only at c0 c1 c2 c3 c4 c5 c6
              obtain ⟨Qe, hQe⟩ : ∃ Q, Hid (wr.heap.size = Q) := ⟨_, rfl⟩
              obtain ⟨W3, hW3⟩ : ∃ W, Hid (wr.alloc (.cells #[.int .i64 ek, .int .i64 et, .int .i64 eu, .int .i64 ev', .int .i64 ex, .int .i64 ey, .int .i64 ez] 26) = W) := ⟨_, rfl⟩
              have HB3 : Hid (Below wr.heap.size wr W3) := by show Below _ _ _; rw [← hW3.out]; exact below_new _ _
              have HEe : Hid (EX Qe ⟨ek, et, eu, ev', ex, ey, ez⟩ W3) := by show EX _ _ _; rw [← hW3.out, ← hQe.out]; exact heap_alloc_new _ _
              have HS3 := Lib.hid ((HSX.out.go HB2.out).go HB3.out)
              replace HB2 : Hid (Below w7.heap.size w7 W3) := below_up HB2.out HB3.out
              have s0 := HS3.out.c0; have s1 := HS3.out.c1; have sl := HS3.out.lt
              rw [← hW3.out] at s0 s1 sl
              go_wp2_with fail
              rw [hW3.out]
              try simp only [hQe.out]
              clear s0 s1 sl c0 c1 c2 c3 c4 c5 c6 hb HB3 hW3
              refine (lapply_any nx Ax cx lx ek et eu ev' ex ey ez W3 HS3.out.rl (by have := HLX.out; omega)).mono ?_
              rintro e va ⟨na, la, ea, Aa, Ba, ca, da, rfl, hif, hrl, hrv, hb⟩
              have HIF := Lib.hid hif
              have HRa := Lib.hid hrl
              have HVa := Lib.hid hrv
              replace HS3 := Lib.hid (HS3.out.go hb)
              replace HEe := Lib.hid (HEe.out.go hb)
              replace HB2 := Lib.hid (below_up HB2.out hb)
              clear hif hrl hrv hb
              obtain ⟨E, hE⟩ : ∃ E, Hid (Ls.apE nx lx ⟨ek, et, eu, ev', ex, ey, ez⟩ = E) := ⟨_, rfl⟩
              rw [hE.out]
              obtain ⟨ka, hka⟩ : ∃ k, Hid (va.heap.size = k) := ⟨_, rfl⟩
              obtain ⟨ua, hua⟩ : ∃ k, Hid (va.alloc (.cells #[.int .i64 na, .slice Aa la.length ca] 24) = k) := ⟨_, rfl⟩
              have BU : Hid (Below va.heap.size va ua) := by show Below _ _ _; rw [← hua.out]; exact below_new _ _
              have SA : Hid (SX ka na Aa ca la ua) := by show SX _ _ _ _ _ _; rw [← hka.out, ← hua.out]; exact SX.new HRa.out _
              replace HVa := Lib.hid (HVa.out.up BU.out)
              replace HS3 := Lib.hid (HS3.out.go BU.out)
              replace HEe := Lib.hid (HEe.out.go BU.out)
              replace HB2 := Lib.hid (below_up HB2.out BU.out)
              have s0 := HS3.out.c0; have s1 := HS3.out.c1; have sl := HS3.out.lt
              obtain ⟨g0, g1, g2, g3, g4, g5, g6⟩ := HEe.out.cs
              dsimp only at g0 g1 g2 g3 g4 g5 g6
              have gl := HEe.out.lt
              rw [← hua.out] at s0 s1 sl g0 g1 g2 g3 g4 g5 g6 gl
              go_wp2_with fail
              rw [hua.out]
              try simp only [hka.out]
              clear s0 s1 sl g0 g1 g2 g3 g4 g5 g6 gl hua BU
              refine (rapply_any nx Ax cx lx ek et eu ev' ex ey ez ua HS3.out.rl (by have := HLX.out; omega)).mono ?_
              rintro e vb ⟨nb, lb, eb, Ab, Bb, cb, db, rfl, hif, hrl, hrv, hb⟩
              rw [hE.out]
              obtain ⟨h1, h2, h3, h4, h5⟩ := apply_eq HIF.out hif
              have HLa : Hid (la.length ≤ 20000) := by show _ ≤ _; have := Ls.len_next lx ⟨ek, et, eu, ev', ex, ey, ez⟩; have := HLX.out; omega
              have HLe : Hid (ea.length ≤ 20000) := by show _ ≤ _; have := Ls.len_chg lx ⟨ek, et, eu, ev', ex, ey, ez⟩; have := HLX.out; omega
              rw [← h2] at hrl
              rw [← h3] at hrv
              rw [← h1, ← h2, ← h3]
              have HRb := Lib.hid hrl
              have HVb := Lib.hid hrv
              replace SA := Lib.hid (SA.out.go hb)
              replace HVa := Lib.hid (HVa.out.up hb)
              replace HB2 := Lib.hid (below_up HB2.out hb)
              clear hif hrl hrv hb h1 h2 h3 h4 h5 HIF HEe HS3 hE
              obtain ⟨kb, hkb⟩ : ∃ k, Hid (vb.heap.size = k) := ⟨_, rfl⟩
              obtain ⟨ub, hub⟩ : ∃ k, Hid (vb.alloc (.cells #[.int .i64 na, .slice Ab la.length cb] 24) = k) := ⟨_, rfl⟩
              have BU : Hid (Below vb.heap.size vb ub) := by show Below _ _ _; rw [← hub.out]; exact below_new _ _
              have SB : Hid (SX kb na Ab cb la ub) := by show SX _ _ _ _ _ _; rw [← hkb.out, ← hub.out]; exact SX.new HRb.out _
              replace SA := Lib.hid (SA.out.go BU.out)
              replace HVa := Lib.hid (HVa.out.up BU.out)
              replace HVb := Lib.hid (HVb.out.up BU.out)
              replace HB2 := Lib.hid (below_up HB2.out BU.out)
              have a0 := SA.out.c0; have a1 := SA.out.c1; have al := SA.out.lt
              have b0 := SB.out.c0; have b1 := SB.out.c1; have bl := SB.out.lt
              rw [← hub.out] at a0 a1 al b0 b1 bl
              go_wp2_with fail
              rw [hub.out]
              try simp only [hkb.out]
              clear a0 a1 al b0 b1 bl hub BU
              have CSm := sameS_any na na Aa Ab ca cb la la ub SA.out.rl SB.out.rl (by have := HLa.out; omega)
              rw [show sameS na na la la = true by simp [sameS]] at CSm
              refine CSm.mono ?_
              rintro e v8 ⟨rfl, hb8⟩
              replace HVa := Lib.hid (HVa.out.up hb8)
              replace HVb := Lib.hid (HVb.out.up hb8)
              replace HB2 := Lib.hid (below_up HB2.out hb8)
              clear hb8
              go_wp2_with fail
              refine (same_any Ba Bb da db ea v8 HVa.out HVb.out (by have := HLe.out; omega)).mono ?_
              rintro e v9 ⟨rfl, hb9⟩
              replace HB2 := Lib.hid (below_up HB2.out hb9)
              clear hb9 SA SB HVa HVb
              go_wp2
              go_roundw
              case rel => exact ⟨j2 + 1, hlt2, by go_num, HB2.out⟩
              case measure => simp [RowKit.intOf]; omega
            · obtain rfl : j2 = n2 := by omega
              obtain ⟨Wc, hWc⟩ : ∃ W, W = wr := ⟨_, rfl⟩
              subst hWc
              replace HSX := Lib.hid (HSX.out.go HB2.out)
              replace HBw := Lib.hid (below_up HBw.out HB2.out)
              have HMr := Lib.hid (HLP.out.m.up HBw.out)
              have HEr := Lib.hid (HLP.out.e.go HBw.out)
              obtain ⟨e0, e1, e2, e3, e4, e5, e6⟩ := HEr.out.cs
              dsimp only at e0 e1 e2 e3 e4 e5 e6
              have el := HEr.out.lt
              clear hlt2 hj2
              go_wp2_with (at_builtin; (refine wpList_applV _ rfl (.tmp 99) (.tmp 100) Wc.heap.size (some ⟨Wc.heap.size, 0, none⟩) 1 rfl [(⟨k, t, u, v, x, y, z⟩ : Ev)] (by simp [Act.eval]) (own_one Wc _ (Nat.le_refl _) ⟨k, t, u, v, x, y, z⟩) Ae ce es.length es rfl (by simp [Act.eval]) ((HMr.out.up (below_new _ _))) (by have := HEL.out; simp; omega) (by simp) ?_; intro A8 c8 w8 HO8 HB8 HG8; have HN8 := Lib.hid (RX.of_own HO8.out); have HBl8 : Hid (Below Wc.heap.size Wc w8) := (below_new _ _).trans (HB8.out.mono (Nat.le_refl _)); obtain ⟨el3, Hel3⟩ : ∃ o, Hid ([(⟨k, t, u, v, x, y, z⟩ : Ev)] ++ es = o) := ⟨_, rfl⟩; rw [Hel3.out] at HN8 ⊢))
              clear e0 e1 e2 e3 e4 e5 e6 el HO8 HB8 HG8
              obtain ⟨Y, hY⟩ : ∃ Q, Hid (w8.heap.size = Q) := ⟨_, rfl⟩
              obtain ⟨W4, hW4⟩ : ∃ W, Hid (w8.alloc (.cells #[.slice none 0 0, .slice Ae es.length ce, .slice A8 el3.length c8] 32) = W) := ⟨_, rfl⟩
              have HB48 : Hid (Below w8.heap.size w8 W4) := by show Below _ _ _; rw [← hW4.out]; exact below_new _ _
              have HT3 : Hid (W4.heap[Y]? = some (.cells #[.slice none 0 0, .slice Ae es.length ce, .slice A8 el3.length c8] 32)) := by show _ = _; rw [← hW4.out, ← hY.out]; exact heap_alloc_new _ _
              replace HSX := Lib.hid ((HSX.out.go HBl8.out).go HB48.out)
              replace HMr := Lib.hid ((HMr.out.up HBl8.out).up HB48.out)
              replace HN8 := Lib.hid (HN8.out.up HB48.out)
              replace HBw := Lib.hid (below_up (below_up HBw.out HBl8.out) HB48.out)
              have HEL3 : Hid (el3.length ≤ 9) := by show _ ≤ _; rw [← Hel3.out]; have := HEL.out; simp; omega
              clear HEr HBl8 HB48
              rw [hW4.out]
              simp only [hY.out]
              go_loopw [104] (fun i wr => ∃ (j3 : Nat), j3 ≤ 3 ∧ i = .int .i64 j3 ∧ Hid (Below W4.heap.size W4 wr)) (fun i _ => 3 - (RowKit.intOf i).toNat)
              case atStart => exact ⟨0, Nat.zero_le _, rfl, Below.refl _ _⟩
              case round =>
                obtain ⟨j3, hj3, rfl, HB4⟩ := hrel
                by_cases hlt3 : j3 < 3
                · obtain ⟨Am, cm, lm, x0, hrm, hlm⟩ := box3s (A0 := none) (c0 := 0) (l0 := []) ((HB4.out.block Y (lt_of_some HT3.out)).trans HT3.out) (RX.nil_ _ _ _ _) (HMr.out.up HB4.out) (HN8.out.up HB4.out) (by simp) (by have := HEL.out; omega) (by have := HEL3.out; omega) j3 hlt3
                  have hYl : Y < wr.heap.size := Nat.lt_of_lt_of_le (lt_of_some HT3.out) HB4.out.size
                  have HRm := Lib.hid hrm
                  have HLm : Hid (lm.length ≤ 100) := hlm
                  have HSr := Lib.hid (HSX.out.go HB4.out)
                  have s0 := HSr.out.c0; have s1 := HSr.out.c1; have sl := HSr.out.lt
                  clear hrm hlm
                  go_wp2_with fail
                  clear s0 s1 sl x0 hYl
                  refine (lall_any nx Ax Am cx cm lx lm wr HSr.out.rl HRm.out (by have := HLX.out; have := HLm.out; omega)).mono ?_
                  rintro e va ⟨na, la, Aa, ca, rfl, h1, h2, hrl, hb⟩
                  have HIF1 := Lib.hid h1
                  have HIF2 := Lib.hid h2
                  have HRa := Lib.hid hrl
                  replace HSr := Lib.hid (HSr.out.go hb)
                  replace HRm := Lib.hid (HRm.out.up hb)
                  replace HB4 := Lib.hid (below_up HB4.out hb)
                  clear h1 h2 hrl hb
                  obtain ⟨cnt, hcnt⟩ : ∃ k, Hid ((Ls.allR nx lx lm).2.1 = k) := ⟨_, rfl⟩
                  obtain ⟨E, hE⟩ : ∃ k, Hid ((Ls.allR nx lx lm).2.2 = k) := ⟨_, rfl⟩
                  rw [hcnt.out, hE.out]
                  obtain ⟨ka, hka⟩ : ∃ k, Hid (va.heap.size = k) := ⟨_, rfl⟩
                  obtain ⟨ua, hua⟩ : ∃ k, Hid (va.alloc (.cells #[.int .i64 na, .slice Aa la.length ca] 24) = k) := ⟨_, rfl⟩
                  have BU : Hid (Below va.heap.size va ua) := by show Below _ _ _; rw [← hua.out]; exact below_new _ _
                  have SA : Hid (SX ka na Aa ca la ua) := by show SX _ _ _ _ _ _; rw [← hka.out, ← hua.out]; exact SX.new HRa.out _
                  replace HSr := Lib.hid (HSr.out.go BU.out)
                  replace HRm := Lib.hid (HRm.out.up BU.out)
                  replace HB4 := Lib.hid (below_up HB4.out BU.out)
                  have s0 := HSr.out.c0; have s1 := HSr.out.c1; have sl := HSr.out.lt
                  rw [← hua.out] at s0 s1 sl
                  go_wp2_with fail
                  rw [hua.out]
                  try simp only [hka.out]
                  clear s0 s1 sl hua BU
                  refine (rall_any nx Ax Am cx cm lx lm ua HSr.out.rl HRm.out (by have := HLX.out; have := HLm.out; omega)).mono ?_
                  rintro e vb ⟨nb, lb, Ab, cb, rfl, h1, h2, hrl, hb⟩
                  rw [hcnt.out, hE.out]
                  have h3 : lb = la := h1.trans HIF1.out.symm
                  have h4 : nb = na := h2.trans HIF2.out.symm
                  have HLa : Hid (la.length ≤ 20000) := by show _ ≤ _; rw [HIF1.out]; have := allR_len (n := nx) (l := lx) (es := lm); have := HLX.out; have := HLm.out; omega
                  rw [h3] at hrl
                  rw [h3, h4]
                  have HRb := Lib.hid hrl
                  replace SA := Lib.hid (SA.out.go hb)
                  replace HB4 := Lib.hid (below_up HB4.out hb)
                  clear hrl hb h1 h2 h3 h4 HIF1 HIF2 HSr hcnt hE HRm
                  obtain ⟨kb, hkb⟩ : ∃ k, Hid (vb.heap.size = k) := ⟨_, rfl⟩
                  obtain ⟨ub, hub⟩ : ∃ k, Hid (vb.alloc (.cells #[.int .i64 na, .slice Ab la.length cb] 24) = k) := ⟨_, rfl⟩
                  have BU : Hid (Below vb.heap.size vb ub) := by show Below _ _ _; rw [← hub.out]; exact below_new _ _
                  have SB : Hid (SX kb na Ab cb la ub) := by show SX _ _ _ _ _ _; rw [← hkb.out, ← hub.out]; exact SX.new HRb.out _
                  replace SA := Lib.hid (SA.out.go BU.out)
                  replace HB4 := Lib.hid (below_up HB4.out BU.out)
                  have a0 := SA.out.c0; have a1 := SA.out.c1; have al := SA.out.lt
                  have b0 := SB.out.c0; have b1 := SB.out.c1; have bl := SB.out.lt
                  rw [← hub.out] at a0 a1 al b0 b1 bl
                  go_wp2_with fail
                  rw [hub.out]
                  try simp only [hkb.out]
                  clear a0 a1 al b0 b1 bl hub BU
                  have CSm := sameS_any na na Aa Ab ca cb la la ub SA.out.rl SB.out.rl (by have := HLa.out; omega)
                  rw [show sameS na na la la = true by simp [sameS]] at CSm
                  refine CSm.mono ?_
                  rintro e v8 ⟨rfl, hb8⟩
                  replace HB4 := Lib.hid (below_up HB4.out hb8)
                  clear hb8 SA SB
                  go_wp2
                  go_roundw
                  case rel => exact ⟨j3 + 1, hlt3, by go_num, HB4.out⟩
                  case measure => simp [RowKit.intOf]; omega
                · obtain rfl : j3 = 3 := by omega
                  replace HBw := Lib.hid (below_up HBw.out HB4.out)
                  go_wp2
                  go_roundw
                  case rel => exact ⟨j + 1, hlt, by go_num, HBw.out⟩
                  case measure => simp [RowKit.intOf]; omega
        · obtain rfl : j = 3 := by omega
          go_wp2_with fail
          refine (awake_any _).mono ?_
          rintro e v9 ⟨rfl, hb9⟩
          have HBE := Lib.hid (below_up (below_up HLP.out.bel HB.out) hb9)
          clear hb9
          go_wp2
          go_ret
          exact ⟨rfl, HBE.out⟩
end Go.Proofs.Ytagkpkkbkeefbaa
