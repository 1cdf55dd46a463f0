/-
  A state with something changed.
-/
import Derived.Test.YtagkpkkbkeefbaaMc
namespace Go.Proofs.Ytagkpkkbkeefbaa
open Go.RowKit Go.Lib

/-- a state that is returned -/
theorem ret_state1 {fn : Func} {R : Ending → World → Prop} {a : Act} {w : World} {p : Nat} (hres : fn.results = #[.cell p 24]) (hd : a.defers = []) (g : Nat) (hp : a.tmps.getD p undef = .pointer (some ⟨g, 0, none⟩))
    {v0 v1 : Value} (hb : w.heap[g]? = some (.cells #[v0, v1] 24 (0, 0))) (h : R (.returned (.agg #[v0, v1])) w) : bodyPost Try.prog fn R .ret a w := by
  have hc := Go.Joins.cell_of_block hb
  have y0 := hc 0; have y1 := hc 1
  simp only [List.getElem?_toArray, List.getElem?_cons_succ, List.getElem?_cons_zero] at y0 y1
  have hp' : (a.tmps[p]?).getD undef = .pointer (some ⟨g, 0, none⟩) := by simpa using hp
  refine bodyPost_ret (v := .agg #[v0, v1]) ?_ hd h
  clear hp h hd hb hc
  simp [results, hres, go_sem, hp', y0, y1]
/-- cells of whole numbers -/
def Ints (xs : List Value) : Prop := ∀ u ∈ xs, ∃ q : Int, u = .int .i64 q
theorem Ints.set {xs : List Value} (h : Ints xs) (j : Nat) (q : Int) : Ints (xs.set j (.int .i64 q)) := by
  intro u hu
  rcases List.mem_or_eq_of_mem_set hu with h1 | h1
  · exact h u h1
  · exact ⟨q, h1⟩
theorem ints_cl (l : List Ls.Lk) : Ints (cl Ls.Lk.cells l) := by
  intro u hu
  obtain ⟨x, _, hx⟩ := List.mem_flatMap.1 hu
  simp only [Ls.Lk.cells, List.mem_cons, List.not_mem_nil, or_false] at hx
  rcases hx with rfl | rfl | rfl | rfl | rfl | rfl <;> exact ⟨_, rfl⟩
theorem ints_links (n : Nat) : ∀ xs : List Value, xs.length = n * 6 → Ints xs → ∃ l : List Ls.Lk, l.length = n ∧ xs = cl Ls.Lk.cells l := by
  induction n with
  | zero =>
    intro xs h _
    have : xs = [] := List.eq_nil_of_length_eq_zero (by omega)
    exact ⟨[], rfl, this⟩
  | succ n ih =>
    intro xs h hi
    obtain _ | ⟨a0, xs⟩ := xs
    · simp at h
    obtain _ | ⟨a1, xs⟩ := xs
    · simp at h; omega
    obtain _ | ⟨a2, xs⟩ := xs
    · simp at h; omega
    obtain _ | ⟨a3, xs⟩ := xs
    · simp at h; omega
    obtain _ | ⟨a4, xs⟩ := xs
    · simp at h; omega
    obtain _ | ⟨a5, xs⟩ := xs
    · simp at h; omega
    obtain ⟨q0, rfl⟩ := hi a0 (by simp)
    obtain ⟨q1, rfl⟩ := hi a1 (by simp)
    obtain ⟨q2, rfl⟩ := hi a2 (by simp)
    obtain ⟨q3, rfl⟩ := hi a3 (by simp)
    obtain ⟨q4, rfl⟩ := hi a4 (by simp)
    obtain ⟨q5, rfl⟩ := hi a5 (by simp)
    obtain ⟨l, hl, rfl⟩ := ih xs (by simp at h; omega) (fun u hu => hi u (by simp [hu]))
    exact ⟨⟨q0, q1, q2, q3, q4, q5⟩ :: l, by simp [hl], rfl⟩
/-- while a state is changed: the deck in block G, the state in block K, its links in a list of the call's own -/
structure SP (base : Nat) (w : World) (G K : Nat) (A : Option Addr) (c : Nat) (L : List Int) (N : Int) (n : Nat) (A3 : Option Addr) (c3 : Nat) (wr : World) : Prop where
  dk : ∃ m, Dk base wr G A c L m
  bk : wr.heap[K]? = some (.cells #[.int .i64 N, .slice A3 n c3] 24)
  b1 : wr.heap[K + 1]? = some (.cells #[.int .i64 0, .slice none 0 0] 24)
  own : ∃ xs, Ints xs ∧ wr.ownsRow (K + 2) 62 6 (.slice A3 n c3) n xs
  gr : w.grownBy wr (some G)
  lk : w.heap.size ≤ K
  lg : G < K
section
variable {base : Nat} {w : World} {G K : Nat} {A : Option Addr} {c : Nat} {L : List Int} {N : Int} {n : Nat} {A3 : Option Addr} {c3 g : Nat} {wr w' : World}
theorem SP.next (h : SP base w G K A c L N n A3 c3 wr) (hd : ∃ m, Dk base w' G A c L m) (hg : wr.grownBy w' (some G)) : SP base w G K A c L N n A3 c3 w' := by
  have hlg := h.lg
  obtain ⟨xs, hi, ho⟩ := h.own
  exact ⟨hd, (hg.block K (lt_of_some h.bk) (fun e => by injection e with e; omega)).trans h.bk, (hg.block _ (lt_of_some h.b1) (fun e => by injection e with e; omega)).trans h.b1, ⟨xs, hi, own_kept ho hg (by omega)⟩, grown_trans h.gr hg, h.lk, hlg⟩
theorem SP.low (h : SP base w G K A c L N n (some ⟨g, 0, none⟩) c3 wr) : K + 2 ≤ g ∧ g < wr.heap.size := by
  obtain ⟨xs, hi, ho⟩ := h.own
  exact ho.lt g rfl
theorem SP.drew (h : SP base w G K A c L N n A3 c3 wr) : SP base w G K A c L N n A3 c3 (wr.drewN 1) := by
  obtain ⟨mm, hd⟩ := h.dk
  exact h.next ⟨mm, hd.go (below_drewN _ _)⟩ (only_drewN 1 _)
theorem SP.some_ (h : SP base w G K A c L N n A3 c3 wr) (hn : 0 < n) : ∃ g, A3 = some ⟨g, 0, none⟩ := by
  obtain ⟨xs, hi, ho⟩ := h.own
  rcases ho.2 with ⟨h1, h2⟩ | ⟨g, cap, cur, hv, _⟩
  · omega
  · injection hv with h1
    exact ⟨g, h1⟩
theorem SP.stored (h : SP base w G K A c L N n (some ⟨g, 0, none⟩) c3 wr) (j : Nat) (q : Int) : SP base w G K A c L N n (some ⟨g, 0, none⟩) c3 (wr.setCell ⟨g, j, none⟩ (.int .i64 q)) := by
  have hlg := h.lg
  have hlk := h.lk
  have hlow := h.low.1
  obtain ⟨xs, hi, ho⟩ := h.own
  obtain ⟨mm, hd⟩ := h.dk
  have hb : Below (K + 2) wr (wr.setCell ⟨g, j, none⟩ (.int .i64 q)) := (Below.refl _ _).setCell (p := ⟨g, j, none⟩) hlow _
  exact ⟨⟨mm, hd.goB hb (by omega)⟩, (hb.block K (by omega)).trans h.bk, (hb.block (K + 1) (by omega)).trans h.b1, ⟨_, hi.set j q, (ho.stored j (.int .i64 q)).1⟩, grown_below h.gr hb (by omega), hlk, hlg⟩
theorem SP.cell (h : SP base w G K A c L N n (some ⟨g, 0, none⟩) c3 wr) (j : Nat) (hj : j < n * 6) : ∃ q : Int, wr.cell? ⟨g, j, none⟩ = some (.int .i64 q) := by
  obtain ⟨xs, hi, ho⟩ := h.own
  have hlen : j < xs.length := by rw [ho.1]; exact hj
  obtain ⟨q, hq⟩ := hi _ (List.getElem_mem hlen)
  exact ⟨q, by rw [ho.cellAt j hj, List.getElem?_eq_getElem hlen, hq]⟩
theorem SP.unf (h : SP base w G K A c L N n (some ⟨g, 0, none⟩) c3 wr) (j : Nat) : wr.frozen? ⟨g, j, none⟩ = false := by
  obtain ⟨xs, hi, ho⟩ := h.own
  exact ho.frozenAt j
theorem SP.nodes (h : SP base w G K A c L N n A3 c3 wr) (M : Int) : SP base w G K A c L M n A3 c3 (wr.setCell ⟨K, 0, none⟩ (.int .i64 M)) := by
  have hlg := h.lg
  have hlk := h.lk
  obtain ⟨xs, hi, ho⟩ := h.own
  obtain ⟨mm, hd⟩ := h.dk
  have hb : Below K wr (wr.setCell ⟨K, 0, none⟩ (.int .i64 M)) := (Below.refl _ _).setCell (p := ⟨K, 0, none⟩) (Nat.le_refl _) _
  exact ⟨⟨mm, hd.goB hb hlg⟩, setCell_cells h.bk 0 _, (Below.heap_setCell wr ⟨K, 0, none⟩ _ (K + 1) (by show K + 1 ≠ K; omega)).trans h.b1, ⟨xs, hi, own_kept ho set_grown (by omega)⟩, grown_below h.gr hb hlk, hlk, hlg⟩
theorem SP.c0 (h : SP base w G K A c L N n A3 c3 wr) : wr.cell? ⟨K, 0, none⟩ = some (.int .i64 N) := Go.Joins.cell_of_block h.bk 0
theorem SP.c1 (h : SP base w G K A c L N n A3 c3 wr) : wr.cell? ⟨K, 1, none⟩ = some (.slice A3 n c3) := Go.Joins.cell_of_block h.bk 1
theorem SP.d0 (h : SP base w G K A c L N n A3 c3 wr) : wr.cell? ⟨K + 1, 0, none⟩ = some (.int .i64 0) := Go.Joins.cell_of_block h.b1 0
theorem SP.d1 (h : SP base w G K A c L N n A3 c3 wr) : wr.cell? ⟨K + 1, 1, none⟩ = some (.slice none 0 0) := Go.Joins.cell_of_block h.b1 1
theorem SP.f0 (h : SP base w G K A c L N n A3 c3 wr) : wr.frozen? ⟨K, 0, none⟩ = false := Go.Joins.unfrozen_of_block h.bk 0
theorem SP.e0 (h : SP base w G K A c L N n A3 c3 wr) : wr.frozen? ⟨K + 1, 0, none⟩ = false := Go.Joins.unfrozen_of_block h.b1 0
theorem SP.e1 (h : SP base w G K A c L N n A3 c3 wr) : wr.frozen? ⟨K + 1, 1, none⟩ = false := Go.Joins.unfrozen_of_block h.b1 1
theorem SP.start {m : Nat} {W1 w6 : World} {l : List Ls.Lk} (hd : Dk base w G A c L m) (h0 : W1.heap[w.heap.size]? = some (.cells #[.int .i64 N, .slice A3 n c3] 24)) (h1 : W1.heap[w.heap.size + 1]? = some (.cells #[.int .i64 0, .slice none 0 0] 24)) (hb : Below w.heap.size w W1) {A6 : Option Addr} {c6 : Nat}
    (ho : w6.ownsRow (w.heap.size + 2) 62 6 (.slice A6 l.length c6) l.length (cl Ls.Lk.cells l)) (hb6 : Below (w.heap.size + 2) W1 w6) :
    SP base w G w.heap.size A c L N l.length A6 c6 (w6.setCell ⟨w.heap.size, 1, none⟩ (.slice A6 l.length c6)) := by
  have hlt := hd.lt
  have h06 := (hb6.block w.heap.size (by omega)).trans h0
  have h16 := (hb6.block (w.heap.size + 1) (by omega)).trans h1
  have hb9 : Below w.heap.size w (w6.setCell ⟨w.heap.size, 1, none⟩ (.slice A6 l.length c6)) := (hb.trans (hb6.mono (by omega))).setCell (p := ⟨w.heap.size, 1, none⟩) (Nat.le_refl _) _
  exact ⟨⟨m, hd.goB hb9 hlt⟩, setCell_cells h06 1 _, (Below.heap_setCell w6 ⟨w.heap.size, 1, none⟩ _ (w.heap.size + 1) (by show w.heap.size + 1 ≠ w.heap.size; omega)).trans h16, ⟨_, ints_cl l, own_kept ho set_grown (by omega)⟩, grown_below (grown_refl _ _) hb9 (Nat.le_refl _), Nat.le_refl _, hlt⟩
end
/-- what spoilt answers: some state with as many links -/
def SpoiltP (base G : Nat) (A : Option Addr) (c : Nat) (L : List Int) (n : Nat) (w : World) (en : Ending) (w' : World) : Prop :=
  ∃ (N : Int) (l : List Ls.Lk) (A' : Option Addr) (c' : Nat), en = .returned (.agg #[.int .i64 N, .slice A' l.length c']) ∧ l.length = n ∧ RL w'.heap.size w' A' c' l ∧ (∃ m, Dk base w' G A c L m) ∧ w.grownBy w' (some G)
theorem SP.fin {base : Nat} {w : World} {G K : Nat} {A : Option Addr} {c : Nat} {L : List Int} {N : Int} {n : Nat} {A3 : Option Addr} {c3 : Nat} {wr : World} (h : SP base w G K A c L N n A3 c3 wr) {a : Act} (hd : a.defers = []) (hp : a.tmps.getD 4 undef = .pointer (some ⟨K + 1, 0, none⟩)) :
    bodyPost Try.prog Try.f12 (SpoiltP base G A c L n w) .ret a ((wr.setCell ⟨K + 1, 0, none⟩ (.int .i64 N)).setCell ⟨K + 1, 1, none⟩ (.slice A3 n c3)) := by
  have hlg := h.lg
  have hlk := h.lk
  obtain ⟨xs, hi, ho⟩ := h.own
  obtain ⟨mm, hdk⟩ := h.dk
  have e1 := setCell_cells h.b1 0 (.int .i64 N)
  have e2 := setCell_cells e1 1 (.slice A3 n c3)
  have hb : Below (K + 1) wr ((wr.setCell ⟨K + 1, 0, none⟩ (.int .i64 N)).setCell ⟨K + 1, 1, none⟩ (.slice A3 n c3)) := ((Below.refl _ _).setCell (p := ⟨K + 1, 0, none⟩) (Nat.le_refl _) _).setCell (p := ⟨K + 1, 1, none⟩) (Nat.le_refl _) _
  obtain ⟨l, hl, rfl⟩ := ints_links n xs ho.1 hi
  subst hl
  have ho2 := own_kept (own_kept ho (set_grown (u := wr) (k := K + 1) (i := 0) (v := .int .i64 N)) (by omega)) (set_grown (k := K + 1) (i := 1) (v := .slice A3 l.length c3)) (by omega)
  exact ret_state1 (p := 4) Try.results12 hd (K + 1) hp e2 ⟨N, l, A3, c3, rfl, rfl, RX.of_own ho2, ⟨mm, hdk.goB hb (by omega)⟩, grown_below h.gr hb (by omega)⟩
set_option maxHeartbeats 8000000 in
set_option maxRecDepth 100000 in
theorem spoilt_any (base G : Nat) (A : Option Addr) (c : Nat) (L : List Int) (m : Nat) (N0 : Int) (As : Option Addr) (cs : Nat) (l : List Ls.Lk) (w : World) (D : Dk base w G A c L m) (hL : L.length ≤ 17592186044416) (h : RL w.heap.size w As cs l) (hl : l.length ≤ 60000) :
    Calls Try.prog 12 #[.pointer (some ⟨G, 0, none⟩), .agg #[.int .i64 N0, .slice As l.length cs]] w (SpoiltP base G A c L l.length w) := by
  obtain ⟨W1, hW1⟩ : ∃ W1, ((w.alloc (.cells #[.int .i64 N0, .slice As l.length cs] 24)).alloc (.cells #[.int .i64 0, .slice none 0 0] 24)) = W1 := ⟨_, rfl⟩
  obtain ⟨n0, n1, n3, n4⟩ := new_two w (.cells #[.int .i64 N0, .slice As l.length cs] 24) (.cells #[.int .i64 0, .slice none 0 0] 24)
  rw [hW1] at n0 n1 n3 n4
  have HW1 := Lib.hid hW1
  have HB1 := Lib.hid n4
  have H1 := Lib.hid (h.up n4)
  have N0' := Lib.hid n0; have N1 := Lib.hid n1; have N3 := Lib.hid n3
  have HD := Lib.hid D
  have HLL := Lib.hid hL
  have s0 := Go.Joins.cell_of_block n0 0; have s1 := Go.Joins.cell_of_block n0 1
  simp only [List.getElem?_toArray, List.getElem?_cons_succ, List.getElem?_cons_zero] at s0 s1
  have hws : w.heap.size < W1.heap.size := by omega
  clear h hW1 n4 n0 n1 n3 D hL
  go_enter Try.func12, Try.ntmps12
  by_cases hn0 : l.length = 0
  · have hn : ((l.length : Int) == 0) = true := by simp [hn0]
    clear hn0
    go_wp2_with (at_builtin; (rw [HW1.out]; refine wpList_applL _ rfl (.const (.slice none 0 0)) (.tmp 8) (w.heap.size + 2) none 0 rfl [] (by simp [Act.eval]) (World.ownsRow_nil _ _ _ _) As cs l.length l rfl (by simp [Act.eval]) H1.out (by simp; omega) (Nat.le_of_eq N3.out.symm) ?_; intro A3 c3 w6 HO6 HB6 HG6; simp only [List.nil_append] at HO6; have HSX := Lib.hid (SP.start HD.out N0'.out N1.out HB1.out HO6.out HB6.out); have hb6 := (HB6.out.block w.heap.size (by omega)).trans N0'.out; have p1 := Go.Joins.cell_of_block hb6 1; have pf := Go.Joins.unfrozen_of_block hb6 1; simp only [List.getElem?_toArray, List.getElem?_cons_succ, List.getElem?_cons_zero] at p1; have hg6 : w.heap.size < w6.heap.size := lt_of_some hb6; have r1 := HSX.out.c1))
    clear hb6 p1 pf hg6 r1 HO6 HB6 HG6 HW1 HB1 H1 N0' N1 N3 s0 s1 hws HD
    obtain ⟨m6, hd6⟩ := HSX.out.dk
    refine (next_any base G A c L m6 70 _ hd6 HLL.out (by decide)).mono ?_
    rintro e w7 ⟨r, m7, rfl, hr0, hr1, hd7, hg7⟩
    replace HSX := Lib.hid (HSX.out.next ⟨m7, hd7⟩ hg7)
    have k0 := HSX.out.c0; have k1 := HSX.out.c1; have kf := HSX.out.f0; have j0 := HSX.out.d0; have j1 := HSX.out.d1; have je0 := HSX.out.e0; have je1 := HSX.out.e1
    have kl := lt_of_some HSX.out.bk; have kl1 := lt_of_some HSX.out.b1
    clear hd6 hd7 hg7 hr0 hr1
    go_wp2
    exact (HSX.out.nodes _).fin rfl rfl
  · have hn : ((l.length : Int) == 0) = false := by have : ¬ (l.length : Int) = 0 := by omega
                                                    simpa using this
    have HN0 : Hid (0 < l.length) := Nat.pos_of_ne_zero hn0
    clear hn0
    go_wp2_with (at_builtin; (rw [HW1.out]; refine wpList_applL _ rfl (.const (.slice none 0 0)) (.tmp 8) (w.heap.size + 2) none 0 rfl [] (by simp [Act.eval]) (World.ownsRow_nil _ _ _ _) As cs l.length l rfl (by simp [Act.eval]) H1.out (by simp; omega) (Nat.le_of_eq N3.out.symm) ?_; intro A3 c3 w6 HO6 HB6 HG6; simp only [List.nil_append] at HO6; have HSX := Lib.hid (SP.start HD.out N0'.out N1.out HB1.out HO6.out HB6.out); have hb6 := (HB6.out.block w.heap.size (by omega)).trans N0'.out; have p1 := Go.Joins.cell_of_block hb6 1; have pf := Go.Joins.unfrozen_of_block hb6 1; simp only [List.getElem?_toArray, List.getElem?_cons_succ, List.getElem?_cons_zero] at p1; have hg6 : w.heap.size < w6.heap.size := lt_of_some hb6; have r1 := HSX.out.c1))
    clear hb6 p1 pf hg6 r1 HO6 HB6 HG6 HW1 HB1 H1 N0' N1 N3 s0 s1 hws HD
    obtain ⟨g, rfl⟩ := HSX.out.some_ HN0.out
    obtain ⟨m6, hd6⟩ := HSX.out.dk
    refine (next_any base G A c L m6 5 _ hd6 HLL.out (by decide)).mono ?_
    rintro e w7 ⟨r, m7, rfl, hr0, hr1, hd7, hg7⟩
    replace HSX := Lib.hid (HSX.out.next ⟨m7, hd7⟩ hg7)
    clear hd6 hd7 hg7
    by_cases hr : r = 0
    · have hr5 : (r == 0) = true := by simp [hr]
      clear hr hr0 hr1
      go_wp2_with fail
      obtain ⟨m6, hd6⟩ := HSX.out.dk
      refine (next_any base G A c L m6 70 _ hd6 HLL.out (by decide)).mono ?_
      rintro e w7 ⟨r, m7, rfl, hr0, hr1, hd7, hg7⟩
      replace HSX := Lib.hid (HSX.out.next ⟨m7, hd7⟩ hg7)
      have k0 := HSX.out.c0; have k1 := HSX.out.c1; have kf := HSX.out.f0; have j0 := HSX.out.d0; have j1 := HSX.out.d1; have je0 := HSX.out.e0; have je1 := HSX.out.e1
      have kl := lt_of_some HSX.out.bk; have kl1 := lt_of_some HSX.out.b1
      clear hd6 hd7 hg7 hr0 hr1
      go_wp2
      exact (HSX.out.nodes _).fin rfl rfl
    · have hr5 : (r == 0) = false := by simpa using hr
      clear hr hr0 hr1
      go_wp2_with fail
      obtain ⟨m6, hd6⟩ := HSX.out.dk
      refine (next_any base G A c L m6 (l.length : Int) _ hd6 HLL.out (by omega)).mono ?_
      rintro e w8 ⟨i, m7, rfl, hr0, hr1, hd7, hg7⟩
      replace HSX := Lib.hid (HSX.out.next ⟨m7, hd7⟩ hg7)
      obtain ⟨i, rfl⟩ : ∃ k : Nat, i = k := ⟨i.toNat, by omega⟩
      have HI : Hid (i < l.length) := by show _ < _; have := HN0.out; omega
      clear hd6 hd7 hg7 hr0 hr1 hr5
      go_wp2_with fail
      obtain ⟨m6, hd6⟩ := HSX.out.dk
      refine (next_any base G A c L m6 6 _ hd6 HLL.out (by decide)).mono ?_
      rintro e w9 ⟨r, m7, rfl, hr0, hr1, hd7, hg7⟩
      replace HSX := Lib.hid (HSX.out.next ⟨m7, hd7⟩ hg7)
      have HJ0 := Lib.hid HSX.out.drew
      clear hd6 hd7 hg7
      obtain h | h | h | h | h | h : r = 0 ∨ r = 1 ∨ r = 2 ∨ r = 3 ∨ r = 4 ∨ r = 5 := by omega
      · subst h
        clear hr0 hr1
        go_wp2
        refine wp_region_ac 9 101 (fun _ _ => True) (fun _ _ wr => SP base w G w.heap.size A c L N0 l.length (some ⟨g, 0, none⟩) c3 wr) [(fun q0 _ => q0 = .pointer (some ⟨w.heap.size, 1, none⟩)), (fun q0 _ => q0 = .slice (some ⟨g, 0, none⟩) l.length c3), (fun q0 _ => q0 = .int .i64 (i : Int)), (fun q0 _ => q0 = .pointer (some ⟨G, 0, none⟩)), (fun q0 _ => ∃ q : Int, q0 = .int .i64 q), (fun q0 _ => ∃ q : Int, q0 = .int .i64 q), (fun q0 _ => q0 = .pointer (some ⟨g, i * 6, none⟩)), (fun q0 _ => q0 = .pointer (some ⟨g, i * 6 + 2, none⟩)), (fun _ _ => True)] (by kernel_rfl) (by kernel_rfl) rfl (fun _ _ _ _ _ => trivial) trivial HJ0.out ?_ ?_ ?_
        · intro R hR
          simp only [List.mem_cons, List.not_mem_nil, or_false] at hR
          rcases hR with rfl | rfl | rfl | rfl | rfl | rfl | rfl | rfl | rfl <;> (first | exact fun _ _ _ h _ => h)
        · simp only [List.take_succ_cons, List.take_zero]
          refine ⟨?_, ?_, ?_, ?_, ?_, ?_, ?_, ?_, ?_, trivial⟩
          · intro a ws f hle hjj hfi hun hdn hag hdep K Q hK
            have d3 : (a.tmps[3]?).getD undef = .pointer (some ⟨w.heap.size, 0, none⟩) := eval_get (hag 3 (freeB_spec (by kernel_rfl)))
            rw [if_pos (show Region.wanted _ _ = true from rfl)]
            unfold Oper.wp
            simp [go_sem, d3]
            exact hK _ _ trivial hjj rfl
          · intro a ws f hle hjj hfi hun hdn hag hdep K Q hK
            have d33 : (a.tmps[33]?).getD undef = .pointer (some ⟨w.heap.size, 1, none⟩) := eval_get (dep_of hdep 0 33 rfl (by kernel_rfl) rfl rfl)
            rw [if_pos (show Region.wanted _ _ = true from rfl)]
            have y1 := hjj.c1
            unfold Oper.wp
            simp [go_sem, d33, y1]
            exact hK _ _ trivial hjj rfl
          · intro a ws f hle hjj hfi hun hdn hag hdep K Q hK
            have d6 : (a.tmps[6]?).getD undef = .int .i64 (i : Int) := eval_get (hag 6 (freeB_spec (by kernel_rfl)))
            rw [if_pos (show Region.wanted _ _ = true from rfl)]
            unfold Oper.wp
            simp [go_sem, d6]
            exact hK _ _ trivial hjj rfl
          · intro a ws f hle hjj hfi hun hdn hag hdep K Q hK
            have d0 : (a.tmps[0]?).getD undef = .pointer (some ⟨G, 0, none⟩) := eval_get (hag 0 (freeB_spec (by kernel_rfl)))
            rw [if_pos (show Region.wanted _ _ = true from rfl)]
            unfold Oper.wp
            simp [go_sem, d0]
            exact hK _ _ trivial hjj rfl
          · intro a ws f hle hjj hfi hun hdn hag hdep K Q hK
            have d36 : (a.tmps[36]?).getD undef = .pointer (some ⟨G, 0, none⟩) := eval_get (dep_of hdep 3 36 rfl (by kernel_rfl) rfl rfl)
            rw [if_pos (show Region.wanted _ _ = true from rfl)]
            obtain ⟨mm, hdm⟩ := hjj.dk
            have hcon := next_any base G A c L mm 2 ws hdm HLL.out (by decide)
            unfold Oper.wp
            simp [go_sem, d36]
            refine hcon.mono ?_
            rintro e w9 ⟨r, m9, rfl, hr0, hr1, hd9, hg9⟩
            exact hK _ _ trivial (hjj.next ⟨m9, hd9⟩ hg9) ⟨r, rfl⟩
          · intro a ws f hle hjj hfi hun hdn hag hdep K Q hK
            have d37 : (fun q0 _ => ∃ q : Int, q0 = .int .i64 q) (a.eval (.tmp 37)) ws := dep_of hdep 4 37 rfl (by kernel_rfl) rfl rfl
            rw [if_pos (show Region.wanted _ _ = true from rfl)]
            obtain ⟨q, e37⟩ := d37
            have e37 := eval_get e37
            unfold Oper.wp
            simp [go_sem, e37]
            exact hK _ _ trivial hjj ⟨_, rfl⟩
          · intro a ws f hle hjj hfi hun hdn hag hdep K Q hK
            have d34 : (a.tmps[34]?).getD undef = .slice (some ⟨g, 0, none⟩) l.length c3 := eval_get (dep_of hdep 1 34 rfl (by kernel_rfl) rfl rfl)
            have d35 : (a.tmps[35]?).getD undef = .int .i64 (i : Int) := eval_get (dep_of hdep 2 35 rfl (by kernel_rfl) rfl rfl)
            rw [if_pos (show Region.wanted _ _ = true from rfl)]
            have hi := HI.out
            unfold Oper.wp
            simp [go_sem, d34, d35, hi]
            exact hK _ _ trivial hjj rfl
          · intro a ws f hle hjj hfi hun hdn hag hdep K Q hK
            have d39 : (a.tmps[39]?).getD undef = .pointer (some ⟨g, i * 6, none⟩) := eval_get (dep_of hdep 6 39 rfl (by kernel_rfl) rfl rfl)
            rw [if_pos (show Region.wanted _ _ = true from rfl)]
            unfold Oper.wp
            simp [go_sem, d39]
            exact hK _ _ trivial hjj rfl
          · intro a ws f hle hjj hfi hun hdn hag hdep K Q hK
            have d40 : (a.tmps[40]?).getD undef = .pointer (some ⟨g, i * 6 + 2, none⟩) := eval_get (dep_of hdep 7 40 rfl (by kernel_rfl) rfl rfl)
            have d38 : (fun q0 _ => ∃ q : Int, q0 = .int .i64 q) (a.eval (.tmp 38)) ws := dep_of hdep 5 38 rfl (by kernel_rfl) rfl rfl
            rw [if_pos (show Region.wanted _ _ = true from rfl)]
            obtain ⟨q, e38⟩ := d38
            have e38 := eval_get e38
            have hj2 := hjj.stored (i * 6 + 2) q
            obtain ⟨x, yc⟩ := hjj.cell (i * 6 + 2) (by have := HI.out; omega)
            have yf := hjj.unf (i * 6 + 2)
            unfold Oper.wp
            simp [go_sem, d40, e38, yc, yf]
            exact hK undef _ trivial hj2 trivial
        · intro a ws f hle hjj hft hff hsz hdf hag hend
          have f33 : a.eval (.tmp 33) = .pointer (some ⟨w.heap.size, 1, none⟩) := end_of hend 0 33 (by decide) rfl rfl rfl
          have f34 : a.eval (.tmp 34) = .slice (some ⟨g, 0, none⟩) l.length c3 := end_of hend 1 34 (by decide) rfl rfl rfl
          have f35 : a.eval (.tmp 35) = .int .i64 (i : Int) := end_of hend 2 35 (by decide) rfl rfl rfl
          have f36 : a.eval (.tmp 36) = .pointer (some ⟨G, 0, none⟩) := end_of hend 3 36 (by decide) rfl rfl rfl
          have f37 : (fun q0 _ => ∃ q : Int, q0 = .int .i64 q) (a.eval (.tmp 37)) ws := end_of hend 4 37 (by decide) rfl rfl rfl
          have f38 : (fun q0 _ => ∃ q : Int, q0 = .int .i64 q) (a.eval (.tmp 38)) ws := end_of hend 5 38 (by decide) rfl rfl rfl
          have f39 : a.eval (.tmp 39) = .pointer (some ⟨g, i * 6, none⟩) := end_of hend 6 39 (by decide) rfl rfl rfl
          have f40 : a.eval (.tmp 40) = .pointer (some ⟨g, i * 6 + 2, none⟩) := end_of hend 7 40 (by decide) rfl rfl rfl
          have ea := act_block 33 8 hsz hdf hag [33, 34, 35, 36, 37, 38, 39, 40] (by kernel_rfl) (by kernel_rfl) (of_decide_eq_true (by kernel_rfl))
          clear hag hend hsz hdf
          simp only [List.map_cons, List.map_nil, f33, f34, f35, f36, f39, f40] at ea
          clear f33 f34 f35 f36 f39 f40
          generalize a.eval (.tmp 37) = x37 at ea f37
          generalize a.eval (.tmp 38) = x38 at ea f38
          simp only [List.take_succ_cons, List.take_zero, List.drop_succ_cons, List.drop_zero, List.cons_append, List.nil_append] at ea
          subst ea
          clear hle hft hff f37 f38
          simp only [List.drop_succ_cons, List.drop_zero]
          have HS9 := Lib.hid hjj
          have k0 := hjj.c0; have k1 := hjj.c1; have j0 := hjj.d0; have j1 := hjj.d1; have je0 := hjj.e0; have je1 := hjj.e1
          have kl := lt_of_some hjj.bk; have kl1 := lt_of_some hjj.b1
          clear hjj
          go_wp2
          exact HS9.out.fin rfl rfl
      · subst h
        clear hr0 hr1
        go_wp2
        refine wp_region_ac 9 101 (fun _ _ => True) (fun _ _ wr => SP base w G w.heap.size A c L N0 l.length (some ⟨g, 0, none⟩) c3 wr) [(fun q0 _ => q0 = .pointer (some ⟨w.heap.size, 1, none⟩)), (fun q0 _ => q0 = .slice (some ⟨g, 0, none⟩) l.length c3), (fun q0 _ => q0 = .int .i64 (i : Int)), (fun q0 _ => q0 = .pointer (some ⟨G, 0, none⟩)), (fun q0 _ => ∃ q : Int, q0 = .int .i64 q), (fun q0 _ => ∃ q : Int, q0 = .int .i64 q), (fun q0 _ => q0 = .pointer (some ⟨g, i * 6, none⟩)), (fun q0 _ => q0 = .pointer (some ⟨g, i * 6 + 3, none⟩)), (fun _ _ => True)] (by kernel_rfl) (by kernel_rfl) rfl (fun _ _ _ _ _ => trivial) trivial HJ0.out ?_ ?_ ?_
        · intro R hR
          simp only [List.mem_cons, List.not_mem_nil, or_false] at hR
          rcases hR with rfl | rfl | rfl | rfl | rfl | rfl | rfl | rfl | rfl <;> (first | exact fun _ _ _ h _ => h)
        · simp only [List.take_succ_cons, List.take_zero]
          refine ⟨?_, ?_, ?_, ?_, ?_, ?_, ?_, ?_, ?_, trivial⟩
          · intro a ws f hle hjj hfi hun hdn hag hdep K Q hK
            have d3 : (a.tmps[3]?).getD undef = .pointer (some ⟨w.heap.size, 0, none⟩) := eval_get (hag 3 (freeB_spec (by kernel_rfl)))
            rw [if_pos (show Region.wanted _ _ = true from rfl)]
            unfold Oper.wp
            simp [go_sem, d3]
            exact hK _ _ trivial hjj rfl
          · intro a ws f hle hjj hfi hun hdn hag hdep K Q hK
            have d43 : (a.tmps[43]?).getD undef = .pointer (some ⟨w.heap.size, 1, none⟩) := eval_get (dep_of hdep 0 43 rfl (by kernel_rfl) rfl rfl)
            rw [if_pos (show Region.wanted _ _ = true from rfl)]
            have y1 := hjj.c1
            unfold Oper.wp
            simp [go_sem, d43, y1]
            exact hK _ _ trivial hjj rfl
          · intro a ws f hle hjj hfi hun hdn hag hdep K Q hK
            have d6 : (a.tmps[6]?).getD undef = .int .i64 (i : Int) := eval_get (hag 6 (freeB_spec (by kernel_rfl)))
            rw [if_pos (show Region.wanted _ _ = true from rfl)]
            unfold Oper.wp
            simp [go_sem, d6]
            exact hK _ _ trivial hjj rfl
          · intro a ws f hle hjj hfi hun hdn hag hdep K Q hK
            have d0 : (a.tmps[0]?).getD undef = .pointer (some ⟨G, 0, none⟩) := eval_get (hag 0 (freeB_spec (by kernel_rfl)))
            rw [if_pos (show Region.wanted _ _ = true from rfl)]
            unfold Oper.wp
            simp [go_sem, d0]
            exact hK _ _ trivial hjj rfl
          · intro a ws f hle hjj hfi hun hdn hag hdep K Q hK
            have d46 : (a.tmps[46]?).getD undef = .pointer (some ⟨G, 0, none⟩) := eval_get (dep_of hdep 3 46 rfl (by kernel_rfl) rfl rfl)
            rw [if_pos (show Region.wanted _ _ = true from rfl)]
            obtain ⟨mm, hdm⟩ := hjj.dk
            have hcon := next_any base G A c L mm 20 ws hdm HLL.out (by decide)
            unfold Oper.wp
            simp [go_sem, d46]
            refine hcon.mono ?_
            rintro e w9 ⟨r, m9, rfl, hr0, hr1, hd9, hg9⟩
            exact hK _ _ trivial (hjj.next ⟨m9, hd9⟩ hg9) ⟨r, rfl⟩
          · intro a ws f hle hjj hfi hun hdn hag hdep K Q hK
            have d47 : (fun q0 _ => ∃ q : Int, q0 = .int .i64 q) (a.eval (.tmp 47)) ws := dep_of hdep 4 47 rfl (by kernel_rfl) rfl rfl
            rw [if_pos (show Region.wanted _ _ = true from rfl)]
            obtain ⟨q, e47⟩ := d47
            have e47 := eval_get e47
            unfold Oper.wp
            simp [go_sem, e47]
            exact hK _ _ trivial hjj ⟨_, rfl⟩
          · intro a ws f hle hjj hfi hun hdn hag hdep K Q hK
            have d44 : (a.tmps[44]?).getD undef = .slice (some ⟨g, 0, none⟩) l.length c3 := eval_get (dep_of hdep 1 44 rfl (by kernel_rfl) rfl rfl)
            have d45 : (a.tmps[45]?).getD undef = .int .i64 (i : Int) := eval_get (dep_of hdep 2 45 rfl (by kernel_rfl) rfl rfl)
            rw [if_pos (show Region.wanted _ _ = true from rfl)]
            have hi := HI.out
            unfold Oper.wp
            simp [go_sem, d44, d45, hi]
            exact hK _ _ trivial hjj rfl
          · intro a ws f hle hjj hfi hun hdn hag hdep K Q hK
            have d49 : (a.tmps[49]?).getD undef = .pointer (some ⟨g, i * 6, none⟩) := eval_get (dep_of hdep 6 49 rfl (by kernel_rfl) rfl rfl)
            rw [if_pos (show Region.wanted _ _ = true from rfl)]
            unfold Oper.wp
            simp [go_sem, d49]
            exact hK _ _ trivial hjj rfl
          · intro a ws f hle hjj hfi hun hdn hag hdep K Q hK
            have d50 : (a.tmps[50]?).getD undef = .pointer (some ⟨g, i * 6 + 3, none⟩) := eval_get (dep_of hdep 7 50 rfl (by kernel_rfl) rfl rfl)
            have d48 : (fun q0 _ => ∃ q : Int, q0 = .int .i64 q) (a.eval (.tmp 48)) ws := dep_of hdep 5 48 rfl (by kernel_rfl) rfl rfl
            rw [if_pos (show Region.wanted _ _ = true from rfl)]
            obtain ⟨q, e48⟩ := d48
            have e48 := eval_get e48
            have hj2 := hjj.stored (i * 6 + 3) q
            obtain ⟨x, yc⟩ := hjj.cell (i * 6 + 3) (by have := HI.out; omega)
            have yf := hjj.unf (i * 6 + 3)
            unfold Oper.wp
            simp [go_sem, d50, e48, yc, yf]
            exact hK undef _ trivial hj2 trivial
        · intro a ws f hle hjj hft hff hsz hdf hag hend
          have f43 : a.eval (.tmp 43) = .pointer (some ⟨w.heap.size, 1, none⟩) := end_of hend 0 43 (by decide) rfl rfl rfl
          have f44 : a.eval (.tmp 44) = .slice (some ⟨g, 0, none⟩) l.length c3 := end_of hend 1 44 (by decide) rfl rfl rfl
          have f45 : a.eval (.tmp 45) = .int .i64 (i : Int) := end_of hend 2 45 (by decide) rfl rfl rfl
          have f46 : a.eval (.tmp 46) = .pointer (some ⟨G, 0, none⟩) := end_of hend 3 46 (by decide) rfl rfl rfl
          have f47 : (fun q0 _ => ∃ q : Int, q0 = .int .i64 q) (a.eval (.tmp 47)) ws := end_of hend 4 47 (by decide) rfl rfl rfl
          have f48 : (fun q0 _ => ∃ q : Int, q0 = .int .i64 q) (a.eval (.tmp 48)) ws := end_of hend 5 48 (by decide) rfl rfl rfl
          have f49 : a.eval (.tmp 49) = .pointer (some ⟨g, i * 6, none⟩) := end_of hend 6 49 (by decide) rfl rfl rfl
          have f50 : a.eval (.tmp 50) = .pointer (some ⟨g, i * 6 + 3, none⟩) := end_of hend 7 50 (by decide) rfl rfl rfl
          have ea := act_block 43 8 hsz hdf hag [43, 44, 45, 46, 47, 48, 49, 50] (by kernel_rfl) (by kernel_rfl) (of_decide_eq_true (by kernel_rfl))
          clear hag hend hsz hdf
          simp only [List.map_cons, List.map_nil, f43, f44, f45, f46, f49, f50] at ea
          clear f43 f44 f45 f46 f49 f50
          generalize a.eval (.tmp 47) = x47 at ea f47
          generalize a.eval (.tmp 48) = x48 at ea f48
          simp only [List.take_succ_cons, List.take_zero, List.drop_succ_cons, List.drop_zero, List.cons_append, List.nil_append] at ea
          subst ea
          clear hle hft hff f47 f48
          simp only [List.drop_succ_cons, List.drop_zero]
          have HS9 := Lib.hid hjj
          have k0 := hjj.c0; have k1 := hjj.c1; have j0 := hjj.d0; have j1 := hjj.d1; have je0 := hjj.e0; have je1 := hjj.e1
          have kl := lt_of_some hjj.bk; have kl1 := lt_of_some hjj.b1
          clear hjj
          go_wp2
          exact HS9.out.fin rfl rfl
      · subst h
        clear hr0 hr1
        go_wp2
        refine wp_region_ac 9 101 (fun _ _ => True) (fun _ _ wr => SP base w G w.heap.size A c L N0 l.length (some ⟨g, 0, none⟩) c3 wr) [(fun q0 _ => q0 = .pointer (some ⟨w.heap.size, 1, none⟩)), (fun q0 _ => q0 = .slice (some ⟨g, 0, none⟩) l.length c3), (fun q0 _ => q0 = .int .i64 (i : Int)), (fun q0 _ => q0 = .pointer (some ⟨G, 0, none⟩)), (fun q0 _ => ∃ q : Int, q0 = .int .i64 q), (fun q0 _ => ∃ q : Int, q0 = .int .i64 q), (fun q0 _ => q0 = .pointer (some ⟨g, i * 6, none⟩)), (fun q0 _ => q0 = .pointer (some ⟨g, i * 6 + 4, none⟩)), (fun _ _ => True)] (by kernel_rfl) (by kernel_rfl) rfl (fun _ _ _ _ _ => trivial) trivial HJ0.out ?_ ?_ ?_
        · intro R hR
          simp only [List.mem_cons, List.not_mem_nil, or_false] at hR
          rcases hR with rfl | rfl | rfl | rfl | rfl | rfl | rfl | rfl | rfl <;> (first | exact fun _ _ _ h _ => h)
        · simp only [List.take_succ_cons, List.take_zero]
          refine ⟨?_, ?_, ?_, ?_, ?_, ?_, ?_, ?_, ?_, trivial⟩
          · intro a ws f hle hjj hfi hun hdn hag hdep K Q hK
            have d3 : (a.tmps[3]?).getD undef = .pointer (some ⟨w.heap.size, 0, none⟩) := eval_get (hag 3 (freeB_spec (by kernel_rfl)))
            rw [if_pos (show Region.wanted _ _ = true from rfl)]
            unfold Oper.wp
            simp [go_sem, d3]
            exact hK _ _ trivial hjj rfl
          · intro a ws f hle hjj hfi hun hdn hag hdep K Q hK
            have d53 : (a.tmps[53]?).getD undef = .pointer (some ⟨w.heap.size, 1, none⟩) := eval_get (dep_of hdep 0 53 rfl (by kernel_rfl) rfl rfl)
            rw [if_pos (show Region.wanted _ _ = true from rfl)]
            have y1 := hjj.c1
            unfold Oper.wp
            simp [go_sem, d53, y1]
            exact hK _ _ trivial hjj rfl
          · intro a ws f hle hjj hfi hun hdn hag hdep K Q hK
            have d6 : (a.tmps[6]?).getD undef = .int .i64 (i : Int) := eval_get (hag 6 (freeB_spec (by kernel_rfl)))
            rw [if_pos (show Region.wanted _ _ = true from rfl)]
            unfold Oper.wp
            simp [go_sem, d6]
            exact hK _ _ trivial hjj rfl
          · intro a ws f hle hjj hfi hun hdn hag hdep K Q hK
            have d0 : (a.tmps[0]?).getD undef = .pointer (some ⟨G, 0, none⟩) := eval_get (hag 0 (freeB_spec (by kernel_rfl)))
            rw [if_pos (show Region.wanted _ _ = true from rfl)]
            unfold Oper.wp
            simp [go_sem, d0]
            exact hK _ _ trivial hjj rfl
          · intro a ws f hle hjj hfi hun hdn hag hdep K Q hK
            have d56 : (a.tmps[56]?).getD undef = .pointer (some ⟨G, 0, none⟩) := eval_get (dep_of hdep 3 56 rfl (by kernel_rfl) rfl rfl)
            rw [if_pos (show Region.wanted _ _ = true from rfl)]
            obtain ⟨mm, hdm⟩ := hjj.dk
            have hcon := next_any base G A c L mm 4 ws hdm HLL.out (by decide)
            unfold Oper.wp
            simp [go_sem, d56]
            refine hcon.mono ?_
            rintro e w9 ⟨r, m9, rfl, hr0, hr1, hd9, hg9⟩
            exact hK _ _ trivial (hjj.next ⟨m9, hd9⟩ hg9) ⟨r, rfl⟩
          · intro a ws f hle hjj hfi hun hdn hag hdep K Q hK
            have d57 : (fun q0 _ => ∃ q : Int, q0 = .int .i64 q) (a.eval (.tmp 57)) ws := dep_of hdep 4 57 rfl (by kernel_rfl) rfl rfl
            rw [if_pos (show Region.wanted _ _ = true from rfl)]
            obtain ⟨q, e57⟩ := d57
            have e57 := eval_get e57
            unfold Oper.wp
            simp [go_sem, e57]
            exact hK _ _ trivial hjj ⟨_, rfl⟩
          · intro a ws f hle hjj hfi hun hdn hag hdep K Q hK
            have d54 : (a.tmps[54]?).getD undef = .slice (some ⟨g, 0, none⟩) l.length c3 := eval_get (dep_of hdep 1 54 rfl (by kernel_rfl) rfl rfl)
            have d55 : (a.tmps[55]?).getD undef = .int .i64 (i : Int) := eval_get (dep_of hdep 2 55 rfl (by kernel_rfl) rfl rfl)
            rw [if_pos (show Region.wanted _ _ = true from rfl)]
            have hi := HI.out
            unfold Oper.wp
            simp [go_sem, d54, d55, hi]
            exact hK _ _ trivial hjj rfl
          · intro a ws f hle hjj hfi hun hdn hag hdep K Q hK
            have d59 : (a.tmps[59]?).getD undef = .pointer (some ⟨g, i * 6, none⟩) := eval_get (dep_of hdep 6 59 rfl (by kernel_rfl) rfl rfl)
            rw [if_pos (show Region.wanted _ _ = true from rfl)]
            unfold Oper.wp
            simp [go_sem, d59]
            exact hK _ _ trivial hjj rfl
          · intro a ws f hle hjj hfi hun hdn hag hdep K Q hK
            have d60 : (a.tmps[60]?).getD undef = .pointer (some ⟨g, i * 6 + 4, none⟩) := eval_get (dep_of hdep 7 60 rfl (by kernel_rfl) rfl rfl)
            have d58 : (fun q0 _ => ∃ q : Int, q0 = .int .i64 q) (a.eval (.tmp 58)) ws := dep_of hdep 5 58 rfl (by kernel_rfl) rfl rfl
            rw [if_pos (show Region.wanted _ _ = true from rfl)]
            obtain ⟨q, e58⟩ := d58
            have e58 := eval_get e58
            have hj2 := hjj.stored (i * 6 + 4) q
            obtain ⟨x, yc⟩ := hjj.cell (i * 6 + 4) (by have := HI.out; omega)
            have yf := hjj.unf (i * 6 + 4)
            unfold Oper.wp
            simp [go_sem, d60, e58, yc, yf]
            exact hK undef _ trivial hj2 trivial
        · intro a ws f hle hjj hft hff hsz hdf hag hend
          have f53 : a.eval (.tmp 53) = .pointer (some ⟨w.heap.size, 1, none⟩) := end_of hend 0 53 (by decide) rfl rfl rfl
          have f54 : a.eval (.tmp 54) = .slice (some ⟨g, 0, none⟩) l.length c3 := end_of hend 1 54 (by decide) rfl rfl rfl
          have f55 : a.eval (.tmp 55) = .int .i64 (i : Int) := end_of hend 2 55 (by decide) rfl rfl rfl
          have f56 : a.eval (.tmp 56) = .pointer (some ⟨G, 0, none⟩) := end_of hend 3 56 (by decide) rfl rfl rfl
          have f57 : (fun q0 _ => ∃ q : Int, q0 = .int .i64 q) (a.eval (.tmp 57)) ws := end_of hend 4 57 (by decide) rfl rfl rfl
          have f58 : (fun q0 _ => ∃ q : Int, q0 = .int .i64 q) (a.eval (.tmp 58)) ws := end_of hend 5 58 (by decide) rfl rfl rfl
          have f59 : a.eval (.tmp 59) = .pointer (some ⟨g, i * 6, none⟩) := end_of hend 6 59 (by decide) rfl rfl rfl
          have f60 : a.eval (.tmp 60) = .pointer (some ⟨g, i * 6 + 4, none⟩) := end_of hend 7 60 (by decide) rfl rfl rfl
          have ea := act_block 53 8 hsz hdf hag [53, 54, 55, 56, 57, 58, 59, 60] (by kernel_rfl) (by kernel_rfl) (of_decide_eq_true (by kernel_rfl))
          clear hag hend hsz hdf
          simp only [List.map_cons, List.map_nil, f53, f54, f55, f56, f59, f60] at ea
          clear f53 f54 f55 f56 f59 f60
          generalize a.eval (.tmp 57) = x57 at ea f57
          generalize a.eval (.tmp 58) = x58 at ea f58
          simp only [List.take_succ_cons, List.take_zero, List.drop_succ_cons, List.drop_zero, List.cons_append, List.nil_append] at ea
          subst ea
          clear hle hft hff f57 f58
          simp only [List.drop_succ_cons, List.drop_zero]
          have HS9 := Lib.hid hjj
          have k0 := hjj.c0; have k1 := hjj.c1; have j0 := hjj.d0; have j1 := hjj.d1; have je0 := hjj.e0; have je1 := hjj.e1
          have kl := lt_of_some hjj.bk; have kl1 := lt_of_some hjj.b1
          clear hjj
          go_wp2
          exact HS9.out.fin rfl rfl
      · subst h
        clear hr0 hr1
        go_wp2
        refine wp_region_ac 10 101 (fun _ _ => True) (fun _ _ wr => SP base w G w.heap.size A c L N0 l.length (some ⟨g, 0, none⟩) c3 wr) [(fun q0 _ => q0 = .pointer (some ⟨w.heap.size, 1, none⟩)), (fun q0 _ => q0 = .slice (some ⟨g, 0, none⟩) l.length c3), (fun q0 _ => q0 = .int .i64 (i : Int)), (fun q0 _ => q0 = .pointer (some ⟨G, 0, none⟩)), (fun q0 _ => ∃ q : Int, q0 = .int .i64 q), (fun q0 _ => ∃ q : Int, q0 = .int .i64 q), (fun q0 _ => ∃ q : Int, q0 = .int .i64 q), (fun q0 _ => q0 = .pointer (some ⟨g, i * 6, none⟩)), (fun q0 _ => q0 = .pointer (some ⟨g, i * 6 + 5, none⟩)), (fun _ _ => True)] (by kernel_rfl) (by kernel_rfl) rfl (fun _ _ _ _ _ => trivial) trivial HJ0.out ?_ ?_ ?_
        · intro R hR
          simp only [List.mem_cons, List.not_mem_nil, or_false] at hR
          rcases hR with rfl | rfl | rfl | rfl | rfl | rfl | rfl | rfl | rfl | rfl <;> (first | exact fun _ _ _ h _ => h)
        · simp only [List.take_succ_cons, List.take_zero]
          refine ⟨?_, ?_, ?_, ?_, ?_, ?_, ?_, ?_, ?_, ?_, trivial⟩
          · intro a ws f hle hjj hfi hun hdn hag hdep K Q hK
            have d3 : (a.tmps[3]?).getD undef = .pointer (some ⟨w.heap.size, 0, none⟩) := eval_get (hag 3 (freeB_spec (by kernel_rfl)))
            rw [if_pos (show Region.wanted _ _ = true from rfl)]
            unfold Oper.wp
            simp [go_sem, d3]
            exact hK _ _ trivial hjj rfl
          · intro a ws f hle hjj hfi hun hdn hag hdep K Q hK
            have d63 : (a.tmps[63]?).getD undef = .pointer (some ⟨w.heap.size, 1, none⟩) := eval_get (dep_of hdep 0 63 rfl (by kernel_rfl) rfl rfl)
            rw [if_pos (show Region.wanted _ _ = true from rfl)]
            have y1 := hjj.c1
            unfold Oper.wp
            simp [go_sem, d63, y1]
            exact hK _ _ trivial hjj rfl
          · intro a ws f hle hjj hfi hun hdn hag hdep K Q hK
            have d6 : (a.tmps[6]?).getD undef = .int .i64 (i : Int) := eval_get (hag 6 (freeB_spec (by kernel_rfl)))
            rw [if_pos (show Region.wanted _ _ = true from rfl)]
            unfold Oper.wp
            simp [go_sem, d6]
            exact hK _ _ trivial hjj rfl
          · intro a ws f hle hjj hfi hun hdn hag hdep K Q hK
            have d0 : (a.tmps[0]?).getD undef = .pointer (some ⟨G, 0, none⟩) := eval_get (hag 0 (freeB_spec (by kernel_rfl)))
            rw [if_pos (show Region.wanted _ _ = true from rfl)]
            unfold Oper.wp
            simp [go_sem, d0]
            exact hK _ _ trivial hjj rfl
          · intro a ws f hle hjj hfi hun hdn hag hdep K Q hK
            have d66 : (a.tmps[66]?).getD undef = .pointer (some ⟨G, 0, none⟩) := eval_get (dep_of hdep 3 66 rfl (by kernel_rfl) rfl rfl)
            rw [if_pos (show Region.wanted _ _ = true from rfl)]
            obtain ⟨mm, hdm⟩ := hjj.dk
            have hcon := next_any base G A c L mm 3 ws hdm HLL.out (by decide)
            unfold Oper.wp
            simp [go_sem, d66]
            refine hcon.mono ?_
            rintro e w9 ⟨r, m9, rfl, hr0, hr1, hd9, hg9⟩
            exact hK _ _ trivial (hjj.next ⟨m9, hd9⟩ hg9) ⟨r, rfl⟩
          · intro a ws f hle hjj hfi hun hdn hag hdep K Q hK
            have d67 : (fun q0 _ => ∃ q : Int, q0 = .int .i64 q) (a.eval (.tmp 67)) ws := dep_of hdep 4 67 rfl (by kernel_rfl) rfl rfl
            rw [if_pos (show Region.wanted _ _ = true from rfl)]
            obtain ⟨q, e67⟩ := d67
            have e67 := eval_get e67
            unfold Oper.wp
            simp [go_sem, e67]
            exact hK _ _ trivial hjj ⟨_, rfl⟩
          · intro a ws f hle hjj hfi hun hdn hag hdep K Q hK
            have d68 : (fun q0 _ => ∃ q : Int, q0 = .int .i64 q) (a.eval (.tmp 68)) ws := dep_of hdep 5 68 rfl (by kernel_rfl) rfl rfl
            rw [if_pos (show Region.wanted _ _ = true from rfl)]
            obtain ⟨q, e68⟩ := d68
            have e68 := eval_get e68
            unfold Oper.wp
            simp [go_sem, e68]
            exact hK _ _ trivial hjj ⟨_, rfl⟩
          · intro a ws f hle hjj hfi hun hdn hag hdep K Q hK
            have d64 : (a.tmps[64]?).getD undef = .slice (some ⟨g, 0, none⟩) l.length c3 := eval_get (dep_of hdep 1 64 rfl (by kernel_rfl) rfl rfl)
            have d65 : (a.tmps[65]?).getD undef = .int .i64 (i : Int) := eval_get (dep_of hdep 2 65 rfl (by kernel_rfl) rfl rfl)
            rw [if_pos (show Region.wanted _ _ = true from rfl)]
            have hi := HI.out
            unfold Oper.wp
            simp [go_sem, d64, d65, hi]
            exact hK _ _ trivial hjj rfl
          · intro a ws f hle hjj hfi hun hdn hag hdep K Q hK
            have d70 : (a.tmps[70]?).getD undef = .pointer (some ⟨g, i * 6, none⟩) := eval_get (dep_of hdep 7 70 rfl (by kernel_rfl) rfl rfl)
            rw [if_pos (show Region.wanted _ _ = true from rfl)]
            unfold Oper.wp
            simp [go_sem, d70]
            exact hK _ _ trivial hjj rfl
          · intro a ws f hle hjj hfi hun hdn hag hdep K Q hK
            have d71 : (a.tmps[71]?).getD undef = .pointer (some ⟨g, i * 6 + 5, none⟩) := eval_get (dep_of hdep 8 71 rfl (by kernel_rfl) rfl rfl)
            have d69 : (fun q0 _ => ∃ q : Int, q0 = .int .i64 q) (a.eval (.tmp 69)) ws := dep_of hdep 6 69 rfl (by kernel_rfl) rfl rfl
            rw [if_pos (show Region.wanted _ _ = true from rfl)]
            obtain ⟨q, e69⟩ := d69
            have e69 := eval_get e69
            have hj2 := hjj.stored (i * 6 + 5) q
            obtain ⟨x, yc⟩ := hjj.cell (i * 6 + 5) (by have := HI.out; omega)
            have yf := hjj.unf (i * 6 + 5)
            unfold Oper.wp
            simp [go_sem, d71, e69, yc, yf]
            exact hK undef _ trivial hj2 trivial
        · intro a ws f hle hjj hft hff hsz hdf hag hend
          have f63 : a.eval (.tmp 63) = .pointer (some ⟨w.heap.size, 1, none⟩) := end_of hend 0 63 (by decide) rfl rfl rfl
          have f64 : a.eval (.tmp 64) = .slice (some ⟨g, 0, none⟩) l.length c3 := end_of hend 1 64 (by decide) rfl rfl rfl
          have f65 : a.eval (.tmp 65) = .int .i64 (i : Int) := end_of hend 2 65 (by decide) rfl rfl rfl
          have f66 : a.eval (.tmp 66) = .pointer (some ⟨G, 0, none⟩) := end_of hend 3 66 (by decide) rfl rfl rfl
          have f67 : (fun q0 _ => ∃ q : Int, q0 = .int .i64 q) (a.eval (.tmp 67)) ws := end_of hend 4 67 (by decide) rfl rfl rfl
          have f68 : (fun q0 _ => ∃ q : Int, q0 = .int .i64 q) (a.eval (.tmp 68)) ws := end_of hend 5 68 (by decide) rfl rfl rfl
          have f69 : (fun q0 _ => ∃ q : Int, q0 = .int .i64 q) (a.eval (.tmp 69)) ws := end_of hend 6 69 (by decide) rfl rfl rfl
          have f70 : a.eval (.tmp 70) = .pointer (some ⟨g, i * 6, none⟩) := end_of hend 7 70 (by decide) rfl rfl rfl
          have f71 : a.eval (.tmp 71) = .pointer (some ⟨g, i * 6 + 5, none⟩) := end_of hend 8 71 (by decide) rfl rfl rfl
          have ea := act_block 63 9 hsz hdf hag [63, 64, 65, 66, 67, 68, 69, 70, 71] (by kernel_rfl) (by kernel_rfl) (of_decide_eq_true (by kernel_rfl))
          clear hag hend hsz hdf
          simp only [List.map_cons, List.map_nil, f63, f64, f65, f66, f70, f71] at ea
          clear f63 f64 f65 f66 f70 f71
          generalize a.eval (.tmp 67) = x67 at ea f67
          generalize a.eval (.tmp 68) = x68 at ea f68
          generalize a.eval (.tmp 69) = x69 at ea f69
          simp only [List.take_succ_cons, List.take_zero, List.drop_succ_cons, List.drop_zero, List.cons_append, List.nil_append] at ea
          subst ea
          clear hle hft hff f67 f68 f69
          simp only [List.drop_succ_cons, List.drop_zero]
          have HS9 := Lib.hid hjj
          have k0 := hjj.c0; have k1 := hjj.c1; have j0 := hjj.d0; have j1 := hjj.d1; have je0 := hjj.e0; have je1 := hjj.e1
          have kl := lt_of_some hjj.bk; have kl1 := lt_of_some hjj.b1
          clear hjj
          go_wp2
          exact HS9.out.fin rfl rfl
      · subst h
        clear hr0 hr1
        go_wp2
        refine wp_region_ac 18 101 (fun _ _ => True) (fun _ _ wr => SP base w G w.heap.size A c L N0 l.length (some ⟨g, 0, none⟩) c3 wr) [(fun q0 _ => q0 = .pointer (some ⟨w.heap.size, 1, none⟩)), (fun q0 _ => q0 = .slice (some ⟨g, 0, none⟩) l.length c3), (fun q0 _ => q0 = .int .i64 (i : Int)), (fun q0 _ => q0 = .pointer (some ⟨w.heap.size, 1, none⟩)), (fun q0 _ => q0 = .slice (some ⟨g, 0, none⟩) l.length c3), (fun q0 _ => q0 = .pointer (some ⟨w.heap.size, 1, none⟩)), (fun q0 _ => q0 = .slice (some ⟨g, 0, none⟩) l.length c3), (fun q0 _ => q0 = .pointer (some ⟨g, 0, none⟩)), (fun q0 _ => ∃ q1 q2 q3 q4 q5 q6 : Int, q0 = .agg #[.int .i64 q1, .int .i64 q2, .int .i64 q3, .int .i64 q4, .int .i64 q5, .int .i64 q6]), (fun q0 _ => q0 = .pointer (some ⟨w.heap.size, 1, none⟩)), (fun q0 _ => q0 = .slice (some ⟨g, 0, none⟩) l.length c3), (fun q0 _ => q0 = .int .i64 (i : Int)), (fun q0 _ => q0 = .pointer (some ⟨g, i * 6, none⟩)), (fun q0 _ => ∃ q1 q2 q3 q4 q5 q6 : Int, q0 = .agg #[.int .i64 q1, .int .i64 q2, .int .i64 q3, .int .i64 q4, .int .i64 q5, .int .i64 q6]), (fun q0 _ => q0 = .pointer (some ⟨g, i * 6, none⟩)), (fun _ _ => True), (fun q0 _ => q0 = .pointer (some ⟨g, 0, none⟩)), (fun _ _ => True)] (by kernel_rfl) (by kernel_rfl) rfl (fun _ _ _ _ _ => trivial) trivial HJ0.out ?_ ?_ ?_
        · intro R hR
          simp only [List.mem_cons, List.not_mem_nil, or_false] at hR
          rcases hR with rfl | rfl | rfl | rfl | rfl | rfl | rfl | rfl | rfl | rfl | rfl | rfl | rfl | rfl | rfl | rfl | rfl | rfl <;> (first | exact fun _ _ _ h _ => h)
        · simp only [List.take_succ_cons, List.take_zero]
          refine ⟨?_, ?_, ?_, ?_, ?_, ?_, ?_, ?_, ?_, ?_, ?_, ?_, ?_, ?_, ?_, ?_, ?_, ?_, trivial⟩
          · intro a ws f hle hjj hfi hun hdn hag hdep K Q hK
            have d3 : (a.tmps[3]?).getD undef = .pointer (some ⟨w.heap.size, 0, none⟩) := eval_get (hag 3 (freeB_spec (by kernel_rfl)))
            rw [if_pos (show Region.wanted _ _ = true from rfl)]
            unfold Oper.wp
            simp [go_sem, d3]
            exact hK _ _ trivial hjj rfl
          · intro a ws f hle hjj hfi hun hdn hag hdep K Q hK
            have d74 : (a.tmps[74]?).getD undef = .pointer (some ⟨w.heap.size, 1, none⟩) := eval_get (dep_of hdep 0 74 rfl (by kernel_rfl) rfl rfl)
            rw [if_pos (show Region.wanted _ _ = true from rfl)]
            have y1 := hjj.c1
            unfold Oper.wp
            simp [go_sem, d74, y1]
            exact hK _ _ trivial hjj rfl
          · intro a ws f hle hjj hfi hun hdn hag hdep K Q hK
            have d6 : (a.tmps[6]?).getD undef = .int .i64 (i : Int) := eval_get (hag 6 (freeB_spec (by kernel_rfl)))
            rw [if_pos (show Region.wanted _ _ = true from rfl)]
            unfold Oper.wp
            simp [go_sem, d6]
            exact hK _ _ trivial hjj rfl
          · intro a ws f hle hjj hfi hun hdn hag hdep K Q hK
            have d3 : (a.tmps[3]?).getD undef = .pointer (some ⟨w.heap.size, 0, none⟩) := eval_get (hag 3 (freeB_spec (by kernel_rfl)))
            rw [if_pos (show Region.wanted _ _ = true from rfl)]
            unfold Oper.wp
            simp [go_sem, d3]
            exact hK _ _ trivial hjj rfl
          · intro a ws f hle hjj hfi hun hdn hag hdep K Q hK
            have d77 : (a.tmps[77]?).getD undef = .pointer (some ⟨w.heap.size, 1, none⟩) := eval_get (dep_of hdep 3 77 rfl (by kernel_rfl) rfl rfl)
            rw [if_pos (show Region.wanted _ _ = true from rfl)]
            have y1 := hjj.c1
            unfold Oper.wp
            simp [go_sem, d77, y1]
            exact hK _ _ trivial hjj rfl
          · intro a ws f hle hjj hfi hun hdn hag hdep K Q hK
            have d3 : (a.tmps[3]?).getD undef = .pointer (some ⟨w.heap.size, 0, none⟩) := eval_get (hag 3 (freeB_spec (by kernel_rfl)))
            rw [if_pos (show Region.wanted _ _ = true from rfl)]
            unfold Oper.wp
            simp [go_sem, d3]
            exact hK _ _ trivial hjj rfl
          · intro a ws f hle hjj hfi hun hdn hag hdep K Q hK
            have d79 : (a.tmps[79]?).getD undef = .pointer (some ⟨w.heap.size, 1, none⟩) := eval_get (dep_of hdep 5 79 rfl (by kernel_rfl) rfl rfl)
            rw [if_pos (show Region.wanted _ _ = true from rfl)]
            have y1 := hjj.c1
            unfold Oper.wp
            simp [go_sem, d79, y1]
            exact hK _ _ trivial hjj rfl
          · intro a ws f hle hjj hfi hun hdn hag hdep K Q hK
            have d80 : (a.tmps[80]?).getD undef = .slice (some ⟨g, 0, none⟩) l.length c3 := eval_get (dep_of hdep 6 80 rfl (by kernel_rfl) rfl rfl)
            rw [if_pos (show Region.wanted _ _ = true from rfl)]
            have hi : 0 < l.length := by have := HI.out; omega
            unfold Oper.wp
            simp [go_sem, d80, hi]
            exact hK _ _ trivial hjj rfl
          · intro a ws f hle hjj hfi hun hdn hag hdep K Q hK
            have d81 : (a.tmps[81]?).getD undef = .pointer (some ⟨g, 0, none⟩) := eval_get (dep_of hdep 7 81 rfl (by kernel_rfl) rfl rfl)
            rw [if_pos (show Region.wanted _ _ = true from rfl)]
            obtain ⟨x0, yc0⟩ := hjj.cell (0) (by have := HI.out; omega)
            obtain ⟨x1, yc1⟩ := hjj.cell (1) (by have := HI.out; omega)
            obtain ⟨x2, yc2⟩ := hjj.cell (2) (by have := HI.out; omega)
            obtain ⟨x3, yc3⟩ := hjj.cell (3) (by have := HI.out; omega)
            obtain ⟨x4, yc4⟩ := hjj.cell (4) (by have := HI.out; omega)
            obtain ⟨x5, yc5⟩ := hjj.cell (5) (by have := HI.out; omega)
            unfold Oper.wp
            simp [go_sem, d81, yc0, yc1, yc2, yc3, yc4, yc5]
            exact hK _ _ trivial hjj ⟨_, _, _, _, _, _, rfl⟩
          · intro a ws f hle hjj hfi hun hdn hag hdep K Q hK
            have d3 : (a.tmps[3]?).getD undef = .pointer (some ⟨w.heap.size, 0, none⟩) := eval_get (hag 3 (freeB_spec (by kernel_rfl)))
            rw [if_pos (show Region.wanted _ _ = true from rfl)]
            unfold Oper.wp
            simp [go_sem, d3]
            exact hK _ _ trivial hjj rfl
          · intro a ws f hle hjj hfi hun hdn hag hdep K Q hK
            have d83 : (a.tmps[83]?).getD undef = .pointer (some ⟨w.heap.size, 1, none⟩) := eval_get (dep_of hdep 9 83 rfl (by kernel_rfl) rfl rfl)
            rw [if_pos (show Region.wanted _ _ = true from rfl)]
            have y1 := hjj.c1
            unfold Oper.wp
            simp [go_sem, d83, y1]
            exact hK _ _ trivial hjj rfl
          · intro a ws f hle hjj hfi hun hdn hag hdep K Q hK
            have d6 : (a.tmps[6]?).getD undef = .int .i64 (i : Int) := eval_get (hag 6 (freeB_spec (by kernel_rfl)))
            rw [if_pos (show Region.wanted _ _ = true from rfl)]
            unfold Oper.wp
            simp [go_sem, d6]
            exact hK _ _ trivial hjj rfl
          · intro a ws f hle hjj hfi hun hdn hag hdep K Q hK
            have d84 : (a.tmps[84]?).getD undef = .slice (some ⟨g, 0, none⟩) l.length c3 := eval_get (dep_of hdep 10 84 rfl (by kernel_rfl) rfl rfl)
            have d85 : (a.tmps[85]?).getD undef = .int .i64 (i : Int) := eval_get (dep_of hdep 11 85 rfl (by kernel_rfl) rfl rfl)
            rw [if_pos (show Region.wanted _ _ = true from rfl)]
            have hi := HI.out
            unfold Oper.wp
            simp [go_sem, d84, d85, hi]
            exact hK _ _ trivial hjj rfl
          · intro a ws f hle hjj hfi hun hdn hag hdep K Q hK
            have d86 : (a.tmps[86]?).getD undef = .pointer (some ⟨g, i * 6, none⟩) := eval_get (dep_of hdep 12 86 rfl (by kernel_rfl) rfl rfl)
            rw [if_pos (show Region.wanted _ _ = true from rfl)]
            obtain ⟨x0, yc0⟩ := hjj.cell (i * 6) (by have := HI.out; omega)
            obtain ⟨x1, yc1⟩ := hjj.cell (i * 6 + 1) (by have := HI.out; omega)
            obtain ⟨x2, yc2⟩ := hjj.cell (i * 6 + 2) (by have := HI.out; omega)
            obtain ⟨x3, yc3⟩ := hjj.cell (i * 6 + 3) (by have := HI.out; omega)
            obtain ⟨x4, yc4⟩ := hjj.cell (i * 6 + 4) (by have := HI.out; omega)
            obtain ⟨x5, yc5⟩ := hjj.cell (i * 6 + 5) (by have := HI.out; omega)
            unfold Oper.wp
            simp [go_sem, d86, yc0, yc1, yc2, yc3, yc4, yc5]
            exact hK _ _ trivial hjj ⟨_, _, _, _, _, _, rfl⟩
          · intro a ws f hle hjj hfi hun hdn hag hdep K Q hK
            have d75 : (a.tmps[75]?).getD undef = .slice (some ⟨g, 0, none⟩) l.length c3 := eval_get (dep_of hdep 1 75 rfl (by kernel_rfl) rfl rfl)
            have d76 : (a.tmps[76]?).getD undef = .int .i64 (i : Int) := eval_get (dep_of hdep 2 76 rfl (by kernel_rfl) rfl rfl)
            rw [if_pos (show Region.wanted _ _ = true from rfl)]
            have hi := HI.out
            unfold Oper.wp
            simp [go_sem, d75, d76, hi]
            exact hK _ _ trivial hjj rfl
          · intro a ws f hle hjj hfi hun hdn hag hdep K Q hK
            have d88 : (a.tmps[88]?).getD undef = .pointer (some ⟨g, i * 6, none⟩) := eval_get (dep_of hdep 14 88 rfl (by kernel_rfl) rfl rfl)
            have d82 : (fun q0 _ => ∃ q1 q2 q3 q4 q5 q6 : Int, q0 = .agg #[.int .i64 q1, .int .i64 q2, .int .i64 q3, .int .i64 q4, .int .i64 q5, .int .i64 q6]) (a.eval (.tmp 82)) ws := dep_of hdep 8 82 rfl (by kernel_rfl) rfl rfl
            rw [if_pos (show Region.wanted _ _ = true from rfl)]
            obtain ⟨q1, q2, q3, q4, q5, q6, e82⟩ := d82
            have e82 := eval_get e82
            have hj2 := (((((hjj.stored (i * 6) q1).stored (i * 6 + 1) q2).stored (i * 6 + 2) q3).stored (i * 6 + 3) q4).stored (i * 6 + 4) q5).stored (i * 6 + 5) q6
            obtain ⟨x0, yc0⟩ := hjj.cell (i * 6) (by have := HI.out; omega)
            obtain ⟨x1, yc1⟩ := hjj.cell (i * 6 + 1) (by have := HI.out; omega)
            obtain ⟨x2, yc2⟩ := hjj.cell (i * 6 + 2) (by have := HI.out; omega)
            obtain ⟨x3, yc3⟩ := hjj.cell (i * 6 + 3) (by have := HI.out; omega)
            obtain ⟨x4, yc4⟩ := hjj.cell (i * 6 + 4) (by have := HI.out; omega)
            obtain ⟨x5, yc5⟩ := hjj.cell (i * 6 + 5) (by have := HI.out; omega)
            have yf0 := hjj.unf (i * 6)
            have yf1 := hjj.unf (i * 6 + 1)
            have yf2 := hjj.unf (i * 6 + 2)
            have yf3 := hjj.unf (i * 6 + 3)
            have yf4 := hjj.unf (i * 6 + 4)
            have yf5 := hjj.unf (i * 6 + 5)
            unfold Oper.wp
            simp [go_sem, d88, e82, yc0, yc1, yc2, yc3, yc4, yc5, yf0, yf1, yf2, yf3, yf4, yf5]
            exact hK undef _ trivial hj2 trivial
          · intro a ws f hle hjj hfi hun hdn hag hdep K Q hK
            have d78 : (a.tmps[78]?).getD undef = .slice (some ⟨g, 0, none⟩) l.length c3 := eval_get (dep_of hdep 4 78 rfl (by kernel_rfl) rfl rfl)
            rw [if_pos (show Region.wanted _ _ = true from rfl)]
            have hi : 0 < l.length := by have := HI.out; omega
            unfold Oper.wp
            simp [go_sem, d78, hi]
            exact hK _ _ trivial hjj rfl
          · intro a ws f hle hjj hfi hun hdn hag hdep K Q hK
            have d89 : (a.tmps[89]?).getD undef = .pointer (some ⟨g, 0, none⟩) := eval_get (dep_of hdep 16 89 rfl (by kernel_rfl) rfl rfl)
            have d87 : (fun q0 _ => ∃ q1 q2 q3 q4 q5 q6 : Int, q0 = .agg #[.int .i64 q1, .int .i64 q2, .int .i64 q3, .int .i64 q4, .int .i64 q5, .int .i64 q6]) (a.eval (.tmp 87)) ws := dep_of hdep 13 87 rfl (by kernel_rfl) rfl rfl
            rw [if_pos (show Region.wanted _ _ = true from rfl)]
            obtain ⟨q1, q2, q3, q4, q5, q6, e87⟩ := d87
            have e87 := eval_get e87
            have hj2 := (((((hjj.stored (0) q1).stored (1) q2).stored (2) q3).stored (3) q4).stored (4) q5).stored (5) q6
            obtain ⟨x0, yc0⟩ := hjj.cell (0) (by have := HI.out; omega)
            obtain ⟨x1, yc1⟩ := hjj.cell (1) (by have := HI.out; omega)
            obtain ⟨x2, yc2⟩ := hjj.cell (2) (by have := HI.out; omega)
            obtain ⟨x3, yc3⟩ := hjj.cell (3) (by have := HI.out; omega)
            obtain ⟨x4, yc4⟩ := hjj.cell (4) (by have := HI.out; omega)
            obtain ⟨x5, yc5⟩ := hjj.cell (5) (by have := HI.out; omega)
            have yf0 := hjj.unf (0)
            have yf1 := hjj.unf (1)
            have yf2 := hjj.unf (2)
            have yf3 := hjj.unf (3)
            have yf4 := hjj.unf (4)
            have yf5 := hjj.unf (5)
            unfold Oper.wp
            simp [go_sem, d89, e87, yc0, yc1, yc2, yc3, yc4, yc5, yf0, yf1, yf2, yf3, yf4, yf5]
            exact hK undef _ trivial hj2 trivial
        · intro a ws f hle hjj hft hff hsz hdf hag hend
          have f74 : a.eval (.tmp 74) = .pointer (some ⟨w.heap.size, 1, none⟩) := end_of hend 0 74 (by decide) rfl rfl rfl
          have f75 : a.eval (.tmp 75) = .slice (some ⟨g, 0, none⟩) l.length c3 := end_of hend 1 75 (by decide) rfl rfl rfl
          have f76 : a.eval (.tmp 76) = .int .i64 (i : Int) := end_of hend 2 76 (by decide) rfl rfl rfl
          have f77 : a.eval (.tmp 77) = .pointer (some ⟨w.heap.size, 1, none⟩) := end_of hend 3 77 (by decide) rfl rfl rfl
          have f78 : a.eval (.tmp 78) = .slice (some ⟨g, 0, none⟩) l.length c3 := end_of hend 4 78 (by decide) rfl rfl rfl
          have f79 : a.eval (.tmp 79) = .pointer (some ⟨w.heap.size, 1, none⟩) := end_of hend 5 79 (by decide) rfl rfl rfl
          have f80 : a.eval (.tmp 80) = .slice (some ⟨g, 0, none⟩) l.length c3 := end_of hend 6 80 (by decide) rfl rfl rfl
          have f81 : a.eval (.tmp 81) = .pointer (some ⟨g, 0, none⟩) := end_of hend 7 81 (by decide) rfl rfl rfl
          have f83 : a.eval (.tmp 83) = .pointer (some ⟨w.heap.size, 1, none⟩) := end_of hend 9 83 (by decide) rfl rfl rfl
          have f84 : a.eval (.tmp 84) = .slice (some ⟨g, 0, none⟩) l.length c3 := end_of hend 10 84 (by decide) rfl rfl rfl
          have f85 : a.eval (.tmp 85) = .int .i64 (i : Int) := end_of hend 11 85 (by decide) rfl rfl rfl
          have f86 : a.eval (.tmp 86) = .pointer (some ⟨g, i * 6, none⟩) := end_of hend 12 86 (by decide) rfl rfl rfl
          have f88 : a.eval (.tmp 88) = .pointer (some ⟨g, i * 6, none⟩) := end_of hend 14 88 (by decide) rfl rfl rfl
          have f89 : a.eval (.tmp 89) = .pointer (some ⟨g, 0, none⟩) := end_of hend 16 89 (by decide) rfl rfl rfl
          have ea := act_block 74 16 hsz hdf hag [74, 75, 76, 77, 78, 79, 80, 81, 82, 83, 84, 85, 86, 87, 88, 89] (by kernel_rfl) (by kernel_rfl) (of_decide_eq_true (by kernel_rfl))
          clear hag hend hsz hdf
          simp only [List.map_cons, List.map_nil, f74, f75, f76, f77, f78, f79, f80, f81, f83, f84, f85, f86, f88, f89] at ea
          clear f74 f75 f76 f77 f78 f79 f80 f81 f83 f84 f85 f86 f88 f89
          generalize a.eval (.tmp 82) = x82 at ea
          generalize a.eval (.tmp 87) = x87 at ea
          simp only [List.take_succ_cons, List.take_zero, List.drop_succ_cons, List.drop_zero, List.cons_append, List.nil_append] at ea
          subst ea
          clear hle hft hff
          simp only [List.drop_succ_cons, List.drop_zero]
          have HS9 := Lib.hid hjj
          have k0 := hjj.c0; have k1 := hjj.c1; have j0 := hjj.d0; have j1 := hjj.d1; have je0 := hjj.e0; have je1 := hjj.e1
          have kl := lt_of_some hjj.bk; have kl1 := lt_of_some hjj.b1
          clear hjj
          go_wp2
          exact HS9.out.fin rfl rfl
      · subst h
        clear hr0 hr1
        go_wp2
        refine wp_region_ac 9 101 (fun _ _ => True) (fun _ _ wr => SP base w G w.heap.size A c L N0 l.length (some ⟨g, 0, none⟩) c3 wr) [(fun q0 _ => q0 = .pointer (some ⟨w.heap.size, 1, none⟩)), (fun q0 _ => q0 = .slice (some ⟨g, 0, none⟩) l.length c3), (fun q0 _ => q0 = .int .i64 (i : Int)), (fun q0 _ => q0 = .pointer (some ⟨G, 0, none⟩)), (fun q0 _ => ∃ q : Int, q0 = .int .i64 q), (fun q0 _ => ∃ q : Int, q0 = .int .i64 q), (fun q0 _ => q0 = .pointer (some ⟨g, i * 6, none⟩)), (fun q0 _ => q0 = .pointer (some ⟨g, i * 6, none⟩)), (fun _ _ => True)] (by kernel_rfl) (by kernel_rfl) rfl (fun _ _ _ _ _ => trivial) trivial HJ0.out ?_ ?_ ?_
        · intro R hR
          simp only [List.mem_cons, List.not_mem_nil, or_false] at hR
          rcases hR with rfl | rfl | rfl | rfl | rfl | rfl | rfl | rfl | rfl <;> (first | exact fun _ _ _ h _ => h)
        · simp only [List.take_succ_cons, List.take_zero]
          refine ⟨?_, ?_, ?_, ?_, ?_, ?_, ?_, ?_, ?_, trivial⟩
          · intro a ws f hle hjj hfi hun hdn hag hdep K Q hK
            have d3 : (a.tmps[3]?).getD undef = .pointer (some ⟨w.heap.size, 0, none⟩) := eval_get (hag 3 (freeB_spec (by kernel_rfl)))
            rw [if_pos (show Region.wanted _ _ = true from rfl)]
            unfold Oper.wp
            simp [go_sem, d3]
            exact hK _ _ trivial hjj rfl
          · intro a ws f hle hjj hfi hun hdn hag hdep K Q hK
            have d92 : (a.tmps[92]?).getD undef = .pointer (some ⟨w.heap.size, 1, none⟩) := eval_get (dep_of hdep 0 92 rfl (by kernel_rfl) rfl rfl)
            rw [if_pos (show Region.wanted _ _ = true from rfl)]
            have y1 := hjj.c1
            unfold Oper.wp
            simp [go_sem, d92, y1]
            exact hK _ _ trivial hjj rfl
          · intro a ws f hle hjj hfi hun hdn hag hdep K Q hK
            have d6 : (a.tmps[6]?).getD undef = .int .i64 (i : Int) := eval_get (hag 6 (freeB_spec (by kernel_rfl)))
            rw [if_pos (show Region.wanted _ _ = true from rfl)]
            unfold Oper.wp
            simp [go_sem, d6]
            exact hK _ _ trivial hjj rfl
          · intro a ws f hle hjj hfi hun hdn hag hdep K Q hK
            have d0 : (a.tmps[0]?).getD undef = .pointer (some ⟨G, 0, none⟩) := eval_get (hag 0 (freeB_spec (by kernel_rfl)))
            rw [if_pos (show Region.wanted _ _ = true from rfl)]
            unfold Oper.wp
            simp [go_sem, d0]
            exact hK _ _ trivial hjj rfl
          · intro a ws f hle hjj hfi hun hdn hag hdep K Q hK
            have d95 : (a.tmps[95]?).getD undef = .pointer (some ⟨G, 0, none⟩) := eval_get (dep_of hdep 3 95 rfl (by kernel_rfl) rfl rfl)
            rw [if_pos (show Region.wanted _ _ = true from rfl)]
            obtain ⟨mm, hdm⟩ := hjj.dk
            have hcon := next_any base G A c L mm 10 ws hdm HLL.out (by decide)
            unfold Oper.wp
            simp [go_sem, d95]
            refine hcon.mono ?_
            rintro e w9 ⟨r, m9, rfl, hr0, hr1, hd9, hg9⟩
            exact hK _ _ trivial (hjj.next ⟨m9, hd9⟩ hg9) ⟨r, rfl⟩
          · intro a ws f hle hjj hfi hun hdn hag hdep K Q hK
            have d96 : (fun q0 _ => ∃ q : Int, q0 = .int .i64 q) (a.eval (.tmp 96)) ws := dep_of hdep 4 96 rfl (by kernel_rfl) rfl rfl
            rw [if_pos (show Region.wanted _ _ = true from rfl)]
            obtain ⟨q, e96⟩ := d96
            have e96 := eval_get e96
            unfold Oper.wp
            simp [go_sem, e96]
            exact hK _ _ trivial hjj ⟨_, rfl⟩
          · intro a ws f hle hjj hfi hun hdn hag hdep K Q hK
            have d93 : (a.tmps[93]?).getD undef = .slice (some ⟨g, 0, none⟩) l.length c3 := eval_get (dep_of hdep 1 93 rfl (by kernel_rfl) rfl rfl)
            have d94 : (a.tmps[94]?).getD undef = .int .i64 (i : Int) := eval_get (dep_of hdep 2 94 rfl (by kernel_rfl) rfl rfl)
            rw [if_pos (show Region.wanted _ _ = true from rfl)]
            have hi := HI.out
            unfold Oper.wp
            simp [go_sem, d93, d94, hi]
            exact hK _ _ trivial hjj rfl
          · intro a ws f hle hjj hfi hun hdn hag hdep K Q hK
            have d98 : (a.tmps[98]?).getD undef = .pointer (some ⟨g, i * 6, none⟩) := eval_get (dep_of hdep 6 98 rfl (by kernel_rfl) rfl rfl)
            rw [if_pos (show Region.wanted _ _ = true from rfl)]
            unfold Oper.wp
            simp [go_sem, d98]
            exact hK _ _ trivial hjj rfl
          · intro a ws f hle hjj hfi hun hdn hag hdep K Q hK
            have d99 : (a.tmps[99]?).getD undef = .pointer (some ⟨g, i * 6, none⟩) := eval_get (dep_of hdep 7 99 rfl (by kernel_rfl) rfl rfl)
            have d97 : (fun q0 _ => ∃ q : Int, q0 = .int .i64 q) (a.eval (.tmp 97)) ws := dep_of hdep 5 97 rfl (by kernel_rfl) rfl rfl
            rw [if_pos (show Region.wanted _ _ = true from rfl)]
            obtain ⟨q, e97⟩ := d97
            have e97 := eval_get e97
            have hj2 := hjj.stored (i * 6) q
            obtain ⟨x, yc⟩ := hjj.cell (i * 6) (by have := HI.out; omega)
            have yf := hjj.unf (i * 6)
            unfold Oper.wp
            simp [go_sem, d99, e97, yc, yf]
            exact hK undef _ trivial hj2 trivial
        · intro a ws f hle hjj hft hff hsz hdf hag hend
          have f92 : a.eval (.tmp 92) = .pointer (some ⟨w.heap.size, 1, none⟩) := end_of hend 0 92 (by decide) rfl rfl rfl
          have f93 : a.eval (.tmp 93) = .slice (some ⟨g, 0, none⟩) l.length c3 := end_of hend 1 93 (by decide) rfl rfl rfl
          have f94 : a.eval (.tmp 94) = .int .i64 (i : Int) := end_of hend 2 94 (by decide) rfl rfl rfl
          have f95 : a.eval (.tmp 95) = .pointer (some ⟨G, 0, none⟩) := end_of hend 3 95 (by decide) rfl rfl rfl
          have f96 : (fun q0 _ => ∃ q : Int, q0 = .int .i64 q) (a.eval (.tmp 96)) ws := end_of hend 4 96 (by decide) rfl rfl rfl
          have f97 : (fun q0 _ => ∃ q : Int, q0 = .int .i64 q) (a.eval (.tmp 97)) ws := end_of hend 5 97 (by decide) rfl rfl rfl
          have f98 : a.eval (.tmp 98) = .pointer (some ⟨g, i * 6, none⟩) := end_of hend 6 98 (by decide) rfl rfl rfl
          have f99 : a.eval (.tmp 99) = .pointer (some ⟨g, i * 6, none⟩) := end_of hend 7 99 (by decide) rfl rfl rfl
          have ea := act_block 92 8 hsz hdf hag [92, 93, 94, 95, 96, 97, 98, 99] (by kernel_rfl) (by kernel_rfl) (of_decide_eq_true (by kernel_rfl))
          clear hag hend hsz hdf
          simp only [List.map_cons, List.map_nil, f92, f93, f94, f95, f98, f99] at ea
          clear f92 f93 f94 f95 f98 f99
          generalize a.eval (.tmp 96) = x96 at ea f96
          generalize a.eval (.tmp 97) = x97 at ea f97
          simp only [List.take_succ_cons, List.take_zero, List.drop_succ_cons, List.drop_zero, List.cons_append, List.nil_append] at ea
          subst ea
          clear hle hft hff f96 f97
          simp only [List.drop_succ_cons, List.drop_zero]
          have HS9 := Lib.hid hjj
          have k0 := hjj.c0; have k1 := hjj.c1; have j0 := hjj.d0; have j1 := hjj.d1; have je0 := hjj.e0; have je1 := hjj.e1
          have kl := lt_of_some hjj.bk; have kl1 := lt_of_some hjj.b1
          clear hjj
          go_wp2
          exact HS9.out.fin rfl rfl
end Go.Proofs.Ytagkpkkbkeefbaa
