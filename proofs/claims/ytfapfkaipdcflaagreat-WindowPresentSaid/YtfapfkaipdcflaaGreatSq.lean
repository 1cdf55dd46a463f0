/-
  Slide: the events of a stream with the cuts of what expires between them.
-/
import Derived.Test.YtfapfkaipdcflaaGreatSp
namespace Go.Proofs.YtfapfkaipdcflaaGreat
open Go.RowKit Go.Lib

theorem OW.blk {base c : Nat} {A : Option Addr} {l : List Ls.Lk} {w : World} (h : OW base w A c l) {k : Nat} (hk : bk A c = some k) : ∃ cur, w.heap[k]? = some (.cells cur 62 (0, 0)) := by
  unfold bk at hk
  split at hk
  · cases hk
  · rcases h.2.2 with h1 | ⟨g, o, cur, rfl, hb', hg', hs, ht⟩
    · contradiction
    · simp at hk; subst hk; exact ⟨cur, hg'⟩
/-- a row of events stays where blocks of other kinds change -/
theorem ev_tw {w w' : World} {base P k : Nat} {r : Option Nat} {v : Value} {xs : List Value} {cp : Array Value} {U : TypeId} (h : w.ownsRow base 57 7 v k xs) (T : Tw P r w w') (hP : w.heap[P]? = some (.cells cp U (0, 0))) (hU : U ≠ 57) (hr : ∀ j, r = some j → ∃ cur, w.heap[j]? = some (.cells cur 62 (0, 0))) : w'.ownsRow base 57 7 v k xs := by
  refine ⟨h.1, ?_⟩
  rcases h.2 with h' | ⟨g, cap, cur, e, h1, h2, h3⟩
  · exact .inl h'
  · refine .inr ⟨g, cap, cur, e, h1, (T.block g (lt_of_some h2) ?_ ?_).trans h2, h3⟩
    · intro e; subst e
      rw [h2] at hP
      injection hP with hP
      injection hP with _ hP
      exact hU hP.symm
    · intro e
      obtain ⟨cur', h4⟩ := hr g e
      rw [h2] at h4
      injection h4 with h4
      injection h4 with _ h4
      exact absurd h4 (by decide)
/-- what is present stays where a row of events is written -/
theorem PB.ev {base P c : Nat} {A : Option Addr} {W M : Int} {l : List Ls.Lk} {w w' : World} {b0 k : Nat} {v : Value} {xs : List Value} (h : PB base P A c W M l w) (hv : w.ownsRow b0 57 7 v k xs) (hg : w.grownBy w' v.ownBlock) : PB base P A c W M l w' := by
  have hne : ∀ (j : Nat) (cs : Array Value) (U : TypeId), w.heap[j]? = some (.cells cs U (0, 0)) → U ≠ 57 → v.ownBlock ≠ some j := by
    intro j cs U hj hU e
    rcases hv.2 with ⟨rfl, _⟩ | ⟨g, cap, cur, rfl, h1, h2, h3⟩
    · cases e
    · have : g = j := by simpa [Value.ownBlock] using e
      subst this
      rw [h2] at hj
      injection hj with hj
      injection hj with _ hj
      exact hU hj.symm
  refine ⟨(hg.block P h.lP (fun e => hne P _ _ h.blk (by decide) e.symm)).trans h.blk, h.own.kept hg (fun j hj e => ?_), h.hP⟩
  obtain ⟨cur, hc⟩ := h.own.blk hj
  exact hne j _ _ hc (by decide) e
/-- an append to a list of the call's own: its block is the old one or new -/
theorem wpList_applF {ops : Array Oper} {rest : List Oper} {o : Oper} {a : Act} {Q : Exit → Act → World → Prop} (W : World) (hgd : o.guard = none) (s x : Operand)
    (base : Nat) (A2 : Option Addr) (c2 : Nat) (ho : o.op = .call { callee := .builtin .append, args := #[s, x], argTypes := #[40, 40] }) (ks : List Ev)
    (hs : a.eval s = .slice A2 ks.length c2) (hown : W.ownsRow base 57 7 (.slice A2 ks.length c2) ks.length (cl Ev.cells ks)) (A' : Option Addr) (c' m : Nat) (news : List Ev) (hm : news.length = m)
    (hx : a.eval x = .slice A' m c') (hr : RV W.heap.size W A' c' news) (hk : ks.length + m ≤ 2000000000000) (hbase : base ≤ W.heap.size)
    (h : ∀ A3 c3 w', Hid (w'.ownsRow base 57 7 (.slice A3 (ks ++ news).length c3) (ks ++ news).length (cl Ev.cells (ks ++ news))) → Hid (W.grownBy w' (Value.slice A2 ks.length c2).ownBlock) → Hid (Fr W.heap.size (Value.slice A2 ks.length c2).ownBlock (Value.slice A3 (ks ++ news).length c3).ownBlock) → wpList Tryz.prog ops Q rest (a.put o.dst (.slice A3 (ks ++ news).length c3)) w') :
    wpList Tryz.prog ops Q (o :: rest) a W := by
  subst hm
  obtain ⟨i0, hi0, hz0, hz1, hz2⟩ := info_parts infoV
  refine wpList_append_any W hgd s x _ ho base 57 i0 _ 7 56 Tryz.underlying40 hi0 hz0 hz1 hz2 rfl (by decide) (.slice A2 ks.length c2) ks.length (cl Ev.cells ks) hs hown
    _ A' news.length c' (cl Ev.cells news) hx hr.2 (cl_one encE news) (by simp only [maxLen]; omega) (by omega) hbase ?_
  intro v3 w3 hown3 hg3 hat3
  have ho3 : w3.ownsRow base 57 7 v3 (ks ++ news).length (cl Ev.cells (ks ++ news)) := by rw [cl_append, List.length_append]; exact hown3
  obtain ⟨A3, c3, rfl⟩ := own_formX ho3
  refine h A3 c3 w3 ho3 hg3 (fun k hk => ?_)
  rcases hat3 with h1 | h1
  · exact .inl (by rw [← h1]; exact hk)
  · exact .inr (by rw [h1] at hk; injection hk with hk; omega)
/-- the box of an event, which is no row of another list -/
structure EB (G : Nat) (e : Ev) (v : Value) (w : World) : Prop where
  blk : w.heap[G]? = some (.cells #[.int .i64 e.kind, .int .i64 e.time, .int .i64 e.u, .int .i64 e.v, .int .i64 e.weight, .int .i64 e.label, .int .i64 e.sign] 57 (0, 0))
  ne : v.ownBlock ≠ some G
section
variable {G P : Nat} {e : Ev} {v v' : Value} {w w' : World} {r : Option Nat}
theorem EB.go (h : EB G e v w) (hb : Below w.heap.size w w') : EB G e v w' := ⟨(hb.block _ (lt_of_some h.blk)).trans h.blk, h.ne⟩
theorem EB.app (h : EB G e v w) (hg : w.grownBy w' v.ownBlock) (hf : Fr w.heap.size v.ownBlock v'.ownBlock) : EB G e v' w' :=
  ⟨(hg.block _ (lt_of_some h.blk) (fun e => h.ne e.symm)).trans h.blk, fun e => by
    have := lt_of_some h.blk
    rcases hf G e with h1 | h1
    · exact h.ne h1
    · omega⟩
theorem EB.tw (h : EB G e v w) (T : Tw P r w w') {cp : Array Value} {U : TypeId} (hP : w.heap[P]? = some (.cells cp U (0, 0))) (hU : U ≠ 57) (hr : ∀ j, r = some j → ∃ cur, w.heap[j]? = some (.cells cur 62 (0, 0))) : EB G e v w' := by
  refine ⟨(T.block G (lt_of_some h.blk) ?_ ?_).trans h.blk, h.ne⟩
  · intro e; subst e
    have := h.blk
    rw [hP] at this
    injection this with this
    injection this with _ this
    exact hU this
  · intro e
    obtain ⟨cur', h4⟩ := hr G e
    rw [h.blk] at h4
    injection h4 with h4
    injection h4 with _ h4
    exact absurd h4 (by decide)
theorem EB.gr (h : EB G e v w) (hg : w.grownBy w' (some P)) {cp : Array Value} {U : TypeId} (hP : w.heap[P]? = some (.cells cp U (0, 0))) (hU : U ≠ 57) : EB G e v w' :=
  h.tw (Tw.of_grownP (r := none) hg) hP hU (fun _ e => by cases e)
theorem EB.cs (h : EB G e v w) : w.cell? ⟨G, 0, none⟩ = some (.int .i64 e.kind) ∧ w.cell? ⟨G, 1, none⟩ = some (.int .i64 e.time) ∧ w.cell? ⟨G, 2, none⟩ = some (.int .i64 e.u) ∧ w.cell? ⟨G, 3, none⟩ = some (.int .i64 e.v) ∧ w.cell? ⟨G, 4, none⟩ = some (.int .i64 e.weight) ∧ w.cell? ⟨G, 5, none⟩ = some (.int .i64 e.label) ∧ w.cell? ⟨G, 6, none⟩ = some (.int .i64 e.sign) :=
  ⟨Go.Joins.cell_of_block h.blk 0, Go.Joins.cell_of_block h.blk 1, Go.Joins.cell_of_block h.blk 2, Go.Joins.cell_of_block h.blk 3, Go.Joins.cell_of_block h.blk 4, Go.Joins.cell_of_block h.blk 5, Go.Joins.cell_of_block h.blk 6⟩
end
/-- the state of a slide: what is present, what has been put out -/
structure SlI (w : World) (P : Nat) (A : Option Addr) (c : Nat) (W M : Int) (L : List Ls.Lk) (A5 : Option Addr) (c5 : Nat) (out : List Ev) (wr : World) : Prop where
  pb : PB w.heap.size P A c W M L wr
  own : wr.ownsRow w.heap.size 57 7 (.slice A5 out.length c5) out.length (cl Ev.cells out)
  bel : Below w.heap.size w wr
  aged : Ls.Aged L
  dist : Ls.Dist L
  tm : Tm L
section
variable {w wr w' : World} {P c c5 : Nat} {A A5 : Option Addr} {W M : Int} {L : List Ls.Lk} {out : List Ev}
theorem SlI.go (h : SlI w P A c W M L A5 c5 out wr) (hb : Below wr.heap.size wr w') : SlI w P A c W M L A5 c5 out w' :=
  ⟨h.pb.go hb, own_up h.own hb, h.bel.trans (hb.mono h.bel.size), h.aged, h.dist, h.tm⟩
theorem SlI.sub {L' : List Ls.Lk} (h : L'.Sublist L) (ht : Tm L) : Tm L' := fun x hx => ht x (h.subset hx)
/-- behind expire -/
theorem SlI.exp {A1 : Option Addr} {c1 : Nat} {t : Int} (h : SlI w P A c W M L A5 c5 out wr) (hp : PB w.heap.size P A1 c1 W M (Ls.restX W M t L) w') (hg : wr.grownBy w' (some P)) : SlI w P A1 c1 W M (Ls.restX W M t L) A5 c5 out w' :=
  ⟨hp, own_other h.own h.pb.blk (by decide) hg, h.bel.grown hg h.bel.size (fun k e => by injection e with e; subst e; exact h.pb.hP), h.aged.sublist (Ls.rest_sub _ _ _ _), h.dist.sublist (Ls.rest_sub _ _ _ _), SlI.sub (Ls.rest_sub _ _ _ _) h.tm⟩
/-- behind an append to what has been put out -/
theorem SlI.app {A6 : Option Addr} {c6 : Nat} {out2 : List Ev} (h : SlI w P A c W M L A5 c5 out wr) (hg : wr.grownBy w' (Value.slice A5 out.length c5).ownBlock) (ho : w'.ownsRow w.heap.size 57 7 (.slice A6 out2.length c6) out2.length (cl Ev.cells out2)) : SlI w P A c W M L A6 c6 out2 w' :=
  ⟨h.pb.ev h.own hg, ho, h.bel.grown hg h.bel.size (fun k hk => (h.own.lt k hk).1), h.aged, h.dist, h.tm⟩
/-- behind an event -/
theorem SlI.step {A1 : Option Addr} {c1 : Nat} {e : Ev} (h : SlI w P A c W M L A5 c5 out wr) (hp : PB w.heap.size P A1 c1 W M (Ls.stepA L e) w') (hT : Tw P (bk A c) wr w') (ht : 0 ≤ e.time ∧ e.time ≤ 1048576) : SlI w P A1 c1 W M (Ls.stepA L e) A5 c5 out w' :=
  ⟨hp, ev_tw h.own hT h.pb.blk (by decide) (fun j hj => h.pb.own.blk hj), h.bel.trans (hT.below h.pb.hP (fun k hk => (h.pb.own.lt k hk).1) h.bel.size), Ls.step_aged _ _ h.aged, Ls.step_dist _ _ h.dist, fun x hx => by
    rcases Ls.step_mem _ _ _ hx with h1 | h1
    · exact h.tm x h1
    · subst h1; exact ht⟩
end
def lenC (P : Nat) (w : World) : Nat := match w.cell? ⟨P, 2, none⟩ with | some (.slice _ n _) => n | _ => 0
theorem PB.lenC {base P c : Nat} {A : Option Addr} {W M : Int} {l : List Ls.Lk} {w : World} (h : PB base P A c W M l w) : lenC P w = l.length := by
  unfold Go.Proofs.YtfapfkaipdcflaaGreat.lenC
  rw [h.cells.2.2]
def optT : Option Int → Int
  | none => 0
  | some s => s
theorem optV_eq (o : Option Int) : optV o = .tuple #[.int .i64 (optT o), .bool o.isSome] := by cases o <;> rfl
/-- what Slide answers -/
def SlideP (E : Int) (R : List Ev) (w : World) (en : Ending) (w' : World) : Prop :=
  ∃ A' c', en = .returned (.tuple #[.slice A' R.length c', .int .i64 E]) ∧ w'.ownsRow w.heap.size 57 7 (.slice A' R.length c') R.length (cl Ev.cells R) ∧ Below w.heap.size w w'
set_option maxHeartbeats 8000000 in
set_option maxRecDepth 100000 in
theorem slide_any (n k W M : Int) (hk : (Lit.int .i64 k).wf = true) (A : Option Addr) (c : Nat) (l : List Ev) (w : World) (h : RV w.heap.size w A c l) (hl : l.length ≤ 30000) :
    Calls Tryz.prog 25 #[.int .i64 n, .slice A l.length c, .agg #[.int .i64 k, .int .i64 W, .int .i64 M]] w
      (SlideP (orL [chkW k W M, Ls.chkSt n l]) (if orL [chkW k W M, Ls.chkSt n l] = 0 then Ls.slideA (extW k W) (extM k M) [] l else []) w) := by
  have H := Lib.hid h
  have HWB : Hid (Below w.heap.size w (w.alloc (.cells #[.int .i64 k, .int .i64 W, .int .i64 M] 26))) := below_new _ _
  have C1 := Lib.hid (extentOf_any k W M hk (w.alloc (.cells #[.int .i64 k, .int .i64 W, .int .i64 M] 26)))
  have CS := Lib.hid (fun ws h => checkStream_any n A c l ws h (by omega))
  have HOK : Hid (Ls.chkSt n l = 0 → Ls.OkEv n 0 l) := by
    show _ → _
    intro h0
    unfold Ls.chkSt at h0
    split at h0
    · exact absurd h0 (by decide)
    · split at h0
      · exact absurd h0 (by decide)
      · exact (Ls.chkEv_ok n 0 l).1 h0
  have HEB : Hid (chkW k W M = 0 → 1 ≤ extW k W ∧ extW k W ≤ 1048577 ∧ 0 ≤ extM k M ∧ extM k M ≤ 2016) := ext_bounds
  obtain ⟨E1, HE1⟩ : ∃ E1, Hid (chkW k W M = E1) := ⟨_, rfl⟩
  obtain ⟨E2, HE2⟩ : ∃ E2, Hid (Ls.chkSt n l = E2) := ⟨_, rfl⟩
  obtain ⟨XW, HXW⟩ : ∃ X, Hid (extW k W = X) := ⟨_, rfl⟩
  obtain ⟨XM, HXM⟩ : ∃ X, Hid (extM k M = X) := ⟨_, rfl⟩
  simp only [HE1.out, HE2.out, HXW.out, HXM.out] at C1 CS HOK HEB ⊢
  have HRP : Hid (orL [E1, E2] = 0 → E1 = 0 ∧ E2 = 0) := by
    show (if E1 = 0 then (if E2 = 0 then 0 else E2) else E1) = 0 → _
    intro h0
    split at h0
    · split at h0
      · exact ⟨by assumption, by assumption⟩
      · contradiction
    · contradiction
  obtain ⟨E, HE⟩ : ∃ E, Hid (orL [E1, E2] = E) := ⟨_, rfl⟩
  rw [HE.out] at HRP ⊢
  obtain ⟨R, HR⟩ : ∃ R, Hid ((if E = 0 then Ls.slideA XW XM [] l else []) = R) := ⟨_, rfl⟩
  rw [HR.out]
  clear h HE1 HE2 HXW HXM
  obtain ⟨N, HN⟩ : ∃ N, Hid (l.length = N) := ⟨_, rfl⟩
  simp only [HN.out] at CS hl ⊢
  go_enter Tryz.func25, Tryz.ntmps25
  go_wp2_with fail
  refine C1.out.mono ?_
  rintro e w1 ⟨⟨a, b, hab, rfl⟩, hb⟩
  have HAB := Lib.hid hab
  have HB1 := Lib.hid (HWB.out.trans (hb.mono HWB.out.size))
  clear hb hab C1
  obtain ⟨G8, HG8⟩ : ∃ g, Hid (g = w1.heap.size) := ⟨_, rfl⟩
  have HX8 : Hid ((w1.alloc (.cells #[.int .i64 a, .int .i64 b] 74)).heap[w1.heap.size]? = some (.cells #[.int .i64 a, .int .i64 b] 74 (0, 0))) := heap_alloc_new _ _
  have HBa : Hid (Below w.heap.size w (w1.alloc (.cells #[.int .i64 a, .int .i64 b] 74))) := HB1.out.alloc HB1.out.size _
  have C2 := Lib.hid (CS.out _ (H.out.up HBa.out))
  go_wp2_with fail
  refine C2.out.mono ?_
  rintro e w2 ⟨rfl, hb⟩
  have HB2 := Lib.hid (HBa.out.trans (hb.mono HBa.out.size))
  have HX2 := Lib.hid ((hb.block _ (lt_of_some HX8.out)).trans HX8.out)
  clear hb C2 CS HX8 HBa
  have C3 : Hid (Calls Tryz.prog 34 #[.slice (some ⟨w2.heap.size, 0, none⟩) 2 2] (w2.alloc (.cells #[.int .i64 E1, .int .i64 E2] 37)) fun e w' => e = .returned (.int .i64 E) ∧ w2.alloc (.cells #[.int .i64 E1, .int .i64 E2] 37) = w') := by
    have := orE_any _ 2 [E1, E2] _ (RD_newL w2 [E1, E2] 37) (by simp)
    rw [HE.out] at this
    exact this
  go_wp2_with fail
  refine C3.out.mono ?_
  rintro e w3 ⟨rfl, hw3⟩
  have HW3 := Lib.hid hw3
  have HB3 : Hid (Below w.heap.size w w3) := by show Below _ _ _; rw [← hw3]; exact HB2.out.alloc HB2.out.size _
  have HX3 : Hid (w3.heap[w1.heap.size]? = some (.cells #[.int .i64 a, .int .i64 b] 74 (0, 0))) := by show _ = _; rw [← hw3, Below.heap_alloc _ _ _ (lt_of_some HX2.out)]; exact HX2.out
  clear hw3 C3 HX2
  by_cases hE : E = 0
  · subst hE
    obtain ⟨h1, h2⟩ := HRP.out rfl
    subst h1
    subst h2
    obtain ⟨rfl, rfl⟩ := HAB.out rfl
    have HRT : Hid (Ls.slideA a b [] l = R) := HR.out
    have HOE := Lib.hid (HOK.out rfl)
    have HBX := Lib.hid (HEB.out rfl)
    obtain ⟨x1, x2, x3, x4⟩ := HBX.out
    have HXB : Hid ((0 ≤ a ∧ a ≤ 1048577) ∧ (0 ≤ b ∧ b ≤ 2016)) := ⟨⟨by omega, x2⟩, ⟨x3, x4⟩⟩
    clear HR HRP HE HAB HOK HEB x1 x2 x3 x4
    have h8 := Go.Joins.cell_of_block HX3.out
    have y0 := h8 0; have y1 := h8 1
    simp only [List.getElem?_toArray, List.getElem?_cons_succ, List.getElem?_cons_zero] at y0 y1
    have hl8 := lt_of_some HX3.out
    have C4 := Lib.hid (presentIn_any a b none 0 [] (by simp) w3 (RX.nil_ _ _ _ _))
    simp only [List.length_nil] at C4
    clear h8
    go_wp2_with fail
    refine C4.out.mono ?_
    rintro e w4 ⟨A4, c4, ts, rfl, ⟨hlen, -, -, ho⟩, hb⟩
    obtain rfl : ts = [] := List.eq_nil_of_length_eq_zero (by simpa using hlen)
    have HB4 := Lib.hid (HB3.out.trans (hb.mono HB3.out.size))
    have HO4 : Hid (OW w.heap.size w4 A4 c4 []) := OW.of_own (ownsRow_base ho HB3.out.size)
    clear hlen ho hb C4 y0 y1 hl8
    simp only [List.length_nil]
    go_wp2_with fail
    obtain ⟨W5, HW5⟩ : ∃ W5, Hid (W5 = w4.alloc (.cells #[.int .i64 a, .int .i64 b, .slice A4 0 c4] 81)) := ⟨_, rfl⟩
    obtain ⟨P, HP⟩ : ∃ P, Hid (P = w4.heap.size) := ⟨_, rfl⟩
    have HS0 : Hid (SlI w P A4 c4 a b [] none 0 [] W5) := by
      show SlI _ _ _ _ _ _ _ _ _ _ _
      rw [HW5.out]
      exact ⟨⟨by rw [HP.out]; exact heap_alloc_new _ _, HO4.out.go (below_new _ _), by rw [HP.out]; exact HB4.out.size⟩, World.ownsRow_nil _ _ _ _, HB4.out.alloc HB4.out.size _, List.Pairwise.nil, List.Pairwise.nil, fun x hx => by cases hx⟩
    rw [← HW5.out, ← HP.out]
    clear HW5 HP HB4 HO4 HB3 HX3 HW3
    go_loopw [11, 34] (fun s i wr => ∃ (A1 A5 : Option Addr) (c1 c5 j : Nat) (L : List Ls.Lk) (out : List Ev), s = .slice A5 out.length c5 ∧ i = .int .i64 j ∧ j ≤ N ∧ Hid (SlI w P A1 c1 a b L A5 c5 out wr) ∧ Hid (out ++ Ls.slideA a b L (l.drop j) = R) ∧ Hid (out.length + L.length ≤ 2 * j)) (fun _ i _ => N - (RowKit.intOf i).toNat)
    case atStart => exact ⟨A4, none, c4, 0, 0, [], [], rfl, rfl, Nat.zero_le _, HS0.out, HRT.out, by show _ ≤ _; simp⟩
    case round =>
      obtain ⟨A1, A5, c1, c5, j, L, out, rfl, rfl, hj, HS, HT, HLL⟩ := hrel
      clear HS0 HRT
      by_cases hlt : j < N
      · obtain ⟨bb, off, ⟨k1, t1, u1, v1, x1, y1, z1⟩, rfl, hb, ha, c0', c1', c2', c3', c4', c5', c6'⟩ := RV.at_ (k := j) (H.out.up HS.out.bel) (by rw [HN.out]; exact hlt)
        have HEV : Hid (l.drop j = ⟨k1, t1, u1, v1, x1, y1, z1⟩ :: l.drop (j + 1)) := drop_at2 l j _ ha
        have HGE : Hid (Ls.Good n ⟨k1, t1, u1, v1, x1, y1, z1⟩) := (HOE.out.1 _ (List.mem_of_getElem? ha)).1
        have HTE : Hid (0 ≤ t1 ∧ t1 ≤ 1048576) := by have := Ls.good_kind HGE.out; exact ⟨this.2.1, this.2.2.1⟩
        dsimp only at c0' c1' c2' c3' c4' c5' c6'
        clear ha
        obtain ⟨G, HG⟩ : ∃ G, Hid (G = wr.heap.size) := ⟨_, rfl⟩
        obtain ⟨W6, HW6⟩ : ∃ W6, Hid (W6 = wr.alloc (.cells #[.int .i64 k1, .int .i64 t1, .int .i64 u1, .int .i64 v1, .int .i64 x1, .int .i64 y1, .int .i64 z1] 57)) := ⟨_, rfl⟩
        have HS6 : Hid (SlI w P A1 c1 a b L A5 c5 out W6) := by show SlI _ _ _ _ _ _ _ _ _ _ _; rw [HW6.out]; exact HS.out.go (below_new _ _)
        have HE6 : Hid (EB G ⟨k1, t1, u1, v1, x1, y1, z1⟩ (.slice A5 out.length c5) W6) := by
          show EB _ _ _ _
          rw [HW6.out, HG.out]
          exact ⟨heap_alloc_new _ _, fun e => by have := (HS.out.own.lt _ e).2; omega⟩
        have CU := Lib.hid (until_any w.heap.size P A1 c1 a b L HXB.out.1 HS6.out.tm (by have := HLL.out; omega) W6 HS6.out.pb)
        obtain ⟨nx, HNX⟩ : ∃ nx, Hid (optT (Ls.untilA a L) = nx) := ⟨_, rfl⟩
        obtain ⟨ok, HOKK⟩ : ∃ ok, Hid ((Ls.untilA a L).isSome = ok) := ⟨_, rfl⟩
        rw [optV_eq, HNX.out, HOKK.out] at CU
        rw [HW6.out] at CU
        go_wp2_with fail
        refine CU.out.mono ?_
        rintro e w7 ⟨rfl, hb7⟩
        rw [← HW6.out] at hb7
        have HS7 := Lib.hid (HS6.out.go hb7)
        have HE7 := Lib.hid (HE6.out.go hb7)
        obtain ⟨D, HD⟩ : ∃ D, Hid (Ls.drainN a b t1 L.length L = D) := ⟨_, rfl⟩
        have HLD : Hid (D.1.length + D.2.length ≤ L.length) := by show _ ≤ _; rw [← HD.out]; exact Ls.drain_len _ _ _ _ _
        have HT2 : Hid ((out ++ D.1 ++ ⟨k1, t1, u1, v1, x1, y1, z1⟩ :: Ls.cutsX a b t1 (Ls.stepA D.2 ⟨k1, t1, u1, v1, x1, y1, z1⟩)) ++ Ls.slideA a b (Ls.restX a b t1 (Ls.stepA D.2 ⟨k1, t1, u1, v1, x1, y1, z1⟩)) (l.drop (j + 1)) = R) := by
          show _ = _
          rw [← HT.out, HEV.out, ← HD.out]
          simp [Ls.slideA]
        have HQ0 : Hid (out ++ (Ls.drainN a b t1 L.length L).1 = out ++ D.1 ∧ (Ls.drainN a b t1 L.length L).2 = D.2) := by rw [HD.out]; exact ⟨rfl, rfl⟩
        rw [← HG.out]
        clear c0' c1' c2' c3' c4' c5' c6' hb hb7 CU HW6 HS6 HE6 HS HT HEV HD
        go_wp2_with fail
        go_loopw [11, 14, 15] (fun s nx ok wr => ∃ (A2 A6 : Option Addr) (c2 c6 : Nat) (L2 : List Ls.Lk) (out2 : List Ev), s = .slice A6 out2.length c6 ∧ nx = .int .i64 (optT (Ls.untilA a L2)) ∧ ok = .bool (Ls.untilA a L2).isSome ∧ Hid (SlI w P A2 c2 a b L2 A6 c6 out2 wr) ∧ Hid (EB G ⟨k1, t1, u1, v1, x1, y1, z1⟩ (.slice A6 out2.length c6) wr) ∧ Hid (out2 ++ (Ls.drainN a b t1 L2.length L2).1 = out ++ D.1 ∧ (Ls.drainN a b t1 L2.length L2).2 = D.2) ∧ Hid (out2.length + L2.length ≤ 2 * j)) (fun _ _ _ wr => lenC P wr)
        case atStart => exact ⟨A1, A5, c1, c5, L, out, rfl, by rw [HNX.out], by rw [HOKK.out], HS7.out, HE7.out, HQ0.out, HLL.out⟩
        case round =>
          obtain ⟨A2, A6, c2, c6, L2, out2, rfl, rfl, rfl, HS8, HE8, HQ, HL2⟩ := hrel
          clear HS7 HE7 HQ0 HLL
          obtain ⟨g0, g1, g2, g3, g4, g5, g6⟩ := HE8.out.cs
          dsimp only at g0 g1 g2 g3 g4 g5 g6
          have hgl := lt_of_some HE8.out.blk
          by_cases hgo : ∃ s, Ls.untilA a L2 = some s ∧ s ≤ t1
          · obtain ⟨s, hu, hs⟩ := hgo
            have hds : decide (s ≤ t1) = true := by simpa using hs
            have HSB : Hid (0 ≤ s ∧ s ≤ 4194304) := by
              obtain ⟨x, hx, he, -⟩ := Ls.until_some a s L2 hu
              have := HS8.out.tm x hx
              have := HXB.out
              show _ ∧ _
              omega
            have HDS := Lib.hid (Ls.drain_step a b t1 s L2 hu hs)
            have HLT := Lib.hid (Ls.rest_lt a b s L2 hu)
            have HCL := Lib.hid (Ls.cuts_len a b s L2)
            simp only [hu, optT, Option.isSome]
            have CE := Lib.hid (expire_any w.heap.size P A2 c2 a b L2 s HSB.out HXB.out.1 HXB.out.2 HS8.out.aged HS8.out.dist (by have := HL2.out; omega) _ HS8.out.pb)
            clear hu hs
            go_wp2_with fail
            refine CE.out.mono ?_
            rintro e w9 ⟨A3, A7, c3, c7, rfl, hpb, hown, hgr, hfr⟩
            have HS9 := Lib.hid (HS8.out.exp hpb hgr)
            have HE9 := Lib.hid (HE8.out.gr hgr HS8.out.pb.blk (by decide))
            have HV9 := Lib.hid (RX.of_own hown)
            obtain ⟨cu, HCU⟩ : ∃ cu, Hid (Ls.cutsX a b s L2 = cu) := ⟨_, rfl⟩
            rw [HCU.out] at HV9 HCL HDS ⊢
            obtain ⟨nc, HNC⟩ : ∃ nc, Hid (cu.length = nc) := ⟨_, rfl⟩
            have HLN : Hid (out2.length + nc ≤ 60000) := by show _ ≤ _; have := HL2.out; have := HCL.out; rw [HNC.out] at this; omega
            rw [HNC.out]
            clear hpb hown hgr hfr CE g0 g1 g2 g3 g4 g5 g6
            go_wp2_with (at_builtin; (refine wpList_applF _ rfl (.tmp 53) (.tmp 55) w.heap.size A6 c6 rfl out2 (by simp [Act.eval]) HS9.out.own A7 c7 nc cu HNC.out (by simp [Act.eval]) HV9.out (by have := HLN.out; omega) HS9.out.bel.size ?_; intro A8 c8 w10 HO10 HG10 HF10))
            have HS10 := Lib.hid (HS9.out.app HG10.out HO10.out)
            have HE10 := Lib.hid (HE9.out.app HG10.out HF10.out)
            obtain ⟨L3, HL3⟩ : ∃ L3, Hid (Ls.restX a b s L2 = L3) := ⟨_, rfl⟩
            rw [HL3.out] at HS10 HLT HCL HDS
            have CU := Lib.hid (until_any w.heap.size P A3 c3 a b L3 HXB.out.1 HS10.out.tm (by have := HLT.out; have := HL2.out; omega) _ HS10.out.pb)
            obtain ⟨nx3, HNX3⟩ : ∃ nx, Hid (optT (Ls.untilA a L3) = nx) := ⟨_, rfl⟩
            obtain ⟨ok3, HOK3⟩ : ∃ ok, Hid ((Ls.untilA a L3).isSome = ok) := ⟨_, rfl⟩
            rw [optV_eq, HNX3.out, HOK3.out] at CU
            clear HO10 HG10 HF10 HS9 HE9 HV9
            go_wp2_with fail
            refine CU.out.mono ?_
            rintro e w11 ⟨rfl, hb⟩
            have HS11 := Lib.hid (HS10.out.go hb)
            have HE11 := Lib.hid (HE10.out.go hb)
            have HQ2 : Hid ((out2 ++ cu) ++ (Ls.drainN a b t1 L3.length L3).1 = out ++ D.1 ∧ (Ls.drainN a b t1 L3.length L3).2 = D.2) := by
              have := HQ.out
              rw [HDS.out] at this
              rw [List.append_assoc]
              exact this
            have HLE : Hid ((out2 ++ cu).length + L3.length ≤ 2 * j) := by show _ ≤ _; rw [List.length_append]; have := HCL.out; have := HL2.out; omega
            have HME : Hid (lenC P w11 < lenC P wr) := by show _ < _; rw [HS11.out.pb.lenC, HS8.out.pb.lenC]; exact HLT.out
            clear hb CU
            go_wp2
            go_roundw
            case rel => exact ⟨A3, A8, c3, c8, L3, out2 ++ cu, by rw [List.length_append], congrArg (Value.int .i64) HNX3.out.symm, congrArg Value.bool HOK3.out.symm, HS11.out, HE11.out, HQ2.out, HLE.out⟩
            case measure => exact HME.out
          · have HST : Hid (∀ s, Ls.untilA a L2 = some s → t1 < s) := fun s hs => by
              by_cases h1 : t1 < s
              · exact h1
              · exact absurd ⟨s, hs, by omega⟩ hgo
            have HDD := Lib.hid (Ls.drain_stop a b t1 L2 HST.out)
            have hq1 : out2 = out ++ D.1 := by have := HQ.out.1; rw [HDD.out] at this; simpa using this
            have hq2 : L2 = D.2 := by have := HQ.out.2; rw [HDD.out] at this; exact this
            rw [← hq1, ← hq2] at HT2
            clear hq1 hq2 HQ HDD hgo HLD
            have CA := Lib.hid (apply_any w.heap.size P A2 c2 a b L2 k1 t1 u1 v1 x1 y1 z1 wr HS8.out.pb HS8.out.aged (by have := HL2.out; omega) HS8.out.bel.size)
            obtain ⟨nx4, HNX4⟩ : ∃ nx, Hid (optT (Ls.untilA a L2) = nx) := ⟨_, rfl⟩
            have HGO : Hid (∃ ok4 : Bool, (Ls.untilA a L2).isSome = ok4 ∧ (ok4 = false ∨ (ok4 = true ∧ decide (nx4 ≤ t1) = false))) := by
              cases hu : Ls.untilA a L2 with
              | none => exact ⟨false, rfl, .inl rfl⟩
              | some s =>
                refine ⟨true, rfl, .inr ⟨rfl, ?_⟩⟩
                have h1 := HST.out s hu
                have h2 : nx4 = s := by rw [← HNX4.out, hu]; rfl
                rw [decide_eq_false_iff_not, h2]; omega
            obtain ⟨ok4, HOK4, hgo4⟩ := HGO.out
            rw [HNX4.out, HOK4]
            clear HOK4 HNX4 HGO HST
            rcases hgo4 with rfl | ⟨rfl, hdd⟩
            all_goals
              go_wp2_with fail
              refine CA.out.mono ?_
              rintro e w9 ⟨rfl, A3, c3, hpb, hT, hfr⟩
              have HS9 := Lib.hid (HS8.out.step hpb hT HTE.out)
              have HE9 := Lib.hid (HE8.out.tw hT HS8.out.pb.blk (by decide) (fun i hi => HS8.out.pb.own.blk hi))
              have HL9 : Hid (out2.length + (Ls.stepA L2 ⟨k1, t1, u1, v1, x1, y1, z1⟩).length ≤ 2 * j + 1) := by
                show _ ≤ _
                have := Ls.step_len L2 ⟨k1, t1, u1, v1, x1, y1, z1⟩
                have := HL2.out
                omega
              obtain ⟨L3, HL3⟩ : ∃ L3, Hid (Ls.stepA L2 ⟨k1, t1, u1, v1, x1, y1, z1⟩ = L3) := ⟨_, rfl⟩
              rw [HL3.out] at HS9 HL9 HT2
              have HE9a := Lib.hid (HE9.out.go (below_new w9 (.cells #[.int .i64 k1, .int .i64 t1, .int .i64 u1, .int .i64 v1, .int .i64 x1, .int .i64 y1, .int .i64 z1] 57)))
              have HS9a := Lib.hid (HS9.out.go (below_new w9 (.cells #[.int .i64 k1, .int .i64 t1, .int .i64 u1, .int .i64 v1, .int .i64 x1, .int .i64 y1, .int .i64 z1] 57)))
              have HVN := Lib.hid (RV_new1 w9 ⟨k1, t1, u1, v1, x1, y1, z1⟩)
              clear g0 g1 g2 g3 g4 g5 g6 hgl CA hpb hT hfr HS8 HE8
              obtain ⟨g0, g1, g2, g3, g4, g5, g6⟩ := HE9.out.cs
              dsimp only at g0 g1 g2 g3 g4 g5 g6
              have hgl := lt_of_some HE9.out.blk
              go_wp2_with (
                at_builtin
                refine wpList_applF _ rfl (.tmp 59) (.tmp 61) w.heap.size A6 c6 rfl out2 (by simp [Act.eval]) HS9a.out.own (some ⟨w9.heap.size, 0, none⟩) 1 1 [(⟨k1, t1, u1, v1, x1, y1, z1⟩ : Ev)] rfl (by simp [Act.eval]) HVN.out (by have := HL9.out; omega) HS9a.out.bel.size ?_
                intro A8 c8 w10 HO10 HG10 HF10
                have HS10 := Lib.hid (HS9a.out.app HG10.out HO10.out)
                have HE10 := Lib.hid (HE9a.out.app HG10.out HF10.out)
                have HLA : Hid ((out2 ++ [(⟨k1, t1, u1, v1, x1, y1, z1⟩ : Ev)]).length + L3.length ≤ 2 * (j + 1)) := by show _ ≤ _; have := HL9.out; rw [List.length_append]; simp; omega
                obtain ⟨out3, HO3⟩ : ∃ o, Hid (out2 ++ [(⟨k1, t1, u1, v1, x1, y1, z1⟩ : Ev)] = o) := ⟨_, rfl⟩
                have HT3 : Hid ((out3 ++ Ls.cutsX a b t1 L3) ++ Ls.slideA a b (Ls.restX a b t1 L3) (l.drop (j + 1)) = R) := by
                  show _ = _
                  rw [← HT2.out, ← HO3.out]
                  simp
                clear HT2 HS9a HE9a HS9 HE9 HO10 HG10 HF10 g0 g1 g2 g3 g4 g5 g6 hgl
                rw [HO3.out] at HS10 HE10 HLA ⊢
                clear HO3
                obtain ⟨g0, g1, g2, g3, g4, g5, g6⟩ := HE10.out.cs
                dsimp only at g0 g1 g2 g3 g4 g5 g6
                have hgl := lt_of_some HE10.out.blk)
              have CE := Lib.hid (expire_any w.heap.size P A3 c3 a b L3 t1 (by have := HTE.out; omega) HXB.out.1 HXB.out.2 HS10.out.aged HS10.out.dist (by have := HLA.out; omega) _ HS10.out.pb)
              refine CE.out.mono ?_
              rintro e w11 ⟨A4', A7, c4', c7, rfl, hpb, hown, hgr, hfr⟩
              have HS11 := Lib.hid (HS10.out.exp hpb hgr)
              have HV11 := Lib.hid (RX.of_own hown)
              have HCL := Lib.hid (Ls.cuts_len a b t1 L3)
              obtain ⟨cu, HCU⟩ : ∃ cu, Hid (Ls.cutsX a b t1 L3 = cu) := ⟨_, rfl⟩
              obtain ⟨L4, HL4⟩ : ∃ L4, Hid (Ls.restX a b t1 L3 = L4) := ⟨_, rfl⟩
              rw [HCU.out] at HV11 HCL HT3 ⊢
              rw [HL4.out] at HS11 HCL HT3
              obtain ⟨nc, HNC⟩ : ∃ nc, Hid (cu.length = nc) := ⟨_, rfl⟩
              have HLE : Hid ((out3 ++ cu).length + L4.length ≤ 2 * (j + 1)) := by show _ ≤ _; rw [List.length_append]; have := HCL.out; have := HLA.out; omega
              rw [HNC.out]
              have HLN : Hid (out3.length + nc ≤ 100000) := by show _ ≤ _; rw [← HNC.out]; have := HLE.out; rw [List.length_append] at this; omega
              clear hpb hown hgr hfr CE g0 g1 g2 g3 g4 g5 g6 hgl
              go_wp2_with (at_builtin; (refine wpList_applF _ rfl (.tmp 63) (.tmp 66) w.heap.size A8 c8 rfl out3 (by simp [Act.eval]) HS11.out.own A7 c7 nc cu HNC.out (by simp [Act.eval]) HV11.out (by have := HLN.out; omega) HS11.out.bel.size ?_; intro A9 c9 w12 HO12 HG12 _))
              have HS12 := Lib.hid (HS11.out.app HG12.out HO12.out)
              clear HO12 HG12
              go_wp2
              go_roundw
              case rel => exact ⟨A4', A9, c4', c9, j + 1, L4, out3 ++ cu, by rw [List.length_append], by go_num, by omega, HS12.out, HT3.out, HLE.out⟩
              case measure => simp [RowKit.intOf]; omega
      · obtain rfl : j = N := by omega
        have hout : out = R := by have := HT.out; rw [List.drop_eq_nil_of_le (by rw [HN.out]; exact Nat.le_refl _)] at this; simpa [Ls.slideA] using this
        subst hout
        have HR6 : Hid (wr.ownsRow w.heap.size 57 7 (.slice A5 out.length c5) out.length (cl Ev.cells out)) := HS.out.own
        go_wp2
        go_ret2
        exact ⟨A5, c5, rfl, HR6.out, HS.out.bel⟩
  · have dE : (E != 0) = true := by simpa using hE
    have HR2 := Lib.hid (HR.out.symm.trans (if_neg hE))
    have hR0 := HR2.out
    subst hR0
    clear hE
    go_wp2
    go_ret2
    exact ⟨none, 0, rfl, World.ownsRow_nil _ _ _ _, HB3.out⟩
end Go.Proofs.YtfapfkaipdcflaaGreat
