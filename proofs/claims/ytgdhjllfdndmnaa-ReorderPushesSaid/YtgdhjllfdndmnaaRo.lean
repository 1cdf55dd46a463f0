/-
  ReorderSorts: the walk of the law.
-/
import Derived.Test.YtgdhjllfdndmnaaRn
namespace Go.Proofs.Ytgdhjllfdndmnaa
open Go.RowKit Go.Lib

abbrev ob (A : Option Addr) (n c : Nat) : Option Nat := (Value.slice A n c).ownBlock
abbrev OE (B : Nat) (w : World) (A : Option Addr) (c : Nat) (l : List Ev) : Prop := w.ownsRow B 26 7 (.slice A l.length c) l.length (cl Ev.cells l)
/-- the memory of a law that pushes events into a buffer: the buffer's box, what waits, what was released, what was taken -/
structure TT (B K : Nat) (w2 : World) (vb : Array Value) (q : List Ev) (A1 : Option Addr) (c1 : Nat) (out : List Ev) (Ao : Option Addr) (co : Nat) (tk : List Ev) (At : Option Addr) (ct : Nat) (w : World) : Prop where
  box : w.heap[K]? = some (.cells vb 24 (0, 0))
  wt : OW B w A1 c1 q
  oo : OE B w Ao co out
  ot : OE B w At ct tk
  d1 : ∀ k, ob Ao out.length co = some k → ob At tk.length ct ≠ some k
  d2 : ∀ k, bk A1 c1 = some k → ob Ao out.length co ≠ some k ∧ ob At tk.length ct ≠ some k
  bel : Below B w2 w
  hK : B ≤ K
section
variable {B K : Nat} {w2 w w' : World} {vb : Array Value} {q q' out tk : List Ev} {A1 A2 Ao At A3 : Option Addr} {c1 c2 co ct c3 : Nat}
theorem TT.lK (h : TT B K w2 vb q A1 c1 out Ao co tk At ct w) : K < w.heap.size := lt_of_some h.box
theorem TT.lB (h : TT B K w2 vb q A1 c1 out Ao co tk At ct w) : B ≤ w.heap.size := by have := h.lK; have := h.hK; omega
theorem TT.go (h : TT B K w2 vb q A1 c1 out Ao co tk At ct w) (hb : Below w.heap.size w w') : TT B K w2 vb q A1 c1 out Ao co tk At ct w' :=
  ⟨(hb.block K h.lK).trans h.box, h.wt.go hb, own_up h.oo hb, own_up h.ot hb, h.d1, h.d2, h.bel.trans (hb.mono h.lB), h.hK⟩
theorem TT.push (h : TT B K w2 vb q A1 c1 out Ao co tk At ct w) (hb : Below w.heap.size w w') (ho : OW w.heap.size w' A2 c2 q') : TT B K w2 vb q' A2 c2 out Ao co tk At ct w' := by
  have h' := h.go hb
  refine ⟨h'.box, ho.lo h.lB, h'.oo, h'.ot, h.d1, fun k hk => ⟨fun e => ?_, fun e => ?_⟩, h'.bel, h.hK⟩
  · have := (h.oo.lt k e).2; have := (ho.lt k hk).1; omega
  · have := (h.ot.lt k e).2; have := (ho.lt k hk).1; omega
theorem own_kept' {n : Nat} {A : Option Addr} {c : Nat} {l : List Ev} {r : Option Nat} (h : OE n w A c l) (hg : w.grownBy w' r) (hr : ∀ k, ob A l.length c = some k → r ≠ some k) : OE n w' A c l := by
  refine ⟨h.1, ?_⟩
  rcases h.2 with h0 | ⟨g, cap, cur, hv, hb, hg', hn, hm, hs, hx⟩
  · exact .inl h0
  · have e : (Value.slice A l.length c).ownBlock = some g := by rw [hv]; rfl
    exact .inr ⟨g, cap, cur, hv, hb, (hg.block g (lt_of_some hg') (fun e2 => hr g e e2.symm)).trans hg', hn, hm, hs, hx⟩
theorem TT.taken {tk' : List Ev} (h : TT B K w2 vb q A1 c1 out Ao co tk At ct w) (ho : OE B w' A3 c3 tk') (hg : w.grownBy w' (ob At tk.length ct)) (hf : Fr w.heap.size (ob At tk.length ct) (ob A3 tk'.length c3)) : TT B K w2 vb q A1 c1 out Ao co tk' A3 c3 w' := by
  refine ⟨(hg.block K h.lK (fun e => own_ne' h.ot h.box (by decide) e.symm)).trans h.box, h.wt.kept hg (fun k hk => (h.d2 k hk).2), own_kept' h.oo hg h.d1, ho, fun k hk e => ?_, fun k hk => ⟨(h.d2 k hk).1, fun e => ?_⟩, h.bel.grown hg h.lB (fun k hk => (h.ot.lt k hk).1), h.hK⟩
  · rcases hf k e with h1 | h1
    · exact h.d1 k hk h1
    · have := (h.oo.lt k hk).2; omega
  · rcases hf k e with h1 | h1
    · exact (h.d2 k hk).2 h1
    · have := (h.wt.lt k hk).2; omega
theorem TT.outs {out' : List Ev} (h : TT B K w2 vb q A1 c1 out Ao co tk At ct w) (ho : OE B w' A3 c3 out') (hg : w.grownBy w' (ob Ao out.length co)) (hf : Fr w.heap.size (ob Ao out.length co) (ob A3 out'.length c3)) : TT B K w2 vb q A1 c1 out' A3 c3 tk At ct w' := by
  refine ⟨(hg.block K h.lK (fun e => own_ne' h.oo h.box (by decide) e.symm)).trans h.box, h.wt.kept hg (fun k hk => (h.d2 k hk).1), ho, own_kept' h.ot hg (fun k hk e => h.d1 k e hk), fun k hk e => ?_, fun k hk => ⟨fun e => ?_, (h.d2 k hk).2⟩, h.bel.grown hg h.lB (fun k hk => (h.oo.lt k hk).1), h.hK⟩
  · rcases hf k hk with h1 | h1
    · exact h.d1 k h1 e
    · have := (h.ot.lt k e).2; omega
  · rcases hf k e with h1 | h1
    · exact (h.d2 k hk).1 h1
    · have := (h.wt.lt k hk).2; omega
theorem TT.store {a0 a1 a2 a3 : Value} (h : TT B K w2 #[a0, a1, a2, a3] q A1 c1 out Ao co tk At ct w) (v0 v1 v2 v3 : Value) :
    TT B K w2 #[v0, v1, v2, v3] q A1 c1 out Ao co tk At ct ((((w.setCell ⟨K, 0, none⟩ v0).setCell ⟨K, 1, none⟩ v1).setCell ⟨K, 2, none⟩ v2).setCell ⟨K, 3, none⟩ v3) := by
  have hT : Tw K none w ((((w.setCell ⟨K, 0, none⟩ v0).setCell ⟨K, 1, none⟩ v1).setCell ⟨K, 2, none⟩ v2).setCell ⟨K, 3, none⟩ v3) := Tw.trans (Tw.trans (Tw.trans Tw.set Tw.set (Fr.refl _ _)) Tw.set (Fr.refl _ _)) Tw.set (Fr.refl _ _)
  exact ⟨set4_blk h.box _ _ _ _, ow_box h.box _ _ _ _ h.wt, own_kept' h.oo hT.grownP (fun k hk e => own_ne' h.oo h.box (by decide) (by rw [e]; exact hk)), own_kept' h.ot hT.grownP (fun k hk e => own_ne' h.ot h.box (by decide) (by rw [e]; exact hk)), h.d1, h.d2, below_set4 h.bel h.hK _ _ _ _, h.hK⟩
theorem TT.cells {a0 a1 a2 a3 : Value} (h : TT B K w2 #[a0, a1, a2, a3] q A1 c1 out Ao co tk At ct w) : w.cell? ⟨K, 0, none⟩ = some a0 ∧ w.cell? ⟨K, 1, none⟩ = some a1 ∧ w.cell? ⟨K, 2, none⟩ = some a2 ∧ w.cell? ⟨K, 3, none⟩ = some a3 :=
  ⟨Go.Joins.cell_of_block h.box 0, Go.Joins.cell_of_block h.box 1, Go.Joins.cell_of_block h.box 2, Go.Joins.cell_of_block h.box 3⟩
theorem TT.fz (h : TT B K w2 vb q A1 c1 out Ao co tk At ct w) (i : Nat) : w.frozen? ⟨K, i, none⟩ = false := Go.Joins.unfrozen_of_block h.box i
end
/-- what is known while what was released is appended: k: it has been done -/
structure JO (N s B n : Nat) (Ao : Option Addr) (co : Nat) (out r : List Ev) (A3 : Option Addr) (c3 : Nat) (k : Bool) (a : Act) (w : World) : Prop where
  sz : a.tmps.size = N
  own : k = false → OE B w Ao co out ∧ RV w.heap.size w A3 c3 r ∧ B ≤ w.heap.size ∧ n ≤ w.heap.size
  new : k = true → ∃ A' c', a.eval (.tmp s) = .slice A' (out ++ r).length c' ∧ OE B w A' c' (out ++ r) ∧ Fr n (ob Ao out.length co) (ob A' (out ++ r).length c')
section
variable {N s B n : Nat} {Ao A3 : Option Addr} {co c3 : Nat} {out r : List Ev} {k : Bool} {a : Act} {w w' : World}
theorem JO.put {d : Nat} {v : Value} (h : JO N s B n Ao co out r A3 c3 k a w) (hd : d ≠ s) : JO N s B n Ao co out r A3 c3 k (a.put (some d) v) w :=
  ⟨by rw [size_put]; exact h.sz, h.own, fun hk => by rw [eval_put_other hd]; exact h.new hk⟩
theorem JO.done {A' : Option Addr} {c' : Nat} (h : JO N s B n Ao co out r A3 c3 k a w) (hs : s < N) (ho : OE B w' A' c' (out ++ r)) (hf : Fr n (ob Ao out.length co) (ob A' (out ++ r).length c')) : JO N s B n Ao co out r A3 c3 true (a.put (some s) (.slice A' (out ++ r).length c')) w' :=
  ⟨by rw [size_put]; exact h.sz, fun hk => absurd hk (by decide), fun _ => ⟨A', c', eval_put_same (by rw [h.sz]; exact hs), ho, hf⟩⟩
end
theorem run_applF {o : Oper} {a : Act} {Kp : Act → World → Prop} {Q : Exit → Act → World → Prop} (W : World) (s x : Operand)
    (base : Nat) (A2 : Option Addr) (c2 : Nat) (ho : o.op = .call { callee := .builtin .append, args := #[s, x], argTypes := #[22, 22] }) (ks : List Ev)
    (hs : a.eval s = .slice A2 ks.length c2) (hown : OE base W A2 c2 ks) (A' : Option Addr) (c' m : Nat) (news : List Ev) (hm : news.length = m)
    (hx : a.eval x = .slice A' m c') (hr : RV W.heap.size W A' c' news) (hk : ks.length + m ≤ 2000000000000) (hbase : base ≤ W.heap.size)
    (h : ∀ A3 c3 w', OE base w' A3 c3 (ks ++ news) → W.grownBy w' (ob A2 ks.length c2) → Fr W.heap.size (ob A2 ks.length c2) (ob A3 (ks ++ news).length c3) → Kp (a.put o.dst (.slice A3 (ks ++ news).length c3)) w') :
    o.wp Try.prog a W Kp Q := by
  subst hm
  obtain ⟨i0, hi0, hz0, hz1, hz2⟩ := info_parts infoV
  refine wp_append_any W s x _ ho base 26 i0 _ 7 56 Try.underlying22 hi0 hz0 hz1 hz2 rfl (by decide) (.slice A2 ks.length c2) ks.length (cl Ev.cells ks) hs hown
    _ A' news.length c' (cl Ev.cells news) hx hr.2 (cl_one encE news) (by simp only [maxLen]; omega) (by omega) hbase ?_
  intro v3 w3 hown3 hg3 hat3
  have ho3 : w3.ownsRow base 26 7 v3 (ks ++ news).length (cl Ev.cells (ks ++ news)) := by rw [cl_append, List.length_append]; exact hown3
  obtain ⟨A3, c3, rfl⟩ := own_formX ho3
  refine h A3 c3 w3 ho3 hg3 (fun k hk => ?_)
  rcases hat3 with h1 | h1
  · exact .inl (h1.symm.trans hk)
  · exact .inr (by have h2 := h1.symm.trans hk; injection h2 with h2; omega)
set_option maxHeartbeats 8000000 in
set_option maxRecDepth 100000 in
theorem sorts_law (A : Option Addr) (c : Nat) (L : List Int) (bound : Int) (W : World) (h : RD W A c L) (hL : L.length ≤ 17592186044416) :
    Calls Try.prog 4 #[.slice A L.length c, .int .i64 bound] W fun e W' => e = .returned (.bool true) ∧ Below W.heap.size W W' := by
  have CN := Lib.hid (new_any A c L W h)
  clear h
  go_enter Try.func4, Try.ntmps4
  go_wp2_with fail
  refine CN.out.mono ?_
  rintro e w1 ⟨rfl, D1, hb1⟩
  have HD1 := Lib.hid D1
  have HB1 := Lib.hid hb1
  clear D1 hb1 CN
  go_wp2_with fail
  refine (mixed_any W.heap.size W.heap.size A c L 0 6 20 w1 HD1.out hL (by decide) (by decide)).mono ?_
  rintro e w2 ⟨l, Al, cl', m2, rfl, hll, hlv, ho, hd, hg⟩
  have HB2 : Hid (Below W.heap.size W w2) := HB1.out.grown hg HB1.out.size (fun k hk => by injection hk with hk; omega)
  have HLV := Lib.hid hlv
  have HRL := Lib.hid (RX.of_own ho)
  clear hlv ho hd hg HD1
  go_wp2_with fail
  refine (mod_any bound 7 _ (by decide) (by decide)).mono ?_
  rintro e w3 ⟨rfl, h3⟩
  subst h3
  have hk : 0 ≤ (bound.tmod 7 + 7) % 7 ∧ (bound.tmod 7 + 7) % 7 < 7 := by omega
  generalize (bound.tmod 7 + 7) % 7 = k at hk ⊢
  have hok : okB k = true := by simp [okB]; omega
  have e1 : openB k = ⟨k, -1, -1, []⟩ := by rw [openB, if_pos hok]; rfl
  have e2 : openE k = 0 := by rw [openE, if_pos hok]
  go_wp2_with fail
  refine (open_any k _).mono ?_
  rintro e w3 ⟨rfl, hb3⟩
  rw [e1, e2]
  dsimp only
  clear e1 e2 hok
  obtain ⟨K, HK⟩ : ∃ K, Hid (w3.heap.size = K) := ⟨_, rfl⟩
  obtain ⟨W4, HW4⟩ : ∃ W4, Hid (w3.alloc (.cells #[.int .i64 k, .int .i64 (-1), .int .i64 (-1), .slice none 0 0] 24) = W4) := ⟨_, rfl⟩
  have HT0 : Hid (TT w2.heap.size K w2 #[.int .i64 k, .int .i64 (-1), .int .i64 (-1), .slice none 0 0] [] none 0 [] none 0 [] none 0 W4) := by
    refine ⟨by rw [← HW4.out, ← HK.out]; exact heap_alloc_new _ _, ⟨by simp, by unfold maxLen; omega, .inl rfl⟩, World.ownsRow_nil _ _ _ _, World.ownsRow_nil _ _ _ _, fun q hq => (by cases hq), fun q hq => (by cases hq), ?_, by rw [← HK.out]; exact hb3.size⟩
    rw [← HW4.out]
    exact hb3.trans ((below_new _ _).mono hb3.size)
  have HR0 := Lib.hid (Rd.run_start (k := k) (by omega) (by omega))
  have HKK := Lib.hid hk
  have HLL := Lib.hid hll
  clear hb3 hk
  go_wp2_with fail
  rw [HW4.out]
  simp only [HK.out]
  go_loopw [9, 10, 35] (fun so st i wr => ∃ (j : Nat) (b : Rd.Bf) (A1 : Option Addr) (c1 : Nat) (out : List Ev) (Ao : Option Addr) (co : Nat) (tk : List Ev) (At : Option Addr) (ct : Nat), so = .slice Ao out.length co ∧ st = .slice At tk.length ct ∧ i = .int .i64 j ∧ j ≤ l.length ∧
      Hid (TT w2.heap.size K w2 #[.int .i64 b.bound, .int .i64 b.latest, .int .i64 b.mark, .slice A1 b.wait.length c1] b.wait A1 c1 out Ao co tk At ct wr) ∧ Hid (Rd.Run k b out tk) ∧ Hid (tk.length ≤ j)) (fun _ _ i _ => l.length - (RowKit.intOf i).toNat)
  case atStart => exact ⟨0, Rd.opened k, none, 0, [], none, 0, [], none, 0, rfl, rfl, rfl, Nat.zero_le _, HT0.out, HR0.out, Nat.le_refl _⟩
  case round =>
    clear HT0 HR0 HW4 HK
    obtain ⟨j, ⟨n, Lt, M, wq⟩, A1, c1, out, Ao, co, tk, At, ct, rfl, rfl, rfl, hj, HT, HR, HTJ⟩ := hrel
    have hKl := HT.out.lK
    obtain ⟨a0, a1, a2, a3⟩ := HT.out.cells
    dsimp only at a0 a1 a2 a3
    have HRN := Lib.hid (Rd.run_len HR.out)
    have hwl : Hid (wq.length ≤ 20 ∧ out.length ≤ 20) := by have h9 : out.length + wq.length = _ := HRN.out; have := HTJ.out; have := HLL.out; show _ ∧ _; omega
    by_cases hlt : j < l.length
    · obtain ⟨bb, off, ⟨k1, t1, u1, v1, x1, y1, z1⟩, rfl, hbb, ha, d0, d1, d2, d3, d4, d5, d6⟩ := RV.at_ (HRL.out.go HT.out.bel) hlt
      dsimp only at d0 d1 d2 d3 d4 d5 d6
      have hbr : bb < wr.heap.size := Nat.lt_of_lt_of_le hbb HT.out.bel.size
      have HCE : Hid (chkE (⟨k1, t1, u1, v1, x1, y1, z1⟩ : Ev) = 0) := HLV.out _ (List.mem_of_getElem? ha)
      have hmk : Hid (t1 ≤ M ∨ ¬ t1 ≤ M) := Classical.em _
      have HTa := Lib.hid (HT.out.go (below_new wr (.cells #[.int .i64 k1, .int .i64 t1, .int .i64 u1, .int .i64 v1, .int .i64 x1, .int .i64 y1, .int .i64 z1] 26)))
      have CP := Lib.hid (pushB_any n Lt M A1 c1 wq k1 t1 u1 v1 x1 y1 z1 _ HTa.out.wt.rv (by have := hwl.out; omega))
      clear ha
      go_wp2_with fail
      refine CP.out.mono ?_
      rintro e wb ⟨b', r, A2, A3, c2, c3, rfl, hbr', ho2, hr3, hb⟩
      obtain ⟨e0, e1, e2, e3, e4, e5, e6⟩ := box7 hb
      have HTb := Lib.hid (HTa.out.push hb ho2)
      have HR3b := Lib.hid hr3
      have hsz : wr.heap.size < wb.heap.size := by have := hb.size; simp at this; omega
      have hszB : Hid (w2.heap.size ≤ wr.heap.size) := HT.out.bel.size
      have HTlt : Hid (∀ q, ob At tk.length ct = some q → q < (wr.alloc (.cells #[.int .i64 k1, .int .i64 t1, .int .i64 u1, .int .i64 v1, .int .i64 x1, .int .i64 y1, .int .i64 z1] 26)).heap.size) := fun q hq => (HTa.out.ot.lt q hq).2
      clear hb ho2 hr3 CP d0 d1 d2 d3 d4 d5 d6 a0 a1 a2 a3 hKl
      obtain ⟨a0, a1, a2, a3⟩ := HTb.out.cells
      have hKb := HTb.out.lK
      have HBR := Lib.hid hbr'
      obtain ⟨nb, HNB⟩ : ∃ nb, Hid (b'.bound = nb) := ⟨_, rfl⟩
      obtain ⟨nl, HNL⟩ : ∃ nl, Hid (b'.latest = nl) := ⟨_, rfl⟩
      obtain ⟨nm, HNM⟩ : ∃ nm, Hid (b'.mark = nm) := ⟨_, rfl⟩
      obtain ⟨nw, HNW⟩ : ∃ nw, Hid (b'.wait.length = nw) := ⟨_, rfl⟩
      obtain ⟨nr, HNR⟩ : ∃ nr, Hid (r.length = nr) := ⟨_, rfl⟩
      rw [HNB.out, HNL.out, HNM.out, HNW.out, HNR.out]
      obtain ⟨K3, HK3n⟩ : ∃ K3, Hid (wb.heap.size = K3) := ⟨_, rfl⟩
      obtain ⟨wc, HWC⟩ : ∃ wc, Hid (wb.alloc (.cells #[.int .i64 nb, .int .i64 nl, .int .i64 nm, .slice A2 nw c2] 24) = wc) := ⟨_, rfl⟩
      have HBC : Hid (Below wb.heap.size wb wc) := by show Below _ _ _; rw [← HWC.out]; exact below_new _ _
      have HK3c : Hid (wc.heap[K3]? = some (.cells #[.int .i64 nb, .int .i64 nl, .int .i64 nm, .slice A2 nw c2] 24 (0, 0))) := by show _ = _; rw [← HWC.out, ← HK3n.out]; exact heap_alloc_new _ _
      have HTc := Lib.hid (HTb.out.go HBC.out)
      have HRc := Lib.hid (HR3b.out.go HBC.out)
      clear hbr'
      rcases hmk.out with hm | hm
      · have hpe := Rd.pushE_late HR.out.v HCE.out (by dsimp only; omega)
        have dm : decide (t1 ≤ M) = true := by rw [decide_eq_true_eq]; omega
        have hbe : (b', r) = ((⟨n, Lt, M, wq⟩ : Rd.Bf), ([] : List Ev)) := by rw [HBR.out, hpe, if_neg (by decide)]
        rw [hpe]
        injection hbe with hb1 hb2
        have HRn : Hid (Rd.Run k b' (out ++ r) tk) := by show Rd.Run _ _ _ _; rw [hb1, hb2, List.append_nil]; exact HR.out
        have HSZ : Hid (out.length + r.length ≤ 1000000) := by have := hwl.out; show _ ≤ _; rw [hb2]; simp; omega
        clear hb1 hb2 hpe hm
        have HTd := HTc
        have HR3 := Lib.hid HRc.out.1
        have HK3 := HK3c
        have HK3l : Hid (K3 < wc.heap.size) := lt_of_some HK3.out
        go_wp2_with fail
        rw [HWC.out]
        simp only [HK3n.out]
        obtain ⟨wd, HWD⟩ : ∃ wd, wc = wd := ⟨_, rfl⟩
        rw [HWD] at HTd HR3 HK3 HK3l ⊢
        clear HWD
        obtain ⟨no, HNO⟩ : ∃ no, Hid (out.length = no) := ⟨_, rfl⟩
        have HJ0 : Hid (∀ a : Act, a.tmps.size = 119 → JO 119 71 w2.heap.size wd.heap.size Ao co out r A3 c3 false a (wd.drewN 1)) := fun a ha => ⟨ha, fun _ => ⟨own_up HTd.out.oo (below_drewN wd 1), HR3.out.up (below_drewN wd 1), HTd.out.lB, Nat.le_refl _⟩, fun h => absurd h (by decide)⟩
        have HK3R : Hid (some K3 ≠ ob Ao no co) := by show _ ≠ _; rw [← HNO.out]; exact fun e => own_ne' HTd.out.oo HK3.out (by decide) e.symm
        have HSM : Hid (no + nr ≤ 1000000) := by show _ ≤ _; rw [← HNO.out, ← HNR.out]; exact HSZ.out
        rw [HNO.out]
        refine wp_region_ac 4 119 (fun u v => u.grownBy v (ob Ao no co)) (fun f a wr => JO 119 71 w2.heap.size wd.heap.size Ao co out r A3 c3 (f 3) a wr) [(fun q0 _ => q0 = .agg #[.int .i64 nb, .int .i64 nl, .int .i64 nm, .slice A2 nw c2]), (fun q0 _ => q0 = .slice Ao no co), (fun q0 _ => q0 = .slice A3 nr c3), (fun _ _ => True)] (by kernel_rfl) (by kernel_rfl) rfl (fun _ _ _ => gr_trans) (gr_drewN _ _ _) (HJ0.out _ rfl) ?_ ?_ ?_
        · intro R hR
          simp only [List.mem_cons, List.not_mem_nil, or_false] at hR
          rcases hR with rfl | rfl | rfl | rfl <;> exact fun _ _ _ h _ => h
        · simp only [List.take_succ_cons, List.take_zero]
          refine ⟨?_, ?_, ?_, ?_, trivial⟩
          · intro a ws f hle hjj hfi hun hdn hag hdep K Q hK
            have d13 : (a.tmps[13]?).getD undef = .pointer (some ⟨K3, 0, none⟩) := eval_get (hag 13 (freeB_spec (by kernel_rfl)))
            rw [if_pos (show Region.wanted _ _ = true from rfl)]
            have yy := Go.Joins.cell_of_block ((hle.block K3 HK3l.out HK3R.out).trans HK3.out)
            have y0 := yy 0; have y1 := yy 1; have y2 := yy 2; have y3 := yy 3
            simp only [List.getElem?_toArray, List.getElem?_cons_succ, List.getElem?_cons_zero] at y0 y1 y2 y3
            clear yy
            unfold Oper.wp
            simp [go_sem, d13, y0, y1, y2, y3]
            exact hK _ _ (gr_refl _ _) (hjj.put (by decide)) rfl
          · intro a ws f hle hjj hfi hun hdn hag hdep K Q hK
            have d9 : (a.tmps[9]?).getD undef = .slice Ao no co := eval_get (hag 9 (freeB_spec (by kernel_rfl)))
            rw [if_pos (show Region.wanted _ _ = true from rfl)]
            unfold Oper.wp
            simp [go_sem, d9]
            exact hK _ _ (gr_refl _ _) (hjj.put (by decide)) rfl
          · intro a ws f hle hjj hfi hun hdn hag hdep K Q hK
            have d14 : (a.tmps[14]?).getD undef = .slice A3 nr c3 := eval_get (hag 14 (freeB_spec (by kernel_rfl)))
            rw [if_pos (show Region.wanted _ _ = true from rfl)]
            unfold Oper.wp
            simp [go_sem, d14]
            exact hK _ _ (gr_refl _ _) (hjj.put (by decide)) rfl
          · intro a ws f hle hjj hfi hun hdn hag hdep K Q hK
            have d69 : (a.tmps[69]?).getD undef = .slice Ao no co := eval_get (dep_of hdep 1 69 rfl (by kernel_rfl) rfl rfl)
            have d70 : (a.tmps[70]?).getD undef = .slice A3 nr c3 := eval_get (dep_of hdep 2 70 rfl (by kernel_rfl) rfl rfl)
            rw [if_pos (show Region.wanted _ _ = true from rfl)]
            have hun' : f 3 = false := hfi
            obtain ⟨ho, hr, hbz, hnz⟩ := hjj.own hun'
            refine run_applF ws (.tmp 69) (.tmp 70) w2.heap.size Ao co rfl out (by rw [HNO.out]; simp [Act.eval, d69]) ho A3 c3 nr r HNR.out (by simp [Act.eval, d70]) hr (by rw [HNO.out]; have := HSM.out; omega) hbz ?_
            intro A6 c6 w6 ho6 hg6 hf6
            rw [HNO.out] at hg6
            exact hK _ _ hg6 (hjj.done (by decide) ho6 (fun q hq => (hf6 q hq).imp id (Nat.le_trans hnz))) trivial
        · intro a ws f hle hjj hft hff hsz hdf hag hend
          have f68 : a.eval (.tmp 68) = .agg #[.int .i64 nb, .int .i64 nl, .int .i64 nm, .slice A2 nw c2] := end_of hend 0 68 (by decide) rfl rfl rfl
          have f69 : a.eval (.tmp 69) = .slice Ao no co := end_of hend 1 69 (by decide) rfl rfl rfl
          have f70 : a.eval (.tmp 70) = .slice A3 nr c3 := end_of hend 2 70 (by decide) rfl rfl rfl
          have f71 : (fun _ _ => True) (a.eval (.tmp 71)) ws := end_of hend 3 71 (by decide) rfl rfl rfl
          have ea := act_block 68 4 hsz hdf hag [68, 69, 70, 71] (by kernel_rfl) (by kernel_rfl) (of_decide_eq_true (by kernel_rfl))
          clear hag hend hsz hdf
          obtain ⟨A', c', e71, ho, hf⟩ := hjj.new (hft 3 (by decide))
          simp only [List.map_cons, List.map_nil, f68, f69, f70] at ea
          clear f68 f69 f70
          generalize a.eval (.tmp 71) = x71 at ea f71
          simp only [List.take_succ_cons, List.take_zero, List.drop_succ_cons, List.drop_zero, List.cons_append, List.nil_append] at ea
          subst ea
          have HTs := Lib.hid (HTd.out.outs ho (by rw [HNO.out]; exact hle) hf)
          clear hle hjj hft hff ho hf HJ0
          replace e71 : x71 = .slice A' (out ++ r).length c' := e71
          subst e71
          obtain ⟨n2, HN2⟩ : ∃ n2, Hid ((out ++ r).length = n2) := ⟨_, rfl⟩
          rw [HN2.out]
          have q0 := HTs.out.cells
          obtain ⟨q0, q1, q2, q3⟩ := q0
          have zz0 := HTs.out.fz 0; have zz1 := HTs.out.fz 1; have zz2 := HTs.out.fz 2; have zz3 := HTs.out.fz 3
          have hKs := HTs.out.lK
          simp only [List.drop_succ_cons, List.drop_zero]
          clear e0 e1 e2 e3 e4 e5 e6 a0 a1 a2 a3 dm
          go_wp2
          have HTf := Lib.hid (HTs.out.store (.int .i64 nb) (.int .i64 nl) (.int .i64 nm) (.slice A2 nw c2))
          go_roundw
          case rel => exact ⟨j + 1, b', A2, c2, out ++ r, A', c', tk, At, ct, by rw [HN2.out], rfl, by go_num, by omega, by rw [HNB.out, HNL.out, HNM.out, HNW.out]; exact HTf.out, HRn.out, by have := HTJ.out; show _ ≤ _; omega⟩
          case measure => simp [RowKit.intOf]; try omega
      · have hpe := Rd.pushE_ok HR.out.v HCE.out (by dsimp only; omega) (by have := hwl.out; show wq.length < _; omega)
        have dm : decide (t1 ≤ M) = false := by rw [decide_eq_false_iff_not]; omega
        have hbe : (b', r) = Rd.pushed ⟨n, Lt, M, wq⟩ (⟨k1, t1, u1, v1, x1, y1, z1⟩ : Ev) := by rw [HBR.out, hpe, if_pos rfl]
        rw [hpe]
        have hb1 : b' = (Rd.pushed ⟨n, Lt, M, wq⟩ (⟨k1, t1, u1, v1, x1, y1, z1⟩ : Ev)).1 := by rw [← hbe]
        have hb2 : r = (Rd.pushed ⟨n, Lt, M, wq⟩ (⟨k1, t1, u1, v1, x1, y1, z1⟩ : Ev)).2 := by rw [← hbe]
        have HRn : Hid (Rd.Run k b' (out ++ r) (tk ++ [(⟨k1, t1, u1, v1, x1, y1, z1⟩ : Ev)])) := by
          show Rd.Run _ _ _ _
          rw [hb1, hb2]
          exact Rd.run_push HR.out HCE.out (chk_time HCE.out).2 (by dsimp only; omega) (by have := hwl.out; show wq.length < _; omega)
        have HSZ : Hid (out.length + r.length ≤ 1000000) := by
          have := hwl.out
          have h9 : _ + _ = wq.length + 1 := pushed_len ⟨n, Lt, M, wq⟩ (⟨k1, t1, u1, v1, x1, y1, z1⟩ : Ev)
          show _ ≤ _
          rw [hb2]
          omega
        clear hb1 hb2 hbe hpe hm
        have HOT : Hid (OE w2.heap.size ((wb.alloc (.cells #[.int .i64 nb, .int .i64 nl, .int .i64 nm, .slice A2 nw c2] 24)).alloc (.cells #[.int .i64 k1, .int .i64 t1, .int .i64 u1, .int .i64 v1, .int .i64 x1, .int .i64 y1, .int .i64 z1] 26)) At ct tk) := by
          show OE _ _ _ _ _
          rw [HWC.out]
          exact own_up HTc.out.ot (below_new wc _)
        have HRVE : Hid (RV ((wb.alloc (.cells #[.int .i64 nb, .int .i64 nl, .int .i64 nm, .slice A2 nw c2] 24)).alloc (.cells #[.int .i64 k1, .int .i64 t1, .int .i64 u1, .int .i64 v1, .int .i64 x1, .int .i64 y1, .int .i64 z1] 26)).heap.size ((wb.alloc (.cells #[.int .i64 nb, .int .i64 nl, .int .i64 nm, .slice A2 nw c2] 24)).alloc (.cells #[.int .i64 k1, .int .i64 t1, .int .i64 u1, .int .i64 v1, .int .i64 x1, .int .i64 y1, .int .i64 z1] 26)) (some ⟨wb.heap.size + 1, 0, none⟩) 1 [(⟨k1, t1, u1, v1, x1, y1, z1⟩ : Ev)]) := by
          have h9 := RV_newE (wb.alloc (.cells #[.int .i64 nb, .int .i64 nl, .int .i64 nm, .slice A2 nw c2] 24)) (⟨k1, t1, u1, v1, x1, y1, z1⟩ : Ev)
          rwa [show (wb.alloc (.cells #[.int .i64 nb, .int .i64 nl, .int .i64 nm, .slice A2 nw c2] 24)).heap.size = wb.heap.size + 1 by simp] at h9
        have htl : tk.length ≤ 1000000 := by have := HTJ.out; have := HLL.out; omega
        have HBS : Hid (w2.heap.size ≤ ((wb.alloc (.cells #[.int .i64 nb, .int .i64 nl, .int .i64 nm, .slice A2 nw c2] 24)).alloc (.cells #[.int .i64 k1, .int .i64 t1, .int .i64 u1, .int .i64 v1, .int .i64 x1, .int .i64 y1, .int .i64 z1] 26)).heap.size) := by
          show _ ≤ _
          rw [HWC.out]
          exact Nat.le_trans HTc.out.lB (by simp)
        go_wp2_with (at_builtin; (refine wpList_applF _ rfl (.tmp 64) (.tmp 66) w2.heap.size At ct rfl tk (by simp [Act.eval]) HOT.out (some ⟨wb.heap.size + 1, 0, none⟩) 1 1 [(⟨k1, t1, u1, v1, x1, y1, z1⟩ : Ev)] rfl (by simp [Act.eval]) HRVE.out (by omega) HBS.out ?_; intro A5 c5 w5 HO5 HG5 HF5))
        rw [HWC.out] at HG5 HF5
        have HTe := Lib.hid (HTc.out.go (below_new wc (.cells #[.int .i64 k1, .int .i64 t1, .int .i64 u1, .int .i64 v1, .int .i64 x1, .int .i64 y1, .int .i64 z1] 26)))
        have HTd := Lib.hid (HTe.out.taken HO5.out HG5.out HF5.out)
        have HR3 := Lib.hid ((HRc.out.go (below_new wc (.cells #[.int .i64 k1, .int .i64 t1, .int .i64 u1, .int .i64 v1, .int .i64 x1, .int .i64 y1, .int .i64 z1] 26))).kept HG5.out HTlt.out).1
        have HK3e : Hid ((wc.alloc (.cells #[.int .i64 k1, .int .i64 t1, .int .i64 u1, .int .i64 v1, .int .i64 x1, .int .i64 y1, .int .i64 z1] 26)).heap[K3]? = some (.cells #[.int .i64 nb, .int .i64 nl, .int .i64 nm, .slice A2 nw c2] 24 (0, 0))) := ((below_new wc _).block K3 (lt_of_some HK3c.out)).trans HK3c.out
        have HK3 : Hid (w5.heap[K3]? = some (.cells #[.int .i64 nb, .int .i64 nl, .int .i64 nm, .slice A2 nw c2] 24 (0, 0))) := (HG5.out.block K3 (lt_of_some HK3e.out) (fun e => own_ne' HTe.out.ot HK3e.out (by decide) e.symm)).trans HK3e.out
        have HK3l : Hid (K3 < w5.heap.size) := lt_of_some HK3.out
        clear HOT HRVE HBS e0 e1 e2 e3 e4 e5 e6 a0 a1 a2 a3 dm
        go_wp2_with fail
        simp only [HK3n.out]
        obtain ⟨wd, HWD⟩ : ∃ wd, w5 = wd := ⟨_, rfl⟩
        rw [HWD] at HTd HR3 HK3 HK3l ⊢
        clear HWD
        obtain ⟨no, HNO⟩ : ∃ no, Hid (out.length = no) := ⟨_, rfl⟩
        have HJ0 : Hid (∀ a : Act, a.tmps.size = 119 → JO 119 71 w2.heap.size wd.heap.size Ao co out r A3 c3 false a (wd.drewN 1)) := fun a ha => ⟨ha, fun _ => ⟨own_up HTd.out.oo (below_drewN wd 1), HR3.out.up (below_drewN wd 1), HTd.out.lB, Nat.le_refl _⟩, fun h => absurd h (by decide)⟩
        have HK3R : Hid (some K3 ≠ ob Ao no co) := by show _ ≠ _; rw [← HNO.out]; exact fun e => own_ne' HTd.out.oo HK3.out (by decide) e.symm
        have HSM : Hid (no + nr ≤ 1000000) := by show _ ≤ _; rw [← HNO.out, ← HNR.out]; exact HSZ.out
        rw [HNO.out]
        refine wp_region_ac 4 119 (fun u v => u.grownBy v (ob Ao no co)) (fun f a wr => JO 119 71 w2.heap.size wd.heap.size Ao co out r A3 c3 (f 3) a wr) [(fun q0 _ => q0 = .agg #[.int .i64 nb, .int .i64 nl, .int .i64 nm, .slice A2 nw c2]), (fun q0 _ => q0 = .slice Ao no co), (fun q0 _ => q0 = .slice A3 nr c3), (fun _ _ => True)] (by kernel_rfl) (by kernel_rfl) rfl (fun _ _ _ => gr_trans) (gr_drewN _ _ _) (HJ0.out _ rfl) ?_ ?_ ?_
        · intro R hR
          simp only [List.mem_cons, List.not_mem_nil, or_false] at hR
          rcases hR with rfl | rfl | rfl | rfl <;> exact fun _ _ _ h _ => h
        · simp only [List.take_succ_cons, List.take_zero]
          refine ⟨?_, ?_, ?_, ?_, trivial⟩
          · intro a ws f hle hjj hfi hun hdn hag hdep K Q hK
            have d13 : (a.tmps[13]?).getD undef = .pointer (some ⟨K3, 0, none⟩) := eval_get (hag 13 (freeB_spec (by kernel_rfl)))
            rw [if_pos (show Region.wanted _ _ = true from rfl)]
            have yy := Go.Joins.cell_of_block ((hle.block K3 HK3l.out HK3R.out).trans HK3.out)
            have y0 := yy 0; have y1 := yy 1; have y2 := yy 2; have y3 := yy 3
            simp only [List.getElem?_toArray, List.getElem?_cons_succ, List.getElem?_cons_zero] at y0 y1 y2 y3
            clear yy
            unfold Oper.wp
            simp [go_sem, d13, y0, y1, y2, y3]
            exact hK _ _ (gr_refl _ _) (hjj.put (by decide)) rfl
          · intro a ws f hle hjj hfi hun hdn hag hdep K Q hK
            have d9 : (a.tmps[9]?).getD undef = .slice Ao no co := eval_get (hag 9 (freeB_spec (by kernel_rfl)))
            rw [if_pos (show Region.wanted _ _ = true from rfl)]
            unfold Oper.wp
            simp [go_sem, d9]
            exact hK _ _ (gr_refl _ _) (hjj.put (by decide)) rfl
          · intro a ws f hle hjj hfi hun hdn hag hdep K Q hK
            have d14 : (a.tmps[14]?).getD undef = .slice A3 nr c3 := eval_get (hag 14 (freeB_spec (by kernel_rfl)))
            rw [if_pos (show Region.wanted _ _ = true from rfl)]
            unfold Oper.wp
            simp [go_sem, d14]
            exact hK _ _ (gr_refl _ _) (hjj.put (by decide)) rfl
          · intro a ws f hle hjj hfi hun hdn hag hdep K Q hK
            have d69 : (a.tmps[69]?).getD undef = .slice Ao no co := eval_get (dep_of hdep 1 69 rfl (by kernel_rfl) rfl rfl)
            have d70 : (a.tmps[70]?).getD undef = .slice A3 nr c3 := eval_get (dep_of hdep 2 70 rfl (by kernel_rfl) rfl rfl)
            rw [if_pos (show Region.wanted _ _ = true from rfl)]
            have hun' : f 3 = false := hfi
            obtain ⟨ho, hr, hbz, hnz⟩ := hjj.own hun'
            refine run_applF ws (.tmp 69) (.tmp 70) w2.heap.size Ao co rfl out (by rw [HNO.out]; simp [Act.eval, d69]) ho A3 c3 nr r HNR.out (by simp [Act.eval, d70]) hr (by rw [HNO.out]; have := HSM.out; omega) hbz ?_
            intro A6 c6 w6 ho6 hg6 hf6
            rw [HNO.out] at hg6
            exact hK _ _ hg6 (hjj.done (by decide) ho6 (fun q hq => (hf6 q hq).imp id (Nat.le_trans hnz))) trivial
        · intro a ws f hle hjj hft hff hsz hdf hag hend
          have f68 : a.eval (.tmp 68) = .agg #[.int .i64 nb, .int .i64 nl, .int .i64 nm, .slice A2 nw c2] := end_of hend 0 68 (by decide) rfl rfl rfl
          have f69 : a.eval (.tmp 69) = .slice Ao no co := end_of hend 1 69 (by decide) rfl rfl rfl
          have f70 : a.eval (.tmp 70) = .slice A3 nr c3 := end_of hend 2 70 (by decide) rfl rfl rfl
          have f71 : (fun _ _ => True) (a.eval (.tmp 71)) ws := end_of hend 3 71 (by decide) rfl rfl rfl
          have ea := act_block 68 4 hsz hdf hag [68, 69, 70, 71] (by kernel_rfl) (by kernel_rfl) (of_decide_eq_true (by kernel_rfl))
          clear hag hend hsz hdf
          obtain ⟨A', c', e71, ho, hf⟩ := hjj.new (hft 3 (by decide))
          simp only [List.map_cons, List.map_nil, f68, f69, f70] at ea
          clear f68 f69 f70
          generalize a.eval (.tmp 71) = x71 at ea f71
          simp only [List.take_succ_cons, List.take_zero, List.drop_succ_cons, List.drop_zero, List.cons_append, List.nil_append] at ea
          subst ea
          have HTs := Lib.hid (HTd.out.outs ho (by rw [HNO.out]; exact hle) hf)
          clear hle hjj hft hff ho hf HJ0
          replace e71 : x71 = .slice A' (out ++ r).length c' := e71
          subst e71
          obtain ⟨n2, HN2⟩ : ∃ n2, Hid ((out ++ r).length = n2) := ⟨_, rfl⟩
          rw [HN2.out]
          have q0 := HTs.out.cells
          obtain ⟨q0, q1, q2, q3⟩ := q0
          have zz0 := HTs.out.fz 0; have zz1 := HTs.out.fz 1; have zz2 := HTs.out.fz 2; have zz3 := HTs.out.fz 3
          have hKs := HTs.out.lK
          simp only [List.drop_succ_cons, List.drop_zero]
          clear HO5
          go_wp2
          have HTf := Lib.hid (HTs.out.store (.int .i64 nb) (.int .i64 nl) (.int .i64 nm) (.slice A2 nw c2))
          go_roundw
          case rel => exact ⟨j + 1, b', A2, c2, out ++ r, A', c', tk ++ [(⟨k1, t1, u1, v1, x1, y1, z1⟩ : Ev)], A5, c5, by rw [HN2.out], by simp, by go_num, by omega, by rw [HNB.out, HNL.out, HNM.out, HNW.out]; exact HTf.out, HRn.out, by have := HTJ.out; show _ ≤ _; simp; omega⟩
          case measure => simp [RowKit.intOf]; try omega
    · obtain rfl : j = l.length := by omega
      have HV := Lib.hid HR.out.v
      have CF := Lib.hid (flush_any n Lt M A1 c1 wq wr HT.out.wt.rv (by have := hwl.out; omega))
      have HFE : Hid (flushE ⟨n, Lt, M, wq⟩ = 0) := by show _ = _; rw [flushE, if_pos HV.out]
      have HFB : Hid (flushB ⟨n, Lt, M, wq⟩ = Rd.rel ⟨n, Lt, M, wq⟩ Lt) := by show _ = _; rw [flushB, if_pos HV.out]
      have HRF := Lib.hid (Rd.run_flush HR.out)
      go_wp2_with fail
      refine CF.out.mono ?_
      rintro e wb ⟨b', r, A2, A3, c2, c3, rfl, hbr', hr2, hr3, hb⟩
      rw [HFB.out] at hbr'
      rw [HFE.out]
      injection hbr' with hb1 hb2
      have hrw : r = wq := hb2.trans HRF.out
      subst hrw
      have HOS : Hid (out ++ r = Rd.stab tk) := HR.out.st
      have HTb := Lib.hid (HT.out.go hb)
      have HR3 := Lib.hid hr3
      clear hb hr2 hr3 hb1 hb2 CF a0 a1 a2 a3
      have HLN : Hid (out.length + r.length = tk.length) := HRN.out
      obtain ⟨N9, HN9⟩ : ∃ N9, Hid (tk.length = N9) := ⟨_, rfl⟩
      obtain ⟨nr, HNR⟩ : ∃ nr, Hid (r.length = nr) := ⟨_, rfl⟩
      rw [HNR.out, HN9.out] at HLN
      obtain ⟨BB, HBB⟩ : ∃ BB : Obj, Hid (.cells #[.int .i64 b'.bound, .int .i64 b'.latest, .int .i64 b'.mark, .slice A2 b'.wait.length c2] 24 = BB) := ⟨_, rfl⟩
      obtain ⟨wc, HWC⟩ : ∃ wc, Hid (wb.alloc (.cells #[.int .i64 b'.bound, .int .i64 b'.latest, .int .i64 b'.mark, .slice A2 b'.wait.length c2] 24) = wc) := ⟨_, rfl⟩
      have HBC : Hid (Below wb.heap.size wb wc) := by show Below _ _ _; rw [← HWC.out]; exact below_new _ _
      have HTc := Lib.hid (HTb.out.go HBC.out)
      have HRc := Lib.hid (HR3.out.up HBC.out)
      have HOT : Hid (OE w2.heap.size (wb.alloc (.cells #[.int .i64 b'.bound, .int .i64 b'.latest, .int .i64 b'.mark, .slice A2 b'.wait.length c2] 24)) Ao co out) := by
        show OE _ _ _ _ _
        rw [HWC.out]
        exact HTc.out.oo
      have HRC : Hid (RV (wb.alloc (.cells #[.int .i64 b'.bound, .int .i64 b'.latest, .int .i64 b'.mark, .slice A2 b'.wait.length c2] 24)).heap.size (wb.alloc (.cells #[.int .i64 b'.bound, .int .i64 b'.latest, .int .i64 b'.mark, .slice A2 b'.wait.length c2] 24)) A3 c3 r) := by
        show RX _ _ _ _ _ _ _
        rw [HWC.out]
        exact HRc.out
      have HBS : Hid (w2.heap.size ≤ (wb.alloc (.cells #[.int .i64 b'.bound, .int .i64 b'.latest, .int .i64 b'.mark, .slice A2 b'.wait.length c2] 24)).heap.size) := by
        show _ ≤ _
        rw [HWC.out]
        exact HTc.out.lB
      have hol : out.length + nr ≤ 1000000 := by have := HLN.out; have := HTJ.out; have := HLL.out; have := HN9.out; omega
      rw [HNR.out, HN9.out]
      have e9 : out.length + r.length = N9 := by rw [HNR.out]; exact HLN.out
      have d19 : (((out.length : Int) + (r.length : Int)) != (N9 : Int)) = false := by
        simp
        omega
      go_wp2_with (at_builtin; (refine wpList_applF _ rfl (.tmp 79) (.tmp 80) w2.heap.size Ao co rfl out (by simp [Act.eval]) HOT.out A3 c3 nr r HNR.out (by simp [Act.eval]) HRC.out (by omega) HBS.out ?_; intro A5 c5 w5 HO5 HG5 HF5))
      rw [HWC.out] at HG5 HF5
      rw [HOS.out] at HO5 HF5
      have HTd := Lib.hid (HTc.out.outs HO5.out HG5.out HF5.out)
      have HSN : Hid ((Rd.stab tk).length = N9) := by show _ = _; rw [Rd.stab_len, HN9.out]
      have HAS := Lib.hid (Rd.stab_asc tk)
      have h9m : N9 ≤ 20 := by have := HTJ.out; have := HLL.out; have := HN9.out; omega
      clear HOT HRC HBS HO5 HG5 HF5 d19 e9 hol
      generalize wb.heap.size = K3
      obtain ⟨os, HOSS⟩ : ∃ os, Hid (Rd.stab tk = os) := ⟨_, rfl⟩
      rw [HOSS.out] at HTd HSN HAS
      go_loopw [93] (fun i wr => ∃ (j : Nat), i = .int .i64 j ∧ j ≤ N9 ∧ Hid (Below w5.heap.size w5 wr)) (fun i _ => N9 - (RowKit.intOf i).toNat)
      case atStart => exact ⟨0, rfl, Nat.zero_le _, Below.refl _ _⟩
      case round =>
        obtain ⟨j, rfl, hj, HB⟩ := hrel
        have HRO := Lib.hid ((RX.of_own HTd.out.oo).up HB.out)
        by_cases hlt : j < N9
        · obtain ⟨b1, o1, ⟨k1, t1, u1, v1, x1, y1, z1⟩, rfl, hb1, ha, d0, d1, d2, d3, d4, d5, d6⟩ := RV.at_ (k := j) HRO.out (by rw [HSN.out]; exact hlt)
          dsimp only at d0 d1 d2 d3 d4 d5 d6
          cases j with
          | zero =>
            have g1 : decide (((0 : Nat) : Int) > 0) = false := by simp
            simp only [Nat.zero_mul, Nat.add_zero] at d0 d1 d2 d3 d4 d5 d6
            clear ha
            go_wp2_with fail
            go_quiet (fail)
            clear d0 d1 d2 d3 d4 d5 d6
            go_wp2
            go_roundw
            case rel => exact ⟨1, by go_num, by omega, HB.out.trans (((below_new _ _).trans ((below_drewN _ nq).mono (by simp))).mono HB.out.size)⟩
            case measure => simp [RowKit.intOf]; try omega
          | succ m =>
            obtain ⟨b2, o2, ⟨k9, t9, u9, v9, x9, y9, z9⟩, e2, hb2, ha9, e0, e1, e2', e3, e4, e5, e6⟩ := RV.at_ (k := m) HRO.out (by rw [HSN.out]; omega)
            injection e2 with e2
            injection e2 with h1 h2
            subst h1; subst h2
            dsimp only at e1
            have hle : t9 ≤ t1 := by
              have h1 := (List.getElem?_eq_some_iff.1 ha9)
              have h2 := (List.getElem?_eq_some_iff.1 ha)
              obtain ⟨h1a, h1b⟩ := h1
              obtain ⟨h2a, h2b⟩ := h2
              have h3 := List.pairwise_iff_getElem.1 HAS.out m (m + 1) h1a h2a (by omega)
              rw [h1b, h2b] at h3
              exact h3
            have f1 : IntKind.i64.wrap (((m + 1 : Nat) : Int) - 1) = (m : Int) := by rw [IntWalk.i64_in _ (by omega)]; omega
            have g1 : decide (((m + 1 : Nat) : Int) > 0) = true := by rw [decide_eq_true_eq]; omega
            have d9 : decide (t9 > t1) = false := by rw [decide_eq_false_iff_not]; omega
            clear ha ha9 e0 e2' e3 e4 e5 e6
            go_wp2_with fail
            go_quiet (fail)
            clear d0 d1 d2 d3 d4 d5 d6 e1 f1 g1 d9
            go_wp2
            go_roundw
            case rel => exact ⟨m + 1 + 1, by go_num, by omega, HB.out.trans (((below_new _ _).trans ((below_drewN _ nq).mono (by simp))).mono HB.out.size)⟩
            case measure => simp [RowKit.intOf]; try omega
        · obtain rfl : j = N9 := by omega
          have CS := Lib.hid (stable_any At ct tk wr ((RX.of_own HTd.out.ot).up HB.out) (by rw [HN9.out]; omega))
          rw [HOSS.out] at CS
          have HSN2 := HSN
          rw [HN9.out] at CS
          go_wp2_with fail
          refine CS.out.mono ?_
          rintro e v1 ⟨A7, c7, rfl, hr7, hb7⟩
          have HB7 : Hid (Below w5.heap.size w5 v1) := HB.out.trans (hb7.mono HB.out.size)
          have CM := Lib.hid (same_any A7 A5 c7 c5 os v1 hr7 ((RX.of_own HTd.out.oo).up HB7.out) (by rw [HSN.out]; omega))
          rw [HSN.out] at CM ⊢
          clear hr7 hb7 CS
          go_wp2_with fail
          refine CM.out.mono ?_
          rintro e v2 ⟨rfl, hb8⟩
          have HB8 : Hid (Below w5.heap.size w5 v2) := HB7.out.trans (hb8.mono HB7.out.size)
          clear hb8 CM
          go_wp2_with fail
          refine (awake_any v2).mono ?_
          rintro e v3 ⟨rfl, hb9⟩
          have HB9 : Hid (Below w5.heap.size w5 v3) := HB8.out.trans (hb9.mono HB8.out.size)
          clear hb9
          go_wp2
          go_ret
          exact ⟨rfl, HB2.out.trans ((below_le (HTd.out.bel.trans (HB9.out.mono HTd.out.lB)) HB2.out.size))⟩
end Go.Proofs.Ytgdhjllfdndmnaa
