/-
  Sort.
-/
import Derived.Test.YtgdhjllfdndmnaaRj
namespace Go.Proofs.Ytgdhjllfdndmnaa
open Go.RowKit Go.Lib

/-- an append to a list of the call's own: its block is the old one or new -/
theorem wpList_applF {ops : Array Oper} {rest : List Oper} {o : Oper} {a : Act} {Q : Exit → Act → World → Prop} (W : World) (hgd : o.guard = none) (s x : Operand)
    (base : Nat) (A2 : Option Addr) (c2 : Nat) (ho : o.op = .call { callee := .builtin .append, args := #[s, x], argTypes := #[22, 22] }) (ks : List Ev)
    (hs : a.eval s = .slice A2 ks.length c2) (hown : W.ownsRow base 26 7 (.slice A2 ks.length c2) ks.length (cl Ev.cells ks)) (A' : Option Addr) (c' m : Nat) (news : List Ev) (hm : news.length = m)
    (hx : a.eval x = .slice A' m c') (hr : RV W.heap.size W A' c' news) (hk : ks.length + m ≤ 2000000000000) (hbase : base ≤ W.heap.size)
    (h : ∀ A3 c3 w', Hid (w'.ownsRow base 26 7 (.slice A3 (ks ++ news).length c3) (ks ++ news).length (cl Ev.cells (ks ++ news))) → Hid (W.grownBy w' (Value.slice A2 ks.length c2).ownBlock) → Hid (Fr W.heap.size (Value.slice A2 ks.length c2).ownBlock (Value.slice A3 (ks ++ news).length c3).ownBlock) → wpList Try.prog ops Q rest (a.put o.dst (.slice A3 (ks ++ news).length c3)) w') :
    wpList Try.prog ops Q (o :: rest) a W := by
  subst hm
  obtain ⟨i0, hi0, hz0, hz1, hz2⟩ := info_parts infoV
  refine wpList_append_any W hgd s x _ ho base 26 i0 _ 7 56 Try.underlying22 hi0 hz0 hz1 hz2 rfl (by decide) (.slice A2 ks.length c2) ks.length (cl Ev.cells ks) hs hown
    _ A' news.length c' (cl Ev.cells news) hx hr.2 (cl_one encE news) (by simp only [maxLen]; omega) (by omega) hbase ?_
  intro v3 w3 hown3 hg3 hat3
  have ho3 : w3.ownsRow base 26 7 v3 (ks ++ news).length (cl Ev.cells (ks ++ news)) := by rw [cl_append, List.length_append]; exact hown3
  obtain ⟨A3, c3, rfl⟩ := own_formX ho3
  refine h A3 c3 w3 ho3 hg3 (fun k hk => ?_)
  rcases hat3 with h1 | h1
  · exact .inl (by rw [← h1]; exact hk)
  · exact .inr (by rw [h1] at hk; injection hk with hk; omega)
theorem ret_tmp3 {fn : Func} {R : Ending → World → Prop} {a : Act} {w : World} {p q r : Nat} (hres : fn.results = #[.tmp p, .tmp q, .tmp r]) (hd : a.defers = []) (x y z : Value) (hp : a.tmps.getD p undef = x) (hq : a.tmps.getD q undef = y) (hr : a.tmps.getD r undef = z)
    (h : R (.returned (.tuple #[x, y, z])) w) : bodyPost Try.prog fn R .ret a w := by
  have hp' : (a.tmps[p]?).getD undef = x := by simpa using hp
  have hq' : (a.tmps[q]?).getD undef = y := by simpa using hq
  have hr' : (a.tmps[r]?).getD undef = z := by simpa using hr
  refine bodyPost_ret (v := .tuple #[x, y, z]) ?_ hd h
  clear hp hq hr h hd
  simp [results, hres, go_sem, hp', hq', hr']
/-- what Sort answers -/
def sortF (k : Int) (l : List Ev) : List Ev × Int × Int := if okB k = true then Rd.sortS (Rd.opened k) [] 0 l else ([], 0, 1)
def SortP (k : Int) (l : List Ev) (w : World) (en : Ending) (w' : World) : Prop :=
  ∃ (r : List Ev) (n e : Int) (A : Option Addr) (c : Nat), en = .returned (.tuple #[.slice A r.length c, .int .i64 n, .int .i64 e]) ∧ sortF k l = (r, n, e) ∧ RV w'.heap.size w' A c r ∧ Below w.heap.size w w'
/-- what is known in the loop of Sort -/
structure SL (B P : Nat) (l : List Ev) (RES : List Ev × Int × Int) (w0 : World) (j : Nat) (b : Rd.Bf) (out : List Ev) (n : Int) (As : Option Addr) (cs : Nat) (A1 : Option Addr) (c1 : Nat) (w : World) : Prop where
  q : QB B P A1 c1 b w
  v : Rd.V b
  own : w.ownsRow B 26 7 (.slice As out.length cs) out.length (cl Ev.cells out)
  ap : ∀ k, (Value.slice As out.length cs).ownBlock = some k → bk A1 c1 ≠ some k
  bel : Below B w0 w
  res : Rd.sortS b out n (l.drop j) = RES
  len : out.length + b.wait.length ≤ j
  late : 0 ≤ n ∧ n ≤ j
section
variable {B P j : Nat} {l out : List Ev} {RES : List Ev × Int × Int} {w0 w w' : World} {b : Rd.Bf} {n : Int} {As A1 : Option Addr} {cs c1 : Nat}
theorem SL.go (h : SL B P l RES w0 j b out n As cs A1 c1 w) (hb : Below w.heap.size w w') (hB : B ≤ w.heap.size) : SL B P l RES w0 j b out n As cs A1 c1 w' :=
  ⟨h.q.go hb, h.v, own_up h.own hb, h.ap, h.bel.trans (hb.mono hB), h.res, h.len, h.late⟩
theorem pushed_len (b : Rd.Bf) (e : Ev) : (Rd.pushed b e).2.length + (Rd.pushed b e).1.wait.length = b.wait.length + 1 := by
  show (Rd.upto _ (Rd.ins e b.wait)).length + (Rd.behind _ (Rd.ins e b.wait)).length = _
  rw [Rd.len_split, Rd.ins_len]
theorem own_ne' {P B : Nat} {cs' : Array Value} {T : TypeId} {z : Nat × Nat} (h : w.ownsRow B 26 7 (.slice As out.length cs) out.length (cl Ev.cells out)) (hP : w.heap[P]? = some (.cells cs' T z)) (hT : T ≠ 26) : (Value.slice As out.length cs).ownBlock ≠ some P := by
  intro e
  rcases h.2 with ⟨h1, _⟩ | ⟨g, cap, cur, hv, _, hg, _⟩
  · rw [h1] at e; cases e
  · rw [hv] at e
    injection e with e
    subst e
    rw [hg] at hP
    injection hP with hP
    injection hP with _ hP
    exact hT hP.symm
end
section
variable {B P j : Nat} {out : List Ev} {w w' : World} {As : Option Addr} {cs : Nat}
theorem own_tw {r : Option Nat} (h : w.ownsRow B 26 7 (.slice As out.length cs) out.length (cl Ev.cells out)) (ht : Tw P r w w') (h1 : (Value.slice As out.length cs).ownBlock ≠ some P) (h2 : ∀ k, (Value.slice As out.length cs).ownBlock = some k → r ≠ some k) :
    w'.ownsRow B 26 7 (.slice As out.length cs) out.length (cl Ev.cells out) := by
  refine ⟨h.1, ?_⟩
  rcases h.2 with h0 | ⟨g, cap, cur, hv, hb, hg, hn, hm, hs, hx⟩
  · exact .inl h0
  · have e : (Value.slice As out.length cs).ownBlock = some g := by rw [hv]; rfl
    exact .inr ⟨g, cap, cur, hv, hb, (ht.block g (lt_of_some hg) (fun e2 => h1 (by rw [e, e2])) (h2 g e)).trans hg, hn, hm, hs, hx⟩
end
/-- a round in which an event is taken -/
theorem SL.push {B P j : Nat} {l out : List Ev} {RES : List Ev × Int × Int} {w0 w4 w5 w6 : World} {b : Rd.Bf} {n : Int} {As A1 A3 A6 : Option Addr} {cs c1 c3 c6 : Nat} {e : Ev} (h : SL B P l RES w0 j b out n As cs A1 c1 w4) (hB : B ≤ w4.heap.size)
    (hc : chkE e = 0) (hm : b.mark < e.time) (hl : b.wait.length < 4096) (hr : Rd.sortS (Rd.pushed b e).1 (out ++ (Rd.pushed b e).2) n (l.drop (j + 1)) = RES)
    (hq : QB B P A3 c3 (Rd.pushed b e).1 w5) (ht : Tw P (bk A1 c1) w4 w5) (hf : Fr w4.heap.size (bk A1 c1) (bk A3 c3))
    (ho : w6.ownsRow B 26 7 (.slice A6 (out ++ (Rd.pushed b e).2).length c6) (out ++ (Rd.pushed b e).2).length (cl Ev.cells (out ++ (Rd.pushed b e).2))) (hg : w5.grownBy w6 (Value.slice As out.length cs).ownBlock)
    (hf6 : Fr w5.heap.size (Value.slice As out.length cs).ownBlock (Value.slice A6 (out ++ (Rd.pushed b e).2).length c6).ownBlock) :
    SL B P l RES w0 (j + 1) (Rd.pushed b e).1 (out ++ (Rd.pushed b e).2) n A6 c6 A3 c3 w6 := by
  have hP := own_ne' h.own h.q.blk (by decide)
  have hd : ∀ k, bk A3 c3 = some k → (Value.slice As out.length cs).ownBlock ≠ some k := by
    intro k hk e
    rcases hf k hk with h1 | h1
    · exact h.ap k e h1
    · have := (h.own.lt k e).2; omega
  refine ⟨⟨(hg.block P hq.lP (fun e => hP e.symm)).trans hq.blk, hq.own.kept hg hd, hq.hP⟩, Rd.pushed_valid h.v hc (chk_time hc).2 hm hl, ho, fun k hk e => ?_, ?_, hr, ?_, ?_⟩
  · rcases hf6 k hk with h1 | h1
    · exact hd k e h1
    · have := (hq.own.lt k e).2; omega
  · have h5 : Below B w0 w5 := h.bel.trans (ht.below h.q.hP (fun k hk => (h.q.own.lt k hk).1) hB)
    exact h5.grown hg (Nat.le_trans hB ht.size) (fun k hk => (h.own.lt k hk).1)
  · have := pushed_len b e; have := h.len; rw [List.length_append]; omega
  · have := h.late; omega
set_option maxHeartbeats 4000000 in
set_option maxRecDepth 100000 in
theorem sort_any (k : Int) (A : Option Addr) (c : Nat) (l : List Ev) (w : World) (h : RV w.heap.size w A c l) (hl : l.length ≤ 1000000000) :
    Calls Try.prog 14 #[.int .i64 k, .slice A l.length c] w (SortP k l w) := by
  have H := Lib.hid h
  have HL := Lib.hid hl
  have HSF : Hid (sortF k l = if okB k = true then Rd.sortS (Rd.opened k) [] 0 l else ([], 0, 1)) := rfl
  have C0 := Lib.hid (open_any k w)
  have HE : Hid (openB k = if okB k = true then ⟨k, -1, -1, []⟩ else ⟨0, 0, 0, []⟩) := rfl
  have HE2 : Hid (openE k = if okB k = true then 0 else 1) := rfl
  have HOK : Hid (okB k = true → Rd.V (Rd.opened k)) := by
    show _ → _
    intro h
    have := openV k
    rw [h] at this
    simpa using this
  clear h hl
  go_enter Try.func14, Try.ntmps14
  go_wp2_with fail
  refine C0.out.mono ?_
  rintro e w1 ⟨rfl, hb⟩
  have HB1 := Lib.hid hb
  have H1 := Lib.hid (H.out.up hb)
  clear hb C0
  generalize openB k = OB at HE ⊢
  generalize openE k = OE at HE2 ⊢
  cases hB : okB k with
  | false =>
    rw [hB] at HE HE2 HSF
    obtain rfl := HE.out
    obtain rfl := HE2.out
    clear hB
    go_wp2
    refine ret_tmp3 (p := 4) (q := 5) (r := 6) Try.results14 rfl _ _ _ rfl rfl rfl ?_
    exact ⟨[], 0, 1, none, 0, rfl, HSF.out, RX.nil_ _ _ _ _, HB1.out.trans ((below_new _ _).mono HB1.out.size)⟩
  | true =>
    rw [hB] at HE HE2 HSF HOK
    obtain rfl := HE.out
    obtain rfl := HE2.out
    replace HSF : Hid (sortF k l = Rd.sortS (Rd.opened k) [] 0 l) := by show _ = _; rw [HSF.out, if_pos rfl]
    replace HOK := Lib.hid (HOK.out rfl)
    clear hB HE HE2
    dsimp only
    have CQ := Lib.hid (queueOf_any k (-1) (-1) none 0 [] (w1.alloc (.cells #[.int .i64 k, .int .i64 (-1), .int .i64 (-1), .slice none 0 0] 24)) (RX.nil_ _ _ _ _) (by simp))
    go_wp2_with fail
    refine CQ.out.mono ?_
    rintro e w2 ⟨A1, c1, rfl, ho, hb2⟩
    have HB2 : Hid (Below w1.heap.size w1 w2) := (below_new _ _).trans (hb2.mono (by simp))
    have hs2 : w1.heap.size < w2.heap.size := by have := hb2.size; simp at this; omega
    obtain ⟨P, HP⟩ : ∃ P, Hid (w2.heap.size = P) := ⟨_, rfl⟩
    obtain ⟨B, HBB⟩ : ∃ B, Hid ((w1.alloc (.cells #[.int .i64 k, .int .i64 (-1), .int .i64 (-1), .slice none 0 0] 24)).heap.size = B) := ⟨_, rfl⟩
    obtain ⟨W3, HW3⟩ : ∃ W3, Hid (w2.alloc (.cells #[.int .i64 k, .int .i64 (-1), .int .i64 (-1), .slice A1 0 c1] 53) = W3) := ⟨_, rfl⟩
    have hbs2 : B ≤ w2.heap.size := by rw [← HBB.out]; exact hb2.size
    rw [HBB.out] at ho hb2
    have HB3 : Hid (Below w2.heap.size w2 W3) := by show Below _ _ _; rw [← HW3.out]; exact below_new _ _
    have HQ3 : Hid (QB B P A1 c1 (Rd.opened k) W3) := by
      refine ⟨?_, ho.go HB3.out, ?_⟩
      · rw [← HW3.out, ← HP.out]; exact heap_alloc_new _ _
      · rw [← HP.out]; exact hbs2
    have HB13 : Hid (Below w1.heap.size w1 W3) := HB2.out.trans (HB3.out.mono HB2.out.size)
    have HBs : Hid (B ≤ W3.heap.size) := Nat.le_trans hbs2 HB3.out.size
    have HB1s : Hid (w1.heap.size ≤ B) := by show _ ≤ _; rw [← HBB.out]; simp
    have HRL := Lib.hid (H1.out.up HB13.out)
    have HRB : Hid (RV B W3 A c l) := (H1.out.go HB13.out).more HB1s.out
    have HSL : Hid (SL B P l (sortF k l) W3 0 (Rd.opened k) [] 0 none 0 A1 c1 W3) := by
      refine ⟨HQ3.out, HOK.out, World.ownsRow_nil _ _ _ _, (fun q hq => by cases hq), Below.refl _ _, ?_, by show (0 : Nat) + 0 ≤ 0; omega, by omega⟩
      rw [HSF.out]; rfl
    clear ho hb2 CQ
    go_wp2_with fail
    rw [HW3.out]
    simp only [HP.out]
    rw [HP.out] at hs2
    go_loopw [10, 11, 27] (fun nn so i wr => ∃ (j : Nat) (b : Rd.Bf) (out : List Ev) (n : Int) (As : Option Addr) (cs : Nat) (A1 : Option Addr) (c1 : Nat), nn = .int .i64 n ∧ so = .slice As out.length cs ∧ i = .int .i64 j ∧ j ≤ l.length ∧ Hid (SL B P l (sortF k l) W3 j b out n As cs A1 c1 wr)) (fun _ _ i _ => l.length - (RowKit.intOf i).toNat)
    case atStart => exact ⟨0, Rd.opened k, [], 0, none, 0, A1, c1, rfl, rfl, rfl, Nat.zero_le _, HSL.out⟩
    case round =>
      clear HSL HQ3 HRL HSF HOK HW3 HB3
      obtain ⟨j, ⟨n, L, M, wt⟩, out, nl, As, cs, A1, c1, rfl, rfl, rfl, hj, HS⟩ := hrel
      have HBr : Hid (B ≤ wr.heap.size) := Nat.le_trans HBs.out HS.out.bel.size
      have HPl : Hid (P < wr.heap.size) := HS.out.q.lP
      have hll : l.length ≤ 1000000000 := HL.out
      by_cases hlt : j < l.length
      · obtain ⟨bb, off, ⟨k1, t1, u1, v1, x1, y1, z1⟩, rfl, hbb, ha, d0, d1, d2, d3, d4, d5, d6⟩ := RV.at_ (HRB.out.go HS.out.bel) hlt
        have hbr : bb < wr.heap.size := Nat.lt_of_lt_of_le hbb HBr.out
        dsimp only at d0 d1 d2 d3 d4 d5 d6
        have HRS : Hid (Rd.sortS ⟨n, L, M, wt⟩ out nl (⟨k1, t1, u1, v1, x1, y1, z1⟩ :: l.drop (j + 1)) = sortF k l) := by
          show _ = _
          have := HS.out.res
          rwa [List.drop_eq_getElem_cons hlt, (List.getElem?_eq_some_iff.1 ha).2] at this
        have HPE : Hid (Rd.pushE ⟨n, L, M, wt⟩ ⟨k1, t1, u1, v1, x1, y1, z1⟩ = chkQ ⟨n, L, M, wt⟩ ⟨k1, t1, u1, v1, x1, y1, z1⟩) := by
          show _ = _
          rw [pushE_eq, if_neg (by simpa using HS.out.v)]
        have HSb := Lib.hid (HS.out.go (below_new wr (.cells #[.int .i64 k1, .int .i64 t1, .int .i64 u1, .int .i64 v1, .int .i64 x1, .int .i64 y1, .int .i64 z1] 26)) HBr.out)
        have CC := Lib.hid (check_any B P A1 c1 n L M wt k1 t1 u1 v1 x1 y1 z1 _ HSb.out.q)
        have HCK : Hid (chkQ ⟨n, L, M, wt⟩ ⟨k1, t1, u1, v1, x1, y1, z1⟩ = 0 → chkE ⟨k1, t1, u1, v1, x1, y1, z1⟩ = 0) := by
          show _ → _
          intro h
          unfold chkQ at h
          split at h
          · exact h
          · next h0 => simpa using h0
        clear ha
        go_wp2_with fail
        refine CC.out.mono ?_
        rintro e w4 ⟨rfl, hb4⟩
        obtain ⟨e0, e1, e2, e3, e4, e5, e6⟩ := box7 hb4
        have HS4 := Lib.hid (HSb.out.go hb4 (by simp; have := HBr.out; omega))
        have hsz4 : wr.heap.size < w4.heap.size := by have := hb4.size; simp at this; omega
        have HB4s : Hid (B ≤ w4.heap.size) := by have := HBr.out; show _ ≤ _; omega
        clear hb4 CC d0 d1 d2 d3 d4 d5 d6 HSb
        obtain ⟨X, HX⟩ : ∃ X, Hid (chkQ ⟨n, L, M, wt⟩ ⟨k1, t1, u1, v1, x1, y1, z1⟩ = X) := ⟨_, rfl⟩
        rw [HX.out] at HPE HCK
        simp only [HX.out]
        by_cases hX : X = 0
        · subst hX
          have HCE := Lib.hid (HCK.out rfl)
          have hct := Lib.hid (chk_time HCE.out)
          have HMK : Hid (M < t1 ∧ wt.length < 4096) := by
            have h := HX.out
            unfold chkQ at h
            rw [if_neg (by simpa using HCE.out)] at h
            show _ ∧ _
            split at h
            · omega
            · next h1 =>
              split at h
              · omega
              · next h2 => dsimp only at h1 h2; exact ⟨by omega, by omega⟩
          have CP := Lib.hid (push_any B P A1 c1 n L M wt k1 t1 u1 v1 x1 y1 z1 hct.out (by have := HS.out.v; obtain ⟨i1, i2, i3, i4, i5, -⟩ := this; dsimp only at i1 i2 i3 i4 i5; omega) (by have := HS.out.v; exact ⟨this.1, this.2.1⟩) w4 HS4.out.q HS.out.v.2.2.2.2.2.2.2 (by have := HMK.out; omega) HB4s.out)
          have HRS2 : Hid (Rd.sortS (Rd.pushed ⟨n, L, M, wt⟩ ⟨k1, t1, u1, v1, x1, y1, z1⟩).1 (out ++ (Rd.pushed ⟨n, L, M, wt⟩ ⟨k1, t1, u1, v1, x1, y1, z1⟩).2) nl (l.drop (j + 1)) = sortF k l) := by
            show _ = _
            rw [← HRS.out]
            conv => rhs; unfold Rd.sortS
            rw [if_neg (by rw [HPE.out]; decide), if_neg (by rw [HPE.out]; decide)]
          have hpl := Lib.hid (pushed_len ⟨n, L, M, wt⟩ ⟨k1, t1, u1, v1, x1, y1, z1⟩)
          go_wp2_with fail
          refine CP.out.mono ?_
          rintro e w5 ⟨A3, A4, c3, c4, rfl, hq5, hr5, ht5, hf5⟩
          have HO5 := Lib.hid (own_tw HS4.out.own ht5 (own_ne' HS4.out.own HS4.out.q.blk (by decide)) HS4.out.ap)
          have HQ5 := Lib.hid hq5
          have HR5 := Lib.hid hr5.1
          have HT5 := Lib.hid ht5
          have HF5 := Lib.hid hf5
          have hbs5 : B ≤ w5.heap.size := Nat.le_trans HB4s.out ht5.size
          have hlen : (Rd.pushed ⟨n, L, M, wt⟩ ⟨k1, t1, u1, v1, x1, y1, z1⟩).2.length ≤ 5000 := by have h9 : _ + _ = wt.length + 1 := hpl.out; have := HMK.out; omega
          have hlen2 : out.length ≤ 1000000000 := by have := HS.out.len; have := HL.out; omega
          clear hq5 hr5 ht5 hf5 CP e0 e1 e2 e3 e4 e5 e6
          obtain ⟨nr, HNR⟩ : ∃ nr, Hid ((Rd.pushed ⟨n, L, M, wt⟩ ⟨k1, t1, u1, v1, x1, y1, z1⟩).2.length = nr) := ⟨_, rfl⟩
          rw [HNR.out] at hlen ⊢
          go_wp2_with (at_builtin; (refine wpList_applF _ rfl (.tmp 37) (.tmp 39) B As cs rfl out (by simp [Act.eval]) HO5.out A4 c4 nr _ HNR.out (by simp [Act.eval]) HR5.out (by omega) hbs5 ?_; intro A6 c6 w6 HO6 HG6 HF6))
          go_wp2
          go_roundw
          case rel => exact ⟨j + 1, _, out ++ (Rd.pushed ⟨n, L, M, wt⟩ ⟨k1, t1, u1, v1, x1, y1, z1⟩).2, nl, A6, c6, A3, c3, rfl, by rw [List.length_append], by go_num, by omega, HS4.out.push HB4s.out HCE.out HMK.out.1 HMK.out.2 HRS2.out HQ5.out HT5.out HF5.out HO6.out HG6.out HF6.out⟩
          case measure => simp [RowKit.intOf]; try omega
        · by_cases hX2 : X = 10
          · subst hX2
            have HRS2 : Hid (Rd.sortS ⟨n, L, M, wt⟩ out (nl + 1) (l.drop (j + 1)) = sortF k l) := by
              show _ = _
              rw [← HRS.out]
              conv => rhs; unfold Rd.sortS
              rw [if_pos HPE.out]
            have f1 : IntKind.i64.wrap (nl + 1) = nl + 1 := IntWalk.i64_in _ (by have := HS.out.late; have := HL.out; omega)
            have HS5 : Hid (SL B P l (sortF k l) W3 (j + 1) ⟨n, L, M, wt⟩ out (nl + 1) As cs A1 c1 w4) := ⟨HS4.out.q, HS4.out.v, HS4.out.own, HS4.out.ap, HS4.out.bel, HRS2.out, by have := HS4.out.len; omega, by have := HS4.out.late; omega⟩
            clear e0 e1 e2 e3 e4 e5 e6 hX
            go_wp2
            go_roundw
            case rel => exact ⟨j + 1, _, out, nl + 1, As, cs, A1, c1, by go_num, rfl, by go_num, by omega, HS5.out⟩
            case measure => simp [RowKit.intOf]; try omega
          · have d0 : (X == 0) = false := by simpa using hX
            have d1 : (X == 10) = false := by simpa using hX2
            have HRS2 : Hid (sortF k l = ([], 0, X)) := by
              show _ = _
              rw [← HRS.out]
              conv => lhs; unfold Rd.sortS
              rw [if_neg (by rw [HPE.out]; exact hX2), if_pos (by rw [HPE.out]; exact hX), HPE.out]
            clear e0 e1 e2 e3 e4 e5 e6 hX hX2
            go_wp2
            refine ret_tmp3 (p := 4) (q := 5) (r := 6) Try.results14 rfl _ _ _ rfl rfl rfl ?_
            exact ⟨[], 0, X, none, 0, rfl, HRS2.out, RX.nil_ _ _ _ _, HB1.out.trans ((HB13.out.trans (below_le HS4.out.bel HB1s.out)).mono HB1.out.size)⟩
      · obtain rfl : j = l.length := by omega
        have HV := Lib.hid HS.out.v
        have CR := Lib.hid (release_any B P A1 c1 ⟨n, L, M, wt⟩ L (by obtain ⟨i1, i2, i3, i4, i5, -⟩ := HV.out; dsimp only at i1 i2 i3 i4 i5; omega) wr HS.out.q HV.out.2.2.2.2.2.2.2 (by have := HV.out.2.2.2.2.2.1; dsimp only at this; show wt.length ≤ _; omega))
        have HRS : Hid (sortF k l = (out ++ (Rd.rel ⟨n, L, M, wt⟩ L).2, nl, 0)) := by
          show _ = _
          rw [← HS.out.res, List.drop_length]
          rfl
        obtain ⟨q0, q1, q2, q3⟩ := HS.out.q.cells
        dsimp only at q0 q1 q2 q3
        have hpl : Hid ((Rd.rel ⟨n, L, M, wt⟩ L).2.length ≤ 5000) := by
          show (Rd.upto L wt).length ≤ _
          have := Rd.len_split L wt
          have := HV.out.2.2.2.2.2.1
          dsimp only at this
          omega
        go_wp2_with fail
        refine CR.out.mono ?_
        rintro e w5 ⟨A3, A4, c3, c4, rfl, hq5, hr5, ht5, hf5⟩
        have HO5 := Lib.hid (own_tw HS.out.own ht5 (own_ne' HS.out.own HS.out.q.blk (by decide)) (fun q hq e => by cases e))
        have HR5 := Lib.hid hr5.1
        have hbs5 : B ≤ w5.heap.size := Nat.le_trans HBr.out ht5.size
        have HB5 : Hid (Below B W3 w5) := HS.out.bel.trans (ht5.below HS.out.q.hP (fun q hq => by cases hq) HBr.out)
        have hlen2 : out.length ≤ 1000000000 := by have := HS.out.len; have := HL.out; omega
        clear hq5 hr5 ht5 hf5 CR q0 q1 q2 q3
        obtain ⟨nr, HNR⟩ : ∃ nr, Hid ((Rd.rel ⟨n, L, M, wt⟩ L).2.length = nr) := ⟨_, rfl⟩
        have hlen : nr ≤ 5000 := by rw [← HNR.out]; exact hpl.out
        rw [HNR.out]
        go_wp2_with (at_builtin; (refine wpList_applF _ rfl (.tmp 46) (.tmp 50) B As cs rfl out (by simp [Act.eval]) HO5.out A4 c4 nr _ HNR.out (by simp [Act.eval]) HR5.out (by omega) hbs5 ?_; intro A6 c6 w6 HO6 HG6 HF6))
        have HB6 : Hid (Below B W3 w6) := HB5.out.grown HG6.out hbs5 (fun k hk => (HO5.out.lt k hk).1)
        go_wp2
        refine ret_tmp3 (p := 4) (q := 5) (r := 6) Try.results14 rfl _ _ _ rfl rfl rfl ?_
        exact ⟨_, nl, 0, A6, c6, by simp, HRS.out, RX.of_own HO6.out, HB1.out.trans ((HB13.out.trans (below_le HB6.out HB1s.out)).mono HB1.out.size)⟩
end Go.Proofs.Ytgdhjllfdndmnaa
