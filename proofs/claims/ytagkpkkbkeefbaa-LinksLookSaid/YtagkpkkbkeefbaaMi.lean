/-
  LinksLook, walked.
-/
import Derived.Test.YtagkpkkbkeefbaaMg
import Derived.Test.YtagkpkkbkeefbaaMh
namespace Go.Proofs.Ytagkpkkbkeefbaa
open Go.RowKit Go.Lib

/-- the law's state: the deck in block G, a state in the box ks -/
structure LK (w : World) (G ks : Nat) (A : Option Addr) (c : Nat) (L : List Int) (N : Int) (As : Option Addr) (cs : Nat) (l : List Ls.Lk) (wr : World) : Prop where
  dk : ∃ m, Dk w.heap.size wr G A c L m
  s : SX ks N As cs l wr
  bel : Below w.heap.size w wr
  lg : w.heap.size ≤ G
  l4 : G < ks
  len : l.length ≤ 10000
section
variable {w : World} {G ks : Nat} {A : Option Addr} {c : Nat} {L : List Int} {N : Int} {As : Option Addr} {cs : Nat} {l : List Ls.Lk} {wr w' : World}
theorem LK.go (h : LK w G ks A c L N As cs l wr) (hb : Below wr.heap.size wr w') : LK w G ks A c L N As cs l w' := by
  obtain ⟨m, hd⟩ := h.dk
  exact ⟨⟨m, hd.go hb⟩, h.s.go hb, h.bel.trans (hb.mono h.bel.size), h.lg, h.l4, h.len⟩
theorem LK.next {m : Nat} (h : LK w G ks A c L N As cs l wr) (hd : Dk w.heap.size w' G A c L m) (hg : wr.grownBy w' (some G)) : LK w G ks A c L N As cs l w' := by
  have h4 := h.l4
  obtain ⟨m0, h0⟩ := h.dk
  exact ⟨⟨m, hd⟩, ⟨(hg.block _ (lt_of_some h.s.b) (fun e => by injection e with e; omega)).trans h.s.b, (h.s.rl.keepG encL (n := 6) (by decide) h0.blk hg).2⟩, h.bel.grown hg h.bel.size (fun k hk => by injection hk with hk; have := h.lg; omega), h.lg, h4, h.len⟩
theorem LK.put {N' : Int} {A' : Option Addr} {c' : Nat} {l' : List Ls.Lk} (h : LK w G ks A c L N As cs l wr) (hr : RL wr.heap.size wr A' c' l') (hl : l'.length ≤ 10000) :
    LK w G ks A c L N' A' c' l' ((wr.setCell ⟨ks, 0, none⟩ (.int .i64 N')).setCell ⟨ks, 1, none⟩ (.slice A' l'.length c')) := by
  have h4 := h.l4
  have hlg := h.lg
  obtain ⟨m0, h0⟩ := h.dk
  have e1 := setCell_cells h.s.b 0 (.int .i64 N')
  have e2 := setCell_cells e1 1 (.slice A' l'.length c')
  have hbk : Below ks wr ((wr.setCell ⟨ks, 0, none⟩ (.int .i64 N')).setCell ⟨ks, 1, none⟩ (.slice A' l'.length c')) := ((Below.refl _ _).setCell (p := ⟨ks, 0, none⟩) (Nat.le_refl _) _).setCell (p := ⟨ks, 1, none⟩) (Nat.le_refl _) _
  have hgr : wr.grownBy ((wr.setCell ⟨ks, 0, none⟩ (.int .i64 N')).setCell ⟨ks, 1, none⟩ (.slice A' l'.length c')) (some ks) := (grown_trans set_grown set_grown)
  exact ⟨⟨m0, h0.goB hbk h4⟩, ⟨e2, (hr.keepG encL (n := 6) (by decide) h.s.b hgr).2⟩, h.bel.trans (hbk.mono (by omega)), hlg, h4, hl⟩
theorem LX.lk (h : LX w G ks A c L N As cs l wr) (hl : l.length ≤ 10000) : LK w G ks A c L N As cs l wr := ⟨h.dk, h.sx, h.bel, h.lg, h.l4, hl⟩
end
theorem box8 {wr : World} {X : Nat} {T : TypeId} {q0 q1 q2 q3 q4 q5 q6 q7 : Int} (h : wr.heap[X]? = some (.cells #[.int .i64 q0, .int .i64 q1, .int .i64 q2, .int .i64 q3, .int .i64 q4, .int .i64 q5, .int .i64 q6, .int .i64 q7] T (0, 0))) (k : Nat) (hk : k < 2) :
    ∃ p0 p1 p2 p3 : Int, wr.cell? ⟨X, k * 4, none⟩ = some (.int .i64 p0) ∧ wr.cell? ⟨X, k * 4 + 1, none⟩ = some (.int .i64 p1) ∧ wr.cell? ⟨X, k * 4 + 2, none⟩ = some (.int .i64 p2) ∧ wr.cell? ⟨X, k * 4 + 3, none⟩ = some (.int .i64 p3) := by
  obtain rfl | rfl : k = 0 ∨ k = 1 := by omega
  · exact ⟨q0, q1, q2, q3, Go.Joins.cell_of_block h 0, Go.Joins.cell_of_block h 1, Go.Joins.cell_of_block h 2, Go.Joins.cell_of_block h 3⟩
  · exact ⟨q4, q5, q6, q7, Go.Joins.cell_of_block h 4, Go.Joins.cell_of_block h 5, Go.Joins.cell_of_block h 6, Go.Joins.cell_of_block h 7⟩
theorem where_eq {b : Prop} [Decidable b] {n n1 n2 : Int} {l l1 l2 : List Ls.Lk} (h1 : if b then n1 = n ∧ l1 = l else n1 = 0 ∧ l1 = []) (h2 : if b then n2 = n ∧ l2 = l else n2 = 0 ∧ l2 = []) : n1 = n2 ∧ l1 = l2 ∧ l1.length ≤ l.length := by
  split at h1
  · rw [if_pos (by assumption)] at h2
    obtain ⟨rfl, rfl⟩ := h1
    obtain ⟨rfl, rfl⟩ := h2
    exact ⟨rfl, rfl, Nat.le_refl _⟩
  · rw [if_neg (by assumption)] at h2
    obtain ⟨rfl, rfl⟩ := h1
    obtain ⟨rfl, rfl⟩ := h2
    exact ⟨rfl, rfl, Nat.zero_le _⟩
theorem graph_eq {b : Prop} [Decidable b] {n n1 n2 : Int} {l l1 l2 : List Ed} (h1 : if b then n1 = n ∧ l1 = l else n1 = 0 ∧ l1 = []) (h2 : if b then n2 = n ∧ l2 = l else n2 = 0 ∧ l2 = []) : n1 = n2 ∧ l1 = l2 ∧ l1.length ≤ l.length := by
  split at h1
  · rw [if_pos (by assumption)] at h2
    obtain ⟨rfl, rfl⟩ := h1
    obtain ⟨rfl, rfl⟩ := h2
    exact ⟨rfl, rfl, Nat.le_refl _⟩
  · rw [if_neg (by assumption)] at h2
    obtain ⟨rfl, rfl⟩ := h1
    obtain ⟨rfl, rfl⟩ := h2
    exact ⟨rfl, rfl, Nat.zero_le _⟩
set_option maxHeartbeats 8000000 in
set_option maxRecDepth 100000 in
theorem look_law (A : Option Addr) (c : Nat) (L : List Int) (B : Option Addr) (d : Nat) (Lb : List Int) (u v sg ls : Int) (w : World) (h : RD w A c L) (hL : L.length ≤ 17592186044416) (hB : RD w B d Lb) (_ : Lb.length ≤ 17592186044416) :
    Calls Try.prog 4 #[.slice A L.length c, .slice B Lb.length d, .int .i64 u, .int .i64 v, .int .i64 sg, .int .i64 ls] w fun e w' => e = .returned (.bool true) ∧ Below w.heap.size w w' := by
  have CN := Lib.hid (new_any A c L w h)
  have HLB := Lib.hid hB
  clear h hB
  by_cases h40 : Lb.length > 40
  · have hd : decide ((Lb.length : Int) > 40) = true := by rw [decide_eq_true_eq]; omega
    clear h40
    go_enter Try.func4, Try.ntmps4
    go_wp2_with fail
    refine (awake_any _).mono ?_
    rintro e v9 ⟨rfl, hb9⟩
    have HB := Lib.hid hb9
    clear hb9
    go_wp2
    go_ret
    exact ⟨rfl, HB.out⟩
  · have hd : decide ((Lb.length : Int) > 40) = false := by rw [decide_eq_false_iff_not]; omega
    have HL40 : Hid (Lb.length ≤ 40) := by show _ ≤ _; omega
    clear h40
    go_enter Try.func4, Try.ntmps4
    go_wp2_with fail
    refine CN.out.mono ?_
    rintro e v0 ⟨rfl, hd0, hb0⟩
    have CSt := Lib.hid (state_any w.heap.size w.heap.size A c L 0 7 v0 hd0 hL (by decide))
    have HB0 := Lib.hid hb0
    have hG0 := Lib.hid hd0.lt
    clear hd0 hb0 CN hd
    obtain ⟨G, hG⟩ : ∃ G, Hid (w.heap.size = G) := ⟨_, rfl⟩
    go_wp2_with fail
    refine CSt.out.mono ?_
    rintro e v1 ⟨N, l, As, cs, m1, rfl, hN, ⟨hV, htm⟩, hl, ho, D1, g1⟩
    have HLX := Lib.hid (LX.start (n := (N : Int)) (Nat.le_refl _) hG0.out HB0.out D1 g1 ho)
    have HLK := Lib.hid (HLX.out.lk hl)
    obtain ⟨ks, Hks⟩ : ∃ k, Hid (v1.heap.size = k) := ⟨_, rfl⟩
    obtain ⟨us, Hus⟩ : ∃ u, Hid (v1.alloc (.cells #[.int .i64 (N : Nat), .slice As l.length cs] 24) = u) := ⟨_, rfl⟩
    rw [Hks.out, Hus.out, hG.out] at HLK
    clear hV hl ho D1 g1 HB0 CSt htm hG0 HLX hN
    go_wp2_with fail
    rw [Hus.out]
    try simp only [Hks.out, hG.out]
    obtain ⟨m2, hd2⟩ := HLK.out.dk
    refine (next_any w.heap.size G A c L m2 6 _ hd2 hL (by decide)).mono ?_
    rintro e y9 ⟨r9, m3, rfl, hr0, hr1, D2, g2⟩
    replace HLK := Lib.hid (HLK.out.next D2 g2)
    clear D2 g2 hd2
    by_cases hr : r9 = 0
    · have hr5 : (r9 == 0) = true := by simp [hr]
      clear hr hr0 hr1
      have s0 := HLK.out.s.c0; have s1 := HLK.out.s.c1; have sl := HLK.out.s.lt
      go_wp2_with fail
      clear s0 s1 sl
      obtain ⟨m2, hd2⟩ := HLK.out.dk
      refine (spoilt_any w.heap.size G A c L m2 (N : Int) As cs l _ hd2 hL HLK.out.s.rl (by have := HLK.out.len; omega)).mono ?_
      rintro e y8 ⟨N', l', A', c', rfl, hl', hr', ⟨m3, D2⟩, g2⟩
      replace HLK := Lib.hid (HLK.out.next D2 g2)
      have HPT := Lib.hid (HLK.out.put (N' := N') hr' (by rw [hl']; exact HLK.out.len))
      have s0 := HLK.out.s.c0; have s1 := HLK.out.s.c1; have sl := HLK.out.s.lt
      have z0 := Go.Joins.unfrozen_of_block HLK.out.s.b 0
      have z1 := Go.Joins.unfrozen_of_block HLK.out.s.b 1
      obtain ⟨y7, hy7⟩ : ∃ k, Hid (((y8.setCell ⟨ks, 0, none⟩ (.int .i64 N')).setCell ⟨ks, 1, none⟩ (.slice A' l'.length c')) = k) := ⟨_, rfl⟩
      rw [hy7.out] at HPT
      clear D2 g2 hd2 hr' hl'
      clear HLK
      have HLK := HPT
      clear HPT
      go_wp2_with fail
      rw [hy7.out]
      clear s0 s1 sl z0 z1
      clear hy7
      obtain ⟨m2, hd2⟩ := HLK.out.dk
      refine (next_any w.heap.size G A c L m2 7 _ hd2 hL (by decide)).mono ?_
      rintro e y0 ⟨r0, m3, rfl, hr0, hr1, D2, g2⟩
      replace HLK := Lib.hid (HLK.out.next D2 g2)
      clear D2 g2 hd2
      clear hr0 hr1
      go_wp2_with fail
      obtain ⟨m2, hd2⟩ := HLK.out.dk
      refine (next_any w.heap.size G A c L m2 7 _ hd2 hL (by decide)).mono ?_
      rintro e y1 ⟨r1, m3, rfl, hr0, hr1, D2, g2⟩
      replace HLK := Lib.hid (HLK.out.next D2 g2)
      clear D2 g2 hd2
      clear hr0 hr1
      go_wp2_with fail
      obtain ⟨m2, hd2⟩ := HLK.out.dk
      refine (next_any w.heap.size G A c L m2 3 _ hd2 hL (by decide)).mono ?_
      rintro e y2 ⟨r2, m3, rfl, hr0, hr1, D2, g2⟩
      replace HLK := Lib.hid (HLK.out.next D2 g2)
      clear D2 g2 hd2
      have hw2 : IntKind.i64.wrap (r2 - 1) = r2 - 1 := IntWalk.i64_in _ (by omega)
      clear hr0 hr1
      go_wp2_with fail
      obtain ⟨m2, hd2⟩ := HLK.out.dk
      refine (next_any w.heap.size G A c L m2 9 _ hd2 hL (by decide)).mono ?_
      rintro e y3 ⟨r3, m3, rfl, hr0, hr1, D2, g2⟩
      replace HLK := Lib.hid (HLK.out.next D2 g2)
      clear D2 g2 hd2
      clear hr0 hr1
      obtain ⟨q2, hq2⟩ : ∃ q, Hid (r2 - 1 = q) := ⟨_, rfl⟩
      try rw [hq2.out]
      clear hw2
      obtain ⟨X, hX⟩ : ∃ k, Hid (y3.heap.size = k) := ⟨_, rfl⟩
      obtain ⟨uX, huX⟩ : ∃ k, Hid (y3.alloc (.cells #[.int .i64 u, .int .i64 v, .int .i64 sg, .int .i64 ls, .int .i64 r0, .int .i64 r1, .int .i64 q2, .int .i64 r3] 47) = k) := ⟨_, rfl⟩
      have HBX : Hid (Below y3.heap.size y3 uX) := by show Below _ _ _; rw [← huX.out]; exact below_new _ _
      have HX : Hid (uX.heap[X]? = some (.cells #[.int .i64 u, .int .i64 v, .int .i64 sg, .int .i64 ls, .int .i64 r0, .int .i64 r1, .int .i64 q2, .int .i64 r3] 47)) := by show _ = _; rw [← huX.out, ← hX.out]; exact heap_alloc_new _ _
      replace HLK := Lib.hid (HLK.out.go HBX.out)
      go_wp2
      try rw [huX.out]
      try simp only [hX.out]
      go_loopw [56] (fun i wr => ∃ (k : Nat), k ≤ 2 ∧ i = .int .i64 k ∧ Hid (LK w G ks A c L N' A' c' l' wr) ∧ Hid (Below uX.heap.size uX wr)) (fun i _ => 2 - (RowKit.intOf i).toNat)
      case atStart => exact ⟨0, Nat.zero_le _, rfl, HLK.out, Below.refl _ _⟩
      case round =>
        obtain ⟨k, hk, rfl, HLr, HBr⟩ := hrel
        by_cases hlt : k < 2
        · obtain ⟨p0, p1, p2, p3, c0, c1, c2, c3⟩ := box8 ((HBr.out.block X (lt_of_some HX.out)).trans HX.out) k hlt
          have hXl : X < wr.heap.size := Nat.lt_of_lt_of_le (lt_of_some HX.out) HBr.out.size
          obtain ⟨kp, hkp⟩ : ∃ k, Hid (wr.heap.size = k) := ⟨_, rfl⟩
          obtain ⟨w1, hw1⟩ : ∃ k, Hid (wr.alloc (.cells #[.int .i64 p0, .int .i64 p1, .int .i64 p2, .int .i64 p3] 47) = k) := ⟨_, rfl⟩
          have HB1 : Hid (Below wr.heap.size wr w1) := by show Below _ _ _; rw [← hw1.out]; exact below_new _ _
          have HP : Hid (w1.heap[kp]? = some (.cells #[.int .i64 p0, .int .i64 p1, .int .i64 p2, .int .i64 p3] 47)) := by show _ = _; rw [← hw1.out, ← hkp.out]; exact heap_alloc_new _ _
          replace HLr := Lib.hid (HLr.out.go HB1.out)
          replace HBr : Hid (Below uX.heap.size uX w1) := below_up HBr.out HB1.out
          have HRDr := Lib.hid (HLB.out.go HLr.out.bel)
          have s0 := HLr.out.s.c0; have s1 := HLr.out.s.c1; have sl := HLr.out.s.lt
          rw [← hw1.out] at s0 s1 sl
          go_wp2_with fail
          rw [hw1.out]
          try simp only [hkp.out]
          clear s0 s1 sl c0 c1 c2 c3 hXl
          refine (where_any N' A' B c' d l' Lb p2 p3 _ HLr.out.s.rl HRDr.out (by have := HLr.out.len; omega) (by have := HL40.out; omega)).mono ?_
          rintro e va ⟨na, la, Aa, ca, rfl, hif, hrl, hb⟩
          have HIF := Lib.hid hif
          have HBa := Lib.hid hb
          have HRa := Lib.hid hrl
          replace HLr := Lib.hid (HLr.out.go hb)
          clear hif hb hrl
          obtain ⟨ka, hka⟩ : ∃ k, Hid (va.heap.size = k) := ⟨_, rfl⟩
          obtain ⟨ua, hua⟩ : ∃ k, Hid (va.alloc (.cells #[.int .i64 na, .slice Aa la.length ca] 24) = k) := ⟨_, rfl⟩
          have BU : Hid (Below va.heap.size va ua) := by show Below _ _ _; rw [← hua.out]; exact below_new _ _
          have SA : Hid (SX ka na Aa ca la ua) := by show SX _ _ _ _ _ _; rw [← hka.out, ← hua.out]; exact SX.new HRa.out _
          replace HBr : Hid (Below uX.heap.size uX ua) := below_up (below_up HBr.out HBa.out) BU.out
          replace HP : Hid (ua.heap[kp]? = some (.cells #[.int .i64 p0, .int .i64 p1, .int .i64 p2, .int .i64 p3] 47)) := (BU.out.block _ (Nat.lt_of_lt_of_le (lt_of_some HP.out) HBa.out.size)).trans ((HBa.out.block _ (lt_of_some HP.out)).trans HP.out)
          replace HLr := Lib.hid (HLr.out.go BU.out)
          have HRDr := Lib.hid (HLB.out.go HLr.out.bel)
          have s0 := HLr.out.s.c0; have s1 := HLr.out.s.c1; have sl := HLr.out.s.lt
          have c2 := Go.Joins.cell_of_block HP.out 2; have c3 := Go.Joins.cell_of_block HP.out 3; have cp := lt_of_some HP.out
          simp only [List.getElem?_toArray, List.getElem?_cons_succ, List.getElem?_cons_zero] at c2 c3
          rw [← hua.out] at s0 s1 sl c2 c3 cp
          obtain ⟨E, hE⟩ : ∃ E, Hid (Ls.chkS N' l' = E) := ⟨_, rfl⟩
          rw [hE.out]
          go_wp2_with fail
          rw [hua.out]
          try simp only [hka.out]
          clear s0 s1 sl c2 c3 cp
          refine (rwhere_any N' A' B c' d l' Lb p2 p3 _ HLr.out.s.rl HRDr.out (by have := HLr.out.len; omega) (by have := HL40.out; omega)).mono ?_
          rintro e vb ⟨nb, lb, Ab, cb, rfl, hif, hrl, hb⟩
          have HEQ := Lib.hid (where_eq HIF.out hif)
          have HBb := Lib.hid hb
          have HRb := Lib.hid hrl
          replace HLr := Lib.hid (HLr.out.go hb)
          replace SA := Lib.hid (SA.out.go hb)
          clear hif hb hrl HIF HBa BU
          obtain ⟨kb, hkb⟩ : ∃ k, Hid (vb.heap.size = k) := ⟨_, rfl⟩
          obtain ⟨ub, hub⟩ : ∃ k, Hid (vb.alloc (.cells #[.int .i64 nb, .slice Ab lb.length cb] 24) = k) := ⟨_, rfl⟩
          have BU : Hid (Below vb.heap.size vb ub) := by show Below _ _ _; rw [← hub.out]; exact below_new _ _
          have SB : Hid (SX kb nb Ab cb lb ub) := by show SX _ _ _ _ _ _; rw [← hkb.out, ← hub.out]; exact SX.new HRb.out _
          replace HBr : Hid (Below uX.heap.size uX ub) := below_up (below_up HBr.out HBb.out) BU.out
          replace HP : Hid (ub.heap[kp]? = some (.cells #[.int .i64 p0, .int .i64 p1, .int .i64 p2, .int .i64 p3] 47)) := (BU.out.block _ (Nat.lt_of_lt_of_le (lt_of_some HP.out) HBb.out.size)).trans ((HBb.out.block _ (lt_of_some HP.out)).trans HP.out)
          replace HLr := Lib.hid (HLr.out.go BU.out)
          replace SA := Lib.hid (SA.out.go BU.out)
          rw [hE.out]
          obtain ⟨fv, hfv⟩ : ∃ fv, Hid (Ls.findS N' l' p0 p1 = fv) := ⟨_, rfl⟩
          have C24 : Hid (∀ x' : More ub, Calls Try.prog 24 #[.agg #[.int .i64 N', .slice A' l'.length c'], .int .i64 p0, .int .i64 p1] (over ub x') fun e w' => e = .returned (.int .i64 fv) ∧ Below (over ub x').heap.size (over ub x') w') := by
            intro x'
            rw [← hfv.out]
            exact lfind_any N' A' c' l' p0 p1 (over ub x') (HLr.out.s.rl.up (over_below _ x')) (by have := HLr.out.len; omega)
          have C25 : Hid (∀ x' : More ub, Calls Try.prog 25 #[.agg #[.int .i64 N', .slice A' l'.length c'], .int .i64 p0, .int .i64 p1] (over ub x') fun e w' => e = .returned (.int .i64 fv) ∧ Below (over ub x').heap.size (over ub x') w') := by
            intro x'
            rw [← hfv.out]
            exact rfind_any N' A' c' l' p0 p1 (over ub x') (HLr.out.s.rl.up (over_below _ x')) (by have := HLr.out.len; omega)
          have C17 : Hid (∀ x' : More ub, Calls Try.prog 17 #[.agg #[.int .i64 na, .slice Aa la.length ca], .agg #[.int .i64 nb, .slice Ab lb.length cb]] (over ub x') fun e w' => e = .returned (.bool true) ∧ Below (over ub x').heap.size (over ub x') w') := by
            intro x'
            have := sameS_any na nb Aa Ab ca cb la lb (over ub x') (SA.out.rl.up (over_below _ x')) (SB.out.rl.up (over_below _ x')) (by have h1 := HEQ.out.2.2; have h2 := wh_length Lb p2 p3 l'; have h3 := HLr.out.len; omega)
            rwa [show sameS na nb la lb = true by simp [sameS, HEQ.out.1, HEQ.out.2.1]] at this
          have s0 := HLr.out.s.c0; have s1 := HLr.out.s.c1; have sl := HLr.out.s.lt
          have a0 := SA.out.c0; have a1 := SA.out.c1; have al := SA.out.lt
          have b0 := SB.out.c0; have b1 := SB.out.c1; have bl := SB.out.lt
          have c0 := Go.Joins.cell_of_block HP.out 0; have c1 := Go.Joins.cell_of_block HP.out 1; have cp := lt_of_some HP.out
          simp only [List.getElem?_toArray, List.getElem?_cons_succ, List.getElem?_cons_zero] at c0 c1
          clear HBb HRb HEQ hE hfv HRa HRDr HB1
          go_wp2
          rw [hub.out]
          try simp only [hkb.out]
          refine wp_region_over (by kernel_rfl) (by kernel_rfl) ?_
          repeat (go_big_quiet_step (first | (go_at_call 24; exact calls_over (C24.out _)) | (go_at_call 25; exact calls_over (C25.out _)) | (go_at_call 17; exact calls_over (C17.out _))))
          refine wpQuiet_nil ?_
          rintro _ ⟨zz, rfl⟩
          have hbz := Lib.hid (over_below _ zz)
          clear s0 s1 sl a0 a1 al b0 b1 bl c0 c1 cp C24 C25 C17
          go_wp2
          go_roundw
          case rel => exact ⟨k + 1, hlt, by go_num, HLr.out.go hbz.out, below_up HBr.out hbz.out⟩
          case measure => simp [RowKit.intOf]; omega
        · obtain rfl : k = 2 := by omega
          clear HX HBX HBr HLK hk hlt
          have s0 := HLr.out.s.c0; have s1 := HLr.out.s.c1; have sl := HLr.out.s.lt
          go_wp2_with fail
          clear s0 s1 sl
          refine (lgraph_any N' A' c' l' _ HLr.out.s.rl (by have := HLr.out.len; omega)).mono ?_
          rintro e va ⟨na, la, Aa, ca, rfl, hif, hre, hb⟩
          have HIF := Lib.hid hif
          have HRa := Lib.hid hre
          replace HLr := Lib.hid (HLr.out.go hb)
          clear hif hb hre
          obtain ⟨ka, hka⟩ : ∃ k, Hid (va.heap.size = k) := ⟨_, rfl⟩
          obtain ⟨ua, hua⟩ : ∃ k, Hid (va.alloc (.cells #[.int .i64 na, .slice Aa la.length ca] 54) = k) := ⟨_, rfl⟩
          have BU : Hid (Below va.heap.size va ua) := by show Below _ _ _; rw [← hua.out]; exact below_new _ _
          have BA : Hid (ua.heap[ka]? = some (.cells #[.int .i64 na, .slice Aa la.length ca] 54)) := by show _ = _; rw [← hua.out, ← hka.out]; exact heap_alloc_new _ _
          replace HRa := Lib.hid (HRa.out.up BU.out)
          replace HLr := Lib.hid (HLr.out.go BU.out)
          have s0 := HLr.out.s.c0; have s1 := HLr.out.s.c1; have sl := HLr.out.s.lt
          rw [← hua.out] at s0 s1 sl
          obtain ⟨E, hE⟩ : ∃ E, Hid (Ls.chkS N' l' = E) := ⟨_, rfl⟩
          rw [hE.out]
          go_wp2_with fail
          rw [hua.out]
          try simp only [hka.out]
          clear s0 s1 sl
          refine (rgraph_any N' A' c' l' _ HLr.out.s.rl (by have := HLr.out.len; omega)).mono ?_
          rintro e vb ⟨nb, lb, Ab, cb, rfl, hif, hre, hb⟩
          have HEQ := Lib.hid (graph_eq HIF.out hif)
          have HRb := Lib.hid hre
          replace HRa := Lib.hid (HRa.out.up hb)
          replace BA : Hid (vb.heap[ka]? = some (.cells #[.int .i64 na, .slice Aa la.length ca] 54)) := (hb.block _ (lt_of_some BA.out)).trans BA.out
          replace HLr := Lib.hid (HLr.out.go hb)
          clear hif hb hre HIF BU
          obtain ⟨kb, hkb⟩ : ∃ k, Hid (vb.heap.size = k) := ⟨_, rfl⟩
          obtain ⟨ub, hub⟩ : ∃ k, Hid (vb.alloc (.cells #[.int .i64 nb, .slice Ab lb.length cb] 54) = k) := ⟨_, rfl⟩
          have BU : Hid (Below vb.heap.size vb ub) := by show Below _ _ _; rw [← hub.out]; exact below_new _ _
          have BB : Hid (ub.heap[kb]? = some (.cells #[.int .i64 nb, .slice Ab lb.length cb] 54)) := by show _ = _; rw [← hub.out, ← hkb.out]; exact heap_alloc_new _ _
          replace HRa := Lib.hid (HRa.out.up BU.out)
          replace HRb := Lib.hid (HRb.out.up BU.out)
          replace BA : Hid (ub.heap[ka]? = some (.cells #[.int .i64 na, .slice Aa la.length ca] 54)) := (BU.out.block _ (lt_of_some BA.out)).trans BA.out
          replace HLr := Lib.hid (HLr.out.go BU.out)
          have HLE : Hid (la.length ≤ 10000) := by
            show _ ≤ _
            have h1 := HEQ.out.2.2
            have h2 : (Ls.edges l').length = l'.length := by simp [Ls.edges]
            have h3 := HLr.out.len
            omega
          have CS := Lib.hid (sameG_any na nb Aa Ab ca cb la lb ub HRa.out HRb.out (by have := HLE.out; omega) (by rw [← HEQ.out.2.1]; have := HLE.out; omega))
          rw [show sameG na nb la lb = true by simp [sameG, eqE, HEQ.out.1, HEQ.out.2.1]] at CS
          rw [hE.out]
          have a0 := Go.Joins.cell_of_block BA.out 0; have a1 := Go.Joins.cell_of_block BA.out 1; have al := lt_of_some BA.out
          have b0 := Go.Joins.cell_of_block BB.out 0; have b1 := Go.Joins.cell_of_block BB.out 1; have bl := lt_of_some BB.out
          simp only [List.getElem?_toArray, List.getElem?_cons_succ, List.getElem?_cons_zero] at a0 a1 b0 b1
          rw [← hub.out] at a0 a1 al b0 b1 bl
          clear HEQ BU
          go_wp2_with fail
          rw [hub.out]
          clear a0 a1 al b0 b1 bl
          refine CS.out.mono ?_
          rintro e v8 ⟨rfl, hb8⟩
          replace HLr := Lib.hid (HLr.out.go hb8)
          clear hb8 CS
          go_wp2_with fail
          refine (awake_any _).mono ?_
          rintro e v9 ⟨rfl, hb9⟩
          have HBE := Lib.hid (below_up HLr.out.bel hb9)
          clear hb9
          go_wp2
          go_ret
          exact ⟨rfl, HBE.out⟩
    · have hr5 : (r9 == 0) = false := by simpa using hr
      clear hr hr0 hr1
      go_wp2_with fail
      obtain ⟨m2, hd2⟩ := HLK.out.dk
      refine (next_any w.heap.size G A c L m2 7 _ hd2 hL (by decide)).mono ?_
      rintro e y0 ⟨r0, m3, rfl, hr0, hr1, D2, g2⟩
      replace HLK := Lib.hid (HLK.out.next D2 g2)
      clear D2 g2 hd2
      clear hr0 hr1
      go_wp2_with fail
      obtain ⟨m2, hd2⟩ := HLK.out.dk
      refine (next_any w.heap.size G A c L m2 7 _ hd2 hL (by decide)).mono ?_
      rintro e y1 ⟨r1, m3, rfl, hr0, hr1, D2, g2⟩
      replace HLK := Lib.hid (HLK.out.next D2 g2)
      clear D2 g2 hd2
      clear hr0 hr1
      go_wp2_with fail
      obtain ⟨m2, hd2⟩ := HLK.out.dk
      refine (next_any w.heap.size G A c L m2 3 _ hd2 hL (by decide)).mono ?_
      rintro e y2 ⟨r2, m3, rfl, hr0, hr1, D2, g2⟩
      replace HLK := Lib.hid (HLK.out.next D2 g2)
      clear D2 g2 hd2
      have hw2 : IntKind.i64.wrap (r2 - 1) = r2 - 1 := IntWalk.i64_in _ (by omega)
      clear hr0 hr1
      go_wp2_with fail
      obtain ⟨m2, hd2⟩ := HLK.out.dk
      refine (next_any w.heap.size G A c L m2 9 _ hd2 hL (by decide)).mono ?_
      rintro e y3 ⟨r3, m3, rfl, hr0, hr1, D2, g2⟩
      replace HLK := Lib.hid (HLK.out.next D2 g2)
      clear D2 g2 hd2
      clear hr0 hr1
      obtain ⟨q2, hq2⟩ : ∃ q, Hid (r2 - 1 = q) := ⟨_, rfl⟩
      try rw [hq2.out]
      clear hw2
      obtain ⟨X, hX⟩ : ∃ k, Hid (y3.heap.size = k) := ⟨_, rfl⟩
      obtain ⟨uX, huX⟩ : ∃ k, Hid (y3.alloc (.cells #[.int .i64 u, .int .i64 v, .int .i64 sg, .int .i64 ls, .int .i64 r0, .int .i64 r1, .int .i64 q2, .int .i64 r3] 47) = k) := ⟨_, rfl⟩
      have HBX : Hid (Below y3.heap.size y3 uX) := by show Below _ _ _; rw [← huX.out]; exact below_new _ _
      have HX : Hid (uX.heap[X]? = some (.cells #[.int .i64 u, .int .i64 v, .int .i64 sg, .int .i64 ls, .int .i64 r0, .int .i64 r1, .int .i64 q2, .int .i64 r3] 47)) := by show _ = _; rw [← huX.out, ← hX.out]; exact heap_alloc_new _ _
      replace HLK := Lib.hid (HLK.out.go HBX.out)
      go_wp2
      try rw [huX.out]
      try simp only [hX.out]
      go_loopw [56] (fun i wr => ∃ (k : Nat), k ≤ 2 ∧ i = .int .i64 k ∧ Hid (LK w G ks A c L (N : Int) As cs l wr) ∧ Hid (Below uX.heap.size uX wr)) (fun i _ => 2 - (RowKit.intOf i).toNat)
      case atStart => exact ⟨0, Nat.zero_le _, rfl, HLK.out, Below.refl _ _⟩
      case round =>
        obtain ⟨k, hk, rfl, HLr, HBr⟩ := hrel
        by_cases hlt : k < 2
        · obtain ⟨p0, p1, p2, p3, c0, c1, c2, c3⟩ := box8 ((HBr.out.block X (lt_of_some HX.out)).trans HX.out) k hlt
          have hXl : X < wr.heap.size := Nat.lt_of_lt_of_le (lt_of_some HX.out) HBr.out.size
          obtain ⟨kp, hkp⟩ : ∃ k, Hid (wr.heap.size = k) := ⟨_, rfl⟩
          obtain ⟨w1, hw1⟩ : ∃ k, Hid (wr.alloc (.cells #[.int .i64 p0, .int .i64 p1, .int .i64 p2, .int .i64 p3] 47) = k) := ⟨_, rfl⟩
          have HB1 : Hid (Below wr.heap.size wr w1) := by show Below _ _ _; rw [← hw1.out]; exact below_new _ _
          have HP : Hid (w1.heap[kp]? = some (.cells #[.int .i64 p0, .int .i64 p1, .int .i64 p2, .int .i64 p3] 47)) := by show _ = _; rw [← hw1.out, ← hkp.out]; exact heap_alloc_new _ _
          replace HLr := Lib.hid (HLr.out.go HB1.out)
          replace HBr : Hid (Below uX.heap.size uX w1) := below_up HBr.out HB1.out
          have HRDr := Lib.hid (HLB.out.go HLr.out.bel)
          have s0 := HLr.out.s.c0; have s1 := HLr.out.s.c1; have sl := HLr.out.s.lt
          rw [← hw1.out] at s0 s1 sl
          go_wp2_with fail
          rw [hw1.out]
          try simp only [hkp.out]
          clear s0 s1 sl c0 c1 c2 c3 hXl
          refine (where_any (N : Int) As B cs d l Lb p2 p3 _ HLr.out.s.rl HRDr.out (by have := HLr.out.len; omega) (by have := HL40.out; omega)).mono ?_
          rintro e va ⟨na, la, Aa, ca, rfl, hif, hrl, hb⟩
          have HIF := Lib.hid hif
          have HBa := Lib.hid hb
          have HRa := Lib.hid hrl
          replace HLr := Lib.hid (HLr.out.go hb)
          clear hif hb hrl
          obtain ⟨ka, hka⟩ : ∃ k, Hid (va.heap.size = k) := ⟨_, rfl⟩
          obtain ⟨ua, hua⟩ : ∃ k, Hid (va.alloc (.cells #[.int .i64 na, .slice Aa la.length ca] 24) = k) := ⟨_, rfl⟩
          have BU : Hid (Below va.heap.size va ua) := by show Below _ _ _; rw [← hua.out]; exact below_new _ _
          have SA : Hid (SX ka na Aa ca la ua) := by show SX _ _ _ _ _ _; rw [← hka.out, ← hua.out]; exact SX.new HRa.out _
          replace HBr : Hid (Below uX.heap.size uX ua) := below_up (below_up HBr.out HBa.out) BU.out
          replace HP : Hid (ua.heap[kp]? = some (.cells #[.int .i64 p0, .int .i64 p1, .int .i64 p2, .int .i64 p3] 47)) := (BU.out.block _ (Nat.lt_of_lt_of_le (lt_of_some HP.out) HBa.out.size)).trans ((HBa.out.block _ (lt_of_some HP.out)).trans HP.out)
          replace HLr := Lib.hid (HLr.out.go BU.out)
          have HRDr := Lib.hid (HLB.out.go HLr.out.bel)
          have s0 := HLr.out.s.c0; have s1 := HLr.out.s.c1; have sl := HLr.out.s.lt
          have c2 := Go.Joins.cell_of_block HP.out 2; have c3 := Go.Joins.cell_of_block HP.out 3; have cp := lt_of_some HP.out
          simp only [List.getElem?_toArray, List.getElem?_cons_succ, List.getElem?_cons_zero] at c2 c3
          rw [← hua.out] at s0 s1 sl c2 c3 cp
          obtain ⟨E, hE⟩ : ∃ E, Hid (Ls.chkS (N : Int) l = E) := ⟨_, rfl⟩
          rw [hE.out]
          go_wp2_with fail
          rw [hua.out]
          try simp only [hka.out]
          clear s0 s1 sl c2 c3 cp
          refine (rwhere_any (N : Int) As B cs d l Lb p2 p3 _ HLr.out.s.rl HRDr.out (by have := HLr.out.len; omega) (by have := HL40.out; omega)).mono ?_
          rintro e vb ⟨nb, lb, Ab, cb, rfl, hif, hrl, hb⟩
          have HEQ := Lib.hid (where_eq HIF.out hif)
          have HBb := Lib.hid hb
          have HRb := Lib.hid hrl
          replace HLr := Lib.hid (HLr.out.go hb)
          replace SA := Lib.hid (SA.out.go hb)
          clear hif hb hrl HIF HBa BU
          obtain ⟨kb, hkb⟩ : ∃ k, Hid (vb.heap.size = k) := ⟨_, rfl⟩
          obtain ⟨ub, hub⟩ : ∃ k, Hid (vb.alloc (.cells #[.int .i64 nb, .slice Ab lb.length cb] 24) = k) := ⟨_, rfl⟩
          have BU : Hid (Below vb.heap.size vb ub) := by show Below _ _ _; rw [← hub.out]; exact below_new _ _
          have SB : Hid (SX kb nb Ab cb lb ub) := by show SX _ _ _ _ _ _; rw [← hkb.out, ← hub.out]; exact SX.new HRb.out _
          replace HBr : Hid (Below uX.heap.size uX ub) := below_up (below_up HBr.out HBb.out) BU.out
          replace HP : Hid (ub.heap[kp]? = some (.cells #[.int .i64 p0, .int .i64 p1, .int .i64 p2, .int .i64 p3] 47)) := (BU.out.block _ (Nat.lt_of_lt_of_le (lt_of_some HP.out) HBb.out.size)).trans ((HBb.out.block _ (lt_of_some HP.out)).trans HP.out)
          replace HLr := Lib.hid (HLr.out.go BU.out)
          replace SA := Lib.hid (SA.out.go BU.out)
          rw [hE.out]
          obtain ⟨fv, hfv⟩ : ∃ fv, Hid (Ls.findS (N : Int) l p0 p1 = fv) := ⟨_, rfl⟩
          have C24 : Hid (∀ x' : More ub, Calls Try.prog 24 #[.agg #[.int .i64 (N : Int), .slice As l.length cs], .int .i64 p0, .int .i64 p1] (over ub x') fun e w' => e = .returned (.int .i64 fv) ∧ Below (over ub x').heap.size (over ub x') w') := by
            intro x'
            rw [← hfv.out]
            exact lfind_any (N : Int) As cs l p0 p1 (over ub x') (HLr.out.s.rl.up (over_below _ x')) (by have := HLr.out.len; omega)
          have C25 : Hid (∀ x' : More ub, Calls Try.prog 25 #[.agg #[.int .i64 (N : Int), .slice As l.length cs], .int .i64 p0, .int .i64 p1] (over ub x') fun e w' => e = .returned (.int .i64 fv) ∧ Below (over ub x').heap.size (over ub x') w') := by
            intro x'
            rw [← hfv.out]
            exact rfind_any (N : Int) As cs l p0 p1 (over ub x') (HLr.out.s.rl.up (over_below _ x')) (by have := HLr.out.len; omega)
          have C17 : Hid (∀ x' : More ub, Calls Try.prog 17 #[.agg #[.int .i64 na, .slice Aa la.length ca], .agg #[.int .i64 nb, .slice Ab lb.length cb]] (over ub x') fun e w' => e = .returned (.bool true) ∧ Below (over ub x').heap.size (over ub x') w') := by
            intro x'
            have := sameS_any na nb Aa Ab ca cb la lb (over ub x') (SA.out.rl.up (over_below _ x')) (SB.out.rl.up (over_below _ x')) (by have h1 := HEQ.out.2.2; have h2 := wh_length Lb p2 p3 l; have h3 := HLr.out.len; omega)
            rwa [show sameS na nb la lb = true by simp [sameS, HEQ.out.1, HEQ.out.2.1]] at this
          have s0 := HLr.out.s.c0; have s1 := HLr.out.s.c1; have sl := HLr.out.s.lt
          have a0 := SA.out.c0; have a1 := SA.out.c1; have al := SA.out.lt
          have b0 := SB.out.c0; have b1 := SB.out.c1; have bl := SB.out.lt
          have c0 := Go.Joins.cell_of_block HP.out 0; have c1 := Go.Joins.cell_of_block HP.out 1; have cp := lt_of_some HP.out
          simp only [List.getElem?_toArray, List.getElem?_cons_succ, List.getElem?_cons_zero] at c0 c1
          clear HBb HRb HEQ hE hfv HRa HRDr HB1
          go_wp2
          rw [hub.out]
          try simp only [hkb.out]
          refine wp_region_over (by kernel_rfl) (by kernel_rfl) ?_
          repeat (go_big_quiet_step (first | (go_at_call 24; exact calls_over (C24.out _)) | (go_at_call 25; exact calls_over (C25.out _)) | (go_at_call 17; exact calls_over (C17.out _))))
          refine wpQuiet_nil ?_
          rintro _ ⟨zz, rfl⟩
          have hbz := Lib.hid (over_below _ zz)
          clear s0 s1 sl a0 a1 al b0 b1 bl c0 c1 cp C24 C25 C17
          go_wp2
          go_roundw
          case rel => exact ⟨k + 1, hlt, by go_num, HLr.out.go hbz.out, below_up HBr.out hbz.out⟩
          case measure => simp [RowKit.intOf]; omega
        · obtain rfl : k = 2 := by omega
          clear HX HBX HBr HLK hk hlt
          have s0 := HLr.out.s.c0; have s1 := HLr.out.s.c1; have sl := HLr.out.s.lt
          go_wp2_with fail
          clear s0 s1 sl
          refine (lgraph_any (N : Int) As cs l _ HLr.out.s.rl (by have := HLr.out.len; omega)).mono ?_
          rintro e va ⟨na, la, Aa, ca, rfl, hif, hre, hb⟩
          have HIF := Lib.hid hif
          have HRa := Lib.hid hre
          replace HLr := Lib.hid (HLr.out.go hb)
          clear hif hb hre
          obtain ⟨ka, hka⟩ : ∃ k, Hid (va.heap.size = k) := ⟨_, rfl⟩
          obtain ⟨ua, hua⟩ : ∃ k, Hid (va.alloc (.cells #[.int .i64 na, .slice Aa la.length ca] 54) = k) := ⟨_, rfl⟩
          have BU : Hid (Below va.heap.size va ua) := by show Below _ _ _; rw [← hua.out]; exact below_new _ _
          have BA : Hid (ua.heap[ka]? = some (.cells #[.int .i64 na, .slice Aa la.length ca] 54)) := by show _ = _; rw [← hua.out, ← hka.out]; exact heap_alloc_new _ _
          replace HRa := Lib.hid (HRa.out.up BU.out)
          replace HLr := Lib.hid (HLr.out.go BU.out)
          have s0 := HLr.out.s.c0; have s1 := HLr.out.s.c1; have sl := HLr.out.s.lt
          rw [← hua.out] at s0 s1 sl
          obtain ⟨E, hE⟩ : ∃ E, Hid (Ls.chkS (N : Int) l = E) := ⟨_, rfl⟩
          rw [hE.out]
          go_wp2_with fail
          rw [hua.out]
          try simp only [hka.out]
          clear s0 s1 sl
          refine (rgraph_any (N : Int) As cs l _ HLr.out.s.rl (by have := HLr.out.len; omega)).mono ?_
          rintro e vb ⟨nb, lb, Ab, cb, rfl, hif, hre, hb⟩
          have HEQ := Lib.hid (graph_eq HIF.out hif)
          have HRb := Lib.hid hre
          replace HRa := Lib.hid (HRa.out.up hb)
          replace BA : Hid (vb.heap[ka]? = some (.cells #[.int .i64 na, .slice Aa la.length ca] 54)) := (hb.block _ (lt_of_some BA.out)).trans BA.out
          replace HLr := Lib.hid (HLr.out.go hb)
          clear hif hb hre HIF BU
          obtain ⟨kb, hkb⟩ : ∃ k, Hid (vb.heap.size = k) := ⟨_, rfl⟩
          obtain ⟨ub, hub⟩ : ∃ k, Hid (vb.alloc (.cells #[.int .i64 nb, .slice Ab lb.length cb] 54) = k) := ⟨_, rfl⟩
          have BU : Hid (Below vb.heap.size vb ub) := by show Below _ _ _; rw [← hub.out]; exact below_new _ _
          have BB : Hid (ub.heap[kb]? = some (.cells #[.int .i64 nb, .slice Ab lb.length cb] 54)) := by show _ = _; rw [← hub.out, ← hkb.out]; exact heap_alloc_new _ _
          replace HRa := Lib.hid (HRa.out.up BU.out)
          replace HRb := Lib.hid (HRb.out.up BU.out)
          replace BA : Hid (ub.heap[ka]? = some (.cells #[.int .i64 na, .slice Aa la.length ca] 54)) := (BU.out.block _ (lt_of_some BA.out)).trans BA.out
          replace HLr := Lib.hid (HLr.out.go BU.out)
          have HLE : Hid (la.length ≤ 10000) := by
            show _ ≤ _
            have h1 := HEQ.out.2.2
            have h2 : (Ls.edges l).length = l.length := by simp [Ls.edges]
            have h3 := HLr.out.len
            omega
          have CS := Lib.hid (sameG_any na nb Aa Ab ca cb la lb ub HRa.out HRb.out (by have := HLE.out; omega) (by rw [← HEQ.out.2.1]; have := HLE.out; omega))
          rw [show sameG na nb la lb = true by simp [sameG, eqE, HEQ.out.1, HEQ.out.2.1]] at CS
          rw [hE.out]
          have a0 := Go.Joins.cell_of_block BA.out 0; have a1 := Go.Joins.cell_of_block BA.out 1; have al := lt_of_some BA.out
          have b0 := Go.Joins.cell_of_block BB.out 0; have b1 := Go.Joins.cell_of_block BB.out 1; have bl := lt_of_some BB.out
          simp only [List.getElem?_toArray, List.getElem?_cons_succ, List.getElem?_cons_zero] at a0 a1 b0 b1
          rw [← hub.out] at a0 a1 al b0 b1 bl
          clear HEQ BU
          go_wp2_with fail
          rw [hub.out]
          clear a0 a1 al b0 b1 bl
          refine CS.out.mono ?_
          rintro e v8 ⟨rfl, hb8⟩
          replace HLr := Lib.hid (HLr.out.go hb8)
          clear hb8 CS
          go_wp2_with fail
          refine (awake_any _).mono ?_
          rintro e v9 ⟨rfl, hb9⟩
          have HBE := Lib.hid (below_up HLr.out.bel hb9)
          clear hb9
          go_wp2
          go_ret
          exact ⟨rfl, HBE.out⟩
end Go.Proofs.Ytagkpkkbkeefbaa
