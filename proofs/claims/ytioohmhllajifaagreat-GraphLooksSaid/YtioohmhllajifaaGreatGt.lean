/-
  The maker's Spoilt: a graph with something changed.
-/
import Derived.Test.YtioohmhllajifaaGreatGs
import Derived.Test.YtioohmhllajifaaGreatIw
import Derived.IntWalk
namespace Go.Proofs.YtioohmhllajifaaGreat
open Go.RowKit Go.Lib

/-- the list's cells while its first and its last edge are exchanged -/
def J12 (bs b c1 : Nat) (l : List Ed) (j : Nat) (e0 ej : Ed) (f : Nat → Bool) (W : World) : Prop :=
  W.ownsRow bs 53 2 (.slice (some ⟨b, 0, none⟩) l.length c1) l.length (ev ((l.set 0 (if f 17 = true then ej else e0)).set j (if f 19 = true then e0 else ej)))
section
variable {bs b c1 j : Nat} {l : List Ed} {e0 ej : Ed} {f : Nat → Bool} {W : World}
theorem two_own {p q : Ed} (h : W.ownsRow bs 53 2 (.slice (some ⟨b, 0, none⟩) l.length c1) l.length (ev ((l.set 0 p).set j q))) : W.ownsRow bs 53 2 (.slice (some ⟨b, 0, none⟩) ((l.set 0 p).set j q).length c1) ((l.set 0 p).set j q).length (ev ((l.set 0 p).set j q)) := by
  rw [List.length_set, List.length_set]; exact h
theorem two_at0 {p q : Ed} (hj : 0 < j) (hl : j < l.length) : ((l.set 0 p).set j q)[0]? = some p := by
  rw [List.getElem?_set_ne (by omega), List.getElem?_set_self (by omega)]
theorem two_atj {p q : Ed} (hl : j < l.length) : ((l.set 0 p).set j q)[j]? = some q := by
  rw [List.getElem?_set_self (by simpa using hl)]
theorem two_cells0 {p q : Ed} (hj : 0 < j) (hl : j < l.length) (h : W.ownsRow bs 53 2 (.slice (some ⟨b, 0, none⟩) l.length c1) l.length (ev ((l.set 0 p).set j q))) :
    W.cell? ⟨b, 0, none⟩ = some (.int .i64 p.1) ∧ W.cell? ⟨b, 1, none⟩ = some (.int .i64 p.2) ∧ W.frozen? ⟨b, 0, none⟩ = false ∧ W.frozen? ⟨b, 1, none⟩ = false := by
  simpa using own_cells (k := 0) (x := p.1) (y := p.2) (two_own h) (two_at0 hj hl)
theorem two_cellsj {p q : Ed} (hl : j < l.length) (h : W.ownsRow bs 53 2 (.slice (some ⟨b, 0, none⟩) l.length c1) l.length (ev ((l.set 0 p).set j q))) :
    W.cell? ⟨b, j * 2, none⟩ = some (.int .i64 q.1) ∧ W.cell? ⟨b, j * 2 + 1, none⟩ = some (.int .i64 q.2) ∧ W.frozen? ⟨b, j * 2, none⟩ = false ∧ W.frozen? ⟨b, j * 2 + 1, none⟩ = false :=
  own_cells (k := j) (x := q.1) (y := q.2) (two_own h) (two_atj hl)
theorem J12.start (h0 : l[0]? = some e0) (hj : l[j]? = some ej) (h : W.ownsRow bs 53 2 (.slice (some ⟨b, 0, none⟩) l.length c1) l.length (ev l)) : J12 bs b c1 l j e0 ej (fun _ => false) (W.drewN 1) := by
  have e : (l.set 0 e0).set j ej = l := by
    obtain ⟨h1, h2⟩ := List.getElem?_eq_some_iff.1 h0
    obtain ⟨h3, h4⟩ := List.getElem?_eq_some_iff.1 hj
    rw [← h2, List.set_getElem_self, ← h4, List.set_getElem_self]
  unfold J12
  simp only [Bool.false_eq_true, if_false]
  rw [e]; exact h
theorem J12.s17 (hj : 0 < j) (hl : j < l.length) (h : J12 bs b c1 l j e0 ej f W) : J12 bs b c1 l j e0 ej (fun i => if i = 17 then true else f i) ((W.setCell ⟨b, 0, none⟩ (.int .i64 ej.1)).setCell ⟨b, 1, none⟩ (.int .i64 ej.2)) := by
  have h1 := own_set0 (k := 0) (x := (if f 17 = true then ej else e0).1) (y := (if f 17 = true then ej else e0).2) (two_own h) (two_at0 hj hl) ej.1
  have h2 := own_set1 h1 (k := 0) (x := ej.1) (y := (if f 17 = true then ej else e0).2) (by rw [List.getElem?_set_self (by simp; omega)]) ej.2
  rw [List.set_set, List.set_comm _ _ (by omega), List.set_set, List.length_set, List.length_set] at h2
  simp only [Nat.zero_mul, Nat.zero_add] at h2
  exact h2
theorem J12.s19 (hl : j < l.length) (h : J12 bs b c1 l j e0 ej f W) : J12 bs b c1 l j e0 ej (fun i => if i = 19 then true else f i) ((W.setCell ⟨b, j * 2, none⟩ (.int .i64 e0.1)).setCell ⟨b, j * 2 + 1, none⟩ (.int .i64 e0.2)) := by
  have h1 := own_set0 (k := j) (x := (if f 19 = true then e0 else ej).1) (y := (if f 19 = true then e0 else ej).2) (two_own h) (two_atj hl) e0.1
  have h2 := own_set1 h1 (k := j) (x := e0.1) (y := (if f 19 = true then e0 else ej).2) (by rw [List.getElem?_set_self (by simp; omega)]) e0.2
  rw [List.set_set, List.set_set, List.length_set, List.length_set] at h2
  exact h2
theorem J12.fin (h : J12 bs b c1 l j e0 ej f W) (e1 : f 17 = true) (e2 : f 19 = true) : W.ownsRow bs 53 2 (.slice (some ⟨b, 0, none⟩) ((l.set 0 ej).set j e0).length c1) ((l.set 0 ej).set j e0).length (ev ((l.set 0 ej).set j e0)) := by
  have := two_own h
  rw [e1, e2] at this; simpa using this
theorem J12.n0 (hj : 0 < j) (hl : j < l.length) (h : J12 bs b c1 l j e0 ej f W) (e : f 17 = false) : W.cell? ⟨b, 0, none⟩ = some (.int .i64 e0.1) ∧ W.cell? ⟨b, 1, none⟩ = some (.int .i64 e0.2) := by
  have := two_cells0 hj hl h
  rw [e] at this; simpa using ⟨this.1, this.2.1⟩
theorem J12.nj (hl : j < l.length) (h : J12 bs b c1 l j e0 ej f W) (e : f 19 = false) : W.cell? ⟨b, j * 2, none⟩ = some (.int .i64 ej.1) ∧ W.cell? ⟨b, j * 2 + 1, none⟩ = some (.int .i64 ej.2) := by
  have := two_cellsj hl h
  rw [e] at this; simpa using ⟨this.1, this.2.1⟩
end

def FI (b m o : Nat) : Fact := fun z _ => ∃ i : Nat, i < m ∧ z = .pointer (some ⟨b, i * 2 + o, none⟩)
def FN (m : Nat) : Fact := fun z _ => ∃ i : Nat, i < m ∧ z = .int .i64 (i : Int)
def FB (lo hi : Int) : Fact := fun z _ => ∃ y : Int, lo ≤ y ∧ y ≤ hi ∧ z = .int .i64 y
/-- the deck, wherever it stands, and the list as it is -/
def J18 (base bs b c1 : Nat) (l : List Ed) (g : Nat) (A : Option Addr) (c : Nat) (L : List Int) (_f : Nat → Bool) (W : World) : Prop :=
  (∃ m, Dk base W g A c L m) ∧ W.ownsRow bs 53 2 (.slice (some ⟨b, 0, none⟩) l.length c1) l.length (ev l)

/-- the list's cells while its two numbers of edge k are exchanged -/
def J9 (bs b c1 : Nat) (l : List Ed) (k : Nat) (x y : Int) (f : Nat → Bool) (W : World) : Prop :=
  W.ownsRow bs 53 2 (.slice (some ⟨b, 0, none⟩) l.length c1) l.length (ev (l.set k (if f 20 = true then y else x, if f 23 = true then x else y)))
section
variable {bs b c1 k : Nat} {l : List Ed} {x y : Int} {f : Nat → Bool} {W : World}
theorem J9.own' (h : J9 bs b c1 l k x y f W) : W.ownsRow bs 53 2 (.slice (some ⟨b, 0, none⟩) (l.set k (if f 20 = true then y else x, if f 23 = true then x else y)).length c1) (l.set k (if f 20 = true then y else x, if f 23 = true then x else y)).length (ev (l.set k (if f 20 = true then y else x, if f 23 = true then x else y))) := by
  rw [List.length_set]; exact h
theorem J9.start (hx : l[k]? = some (x, y)) (h : W.ownsRow bs 53 2 (.slice (some ⟨b, 0, none⟩) l.length c1) l.length (ev l)) : J9 bs b c1 l k x y (fun _ => false) (W.drewN 1) := by
  have e : l.set k (x, y) = l := by
    obtain ⟨h1, h2⟩ := List.getElem?_eq_some_iff.1 hx
    rw [← h2, List.set_getElem_self]
  unfold J9
  simp only [Bool.false_eq_true, if_false]
  rw [e]; exact h
theorem J9.cell0 (hk : k < l.length) (h : J9 bs b c1 l k x y f W) (e : f 20 = false) : W.cell? ⟨b, k * 2, none⟩ = some (.int .i64 x) := by
  have := (own_cells (k := k) (x := if f 20 = true then y else x) (y := if f 23 = true then x else y) h.own' (by rw [List.getElem?_set_self hk])).1
  rw [e] at this; simpa using this
theorem J9.cell1 (hk : k < l.length) (h : J9 bs b c1 l k x y f W) (e : f 23 = false) : W.cell? ⟨b, k * 2 + 1, none⟩ = some (.int .i64 y) := by
  have := (own_cells (k := k) (x := if f 20 = true then y else x) (y := if f 23 = true then x else y) h.own' (by rw [List.getElem?_set_self hk])).2.1
  rw [e] at this; simpa using this
theorem J9.a0 (hk : k < l.length) (h : J9 bs b c1 l k x y f W) : ∃ u, W.cell? ⟨b, k * 2, none⟩ = some u ∧ W.frozen? ⟨b, k * 2, none⟩ = false := by
  have := own_cells (k := k) (x := if f 20 = true then y else x) (y := if f 23 = true then x else y) h.own' (by rw [List.getElem?_set_self hk])
  exact ⟨_, this.1, this.2.2.1⟩
theorem J9.a1 (hk : k < l.length) (h : J9 bs b c1 l k x y f W) : ∃ u, W.cell? ⟨b, k * 2 + 1, none⟩ = some u ∧ W.frozen? ⟨b, k * 2 + 1, none⟩ = false := by
  have := own_cells (k := k) (x := if f 20 = true then y else x) (y := if f 23 = true then x else y) h.own' (by rw [List.getElem?_set_self hk])
  exact ⟨_, this.2.1, this.2.2.2⟩
theorem J9.s0 (hk : k < l.length) (h : J9 bs b c1 l k x y f W) : J9 bs b c1 l k x y (fun j => if j = 20 then true else f j) (W.setCell ⟨b, k * 2, none⟩ (.int .i64 y)) := by
  have := own_set0 (k := k) (x := if f 20 = true then y else x) (y := if f 23 = true then x else y) h.own' (by rw [List.getElem?_set_self hk]) y
  rw [List.set_set, List.length_set] at this
  exact this
theorem J9.s1 (hk : k < l.length) (h : J9 bs b c1 l k x y f W) : J9 bs b c1 l k x y (fun j => if j = 23 then true else f j) (W.setCell ⟨b, k * 2 + 1, none⟩ (.int .i64 x)) := by
  have := own_set1 (k := k) (x := if f 20 = true then y else x) (y := if f 23 = true then x else y) h.own' (by rw [List.getElem?_set_self hk]) x
  rw [List.set_set, List.length_set] at this
  exact this
theorem J9.fin (h : J9 bs b c1 l k x y f W) (e0 : f 20 = true) (e1 : f 23 = true) : W.ownsRow bs 53 2 (.slice (some ⟨b, 0, none⟩) (l.set k (y, x)).length c1) (l.set k (y, x)).length (ev (l.set k (y, x))) := by
  have := h.own'
  rw [e0, e1] at this; simpa using this
end
theorem grown_cell {u v : World} {b g i : Nat} (h : u.grownBy v (some b)) (hg : g < u.heap.size) (hne : g ≠ b) : v.cell? ⟨g, i, none⟩ = u.cell? ⟨g, i, none⟩ :=
  World.cell?_of_block (a := ⟨g, i, none⟩) (h.block g hg (fun e => hne (by injection e)))
theorem SS.atB {base g : Nat} {A : Option Addr} {c : Nat} {L : List Int} {w : World} {n : Int} {b c2 : Nat} {ks ls : List Ed} {m : Nat} {wr w' : World} (h : SS base g A c L w n (some ⟨b, 0, none⟩) c2 ks m wr) (hb : w.heap.size + 2 ≤ b) (hg : wr.grownBy w' (some b)) (hls : ls.length = ks.length)
    (ho : w'.ownsRow (w.heap.size + 2) 53 2 (.slice (some ⟨b, 0, none⟩) ls.length c2) ls.length (ev ls)) : SS base g A c L w n (some ⟨b, 0, none⟩) c2 ls m w' := by
  have hl := h.lg
  exact ⟨by rw [hls]; exact (hg.block _ h.l3 (fun e => by injection e with e; omega)).trans h.b3, (hg.block _ h.l4 (fun e => by injection e with e; omega)).trans h.b4, ho, dk_other h.dk hg (by omega), grown_other h.gr hg (by omega), hl⟩

set_option maxHeartbeats 8000000 in
set_option maxRecDepth 100000 in
theorem spoilt_any (base g : Nat) (A : Option Addr) (c : Nat) (L : List Int) (m : Nat) (n M : Int) (A0 : Option Addr) (c0 : Nat) (l : List Ed) (w : World) (D : Dk base w g A c L m) (h : RE w.heap.size w A0 c0 l) (hl : l.length ≤ 65536)
    (hL : L.length ≤ 17592186044416) (hM : 2 ≤ M ∧ M ≤ 1099511627776) (hm : inM M l) :
    Calls Tryz.prog 8 #[.pointer (some ⟨g, 0, none⟩), .agg #[.int .i64 n, .slice A0 l.length c0]] w (SpoiltP base g A c L n M l.length w) := by
  have hgw := D.lt
  have b3 : ((w.alloc (.cells #[.int .i64 n, .slice A0 l.length c0] 28)).alloc (.cells #[.int .i64 0, .slice none 0 0] 28)).heap[w.heap.size]? = some (.cells #[.int .i64 n, .slice A0 l.length c0] 28) := (Below.heap_alloc _ _ _ (by simp)).trans (heap_alloc_new _ _)
  have b4 : ((w.alloc (.cells #[.int .i64 n, .slice A0 l.length c0] 28)).alloc (.cells #[.int .i64 0, .slice none 0 0] 28)).heap[w.heap.size + 1]? = some (.cells #[.int .i64 0, .slice none 0 0] 28) := by
    have := heap_alloc_new (w.alloc (.cells #[.int .i64 n, .slice A0 l.length c0] 28)) (.cells #[.int .i64 0, .slice none 0 0] 28); simpa using this
  have hb0 : Below w.heap.size w ((w.alloc (.cells #[.int .i64 n, .slice A0 l.length c0] 28)).alloc (.cells #[.int .i64 0, .slice none 0 0] 28)) := ((Below.refl _ _).alloc (Nat.le_refl _) _).alloc (by simp) _
  have HD0 := Lib.hid (D.go hb0)
  have HG0 : Hid (w.grownBy ((w.alloc (.cells #[.int .i64 n, .slice A0 l.length c0] 28)).alloc (.cells #[.int .i64 0, .slice none 0 0] 28)) (some g)) := by show World.grownBy _ _ _; exact ⟨hb0.os, hb0.tape, hb0.output, hb0.size, fun i hi _ => hb0.block i hi⟩
  have HE0 := Lib.hid (h.up hb0)
  have HB3 := Lib.hid b3
  have HB4 := Lib.hid b4
  have HMM := Lib.hid (hm.mono (show M ≤ M + 2 by omega))
  have Hm := Lib.hid hm
  clear D h b3 b4 hb0 hm
  go_enter Tryz.func8, Tryz.ntmps8
  go_wp2_with (at_builtin; refine wpList_applE _ rfl (.const (.slice none 0 0)) (.tmp 8) rfl (w.heap.size + 2) none 0 [] rfl (World.ownsRow_nil _ _ _ _) A0 c0 l.length l rfl (by simp [Act.eval]) HE0.out (by simp; omega) (by simp) ?_; intro A1 c1 w1 HO1 HB1; rw [List.nil_append] at HO1; rw [List.nil_append]; have b3 := (HB1.out.block w.heap.size (by omega)).trans HB3.out; have d1 := Go.Joins.cell_of_block b3 1; have d2 := Go.Joins.unfrozen_of_block b3 1; simp at d1)
  have HS1 : Hid (SS base g A c L w n A1 c1 l m (w1.setCell ⟨w.heap.size, 1, none⟩ (.slice A1 l.length c1))) :=
    ⟨(setCell_two b3).2, (setCell_only _ (by omega)).trans ((HB1.out.block _ (by omega)).trans HB4.out), HO1.out.kept set_grown (.inr fun e => by have := (HO1.out.lt _ e).1; omega), dk_other (HD0.out.goB HB1.out (by omega)) set_grown hgw, grown_other (grown_below HG0.out HB1.out (by omega)) set_grown (Nat.le_refl _), hgw⟩
  clear b3 HE0 HD0 HG0 HB3 HB4 HO1 HB1
  have uc0 := HS1.out.c0; have uc1 := HS1.out.c1; have uf0 := HS1.out.f0; have uf1 := HS1.out.f1; have ur0 := HS1.out.r0; have ur1 := HS1.out.r1; have uq0 := HS1.out.q0; have uq1 := HS1.out.q1; have ul3 := HS1.out.l3; have ul4 := HS1.out.l4
  go_wp2_with fail
  refine (next_any base g A c L _ (6) _ HS1.out.dk hL (by omega)).mono ?_
  rintro e w2 ⟨t, m2, rfl, ht1, ht2, D2, g2⟩
  have HS2 := Lib.hid (HS1.out.next D2 g2)
  clear D2 g2
  clear uc0 uc1 uf0 uf1 ur0 ur1 uq0 uq1 ul3 ul4 d1 d2
  clear HS1
  rcases (by omega : t = 0 ∨ t = 1 ∨ t = 2 ∨ t = 3 ∨ t = 4 ∨ t = 5) with rfl | rfl | rfl | rfl | rfl | rfl
  · go_wp2_with fail
    refine (next_any base g A c L _ (70) _ HS2.out.dk hL (by omega)).mono ?_
    rintro e w3 ⟨r, m3, rfl, hr1, hr2, D3, g3⟩
    have HS3 := Lib.hid (HS2.out.next D3 g3)
    clear D3 g3
    have f1 : IntKind.i64.wrap (r - 2) = r - 2 := IntWalk.i64_in _ (by omega)
    have HS4 := Lib.hid (HS3.out.setN (r - 2))
    have xc0 := HS3.out.c0; have xc1 := HS3.out.c1; have xf0 := HS3.out.f0; have xf1 := HS3.out.f1; have xr0 := HS3.out.r0; have xr1 := HS3.out.r1; have xq0 := HS3.out.q0; have xq1 := HS3.out.q1; have xl3 := HS3.out.l3; have xl4 := HS3.out.l4
    have yc0 := HS4.out.c0; have yc1 := HS4.out.c1; have yf0 := HS4.out.f0; have yf1 := HS4.out.f1; have yr0 := HS4.out.r0; have yr1 := HS4.out.r1; have yq0 := HS4.out.q0; have yq1 := HS4.out.q1; have yl3 := HS4.out.l3; have yl4 := HS4.out.l4
    have hfin := HS4.out.fin (.int .i64 (r - 2)) (.slice A1 (l).length c1)
    have hf0 := hfin.1; have hf1 := hfin.2.1; have HW := Lib.hid hfin.2.2
    clear hfin
    go_wp2
    generalize (((w3.setCell ⟨w.heap.size, 0, none⟩ (.int .i64 (r - 2))).setCell ⟨w.heap.size + 1, 0, none⟩ (.int .i64 (r - 2))).setCell ⟨w.heap.size + 1, 1, none⟩ (.slice A1 (l).length c1)) = wf at HW hf0 hf1 ⊢
    exact bodyPost_ret (v := .agg #[.int .i64 (r - 2), (.slice A1 (l).length c1)]) (by simp [results, Tryz.results8, go_sem, hf0, hf1]) rfl
      ⟨r - 2, l, A1, c1, m3, rfl, .inr (by omega), by omega, HMM.out, HW.out.1, HW.out.2.1, HW.out.2.2⟩
  · by_cases h0 : l.length = 0
    · have hd : decide ((0 : Int) < (l.length : Int)) = false := by rw [decide_eq_false_iff_not]; omega
      have hd2 : decide (0 < l.length) = false := by rw [decide_eq_false_iff_not]; omega
      have h1le : l.length ≤ l.length + 1 := by omega
      clear h0
      have yc0 := HS2.out.c0; have yc1 := HS2.out.c1; have yf0 := HS2.out.f0; have yf1 := HS2.out.f1; have yr0 := HS2.out.r0; have yr1 := HS2.out.r1; have yq0 := HS2.out.q0; have yq1 := HS2.out.q1; have yl3 := HS2.out.l3; have yl4 := HS2.out.l4
      have hfin := HS2.out.fin (.int .i64 (n)) (.slice A1 (l).length c1)
      have hf0 := hfin.1; have hf1 := hfin.2.1; have HW := Lib.hid hfin.2.2
      clear hfin
      go_wp2
      generalize (((w2).setCell ⟨w.heap.size + 1, 0, none⟩ (.int .i64 (n))).setCell ⟨w.heap.size + 1, 1, none⟩ (.slice A1 (l).length c1)) = wf at HW hf0 hf1 ⊢
      exact bodyPost_ret (v := .agg #[.int .i64 (n), (.slice A1 (l).length c1)]) (by simp [results, Tryz.results8, go_sem, hf0, hf1]) rfl
        ⟨n, l, A1, c1, m2, rfl, .inl rfl, by omega, HMM.out, HW.out.1, HW.out.2.1, HW.out.2.2⟩
    · have hlt : 0 < l.length := by omega
      obtain ⟨b, rfl, hb, hbl⟩ := own_spotE HS2.out.own hlt
      have xc0 := HS2.out.c0; have xc1 := HS2.out.c1; have xf0 := HS2.out.f0; have xf1 := HS2.out.f1; have xr0 := HS2.out.r0; have xr1 := HS2.out.r1; have xq0 := HS2.out.q0; have xq1 := HS2.out.q1; have xl3 := HS2.out.l3; have xl4 := HS2.out.l4
      go_wp2_with fail
      refine (next_any base g A c L _ ((l.length : Int)) _ HS2.out.dk hL (by omega)).mono ?_
      rintro e w3 ⟨i, m3, rfl, hi1, hi2, D3, g3⟩
      have HS3 := Lib.hid (HS2.out.next D3 g3)
      clear D3 g3
      clear xc0 xc1 xf0 xf1 xr0 xr1 xq0 xq1 xl3 xl4
      obtain ⟨k, rfl⟩ : ∃ k : Nat, i = k := ⟨i.toNat, by omega⟩
      have hk : k < l.length := by omega
      obtain ⟨⟨x, y⟩, hx⟩ : ∃ e, l[k]? = some e := ⟨_, List.getElem?_eq_getElem hk⟩
      have HX := Lib.hid hx
      obtain ⟨p0, p1, p2, p3⟩ := own_cells HS3.out.own hx
      have hxy := Hm.out.at_ hx
      clear hx
      go_wp2
      refine wp_region_at 24 107 (fun u v => u.grownBy v (some b)) (J9 (w.heap.size + 2) b c1 l k x y) [(fun z _ => z = .pointer (some ⟨w.heap.size, 1, none⟩)), (fun z _ => z = .slice (some ⟨b, 0, none⟩) l.length c1), (fun z _ => z = .int .i64 (k : Int)), (fun z _ => z = .pointer (some ⟨w.heap.size, 1, none⟩)), (fun z _ => z = .slice (some ⟨b, 0, none⟩) l.length c1), (fun z _ => z = .int .i64 (k : Int)), (fun z _ => z = .pointer (some ⟨w.heap.size, 1, none⟩)), (fun z _ => z = .slice (some ⟨b, 0, none⟩) l.length c1), (fun z _ => z = .int .i64 (k : Int)), (fun z _ => z = .pointer (some ⟨b, k * 2, none⟩)), (fun z _ => z = .pointer (some ⟨b, k * 2 + 1, none⟩)), (fun z _ => z = .int .i64 y), (fun z _ => z = .pointer (some ⟨w.heap.size, 1, none⟩)), (fun z _ => z = .slice (some ⟨b, 0, none⟩) l.length c1), (fun z _ => z = .int .i64 (k : Int)), (fun z _ => z = .pointer (some ⟨b, k * 2, none⟩)), (fun z _ => z = .pointer (some ⟨b, k * 2, none⟩)), (fun z _ => z = .int .i64 x), (fun z _ => z = .pointer (some ⟨b, k * 2, none⟩)), (fun z _ => z = .pointer (some ⟨b, k * 2, none⟩)), (fun _ _ => True), (fun z _ => z = .pointer (some ⟨b, k * 2, none⟩)), (fun z _ => z = .pointer (some ⟨b, k * 2 + 1, none⟩)), (fun _ _ => True)] (by kernel_rfl) (by kernel_rfl) rfl (fun _ _ _ h1 h2 => grown_trans h1 h2) (only_drewN 1 b) (J9.start HX.out HS3.out.own) ?_ ?_ ?_
      · intro R hR
        simp only [List.mem_cons, List.not_mem_nil, or_false] at hR
        rcases hR with rfl | rfl | rfl | rfl | rfl | rfl | rfl | rfl | rfl | rfl | rfl | rfl | rfl | rfl | rfl | rfl | rfl | rfl | rfl | rfl | rfl | rfl | rfl | rfl
        · exact fun _ _ _ h _ => h
        · exact fun _ _ _ h _ => h
        · exact fun _ _ _ h _ => h
        · exact fun _ _ _ h _ => h
        · exact fun _ _ _ h _ => h
        · exact fun _ _ _ h _ => h
        · exact fun _ _ _ h _ => h
        · exact fun _ _ _ h _ => h
        · exact fun _ _ _ h _ => h
        · exact fun _ _ _ h _ => h
        · exact fun _ _ _ h _ => h
        · exact fun _ _ _ h _ => h
        · exact fun _ _ _ h _ => h
        · exact fun _ _ _ h _ => h
        · exact fun _ _ _ h _ => h
        · exact fun _ _ _ h _ => h
        · exact fun _ _ _ h _ => h
        · exact fun _ _ _ h _ => h
        · exact fun _ _ _ h _ => h
        · exact fun _ _ _ h _ => h
        · exact fun _ _ _ h _ => h
        · exact fun _ _ _ h _ => h
        · exact fun _ _ _ h _ => h
        · exact fun _ _ _ h _ => h
      · simp only [List.take_succ_cons, List.take_zero]
        refine ⟨?_, ?_, ?_, ?_, ?_, ?_, ?_, ?_, ?_, ?_, ?_, ?_, ?_, ?_, ?_, ?_, ?_, ?_, ?_, ?_, ?_, ?_, ?_, ?_, trivial⟩
        · intro a ws f hle hjj hfi hun hag hdep K Q hK
          have d3 : (a.tmps[3]?).getD undef = .pointer (some ⟨w.heap.size, 0, none⟩) := eval_get (hag 3 (freeB_spec (by kernel_rfl)))
          rw [if_pos (show Region.wanted _ _ = true from rfl)]
          have z1 := (grown_cell hle HS3.out.l3 (by omega)).trans HS3.out.c1
          have zl := Nat.lt_of_lt_of_le HS3.out.l3 hle.size
          unfold Oper.wp
          simp [go_sem, *]
          exact hK _ _ (grown_refl _ _) hjj rfl
        · intro a ws f hle hjj hfi hun hag hdep K Q hK
          have d29 : (a.tmps[29]?).getD undef = .pointer (some ⟨w.heap.size, 1, none⟩) := eval_get (dep_of hdep 0 29 rfl (by kernel_rfl) rfl rfl)
          rw [if_pos (show Region.wanted _ _ = true from rfl)]
          have z1 := (grown_cell hle HS3.out.l3 (by omega)).trans HS3.out.c1
          have zl := Nat.lt_of_lt_of_le HS3.out.l3 hle.size
          unfold Oper.wp
          simp [go_sem, *]
          exact hK _ _ (grown_refl _ _) hjj rfl
        · intro a ws f hle hjj hfi hun hag hdep K Q hK
          have d6 : (a.tmps[6]?).getD undef = .int .i64 (k : Int) := eval_get (hag 6 (freeB_spec (by kernel_rfl)))
          rw [if_pos (show Region.wanted _ _ = true from rfl)]
          have z1 := (grown_cell hle HS3.out.l3 (by omega)).trans HS3.out.c1
          have zl := Nat.lt_of_lt_of_le HS3.out.l3 hle.size
          unfold Oper.wp
          simp [go_sem, *]
          exact hK _ _ (grown_refl _ _) hjj rfl
        · intro a ws f hle hjj hfi hun hag hdep K Q hK
          have d3 : (a.tmps[3]?).getD undef = .pointer (some ⟨w.heap.size, 0, none⟩) := eval_get (hag 3 (freeB_spec (by kernel_rfl)))
          rw [if_pos (show Region.wanted _ _ = true from rfl)]
          have z1 := (grown_cell hle HS3.out.l3 (by omega)).trans HS3.out.c1
          have zl := Nat.lt_of_lt_of_le HS3.out.l3 hle.size
          unfold Oper.wp
          simp [go_sem, *]
          exact hK _ _ (grown_refl _ _) hjj rfl
        · intro a ws f hle hjj hfi hun hag hdep K Q hK
          have d32 : (a.tmps[32]?).getD undef = .pointer (some ⟨w.heap.size, 1, none⟩) := eval_get (dep_of hdep 3 32 rfl (by kernel_rfl) rfl rfl)
          rw [if_pos (show Region.wanted _ _ = true from rfl)]
          have z1 := (grown_cell hle HS3.out.l3 (by omega)).trans HS3.out.c1
          have zl := Nat.lt_of_lt_of_le HS3.out.l3 hle.size
          unfold Oper.wp
          simp [go_sem, *]
          exact hK _ _ (grown_refl _ _) hjj rfl
        · intro a ws f hle hjj hfi hun hag hdep K Q hK
          have d6 : (a.tmps[6]?).getD undef = .int .i64 (k : Int) := eval_get (hag 6 (freeB_spec (by kernel_rfl)))
          rw [if_pos (show Region.wanted _ _ = true from rfl)]
          have z1 := (grown_cell hle HS3.out.l3 (by omega)).trans HS3.out.c1
          have zl := Nat.lt_of_lt_of_le HS3.out.l3 hle.size
          unfold Oper.wp
          simp [go_sem, *]
          exact hK _ _ (grown_refl _ _) hjj rfl
        · intro a ws f hle hjj hfi hun hag hdep K Q hK
          have d3 : (a.tmps[3]?).getD undef = .pointer (some ⟨w.heap.size, 0, none⟩) := eval_get (hag 3 (freeB_spec (by kernel_rfl)))
          rw [if_pos (show Region.wanted _ _ = true from rfl)]
          have z1 := (grown_cell hle HS3.out.l3 (by omega)).trans HS3.out.c1
          have zl := Nat.lt_of_lt_of_le HS3.out.l3 hle.size
          unfold Oper.wp
          simp [go_sem, *]
          exact hK _ _ (grown_refl _ _) hjj rfl
        · intro a ws f hle hjj hfi hun hag hdep K Q hK
          have d35 : (a.tmps[35]?).getD undef = .pointer (some ⟨w.heap.size, 1, none⟩) := eval_get (dep_of hdep 6 35 rfl (by kernel_rfl) rfl rfl)
          rw [if_pos (show Region.wanted _ _ = true from rfl)]
          have z1 := (grown_cell hle HS3.out.l3 (by omega)).trans HS3.out.c1
          have zl := Nat.lt_of_lt_of_le HS3.out.l3 hle.size
          unfold Oper.wp
          simp [go_sem, *]
          exact hK _ _ (grown_refl _ _) hjj rfl
        · intro a ws f hle hjj hfi hun hag hdep K Q hK
          have d6 : (a.tmps[6]?).getD undef = .int .i64 (k : Int) := eval_get (hag 6 (freeB_spec (by kernel_rfl)))
          rw [if_pos (show Region.wanted _ _ = true from rfl)]
          have z1 := (grown_cell hle HS3.out.l3 (by omega)).trans HS3.out.c1
          have zl := Nat.lt_of_lt_of_le HS3.out.l3 hle.size
          unfold Oper.wp
          simp [go_sem, *]
          exact hK _ _ (grown_refl _ _) hjj rfl
        · intro a ws f hle hjj hfi hun hag hdep K Q hK
          have d36 : (a.tmps[36]?).getD undef = .slice (some ⟨b, 0, none⟩) l.length c1 := eval_get (dep_of hdep 7 36 rfl (by kernel_rfl) rfl rfl)
          have d37 : (a.tmps[37]?).getD undef = .int .i64 (k : Int) := eval_get (dep_of hdep 8 37 rfl (by kernel_rfl) rfl rfl)
          rw [if_pos (show Region.wanted _ _ = true from rfl)]
          have hki : (k : Int) < (l.length : Int) := by omega
          unfold Oper.wp
          simp [go_sem, d36, d37, hki]
          exact hK _ _ (grown_refl _ _) hjj rfl
        · intro a ws f hle hjj hfi hun hag hdep K Q hK
          have d38 : (a.tmps[38]?).getD undef = .pointer (some ⟨b, k * 2, none⟩) := eval_get (dep_of hdep 9 38 rfl (by kernel_rfl) rfl rfl)
          rw [if_pos (show Region.wanted _ _ = true from rfl)]
          unfold Oper.wp
          simp [go_sem, d38]
          exact hK _ _ (grown_refl _ _) hjj rfl
        · intro a ws f hle hjj hfi hun hag hdep K Q hK
          have d39 : (a.tmps[39]?).getD undef = .pointer (some ⟨b, k * 2 + 1, none⟩) := eval_get (dep_of hdep 10 39 rfl (by kernel_rfl) rfl rfl)
          rw [if_pos (show Region.wanted _ _ = true from rfl)]
          have e1 : f 23 = false := hun 23 _ rfl (by kernel_rfl)
          have hc := J9.cell1 hk hjj e1
          unfold Oper.wp
          simp [go_sem, d39, hc]
          exact hK _ _ (grown_refl _ _) hjj rfl
        · intro a ws f hle hjj hfi hun hag hdep K Q hK
          have d3 : (a.tmps[3]?).getD undef = .pointer (some ⟨w.heap.size, 0, none⟩) := eval_get (hag 3 (freeB_spec (by kernel_rfl)))
          rw [if_pos (show Region.wanted _ _ = true from rfl)]
          have z1 := (grown_cell hle HS3.out.l3 (by omega)).trans HS3.out.c1
          have zl := Nat.lt_of_lt_of_le HS3.out.l3 hle.size
          unfold Oper.wp
          simp [go_sem, *]
          exact hK _ _ (grown_refl _ _) hjj rfl
        · intro a ws f hle hjj hfi hun hag hdep K Q hK
          have d41 : (a.tmps[41]?).getD undef = .pointer (some ⟨w.heap.size, 1, none⟩) := eval_get (dep_of hdep 12 41 rfl (by kernel_rfl) rfl rfl)
          rw [if_pos (show Region.wanted _ _ = true from rfl)]
          have z1 := (grown_cell hle HS3.out.l3 (by omega)).trans HS3.out.c1
          have zl := Nat.lt_of_lt_of_le HS3.out.l3 hle.size
          unfold Oper.wp
          simp [go_sem, *]
          exact hK _ _ (grown_refl _ _) hjj rfl
        · intro a ws f hle hjj hfi hun hag hdep K Q hK
          have d6 : (a.tmps[6]?).getD undef = .int .i64 (k : Int) := eval_get (hag 6 (freeB_spec (by kernel_rfl)))
          rw [if_pos (show Region.wanted _ _ = true from rfl)]
          have z1 := (grown_cell hle HS3.out.l3 (by omega)).trans HS3.out.c1
          have zl := Nat.lt_of_lt_of_le HS3.out.l3 hle.size
          unfold Oper.wp
          simp [go_sem, *]
          exact hK _ _ (grown_refl _ _) hjj rfl
        · intro a ws f hle hjj hfi hun hag hdep K Q hK
          have d42 : (a.tmps[42]?).getD undef = .slice (some ⟨b, 0, none⟩) l.length c1 := eval_get (dep_of hdep 13 42 rfl (by kernel_rfl) rfl rfl)
          have d43 : (a.tmps[43]?).getD undef = .int .i64 (k : Int) := eval_get (dep_of hdep 14 43 rfl (by kernel_rfl) rfl rfl)
          rw [if_pos (show Region.wanted _ _ = true from rfl)]
          have hki : (k : Int) < (l.length : Int) := by omega
          unfold Oper.wp
          simp [go_sem, d42, d43, hki]
          exact hK _ _ (grown_refl _ _) hjj rfl
        · intro a ws f hle hjj hfi hun hag hdep K Q hK
          have d44 : (a.tmps[44]?).getD undef = .pointer (some ⟨b, k * 2, none⟩) := eval_get (dep_of hdep 15 44 rfl (by kernel_rfl) rfl rfl)
          rw [if_pos (show Region.wanted _ _ = true from rfl)]
          unfold Oper.wp
          simp [go_sem, d44]
          exact hK _ _ (grown_refl _ _) hjj rfl
        · intro a ws f hle hjj hfi hun hag hdep K Q hK
          have d45 : (a.tmps[45]?).getD undef = .pointer (some ⟨b, k * 2, none⟩) := eval_get (dep_of hdep 16 45 rfl (by kernel_rfl) rfl rfl)
          rw [if_pos (show Region.wanted _ _ = true from rfl)]
          have e1 : f 20 = false := hun 20 _ rfl (by kernel_rfl)
          have hc := J9.cell0 hk hjj e1
          unfold Oper.wp
          simp [go_sem, d45, hc]
          exact hK _ _ (grown_refl _ _) hjj rfl
        · intro a ws f hle hjj hfi hun hag hdep K Q hK
          have d30 : (a.tmps[30]?).getD undef = .slice (some ⟨b, 0, none⟩) l.length c1 := eval_get (dep_of hdep 1 30 rfl (by kernel_rfl) rfl rfl)
          have d31 : (a.tmps[31]?).getD undef = .int .i64 (k : Int) := eval_get (dep_of hdep 2 31 rfl (by kernel_rfl) rfl rfl)
          rw [if_pos (show Region.wanted _ _ = true from rfl)]
          have hki : (k : Int) < (l.length : Int) := by omega
          unfold Oper.wp
          simp [go_sem, d30, d31, hki]
          exact hK _ _ (grown_refl _ _) hjj rfl
        · intro a ws f hle hjj hfi hun hag hdep K Q hK
          have d47 : (a.tmps[47]?).getD undef = .pointer (some ⟨b, k * 2, none⟩) := eval_get (dep_of hdep 18 47 rfl (by kernel_rfl) rfl rfl)
          rw [if_pos (show Region.wanted _ _ = true from rfl)]
          unfold Oper.wp
          simp [go_sem, d47]
          exact hK _ _ (grown_refl _ _) hjj rfl
        · intro a ws f hle hjj hfi hun hag hdep K Q hK
          have d48 : (a.tmps[48]?).getD undef = .pointer (some ⟨b, k * 2, none⟩) := eval_get (dep_of hdep 19 48 rfl (by kernel_rfl) rfl rfl)
          have d40 : (a.tmps[40]?).getD undef = .int .i64 y := eval_get (dep_of hdep 11 40 rfl (by kernel_rfl) rfl rfl)
          rw [if_pos (show Region.wanted _ _ = true from rfl)]
          obtain ⟨u0, hc, hz⟩ := J9.a0 hk hjj
          unfold Oper.wp
          simp [go_sem, d48, d40, hc, hz]
          exact hK undef _ set_grown (J9.s0 hk hjj) trivial
        · intro a ws f hle hjj hfi hun hag hdep K Q hK
          have d33 : (a.tmps[33]?).getD undef = .slice (some ⟨b, 0, none⟩) l.length c1 := eval_get (dep_of hdep 4 33 rfl (by kernel_rfl) rfl rfl)
          have d34 : (a.tmps[34]?).getD undef = .int .i64 (k : Int) := eval_get (dep_of hdep 5 34 rfl (by kernel_rfl) rfl rfl)
          rw [if_pos (show Region.wanted _ _ = true from rfl)]
          have hki : (k : Int) < (l.length : Int) := by omega
          unfold Oper.wp
          simp [go_sem, d33, d34, hki]
          exact hK _ _ (grown_refl _ _) hjj rfl
        · intro a ws f hle hjj hfi hun hag hdep K Q hK
          have d49 : (a.tmps[49]?).getD undef = .pointer (some ⟨b, k * 2, none⟩) := eval_get (dep_of hdep 21 49 rfl (by kernel_rfl) rfl rfl)
          rw [if_pos (show Region.wanted _ _ = true from rfl)]
          unfold Oper.wp
          simp [go_sem, d49]
          exact hK _ _ (grown_refl _ _) hjj rfl
        · intro a ws f hle hjj hfi hun hag hdep K Q hK
          have d50 : (a.tmps[50]?).getD undef = .pointer (some ⟨b, k * 2 + 1, none⟩) := eval_get (dep_of hdep 22 50 rfl (by kernel_rfl) rfl rfl)
          have d46 : (a.tmps[46]?).getD undef = .int .i64 x := eval_get (dep_of hdep 17 46 rfl (by kernel_rfl) rfl rfl)
          rw [if_pos (show Region.wanted _ _ = true from rfl)]
          obtain ⟨u0, hc, hz⟩ := J9.a1 hk hjj
          unfold Oper.wp
          simp [go_sem, d50, d46, hc, hz]
          exact hK undef _ set_grown (J9.s1 hk hjj) trivial
      · intro a ws f hle hjj hft hff hsz hdf hag hend
        have f29 : a.eval (.tmp 29) = .pointer (some ⟨w.heap.size, 1, none⟩) := end_of hend 0 29 (by decide) rfl rfl rfl
        have f30 : a.eval (.tmp 30) = .slice (some ⟨b, 0, none⟩) l.length c1 := end_of hend 1 30 (by decide) rfl rfl rfl
        have f31 : a.eval (.tmp 31) = .int .i64 (k : Int) := end_of hend 2 31 (by decide) rfl rfl rfl
        have f32 : a.eval (.tmp 32) = .pointer (some ⟨w.heap.size, 1, none⟩) := end_of hend 3 32 (by decide) rfl rfl rfl
        have f33 : a.eval (.tmp 33) = .slice (some ⟨b, 0, none⟩) l.length c1 := end_of hend 4 33 (by decide) rfl rfl rfl
        have f34 : a.eval (.tmp 34) = .int .i64 (k : Int) := end_of hend 5 34 (by decide) rfl rfl rfl
        have f35 : a.eval (.tmp 35) = .pointer (some ⟨w.heap.size, 1, none⟩) := end_of hend 6 35 (by decide) rfl rfl rfl
        have f36 : a.eval (.tmp 36) = .slice (some ⟨b, 0, none⟩) l.length c1 := end_of hend 7 36 (by decide) rfl rfl rfl
        have f37 : a.eval (.tmp 37) = .int .i64 (k : Int) := end_of hend 8 37 (by decide) rfl rfl rfl
        have f38 : a.eval (.tmp 38) = .pointer (some ⟨b, k * 2, none⟩) := end_of hend 9 38 (by decide) rfl rfl rfl
        have f39 : a.eval (.tmp 39) = .pointer (some ⟨b, k * 2 + 1, none⟩) := end_of hend 10 39 (by decide) rfl rfl rfl
        have f40 : a.eval (.tmp 40) = .int .i64 y := end_of hend 11 40 (by decide) rfl rfl rfl
        have f41 : a.eval (.tmp 41) = .pointer (some ⟨w.heap.size, 1, none⟩) := end_of hend 12 41 (by decide) rfl rfl rfl
        have f42 : a.eval (.tmp 42) = .slice (some ⟨b, 0, none⟩) l.length c1 := end_of hend 13 42 (by decide) rfl rfl rfl
        have f43 : a.eval (.tmp 43) = .int .i64 (k : Int) := end_of hend 14 43 (by decide) rfl rfl rfl
        have f44 : a.eval (.tmp 44) = .pointer (some ⟨b, k * 2, none⟩) := end_of hend 15 44 (by decide) rfl rfl rfl
        have f45 : a.eval (.tmp 45) = .pointer (some ⟨b, k * 2, none⟩) := end_of hend 16 45 (by decide) rfl rfl rfl
        have f46 : a.eval (.tmp 46) = .int .i64 x := end_of hend 17 46 (by decide) rfl rfl rfl
        have f47 : a.eval (.tmp 47) = .pointer (some ⟨b, k * 2, none⟩) := end_of hend 18 47 (by decide) rfl rfl rfl
        have f48 : a.eval (.tmp 48) = .pointer (some ⟨b, k * 2, none⟩) := end_of hend 19 48 (by decide) rfl rfl rfl
        have f49 : a.eval (.tmp 49) = .pointer (some ⟨b, k * 2, none⟩) := end_of hend 21 49 (by decide) rfl rfl rfl
        have f50 : a.eval (.tmp 50) = .pointer (some ⟨b, k * 2 + 1, none⟩) := end_of hend 22 50 (by decide) rfl rfl rfl
        have f3 : a.eval (.tmp 3) = .pointer (some ⟨w.heap.size, 0, none⟩) := hag 3 (freeB_spec (by kernel_rfl))
        have f4 : a.eval (.tmp 4) = .pointer (some ⟨w.heap.size + 1, 0, none⟩) := hag 4 (freeB_spec (by kernel_rfl))
        have f6 : a.eval (.tmp 6) = .int .i64 (k : Int) := hag 6 (freeB_spec (by kernel_rfl))
        obtain ⟨T, D⟩ := a
        obtain rfl : D = [] := hdf
        obtain ⟨us, rfl⟩ : ∃ us : List Value, T = us.toArray := ⟨T.toList, by simp⟩
        replace hsz : us.length = 107 := by simpa using hsz
        obtain _ | ⟨x0, us⟩ := us
        · simp at hsz
        obtain _ | ⟨x1, us⟩ := us
        · simp at hsz
        obtain _ | ⟨x2, us⟩ := us
        · simp at hsz
        obtain _ | ⟨x3, us⟩ := us
        · simp at hsz
        obtain _ | ⟨x4, us⟩ := us
        · simp at hsz
        obtain _ | ⟨x5, us⟩ := us
        · simp at hsz
        obtain _ | ⟨x6, us⟩ := us
        · simp at hsz
        obtain _ | ⟨x7, us⟩ := us
        · simp at hsz
        obtain _ | ⟨x8, us⟩ := us
        · simp at hsz
        obtain _ | ⟨x9, us⟩ := us
        · simp at hsz
        obtain _ | ⟨x10, us⟩ := us
        · simp at hsz
        obtain _ | ⟨x11, us⟩ := us
        · simp at hsz
        obtain _ | ⟨x12, us⟩ := us
        · simp at hsz
        obtain _ | ⟨x13, us⟩ := us
        · simp at hsz
        obtain _ | ⟨x14, us⟩ := us
        · simp at hsz
        obtain _ | ⟨x15, us⟩ := us
        · simp at hsz
        obtain _ | ⟨x16, us⟩ := us
        · simp at hsz
        obtain _ | ⟨x17, us⟩ := us
        · simp at hsz
        obtain _ | ⟨x18, us⟩ := us
        · simp at hsz
        obtain _ | ⟨x19, us⟩ := us
        · simp at hsz
        obtain _ | ⟨x20, us⟩ := us
        · simp at hsz
        obtain _ | ⟨x21, us⟩ := us
        · simp at hsz
        obtain _ | ⟨x22, us⟩ := us
        · simp at hsz
        obtain _ | ⟨x23, us⟩ := us
        · simp at hsz
        obtain _ | ⟨x24, us⟩ := us
        · simp at hsz
        obtain _ | ⟨x25, us⟩ := us
        · simp at hsz
        obtain _ | ⟨x26, us⟩ := us
        · simp at hsz
        obtain _ | ⟨x27, us⟩ := us
        · simp at hsz
        obtain _ | ⟨x28, us⟩ := us
        · simp at hsz
        obtain _ | ⟨x29, us⟩ := us
        · simp at hsz
        obtain _ | ⟨x30, us⟩ := us
        · simp at hsz
        obtain _ | ⟨x31, us⟩ := us
        · simp at hsz
        obtain _ | ⟨x32, us⟩ := us
        · simp at hsz
        obtain _ | ⟨x33, us⟩ := us
        · simp at hsz
        obtain _ | ⟨x34, us⟩ := us
        · simp at hsz
        obtain _ | ⟨x35, us⟩ := us
        · simp at hsz
        obtain _ | ⟨x36, us⟩ := us
        · simp at hsz
        obtain _ | ⟨x37, us⟩ := us
        · simp at hsz
        obtain _ | ⟨x38, us⟩ := us
        · simp at hsz
        obtain _ | ⟨x39, us⟩ := us
        · simp at hsz
        obtain _ | ⟨x40, us⟩ := us
        · simp at hsz
        obtain _ | ⟨x41, us⟩ := us
        · simp at hsz
        obtain _ | ⟨x42, us⟩ := us
        · simp at hsz
        obtain _ | ⟨x43, us⟩ := us
        · simp at hsz
        obtain _ | ⟨x44, us⟩ := us
        · simp at hsz
        obtain _ | ⟨x45, us⟩ := us
        · simp at hsz
        obtain _ | ⟨x46, us⟩ := us
        · simp at hsz
        obtain _ | ⟨x47, us⟩ := us
        · simp at hsz
        obtain _ | ⟨x48, us⟩ := us
        · simp at hsz
        obtain _ | ⟨x49, us⟩ := us
        · simp at hsz
        obtain _ | ⟨x50, us⟩ := us
        · simp at hsz
        obtain _ | ⟨x51, us⟩ := us
        · simp at hsz
        obtain _ | ⟨x52, us⟩ := us
        · simp at hsz
        obtain _ | ⟨x53, us⟩ := us
        · simp at hsz
        obtain _ | ⟨x54, us⟩ := us
        · simp at hsz
        obtain _ | ⟨x55, us⟩ := us
        · simp at hsz
        obtain _ | ⟨x56, us⟩ := us
        · simp at hsz
        obtain _ | ⟨x57, us⟩ := us
        · simp at hsz
        obtain _ | ⟨x58, us⟩ := us
        · simp at hsz
        obtain _ | ⟨x59, us⟩ := us
        · simp at hsz
        obtain _ | ⟨x60, us⟩ := us
        · simp at hsz
        obtain _ | ⟨x61, us⟩ := us
        · simp at hsz
        obtain _ | ⟨x62, us⟩ := us
        · simp at hsz
        obtain _ | ⟨x63, us⟩ := us
        · simp at hsz
        obtain _ | ⟨x64, us⟩ := us
        · simp at hsz
        obtain _ | ⟨x65, us⟩ := us
        · simp at hsz
        obtain _ | ⟨x66, us⟩ := us
        · simp at hsz
        obtain _ | ⟨x67, us⟩ := us
        · simp at hsz
        obtain _ | ⟨x68, us⟩ := us
        · simp at hsz
        obtain _ | ⟨x69, us⟩ := us
        · simp at hsz
        obtain _ | ⟨x70, us⟩ := us
        · simp at hsz
        obtain _ | ⟨x71, us⟩ := us
        · simp at hsz
        obtain _ | ⟨x72, us⟩ := us
        · simp at hsz
        obtain _ | ⟨x73, us⟩ := us
        · simp at hsz
        obtain _ | ⟨x74, us⟩ := us
        · simp at hsz
        obtain _ | ⟨x75, us⟩ := us
        · simp at hsz
        obtain _ | ⟨x76, us⟩ := us
        · simp at hsz
        obtain _ | ⟨x77, us⟩ := us
        · simp at hsz
        obtain _ | ⟨x78, us⟩ := us
        · simp at hsz
        obtain _ | ⟨x79, us⟩ := us
        · simp at hsz
        obtain _ | ⟨x80, us⟩ := us
        · simp at hsz
        obtain _ | ⟨x81, us⟩ := us
        · simp at hsz
        obtain _ | ⟨x82, us⟩ := us
        · simp at hsz
        obtain _ | ⟨x83, us⟩ := us
        · simp at hsz
        obtain _ | ⟨x84, us⟩ := us
        · simp at hsz
        obtain _ | ⟨x85, us⟩ := us
        · simp at hsz
        obtain _ | ⟨x86, us⟩ := us
        · simp at hsz
        obtain _ | ⟨x87, us⟩ := us
        · simp at hsz
        obtain _ | ⟨x88, us⟩ := us
        · simp at hsz
        obtain _ | ⟨x89, us⟩ := us
        · simp at hsz
        obtain _ | ⟨x90, us⟩ := us
        · simp at hsz
        obtain _ | ⟨x91, us⟩ := us
        · simp at hsz
        obtain _ | ⟨x92, us⟩ := us
        · simp at hsz
        obtain _ | ⟨x93, us⟩ := us
        · simp at hsz
        obtain _ | ⟨x94, us⟩ := us
        · simp at hsz
        obtain _ | ⟨x95, us⟩ := us
        · simp at hsz
        obtain _ | ⟨x96, us⟩ := us
        · simp at hsz
        obtain _ | ⟨x97, us⟩ := us
        · simp at hsz
        obtain _ | ⟨x98, us⟩ := us
        · simp at hsz
        obtain _ | ⟨x99, us⟩ := us
        · simp at hsz
        obtain _ | ⟨x100, us⟩ := us
        · simp at hsz
        obtain _ | ⟨x101, us⟩ := us
        · simp at hsz
        obtain _ | ⟨x102, us⟩ := us
        · simp at hsz
        obtain _ | ⟨x103, us⟩ := us
        · simp at hsz
        obtain _ | ⟨x104, us⟩ := us
        · simp at hsz
        obtain _ | ⟨x105, us⟩ := us
        · simp at hsz
        obtain _ | ⟨x106, us⟩ := us
        · simp at hsz
        obtain rfl : us = [] := by cases us with | nil => rfl | cons _ _ => simp at hsz
        clear hag hend hsz
        obtain rfl : x3 = .pointer (some ⟨w.heap.size, 0, none⟩) := f3
        obtain rfl : x4 = .pointer (some ⟨w.heap.size + 1, 0, none⟩) := f4
        obtain rfl : x6 = .int .i64 (k : Int) := f6
        obtain rfl : x29 = .pointer (some ⟨w.heap.size, 1, none⟩) := f29
        obtain rfl : x30 = .slice (some ⟨b, 0, none⟩) l.length c1 := f30
        obtain rfl : x31 = .int .i64 (k : Int) := f31
        obtain rfl : x32 = .pointer (some ⟨w.heap.size, 1, none⟩) := f32
        obtain rfl : x33 = .slice (some ⟨b, 0, none⟩) l.length c1 := f33
        obtain rfl : x34 = .int .i64 (k : Int) := f34
        obtain rfl : x35 = .pointer (some ⟨w.heap.size, 1, none⟩) := f35
        obtain rfl : x36 = .slice (some ⟨b, 0, none⟩) l.length c1 := f36
        obtain rfl : x37 = .int .i64 (k : Int) := f37
        obtain rfl : x38 = .pointer (some ⟨b, k * 2, none⟩) := f38
        obtain rfl : x39 = .pointer (some ⟨b, k * 2 + 1, none⟩) := f39
        obtain rfl : x40 = .int .i64 y := f40
        obtain rfl : x41 = .pointer (some ⟨w.heap.size, 1, none⟩) := f41
        obtain rfl : x42 = .slice (some ⟨b, 0, none⟩) l.length c1 := f42
        obtain rfl : x43 = .int .i64 (k : Int) := f43
        obtain rfl : x44 = .pointer (some ⟨b, k * 2, none⟩) := f44
        obtain rfl : x45 = .pointer (some ⟨b, k * 2, none⟩) := f45
        obtain rfl : x46 = .int .i64 x := f46
        obtain rfl : x47 = .pointer (some ⟨b, k * 2, none⟩) := f47
        obtain rfl : x48 = .pointer (some ⟨b, k * 2, none⟩) := f48
        obtain rfl : x49 = .pointer (some ⟨b, k * 2, none⟩) := f49
        obtain rfl : x50 = .pointer (some ⟨b, k * 2 + 1, none⟩) := f50
        have HS5 := Lib.hid (HS3.out.atB hb hle (by simp) (J9.fin hjj (hft 20 (by decide)) (hft 23 (by decide))))
        have HMN : Hid (inM (M + 2) (l.set k (y, x))) := by show inM _ _; exact HMM.out.set_ k (by omega)
        have hln : (l.set k (y, x)).length ≤ l.length + 1 := by simp
        clear hle hjj hft hff
        generalize l.set k (y, x) = ks at HS5 HMN hln
        simp only [List.drop_succ_cons, List.drop_nil]
        have yc0 := HS5.out.c0; have yc1 := HS5.out.c1; have yf0 := HS5.out.f0; have yf1 := HS5.out.f1; have yr0 := HS5.out.r0; have yr1 := HS5.out.r1; have yq0 := HS5.out.q0; have yq1 := HS5.out.q1; have yl3 := HS5.out.l3; have yl4 := HS5.out.l4
        have hfin := HS5.out.fin (.int .i64 (n)) (.slice (some ⟨b, 0, none⟩) (ks).length c1)
        have hf0 := hfin.1; have hf1 := hfin.2.1; have HW := Lib.hid hfin.2.2
        clear hfin
        go_wp2
        generalize (((ws).setCell ⟨w.heap.size + 1, 0, none⟩ (.int .i64 (n))).setCell ⟨w.heap.size + 1, 1, none⟩ (.slice (some ⟨b, 0, none⟩) (ks).length c1)) = wf at HW hf0 hf1 ⊢
        exact bodyPost_ret (v := .agg #[.int .i64 (n), (.slice (some ⟨b, 0, none⟩) (ks).length c1)]) (by simp [results, Tryz.results8, go_sem, hf0, hf1]) rfl
          ⟨n, ks, (some ⟨b, 0, none⟩), c1, m3, rfl, .inl rfl, hln, HMN.out, HW.out.1, HW.out.2.1, HW.out.2.2⟩
  · by_cases h0 : l.length ≤ 1
    · have hd : decide ((1 : Int) < (l.length : Int)) = false := by rw [decide_eq_false_iff_not]; omega
      have hd2 : decide (1 < l.length) = false := by rw [decide_eq_false_iff_not]; omega
      have h1le : l.length ≤ l.length + 1 := by omega
      clear h0
      have yc0 := HS2.out.c0; have yc1 := HS2.out.c1; have yf0 := HS2.out.f0; have yf1 := HS2.out.f1; have yr0 := HS2.out.r0; have yr1 := HS2.out.r1; have yq0 := HS2.out.q0; have yq1 := HS2.out.q1; have yl3 := HS2.out.l3; have yl4 := HS2.out.l4
      have hfin := HS2.out.fin (.int .i64 (n)) (.slice A1 (l).length c1)
      have hf0 := hfin.1; have hf1 := hfin.2.1; have HW := Lib.hid hfin.2.2
      clear hfin
      go_wp2
      generalize (((w2).setCell ⟨w.heap.size + 1, 0, none⟩ (.int .i64 (n))).setCell ⟨w.heap.size + 1, 1, none⟩ (.slice A1 (l).length c1)) = wf at HW hf0 hf1 ⊢
      exact bodyPost_ret (v := .agg #[.int .i64 (n), (.slice A1 (l).length c1)]) (by simp [results, Tryz.results8, go_sem, hf0, hf1]) rfl
        ⟨n, l, A1, c1, m2, rfl, .inl rfl, by omega, HMM.out, HW.out.1, HW.out.2.1, HW.out.2.2⟩
    · have hlt : 0 < l.length := by omega
      obtain ⟨b, rfl, hb, hbl⟩ := own_spotE HS2.out.own hlt
      obtain ⟨j, hj⟩ : ∃ j, Hid (l.length = j + 1) := ⟨l.length - 1, by show _ = _; omega⟩
      have hj0 : 0 < j := by have := hj.out; omega
      have hjl : j < l.length := by have := hj.out; omega
      have hjl2 : l.length ≤ j + 1 := by have := hj.out; omega
      obtain ⟨⟨p0v, q0v⟩, hx⟩ : ∃ e, l[0]? = some e := ⟨_, List.getElem?_eq_getElem hlt⟩
      have HX0 := Lib.hid hx
      have hxy0 := Hm.out.at_ hx
      clear hx
      obtain ⟨⟨pjv, qjv⟩, hx⟩ : ∃ e, l[j]? = some e := ⟨_, List.getElem?_eq_getElem hjl⟩
      have HXJ := Lib.hid hx
      have hxyj := Hm.out.at_ hx
      clear hx
      have xc0 := HS2.out.c0; have xc1 := HS2.out.c1; have xf0 := HS2.out.f0; have xf1 := HS2.out.f1; have xr0 := HS2.out.r0; have xr1 := HS2.out.r1; have xq0 := HS2.out.q0; have xq1 := HS2.out.q1; have xl3 := HS2.out.l3; have xl4 := HS2.out.l4
      go_wp2
      clear xc0 xc1 xf0 xf1 xr0 xr1 xq0 xq1 xl3 xl4
      refine wp_region_at 20 107 (fun u v => u.grownBy v (some b)) (J12 (w.heap.size + 2) b c1 l j (p0v, q0v) (pjv, qjv)) [(fun z _ => z = .pointer (some ⟨w.heap.size, 1, none⟩)), (fun z _ => z = .slice (some ⟨b, 0, none⟩) l.length c1), (fun z _ => z = .pointer (some ⟨w.heap.size, 1, none⟩)), (fun z _ => z = .slice (some ⟨b, 0, none⟩) l.length c1), (fun z _ => z = .int .i64 (l.length : Int)), (fun z _ => z = .int .i64 (j : Int)), (fun z _ => z = .pointer (some ⟨w.heap.size, 1, none⟩)), (fun z _ => z = .slice (some ⟨b, 0, none⟩) l.length c1), (fun z _ => z = .int .i64 (l.length : Int)), (fun z _ => z = .int .i64 (j : Int)), (fun z _ => z = .pointer (some ⟨b, j * 2, none⟩)), (fun z _ => z = .agg #[.int .i64 pjv, .int .i64 qjv]), (fun z _ => z = .pointer (some ⟨w.heap.size, 1, none⟩)), (fun z _ => z = .slice (some ⟨b, 0, none⟩) l.length c1), (fun z _ => z = .pointer (some ⟨b, 0, none⟩)), (fun z _ => z = .agg #[.int .i64 p0v, .int .i64 q0v]), (fun z _ => z = .pointer (some ⟨b, 0, none⟩)), (fun _ _ => True), (fun z _ => z = .pointer (some ⟨b, j * 2, none⟩)), (fun _ _ => True)] (by kernel_rfl) (by kernel_rfl) rfl (fun _ _ _ h1 h2 => grown_trans h1 h2) (only_drewN 1 b) (J12.start HX0.out HXJ.out HS2.out.own) ?_ ?_ ?_
      · intro R hR
        simp only [List.mem_cons, List.not_mem_nil, or_false] at hR
        rcases hR with rfl | rfl | rfl | rfl | rfl | rfl | rfl | rfl | rfl | rfl | rfl | rfl | rfl | rfl | rfl | rfl | rfl | rfl | rfl | rfl
        · exact fun _ _ _ h _ => h
        · exact fun _ _ _ h _ => h
        · exact fun _ _ _ h _ => h
        · exact fun _ _ _ h _ => h
        · exact fun _ _ _ h _ => h
        · exact fun _ _ _ h _ => h
        · exact fun _ _ _ h _ => h
        · exact fun _ _ _ h _ => h
        · exact fun _ _ _ h _ => h
        · exact fun _ _ _ h _ => h
        · exact fun _ _ _ h _ => h
        · exact fun _ _ _ h _ => h
        · exact fun _ _ _ h _ => h
        · exact fun _ _ _ h _ => h
        · exact fun _ _ _ h _ => h
        · exact fun _ _ _ h _ => h
        · exact fun _ _ _ h _ => h
        · exact fun _ _ _ h _ => h
        · exact fun _ _ _ h _ => h
        · exact fun _ _ _ h _ => h
      · simp only [List.take_succ_cons, List.take_zero]
        refine ⟨?_, ?_, ?_, ?_, ?_, ?_, ?_, ?_, ?_, ?_, ?_, ?_, ?_, ?_, ?_, ?_, ?_, ?_, ?_, ?_, trivial⟩
        · intro a ws f hle hjj hfi hun hag hdep K Q hK
          have d3 : (a.tmps[3]?).getD undef = .pointer (some ⟨w.heap.size, 0, none⟩) := eval_get (hag 3 (freeB_spec (by kernel_rfl)))
          rw [if_pos (show Region.wanted _ _ = true from rfl)]
          have z1 := (grown_cell hle HS2.out.l3 (by omega)).trans HS2.out.c1
          have zl := Nat.lt_of_lt_of_le HS2.out.l3 hle.size
          unfold Oper.wp
          simp [go_sem, *]
          exact hK _ _ (grown_refl _ _) hjj rfl
        · intro a ws f hle hjj hfi hun hag hdep K Q hK
          have d55 : (a.tmps[55]?).getD undef = .pointer (some ⟨w.heap.size, 1, none⟩) := eval_get (dep_of hdep 0 55 rfl (by kernel_rfl) rfl rfl)
          rw [if_pos (show Region.wanted _ _ = true from rfl)]
          have z1 := (grown_cell hle HS2.out.l3 (by omega)).trans HS2.out.c1
          have zl := Nat.lt_of_lt_of_le HS2.out.l3 hle.size
          unfold Oper.wp
          simp [go_sem, *]
          exact hK _ _ (grown_refl _ _) hjj rfl
        · intro a ws f hle hjj hfi hun hag hdep K Q hK
          have d3 : (a.tmps[3]?).getD undef = .pointer (some ⟨w.heap.size, 0, none⟩) := eval_get (hag 3 (freeB_spec (by kernel_rfl)))
          rw [if_pos (show Region.wanted _ _ = true from rfl)]
          have z1 := (grown_cell hle HS2.out.l3 (by omega)).trans HS2.out.c1
          have zl := Nat.lt_of_lt_of_le HS2.out.l3 hle.size
          unfold Oper.wp
          simp [go_sem, *]
          exact hK _ _ (grown_refl _ _) hjj rfl
        · intro a ws f hle hjj hfi hun hag hdep K Q hK
          have d57 : (a.tmps[57]?).getD undef = .pointer (some ⟨w.heap.size, 1, none⟩) := eval_get (dep_of hdep 2 57 rfl (by kernel_rfl) rfl rfl)
          rw [if_pos (show Region.wanted _ _ = true from rfl)]
          have z1 := (grown_cell hle HS2.out.l3 (by omega)).trans HS2.out.c1
          have zl := Nat.lt_of_lt_of_le HS2.out.l3 hle.size
          unfold Oper.wp
          simp [go_sem, *]
          exact hK _ _ (grown_refl _ _) hjj rfl
        · intro a ws f hle hjj hfi hun hag hdep K Q hK
          have d5 : (a.tmps[5]?).getD undef = .int .i64 (l.length : Int) := eval_get (hag 5 (freeB_spec (by kernel_rfl)))
          rw [if_pos (show Region.wanted _ _ = true from rfl)]
          have z1 := (grown_cell hle HS2.out.l3 (by omega)).trans HS2.out.c1
          have zl := Nat.lt_of_lt_of_le HS2.out.l3 hle.size
          unfold Oper.wp
          simp [go_sem, *]
          exact hK _ _ (grown_refl _ _) hjj rfl
        · intro a ws f hle hjj hfi hun hag hdep K Q hK
          have d59 : (a.tmps[59]?).getD undef = .int .i64 (l.length : Int) := eval_get (dep_of hdep 4 59 rfl (by kernel_rfl) rfl rfl)
          rw [if_pos (show Region.wanted _ _ = true from rfl)]
          have hw : IntKind.i64.wrap ((l.length : Int) - 1) = (j : Int) := by rw [IntWalk.i64_in _ (by omega)]; omega
          unfold Oper.wp
          simp [go_sem, d59, hw]
          exact hK _ _ (grown_refl _ _) hjj rfl
        · intro a ws f hle hjj hfi hun hag hdep K Q hK
          have d3 : (a.tmps[3]?).getD undef = .pointer (some ⟨w.heap.size, 0, none⟩) := eval_get (hag 3 (freeB_spec (by kernel_rfl)))
          rw [if_pos (show Region.wanted _ _ = true from rfl)]
          have z1 := (grown_cell hle HS2.out.l3 (by omega)).trans HS2.out.c1
          have zl := Nat.lt_of_lt_of_le HS2.out.l3 hle.size
          unfold Oper.wp
          simp [go_sem, *]
          exact hK _ _ (grown_refl _ _) hjj rfl
        · intro a ws f hle hjj hfi hun hag hdep K Q hK
          have d61 : (a.tmps[61]?).getD undef = .pointer (some ⟨w.heap.size, 1, none⟩) := eval_get (dep_of hdep 6 61 rfl (by kernel_rfl) rfl rfl)
          rw [if_pos (show Region.wanted _ _ = true from rfl)]
          have z1 := (grown_cell hle HS2.out.l3 (by omega)).trans HS2.out.c1
          have zl := Nat.lt_of_lt_of_le HS2.out.l3 hle.size
          unfold Oper.wp
          simp [go_sem, *]
          exact hK _ _ (grown_refl _ _) hjj rfl
        · intro a ws f hle hjj hfi hun hag hdep K Q hK
          have d5 : (a.tmps[5]?).getD undef = .int .i64 (l.length : Int) := eval_get (hag 5 (freeB_spec (by kernel_rfl)))
          rw [if_pos (show Region.wanted _ _ = true from rfl)]
          have z1 := (grown_cell hle HS2.out.l3 (by omega)).trans HS2.out.c1
          have zl := Nat.lt_of_lt_of_le HS2.out.l3 hle.size
          unfold Oper.wp
          simp [go_sem, *]
          exact hK _ _ (grown_refl _ _) hjj rfl
        · intro a ws f hle hjj hfi hun hag hdep K Q hK
          have d63 : (a.tmps[63]?).getD undef = .int .i64 (l.length : Int) := eval_get (dep_of hdep 8 63 rfl (by kernel_rfl) rfl rfl)
          rw [if_pos (show Region.wanted _ _ = true from rfl)]
          have hw : IntKind.i64.wrap ((l.length : Int) - 1) = (j : Int) := by rw [IntWalk.i64_in _ (by omega)]; omega
          unfold Oper.wp
          simp [go_sem, d63, hw]
          exact hK _ _ (grown_refl _ _) hjj rfl
        · intro a ws f hle hjj hfi hun hag hdep K Q hK
          have d62 : (a.tmps[62]?).getD undef = .slice (some ⟨b, 0, none⟩) l.length c1 := eval_get (dep_of hdep 7 62 rfl (by kernel_rfl) rfl rfl)
          have d64 : (a.tmps[64]?).getD undef = .int .i64 (j : Int) := eval_get (dep_of hdep 9 64 rfl (by kernel_rfl) rfl rfl)
          rw [if_pos (show Region.wanted _ _ = true from rfl)]
          have hji : (j : Int) < (l.length : Int) := by omega
          unfold Oper.wp
          simp [go_sem, d62, d64, hji]
          exact hK _ _ (grown_refl _ _) hjj rfl
        · intro a ws f hle hjj hfi hun hag hdep K Q hK
          have d65 : (a.tmps[65]?).getD undef = .pointer (some ⟨b, j * 2, none⟩) := eval_get (dep_of hdep 10 65 rfl (by kernel_rfl) rfl rfl)
          rw [if_pos (show Region.wanted _ _ = true from rfl)]
          have e1 : f 19 = false := hun 19 _ rfl (by kernel_rfl)
          obtain ⟨hc0, hc1⟩ := J12.nj hjl hjj e1
          unfold Oper.wp
          simp [go_sem, d65, hc0, hc1]
          exact hK _ _ (grown_refl _ _) hjj rfl
        · intro a ws f hle hjj hfi hun hag hdep K Q hK
          have d3 : (a.tmps[3]?).getD undef = .pointer (some ⟨w.heap.size, 0, none⟩) := eval_get (hag 3 (freeB_spec (by kernel_rfl)))
          rw [if_pos (show Region.wanted _ _ = true from rfl)]
          have z1 := (grown_cell hle HS2.out.l3 (by omega)).trans HS2.out.c1
          have zl := Nat.lt_of_lt_of_le HS2.out.l3 hle.size
          unfold Oper.wp
          simp [go_sem, *]
          exact hK _ _ (grown_refl _ _) hjj rfl
        · intro a ws f hle hjj hfi hun hag hdep K Q hK
          have d67 : (a.tmps[67]?).getD undef = .pointer (some ⟨w.heap.size, 1, none⟩) := eval_get (dep_of hdep 12 67 rfl (by kernel_rfl) rfl rfl)
          rw [if_pos (show Region.wanted _ _ = true from rfl)]
          have z1 := (grown_cell hle HS2.out.l3 (by omega)).trans HS2.out.c1
          have zl := Nat.lt_of_lt_of_le HS2.out.l3 hle.size
          unfold Oper.wp
          simp [go_sem, *]
          exact hK _ _ (grown_refl _ _) hjj rfl
        · intro a ws f hle hjj hfi hun hag hdep K Q hK
          have d68 : (a.tmps[68]?).getD undef = .slice (some ⟨b, 0, none⟩) l.length c1 := eval_get (dep_of hdep 13 68 rfl (by kernel_rfl) rfl rfl)
          rw [if_pos (show Region.wanted _ _ = true from rfl)]
          have h0i : 0 < l.length := by omega
          unfold Oper.wp
          simp [go_sem, d68, h0i]
          exact hK _ _ (grown_refl _ _) hjj rfl
        · intro a ws f hle hjj hfi hun hag hdep K Q hK
          have d69 : (a.tmps[69]?).getD undef = .pointer (some ⟨b, 0, none⟩) := eval_get (dep_of hdep 14 69 rfl (by kernel_rfl) rfl rfl)
          rw [if_pos (show Region.wanted _ _ = true from rfl)]
          have e1 : f 17 = false := hun 17 _ rfl (by kernel_rfl)
          obtain ⟨hc0, hc1⟩ := J12.n0 hj0 hjl hjj e1
          unfold Oper.wp
          simp [go_sem, d69, hc0, hc1]
          exact hK _ _ (grown_refl _ _) hjj rfl
        · intro a ws f hle hjj hfi hun hag hdep K Q hK
          have d56 : (a.tmps[56]?).getD undef = .slice (some ⟨b, 0, none⟩) l.length c1 := eval_get (dep_of hdep 1 56 rfl (by kernel_rfl) rfl rfl)
          rw [if_pos (show Region.wanted _ _ = true from rfl)]
          have h0i : 0 < l.length := by omega
          unfold Oper.wp
          simp [go_sem, d56, h0i]
          exact hK _ _ (grown_refl _ _) hjj rfl
        · intro a ws f hle hjj hfi hun hag hdep K Q hK
          have d71 : (a.tmps[71]?).getD undef = .pointer (some ⟨b, 0, none⟩) := eval_get (dep_of hdep 16 71 rfl (by kernel_rfl) rfl rfl)
          have d66 : (a.tmps[66]?).getD undef = .agg #[.int .i64 pjv, .int .i64 qjv] := eval_get (dep_of hdep 11 66 rfl (by kernel_rfl) rfl rfl)
          rw [if_pos (show Region.wanted _ _ = true from rfl)]
          obtain ⟨hc0, hc1, hz0, hz1⟩ := two_cells0 hj0 hjl hjj
          unfold Oper.wp
          simp [go_sem, d71, d66, hc0, hc1, hz0, hz1]
          exact hK undef _ (grown_trans set_grown set_grown) (J12.s17 hj0 hjl hjj) trivial
        · intro a ws f hle hjj hfi hun hag hdep K Q hK
          have d58 : (a.tmps[58]?).getD undef = .slice (some ⟨b, 0, none⟩) l.length c1 := eval_get (dep_of hdep 3 58 rfl (by kernel_rfl) rfl rfl)
          have d60 : (a.tmps[60]?).getD undef = .int .i64 (j : Int) := eval_get (dep_of hdep 5 60 rfl (by kernel_rfl) rfl rfl)
          rw [if_pos (show Region.wanted _ _ = true from rfl)]
          have hji : (j : Int) < (l.length : Int) := by omega
          unfold Oper.wp
          simp [go_sem, d58, d60, hji]
          exact hK _ _ (grown_refl _ _) hjj rfl
        · intro a ws f hle hjj hfi hun hag hdep K Q hK
          have d72 : (a.tmps[72]?).getD undef = .pointer (some ⟨b, j * 2, none⟩) := eval_get (dep_of hdep 18 72 rfl (by kernel_rfl) rfl rfl)
          have d70 : (a.tmps[70]?).getD undef = .agg #[.int .i64 p0v, .int .i64 q0v] := eval_get (dep_of hdep 15 70 rfl (by kernel_rfl) rfl rfl)
          rw [if_pos (show Region.wanted _ _ = true from rfl)]
          obtain ⟨hc0, hc1, hz0, hz1⟩ := two_cellsj hjl hjj
          unfold Oper.wp
          simp [go_sem, d72, d70, hc0, hc1, hz0, hz1]
          exact hK undef _ (grown_trans set_grown set_grown) (J12.s19 hjl hjj) trivial
      · intro a ws f hle hjj hft hff hsz hdf hag hend
        have f55 : a.eval (.tmp 55) = .pointer (some ⟨w.heap.size, 1, none⟩) := end_of hend 0 55 (by decide) rfl rfl rfl
        have f56 : a.eval (.tmp 56) = .slice (some ⟨b, 0, none⟩) l.length c1 := end_of hend 1 56 (by decide) rfl rfl rfl
        have f57 : a.eval (.tmp 57) = .pointer (some ⟨w.heap.size, 1, none⟩) := end_of hend 2 57 (by decide) rfl rfl rfl
        have f58 : a.eval (.tmp 58) = .slice (some ⟨b, 0, none⟩) l.length c1 := end_of hend 3 58 (by decide) rfl rfl rfl
        have f59 : a.eval (.tmp 59) = .int .i64 (l.length : Int) := end_of hend 4 59 (by decide) rfl rfl rfl
        have f60 : a.eval (.tmp 60) = .int .i64 (j : Int) := end_of hend 5 60 (by decide) rfl rfl rfl
        have f61 : a.eval (.tmp 61) = .pointer (some ⟨w.heap.size, 1, none⟩) := end_of hend 6 61 (by decide) rfl rfl rfl
        have f62 : a.eval (.tmp 62) = .slice (some ⟨b, 0, none⟩) l.length c1 := end_of hend 7 62 (by decide) rfl rfl rfl
        have f63 : a.eval (.tmp 63) = .int .i64 (l.length : Int) := end_of hend 8 63 (by decide) rfl rfl rfl
        have f64 : a.eval (.tmp 64) = .int .i64 (j : Int) := end_of hend 9 64 (by decide) rfl rfl rfl
        have f65 : a.eval (.tmp 65) = .pointer (some ⟨b, j * 2, none⟩) := end_of hend 10 65 (by decide) rfl rfl rfl
        have f66 : a.eval (.tmp 66) = .agg #[.int .i64 pjv, .int .i64 qjv] := end_of hend 11 66 (by decide) rfl rfl rfl
        have f67 : a.eval (.tmp 67) = .pointer (some ⟨w.heap.size, 1, none⟩) := end_of hend 12 67 (by decide) rfl rfl rfl
        have f68 : a.eval (.tmp 68) = .slice (some ⟨b, 0, none⟩) l.length c1 := end_of hend 13 68 (by decide) rfl rfl rfl
        have f69 : a.eval (.tmp 69) = .pointer (some ⟨b, 0, none⟩) := end_of hend 14 69 (by decide) rfl rfl rfl
        have f70 : a.eval (.tmp 70) = .agg #[.int .i64 p0v, .int .i64 q0v] := end_of hend 15 70 (by decide) rfl rfl rfl
        have f71 : a.eval (.tmp 71) = .pointer (some ⟨b, 0, none⟩) := end_of hend 16 71 (by decide) rfl rfl rfl
        have f72 : a.eval (.tmp 72) = .pointer (some ⟨b, j * 2, none⟩) := end_of hend 18 72 (by decide) rfl rfl rfl
        have f3 : a.eval (.tmp 3) = .pointer (some ⟨w.heap.size, 0, none⟩) := hag 3 (freeB_spec (by kernel_rfl))
        have f4 : a.eval (.tmp 4) = .pointer (some ⟨w.heap.size + 1, 0, none⟩) := hag 4 (freeB_spec (by kernel_rfl))
        have f5 : a.eval (.tmp 5) = .int .i64 (l.length : Int) := hag 5 (freeB_spec (by kernel_rfl))
        obtain ⟨T, D⟩ := a
        obtain rfl : D = [] := hdf
        obtain ⟨us, rfl⟩ : ∃ us : List Value, T = us.toArray := ⟨T.toList, by simp⟩
        replace hsz : us.length = 107 := by simpa using hsz
        obtain _ | ⟨x0, us⟩ := us
        · simp at hsz
        obtain _ | ⟨x1, us⟩ := us
        · simp at hsz
        obtain _ | ⟨x2, us⟩ := us
        · simp at hsz
        obtain _ | ⟨x3, us⟩ := us
        · simp at hsz
        obtain _ | ⟨x4, us⟩ := us
        · simp at hsz
        obtain _ | ⟨x5, us⟩ := us
        · simp at hsz
        obtain _ | ⟨x6, us⟩ := us
        · simp at hsz
        obtain _ | ⟨x7, us⟩ := us
        · simp at hsz
        obtain _ | ⟨x8, us⟩ := us
        · simp at hsz
        obtain _ | ⟨x9, us⟩ := us
        · simp at hsz
        obtain _ | ⟨x10, us⟩ := us
        · simp at hsz
        obtain _ | ⟨x11, us⟩ := us
        · simp at hsz
        obtain _ | ⟨x12, us⟩ := us
        · simp at hsz
        obtain _ | ⟨x13, us⟩ := us
        · simp at hsz
        obtain _ | ⟨x14, us⟩ := us
        · simp at hsz
        obtain _ | ⟨x15, us⟩ := us
        · simp at hsz
        obtain _ | ⟨x16, us⟩ := us
        · simp at hsz
        obtain _ | ⟨x17, us⟩ := us
        · simp at hsz
        obtain _ | ⟨x18, us⟩ := us
        · simp at hsz
        obtain _ | ⟨x19, us⟩ := us
        · simp at hsz
        obtain _ | ⟨x20, us⟩ := us
        · simp at hsz
        obtain _ | ⟨x21, us⟩ := us
        · simp at hsz
        obtain _ | ⟨x22, us⟩ := us
        · simp at hsz
        obtain _ | ⟨x23, us⟩ := us
        · simp at hsz
        obtain _ | ⟨x24, us⟩ := us
        · simp at hsz
        obtain _ | ⟨x25, us⟩ := us
        · simp at hsz
        obtain _ | ⟨x26, us⟩ := us
        · simp at hsz
        obtain _ | ⟨x27, us⟩ := us
        · simp at hsz
        obtain _ | ⟨x28, us⟩ := us
        · simp at hsz
        obtain _ | ⟨x29, us⟩ := us
        · simp at hsz
        obtain _ | ⟨x30, us⟩ := us
        · simp at hsz
        obtain _ | ⟨x31, us⟩ := us
        · simp at hsz
        obtain _ | ⟨x32, us⟩ := us
        · simp at hsz
        obtain _ | ⟨x33, us⟩ := us
        · simp at hsz
        obtain _ | ⟨x34, us⟩ := us
        · simp at hsz
        obtain _ | ⟨x35, us⟩ := us
        · simp at hsz
        obtain _ | ⟨x36, us⟩ := us
        · simp at hsz
        obtain _ | ⟨x37, us⟩ := us
        · simp at hsz
        obtain _ | ⟨x38, us⟩ := us
        · simp at hsz
        obtain _ | ⟨x39, us⟩ := us
        · simp at hsz
        obtain _ | ⟨x40, us⟩ := us
        · simp at hsz
        obtain _ | ⟨x41, us⟩ := us
        · simp at hsz
        obtain _ | ⟨x42, us⟩ := us
        · simp at hsz
        obtain _ | ⟨x43, us⟩ := us
        · simp at hsz
        obtain _ | ⟨x44, us⟩ := us
        · simp at hsz
        obtain _ | ⟨x45, us⟩ := us
        · simp at hsz
        obtain _ | ⟨x46, us⟩ := us
        · simp at hsz
        obtain _ | ⟨x47, us⟩ := us
        · simp at hsz
        obtain _ | ⟨x48, us⟩ := us
        · simp at hsz
        obtain _ | ⟨x49, us⟩ := us
        · simp at hsz
        obtain _ | ⟨x50, us⟩ := us
        · simp at hsz
        obtain _ | ⟨x51, us⟩ := us
        · simp at hsz
        obtain _ | ⟨x52, us⟩ := us
        · simp at hsz
        obtain _ | ⟨x53, us⟩ := us
        · simp at hsz
        obtain _ | ⟨x54, us⟩ := us
        · simp at hsz
        obtain _ | ⟨x55, us⟩ := us
        · simp at hsz
        obtain _ | ⟨x56, us⟩ := us
        · simp at hsz
        obtain _ | ⟨x57, us⟩ := us
        · simp at hsz
        obtain _ | ⟨x58, us⟩ := us
        · simp at hsz
        obtain _ | ⟨x59, us⟩ := us
        · simp at hsz
        obtain _ | ⟨x60, us⟩ := us
        · simp at hsz
        obtain _ | ⟨x61, us⟩ := us
        · simp at hsz
        obtain _ | ⟨x62, us⟩ := us
        · simp at hsz
        obtain _ | ⟨x63, us⟩ := us
        · simp at hsz
        obtain _ | ⟨x64, us⟩ := us
        · simp at hsz
        obtain _ | ⟨x65, us⟩ := us
        · simp at hsz
        obtain _ | ⟨x66, us⟩ := us
        · simp at hsz
        obtain _ | ⟨x67, us⟩ := us
        · simp at hsz
        obtain _ | ⟨x68, us⟩ := us
        · simp at hsz
        obtain _ | ⟨x69, us⟩ := us
        · simp at hsz
        obtain _ | ⟨x70, us⟩ := us
        · simp at hsz
        obtain _ | ⟨x71, us⟩ := us
        · simp at hsz
        obtain _ | ⟨x72, us⟩ := us
        · simp at hsz
        obtain _ | ⟨x73, us⟩ := us
        · simp at hsz
        obtain _ | ⟨x74, us⟩ := us
        · simp at hsz
        obtain _ | ⟨x75, us⟩ := us
        · simp at hsz
        obtain _ | ⟨x76, us⟩ := us
        · simp at hsz
        obtain _ | ⟨x77, us⟩ := us
        · simp at hsz
        obtain _ | ⟨x78, us⟩ := us
        · simp at hsz
        obtain _ | ⟨x79, us⟩ := us
        · simp at hsz
        obtain _ | ⟨x80, us⟩ := us
        · simp at hsz
        obtain _ | ⟨x81, us⟩ := us
        · simp at hsz
        obtain _ | ⟨x82, us⟩ := us
        · simp at hsz
        obtain _ | ⟨x83, us⟩ := us
        · simp at hsz
        obtain _ | ⟨x84, us⟩ := us
        · simp at hsz
        obtain _ | ⟨x85, us⟩ := us
        · simp at hsz
        obtain _ | ⟨x86, us⟩ := us
        · simp at hsz
        obtain _ | ⟨x87, us⟩ := us
        · simp at hsz
        obtain _ | ⟨x88, us⟩ := us
        · simp at hsz
        obtain _ | ⟨x89, us⟩ := us
        · simp at hsz
        obtain _ | ⟨x90, us⟩ := us
        · simp at hsz
        obtain _ | ⟨x91, us⟩ := us
        · simp at hsz
        obtain _ | ⟨x92, us⟩ := us
        · simp at hsz
        obtain _ | ⟨x93, us⟩ := us
        · simp at hsz
        obtain _ | ⟨x94, us⟩ := us
        · simp at hsz
        obtain _ | ⟨x95, us⟩ := us
        · simp at hsz
        obtain _ | ⟨x96, us⟩ := us
        · simp at hsz
        obtain _ | ⟨x97, us⟩ := us
        · simp at hsz
        obtain _ | ⟨x98, us⟩ := us
        · simp at hsz
        obtain _ | ⟨x99, us⟩ := us
        · simp at hsz
        obtain _ | ⟨x100, us⟩ := us
        · simp at hsz
        obtain _ | ⟨x101, us⟩ := us
        · simp at hsz
        obtain _ | ⟨x102, us⟩ := us
        · simp at hsz
        obtain _ | ⟨x103, us⟩ := us
        · simp at hsz
        obtain _ | ⟨x104, us⟩ := us
        · simp at hsz
        obtain _ | ⟨x105, us⟩ := us
        · simp at hsz
        obtain _ | ⟨x106, us⟩ := us
        · simp at hsz
        obtain rfl : us = [] := by cases us with | nil => rfl | cons _ _ => simp at hsz
        clear hag hend hsz
        obtain rfl : x3 = .pointer (some ⟨w.heap.size, 0, none⟩) := f3
        obtain rfl : x4 = .pointer (some ⟨w.heap.size + 1, 0, none⟩) := f4
        obtain rfl : x5 = .int .i64 (l.length : Int) := f5
        obtain rfl : x55 = .pointer (some ⟨w.heap.size, 1, none⟩) := f55
        obtain rfl : x56 = .slice (some ⟨b, 0, none⟩) l.length c1 := f56
        obtain rfl : x57 = .pointer (some ⟨w.heap.size, 1, none⟩) := f57
        obtain rfl : x58 = .slice (some ⟨b, 0, none⟩) l.length c1 := f58
        obtain rfl : x59 = .int .i64 (l.length : Int) := f59
        obtain rfl : x60 = .int .i64 (j : Int) := f60
        obtain rfl : x61 = .pointer (some ⟨w.heap.size, 1, none⟩) := f61
        obtain rfl : x62 = .slice (some ⟨b, 0, none⟩) l.length c1 := f62
        obtain rfl : x63 = .int .i64 (l.length : Int) := f63
        obtain rfl : x64 = .int .i64 (j : Int) := f64
        obtain rfl : x65 = .pointer (some ⟨b, j * 2, none⟩) := f65
        obtain rfl : x66 = .agg #[.int .i64 pjv, .int .i64 qjv] := f66
        obtain rfl : x67 = .pointer (some ⟨w.heap.size, 1, none⟩) := f67
        obtain rfl : x68 = .slice (some ⟨b, 0, none⟩) l.length c1 := f68
        obtain rfl : x69 = .pointer (some ⟨b, 0, none⟩) := f69
        obtain rfl : x70 = .agg #[.int .i64 p0v, .int .i64 q0v] := f70
        obtain rfl : x71 = .pointer (some ⟨b, 0, none⟩) := f71
        obtain rfl : x72 = .pointer (some ⟨b, j * 2, none⟩) := f72
        have HS5 := Lib.hid (HS2.out.atB hb hle (by simp) (J12.fin hjj (hft 17 (by decide)) (hft 19 (by decide))))
        have HMN : Hid (inM (M + 2) ((l.set 0 (pjv, qjv)).set j (p0v, q0v))) := by show inM _ _; exact (HMM.out.set_ 0 (by omega)).set_ j (by omega)
        have hln : ((l.set 0 (pjv, qjv)).set j (p0v, q0v)).length ≤ l.length + 1 := by simp
        clear hle hjj hft hff
        generalize (l.set 0 (pjv, qjv)).set j (p0v, q0v) = ks at HS5 HMN hln
        simp only [List.drop_succ_cons, List.drop_nil]
        have yc0 := HS5.out.c0; have yc1 := HS5.out.c1; have yf0 := HS5.out.f0; have yf1 := HS5.out.f1; have yr0 := HS5.out.r0; have yr1 := HS5.out.r1; have yq0 := HS5.out.q0; have yq1 := HS5.out.q1; have yl3 := HS5.out.l3; have yl4 := HS5.out.l4
        have hfin := HS5.out.fin (.int .i64 (n)) (.slice (some ⟨b, 0, none⟩) (ks).length c1)
        have hf0 := hfin.1; have hf1 := hfin.2.1; have HW := Lib.hid hfin.2.2
        clear hfin
        go_wp2
        generalize (((ws).setCell ⟨w.heap.size + 1, 0, none⟩ (.int .i64 (n))).setCell ⟨w.heap.size + 1, 1, none⟩ (.slice (some ⟨b, 0, none⟩) (ks).length c1)) = wf at HW hf0 hf1 ⊢
        exact bodyPost_ret (v := .agg #[.int .i64 (n), (.slice (some ⟨b, 0, none⟩) (ks).length c1)]) (by simp [results, Tryz.results8, go_sem, hf0, hf1]) rfl
          ⟨n, ks, (some ⟨b, 0, none⟩), c1, m2, rfl, .inl rfl, hln, HMN.out, HW.out.1, HW.out.2.1, HW.out.2.2⟩
  · by_cases h0 : l.length = 0
    · have hd : decide ((0 : Int) < (l.length : Int)) = false := by rw [decide_eq_false_iff_not]; omega
      have hd2 : decide (0 < l.length) = false := by rw [decide_eq_false_iff_not]; omega
      have h1le : l.length ≤ l.length + 1 := by omega
      clear h0
      have yc0 := HS2.out.c0; have yc1 := HS2.out.c1; have yf0 := HS2.out.f0; have yf1 := HS2.out.f1; have yr0 := HS2.out.r0; have yr1 := HS2.out.r1; have yq0 := HS2.out.q0; have yq1 := HS2.out.q1; have yl3 := HS2.out.l3; have yl4 := HS2.out.l4
      have hfin := HS2.out.fin (.int .i64 (n)) (.slice A1 (l).length c1)
      have hf0 := hfin.1; have hf1 := hfin.2.1; have HW := Lib.hid hfin.2.2
      clear hfin
      go_wp2
      generalize (((w2).setCell ⟨w.heap.size + 1, 0, none⟩ (.int .i64 (n))).setCell ⟨w.heap.size + 1, 1, none⟩ (.slice A1 (l).length c1)) = wf at HW hf0 hf1 ⊢
      exact bodyPost_ret (v := .agg #[.int .i64 (n), (.slice A1 (l).length c1)]) (by simp [results, Tryz.results8, go_sem, hf0, hf1]) rfl
        ⟨n, l, A1, c1, m2, rfl, .inl rfl, by omega, HMM.out, HW.out.1, HW.out.2.1, HW.out.2.2⟩
    · have hlt : 0 < l.length := by omega
      obtain ⟨b, rfl, hb, hbl⟩ := own_spotE HS2.out.own hlt
      obtain ⟨j, hj⟩ : ∃ j, Hid (l.length = j + 1) := ⟨l.length - 1, by show _ = _; omega⟩
      have hjl : j < l.length := by have := hj.out; omega
      have hjl2 : l.length ≤ j + 1 := by have := hj.out; omega
      obtain ⟨⟨pv, qv⟩, hx⟩ : ∃ e, l[j]? = some e := ⟨_, List.getElem?_eq_getElem hjl⟩
      obtain ⟨p0, p1, -, -⟩ := own_cells HS2.out.own hx
      have hxy := Hm.out.at_ hx
      clear hx
      have hw : IntKind.i64.wrap ((l.length : Int) - 1) = (j : Int) := by rw [IntWalk.i64_in _ (by omega)]; omega
      have hji : (j : Int) < (l.length : Int) := by omega
      have hOW := Lib.hid HS2.out.own
      have xc0 := HS2.out.c0; have xc1 := HS2.out.c1; have xf0 := HS2.out.f0; have xf1 := HS2.out.f1; have xr0 := HS2.out.r0; have xr1 := HS2.out.r1; have xq0 := HS2.out.q0; have xq1 := HS2.out.q1; have xl3 := HS2.out.l3; have xl4 := HS2.out.l4
      go_wp2
      go_region_law (refine step_applE _ rfl (.tmp 78) (.tmp 85) rfl (w.heap.size + 2) (some ⟨b, 0, none⟩) c1 l (by simp [Act.eval]) (by exact hOW.out.alloc _) (some ⟨w2.heap.size, 0, none⟩) 1 1 [(pv, qv)] rfl (by simp [Act.eval]) (by exact RE_newB _ pv qv) (by omega) (by simp; omega) ?_; intro A4 c4 w4 HO4 HB4; have b3 := ((below_via (w3 := w2) HB4.out (by omega)).block w.heap.size (by omega)).trans HS2.out.b3; have d1 := Go.Joins.cell_of_block b3 1; have d2 := Go.Joins.unfrozen_of_block b3 1; have dl := lt_of_some b3; simp at d1; clear b3)
      all_goals
        have hLL : l.length + 1 = (l ++ [(pv, qv)]).length := by simp
        rw [hLL]
        have HS5 := Lib.hid (HS2.out.setL HO4.out (below_via (w3 := w2) HB4.out (by omega)))
        have HMN : Hid (inM (M + 2) (l ++ [(pv, qv)])) := by show inM _ _; exact HMM.out.push (by omega)
        have hln : (l ++ [(pv, qv)]).length ≤ l.length + 1 := by simp
        clear hLL HO4 HB4 d1 d2 dl p0 p1
        clear xc0 xc1 xf0 xf1 xr0 xr1 xq0 xq1 xl3 xl4
        generalize l ++ [(pv, qv)] = ks at HS5 HMN hln ⊢
        generalize w4.setCell ⟨w.heap.size, 1, none⟩ (.slice A4 ks.length c4) = W9 at HS5 ⊢
        have yc0 := HS5.out.c0; have yc1 := HS5.out.c1; have yf0 := HS5.out.f0; have yf1 := HS5.out.f1; have yr0 := HS5.out.r0; have yr1 := HS5.out.r1; have yq0 := HS5.out.q0; have yq1 := HS5.out.q1; have yl3 := HS5.out.l3; have yl4 := HS5.out.l4
        have hfin := HS5.out.fin (.int .i64 (n)) (.slice A4 (ks).length c4)
        have hf0 := hfin.1; have hf1 := hfin.2.1; have HW := Lib.hid hfin.2.2
        clear hfin
        go_wp2
        generalize (((W9).setCell ⟨w.heap.size + 1, 0, none⟩ (.int .i64 (n))).setCell ⟨w.heap.size + 1, 1, none⟩ (.slice A4 (ks).length c4)) = wf at HW hf0 hf1 ⊢
        exact bodyPost_ret (v := .agg #[.int .i64 (n), (.slice A4 (ks).length c4)]) (by simp [results, Tryz.results8, go_sem, hf0, hf1]) rfl
          ⟨n, ks, A4, c4, m2, rfl, .inl rfl, hln, HMN.out, HW.out.1, HW.out.2.1, HW.out.2.2⟩
  · by_cases h0 : l.length = 0
    · have hd : decide ((0 : Int) < (l.length : Int)) = false := by rw [decide_eq_false_iff_not]; omega
      have hd2 : decide (0 < l.length) = false := by rw [decide_eq_false_iff_not]; omega
      have h1le : l.length ≤ l.length + 1 := by omega
      clear h0
      have yc0 := HS2.out.c0; have yc1 := HS2.out.c1; have yf0 := HS2.out.f0; have yf1 := HS2.out.f1; have yr0 := HS2.out.r0; have yr1 := HS2.out.r1; have yq0 := HS2.out.q0; have yq1 := HS2.out.q1; have yl3 := HS2.out.l3; have yl4 := HS2.out.l4
      have hfin := HS2.out.fin (.int .i64 (n)) (.slice A1 (l).length c1)
      have hf0 := hfin.1; have hf1 := hfin.2.1; have HW := Lib.hid hfin.2.2
      clear hfin
      go_wp2
      generalize (((w2).setCell ⟨w.heap.size + 1, 0, none⟩ (.int .i64 (n))).setCell ⟨w.heap.size + 1, 1, none⟩ (.slice A1 (l).length c1)) = wf at HW hf0 hf1 ⊢
      exact bodyPost_ret (v := .agg #[.int .i64 (n), (.slice A1 (l).length c1)]) (by simp [results, Tryz.results8, go_sem, hf0, hf1]) rfl
        ⟨n, l, A1, c1, m2, rfl, .inl rfl, by omega, HMM.out, HW.out.1, HW.out.2.1, HW.out.2.2⟩
    · have hlt : 0 < l.length := by omega
      obtain ⟨b, rfl, hb, hbl⟩ := own_spotE HS2.out.own hlt
      have xc0 := HS2.out.c0; have xc1 := HS2.out.c1; have xf0 := HS2.out.f0; have xf1 := HS2.out.f1; have xr0 := HS2.out.r0; have xr1 := HS2.out.r1; have xq0 := HS2.out.q0; have xq1 := HS2.out.q1; have xl3 := HS2.out.l3; have xl4 := HS2.out.l4
      go_wp2
      clear xc0 xc1 xf0 xf1 xr0 xr1 xq0 xq1 xl3 xl4
      refine wp_region_at 14 107 (fun u v => u.grownBy v (some g)) (J18 base (w.heap.size + 2) b c1 l g A c L) [(fun z _ => z = .pointer (some ⟨w.heap.size, 1, none⟩)), (fun z _ => z = .slice (some ⟨b, 0, none⟩) l.length c1), (fun z _ => z = .pointer (some ⟨g, 0, none⟩)), (fun z _ => z = .int .i64 (l.length : Int)), (FN l.length), (FI b l.length 0), (FI b l.length 1), (FB (-M) M), (fun z _ => z = .pointer (some ⟨g, 0, none⟩)), (FB 0 4), (FB (-2) 2), (FB (-(M + 2)) (M + 2)), (FI b l.length 0), (FI b l.length 1)] (by kernel_rfl) (by kernel_rfl) rfl (fun _ _ _ h1 h2 => grown_trans h1 h2) (only_drewN 1 g) ⟨⟨_, HS2.out.dk.go ⟨rfl, rfl, rfl, Nat.le_refl _, fun _ _ => rfl⟩⟩, HS2.out.own⟩ ?_ ?_ ?_
      · intro R hR
        simp only [List.mem_cons, List.not_mem_nil, or_false] at hR
        rcases hR with rfl | rfl | rfl | rfl | rfl | rfl | rfl | rfl | rfl | rfl | rfl | rfl | rfl | rfl
        · exact fun _ _ _ h _ => h
        · exact fun _ _ _ h _ => h
        · exact fun _ _ _ h _ => h
        · exact fun _ _ _ h _ => h
        · exact fun _ _ _ h _ => h
        · exact fun _ _ _ h _ => h
        · exact fun _ _ _ h _ => h
        · exact fun _ _ _ h _ => h
        · exact fun _ _ _ h _ => h
        · exact fun _ _ _ h _ => h
        · exact fun _ _ _ h _ => h
        · exact fun _ _ _ h _ => h
        · exact fun _ _ _ h _ => h
        · exact fun _ _ _ h _ => h
      · simp only [List.take_succ_cons, List.take_zero]
        refine ⟨?_, ?_, ?_, ?_, ?_, ?_, ?_, ?_, ?_, ?_, ?_, ?_, ?_, ?_, trivial⟩
        · intro a ws f hle hjj hfi hun hag hdep K Q hK
          have d3 : (a.tmps[3]?).getD undef = .pointer (some ⟨w.heap.size, 0, none⟩) := eval_get (hag 3 (freeB_spec (by kernel_rfl)))
          rw [if_pos (show Region.wanted _ _ = true from rfl)]
          have z1 := (grown_cell hle HS2.out.l3 (by have := HS2.out.lg; omega)).trans HS2.out.c1
          have zl := Nat.lt_of_lt_of_le HS2.out.l3 hle.size
          unfold Oper.wp
          simp [go_sem, *]
          exact hK _ _ (grown_refl _ _) hjj rfl
        · intro a ws f hle hjj hfi hun hag hdep K Q hK
          have d92 : (a.tmps[92]?).getD undef = .pointer (some ⟨w.heap.size, 1, none⟩) := eval_get (dep_of hdep 0 92 rfl (by kernel_rfl) rfl rfl)
          rw [if_pos (show Region.wanted _ _ = true from rfl)]
          have z1 := (grown_cell hle HS2.out.l3 (by have := HS2.out.lg; omega)).trans HS2.out.c1
          have zl := Nat.lt_of_lt_of_le HS2.out.l3 hle.size
          unfold Oper.wp
          simp [go_sem, *]
          exact hK _ _ (grown_refl _ _) hjj rfl
        · intro a ws f hle hjj hfi hun hag hdep K Q hK
          have d0 : (a.tmps[0]?).getD undef = .pointer (some ⟨g, 0, none⟩) := eval_get (hag 0 (freeB_spec (by kernel_rfl)))
          rw [if_pos (show Region.wanted _ _ = true from rfl)]
          have z1 := (grown_cell hle HS2.out.l3 (by have := HS2.out.lg; omega)).trans HS2.out.c1
          have zl := Nat.lt_of_lt_of_le HS2.out.l3 hle.size
          unfold Oper.wp
          simp [go_sem, *]
          exact hK _ _ (grown_refl _ _) hjj rfl
        · intro a ws f hle hjj hfi hun hag hdep K Q hK
          have d5 : (a.tmps[5]?).getD undef = .int .i64 (l.length : Int) := eval_get (hag 5 (freeB_spec (by kernel_rfl)))
          rw [if_pos (show Region.wanted _ _ = true from rfl)]
          have z1 := (grown_cell hle HS2.out.l3 (by have := HS2.out.lg; omega)).trans HS2.out.c1
          have zl := Nat.lt_of_lt_of_le HS2.out.l3 hle.size
          unfold Oper.wp
          simp [go_sem, *]
          exact hK _ _ (grown_refl _ _) hjj rfl
        · intro a ws f hle hjj hfi hun hag hdep K Q hK
          have d94 : (a.tmps[94]?).getD undef = .pointer (some ⟨g, 0, none⟩) := eval_get (dep_of hdep 2 94 rfl (by kernel_rfl) rfl rfl)
          have d95 : (a.tmps[95]?).getD undef = .int .i64 (l.length : Int) := eval_get (dep_of hdep 3 95 rfl (by kernel_rfl) rfl rfl)
          rw [if_pos (show Region.wanted _ _ = true from rfl)]
          obtain ⟨⟨mm, hdm⟩, hom⟩ := hjj
          have hcon := next_any base g A c L mm ((l.length : Int)) ws hdm hL (by omega)
          unfold Oper.wp
          simp [go_sem, d94, d95]
          refine hcon.mono ?_
          rintro e w9 ⟨r, m9, rfl, hr0, hr1, hd9, hg9⟩
          refine hK _ _ hg9 ⟨⟨m9, hd9⟩, own_kept hom hg9 (by have := HS2.out.lg; omega)⟩ ⟨r.toNat, by omega, ?_⟩
          rw [Int.toNat_of_nonneg hr0]
        · intro a ws f hle hjj hfi hun hag hdep K Q hK
          have d93 : (a.tmps[93]?).getD undef = .slice (some ⟨b, 0, none⟩) l.length c1 := eval_get (dep_of hdep 1 93 rfl (by kernel_rfl) rfl rfl)
          have d96 : (FN l.length) (a.eval (.tmp 96)) ws := dep_of hdep 4 96 rfl (by kernel_rfl) rfl rfl
          rw [if_pos (show Region.wanted _ _ = true from rfl)]
          obtain ⟨i, hi, e96⟩ := d96
          have e96 := eval_get e96
          have hii : (i : Int) < (l.length : Int) := by omega
          unfold Oper.wp
          simp [go_sem, d93, e96, hii]
          exact hK _ _ (grown_refl _ _) hjj ⟨i, hi, rfl⟩
        · intro a ws f hle hjj hfi hun hag hdep K Q hK
          have d97 : (FI b l.length 0) (a.eval (.tmp 97)) ws := dep_of hdep 5 97 rfl (by kernel_rfl) rfl rfl
          rw [if_pos (show Region.wanted _ _ = true from rfl)]
          obtain ⟨i, hi, e97⟩ := d97
          have e97 := eval_get e97
          unfold Oper.wp
          simp [go_sem, e97]
          exact hK _ _ (grown_refl _ _) hjj ⟨i, hi, rfl⟩
        · intro a ws f hle hjj hfi hun hag hdep K Q hK
          have d98 : (FI b l.length 1) (a.eval (.tmp 98)) ws := dep_of hdep 6 98 rfl (by kernel_rfl) rfl rfl
          rw [if_pos (show Region.wanted _ _ = true from rfl)]
          obtain ⟨i, hi, e98⟩ := d98
          have e98 := eval_get e98
          obtain ⟨⟨x, y⟩, hx⟩ : ∃ e, l[i]? = some e := ⟨_, List.getElem?_eq_getElem hi⟩
          have hc := (own_cells hjj.2 hx).2.1
          have hxy := Hm.out.at_ hx
          clear hx
          unfold Oper.wp
          simp [go_sem, e98, hc]
          exact hK _ _ (grown_refl _ _) hjj ⟨y, by omega, by omega, rfl⟩
        · intro a ws f hle hjj hfi hun hag hdep K Q hK
          have d0 : (a.tmps[0]?).getD undef = .pointer (some ⟨g, 0, none⟩) := eval_get (hag 0 (freeB_spec (by kernel_rfl)))
          rw [if_pos (show Region.wanted _ _ = true from rfl)]
          have z1 := (grown_cell hle HS2.out.l3 (by have := HS2.out.lg; omega)).trans HS2.out.c1
          have zl := Nat.lt_of_lt_of_le HS2.out.l3 hle.size
          unfold Oper.wp
          simp [go_sem, *]
          exact hK _ _ (grown_refl _ _) hjj rfl
        · intro a ws f hle hjj hfi hun hag hdep K Q hK
          have d100 : (a.tmps[100]?).getD undef = .pointer (some ⟨g, 0, none⟩) := eval_get (dep_of hdep 8 100 rfl (by kernel_rfl) rfl rfl)
          rw [if_pos (show Region.wanted _ _ = true from rfl)]
          obtain ⟨⟨mm, hdm⟩, hom⟩ := hjj
          have hcon := next_any base g A c L mm (5) ws hdm hL (by omega)
          unfold Oper.wp
          simp [go_sem, d100]
          refine hcon.mono ?_
          rintro e w9 ⟨r, m9, rfl, hr0, hr1, hd9, hg9⟩
          exact hK _ _ hg9 ⟨⟨m9, hd9⟩, own_kept hom hg9 (by have := HS2.out.lg; omega)⟩ ⟨r, hr0, by omega, rfl⟩
        · intro a ws f hle hjj hfi hun hag hdep K Q hK
          have d101 : (FB 0 4) (a.eval (.tmp 101)) ws := dep_of hdep 9 101 rfl (by kernel_rfl) rfl rfl
          rw [if_pos (show Region.wanted _ _ = true from rfl)]
          obtain ⟨y, hy0, hy1, e101⟩ := d101
          have e101 := eval_get e101
          have hw : IntKind.i64.wrap (y - 2) = y - 2 := IntWalk.i64_in _ (by omega)
          unfold Oper.wp
          simp [go_sem, e101, hw]
          exact hK _ _ (grown_refl _ _) hjj ⟨y - 2, by omega, by omega, rfl⟩
        · intro a ws f hle hjj hfi hun hag hdep K Q hK
          have d99 : (FB (-M) M) (a.eval (.tmp 99)) ws := dep_of hdep 7 99 rfl (by kernel_rfl) rfl rfl
          have d102 : (FB (-2) 2) (a.eval (.tmp 102)) ws := dep_of hdep 10 102 rfl (by kernel_rfl) rfl rfl
          rw [if_pos (show Region.wanted _ _ = true from rfl)]
          obtain ⟨y, hy0, hy1, e99⟩ := d99
          have e99 := eval_get e99
          obtain ⟨d, hd0, hd1, e102⟩ := d102
          have e102 := eval_get e102
          have hw : IntKind.i64.wrap (y + d) = y + d := IntWalk.i64_in _ (by omega)
          unfold Oper.wp
          simp [go_sem, e99, e102, hw]
          exact hK _ _ (grown_refl _ _) hjj ⟨y + d, by omega, by omega, rfl⟩
        · intro a ws f hle hjj hfi hun hag hdep K Q hK
          have d93 : (a.tmps[93]?).getD undef = .slice (some ⟨b, 0, none⟩) l.length c1 := eval_get (dep_of hdep 1 93 rfl (by kernel_rfl) rfl rfl)
          have d96 : (FN l.length) (a.eval (.tmp 96)) ws := dep_of hdep 4 96 rfl (by kernel_rfl) rfl rfl
          rw [if_pos (show Region.wanted _ _ = true from rfl)]
          obtain ⟨i, hi, e96⟩ := d96
          have e96 := eval_get e96
          have hii : (i : Int) < (l.length : Int) := by omega
          unfold Oper.wp
          simp [go_sem, d93, e96, hii]
          exact hK _ _ (grown_refl _ _) hjj ⟨i, hi, rfl⟩
        · intro a ws f hle hjj hfi hun hag hdep K Q hK
          have d104 : (FI b l.length 0) (a.eval (.tmp 104)) ws := dep_of hdep 12 104 rfl (by kernel_rfl) rfl rfl
          rw [if_pos (show Region.wanted _ _ = true from rfl)]
          obtain ⟨i, hi, e97⟩ := d104
          have e97 := eval_get e97
          unfold Oper.wp
          simp [go_sem, e97]
          exact hK _ _ (grown_refl _ _) hjj ⟨i, hi, rfl⟩
      · intro a ws f hle hjj hft hff hsz hdf hag hend
        have f92 : a.eval (.tmp 92) = .pointer (some ⟨w.heap.size, 1, none⟩) := end_of hend 0 92 (by decide) rfl rfl rfl
        have f93 : a.eval (.tmp 93) = .slice (some ⟨b, 0, none⟩) l.length c1 := end_of hend 1 93 (by decide) rfl rfl rfl
        have f94 : a.eval (.tmp 94) = .pointer (some ⟨g, 0, none⟩) := end_of hend 2 94 (by decide) rfl rfl rfl
        have f95 : a.eval (.tmp 95) = .int .i64 (l.length : Int) := end_of hend 3 95 (by decide) rfl rfl rfl
        have f96 : (FN l.length) (a.eval (.tmp 96)) ws := end_of hend 4 96 (by decide) rfl rfl rfl
        have f97 : (FI b l.length 0) (a.eval (.tmp 97)) ws := end_of hend 5 97 (by decide) rfl rfl rfl
        have f98 : (FI b l.length 1) (a.eval (.tmp 98)) ws := end_of hend 6 98 (by decide) rfl rfl rfl
        have f99 : (FB (-M) M) (a.eval (.tmp 99)) ws := end_of hend 7 99 (by decide) rfl rfl rfl
        have f100 : a.eval (.tmp 100) = .pointer (some ⟨g, 0, none⟩) := end_of hend 8 100 (by decide) rfl rfl rfl
        have f101 : (FB 0 4) (a.eval (.tmp 101)) ws := end_of hend 9 101 (by decide) rfl rfl rfl
        have f102 : (FB (-2) 2) (a.eval (.tmp 102)) ws := end_of hend 10 102 (by decide) rfl rfl rfl
        have f103 : (FB (-(M + 2)) (M + 2)) (a.eval (.tmp 103)) ws := end_of hend 11 103 (by decide) rfl rfl rfl
        have f104 : (FI b l.length 0) (a.eval (.tmp 104)) ws := end_of hend 12 104 (by decide) rfl rfl rfl
        have f105 : (FI b l.length 1) (a.eval (.tmp 105)) ws := end_of hend 13 105 (by decide) rfl rfl rfl
        have f0 : a.eval (.tmp 0) = .pointer (some ⟨g, 0, none⟩) := hag 0 (freeB_spec (by kernel_rfl))
        have f3 : a.eval (.tmp 3) = .pointer (some ⟨w.heap.size, 0, none⟩) := hag 3 (freeB_spec (by kernel_rfl))
        have f4 : a.eval (.tmp 4) = .pointer (some ⟨w.heap.size + 1, 0, none⟩) := hag 4 (freeB_spec (by kernel_rfl))
        have f5 : a.eval (.tmp 5) = .int .i64 (l.length : Int) := hag 5 (freeB_spec (by kernel_rfl))
        obtain ⟨T, D⟩ := a
        obtain rfl : D = [] := hdf
        obtain ⟨us, rfl⟩ : ∃ us : List Value, T = us.toArray := ⟨T.toList, by simp⟩
        replace hsz : us.length = 107 := by simpa using hsz
        obtain _ | ⟨x0, us⟩ := us
        · simp at hsz
        obtain _ | ⟨x1, us⟩ := us
        · simp at hsz
        obtain _ | ⟨x2, us⟩ := us
        · simp at hsz
        obtain _ | ⟨x3, us⟩ := us
        · simp at hsz
        obtain _ | ⟨x4, us⟩ := us
        · simp at hsz
        obtain _ | ⟨x5, us⟩ := us
        · simp at hsz
        obtain _ | ⟨x6, us⟩ := us
        · simp at hsz
        obtain _ | ⟨x7, us⟩ := us
        · simp at hsz
        obtain _ | ⟨x8, us⟩ := us
        · simp at hsz
        obtain _ | ⟨x9, us⟩ := us
        · simp at hsz
        obtain _ | ⟨x10, us⟩ := us
        · simp at hsz
        obtain _ | ⟨x11, us⟩ := us
        · simp at hsz
        obtain _ | ⟨x12, us⟩ := us
        · simp at hsz
        obtain _ | ⟨x13, us⟩ := us
        · simp at hsz
        obtain _ | ⟨x14, us⟩ := us
        · simp at hsz
        obtain _ | ⟨x15, us⟩ := us
        · simp at hsz
        obtain _ | ⟨x16, us⟩ := us
        · simp at hsz
        obtain _ | ⟨x17, us⟩ := us
        · simp at hsz
        obtain _ | ⟨x18, us⟩ := us
        · simp at hsz
        obtain _ | ⟨x19, us⟩ := us
        · simp at hsz
        obtain _ | ⟨x20, us⟩ := us
        · simp at hsz
        obtain _ | ⟨x21, us⟩ := us
        · simp at hsz
        obtain _ | ⟨x22, us⟩ := us
        · simp at hsz
        obtain _ | ⟨x23, us⟩ := us
        · simp at hsz
        obtain _ | ⟨x24, us⟩ := us
        · simp at hsz
        obtain _ | ⟨x25, us⟩ := us
        · simp at hsz
        obtain _ | ⟨x26, us⟩ := us
        · simp at hsz
        obtain _ | ⟨x27, us⟩ := us
        · simp at hsz
        obtain _ | ⟨x28, us⟩ := us
        · simp at hsz
        obtain _ | ⟨x29, us⟩ := us
        · simp at hsz
        obtain _ | ⟨x30, us⟩ := us
        · simp at hsz
        obtain _ | ⟨x31, us⟩ := us
        · simp at hsz
        obtain _ | ⟨x32, us⟩ := us
        · simp at hsz
        obtain _ | ⟨x33, us⟩ := us
        · simp at hsz
        obtain _ | ⟨x34, us⟩ := us
        · simp at hsz
        obtain _ | ⟨x35, us⟩ := us
        · simp at hsz
        obtain _ | ⟨x36, us⟩ := us
        · simp at hsz
        obtain _ | ⟨x37, us⟩ := us
        · simp at hsz
        obtain _ | ⟨x38, us⟩ := us
        · simp at hsz
        obtain _ | ⟨x39, us⟩ := us
        · simp at hsz
        obtain _ | ⟨x40, us⟩ := us
        · simp at hsz
        obtain _ | ⟨x41, us⟩ := us
        · simp at hsz
        obtain _ | ⟨x42, us⟩ := us
        · simp at hsz
        obtain _ | ⟨x43, us⟩ := us
        · simp at hsz
        obtain _ | ⟨x44, us⟩ := us
        · simp at hsz
        obtain _ | ⟨x45, us⟩ := us
        · simp at hsz
        obtain _ | ⟨x46, us⟩ := us
        · simp at hsz
        obtain _ | ⟨x47, us⟩ := us
        · simp at hsz
        obtain _ | ⟨x48, us⟩ := us
        · simp at hsz
        obtain _ | ⟨x49, us⟩ := us
        · simp at hsz
        obtain _ | ⟨x50, us⟩ := us
        · simp at hsz
        obtain _ | ⟨x51, us⟩ := us
        · simp at hsz
        obtain _ | ⟨x52, us⟩ := us
        · simp at hsz
        obtain _ | ⟨x53, us⟩ := us
        · simp at hsz
        obtain _ | ⟨x54, us⟩ := us
        · simp at hsz
        obtain _ | ⟨x55, us⟩ := us
        · simp at hsz
        obtain _ | ⟨x56, us⟩ := us
        · simp at hsz
        obtain _ | ⟨x57, us⟩ := us
        · simp at hsz
        obtain _ | ⟨x58, us⟩ := us
        · simp at hsz
        obtain _ | ⟨x59, us⟩ := us
        · simp at hsz
        obtain _ | ⟨x60, us⟩ := us
        · simp at hsz
        obtain _ | ⟨x61, us⟩ := us
        · simp at hsz
        obtain _ | ⟨x62, us⟩ := us
        · simp at hsz
        obtain _ | ⟨x63, us⟩ := us
        · simp at hsz
        obtain _ | ⟨x64, us⟩ := us
        · simp at hsz
        obtain _ | ⟨x65, us⟩ := us
        · simp at hsz
        obtain _ | ⟨x66, us⟩ := us
        · simp at hsz
        obtain _ | ⟨x67, us⟩ := us
        · simp at hsz
        obtain _ | ⟨x68, us⟩ := us
        · simp at hsz
        obtain _ | ⟨x69, us⟩ := us
        · simp at hsz
        obtain _ | ⟨x70, us⟩ := us
        · simp at hsz
        obtain _ | ⟨x71, us⟩ := us
        · simp at hsz
        obtain _ | ⟨x72, us⟩ := us
        · simp at hsz
        obtain _ | ⟨x73, us⟩ := us
        · simp at hsz
        obtain _ | ⟨x74, us⟩ := us
        · simp at hsz
        obtain _ | ⟨x75, us⟩ := us
        · simp at hsz
        obtain _ | ⟨x76, us⟩ := us
        · simp at hsz
        obtain _ | ⟨x77, us⟩ := us
        · simp at hsz
        obtain _ | ⟨x78, us⟩ := us
        · simp at hsz
        obtain _ | ⟨x79, us⟩ := us
        · simp at hsz
        obtain _ | ⟨x80, us⟩ := us
        · simp at hsz
        obtain _ | ⟨x81, us⟩ := us
        · simp at hsz
        obtain _ | ⟨x82, us⟩ := us
        · simp at hsz
        obtain _ | ⟨x83, us⟩ := us
        · simp at hsz
        obtain _ | ⟨x84, us⟩ := us
        · simp at hsz
        obtain _ | ⟨x85, us⟩ := us
        · simp at hsz
        obtain _ | ⟨x86, us⟩ := us
        · simp at hsz
        obtain _ | ⟨x87, us⟩ := us
        · simp at hsz
        obtain _ | ⟨x88, us⟩ := us
        · simp at hsz
        obtain _ | ⟨x89, us⟩ := us
        · simp at hsz
        obtain _ | ⟨x90, us⟩ := us
        · simp at hsz
        obtain _ | ⟨x91, us⟩ := us
        · simp at hsz
        obtain _ | ⟨x92, us⟩ := us
        · simp at hsz
        obtain _ | ⟨x93, us⟩ := us
        · simp at hsz
        obtain _ | ⟨x94, us⟩ := us
        · simp at hsz
        obtain _ | ⟨x95, us⟩ := us
        · simp at hsz
        obtain _ | ⟨x96, us⟩ := us
        · simp at hsz
        obtain _ | ⟨x97, us⟩ := us
        · simp at hsz
        obtain _ | ⟨x98, us⟩ := us
        · simp at hsz
        obtain _ | ⟨x99, us⟩ := us
        · simp at hsz
        obtain _ | ⟨x100, us⟩ := us
        · simp at hsz
        obtain _ | ⟨x101, us⟩ := us
        · simp at hsz
        obtain _ | ⟨x102, us⟩ := us
        · simp at hsz
        obtain _ | ⟨x103, us⟩ := us
        · simp at hsz
        obtain _ | ⟨x104, us⟩ := us
        · simp at hsz
        obtain _ | ⟨x105, us⟩ := us
        · simp at hsz
        obtain _ | ⟨x106, us⟩ := us
        · simp at hsz
        obtain rfl : us = [] := by cases us with | nil => rfl | cons _ _ => simp at hsz
        clear hag hend hsz
        obtain rfl : x0 = .pointer (some ⟨g, 0, none⟩) := f0
        obtain rfl : x3 = .pointer (some ⟨w.heap.size, 0, none⟩) := f3
        obtain rfl : x4 = .pointer (some ⟨w.heap.size + 1, 0, none⟩) := f4
        obtain rfl : x5 = .int .i64 (l.length : Int) := f5
        obtain rfl : x92 = .pointer (some ⟨w.heap.size, 1, none⟩) := f92
        obtain rfl : x93 = .slice (some ⟨b, 0, none⟩) l.length c1 := f93
        obtain rfl : x94 = .pointer (some ⟨g, 0, none⟩) := f94
        obtain rfl : x95 = .int .i64 (l.length : Int) := f95
        replace f96 : (FN l.length) x96 ws := f96
        replace f97 : (FI b l.length 0) x97 ws := f97
        replace f98 : (FI b l.length 1) x98 ws := f98
        replace f99 : (FB (-M) M) x99 ws := f99
        obtain rfl : x100 = .pointer (some ⟨g, 0, none⟩) := f100
        replace f101 : (FB 0 4) x101 ws := f101
        replace f102 : (FB (-2) 2) x102 ws := f102
        replace f103 : (FB (-(M + 2)) (M + 2)) x103 ws := f103
        replace f104 : (FI b l.length 0) x104 ws := f104
        replace f105 : (FI b l.length 1) x105 ws := f105
        obtain ⟨⟨m9, hd9⟩, ho9⟩ := hjj
        have HS4 : Hid (SS base g A c L w n (some ⟨b, 0, none⟩) c1 l m9 ws) := by show SS _ _ _ _ _ _ _ _ _ _ _ _; exact HS2.out.next hd9 hle
        obtain ⟨i, hi, rfl⟩ := f105
        obtain ⟨z, hz0, hz1, rfl⟩ := f103
        obtain ⟨⟨x, y⟩, hx⟩ : ∃ e, l[i]? = some e := ⟨_, List.getElem?_eq_getElem hi⟩
        have hxy := Hm.out.at_ hx
        obtain ⟨-, p1, -, p3⟩ := own_cells HS4.out.own hx
        have HS5 := Lib.hid (HS4.out.el1 hb hx z)
        have HMN : Hid (inM (M + 2) (l.set i (x, z))) := by show inM _ _; exact HMM.out.set_ i (by omega)
        have hln : (l.set i (x, z)).length ≤ l.length + 1 := by simp
        have HLS : Hid ((l.set i (x, z)).length = l.length) := by show _ = _; simp
        clear hle ho9 hd9 hft hff hx
        generalize l.set i (x, z) = ks at HS5 HMN hln HLS
        simp only [List.drop_succ_cons, List.drop_zero]
        have yc0 := HS4.out.c0; have yc1 := HS4.out.c1; have yf0 := HS4.out.f0; have yf1 := HS4.out.f1; have yr0 := HS4.out.r0; have yr1 := HS4.out.r1; have yq0 := HS4.out.q0; have yq1 := HS4.out.q1; have yl3 := HS4.out.l3; have yl4 := HS4.out.l4
        have hfin := HS5.out.fin (.int .i64 n) (.slice (some ⟨b, 0, none⟩) l.length c1)
        have hf0 := hfin.1; have hf1 := hfin.2.1; have HW := Lib.hid hfin.2.2
        clear hfin
        go_wp2
        generalize (((ws.setCell ⟨b, i * 2 + 1, none⟩ (.int .i64 z)).setCell ⟨w.heap.size + 1, 0, none⟩ (.int .i64 n)).setCell ⟨w.heap.size + 1, 1, none⟩ (.slice (some ⟨b, 0, none⟩) l.length c1)) = wf at HW hf0 hf1 ⊢
        exact bodyPost_ret (v := .agg #[.int .i64 n, .slice (some ⟨b, 0, none⟩) l.length c1]) (by simp [results, Tryz.results8, go_sem, hf0, hf1]) rfl
          ⟨n, ks, some ⟨b, 0, none⟩, c1, m9, by rw [HLS.out], .inl rfl, hln, HMN.out, HW.out.1, HW.out.2.1, HW.out.2.2⟩
  · have yc0 := HS2.out.c0; have yc1 := HS2.out.c1; have yf0 := HS2.out.f0; have yf1 := HS2.out.f1; have yr0 := HS2.out.r0; have yr1 := HS2.out.r1; have yq0 := HS2.out.q0; have yq1 := HS2.out.q1; have yl3 := HS2.out.l3; have yl4 := HS2.out.l4
    have hfin := HS2.out.fin (.int .i64 (n)) (.slice A1 (l).length c1)
    have hf0 := hfin.1; have hf1 := hfin.2.1; have HW := Lib.hid hfin.2.2
    clear hfin
    go_wp2
    generalize (((w2).setCell ⟨w.heap.size + 1, 0, none⟩ (.int .i64 (n))).setCell ⟨w.heap.size + 1, 1, none⟩ (.slice A1 (l).length c1)) = wf at HW hf0 hf1 ⊢
    exact bodyPost_ret (v := .agg #[.int .i64 (n), (.slice A1 (l).length c1)]) (by simp [results, Tryz.results8, go_sem, hf0, hf1]) rfl
      ⟨n, l, A1, c1, m2, rfl, .inl rfl, by omega, HMM.out, HW.out.1, HW.out.2.1, HW.out.2.2⟩
end Go.Proofs.YtioohmhllajifaaGreat
