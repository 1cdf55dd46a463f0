/-
  The maker's Graph.
-/
import Derived.Test.YtfapfkaipdcflaaGreatSw
import Derived.Deep.CutBlock
import Derived.Deep.CutRange
import Derived.Deep.DeepCutAuto
import Derived.Deep.RegionLaw
import Derived.IntWalk
namespace Go.Proofs.YtfapfkaipdcflaaGreat
namespace Gm
open Go.RowKit Go.Lib

abbrev Ed := Int × Int
def edc (e : Ed) : List Value := [.int .i64 e.1, .int .i64 e.2]
theorem encD : Enc 2 edc := ⟨fun _ => rfl, fun a u hu => by simp [edc] at hu; rcases hu with rfl | rfl <;> rfl⟩
theorem infoD : (Tryz.prog.info? 70).map (fun i => (i.zero, i.size, i.bytes)) = some (some (.agg #[.int .i64 0, .int .i64 0]), 2, 16) := by kernel_rfl
theorem RD_newB (w : World) (u v : Int) : RX 2 edc (w.alloc (.cells #[.int .i64 u, .int .i64 v] 70)).heap.size (w.alloc (.cells #[.int .i64 u, .int .i64 v] 70)) (some ⟨w.heap.size, 0, none⟩) 1 [((u, v) : Ed)] := RX_new encD w [((u, v) : Ed)] 70
theorem wpList_applD {ops : Array Oper} {rest : List Oper} {o : Oper} {a : Act} {Q : Exit → Act → World → Prop} (W : World) (hgd : o.guard = none) (s x : Operand)
    (ho : o.op = .call { callee := .builtin .append, args := #[s, x], argTypes := #[65, 65] }) (base : Nat) (A2 : Option Addr) (c2 : Nat) (ks : List Ed)
    (hs : a.eval s = .slice A2 ks.length c2) (hown : W.ownsRow base 70 2 (.slice A2 ks.length c2) ks.length (cl edc ks)) (A' : Option Addr) (c' m : Nat) (news : List Ed) (hm : news.length = m)
    (hx : a.eval x = .slice A' m c') (hr : RX 2 edc W.heap.size W A' c' news) (hk : ks.length + m ≤ 200000) (hbase : base ≤ W.heap.size)
    (h : ∀ A3 c3 w', Hid (w'.ownsRow base 70 2 (.slice A3 (ks ++ news).length c3) (ks ++ news).length (cl edc (ks ++ news))) → Hid (Below base W w') → wpList Tryz.prog ops Q rest (a.put o.dst (.slice A3 (ks ++ news).length c3)) w') :
    wpList Tryz.prog ops Q (o :: rest) a W :=
  wpList_plain hgd fun _ hK => run_applX encD (by decide) 65 70 _ 16 Tryz.underlying65 infoD rfl (by decide) W s x ho base A2 c2 ks hs hown A' c' m news hm hx hr (by omega) hbase fun A3 c3 w' h1 h2 _ => hK _ _ (h A3 c3 w' h1 h2)
/-- the state while a graph is made: the result's cell, the graph's cell, the deck, the edges -/
structure GS (base g : Nat) (A : Option Addr) (c : Nat) (L : List Int) (w : World) (g5 : Nat) (N : Nat) (A2 : Option Addr) (c2 : Nat) (ks : List Ed) (m : Nat) (wr : World) : Prop where
  b4 : wr.heap[w.heap.size]? = some (.cells #[.int .i64 0, .slice none 0 0] 67)
  b5 : wr.heap[g5]? = some (.cells #[.int .i64 (N : Nat), .slice A2 ks.length c2] 67)
  dk : Dk base wr g A c L m
  own : wr.ownsRow (g5 + 1) 70 2 (.slice A2 ks.length c2) ks.length (cl edc ks)
  gr : w.grownBy wr (some g)
  lg : g < w.heap.size
  l5 : w.heap.size < g5
section
variable {base g : Nat} {A : Option Addr} {c : Nat} {L : List Int} {w : World} {g5 N : Nat} {A2 : Option Addr} {c2 : Nat} {ks : List Ed} {m : Nat} {wr : World}
theorem GS.l5r (h : GS base g A c L w g5 N A2 c2 ks m wr) : g5 < wr.heap.size := lt_of_some h.b5
theorem GS.next {m' : Nat} {w' : World} (h : GS base g A c L w g5 N A2 c2 ks m wr) (D : Dk base w' g A c L m') (hg : wr.grownBy w' (some g)) : GS base g A c L w g5 N A2 c2 ks m' w' :=
  ⟨(hg.block _ (lt_of_some h.b4) (fun e => by injection e with e; have := h.lg; omega)).trans h.b4, (hg.block _ h.l5r (fun e => by injection e with e; have := h.lg; have := h.l5; omega)).trans h.b5, D,
    own_kept h.own hg (by have := h.lg; have := h.l5; omega), grown_trans h.gr hg, h.lg, h.l5⟩
theorem setCell_only {u : World} {k i : Nat} {v : Value} (j : Nat) (hj : j ≠ k) : (u.setCell ⟨k, i, none⟩ v).heap[j]? = u.heap[j]? := Below.heap_setCell u ⟨k, i, none⟩ v j (fun e => hj (by first | exact e | exact e.symm))
theorem setCell_two {u : World} {k : Nat} {x y v : Value} {t : TypeId} (h : u.heap[k]? = some (.cells #[x, y] t)) : (u.setCell ⟨k, 0, none⟩ v).heap[k]? = some (.cells #[v, y] t) ∧ (u.setCell ⟨k, 1, none⟩ v).heap[k]? = some (.cells #[x, v] t) := by
  constructor <;> simp [World.setCell, Array.getElem?_modify, h]
theorem set_grown {u : World} {k i : Nat} {v : Value} : u.grownBy (u.setCell ⟨k, i, none⟩ v) (some k) := ⟨rfl, rfl, rfl, by simp [World.setCell], fun j _ hj => setCell_only j (fun e => hj (by rw [e]))⟩
theorem dk_other {n : Nat} {u w' : World} {k : Nat} (h : Dk base u g A c L n) (hg : u.grownBy w' (some k)) (hk : g < k) : Dk base w' g A c L n :=
  ⟨(hg.block g h.lt (fun e => by injection e with e; omega)).trans h.blk, h.le, h.base_le, h.rb.only hg (by have := h.base_le; omega) (by have := h.base_le; have := h.lt; omega)⟩
theorem grown_other {u w' : World} {k : Nat} (h : w.grownBy u (some g)) (hg : u.grownBy w' (some k)) (hk : w.heap.size ≤ k) : w.grownBy w' (some g) :=
  ⟨hg.os.trans h.os, hg.tape.trans h.tape, hg.output.trans h.output, Nat.le_trans h.size hg.size, fun i hi hne => (hg.block i (Nat.lt_of_lt_of_le hi h.size) (fun e => by injection e with e; omega)).trans (h.block i hi hne)⟩
theorem GS.setN (N' : Nat) (h : GS base g A c L w g5 N A2 c2 ks m wr) : GS base g A c L w g5 N' A2 c2 ks m (wr.setCell ⟨g5, 0, none⟩ (.int .i64 (N' : Nat))) :=
  ⟨(setCell_only _ (by have := h.l5; omega)).trans h.b4, (setCell_two h.b5).1, dk_other h.dk set_grown (by have := h.lg; have := h.l5; omega),
    h.own.kept set_grown (.inr fun e => by have := (h.own.lt _ e).1; omega), grown_other h.gr set_grown (by have := h.l5; omega), h.lg, h.l5⟩
theorem GS.push {A3 : Option Addr} {c3 : Nat} {ks' : List Ed} {o : Obj} {w3 : World} (h : GS base g A c L w g5 N A2 c2 ks m wr) (ho : w3.ownsRow (g5 + 1) 70 2 (.slice A3 ks'.length c3) ks'.length (cl edc ks')) (hb : Below (g5 + 1) (wr.alloc o) w3) :
    GS base g A c L w g5 N A3 c3 ks' m (w3.setCell ⟨g5, 1, none⟩ (.slice A3 ks'.length c3)) := by
  have h5 := h.l5r
  have hl := h.lg
  have hm := h.l5
  have hba : Below (g5 + 1) wr w3 := ((Below.refl _ _).alloc (by omega) o).trans hb
  have b5 : w3.heap[g5]? = some (.cells #[.int .i64 (N : Nat), .slice A2 ks.length c2] 67) := (hba.block g5 (by omega)).trans h.b5
  refine ⟨(setCell_only _ (by omega)).trans ((hba.block _ (by omega)).trans h.b4), (setCell_two b5).2, dk_other (h.dk.goB hba (by omega)) set_grown (by omega),
    ho.kept set_grown (.inr fun e => by have := (ho.lt _ e).1; omega), grown_other (grown_below h.gr hba (by omega)) set_grown (by omega), hl, hm⟩
theorem GS.c50 (h : GS base g A c L w g5 N A2 c2 ks m wr) : wr.cell? ⟨g5, 0, none⟩ = some (.int .i64 (N : Nat)) := Go.Joins.cell_of_block h.b5 0
theorem GS.c51 (h : GS base g A c L w g5 N A2 c2 ks m wr) : wr.cell? ⟨g5, 1, none⟩ = some (.slice A2 ks.length c2) := Go.Joins.cell_of_block h.b5 1
theorem GS.f5 (h : GS base g A c L w g5 N A2 c2 ks m wr) (i : Nat) : wr.frozen? ⟨g5, i, none⟩ = false := Go.Joins.unfrozen_of_block h.b5 i
end

/-- behind the result's stores -/
structure GFin (base g : Nat) (A : Option Addr) (c : Nat) (L : List Int) (w : World) (g5 : Nat) (N : Nat) (A2 : Option Addr) (c2 : Nat) (ks : List Ed) (m : Nat) (wf : World) : Prop where
  own : wf.ownsRow (w.heap.size + 1) 70 2 (.slice A2 ks.length c2) ks.length (cl edc ks)
  dk : Dk base wf g A c L m
  gr : w.grownBy wf (some g)
theorem GS.fin {base g : Nat} {A : Option Addr} {c : Nat} {L : List Int} {w : World} {g5 N : Nat} {A2 : Option Addr} {c2 : Nat} {ks : List Ed} {m : Nat} {wr : World} (h : GS base g A c L w g5 N A2 c2 ks m wr) (i j : Nat) (x y : Value) :
    GFin base g A c L w g5 N A2 c2 ks m ((wr.setCell ⟨w.heap.size, i, none⟩ x).setCell ⟨w.heap.size, j, none⟩ y) := by
  have hl := h.lg
  have h5 := h.l5
  have o1 := h.own.kept (w' := wr.setCell ⟨w.heap.size, i, none⟩ x) set_grown (.inr fun e => by have := (h.own.lt _ e).1; omega)
  have o2 := o1.kept (w' := (wr.setCell ⟨w.heap.size, i, none⟩ x).setCell ⟨w.heap.size, j, none⟩ y) set_grown (.inr fun e => by have := (o1.lt _ e).1; omega)
  exact ⟨Go.Joins.ownsRow_le o2 (by omega), dk_other (dk_other h.dk set_grown hl) set_grown hl, grown_other (grown_other h.gr set_grown (Nat.le_refl _)) set_grown (Nat.le_refl _)⟩
/-- what Graph answers: a valid graph of at most M nodes, its edges in memory of its own -/
def GraphP (base g : Nat) (A : Option Addr) (c : Nat) (L : List Int) (M : Nat) (w : World) (e : Ending) (w' : World) : Prop :=
  ∃ (N : Nat) (l : List Ed) (A1 : Option Addr) (c1 m : Nat), e = .returned (.agg #[.int .i64 (N : Nat), .slice A1 l.length c1]) ∧ N ≤ M ∧ l.length ≤ 36 ∧ w'.ownsRow (w.heap.size + 1) 70 2 (.slice A1 l.length c1) l.length (cl edc l) ∧ Dk base w' g A c L m ∧ w.grownBy w' (some g)

structure Inv (N : Nat) (ks : List Ed) (u v : Nat) : Prop where
  len : ks.length ≤ u * 6 + v
theorem Inv.start {N u : Nat} {ks : List Ed} (h : Inv N ks u 0) : Inv N ks u (u + 1) := ⟨by have := h.len; omega⟩
theorem Inv.next {N u v : Nat} {ks : List Ed} (h : Inv N ks u v) : Inv N ks u (v + 1) := ⟨by have := h.len; omega⟩
theorem Inv.up {N u v : Nat} {ks : List Ed} (h : Inv N ks u v) (hv : v ≤ 6) : Inv N ks (u + 1) 0 := ⟨by have := h.len; omega⟩
theorem Inv.push {N u v : Nat} {ks : List Ed} (h : Inv N ks u v) (_ : v < N) (_ : u + 1 ≤ v) : Inv N (ks ++ [((u : Int), (v : Int))]) u (v + 1) := ⟨by have := h.len; simp; omega⟩
def GCut (base g : Nat) (A : Option Addr) (c : Nat) (L : List Int) (M : Nat) (w : World) (g5 : Nat) (wx : World) : Prop := ∃ (N m2 : Nat), N ≤ M ∧ GS base g A c L w g5 N none 0 [] m2 wx
set_option maxHeartbeats 4000000 in
set_option maxRecDepth 100000 in
theorem graph_any (base g : Nat) (A : Option Addr) (c : Nat) (L : List Int) (m : Nat) (M : Nat) (w : World) (D : Dk base w g A c L m) (hL : L.length ≤ 17592186044416) (hM : M ≤ 6) :
    Calls Tryz.prog 29 #[.pointer (some ⟨g, 0, none⟩), .int .i64 M] w (GraphP base g A c L M w) := by
  have HD0 := Lib.hid (D.go ((Below.refl _ _).alloc (Nat.le_refl _) (.cells #[.int .i64 0, .slice none 0 0] 67)))
  have hgw : Hid (g < w.heap.size) := D.lt
  clear D
  go_enter Tryz.func29, Tryz.ntmps29
  go_wp2_with fail
  refine (next_any base g A c L m ((M : Int) + 1) _ HD0.out hL (by omega)).mono ?_
  rintro e w1 ⟨r, m1, rfl, hr1, hr2, D1, g1⟩
  obtain ⟨N0, rfl⟩ : ∃ N0 : Nat, r = N0 := ⟨r.toNat, by omega⟩
  have hN0 : N0 ≤ M := by omega
  clear hr1 hr2
  have HD1 := Lib.hid D1
  have HG1 := Lib.hid g1
  have hgs : w.heap.size < w1.heap.size := by have := g1.size; simp at this; omega
  have HGS : Hid (GS base g A c L w w1.heap.size N0 none 0 [] m1 (w1.alloc (.cells #[.int .i64 N0, .slice none 0 0] 67))) := by
    have hb4 : w1.heap[w.heap.size]? = some (.cells #[.int .i64 0, .slice none 0 0] 67) := (g1.block _ (by simp) (fun e => by injection e with e; have := hgw.out; omega)).trans (heap_alloc_new w _)
    have hgr : w.grownBy w1 (some g) := ⟨g1.os, g1.tape, g1.output, by have := g1.size; simp at this; omega, fun i hi hne => (g1.block i (by simp; omega) hne).trans (Below.heap_alloc w _ i hi)⟩
    exact ⟨(Below.heap_alloc w1 _ _ hgs).trans hb4, heap_alloc_new _ _, D1.go ((Below.refl _ _).alloc (Nat.le_refl _) _), World.ownsRow_nil _ _ _ _,
      grown_below hgr ((Below.refl _ _).alloc (Nat.le_refl _) _) (by omega), hgw.out, hgs⟩
  clear D1 g1 HD0 HG1
  obtain ⟨g5, Hg5⟩ : ∃ g5, Hid (g5 = w1.heap.size) := ⟨_, rfl⟩
  go_upto_if 16 with fail
  go_cut [] from 16 to 26 (fun wx => GCut base g A c L M w g5 wx)
  case first =>
    by_cases h4 : N0 < 4
    · go_wp2
      have hc0 := HGS.out.c50
      have HDr : Hid (Dk base (w1.alloc (.cells #[.int .i64 N0, .slice none 0 0] 67)).drew g A c L m1) := HGS.out.dk.go ⟨rfl, rfl, rfl, Nat.le_refl _, fun _ _ => rfl⟩
      have HM1 := Lib.hid (show (M : Int) + 1 ≤ 4611686018427387904 by omega)
      have C19 := Lib.hid (next_any base g A c L m1 ((M : Int) + 1) _ HDr.out hL HM1.out)
      have hgl := Lib.hid (show g < w1.heap.size by have := hgw.out; omega)
      have hw1 : IntKind.i64.wrap ((M : Int) + 1) = (M : Int) + 1 := IntWalk.i64_in _ (by omega)
      go_region_law (first | (go_simp; go_at_call 12; go_loud ((refine C19.out.mono ?_); rintro e w2 ⟨r2, m2, rfl, hr1, hr2, D2, g2⟩; obtain ⟨N1, rfl⟩ : ∃ N1 : Nat, r2 = N1 := ⟨r2.toNat, by omega⟩; have hw2 : IntKind.i64.wrap ((N0 : Int) + N1) = (N0 : Int) + N1 := IntWalk.i64_in _ (by omega); have hb2 : w2.heap[w1.heap.size]? = some (.cells #[.int .i64 N0, .slice none 0 0] 67) := (g2.block _ (by simp) (fun h0 => by injection h0 with h0; have := hgl.out; omega)).trans (heap_alloc_new w1 _); have hc2 := Go.Joins.cell_of_block hb2 0; have hf2 := Go.Joins.unfrozen_of_block hb2 0; simp at hc2; clear hb2; have HD2 := Lib.hid D2; have HG2 := Lib.hid g2; clear D2 g2 hr1 hr2)))
      all_goals
        clear hw1 hw2
        have HGS2 := Lib.hid (HGS.out.next HD2.out ⟨HG2.out.os, HG2.out.tape, HG2.out.output, HG2.out.size, HG2.out.block⟩)
        go_wp2
        go_meet
        obtain ⟨N2, hN2⟩ : ∃ N2 : Nat, min (M : Int) ((N0 : Int) + N1) = (N2 : Int) := ⟨(min (M : Int) ((N0 : Int) + N1)).toNat, by omega⟩
        rw [hN2, Hg5.out]
        exact ⟨N2, m2, by omega, HGS2.out.setN N2⟩
    · go_wp2
      go_meet
      rw [Hg5.out]
      exact ⟨N0, m1, hN0, HGS.out⟩
  case rest =>
    obtain ⟨N, m2, hN, HS0⟩ := hcut
    have HS := Lib.hid HS0
    clear HS0
    rw [Hg5.out] at HS
    have hN64 : N ≤ 6 := by omega
    clear Hg5 HGS HD1 hN0
    go_wp2_with fail
    refine (next_any base g A c L m2 4 wc HS.out.dk hL (by omega)).mono ?_
    rintro e w3 ⟨dn, m3, rfl, hd1, hd2, D3, g3⟩
    have HS3 := Lib.hid (HS.out.next D3 g3)
    clear D3 g3 HS
    have hd3 : dn < 4 := by omega
    clear hd2
    go_wp2
    go_loopw [7] (fun i wr => ∃ (u : Nat) (A2 : Option Addr) (c2 : Nat) (ks : List Ed) (m' : Nat), u ≤ N ∧ i = .int .i64 u ∧ Hid (GS base g A c L w w1.heap.size N A2 c2 ks m' wr) ∧ Hid (Inv N ks u 0)) (fun i _ => N - (RowKit.intOf i).toNat)
    case atStart => exact ⟨0, none, 0, [], m3, Nat.zero_le _, rfl, HS3.out, ⟨by simp⟩⟩
    case round =>
      obtain ⟨u, A2, c2, ks, m', hu, rfl, HS, HI⟩ := hrel
      have k0 := HS.out.c50; have kl := HS.out.l5r
      by_cases hlt : u < N
      · go_wp2
        go_loopw [8] (fun j wr => ∃ (v : Nat) (A2 : Option Addr) (c2 : Nat) (ks : List Ed) (m' : Nat), u + 1 ≤ v ∧ v ≤ N ∧ j = .int .i64 v ∧ Hid (GS base g A c L w w1.heap.size N A2 c2 ks m' wr) ∧ Hid (Inv N ks u v)) (fun j _ => N - (RowKit.intOf j).toNat)
        case atStart => exact ⟨u + 1, A2, c2, ks, m', Nat.le_refl _, by omega, by go_num, HS.out, HI.out.start⟩
        case round =>
          clear k0 kl HS HI
          obtain ⟨v, A4, c4, ls, m4, hv1, hv2, rfl, HS, HI⟩ := hrel
          have k0 := HS.out.c50; have kl := HS.out.l5r
          by_cases hlt2 : v < N
          · go_wp2_with fail
            refine (next_any base g A c L m4 5 _ HS.out.dk hL (by omega)).mono ?_
            rintro e w5 ⟨r, m5, rfl, hr1, hr2, D5, g5'⟩
            have HS5 := Lib.hid (HS.out.next D5 g5')
            clear D5 g5' k0 kl HS
            by_cases hge : 5 - (1 + dn) ≤ r
            · have k1 := HS5.out.c51; have kl := HS5.out.l5r
              have HP := Lib.hid (HI.out.push hlt2 hv1)
              have hlen : ls.length ≤ 100000 := by have := HI.out.len; omega
              go_wp2_with (at_builtin; refine wpList_applD _ rfl (.tmp 50) (.tmp 54) rfl (w1.heap.size + 1) A4 c4 ls rfl (HS5.out.own.alloc _) (some ⟨w5.heap.size, 0, none⟩) 1 1 [((u : Int), (v : Int))] rfl rfl (RD_newB _ _ _) (by omega) (by simp; omega) ?_; intro A6 c6 w6 HO6 HB6; have HB7 := HB6.out; have f0 : w6.heap[w1.heap.size]? = _ := (HB7.block _ (by omega)).trans ((Below.heap_alloc w5 _ _ kl).trans HS5.out.b5); have f1 := Go.Joins.cell_of_block f0 1; have f2 := Go.Joins.unfrozen_of_block f0 1; have HF := Lib.hid (HS5.out.push HO6.out HB6.out); clear HB7 f0)
              go_roundw
              case rel => exact ⟨v + 1, A6, c6, ls ++ [((u : Int), (v : Int))], m5, by omega, by omega, by go_num, by show GS _ _ _ _ _ _ _ _ _ _ _ _ _; have h := HF.out; rw [List.length_append, List.length_singleton] at h; exact h, HP.out⟩
              case measure => simp [RowKit.intOf]; omega
            · go_wp2
              go_roundw
              case rel => exact ⟨v + 1, A4, c4, ls, m5, by omega, by omega, by go_num, HS5.out, HI.out.next⟩
              case measure => simp [RowKit.intOf]; omega
          · go_wp2
            go_roundw
            case rel => exact ⟨u + 1, A4, c4, ls, m4, by omega, by go_num, HS.out, HI.out.up (by omega)⟩
            case measure => simp [RowKit.intOf]; omega
      · have k1 := HS.out.c51
        have b0 := Go.Joins.cell_of_block HS.out.b4 0; have b1 := Go.Joins.cell_of_block HS.out.b4 1; have d0 := Go.Joins.unfrozen_of_block HS.out.b4 0; have d1 := Go.Joins.unfrozen_of_block HS.out.b4 1
        simp at b0 b1
        have hb4 := (setCell_two (setCell_two HS.out.b4 (v := .int .i64 (N : Nat))).1 (v := .slice A2 ks.length c2)).2
        have hf0 := Go.Joins.cell_of_block hb4 0; have hf1 := Go.Joins.cell_of_block hb4 1
        simp at hf0 hf1
        have HFin : Hid (GFin base g A c L w w1.heap.size N A2 c2 ks m' ((wr.setCell ⟨w.heap.size, 0, none⟩ (.int .i64 (N : Nat))).setCell ⟨w.heap.size, 1, none⟩ (.slice A2 ks.length c2))) := (HS.out.fin _ _ _ _)
        have hkl : ks.length ≤ 36 := by have := HI.out.len; omega
        go_wp2
        generalize ((wr.setCell ⟨w.heap.size, 0, none⟩ (.int .i64 (N : Nat))).setCell ⟨w.heap.size, 1, none⟩ (.slice A2 ks.length c2)) = wf at HFin hf0 hf1 ⊢
        exact bodyPost_ret (v := .agg #[.int .i64 (N : Nat), .slice A2 ks.length c2]) (by simp [results, Tryz.results29, go_sem, hf0, hf1]) rfl
          ⟨N, ks, A2, c2, m', rfl, by omega, hkl, HFin.out.own, HFin.out.dk, HFin.out.gr⟩
end Gm
end Go.Proofs.YtfapfkaipdcflaaGreat
