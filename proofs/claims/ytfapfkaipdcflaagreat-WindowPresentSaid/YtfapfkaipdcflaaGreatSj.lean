/-
  slices.Values at links, and slices.AppendSeq, Collect over it: a range over a function.
-/
import Derived.RangeFuncNested
import Derived.RangeFuncBound
import Derived.RangeFuncCalls
import Derived.RangeFuncLeaves
import Derived.RangeFuncBox
import Derived.Shelf.Abstract
import Derived.Shelf.RegionOpen
import Derived.WalkKit
import Derived.OwnWalkIn
import Derived.TacticsInMore
import Derived.LoopNIn
import Derived.LoopIn
import Derived.Maps.AppendAt
import Derived.Test.YtfapfkaipdcflaaGreatSb
namespace Go.Proofs.YtfapfkaipdcflaaGreat
open Go.RowKit Go.Shelf Go.Lib

attribute [local go_sem] Oper.semAt_some

def encsL (x : Ls.Lk) : Array Value := #[.agg #[.int .i64 x.u, .int .i64 x.v, .int .i64 x.weight, .int .i64 x.label, .int .i64 x.sign, .int .i64 x.time]]
set_option maxRecDepth 100000 in
set_option maxHeartbeats 4000000 in
/-- slices.Values's closure: for every loop body that keeps what lay below n0 -/
theorem values1_in (F : Fence) (n : Nat) (h41 : F.fn 79) (hro : F.round = none) (hn : 1 ≤ n) (l Bs n₀ : Nat) (A : Option Addr) (c : Nat) (zs : List Ls.Lk) (hz : zs.length ≤ 65536) (J Jx : List Ls.Lk → World → Prop)
    (hY : ∀ pre x W, J pre W → pre.length < zs.length → YieldAt F (n - 1) Tryz.prog l (encsL x) W fun e W' =>
      (e = .returned (.bool true) ∧ J (pre ++ [x]) W' ∧ Below n₀ W W') ∨ (e = .returned (.bool false) ∧ Jx (pre ++ [x]) W'))
    (W : World) (hJ : AbidesFrom W.heap.size J) (hBs : W.cell? ⟨Bs, 0, none⟩ = some (.slice A zs.length c)) (hZ : RL n₀ W A c zs) (hn₀ : n₀ ≤ W.heap.size) (h0 : J [] W) :
    CallsIn F n Tryz.prog 79 #[.func (.yield l) #[] #[], .pointer (some ⟨Bs, 0, none⟩)] W fun e W' => (∃ v, e = .returned v) ∧
      ((∃ ys, ys = zs ∧ J ys W') ∨ (∃ pre, pre <+: zs ∧ Jx pre W')) := by
  have HZ := Lib.hid hZ
  obtain ⟨N, HN⟩ : ∃ N, Hid (zs.length = N) := ⟨_, rfl⟩
  rw [HN.out] at hz hBs hY
  clear hZ
  refine callsIn_of_wp Tryz.func79 rfl h41 ?_ hro
  simp only [Tryz.ntmps79, List.size_toArray, List.length_cons, List.length_nil, Nat.reduceAdd, Nat.reduceSub, Array.replicate_succ, Array.replicate_zero, List.push_toArray, List.append_toArray, List.nil_append, List.cons_append]
  gi_wp2
  gi_loopw [7] (fun i wr => ∃ k : Nat, k ≤ N ∧ i = .int .i64 k ∧ Hid (J (zs.take k) wr) ∧ Hid (Below n₀ W wr))
    (fun i _ => N - (intOf i).toNat)
  case atStart => exact ⟨0, Nat.zero_le _, rfl, h0, Below.refl _ _⟩
  case round =>
    obtain ⟨k, hk, rfl, HJs, HB⟩ := hrel
    by_cases hlt : k < N
    · obtain ⟨bb, off, ⟨u1, v1, x1, y1, z1, t1⟩, rfl, hb, hx, c0, c1, c2, c3, c4, c5⟩ := RL.at_ (k := k) (HZ.out.go HB.out) (by rw [HN.out]; exact hlt)
      dsimp only at c0 c1 c2 c3 c4 c5
      have hJ1 : J (zs.take k) (wr.alloc (.cells #[.int .i64 u1, .int .i64 v1, .int .i64 x1, .int .i64 y1, .int .i64 z1, .int .i64 t1] 62)) :=
        hJ _ _ _ none HJs.out (World.grownBy_alloc _ _ none) (fun r e => by cases e)
      have HT : Hid (zs.take (k + 1) = zs.take k ++ [⟨u1, v1, x1, y1, z1, t1⟩]) := by show _ = _; rw [List.take_add_one, hx]; rfl
      have HBa : Hid (Below n₀ W (wr.alloc (.cells #[.int .i64 u1, .int .i64 v1, .int .i64 x1, .int .i64 y1, .int .i64 z1, .int .i64 t1] 62))) := HB.out.alloc (Nat.le_trans hn₀ HB.out.size) _
      obtain ⟨fn, tmps, assign, body, hy, hR⟩ := hY _ ⟨u1, v1, x1, y1, z1, t1⟩ _ hJ1 (by rw [List.length_take]; omega)
      simp only [encsL] at hy
      clear hx hJ1
      gi_wp2
      refine hR.mono ?_
      rintro e W3 (⟨rfl, hJ3, hk3⟩ | ⟨rfl, hJx3⟩)
      · have HB3 := Lib.hid (HBa.out.trans hk3)
        have HJ3 := Lib.hid hJ3
        clear hJ3 hk3 hy hR
        gi_wp2
        go_roundw
        case rel => exact ⟨k + 1, by omega, by go_num, by show J _ _; rw [HT.out]; exact HJ3.out, HB3.out⟩
        case measure => simp [intOf]; omega
      · have HX : Hid (Jx (zs.take (k + 1)) W3) := by show Jx _ _; rw [HT.out]; exact hJx3
        clear hJx3 hy hR
        gi_wp2
        refine bodyPost_ret (results_none rfl _ _ _) rfl ?_
        exact ⟨⟨_, rfl⟩, .inr ⟨_, List.take_prefix (k + 1) zs, HX.out⟩⟩
    · have HJ2 : Hid (J zs wr) := by
        have := HJs.out
        rwa [List.take_of_length_le (by rw [HN.out]; omega)] at this
      gi_wp2
      go_end0
      exact ⟨⟨_, rfl⟩, .inl ⟨_, rfl, HJ2.out⟩⟩
/-- slices.Values: the slice is boxed; the function value captures the box -/
theorem values_any (A : Option Addr) (c m : Nat) (w : World) :
    Calls Tryz.prog 58 #[.slice A m c] w fun e w' => e = .returned (.func (.func 79) #[] #[.pointer (some ⟨w.heap.size, 0, none⟩)]) ∧ w' = w.alloc (.cells #[.slice A m c] 22) := by
  go_enter Tryz.func58, Tryz.ntmps58
  go_wp2
  go_ret
  exact ⟨rfl, rfl⟩
theorem values_stops (F : Fence) (n : Nat) (h41 : F.fn 79) (hro : F.round = none) (hn : 1 ≤ n) (Bs n₀ : Nat) (A : Option Addr) (c : Nat) (zs : List Ls.Lk) (hz : zs.length ≤ 65536) (w : World) (hBs : Bs < w.heap.size) (hn₀ : n₀ ≤ w.heap.size)
    (hc : w.cell? ⟨Bs, 0, none⟩ = some (.slice A zs.length c)) (hZ : RL n₀ w A c zs) :
    SeqStopsK F n Tryz.prog 79 #[.pointer (some ⟨Bs, 0, none⟩)] encsL (Below n₀) (fun ys => ys = zs) (fun pre => pre <+: zs) zs.length w := fun l J Jx W hW hJ _ hY h0 =>
  values1_in F n h41 hro hn l Bs n₀ A c zs hz J Jx hY W hJ ((hW.cell (p := ⟨Bs, 0, none⟩) hBs).trans hc) (hZ.go (hW.mono hn₀)) (Nat.le_trans hn₀ hW.size) h0
set_option maxRecDepth 100000 in
set_option maxHeartbeats 4000000 in
/-- slices.AppendSeq(nil, slices.Values(s)): a slice of one's own with what s holds -/
theorem appendSeq_in (F : Fence) (n : Nat) (h57 : F.fn 93) (h41 : F.fn 79) (hro : F.round = none) (hn : 3 ≤ n) (Bs : Nat) (A : Option Addr) (c : Nat) (zs : List Ls.Lk) (hz : zs.length ≤ 65536) (w : World) (hBs : Bs < w.heap.size)
    (hc : w.cell? ⟨Bs, 0, none⟩ = some (.slice A zs.length c)) (hZ : RL w.heap.size w A c zs) :
    CallsIn F n Tryz.prog 93 #[.slice none 0 0, .func (.func 79) #[] #[.pointer (some ⟨Bs, 0, none⟩)]] w fun e W' =>
      ∃ v, e = .returned v ∧ W'.ownsRow w.heap.size 62 6 v zs.length (cl Ls.Lk.cells zs) ∧ Below w.heap.size w W' := by
  have h1 : 1 ≤ n := by omega
  obtain ⟨i0, hi, hz0, hz1, hz2⟩ := info_parts infoL
  refine callsIn_of_wp_marks Tryz.func93 rfl h57 ?_ hro
  simp only [Tryz.ntmps93, List.size_toArray, List.length_cons, List.length_nil, Nat.reduceAdd, Nat.reduceSub, Array.replicate_succ, Array.replicate_zero, List.push_toArray, List.append_toArray, List.nil_append, List.cons_append]
  gi_wp2
  have bO := Boxed.new w 22 (.slice none 0 0)
  have hB0 : Below w.heap.size w (w.alloc (.cells #[.slice none 0 0] 22)) := below_new _ _
  have hsz : (w.alloc (.cells #[.slice none 0 0] 22)).heap.size = w.heap.size + 1 := by simp
  have hcW : (w.alloc (.cells #[.slice none 0 0] 22)).cell? ⟨Bs, 0, none⟩ = some (.slice A zs.length c) := (hB0.cell (p := ⟨Bs, 0, none⟩) hBs).trans hc
  have hrow0 : (w.alloc (.cells #[.slice none 0 0] 22)).ownsRow w.heap.size 62 6 (.slice none 0 0) ([] : List Ls.Lk).length (cl Ls.Lk.cells []) := World.ownsRow_nil _ _ _ _
  obtain ⟨W0, hW0⟩ : ∃ W0, w.alloc (.cells #[.slice none 0 0] 22) = W0 := ⟨_, rfl⟩
  rw [hW0] at bO hB0 hsz hcW hrow0 ⊢
  clear hW0
  refine wpIn_rangeFunc_ownH hro h1 (gf := 79) (lb := #[.pointer (some ⟨Bs, 0, none⟩)]) rfl h41 (enters_of Tryz.func79 (by kernel_rfl) rfl)
    (values_stops F (n - 1) h41 hro (by omega) Bs w.heap.size A c zs hz W0 (by omega) (by omega) hcW (hZ.go hB0)) belowK_t (belowK_b (by omega)) (Below.refl _ _) (fun _ => rfl)
    (fun pre W => (∃ v, Boxed W w.heap.size 22 v ∧ W.ownsRow w.heap.size 62 6 v pre.length (cl Ls.Lk.cells pre) ∧ True) ∧ Below w.heap.size w W)
    (fun _ _ _ => False)
    (OwnFrom.and (Own.from (holdsRow_own w.heap.size w.heap.size 22 62 6 (fun pre : List Ls.Lk => pre.length) (fun pre => cl Ls.Lk.cells pre) (fun _ _ => True)) _) (ownFrom_below (Nat.le_refl _) (by omega)))
    (fun _ _ _ _ _ hs _ _ => hs)
    ⟨⟨_, bO, hrow0, trivial⟩, hB0⟩
    (fun x a' W => ∃ Bx, w.heap.size < Bx ∧ W.heap[Bx]? = some (.cells #[.int .i64 x.u, .int .i64 x.v, .int .i64 x.weight, .int .i64 x.label, .int .i64 x.sign, .int .i64 x.time] 62 (0, 0)) ∧
      a' = { tmps := #[.slice none 0 0, .func (.func 79) #[] #[.pointer (some ⟨Bs, 0, none⟩)], .pointer (some ⟨w.heap.size, 0, none⟩), undef, .slice none 0 0, .pointer (some ⟨Bx, 0, none⟩), .func (.func 79) #[] #[.pointer (some ⟨Bs, 0, none⟩)], .agg #[.int .i64 x.u, .int .i64 x.v, .int .i64 x.weight, .int .i64 x.label, .int .i64 x.sign, .int .i64 x.time], undef, undef, undef, undef, undef], defers := [] })
    (fun x a' _ X Y row hs hg hr => by
      obtain ⟨Bx, h1, h2, h3⟩ := hs
      refine ⟨Bx, h1, (hg.block Bx (lt_of_some h2) (fun e' => ?_)).trans h2, h3⟩
      obtain ⟨o, ho, hcl⟩ := (hr Bx e'.symm).2
      rw [h2] at ho; cases ho; cases hcl)
    ?assign ?body ?done ?stop
  case assign =>
    rintro l pre ⟨u, v, x, y, z, t⟩ W K ⟨⟨sv, bS1, hr1, -⟩, hB1⟩ hK
    simp only [encsL]
    gi_wp2
    refine hK _ _ ((KeepsOthers.alloc _ _).from _) ((Below.refl _ W).alloc hB1.size _) ⟨⟨sv, bS1.alloc _, hr1.alloc _, trivial⟩, hB1.alloc hB1.size _⟩ ⟨W.heap.size, bS1.lt, heap_alloc_new _ _, rfl⟩
  case body =>
    rintro l pre ⟨u, v, x, y, z, t⟩ a' W hl ⟨r, hr⟩ ⟨⟨sv, hv, hrow, -⟩, hB⟩ ⟨Bx, hBx, bX, rfl⟩ hlt
    have hc1 := hv.cell
    have hyy := Go.Joins.cell_of_block bX
    have y0 := hyy 0; have y1 := hyy 1; have y2 := hyy 2; have y3 := hyy 3; have y4 := hyy 4; have y5 := hyy 5
    simp only [List.getElem?_toArray, List.getElem?_cons_succ, List.getElem?_cons_zero] at y0 y1 y2 y3 y4 y5
    clear hyy
    have hN : Hid (pre.length ≤ 65536) := by show _ ≤ _; omega
    have HCL : Hid (∀ (j : Nat) (q : Value), [Value.int .i64 u, .int .i64 v, .int .i64 x, .int .i64 y, .int .i64 z, .int .i64 t][j]? = some q → (W.alloc (.cells #[.int .i64 u, .int .i64 v, .int .i64 x, .int .i64 y, .int .i64 z, .int .i64 t] 62)).cell? ((⟨W.heap.size, 0, none⟩ : Addr).add j) = some q) := by
      intro j q hq
      have := Go.Joins.cell_of_block (heap_alloc_new W (.cells #[.int .i64 u, .int .i64 v, .int .i64 x, .int .i64 y, .int .i64 z, .int .i64 t] 62)) j
      rw [Go.WideShapes.add_plain, Nat.zero_add, this]
      simpa using hq
    gi_wp2_with (gi_at_builtin; refine wpListIn_append_own _ rfl _ _ 22 rfl w.heap.size 62 i0 (.agg #[.int .i64 0, .int .i64 0, .int .i64 0, .int .i64 0, .int .i64 0, .int .i64 0]) 6 48 Tryz.underlying22 hi hz0 hz1 hz2 rfl (by decide) _ _ _ rfl (hrow.alloc _) ⟨W.heap.size, 0, none⟩ 1 1 [.int .i64 u, .int .i64 v, .int .i64 x, .int .i64 y, .int .i64 z, .int .i64 t] rfl rfl HCL.out (by simp [Value.oneCell']) (by have := hN.out; unfold maxLen; omega) (by have := hN.out; omega) (by have := hB.size; simp; omega) ?_)
    · intro v' w1 hown' hgrow _
      obtain ⟨g', cap', rfl⟩ := ownsRow_succ hown'
      obtain ⟨hv1, hv2, hr2, hk2, hb2⟩ := hv.appended (by decide) hrow hB.size (Nat.le_refl _) hown' hgrow
      have hc2 := hv1.cell
      have hf2 := hv1.frozen
      clear hc1 y0 y1 y2 y3 y4 y5
      gi_wp2
      exact ⟨hk2.from _, hb2, ⟨_, hv2, by rw [cl_append, List.length_append]; exact hr2, trivial⟩, hB.trans hb2⟩
  case done =>
    rintro D ys W hD rfl ⟨⟨v, hv, hrow, -⟩, hB⟩ hK
    have hc1 := hv.cell
    gi_wp2
    refine ⟨by simp, .inl ⟨_, _, rfl, run_takeDeferred hK, ?_⟩⟩
    exact ⟨_, results_tmp rfl _ _ _, v, rfl, ownsRow_putObj hrow _ hK rfl, hB.trans (belowK_b (w := w) (Nat.le_refl _) W D _ _ (by omega) hK rfl rfl)⟩
  case stop =>
    rintro D c pre W _ _ h _
    exact h.elim
theorem appendSeq_any (Bs : Nat) (A : Option Addr) (c : Nat) (zs : List Ls.Lk) (hz : zs.length ≤ 65536) (w : World) (hBs : Bs < w.heap.size) (hc : w.cell? ⟨Bs, 0, none⟩ = some (.slice A zs.length c)) (hZ : RL w.heap.size w A c zs) :
    Calls Tryz.prog 93 #[.slice none 0 0, .func (.func 79) #[] #[.pointer (some ⟨Bs, 0, none⟩)]] w fun e W' =>
      ∃ v, e = .returned v ∧ W'.ownsRow w.heap.size 62 6 v zs.length (cl Ls.Lk.cells zs) ∧ Below w.heap.size w W' :=
  callsIn_wide.1 (appendSeq_in Fence.wide 3 trivial trivial rfl (Nat.le_refl _) Bs A c zs hz w hBs hc hZ)
theorem collect_any (Bs : Nat) (A : Option Addr) (c : Nat) (zs : List Ls.Lk) (hz : zs.length ≤ 65536) (w : World) (hBs : Bs < w.heap.size) (hc : w.cell? ⟨Bs, 0, none⟩ = some (.slice A zs.length c)) (hZ : RL w.heap.size w A c zs) :
    Calls Tryz.prog 77 #[.func (.func 79) #[] #[.pointer (some ⟨Bs, 0, none⟩)]] w fun e W' =>
      ∃ v, e = .returned v ∧ W'.ownsRow w.heap.size 62 6 v zs.length (cl Ls.Lk.cells zs) ∧ Below w.heap.size w W' := by
  have C := Lib.hid (appendSeq_any Bs A c zs hz w hBs hc hZ)
  clear hc hZ
  go_enter Tryz.func77, Tryz.ntmps77
  go_wp2_with fail
  refine C.out.mono ?_
  rintro e w1 ⟨v, rfl, ho, hb⟩
  have HO := Lib.hid ho
  have HB := Lib.hid hb
  clear ho hb C
  go_wp2
  go_ret
  exact ⟨v, rfl, HO.out, HB.out⟩
end Go.Proofs.YtfapfkaipdcflaaGreat
