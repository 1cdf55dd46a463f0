/-
  The maker's State.
-/
import Derived.Test.YtfapfkaipdcflaaGreatUp
namespace Go.Proofs.YtfapfkaipdcflaaGreat
namespace Gm
open Go.RowKit Go.Lib
open Go.Proofs.YtfapfkaipdcflaaGreat.K (new_two)

/-- all blocks but one, and but a row, stay -/
structure Le2 (g : Nat) (row : Option Nat) (w w' : World) : Prop where
  os : w'.os = w.os
  tape : w'.tape = w.tape
  output : w'.output = w.output
  size : w.heap.size ≤ w'.heap.size
  block : ∀ k, k < w.heap.size → k ≠ g → some k ≠ row → w'.heap[k]? = w.heap[k]?
theorem le2_refl (g : Nat) (row : Option Nat) (w : World) : Le2 g row w w := ⟨rfl, rfl, rfl, Nat.le_refl _, fun _ _ _ _ => rfl⟩
theorem le2_trans {g : Nat} {row : Option Nat} {w w1 w2 : World} (h : Le2 g row w w1) (h2 : Le2 g row w1 w2) : Le2 g row w w2 :=
  ⟨h2.os.trans h.os, h2.tape.trans h.tape, h2.output.trans h.output, Nat.le_trans h.size h2.size, fun k hk a b => (h2.block k (Nat.lt_of_lt_of_le hk h.size) a b).trans (h.block k hk a b)⟩
theorem le2_drewN (g : Nat) (row : Option Nat) (w : World) (n : Nat) : Le2 g row w (w.drewN n) := ⟨rfl, rfl, rfl, Nat.le_refl _, fun _ _ _ _ => rfl⟩
theorem le2_alloc (g : Nat) (row : Option Nat) (w : World) (o : Obj) : Le2 g row w (w.alloc o) := ⟨rfl, rfl, rfl, by simp, fun k hk _ _ => Below.heap_alloc _ _ _ hk⟩
theorem le2_g {g : Nat} {row : Option Nat} {w w' : World} (h : w.grownBy w' (some g)) : Le2 g row w w' := ⟨h.os, h.tape, h.output, h.size, fun k hk a _ => h.block k hk (fun e => by injection e with e; omega)⟩
theorem le2_r {g : Nat} {row : Option Nat} {w w' : World} (h : w.grownBy w' row) : Le2 g row w w' := ⟨h.os, h.tape, h.output, h.size, fun k hk _ b => h.block k hk b⟩
/-- a link's attributes as the maker chooses them -/
def goodA (x y z t : Int) : Prop := (1 ≤ x ∧ x ≤ 6) ∧ (0 ≤ y ∧ y ≤ 3) ∧ (z = 1 ∨ z = -1) ∧ (0 ≤ t ∧ t ≤ 19)
/-- what is known while a link is made and written behind the others: k: it has been written -/
structure JSt (base g : Nat) (A : Option Addr) (c : Nat) (L : List Int) (B6 : Nat) (eu ew : Int) (A2 : Option Addr) (c2 : Nat) (ls : List Ls.Lk) (k : Bool) (a : Act) (w : World) : Prop where
  sz : a.tmps.size = 45
  dk : ∃ m, Dk base w g A c L m
  own : k = false → w.ownsRow (B6 + 1) 62 6 (.slice A2 ls.length c2) ls.length (cl Ls.Lk.cells ls)
  new : k = true → ∃ (A' : Option Addr) (c' : Nat) (x y z t : Int), goodA x y z t ∧ a.eval (.tmp 41) = .slice A' (ls ++ [(⟨eu, ew, x, y, z, t⟩ : Ls.Lk)]).length c' ∧ w.ownsRow (B6 + 1) 62 6 (.slice A' (ls ++ [(⟨eu, ew, x, y, z, t⟩ : Ls.Lk)]).length c') (ls ++ [(⟨eu, ew, x, y, z, t⟩ : Ls.Lk)]).length (cl Ls.Lk.cells (ls ++ [(⟨eu, ew, x, y, z, t⟩ : Ls.Lk)])) ∧ True
section
variable {base g : Nat} {A : Option Addr} {c : Nat} {L : List Int} {B6 : Nat} {eu ew : Int} {A2 : Option Addr} {c2 : Nat} {ls : List Ls.Lk} {k : Bool} {a : Act} {w w' : World}
theorem JSt.put {d : Nat} {v : Value} (h : JSt base g A c L B6 eu ew A2 c2 ls k a w) (hd : d ≠ 41) : JSt base g A c L B6 eu ew A2 c2 ls k (a.put (some d) v) w :=
  ⟨by rw [size_put]; exact h.sz, h.dk, h.own, fun hk => by rw [eval_put_other hd]; exact h.new hk⟩
theorem JSt.alloc (h : JSt base g A c L B6 eu ew A2 c2 ls k a w) (o : Obj) : JSt base g A c L B6 eu ew A2 c2 ls k a (w.alloc o) := by
  obtain ⟨m, hd⟩ := h.dk
  exact ⟨h.sz, ⟨m, hd.go (below_new w o)⟩, fun hk => own_up (h.own hk) (below_new w o), fun hk => by
    obtain ⟨A', c', x, y, z, t, h1, h2, h3, h4⟩ := h.new hk
    exact ⟨A', c', x, y, z, t, h1, h2, own_up h3 (below_new w o), h4⟩⟩
theorem JSt.next (h : JSt base g A c L B6 eu ew A2 c2 ls k a w) (hd : ∃ m, Dk base w' g A c L m) (hg : w.grownBy w' (some g)) (hB : g < B6 + 1) : JSt base g A c L B6 eu ew A2 c2 ls k a w' :=
  ⟨h.sz, hd, fun hk => own_kept (h.own hk) hg hB, fun hk => by
    obtain ⟨A', c', x, y, z, t, h1, h2, h3, h4⟩ := h.new hk
    exact ⟨A', c', x, y, z, t, h1, h2, own_kept h3 hg hB, h4⟩⟩
theorem JSt.done {A' : Option Addr} {c' : Nat} {x y z t : Int} (h : JSt base g A c L B6 eu ew A2 c2 ls k a w) (hga : goodA x y z t)
    (ho : w'.ownsRow (B6 + 1) 62 6 (.slice A' (ls ++ [(⟨eu, ew, x, y, z, t⟩ : Ls.Lk)]).length c') (ls ++ [(⟨eu, ew, x, y, z, t⟩ : Ls.Lk)]).length (cl Ls.Lk.cells (ls ++ [(⟨eu, ew, x, y, z, t⟩ : Ls.Lk)]))) (hb : Below (B6 + 1) w w') (hB : g < B6 + 1) :
    JSt base g A c L B6 eu ew A2 c2 ls true (a.put (some 41) (.slice A' (ls ++ [(⟨eu, ew, x, y, z, t⟩ : Ls.Lk)]).length c')) w' := by
  obtain ⟨m, hd⟩ := h.dk
  exact ⟨by rw [size_put]; exact h.sz, ⟨m, hd.goB hb hB⟩, fun hk => absurd hk (by decide), fun _ => ⟨A', c', x, y, z, t, hga, eval_put_same (by rw [h.sz]; decide), ho, trivial⟩⟩
end
/-- the loop's state -/
structure SL (base g : Nat) (A : Option Addr) (c : Nat) (L : List Int) (w : World) (B6 N : Nat) (A1 : Option Addr) (c1 : Nat) (es : List Ed) (A2 : Option Addr) (c2 : Nat) (ls : List Ls.Lk) (wr : World) : Prop where
  b4 : wr.heap[w.heap.size]? = some (.cells #[.int .i64 0, .slice none 0 0] 24)
  b6 : wr.heap[B6]? = some (.cells #[.int .i64 (N : Nat), .slice A2 ls.length c2] 24)
  dk : ∃ m, Dk base wr g A c L m
  eo : wr.ownsRow (w.heap.size + 1) 70 2 (.slice A1 es.length c1) es.length (cl edc es)
  el : ∀ q, (Value.slice A1 es.length c1).ownBlock = some q → q < B6
  own : wr.ownsRow (B6 + 1) 62 6 (.slice A2 ls.length c2) ls.length (cl Ls.Lk.cells ls)
  gr : w.grownBy wr (some g)
  lg : g < w.heap.size
  l6 : w.heap.size < B6
/-- what State answers -/
def StateP (base g : Nat) (A : Option Addr) (c : Nat) (L : List Int) (w : World) (e : Ending) (w' : World) : Prop :=
  ∃ (N : Nat) (l : List Ls.Lk) (A1 : Option Addr) (c1 m : Nat), e = .returned (.agg #[.int .i64 (N : Nat), .slice A1 l.length c1]) ∧ l.length ≤ 36 ∧ w'.ownsRow (w.heap.size + 1) 62 6 (.slice A1 l.length c1) l.length (cl Ls.Lk.cells l) ∧ Dk base w' g A c L m ∧ w.grownBy w' (some g)
set_option maxHeartbeats 8000000 in
set_option maxRecDepth 100000 in
theorem state_any (base g : Nat) (A : Option Addr) (c : Nat) (L : List Int) (m : Nat) (M : Nat) (w : World) (D : Dk base w g A c L m) (hL : L.length ≤ 17592186044416) (hM : M ≤ 6) :
    Calls Tryz.prog 9 #[.pointer (some ⟨g, 0, none⟩), .int .i64 M] w (StateP base g A c L w) := by
  have HD0 := Lib.hid (D.go (below_new w (.cells #[.int .i64 0, .slice none 0 0] 24)))
  have hgw : Hid (g < w.heap.size) := D.lt
  clear D
  go_enter Tryz.func9, Tryz.ntmps9
  go_wp2_with fail
  refine (graph_any base g A c L m M _ HD0.out hL hM).mono ?_
  rintro e w1 ⟨N, es, A1, c1, m1, rfl, hN, hes, heo, D1, g1⟩
  have hes' := Lib.hid hes
  have hgs : w.heap.size < w1.heap.size := by have := g1.size; simp at this; omega
  obtain ⟨K, HK⟩ : ∃ K, Hid (es.length = K) := ⟨_, rfl⟩
  have hK64 : K ≤ 36 := by rw [← HK.out]; exact hes
  have HSL : Hid (SL base g A c L w (w1.heap.size + 1) N A1 c1 es none 0 [] ((w1.alloc (.cells #[.int .i64 N, .slice A1 es.length c1] 67)).alloc (.cells #[.int .i64 N, .slice none 0 0] 24))) := by
    obtain ⟨n0, n1, n2, n3⟩ := new_two w1 (.cells #[.int .i64 N, .slice A1 es.length c1] 67) (.cells #[.int .i64 N, .slice none 0 0] 24)
    have hb4 : w1.heap[w.heap.size]? = some (.cells #[.int .i64 0, .slice none 0 0] 24) := (g1.block _ (by simp) (fun e => by injection e with e; have := hgw.out; omega)).trans (heap_alloc_new w _)
    have hgr : w.grownBy w1 (some g) := ⟨g1.os, g1.tape, g1.output, by have := g1.size; simp at this; omega, fun i hi hne => (g1.block i (by simp; omega) hne).trans (Below.heap_alloc w _ i hi)⟩
    exact ⟨(n3.block _ hgs).trans hb4, n1, ⟨m1, D1.go n3⟩, own_up (Go.Joins.ownsRow_le heo (by simp)) n3, fun q hq => by have := (heo.lt q hq).2; omega, World.ownsRow_nil _ _ _ _, grown_below hgr n3 (by omega), hgw.out, by omega⟩
  clear hes heo D1 g1 HD0
  go_wp2
  rw [HK.out]
  obtain ⟨B6, hB6⟩ : ∃ B6, Hid (w1.heap.size + 1 = B6) := ⟨_, rfl⟩
  rw [HK.out] at HSL
  rw [hB6.out] at HSL ⊢
  go_loopw [18] (fun i wr => ∃ (j : Nat) (A2 : Option Addr) (c2 : Nat) (ls : List Ls.Lk), j ≤ K ∧ i = .int .i64 j ∧ Hid (ls.length = j) ∧ Hid (SL base g A c L w B6 N A1 c1 es A2 c2 ls wr)) (fun i _ => K - (RowKit.intOf i).toNat)
  case atStart => exact ⟨0, none, 0, [], Nat.zero_le _, rfl, rfl, HSL.out⟩
  case round =>
    obtain ⟨j, A2, c2, ls, hj, rfl, HN, HS⟩ := hrel
    by_cases hlt : j < K
    · obtain ⟨b, off, ⟨eu, ew⟩, rfl, hb, hx, hcc⟩ := RX.let_ encD (by decide) (RX.of_own HS.out.eo) (k := j) (by rw [HK.out]; exact hlt)
      have hc0 := hcc 0 _ rfl
      have hc1 := hcc 1 _ rfl
      dsimp only at hc0 hc1
      rw [Nat.add_zero] at hc0
      rw [← Nat.add_assoc] at hc1
      clear hcc
      have HN' := HN.out
      clear hx
      have hlsz : Hid (B6 < wr.heap.size) := lt_of_some HS.out.b6
      have hgB : g < B6 + 1 := by have := HS.out.lg; have := HS.out.l6; omega
      obtain ⟨n, HN3⟩ : ∃ n, Hid (ls.length = n) := ⟨_, rfl⟩
      clear HN'
      go_wp2
      obtain ⟨W1, hW1⟩ : ∃ W1, Hid (wr.alloc (.cells #[.int .i64 eu, .int .i64 ew] 70) = W1) := ⟨_, rfl⟩
      have HBW : Hid (Below wr.heap.size wr W1) := by show Below _ _ _; rw [← hW1.out]; exact below_new _ _
      have HEb : Hid (W1.heap[wr.heap.size]? = some (.cells #[.int .i64 eu, .int .i64 ew] 70)) := by show _ = _; rw [← hW1.out]; exact heap_alloc_new _ _
      have H6b : Hid (W1.heap[B6]? = some (.cells #[.int .i64 (N : Nat), .slice A2 n c2] 24)) := by show _ = _; rw [← HN3.out]; exact (HBW.out.block _ hlsz.out).trans HS.out.b6
      have HEl : Hid (wr.heap.size < W1.heap.size) := lt_of_some HEb.out
      have H6l : Hid (B6 < W1.heap.size) := Nat.lt_of_lt_of_le hlsz.out HBW.out.size
      have hrowlt : Hid (∀ q, (Value.slice A2 n c2).ownBlock = some q → B6 + 1 ≤ q ∧ q < wr.heap.size) := by rw [← HN3.out]; exact HS.out.own.lt
      have HEg : Hid (wr.heap.size ≠ g) := by show _ ≠ _; have := HS.out.lg; have := HS.out.l6; have := hlsz.out; omega
      have H6g : Hid (B6 ≠ g) := by show _ ≠ _; have := HS.out.lg; have := HS.out.l6; omega
      have HEr : Hid (some wr.heap.size ≠ (Value.slice A2 n c2).ownBlock) := fun e => by have := hrowlt.out _ e.symm; omega
      have H6r : Hid (some B6 ≠ (Value.slice A2 n c2).ownBlock) := fun e => by have := hrowlt.out _ e.symm; omega
      have HM40 : Hid (∀ (q0 : Value) (w5 w6 : World), (∃ (vb : Nat) (x y z t : Int), goodA x y z t ∧ q0 = .slice (some ⟨vb, 0, none⟩) 1 1 ∧ W1.heap.size ≤ vb ∧ w5.heap[vb]? = some (.cells #[.int .i64 eu, .int .i64 ew, .int .i64 x, .int .i64 y, .int .i64 z, .int .i64 t] 62 (0, 0))) → Le2 g (Value.slice A2 n c2).ownBlock w5 w6 →
          (∃ (vb : Nat) (x y z t : Int), goodA x y z t ∧ q0 = .slice (some ⟨vb, 0, none⟩) 1 1 ∧ W1.heap.size ≤ vb ∧ w6.heap[vb]? = some (.cells #[.int .i64 eu, .int .i64 ew, .int .i64 x, .int .i64 y, .int .i64 z, .int .i64 t] 62 (0, 0)))) := by
        rintro q0 w5 w6 ⟨vb, x, y, z, t, h0, e, h1, h2⟩ hg
        exact ⟨vb, x, y, z, t, h0, e, h1, (hg.block vb (lt_of_some h2) (by have := HS.out.lg; have := HS.out.l6; have := H6l.out; omega) (fun e => by have := hrowlt.out vb e.symm; have := HEl.out; omega)).trans h2⟩
      have HJ0 : Hid (∀ a : Act, a.tmps.size = 45 → JSt base g A c L B6 eu ew A2 c2 ls false a (W1.drewN 1)) := by
        obtain ⟨mm, hd⟩ := HS.out.dk
        exact fun a ha => ⟨ha, ⟨mm, (hd.go HBW.out).go (below_drewN _ _)⟩, fun _ => own_up (own_up HS.out.own HBW.out) (below_drewN _ _), fun h => absurd h (by decide)⟩
      have HN10 : Hid (ls.length ≤ 10000) := by show _ ≤ _; rw [HN.out]; omega
      rw [hW1.out]
      clear hc0 hc1
      refine wp_region_ac 21 45 (Le2 g (Value.slice A2 n c2).ownBlock) (fun f a wr => JSt base g A c L B6 eu ew A2 c2 ls (f 19) a wr) [(fun q0 _ => q0 = .pointer (some ⟨B6, 1, none⟩)), (fun q0 _ => q0 = .slice A2 n c2), (fun q0 _ => q0 = .pointer (some ⟨wr.heap.size, 0, none⟩)), (fun q0 _ => q0 = .int .i64 eu), (fun q0 _ => q0 = .pointer (some ⟨wr.heap.size, 1, none⟩)), (fun q0 _ => q0 = .int .i64 ew), (fun q0 _ => q0 = .pointer (some ⟨g, 0, none⟩)), (fun q0 _ => ∃ y : Int, 0 ≤ y ∧ y ≤ 5 ∧ q0 = .int .i64 y), (fun q0 _ => ∃ y : Int, 1 ≤ y ∧ y ≤ 6 ∧ q0 = .int .i64 y), (fun q0 _ => q0 = .pointer (some ⟨g, 0, none⟩)), (fun q0 _ => ∃ y : Int, 0 ≤ y ∧ y ≤ 3 ∧ q0 = .int .i64 y), (fun q0 _ => q0 = .pointer (some ⟨g, 0, none⟩)), (fun q0 _ => ∃ y : Int, 0 ≤ y ∧ y ≤ 1 ∧ q0 = .int .i64 y), (fun q0 _ => ∃ y : Int, (y = 0 ∨ y = 2) ∧ q0 = .int .i64 y), (fun q0 _ => ∃ y : Int, (y = 1 ∨ y = -1) ∧ q0 = .int .i64 y), (fun q0 _ => q0 = .pointer (some ⟨g, 0, none⟩)), (fun q0 _ => ∃ y : Int, 0 ≤ y ∧ y ≤ 19 ∧ q0 = .int .i64 y), (fun q0 _ => ∃ x y z t : Int, goodA x y z t ∧ q0 = .agg #[.int .i64 eu, .int .i64 ew, .int .i64 x, .int .i64 y, .int .i64 z, .int .i64 t]), (fun q0 w5 => ∃ (vb : Nat) (x y z t : Int), goodA x y z t ∧ q0 = .slice (some ⟨vb, 0, none⟩) 1 1 ∧ W1.heap.size ≤ vb ∧ w5.heap[vb]? = some (.cells #[.int .i64 eu, .int .i64 ew, .int .i64 x, .int .i64 y, .int .i64 z, .int .i64 t] 62 (0, 0))), (fun _ _ => True), (fun q0 _ => q0 = .pointer (some ⟨B6, 1, none⟩))] (by kernel_rfl) (by kernel_rfl) rfl (fun _ _ _ => le2_trans) (le2_drewN _ _ _ _) (HJ0.out _ rfl) ?_ ?_ ?_
      · intro R hR
        simp only [List.mem_cons, List.not_mem_nil, or_false] at hR
        rcases hR with rfl | rfl | rfl | rfl | rfl | rfl | rfl | rfl | rfl | rfl | rfl | rfl | rfl | rfl | rfl | rfl | rfl | rfl | rfl | rfl | rfl <;> first | exact fun _ _ _ h _ => h | exact HM40.out
      · simp only [List.take_succ_cons, List.take_zero]
        refine ⟨?_, ?_, ?_, ?_, ?_, ?_, ?_, ?_, ?_, ?_, ?_, ?_, ?_, ?_, ?_, ?_, ?_, ?_, ?_, ?_, ?_, trivial⟩
        · intro a ws f hle hjj hfi hun hdn hag hdep K Q hK
          have d6 : (a.tmps[6]?).getD undef = .pointer (some ⟨B6, 0, none⟩) := eval_get (hag 6 (freeB_spec (by kernel_rfl)))
          rw [if_pos (show Region.wanted _ _ = true from rfl)]
          unfold Oper.wp
          simp [go_sem, d6]
          exact hK _ _ (le2_refl _ _ _) (hjj.put (by decide)) rfl
        · intro a ws f hle hjj hfi hun hdn hag hdep K Q hK
          have d22 : (a.tmps[22]?).getD undef = .pointer (some ⟨B6, 1, none⟩) := eval_get (dep_of hdep 0 22 rfl (by kernel_rfl) rfl rfl)
          rw [if_pos (show Region.wanted _ _ = true from rfl)]
          have y0 := Go.Joins.cell_of_block ((hle.block B6 H6l.out H6g.out H6r.out).trans H6b.out) 1
          unfold Oper.wp
          simp [go_sem, d22, y0]
          exact hK _ _ (le2_refl _ _ _) (hjj.put (by decide)) rfl
        · intro a ws f hle hjj hfi hun hdn hag hdep K Q hK
          have d8 : (a.tmps[8]?).getD undef = .pointer (some ⟨wr.heap.size, 0, none⟩) := eval_get (hag 8 (freeB_spec (by kernel_rfl)))
          rw [if_pos (show Region.wanted _ _ = true from rfl)]
          unfold Oper.wp
          simp [go_sem, d8]
          exact hK _ _ (le2_refl _ _ _) (hjj.put (by decide)) rfl
        · intro a ws f hle hjj hfi hun hdn hag hdep K Q hK
          have d24 : (a.tmps[24]?).getD undef = .pointer (some ⟨wr.heap.size, 0, none⟩) := eval_get (dep_of hdep 2 24 rfl (by kernel_rfl) rfl rfl)
          rw [if_pos (show Region.wanted _ _ = true from rfl)]
          have y0 := Go.Joins.cell_of_block ((hle.block wr.heap.size HEl.out HEg.out HEr.out).trans HEb.out) 0
          unfold Oper.wp
          simp [go_sem, d24, y0]
          exact hK _ _ (le2_refl _ _ _) (hjj.put (by decide)) rfl
        · intro a ws f hle hjj hfi hun hdn hag hdep K Q hK
          have d8 : (a.tmps[8]?).getD undef = .pointer (some ⟨wr.heap.size, 0, none⟩) := eval_get (hag 8 (freeB_spec (by kernel_rfl)))
          rw [if_pos (show Region.wanted _ _ = true from rfl)]
          unfold Oper.wp
          simp [go_sem, d8]
          exact hK _ _ (le2_refl _ _ _) (hjj.put (by decide)) rfl
        · intro a ws f hle hjj hfi hun hdn hag hdep K Q hK
          have d26 : (a.tmps[26]?).getD undef = .pointer (some ⟨wr.heap.size, 1, none⟩) := eval_get (dep_of hdep 4 26 rfl (by kernel_rfl) rfl rfl)
          rw [if_pos (show Region.wanted _ _ = true from rfl)]
          have y0 := Go.Joins.cell_of_block ((hle.block wr.heap.size HEl.out HEg.out HEr.out).trans HEb.out) 1
          unfold Oper.wp
          simp [go_sem, d26, y0]
          exact hK _ _ (le2_refl _ _ _) (hjj.put (by decide)) rfl
        · intro a ws f hle hjj hfi hun hdn hag hdep K Q hK
          have d0 : (a.tmps[0]?).getD undef = .pointer (some ⟨g, 0, none⟩) := eval_get (hag 0 (freeB_spec (by kernel_rfl)))
          rw [if_pos (show Region.wanted _ _ = true from rfl)]
          unfold Oper.wp
          simp [go_sem, d0]
          exact hK _ _ (le2_refl _ _ _) (hjj.put (by decide)) rfl
        · intro a ws f hle hjj hfi hun hdn hag hdep K Q hK
          have d28 : (a.tmps[28]?).getD undef = .pointer (some ⟨g, 0, none⟩) := eval_get (dep_of hdep 6 28 rfl (by kernel_rfl) rfl rfl)
          rw [if_pos (show Region.wanted _ _ = true from rfl)]
          obtain ⟨mm, hdm⟩ := hjj.dk
          have hcon := next_any base g A c L mm 6 ws hdm hL (by decide)
          unfold Oper.wp
          simp [go_sem, d28]
          refine hcon.mono ?_
          rintro e w9 ⟨r, m9, rfl, hr0, hr1, hd9, hg9⟩
          exact hK _ _ (le2_g hg9) ((hjj.next ⟨m9, hd9⟩ hg9 hgB).put (by decide)) ⟨r, hr0, by omega, rfl⟩
        · intro a ws f hle hjj hfi hun hdn hag hdep K Q hK
          have d29 : (fun q0 _ => ∃ y : Int, 0 ≤ y ∧ y ≤ 5 ∧ q0 = .int .i64 y) (a.eval (.tmp 29)) ws := dep_of hdep 7 29 rfl (by kernel_rfl) rfl rfl
          rw [if_pos (show Region.wanted _ _ = true from rfl)]
          obtain ⟨y, hy1, hy2, e29⟩ := d29
          have e29 := eval_get e29
          have hw : IntKind.i64.wrap (1 + y) = 1 + y := IntWalk.i64_in _ (by omega)
          unfold Oper.wp
          simp [go_sem, e29, hw]
          exact hK _ _ (le2_refl _ _ _) (hjj.put (by decide)) ⟨1 + y, by omega, by omega, rfl⟩
        · intro a ws f hle hjj hfi hun hdn hag hdep K Q hK
          have d0 : (a.tmps[0]?).getD undef = .pointer (some ⟨g, 0, none⟩) := eval_get (hag 0 (freeB_spec (by kernel_rfl)))
          rw [if_pos (show Region.wanted _ _ = true from rfl)]
          unfold Oper.wp
          simp [go_sem, d0]
          exact hK _ _ (le2_refl _ _ _) (hjj.put (by decide)) rfl
        · intro a ws f hle hjj hfi hun hdn hag hdep K Q hK
          have d31 : (a.tmps[31]?).getD undef = .pointer (some ⟨g, 0, none⟩) := eval_get (dep_of hdep 9 31 rfl (by kernel_rfl) rfl rfl)
          rw [if_pos (show Region.wanted _ _ = true from rfl)]
          obtain ⟨mm, hdm⟩ := hjj.dk
          have hcon := next_any base g A c L mm 4 ws hdm hL (by decide)
          unfold Oper.wp
          simp [go_sem, d31]
          refine hcon.mono ?_
          rintro e w9 ⟨r, m9, rfl, hr0, hr1, hd9, hg9⟩
          exact hK _ _ (le2_g hg9) ((hjj.next ⟨m9, hd9⟩ hg9 hgB).put (by decide)) ⟨r, hr0, by omega, rfl⟩
        · intro a ws f hle hjj hfi hun hdn hag hdep K Q hK
          have d0 : (a.tmps[0]?).getD undef = .pointer (some ⟨g, 0, none⟩) := eval_get (hag 0 (freeB_spec (by kernel_rfl)))
          rw [if_pos (show Region.wanted _ _ = true from rfl)]
          unfold Oper.wp
          simp [go_sem, d0]
          exact hK _ _ (le2_refl _ _ _) (hjj.put (by decide)) rfl
        · intro a ws f hle hjj hfi hun hdn hag hdep K Q hK
          have d33 : (a.tmps[33]?).getD undef = .pointer (some ⟨g, 0, none⟩) := eval_get (dep_of hdep 11 33 rfl (by kernel_rfl) rfl rfl)
          rw [if_pos (show Region.wanted _ _ = true from rfl)]
          obtain ⟨mm, hdm⟩ := hjj.dk
          have hcon := next_any base g A c L mm 2 ws hdm hL (by decide)
          unfold Oper.wp
          simp [go_sem, d33]
          refine hcon.mono ?_
          rintro e w9 ⟨r, m9, rfl, hr0, hr1, hd9, hg9⟩
          exact hK _ _ (le2_g hg9) ((hjj.next ⟨m9, hd9⟩ hg9 hgB).put (by decide)) ⟨r, hr0, by omega, rfl⟩
        · intro a ws f hle hjj hfi hun hdn hag hdep K Q hK
          have d34 : (fun q0 _ => ∃ y : Int, 0 ≤ y ∧ y ≤ 1 ∧ q0 = .int .i64 y) (a.eval (.tmp 34)) ws := dep_of hdep 12 34 rfl (by kernel_rfl) rfl rfl
          rw [if_pos (show Region.wanted _ _ = true from rfl)]
          obtain ⟨y, hy1, hy2, e34⟩ := d34
          have e34 := eval_get e34
          have hw : IntKind.i64.wrap (2 * y) = 2 * y := IntWalk.i64_in _ (by omega)
          unfold Oper.wp
          simp [go_sem, e34, hw]
          exact hK _ _ (le2_refl _ _ _) (hjj.put (by decide)) ⟨2 * y, by omega, rfl⟩
        · intro a ws f hle hjj hfi hun hdn hag hdep K Q hK
          have d35 : (fun q0 _ => ∃ y : Int, (y = 0 ∨ y = 2) ∧ q0 = .int .i64 y) (a.eval (.tmp 35)) ws := dep_of hdep 13 35 rfl (by kernel_rfl) rfl rfl
          rw [if_pos (show Region.wanted _ _ = true from rfl)]
          obtain ⟨y, hy1, e35⟩ := d35
          have e35 := eval_get e35
          have hw : IntKind.i64.wrap (1 - y) = 1 - y := IntWalk.i64_in _ (by omega)
          unfold Oper.wp
          simp [go_sem, e35, hw]
          exact hK _ _ (le2_refl _ _ _) (hjj.put (by decide)) ⟨1 - y, by omega, rfl⟩
        · intro a ws f hle hjj hfi hun hdn hag hdep K Q hK
          have d0 : (a.tmps[0]?).getD undef = .pointer (some ⟨g, 0, none⟩) := eval_get (hag 0 (freeB_spec (by kernel_rfl)))
          rw [if_pos (show Region.wanted _ _ = true from rfl)]
          unfold Oper.wp
          simp [go_sem, d0]
          exact hK _ _ (le2_refl _ _ _) (hjj.put (by decide)) rfl
        · intro a ws f hle hjj hfi hun hdn hag hdep K Q hK
          have d37 : (a.tmps[37]?).getD undef = .pointer (some ⟨g, 0, none⟩) := eval_get (dep_of hdep 15 37 rfl (by kernel_rfl) rfl rfl)
          rw [if_pos (show Region.wanted _ _ = true from rfl)]
          obtain ⟨mm, hdm⟩ := hjj.dk
          have hcon := next_any base g A c L mm 20 ws hdm hL (by decide)
          unfold Oper.wp
          simp [go_sem, d37]
          refine hcon.mono ?_
          rintro e w9 ⟨r, m9, rfl, hr0, hr1, hd9, hg9⟩
          exact hK _ _ (le2_g hg9) ((hjj.next ⟨m9, hd9⟩ hg9 hgB).put (by decide)) ⟨r, hr0, by omega, rfl⟩
        · intro a ws f hle hjj hfi hun hdn hag hdep K Q hK
          have d25 : (a.tmps[25]?).getD undef = .int .i64 eu := eval_get (dep_of hdep 3 25 rfl (by kernel_rfl) rfl rfl)
          have d27 : (a.tmps[27]?).getD undef = .int .i64 ew := eval_get (dep_of hdep 5 27 rfl (by kernel_rfl) rfl rfl)
          have d30 : (fun q0 _ => ∃ y : Int, 1 ≤ y ∧ y ≤ 6 ∧ q0 = .int .i64 y) (a.eval (.tmp 30)) ws := dep_of hdep 8 30 rfl (by kernel_rfl) rfl rfl
          have d32 : (fun q0 _ => ∃ y : Int, 0 ≤ y ∧ y ≤ 3 ∧ q0 = .int .i64 y) (a.eval (.tmp 32)) ws := dep_of hdep 10 32 rfl (by kernel_rfl) rfl rfl
          have d36 : (fun q0 _ => ∃ y : Int, (y = 1 ∨ y = -1) ∧ q0 = .int .i64 y) (a.eval (.tmp 36)) ws := dep_of hdep 14 36 rfl (by kernel_rfl) rfl rfl
          have d38 : (fun q0 _ => ∃ y : Int, 0 ≤ y ∧ y ≤ 19 ∧ q0 = .int .i64 y) (a.eval (.tmp 38)) ws := dep_of hdep 16 38 rfl (by kernel_rfl) rfl rfl
          rw [if_pos (show Region.wanted _ _ = true from rfl)]
          obtain ⟨x, hx1, hx2, e30⟩ := d30
          obtain ⟨y, hy1, hy2, e32⟩ := d32
          obtain ⟨z, hz1, e36⟩ := d36
          obtain ⟨t, ht1, ht2, e38⟩ := d38
          have e30 := eval_get e30; have e32 := eval_get e32; have e36 := eval_get e36; have e38 := eval_get e38
          unfold Oper.wp
          simp [go_sem, d25, d27, e30, e32, e36, e38]
          exact hK _ _ (le2_refl _ _ _) (hjj.put (by decide)) ⟨x, y, z, t, ⟨by omega, by omega, hz1, by omega⟩, rfl⟩
        · intro a ws f hle hjj hfi hun hdn hag hdep K Q hK
          have d39 : (fun q0 _ => ∃ x y z t : Int, goodA x y z t ∧ q0 = .agg #[.int .i64 eu, .int .i64 ew, .int .i64 x, .int .i64 y, .int .i64 z, .int .i64 t]) (a.eval (.tmp 39)) ws := dep_of hdep 17 39 rfl (by kernel_rfl) rfl rfl
          rw [if_pos (show Region.wanted _ _ = true from rfl)]
          obtain ⟨x, y, z, t, hga, e39⟩ := d39
          have e39 := eval_get e39
          have hsz := hle.size
          unfold Oper.wp
          simp [go_sem, e39]
          exact hK _ _ (le2_alloc _ _ _ _) ((hjj.alloc _).put (by decide)) ⟨_, x, y, z, t, hga, rfl, hsz, heap_alloc_new _ _⟩
        · intro a ws f hle hjj hfi hun hdn hag hdep K Q hK
          have d23 : (a.tmps[23]?).getD undef = .slice A2 n c2 := eval_get (dep_of hdep 1 23 rfl (by kernel_rfl) rfl rfl)
          have d40 : (fun q0 w5 => ∃ (vb : Nat) (x y z t : Int), goodA x y z t ∧ q0 = .slice (some ⟨vb, 0, none⟩) 1 1 ∧ W1.heap.size ≤ vb ∧ w5.heap[vb]? = some (.cells #[.int .i64 eu, .int .i64 ew, .int .i64 x, .int .i64 y, .int .i64 z, .int .i64 t] 62 (0, 0))) (a.eval (.tmp 40)) ws := dep_of hdep 18 40 rfl (by kernel_rfl) rfl rfl
          rw [if_pos (show Region.wanted _ _ = true from rfl)]
          obtain ⟨vb, x, y, z, t, hga, e40, hvb1, hvb2⟩ := d40
          have e23 : a.eval (.tmp 23) = .slice A2 ls.length c2 := by rw [HN3.out]; exact dep_of hdep 1 23 rfl (by kernel_rfl) rfl rfl
          have hrl : RL ws.heap.size ws (some ⟨vb, 0, none⟩) 1 [⟨eu, ew, x, y, z, t⟩] := by
            refine ⟨Nat.le_refl _, rfl, fun _ => ⟨_, rfl, lt_of_some hvb2, fun j q hq => ?_⟩⟩
            have := Go.Joins.cell_of_block hvb2 j
            rw [Go.WideShapes.add_plain, Nat.zero_add, this]
            simpa [cl, Ls.Lk.cells] using hq
          refine run_applX encL (by decide) 22 62 _ 48 Tryz.underlying22 infoL rfl (by decide) ws (.tmp 23) (.tmp 40) rfl (B6 + 1) A2 c2 ls e23 (hjj.own hfi) (some ⟨vb, 0, none⟩) 1 1 [⟨eu, ew, x, y, z, t⟩] rfl e40 hrl (by have := HN10.out; omega) (by have := hle.size; have := H6l.out; omega) ?_
          intro A6 c6 w6 HO6 HB6 HG6
          exact hK _ _ (le2_r (by have := HG6.out; rw [HN3.out] at this; exact this)) (hjj.done hga HO6.out (HB6.out) hgB) trivial
        · intro a ws f hle hjj hfi hun hdn hag hdep K Q hK
          have d6 : (a.tmps[6]?).getD undef = .pointer (some ⟨B6, 0, none⟩) := eval_get (hag 6 (freeB_spec (by kernel_rfl)))
          rw [if_pos (show Region.wanted _ _ = true from rfl)]
          unfold Oper.wp
          simp [go_sem, d6]
          exact hK _ _ (le2_refl _ _ _) (hjj.put (by decide)) rfl
      · intro a ws f hle hjj hft hff hsz hdf hag hend
        have f22 : a.eval (.tmp 22) = .pointer (some ⟨B6, 1, none⟩) := end_of hend 0 22 (by decide) rfl rfl rfl
        have f23 : a.eval (.tmp 23) = .slice A2 n c2 := end_of hend 1 23 (by decide) rfl rfl rfl
        have f24 : a.eval (.tmp 24) = .pointer (some ⟨wr.heap.size, 0, none⟩) := end_of hend 2 24 (by decide) rfl rfl rfl
        have f25 : a.eval (.tmp 25) = .int .i64 eu := end_of hend 3 25 (by decide) rfl rfl rfl
        have f26 : a.eval (.tmp 26) = .pointer (some ⟨wr.heap.size, 1, none⟩) := end_of hend 4 26 (by decide) rfl rfl rfl
        have f27 : a.eval (.tmp 27) = .int .i64 ew := end_of hend 5 27 (by decide) rfl rfl rfl
        have f28 : a.eval (.tmp 28) = .pointer (some ⟨g, 0, none⟩) := end_of hend 6 28 (by decide) rfl rfl rfl
        have f29 : (fun q0 _ => ∃ y : Int, 0 ≤ y ∧ y ≤ 5 ∧ q0 = .int .i64 y) (a.eval (.tmp 29)) ws := end_of hend 7 29 (by decide) rfl rfl rfl
        have f30 : (fun q0 _ => ∃ y : Int, 1 ≤ y ∧ y ≤ 6 ∧ q0 = .int .i64 y) (a.eval (.tmp 30)) ws := end_of hend 8 30 (by decide) rfl rfl rfl
        have f31 : a.eval (.tmp 31) = .pointer (some ⟨g, 0, none⟩) := end_of hend 9 31 (by decide) rfl rfl rfl
        have f32 : (fun q0 _ => ∃ y : Int, 0 ≤ y ∧ y ≤ 3 ∧ q0 = .int .i64 y) (a.eval (.tmp 32)) ws := end_of hend 10 32 (by decide) rfl rfl rfl
        have f33 : a.eval (.tmp 33) = .pointer (some ⟨g, 0, none⟩) := end_of hend 11 33 (by decide) rfl rfl rfl
        have f34 : (fun q0 _ => ∃ y : Int, 0 ≤ y ∧ y ≤ 1 ∧ q0 = .int .i64 y) (a.eval (.tmp 34)) ws := end_of hend 12 34 (by decide) rfl rfl rfl
        have f35 : (fun q0 _ => ∃ y : Int, (y = 0 ∨ y = 2) ∧ q0 = .int .i64 y) (a.eval (.tmp 35)) ws := end_of hend 13 35 (by decide) rfl rfl rfl
        have f36 : (fun q0 _ => ∃ y : Int, (y = 1 ∨ y = -1) ∧ q0 = .int .i64 y) (a.eval (.tmp 36)) ws := end_of hend 14 36 (by decide) rfl rfl rfl
        have f37 : a.eval (.tmp 37) = .pointer (some ⟨g, 0, none⟩) := end_of hend 15 37 (by decide) rfl rfl rfl
        have f38 : (fun q0 _ => ∃ y : Int, 0 ≤ y ∧ y ≤ 19 ∧ q0 = .int .i64 y) (a.eval (.tmp 38)) ws := end_of hend 16 38 (by decide) rfl rfl rfl
        have f39 : (fun q0 _ => ∃ x y z t : Int, goodA x y z t ∧ q0 = .agg #[.int .i64 eu, .int .i64 ew, .int .i64 x, .int .i64 y, .int .i64 z, .int .i64 t]) (a.eval (.tmp 39)) ws := end_of hend 17 39 (by decide) rfl rfl rfl
        have f40 : (fun q0 w5 => ∃ (vb : Nat) (x y z t : Int), goodA x y z t ∧ q0 = .slice (some ⟨vb, 0, none⟩) 1 1 ∧ W1.heap.size ≤ vb ∧ w5.heap[vb]? = some (.cells #[.int .i64 eu, .int .i64 ew, .int .i64 x, .int .i64 y, .int .i64 z, .int .i64 t] 62 (0, 0))) (a.eval (.tmp 40)) ws := end_of hend 18 40 (by decide) rfl rfl rfl
        have f41 : (fun _ _ => True) (a.eval (.tmp 41)) ws := end_of hend 19 41 (by decide) rfl rfl rfl
        have f42 : a.eval (.tmp 42) = .pointer (some ⟨B6, 1, none⟩) := end_of hend 20 42 (by decide) rfl rfl rfl
        have ea := act_block 22 21 hsz hdf hag [22, 23, 24, 25, 26, 27, 28, 29, 30, 31, 32, 33, 34, 35, 36, 37, 38, 39, 40, 41, 42] (by kernel_rfl) (by kernel_rfl) (of_decide_eq_true (by kernel_rfl))
        obtain ⟨A', c', xx, yy, zz, tt, hga, e41, ho, hbl6⟩ := hjj.new (hft 19 (by decide))
        clear hag hend hsz hdf
        simp only [List.map_cons, List.map_nil, f22, f23, f24, f25, f26, f27, f28, f31, f33, f37, f42] at ea
        clear f22 f23 f24 f25 f26 f27 f28 f31 f33 f37 f42
        generalize a.eval (.tmp 29) = x29 at ea f29
        generalize a.eval (.tmp 30) = x30 at ea f30
        generalize a.eval (.tmp 32) = x32 at ea f32
        generalize a.eval (.tmp 34) = x34 at ea f34
        generalize a.eval (.tmp 35) = x35 at ea f35
        generalize a.eval (.tmp 36) = x36 at ea f36
        generalize a.eval (.tmp 38) = x38 at ea f38
        generalize a.eval (.tmp 39) = x39 at ea f39
        generalize a.eval (.tmp 40) = x40 at ea f40
        generalize a.eval (.tmp 41) = x41 at ea f41
        simp only [List.take_succ_cons, List.take_zero, List.drop_succ_cons, List.drop_zero, List.cons_append, List.nil_append] at ea
        subst ea
        have e41' : x41 = .slice A' (ls ++ [(⟨eu, ew, xx, yy, zz, tt⟩ : Ls.Lk)]).length c' := e41
        clear e41
        subst e41'
        have h6b := (hle.block B6 H6l.out H6g.out H6r.out).trans H6b.out
        have h60 := Go.Joins.cell_of_block h6b 1
        have h6f := Go.Joins.unfrozen_of_block h6b 1
        simp only [List.getElem?_toArray, List.getElem?_cons_succ, List.getElem?_cons_zero] at h60
        have hs6 : B6 < ws.heap.size := lt_of_some h6b
        obtain ⟨n2, HN2⟩ : ∃ n2, Hid ((ls ++ [(⟨eu, ew, xx, yy, zz, tt⟩ : Ls.Lk)]).length = n2) := ⟨_, rfl⟩
        have HSN : Hid (SL base g A c L w B6 N (some ⟨b, off, none⟩) c1 es A' c' (ls ++ [(⟨eu, ew, xx, yy, zz, tt⟩ : Ls.Lk)]) (ws.setCell ⟨B6, 1, none⟩ (.slice A' n2 c'))) := by
          have hS := HS.out
          have hlr := hlsz.out
          obtain ⟨mm, hdk⟩ := hjj.dk
          have hl6 := hS.l6
          have hlg := hS.lg
          have hwr := hS.gr.size
          have hble : Le2 g (Value.slice A2 n c2).ownBlock wr ws := ⟨hle.os.trans HBW.out.os, hle.tape.trans HBW.out.tape, hle.output.trans HBW.out.output, Nat.le_trans HBW.out.size hle.size, fun k hk a b => (hle.block k (Nat.lt_of_lt_of_le hk HBW.out.size) a b).trans (HBW.out.block k hk)⟩
          have hrow : ∀ q, q ≤ B6 → some q ≠ (Value.slice A2 n c2).ownBlock := fun q hq e => by have := hrowlt.out q e.symm; omega
          have hnb : (Value.slice A' (ls ++ [(⟨eu, ew, xx, yy, zz, tt⟩ : Ls.Lk)]).length c').ownBlock ≠ some B6 := fun e => by have := (ho.lt _ e).1; omega
          have heo2 : ws.ownsRow (w.heap.size + 1) 70 2 (.slice (some ⟨b, off, none⟩) es.length c1) es.length (cl edc es) := by
            refine ⟨hS.eo.1, ?_⟩
            rcases hS.eo.2 with h1 | ⟨q, cap, cur, hv, hb1, hg1, rest⟩
            · exact .inl h1
            · have hq6 : q < B6 := hS.el q (by rw [hv]; rfl)
              exact .inr ⟨q, cap, cur, hv, hb1, (hble.block q (lt_of_some hg1) (by omega) (hrow q (by omega))).trans hg1, rest⟩
          have hne : (Value.slice (some ⟨b, off, none⟩) es.length c1).ownBlock ≠ some B6 := fun e => by have := hS.el _ e; omega
          refine ⟨(setCell_only _ (by omega)).trans ((hble.block _ (by omega) (by omega) (hrow _ (by omega))).trans hS.b4), ?_, ⟨mm, dk_other hdk set_grown (by omega)⟩, heo2.kept set_grown (.inr hne), hS.el, ho.kept set_grown (.inr hnb), ?_, hlg, hl6⟩
          · rw [HN2.out]; exact (setCell_two h6b).2
          · have hgw2 : w.grownBy ws (some g) := ⟨hble.os.trans hS.gr.os, hble.tape.trans hS.gr.tape, hble.output.trans hS.gr.output, Nat.le_trans hwr hble.size, fun k hk hne => (hble.block k (by omega) (fun e => hne (by rw [e])) (hrow k (by omega))).trans (hS.gr.block k hk hne)⟩
            exact grown_other hgw2 set_grown (by omega)
        rw [HN2.out]
        clear hjj hft hff hle ho hga h6b HJ0 HM40
        go_wp2
        go_roundw
        case rel =>
          refine ⟨j + 1, A', c', ls ++ [(⟨eu, ew, xx, yy, zz, tt⟩ : Ls.Lk)], hlt, by go_num, ?_, HSN.out⟩
          · show _ = _; rw [List.length_append, HN.out]; rfl
        case measure => simp [RowKit.intOf]; omega
    · obtain rfl : j = K := by omega
      have h6b := HS.out.b6
      have hcc := Go.Joins.cell_of_block h6b
      have q0 := hcc 0; have q1 := hcc 1
      have hc4 := Go.Joins.cell_of_block HS.out.b4
      have hf4 := Go.Joins.unfrozen_of_block HS.out.b4
      have r0 := hc4 0; have r1 := hc4 1; have f0 := hf4 0; have f1 := hf4 1
      simp only [List.getElem?_toArray, List.getElem?_cons_succ, List.getElem?_cons_zero] at q0 q1 r0 r1
      have hs6 : B6 < wr.heap.size := lt_of_some h6b
      have hs4 : w.heap.size < wr.heap.size := lt_of_some HS.out.b4
      obtain ⟨n, HN3⟩ : ∃ n, Hid (ls.length = n) := ⟨_, rfl⟩
      rw [HN3.out] at q1
      clear hcc hc4 hf4 h6b
      go_wp2
      have hl6 := HS.out.l6
      have hlg := HS.out.lg
      have hblk := (setCell_two (setCell_two HS.out.b4 (v := .int .i64 (N : Nat))).1 (v := .slice A2 n c2)).2
      have hne : (Value.slice A2 ls.length c2).ownBlock ≠ some w.heap.size := fun e => by have := (HS.out.own.lt _ e).1; omega
      have hown := ((HS.out.own.kept (w' := wr.setCell ⟨w.heap.size, 0, none⟩ (.int .i64 (N : Nat))) set_grown (.inr hne)).kept (w' := (wr.setCell ⟨w.heap.size, 0, none⟩ (.int .i64 (N : Nat))).setCell ⟨w.heap.size, 1, none⟩ (.slice A2 n c2)) set_grown (.inr hne))
      obtain ⟨mm, hdk⟩ := HS.out.dk
      have hc0 := Go.Joins.cell_of_block hblk 0; have hc1 := Go.Joins.cell_of_block hblk 1
      simp only [List.getElem?_toArray, List.getElem?_cons_succ, List.getElem?_cons_zero] at hc0 hc1
      refine bodyPost_ret (v := .agg #[.int .i64 (N : Nat), .slice A2 n c2]) (by simp [results, Tryz.results9, go_sem, hc0, hc1]) rfl
        ⟨N, ls, A2, c2, mm, by rw [HN3.out], by have := HN.out; omega, Go.Joins.ownsRow_le hown (by omega), dk_other (dk_other hdk set_grown hlg) set_grown hlg, grown_other (grown_other HS.out.gr set_grown (Nat.le_refl _)) set_grown (Nat.le_refl _)⟩
end Gm
end Go.Proofs.YtfapfkaipdcflaaGreat
