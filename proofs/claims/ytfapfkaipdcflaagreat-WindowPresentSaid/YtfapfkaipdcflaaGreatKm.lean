/-
  A link set.
-/
import Derived.Test.YtfapfkaipdcflaaGreatKl
namespace Go.Proofs.YtfapfkaipdcflaaGreat.K
open Go.RowKit Go.Lib

theorem gr_refl (w : World) (row : Option Nat) : w.grownBy w row := ⟨rfl, rfl, rfl, Nat.le_refl _, fun _ _ _ => rfl⟩
theorem gr_trans {w w1 w2 : World} {row : Option Nat} (h : w.grownBy w1 row) (h2 : w1.grownBy w2 row) : w.grownBy w2 row :=
  ⟨h2.os.trans h.os, h2.tape.trans h.tape, h2.output.trans h.output, Nat.le_trans h.size h2.size, fun i hi hne => (h2.block i (Nat.lt_of_lt_of_le hi h.size) hne).trans (h.block i hi hne)⟩
theorem gr_drewN (w : World) (n : Nat) (row : Option Nat) : w.grownBy (w.drewN n) row := ⟨rfl, rfl, rfl, Nat.le_refl _, fun _ _ _ => rfl⟩
theorem gr_alloc (w : World) (o : Obj) (row : Option Nat) : w.grownBy (w.alloc o) row := ⟨rfl, rfl, rfl, by simp, fun i hi _ => Below.heap_alloc _ _ _ hi⟩
theorem gr_below {B : Nat} {w w' : World} {row : Option Nat} (h : w.grownBy w' row) (hr : ∀ k, row = some k → B ≤ k) (hB : B ≤ w.heap.size) : Below B w w' :=
  ⟨h.os, h.tape, h.output, h.size, fun k hk => h.block k (by omega) (fun e => by have := hr k e.symm; omega)⟩
/-- what is known while a link is inserted: k: it has been done -/
structure JIns (base n : Nat) (A : Option Addr) (c : Nat) (l l2 : List Ls.Lk) (k : Bool) (a : Act) (w : World) : Prop where
  sz : a.tmps.size = 50
  own : k = false → w.ownsRow base 62 6 (.slice A n c) n (cl Ls.Lk.cells l)
  new : k = true → ∃ A' c', a.eval (.tmp 34) = .slice A' l2.length c' ∧ w.ownsRow base 62 6 (.slice A' l2.length c') l2.length (cl Ls.Lk.cells l2)
section
variable {base n : Nat} {A : Option Addr} {c : Nat} {l l2 : List Ls.Lk} {k : Bool} {a : Act} {w : World}
theorem JIns.put {d : Nat} {v : Value} (h : JIns base n A c l l2 k a w) (hd : d ≠ 34) : JIns base n A c l l2 k (a.put (some d) v) w :=
  ⟨by rw [size_put]; exact h.sz, h.own, fun hk => by rw [eval_put_other hd]; exact h.new hk⟩
theorem JIns.alloc (h : JIns base n A c l l2 k a w) (o : Obj) : JIns base n A c l l2 k a (w.alloc o) :=
  ⟨h.sz, fun hk => own_up (h.own hk) (below_new w o), fun hk => by
    obtain ⟨A', c', e, ho⟩ := h.new hk
    exact ⟨A', c', e, own_up ho (below_new w o)⟩⟩
theorem JIns.done {A' : Option Addr} {c' : Nat} {w' : World} (h : JIns base n A c l l2 k a w) (ho : w'.ownsRow base 62 6 (.slice A' l2.length c') l2.length (cl Ls.Lk.cells l2)) : JIns base n A c l l2 true (a.put (some 34) (.slice A' l2.length c')) w' :=
  ⟨by rw [size_put]; exact h.sz, fun hk => absurd hk (by decide), fun _ => ⟨A', c', eval_put_same (by rw [h.sz]; decide), ho⟩⟩
end
namespace Ls
open Go.Proofs.YtfapfkaipdcflaaGreat.Ls
theorem mem_fnd (n : Lk) (l : List Lk) (h : Asc l) : n ∈ l ↔ fnd n l = true ∧ l[pos n l]? = some n := by
  constructor
  · intro hn
    have hf := (fnd_iff n l h).2 ⟨n, hn, by simp [same]⟩
    obtain ⟨a, h1, h2, _⟩ := fnd_at n l hf
    have := eq_of_same l h a n (List.mem_of_getElem? h1) hn h2
    subst this
    exact ⟨hf, h1⟩
  · rintro ⟨_, h1⟩
    exact List.mem_of_getElem? h1
end Ls
/-- a link put in another's place -/
theorem link_set {w : World} {base c : Nat} {A : Option Addr} {l : List Ls.Lk} (h : w.ownsRow base 62 6 (.slice A l.length c) l.length (cl Ls.Lk.cells l)) (i : Nat) (hi : i < l.length) (e : Ls.Lk) :
    ∃ (g : Nat) (cur cur' : Array Value), A = some ⟨g, 0, none⟩ ∧ w.heap[g]? = some (.cells cur 62 (0, 0)) ∧ cur'.size = c * 6 ∧ cur'.toList.take (l.length * 6) = cl Ls.Lk.cells (l.set i e) ∧
      cur' = (((((cur.setIfInBounds (i * 6) (.int .i64 e.u)).setIfInBounds (i * 6 + 1) (.int .i64 e.v)).setIfInBounds (i * 6 + 2) (.int .i64 e.weight)).setIfInBounds (i * 6 + 3) (.int .i64 e.label)).setIfInBounds (i * 6 + 4) (.int .i64 e.sign)).setIfInBounds (i * 6 + 5) (.int .i64 e.time) := by
  obtain ⟨g, cur, rfl, hbg, hg, hle, hcm, hsz, htk⟩ := own_blk h (by omega)
  refine ⟨g, cur, _, rfl, hg, ?_, ?_, rfl⟩
  · simp [hsz]
  · have hlen : cur.toList.length = c * 6 := by simpa using hsz
    apply List.ext_getElem?
    intro j
    by_cases hj : j < l.length * 6
    · rw [List.getElem?_take_of_lt hj]
      obtain ⟨q, r, rfl, hr⟩ : ∃ q r, j = q * 6 + r ∧ r < 6 := ⟨j / 6, j % 6, by omega, by omega⟩
      have hq : q < l.length := by omega
      by_cases hqi : q = i
      · subst hqi
        rw [cl_at encL (l.set q e) q e (by simp [hq]) r hr]
        obtain h | h | h | h | h | h : r = 0 ∨ r = 1 ∨ r = 2 ∨ r = 3 ∨ r = 4 ∨ r = 5 := by omega
        all_goals subst h
        all_goals simp only [Ls.Lk.cells, Array.getElem?_toList, Array.getElem?_setIfInBounds, Array.size_setIfInBounds, hsz]
        all_goals simp
        all_goals omega
      · have h1 := cl_at encL (l.set i e) q l[q] (by rw [List.getElem?_set_ne (Ne.symm hqi)]; exact List.getElem?_eq_getElem hq) r hr
        have h2 := cl_at encL l q l[q] (List.getElem?_eq_getElem hq) r hr
        rw [h1, ← h2, ← htk, List.getElem?_take_of_lt hj]
        simp only [Array.getElem?_toList, Array.getElem?_setIfInBounds]
        rw [if_neg (by omega), if_neg (by omega), if_neg (by omega), if_neg (by omega), if_neg (by omega), if_neg (by omega)]
    · rw [List.getElem?_eq_none (by rw [List.length_take]; omega), List.getElem?_eq_none (by rw [cl_len encL, List.length_set]; omega)]
theorem set_six {w : World} {g : Nat} {cur : Array Value} {T : TypeId} (h : w.heap[g]? = some (.cells cur T (0, 0))) (o : Nat) (v0 v1 v2 v3 v4 v5 : Value) (W : World)
    (hW : ((((((w.setCell ⟨g, o, none⟩ v0).setCell ⟨g, o + 1, none⟩ v1).setCell ⟨g, o + 2, none⟩ v2).setCell ⟨g, o + 3, none⟩ v3).setCell ⟨g, o + 4, none⟩ v4).setCell ⟨g, o + 5, none⟩ v5) = W) :
    W.heap[g]? = some (.cells ((((((cur.setIfInBounds o v0).setIfInBounds (o + 1) v1).setIfInBounds (o + 2) v2).setIfInBounds (o + 3) v3).setIfInBounds (o + 4) v4).setIfInBounds (o + 5) v5) T (0, 0)) ∧
    (∀ k, k ≠ g → W.heap[k]? = w.heap[k]?) ∧ ∀ B, B ≤ g → Below B w W := by
  subst hW
  refine ⟨setCell_cells (setCell_cells (setCell_cells (setCell_cells (setCell_cells (setCell_cells h _ _) _ _) _ _) _ _) _ _) _ _, fun k hk => ?_, fun B hB => ?_⟩
  · rw [setCell_only _ hk, setCell_only _ hk, setCell_only _ hk, setCell_only _ hk, setCell_only _ hk, setCell_only _ hk]
  · exact ((((((Below.refl B w).setCell (p := ⟨g, o, none⟩) hB _).setCell (p := ⟨g, o + 1, none⟩) hB _).setCell (p := ⟨g, o + 2, none⟩) hB _).setCell (p := ⟨g, o + 3, none⟩) hB _).setCell (p := ⟨g, o + 4, none⟩) hB _).setCell (p := ⟨g, o + 5, none⟩) hB _
/-- what set answers -/
def SetLP (base P : Nat) (l : List Ls.Lk) (n : Ls.Lk) (w : World) (en : Ending) (w' : World) : Prop :=
  ∃ (A A1 : Option Addr) (c c1 : Nat) (ev : List Ev), en = .returned (.slice A1 ev.length c1) ∧ ev = (if n ∈ l then [] else [Ls.setE n n.time]) ∧ w'.ownsRow base 57 7 (.slice A1 ev.length c1) ev.length (cl Ev.cells ev) ∧ PS base P A c (Ls.put n l) w' ∧ Below base w w'
theorem PS.ne {base P : Nat} {A : Option Addr} {c : Nat} {l : List Ls.Lk} {w : World} (h : PS base P A c l w) : some P ≠ (Value.slice A l.length c).ownBlock := by
  intro e
  rcases h.own.2 with ⟨h1, _⟩ | ⟨g, cap, cur, hv, _, hg, _⟩
  · rw [h1] at e; cases e
  · rw [hv] at e
    injection e with e
    have := h.b
    rw [e, hg] at this
    injection this with this
    injection this with _ this
    exact absurd this (by decide)
set_option maxHeartbeats 8000000 in
set_option maxRecDepth 100000 in
theorem set_any (base P : Nat) (A : Option Addr) (c : Nat) (l : List Ls.Lk) (u v x y z t : Int) (w : World) (h : PS base P A c l w) (ha : Ls.Asc l) (hl : l.length ≤ 65536) (hbase : base ≤ w.heap.size) :
    Calls Tryz.prog 70 #[.pointer (some ⟨P, 0, none⟩), .agg #[.int .i64 u, .int .i64 v, .int .i64 x, .int .i64 y, .int .i64 z, .int .i64 t]] w (SetLP base P l ⟨u, v, x, y, z, t⟩ w) := by
  have HS := Lib.hid (Ls.put_split ⟨u, v, x, y, z, t⟩ l ha)
  have HM := Lib.hid (Ls.mem_fnd ⟨u, v, x, y, z, t⟩ l ha)
  have HFA := Lib.hid (Ls.fnd_at ⟨u, v, x, y, z, t⟩ l)
  have hpl := Ls.pos_le ⟨u, v, x, y, z, t⟩ l
  obtain ⟨W1, HW1⟩ : ∃ W1, Hid (W1 = w.alloc (.cells #[.int .i64 u, .int .i64 v, .int .i64 x, .int .i64 y, .int .i64 z, .int .i64 t] 62)) := ⟨_, rfl⟩
  obtain ⟨G, HGG⟩ : ∃ G, Hid (G = w.heap.size) := ⟨_, rfl⟩
  have HB1 : Hid (Below w.heap.size w W1) := by show Below _ _ _; rw [HW1.out]; exact below_new _ _
  have hs1 : Hid (W1.heap.size = G + 1) := by show _ = _; rw [HW1.out, HGG.out]; simp
  have H1 := Lib.hid (h.go HB1.out)
  have hPG : P < G := by have := h.lP; have := HGG.out; omega
  have hrl : Hid (∀ k, (Value.slice A l.length c).ownBlock = some k → base ≤ k ∧ k < G) := by rw [HGG.out]; exact h.own.lt
  have q0 := H1.out.c0; have qf := H1.out.f0
  have hPl : P < W1.heap.size := H1.out.lP
  have hGl : G < W1.heap.size := by have := hs1.out; omega
  have hbl : Hid (W1.heap[G]? = some (.cells #[.int .i64 u, .int .i64 v, .int .i64 x, .int .i64 y, .int .i64 z, .int .i64 t] 62)) := by show _ = _; rw [HW1.out, HGG.out]; exact heap_alloc_new _ _
  have hec := Go.Joins.cell_of_block hbl.out
  have e0 := hec 0; have e1 := hec 1; have e2 := hec 2; have e3 := hec 3; have e4 := hec 4; have e5 := hec 5
  simp only [List.getElem?_toArray, List.getElem?_cons_succ, List.getElem?_cons_zero] at e0 e1 e2 e3 e4 e5
  have C45 : Hid (∀ x' : More W1, Calls Tryz.prog 89 #[.slice A l.length c, .agg #[.int .i64 u, .int .i64 v, .int .i64 x, .int .i64 y, .int .i64 z, .int .i64 t]] (over W1 x') fun e w' => e = .returned (.tuple #[.int .i64 (Ls.pos ⟨u, v, x, y, z, t⟩ l), .bool (Ls.fnd ⟨u, v, x, y, z, t⟩ l)]) ∧ Below (over W1 x').heap.size (over W1 x') w') :=
    fun x' => locate_any A c l _ _ _ _ _ _ _ (H1.out.rl.up (over_below _ x')) ha hl
  have CS := Lib.hid (fun w => setOf_any u v x y z t w)
  obtain ⟨p, HP⟩ : ∃ p, Hid (Ls.pos ⟨u, v, x, y, z, t⟩ l = p) := ⟨_, rfl⟩
  obtain ⟨F, HF⟩ : ∃ F, Hid (Ls.fnd ⟨u, v, x, y, z, t⟩ l = F) := ⟨_, rfl⟩
  obtain ⟨n, HN⟩ : ∃ n, Hid (l.length = n) := ⟨_, rfl⟩
  have HPL : Hid (p ≤ l.length) := by show _ ≤ _; rw [← HP.out]; exact hpl
  have HL64 := Lib.hid hl
  simp only [HP.out, HF.out] at C45 HS HM HFA
  rw [HN.out] at C45 q0 hrl
  have HBS : Hid (base ≤ W1.heap.size) := Nat.le_trans hbase HB1.out.size
  have hbase' := Lib.hid hbase
  have hpn : p ≤ n := by rw [← HN.out]; exact HPL.out
  have hn64 : n ≤ 65536 := by rw [← HN.out]; exact hl
  clear h hec hbase hpl hl
  go_enter Tryz.func70, Tryz.ntmps70
  go_wp2
  rw [← HW1.out, ← HGG.out]
  refine wp_region_over (by kernel_rfl) (by kernel_rfl) ?_
  repeat (go_big_quiet_step (first | (go_at_call 89; exact calls_over (C45.out _))))
  refine wpQuiet_nil ?_
  rintro _ ⟨xx, rfl⟩
  have hbx := Lib.hid (over_below _ xx)
  generalize over _ xx = wx at hbx ⊢
  have HX := Lib.hid (H1.out.go hbx.out)
  have HBX : Hid (Below w.heap.size w wx) := HB1.out.trans (hbx.out.mono HB1.out.size)
  have HGx : Hid (wx.heap[G]? = some (.cells #[.int .i64 u, .int .i64 v, .int .i64 x, .int .i64 y, .int .i64 z, .int .i64 t] 62)) := (hbx.out.block G hGl).trans hbl.out
  have hxs : W1.heap.size ≤ wx.heap.size := hbx.out.size
  clear C45 q0 qf e0 e1 e2 e3 e4 e5
  have hxp := HX.out.c0; have hxf := HX.out.f0
  rw [HN.out] at hxp
  cases F with
  | false =>
    have HPx := Lib.hid HX.out.b
    rw [HN.out] at HPx
    have HPl : Hid (P < wx.heap.size) := HX.out.lP
    have HGl : Hid (G < wx.heap.size) := Nat.lt_of_lt_of_le hGl hxs
    have HPR : Hid (some P ≠ (Value.slice A n c).ownBlock) := by rw [← HN.out]; exact HX.out.ne
    have HGR : Hid (some G ≠ (Value.slice A n c).ownBlock) := fun e => by have := hrl.out G e.symm; omega
    have HRL : Hid (∀ k, (Value.slice A n c).ownBlock = some k → k < wx.heap.size) := fun k e => by have := hrl.out k e; omega
    have HJ0 : Hid (∀ a : Act, a.tmps.size = 50 → JIns base n A c l (l.take p ++ ⟨u, v, x, y, z, t⟩ :: l.drop p) false a (wx.drewN 1)) := fun a ha => ⟨ha, fun _ => by rw [← HN.out]; exact HX.out.own, fun h => absurd h (by decide)⟩
    have HM33 : Hid (∀ (q0 : Value) (w5 w6 : World), (∃ vb, q0 = .slice (some ⟨vb, 0, none⟩) 1 1 ∧ wx.heap.size ≤ vb ∧ w5.heap[vb]? = some (.cells #[.int .i64 u, .int .i64 v, .int .i64 x, .int .i64 y, .int .i64 z, .int .i64 t] 62 (0, 0))) → w5.grownBy w6 (Value.slice A n c).ownBlock → (∃ vb, q0 = .slice (some ⟨vb, 0, none⟩) 1 1 ∧ wx.heap.size ≤ vb ∧ w6.heap[vb]? = some (.cells #[.int .i64 u, .int .i64 v, .int .i64 x, .int .i64 y, .int .i64 z, .int .i64 t] 62 (0, 0)))) := by
      rintro q0 w5 w6 ⟨vb, e, h1, h2⟩ hg
      exact ⟨vb, e, h1, (hg.block vb (lt_of_some h2) (fun e => by have := HRL.out vb e.symm; omega)).trans h2⟩
    have hbs : Hid (base ≤ wx.heap.size) := Nat.le_trans HBS.out hxs
    go_wp2
    refine wp_region_ac 11 50 (fun u v => u.grownBy v (Value.slice A n c).ownBlock) (fun f a wr => JIns base n A c l (l.take p ++ ⟨u, v, x, y, z, t⟩ :: l.drop p) (f 8) a wr) [(fun q0 _ => q0 = .pointer (some ⟨P, 0, none⟩)), (fun q0 _ => q0 = .pointer (some ⟨P, 0, none⟩)), (fun q0 _ => q0 = .pointer (some ⟨P, 0, none⟩)), (fun q0 _ => q0 = .pointer (some ⟨P, 0, none⟩)), (fun q0 _ => q0 = .slice A n c), (fun q0 _ => q0 = .int .i64 (p : Nat)), (fun q0 _ => q0 = .agg #[.int .i64 u, .int .i64 v, .int .i64 x, .int .i64 y, .int .i64 z, .int .i64 t]), (fun q0 w5 => ∃ vb, q0 = .slice (some ⟨vb, 0, none⟩) 1 1 ∧ wx.heap.size ≤ vb ∧ w5.heap[vb]? = some (.cells #[.int .i64 u, .int .i64 v, .int .i64 x, .int .i64 y, .int .i64 z, .int .i64 t] 62 (0, 0))), (fun _ _ => True), (fun q0 _ => q0 = .pointer (some ⟨P, 0, none⟩)), (fun q0 _ => q0 = .pointer (some ⟨P, 0, none⟩))] (by kernel_rfl) (by kernel_rfl) rfl (fun _ _ _ => gr_trans) (gr_drewN _ _ _) (HJ0.out _ rfl) ?_ ?_ ?_
    · intro R hR
      simp only [List.mem_cons, List.not_mem_nil, or_false] at hR
      rcases hR with rfl | rfl | rfl | rfl | rfl | rfl | rfl | rfl | rfl | rfl | rfl <;> first | exact fun _ _ _ h _ => h | exact HM33.out
    · simp only [List.take_succ_cons, List.take_zero]
      refine ⟨?_, ?_, ?_, ?_, ?_, ?_, ?_, ?_, ?_, ?_, ?_, trivial⟩
      · intro a ws f hle hjj hfi hun hdn hag hdep K Q hK
        have d0 : (a.tmps[0]?).getD undef = .pointer (some ⟨P, 0, none⟩) := eval_get (hag 0 (freeB_spec (by kernel_rfl)))
        rw [if_pos (show Region.wanted _ _ = true from rfl)]
        unfold Oper.wp
        simp [go_sem, d0]
        exact hK _ _ (gr_refl _ _) (hjj.put (by decide)) rfl
      · intro a ws f hle hjj hfi hun hdn hag hdep K Q hK
        have d0 : (a.tmps[0]?).getD undef = .pointer (some ⟨P, 0, none⟩) := eval_get (hag 0 (freeB_spec (by kernel_rfl)))
        rw [if_pos (show Region.wanted _ _ = true from rfl)]
        unfold Oper.wp
        simp [go_sem, d0]
        exact hK _ _ (gr_refl _ _) (hjj.put (by decide)) rfl
      · intro a ws f hle hjj hfi hun hdn hag hdep K Q hK
        have d27 : (a.tmps[27]?).getD undef = .pointer (some ⟨P, 0, none⟩) := eval_get (dep_of hdep 1 27 rfl (by kernel_rfl) rfl rfl)
        rw [if_pos (show Region.wanted _ _ = true from rfl)]
        unfold Oper.wp
        simp [go_sem, d27]
        exact hK _ _ (gr_refl _ _) (hjj.put (by decide)) rfl
      · intro a ws f hle hjj hfi hun hdn hag hdep K Q hK
        have d28 : (a.tmps[28]?).getD undef = .pointer (some ⟨P, 0, none⟩) := eval_get (dep_of hdep 2 28 rfl (by kernel_rfl) rfl rfl)
        rw [if_pos (show Region.wanted _ _ = true from rfl)]
        unfold Oper.wp
        simp [go_sem, d28]
        exact hK _ _ (gr_refl _ _) (hjj.put (by decide)) rfl
      · intro a ws f hle hjj hfi hun hdn hag hdep K Q hK
        have d29 : (a.tmps[29]?).getD undef = .pointer (some ⟨P, 0, none⟩) := eval_get (dep_of hdep 3 29 rfl (by kernel_rfl) rfl rfl)
        rw [if_pos (show Region.wanted _ _ = true from rfl)]
        have y0 := Go.Joins.cell_of_block ((hle.block P HPl.out HPR.out).trans HPx.out) 0
        unfold Oper.wp
        simp [go_sem, d29, y0]
        exact hK _ _ (gr_refl _ _) (hjj.put (by decide)) rfl
      · intro a ws f hle hjj hfi hun hdn hag hdep K Q hK
        have d5 : (a.tmps[5]?).getD undef = .int .i64 (p : Nat) := eval_get (hag 5 (freeB_spec (by kernel_rfl)))
        rw [if_pos (show Region.wanted _ _ = true from rfl)]
        unfold Oper.wp
        simp [go_sem, d5]
        exact hK _ _ (gr_refl _ _) (hjj.put (by decide)) rfl
      · intro a ws f hle hjj hfi hun hdn hag hdep K Q hK
        have d3 : (a.tmps[3]?).getD undef = .pointer (some ⟨G, 0, none⟩) := eval_get (hag 3 (freeB_spec (by kernel_rfl)))
        rw [if_pos (show Region.wanted _ _ = true from rfl)]
        have yy := Go.Joins.cell_of_block ((hle.block G HGl.out HGR.out).trans HGx.out)
        have y0 := yy 0; have y1 := yy 1; have y2 := yy 2; have y3 := yy 3; have y4 := yy 4; have y5 := yy 5
        simp only [List.getElem?_toArray, List.getElem?_cons_succ, List.getElem?_cons_zero] at y0 y1 y2 y3 y4 y5
        clear yy
        unfold Oper.wp
        simp [go_sem, d3, y0, y1, y2, y3, y4, y5]
        exact hK _ _ (gr_refl _ _) (hjj.put (by decide)) rfl
      · intro a ws f hle hjj hfi hun hdn hag hdep K Q hK
        have d32 : (a.tmps[32]?).getD undef = .agg #[.int .i64 u, .int .i64 v, .int .i64 x, .int .i64 y, .int .i64 z, .int .i64 t] := eval_get (dep_of hdep 6 32 rfl (by kernel_rfl) rfl rfl)
        rw [if_pos (show Region.wanted _ _ = true from rfl)]
        have hsz := hle.size
        unfold Oper.wp
        simp [go_sem, d32]
        exact hK _ _ (gr_alloc _ _ _) ((hjj.alloc _).put (by decide)) ⟨_, rfl, hsz, heap_alloc_new _ _⟩
      · intro a ws f hle hjj hfi hun hdn hag hdep K Q hK
        have d30 : (a.tmps[30]?).getD undef = .slice A n c := eval_get (dep_of hdep 4 30 rfl (by kernel_rfl) rfl rfl)
        have d31 : (a.tmps[31]?).getD undef = .int .i64 (p : Nat) := eval_get (dep_of hdep 5 31 rfl (by kernel_rfl) rfl rfl)
        have d33 : (fun q0 w5 => ∃ vb, q0 = .slice (some ⟨vb, 0, none⟩) 1 1 ∧ wx.heap.size ≤ vb ∧ w5.heap[vb]? = some (.cells #[.int .i64 u, .int .i64 v, .int .i64 x, .int .i64 y, .int .i64 z, .int .i64 t] 62 (0, 0))) (a.eval (.tmp 33)) ws := dep_of hdep 7 33 rfl (by kernel_rfl) rfl rfl
        rw [if_pos (show Region.wanted _ _ = true from rfl)]
        obtain ⟨vb, d33, hvb1, hvb2⟩ := d33
        have d33 := eval_get d33
        have hun' : f 8 = false := hfi
        have hcon := insert_any base A c l p ⟨u, v, x, y, z, t⟩ vb ws (by rw [HN.out]; exact hjj.own hun') HPL.out hvb2 (fun e => by have := HRL.out vb (by rw [HN.out] at e; exact e); omega) HL64.out (Nat.le_trans hbs.out hle.size)
        rw [HN.out] at hcon
        unfold Oper.wp
        simp [go_sem, d30, d31, d33]
        refine hcon.mono ?_
        rintro e w9 ⟨A9, c9, rfl, ho9, hg9⟩
        exact hK _ _ hg9 (hjj.done ho9) trivial
      · intro a ws f hle hjj hfi hun hdn hag hdep K Q hK
        have d26 : (a.tmps[26]?).getD undef = .pointer (some ⟨P, 0, none⟩) := eval_get (dep_of hdep 0 26 rfl (by kernel_rfl) rfl rfl)
        rw [if_pos (show Region.wanted _ _ = true from rfl)]
        unfold Oper.wp
        simp [go_sem, d26]
        exact hK _ _ (gr_refl _ _) (hjj.put (by decide)) rfl
      · intro a ws f hle hjj hfi hun hdn hag hdep K Q hK
        have d35 : (a.tmps[35]?).getD undef = .pointer (some ⟨P, 0, none⟩) := eval_get (dep_of hdep 9 35 rfl (by kernel_rfl) rfl rfl)
        rw [if_pos (show Region.wanted _ _ = true from rfl)]
        unfold Oper.wp
        simp [go_sem, d35]
        exact hK _ _ (gr_refl _ _) (hjj.put (by decide)) rfl
    · intro a ws f hle hjj hft hff hsz hdf hag hend
      have f26 : a.eval (.tmp 26) = .pointer (some ⟨P, 0, none⟩) := end_of hend 0 26 (by decide) rfl rfl rfl
      have f27 : a.eval (.tmp 27) = .pointer (some ⟨P, 0, none⟩) := end_of hend 1 27 (by decide) rfl rfl rfl
      have f28 : a.eval (.tmp 28) = .pointer (some ⟨P, 0, none⟩) := end_of hend 2 28 (by decide) rfl rfl rfl
      have f29 : a.eval (.tmp 29) = .pointer (some ⟨P, 0, none⟩) := end_of hend 3 29 (by decide) rfl rfl rfl
      have f30 : a.eval (.tmp 30) = .slice A n c := end_of hend 4 30 (by decide) rfl rfl rfl
      have f31 : a.eval (.tmp 31) = .int .i64 (p : Nat) := end_of hend 5 31 (by decide) rfl rfl rfl
      have f32 : a.eval (.tmp 32) = .agg #[.int .i64 u, .int .i64 v, .int .i64 x, .int .i64 y, .int .i64 z, .int .i64 t] := end_of hend 6 32 (by decide) rfl rfl rfl
      have f33 : (fun q0 w5 => ∃ vb, q0 = .slice (some ⟨vb, 0, none⟩) 1 1 ∧ wx.heap.size ≤ vb ∧ w5.heap[vb]? = some (.cells #[.int .i64 u, .int .i64 v, .int .i64 x, .int .i64 y, .int .i64 z, .int .i64 t] 62 (0, 0))) (a.eval (.tmp 33)) ws := end_of hend 7 33 (by decide) rfl rfl rfl
      have f34 : (fun _ _ => True) (a.eval (.tmp 34)) ws := end_of hend 8 34 (by decide) rfl rfl rfl
      have f35 : a.eval (.tmp 35) = .pointer (some ⟨P, 0, none⟩) := end_of hend 9 35 (by decide) rfl rfl rfl
      have f36 : a.eval (.tmp 36) = .pointer (some ⟨P, 0, none⟩) := end_of hend 10 36 (by decide) rfl rfl rfl
      have ea := act_block 26 11 hsz hdf hag [26, 27, 28, 29, 30, 31, 32, 33, 34, 35, 36] (by kernel_rfl) (by kernel_rfl) (of_decide_eq_true (by kernel_rfl))
      clear hag hend hsz hdf
      obtain ⟨A', c', e34, ho⟩ := hjj.new (hft 8 (by decide))
      simp only [List.map_cons, List.map_nil, f26, f27, f28, f29, f30, f31, f32, f35, f36] at ea
      clear f26 f27 f28 f29 f30 f31 f32 f35 f36
      generalize a.eval (.tmp 33) = x33 at ea f33
      generalize a.eval (.tmp 34) = x34 at ea f34
      simp only [List.take_succ_cons, List.take_zero, List.drop_succ_cons, List.drop_zero, List.cons_append, List.nil_append] at ea
      subst ea
      have hPb := (hle.block P HPl.out HPR.out).trans HPx.out
      have hp0 := Go.Joins.cell_of_block hPb 0
      have hpf := Go.Joins.unfrozen_of_block hPb 0
      simp only [List.getElem?_toArray, List.getElem?_cons_zero] at hp0
      have HGb := Lib.hid ((hle.block G HGl.out HGR.out).trans HGx.out)
      have hGs := lt_of_some HGb.out
      have HGr := Lib.hid hle
      have HO2 := Lib.hid ho
      have HPb := Lib.hid hPb
      have hPs := lt_of_some hPb
      clear hjj hft hff hle ho hPb HJ0 HM33
      replace e34 : x34 = .slice A' (l.take p ++ ⟨u, v, x, y, z, t⟩ :: l.drop p).length c' := e34
      subst e34
      obtain ⟨n2, HN2⟩ : ∃ n2, Hid ((l.take p ++ ⟨u, v, x, y, z, t⟩ :: l.drop p).length = n2) := ⟨_, rfl⟩
      rw [HN2.out]
      have HGx2 := Go.Joins.cell_of_block HGb.out
      have g0 := HGx2 0; have g1 := HGx2 1; have g2 := HGx2 2; have g3 := HGx2 3; have g4 := HGx2 4; have g5 := HGx2 5
      simp only [List.getElem?_toArray, List.getElem?_cons_succ, List.getElem?_cons_zero] at g0 g1 g2 g3 g4 g5
      clear HGx2
      have hne : ¬ G = P := by omega
      have hPS : Hid (PS base P A' c' (Ls.put ⟨u, v, x, y, z, t⟩ l) (ws.setCell ⟨P, 0, none⟩ (.slice A' n2 c'))) := by
        have hput : Ls.put ⟨u, v, x, y, z, t⟩ l = l.take p ++ ⟨u, v, x, y, z, t⟩ :: l.drop p := by rw [HS.out, if_neg (by decide)]
        have hnb : (Value.slice A' (l.take p ++ ⟨u, v, x, y, z, t⟩ :: l.drop p).length c').ownBlock ≠ some P := by
          intro e
          rcases HO2.out.2 with ⟨h1, _⟩ | ⟨g, cap, cur, hv, _, hg, _⟩
          · rw [h1] at e; cases e
          · rw [hv] at e
            injection e with e
            have h9 := HPb.out
            rw [← e, hg] at h9
            injection h9 with h9
            injection h9 with _ h9
            exact absurd h9 (by decide)
        show PS _ _ _ _ _ _
        rw [hput]
        refine ⟨?_, HO2.out.kept set_grown (.inr hnb), HX.out.hP⟩
        rw [HN2.out]
        exact setCell_cells HPb.out 0 _
      have hB3 : Hid (Below base w (ws.setCell ⟨P, 0, none⟩ (.slice A' n2 c'))) :=
        ((below_le HBX.out hbase'.out).trans (gr_below HGr.out (fun k e => (hrl.out k e).1) hbs.out)).setCell (p := ⟨P, 0, none⟩) HX.out.hP _
      have hs3 : (ws.setCell ⟨P, 0, none⟩ (.slice A' n2 c')).heap.size = ws.heap.size := by simp [World.setCell]
      go_wp2_with fail
      refine (CS.out _).mono ?_
      rintro e w4 ⟨rfl, hb4⟩
      have hPS4 := Lib.hid (hPS.out.go hb4)
      have hB4 := Lib.hid (hB3.out.trans (hb4.mono (Nat.le_trans hbs.out (by rw [hs3]; exact HGr.out.size))))
      clear hb4 CS
      have HNM : Hid ((if (⟨u, v, x, y, z, t⟩ : Ls.Lk) ∈ l then [] else [Ls.setE ⟨u, v, x, y, z, t⟩ t]) = [Ls.setE ⟨u, v, x, y, z, t⟩ t]) := by
        show _ = _
        rw [if_neg]
        rw [HM.out]
        intro h0
        exact absurd h0.1 (by decide)
      go_wp2
      go_ret
      refine ⟨A', some ⟨w4.heap.size, 0, none⟩, c', 1, [Ls.setE ⟨u, v, x, y, z, t⟩ t], rfl, HNM.out.symm, own_new1 w4 ⟨1, t, u, v, x, y, z⟩ (Nat.le_trans hbase'.out hB4.out.size), hPS4.out.go (below_new _ _), hB4.out.alloc (Nat.le_trans hbase'.out hB4.out.size) _⟩
  | true =>
    obtain ⟨⟨u1, v1, x1, y1, z1, t1⟩, ha1, ha2, ha3⟩ := HFA.out rfl
    have hpl' : p < n := by rw [← HN.out]; exact ha3
    have hA1 := Lib.hid ha1
    obtain ⟨g, rfl, hG0⟩ := HX.out.g (by omega)
    have HG0 := Lib.hid hG0
    obtain ⟨bb, off, ⟨u2, v2, x2, y2, z2, t2⟩, ead, hb, hx, c0, c1, c2, c3, c4, c5⟩ := RL.at_ (k := p) HX.out.rl (by rw [HN.out]; exact hpl')
    rw [ha1] at hx
    injection hx with hx
    injection hx with i1 i2 i3 i4 i5 i6
    subst i1; subst i2; subst i3; subst i4; subst i5; subst i6
    injection ead with ead
    injection ead with ee1 ee2
    subst ee1; subst ee2
    dsimp only at c0 c1 c2 c3 c4 c5
    simp only [Nat.zero_add] at c0 c1 c2 c3 c4 c5
    have HGx2 := Go.Joins.cell_of_block ((hbx.out.block G hGl).trans hbl.out)
    have g0 := HGx2 0; have g1 := HGx2 1; have g2 := HGx2 2; have g3 := HGx2 3; have g4 := HGx2 4; have g5 := HGx2 5
    simp only [List.getElem?_toArray, List.getElem?_cons_succ, List.getElem?_cons_zero] at g0 g1 g2 g3 g4 g5
    have hPlx : P < wx.heap.size := HX.out.lP
    have hGlx : G < wx.heap.size := Nat.lt_of_lt_of_le hGl hxs
    have hpn2 : decide (p < n) = true := by simpa using hpl'
    clear HGx2 ha1 ha3 hG0
    simp [Ls.same] at ha2
    obtain ⟨ha4, ha5⟩ := ha2
    subst ha4; subst ha5
    by_cases heq : x1 = x ∧ y1 = y ∧ z1 = z ∧ t1 = t
    · obtain ⟨h1, h2, h3, h4⟩ := heq
      subst h1; subst h2; subst h3; subst h4
      have HNM : Hid ((if (⟨u1, v1, x1, y1, z1, t1⟩ : Ls.Lk) ∈ l then [] else [Ls.setE ⟨u1, v1, x1, y1, z1, t1⟩ t1]) = []) := by
        show _ = _
        rw [if_pos]
        rw [HM.out]
        exact ⟨rfl, hA1.out⟩
      have hput : Hid (Ls.put ⟨u1, v1, x1, y1, z1, t1⟩ l = l) := by
        show _ = _
        rw [HS.out, if_pos rfl]
        exact List.ext_getElem? fun j => by
          by_cases hj : j = p
          · subst hj; rw [List.getElem?_set_self (by rw [HN.out]; exact hpl'), hA1.out]
          · rw [List.getElem?_set_ne (Ne.symm hj)]
      go_wp2
      go_quiet (fail)
      go_wp2
      go_ret
      refine ⟨some ⟨g, 0, none⟩, none, c, 0, [], rfl, HNM.out.symm, World.ownsRow_nil _ _ _ _, by rw [hput.out]; exact HX.out.go (below_drewN wx nq), (below_le HBX.out hbase'.out).trans ((below_drewN wx nq).mono (Nat.le_trans HBS.out hxs))⟩
    · have HNM : Hid ((if (⟨u1, v1, x, y, z, t⟩ : Ls.Lk) ∈ l then [] else [Ls.setE ⟨u1, v1, x, y, z, t⟩ t]) = [Ls.setE ⟨u1, v1, x, y, z, t⟩ t]) := by
        show _ = _
        rw [if_neg]
        rw [HM.out]
        rintro ⟨_, h0⟩
        rw [hA1.out] at h0
        injection h0 with h0
        injection h0 with _ _ k3 k4 k5 k6
        exact heq ⟨k3, k4, k5, k6⟩
      have hput : Hid (Ls.put ⟨u1, v1, x, y, z, t⟩ l = l.set p ⟨u1, v1, x, y, z, t⟩) := by
        show _ = _
        rw [HS.out, if_pos rfl]
      have CS' := CS
      have hbx' := Lib.hid hxs
      have hown := Lib.hid (link_set HG0.out.own p (by rw [HN.out]; exact hpl') ⟨u1, v1, x, y, z, t⟩)
      have hbg := Lib.hid HG0.out.hg
      have hgl := HG0.out.lg
      have hPg : P ≠ g := HG0.out.ne
      have hGg : G ≠ g := by have := hrl.out g rfl; omega
      rcases (by omega : x1 ≠ x ∨ (x1 = x ∧ y1 ≠ y) ∨ (x1 = x ∧ y1 = y ∧ z1 ≠ z) ∨ (x1 = x ∧ y1 = y ∧ z1 = z ∧ t1 ≠ t)) with h1 | ⟨h1, h2⟩ | ⟨h1, h2, h3⟩ | ⟨h1, h2, h3, h4⟩
      · have d1 : (x1 == x) = false := by simpa using h1
        have d2 : (x1 != x) = true := by simpa using h1
        clear h1 heq
        go_wp2
        go_quiet (fail)
        go_wp2
        have hwd0 := below_drewN wx nq
        generalize wx.drewN nq = wd at hwd0 ⊢
        have hwd := Lib.hid hwd0
        have hxp2 := (bcellE hwd0 P 0 hPlx).trans hxp
        have m0 := (bcellE hwd0 G _ hGlx).trans g0; have m1 := (bcellE hwd0 G _ hGlx).trans g1; have m2 := (bcellE hwd0 G _ hGlx).trans g2; have m3 := (bcellE hwd0 G _ hGlx).trans g3; have m4 := (bcellE hwd0 G _ hGlx).trans g4; have m5 := (bcellE hwd0 G _ hGlx).trans g5
        have hPly : P < wd.heap.size := Nat.lt_of_lt_of_le hPlx hwd0.size
        have hGly : G < wd.heap.size := Nat.lt_of_lt_of_le hGlx hwd0.size
        clear hwd0
        refine wp_region_over_tail 7 (by kernel_rfl) (by kernel_rfl) ?_
        simp only [List.take_succ_cons, List.take_zero, List.drop_succ_cons, List.drop_zero]
        repeat (go_big_quiet_step (fail))
        refine wpQuiet_nil ?_
        rintro _ ⟨yy, rfl⟩
        have hby0 := over_below _ yy
        have hby := Lib.hid (show Below wx.heap.size wx _ from hwd.out.trans (hby0.mono hwd.out.size))
        clear hby0
        generalize over _ yy = wy at hby ⊢
        obtain ⟨g9, cur, cur', e9, hcg, hcs, hct, hce⟩ := hown.out
        injection e9 with e9
        injection e9 with e9 _
        subst e9
        have hcy := (hby.out.block g hgl).trans hcg
        have hcc := Go.Joins.cell_of_block hcy
        have hcf := Go.Joins.unfrozen_of_block hcy
        have hPy := (hby.out.block P hPlx).trans HX.out.b
        have hGy := (hby.out.block G hGlx).trans ((hbx.out.block G hGl).trans hbl.out)
        have k0 := (bcellE hby.out g _ hgl).trans c0; have k1 := (bcellE hby.out g _ hgl).trans c1; have k2 := (bcellE hby.out g _ hgl).trans c2; have k3 := (bcellE hby.out g _ hgl).trans c3; have k4 := (bcellE hby.out g _ hgl).trans c4; have k5 := (bcellE hby.out g _ hgl).trans c5
        have b0 := hcf (p * 6); have b1 := hcf (p * 6 + 1); have b2 := hcf (p * 6 + 2); have b3 := hcf (p * 6 + 3); have b4 := hcf (p * 6 + 4); have b5 := hcf (p * 6 + 5)
        have j0 := (bcellE hby.out G _ hGlx).trans g0; have j1 := (bcellE hby.out G _ hGlx).trans g1; have j2 := (bcellE hby.out G _ hGlx).trans g2; have j3 := (bcellE hby.out G _ hGlx).trans g3; have j4 := (bcellE hby.out G _ hGlx).trans g4; have j5 := (bcellE hby.out G _ hGlx).trans g5
        have HPY := Lib.hid hPy
        have HGY := Lib.hid hGy
        have HCY := Lib.hid hcy
        have HCS := Lib.hid hcs
        have HCT := Lib.hid hct
        have HCE := Lib.hid hce
        clear hcc hcf c0 c1 c2 c3 c4 c5 g0 g1 g2 g3 g4 g5 m0 m1 m2 m3 m4 m5 hxp hxf hxp2 hPy hGy hcy hcs hct hce hcg
        have hGg' : ¬ G = g := hGg
        have hgG' : ¬ g = G := Ne.symm hGg
        clear hxs hPG hrl hbx HX HGG HW1 hs1 hbl H1 hPl hGl
        go_wp2_with fail
        generalize hW6 : ((((((wy.setCell _ _).setCell _ _).setCell _ _).setCell _ _).setCell _ _).setCell _ _) = W6
        obtain ⟨hw1, hw2, hw3⟩ := set_six HCY.out _ _ _ _ _ _ _ W6 hW6
        rw [← HCE.out] at hw1
        have HPS : Hid (PS base P (some ⟨g, 0, none⟩) c (Ls.put ⟨u1, v1, x, y, z, t⟩ l) W6) := by
          show PS _ _ _ _ _ _
          rw [hput.out]
          refine ⟨?_, ⟨cl_len encL _, .inr ⟨g, c, cur', by rw [List.length_set], hbg.out, hw1, by rw [List.length_set]; exact HG0.out.le, HG0.out.cm, HCS.out, by rw [List.length_set]; exact HCT.out⟩⟩, HG0.out.hP⟩
          rw [List.length_set]
          exact (hw2 P hPg).trans HPY.out
        have hB6 : Hid (Below base w W6) := ((below_le HBX.out hbase'.out).trans (hby.out.mono (Nat.le_trans HBS.out hbx'.out))).trans (hw3 base hbg.out)
        clear hw1 hw2 hw3 hW6
        refine (CS'.out _).mono ?_
        rintro e w4 ⟨rfl, hb4⟩
        have hPS4 := Lib.hid (HPS.out.go hb4)
        have hB4 := Lib.hid (hB6.out.trans (hb4.mono (Nat.le_trans hbase'.out hB6.out.size)))
        clear hb4
        go_wp2
        go_ret
        exact ⟨some ⟨g, 0, none⟩, some ⟨w4.heap.size, 0, none⟩, c, 1, _, rfl, HNM.out.symm, own_new1 w4 ⟨1, _, _, _, _, _, _⟩ (Nat.le_trans hbase'.out hB4.out.size), hPS4.out.go (below_new _ _), hB4.out.alloc (Nat.le_trans hbase'.out hB4.out.size) _⟩
      · have d1 : (y1 == y) = false := by simpa using h2
        have d2 : (y1 != y) = true := by simpa using h2
        subst h1
        clear h2 heq
        go_wp2
        go_quiet (fail)
        go_wp2
        have hwd0 := below_drewN wx nq
        generalize wx.drewN nq = wd at hwd0 ⊢
        have hwd := Lib.hid hwd0
        have hxp2 := (bcellE hwd0 P 0 hPlx).trans hxp
        have m0 := (bcellE hwd0 G _ hGlx).trans g0; have m1 := (bcellE hwd0 G _ hGlx).trans g1; have m2 := (bcellE hwd0 G _ hGlx).trans g2; have m3 := (bcellE hwd0 G _ hGlx).trans g3; have m4 := (bcellE hwd0 G _ hGlx).trans g4; have m5 := (bcellE hwd0 G _ hGlx).trans g5
        have hPly : P < wd.heap.size := Nat.lt_of_lt_of_le hPlx hwd0.size
        have hGly : G < wd.heap.size := Nat.lt_of_lt_of_le hGlx hwd0.size
        clear hwd0
        refine wp_region_over_tail 7 (by kernel_rfl) (by kernel_rfl) ?_
        simp only [List.take_succ_cons, List.take_zero, List.drop_succ_cons, List.drop_zero]
        repeat (go_big_quiet_step (fail))
        refine wpQuiet_nil ?_
        rintro _ ⟨yy, rfl⟩
        have hby0 := over_below _ yy
        have hby := Lib.hid (show Below wx.heap.size wx _ from hwd.out.trans (hby0.mono hwd.out.size))
        clear hby0
        generalize over _ yy = wy at hby ⊢
        obtain ⟨g9, cur, cur', e9, hcg, hcs, hct, hce⟩ := hown.out
        injection e9 with e9
        injection e9 with e9 _
        subst e9
        have hcy := (hby.out.block g hgl).trans hcg
        have hcc := Go.Joins.cell_of_block hcy
        have hcf := Go.Joins.unfrozen_of_block hcy
        have hPy := (hby.out.block P hPlx).trans HX.out.b
        have hGy := (hby.out.block G hGlx).trans ((hbx.out.block G hGl).trans hbl.out)
        have k0 := (bcellE hby.out g _ hgl).trans c0; have k1 := (bcellE hby.out g _ hgl).trans c1; have k2 := (bcellE hby.out g _ hgl).trans c2; have k3 := (bcellE hby.out g _ hgl).trans c3; have k4 := (bcellE hby.out g _ hgl).trans c4; have k5 := (bcellE hby.out g _ hgl).trans c5
        have b0 := hcf (p * 6); have b1 := hcf (p * 6 + 1); have b2 := hcf (p * 6 + 2); have b3 := hcf (p * 6 + 3); have b4 := hcf (p * 6 + 4); have b5 := hcf (p * 6 + 5)
        have j0 := (bcellE hby.out G _ hGlx).trans g0; have j1 := (bcellE hby.out G _ hGlx).trans g1; have j2 := (bcellE hby.out G _ hGlx).trans g2; have j3 := (bcellE hby.out G _ hGlx).trans g3; have j4 := (bcellE hby.out G _ hGlx).trans g4; have j5 := (bcellE hby.out G _ hGlx).trans g5
        have HPY := Lib.hid hPy
        have HGY := Lib.hid hGy
        have HCY := Lib.hid hcy
        have HCS := Lib.hid hcs
        have HCT := Lib.hid hct
        have HCE := Lib.hid hce
        clear hcc hcf c0 c1 c2 c3 c4 c5 g0 g1 g2 g3 g4 g5 m0 m1 m2 m3 m4 m5 hxp hxf hxp2 hPy hGy hcy hcs hct hce hcg
        have hGg' : ¬ G = g := hGg
        have hgG' : ¬ g = G := Ne.symm hGg
        clear hxs hPG hrl hbx HX HGG HW1 hs1 hbl H1 hPl hGl
        go_wp2_with fail
        generalize hW6 : ((((((wy.setCell _ _).setCell _ _).setCell _ _).setCell _ _).setCell _ _).setCell _ _) = W6
        obtain ⟨hw1, hw2, hw3⟩ := set_six HCY.out _ _ _ _ _ _ _ W6 hW6
        rw [← HCE.out] at hw1
        have HPS : Hid (PS base P (some ⟨g, 0, none⟩) c (Ls.put ⟨u1, v1, x1, y, z, t⟩ l) W6) := by
          show PS _ _ _ _ _ _
          rw [hput.out]
          refine ⟨?_, ⟨cl_len encL _, .inr ⟨g, c, cur', by rw [List.length_set], hbg.out, hw1, by rw [List.length_set]; exact HG0.out.le, HG0.out.cm, HCS.out, by rw [List.length_set]; exact HCT.out⟩⟩, HG0.out.hP⟩
          rw [List.length_set]
          exact (hw2 P hPg).trans HPY.out
        have hB6 : Hid (Below base w W6) := ((below_le HBX.out hbase'.out).trans (hby.out.mono (Nat.le_trans HBS.out hbx'.out))).trans (hw3 base hbg.out)
        clear hw1 hw2 hw3 hW6
        refine (CS'.out _).mono ?_
        rintro e w4 ⟨rfl, hb4⟩
        have hPS4 := Lib.hid (HPS.out.go hb4)
        have hB4 := Lib.hid (hB6.out.trans (hb4.mono (Nat.le_trans hbase'.out hB6.out.size)))
        clear hb4
        go_wp2
        go_ret
        exact ⟨some ⟨g, 0, none⟩, some ⟨w4.heap.size, 0, none⟩, c, 1, _, rfl, HNM.out.symm, own_new1 w4 ⟨1, _, _, _, _, _, _⟩ (Nat.le_trans hbase'.out hB4.out.size), hPS4.out.go (below_new _ _), hB4.out.alloc (Nat.le_trans hbase'.out hB4.out.size) _⟩
      · have d1 : (z1 == z) = false := by simpa using h3
        have d2 : (z1 != z) = true := by simpa using h3
        subst h1; subst h2
        clear h3 heq
        go_wp2
        go_quiet (fail)
        go_wp2
        have hwd0 := below_drewN wx nq
        generalize wx.drewN nq = wd at hwd0 ⊢
        have hwd := Lib.hid hwd0
        have hxp2 := (bcellE hwd0 P 0 hPlx).trans hxp
        have m0 := (bcellE hwd0 G _ hGlx).trans g0; have m1 := (bcellE hwd0 G _ hGlx).trans g1; have m2 := (bcellE hwd0 G _ hGlx).trans g2; have m3 := (bcellE hwd0 G _ hGlx).trans g3; have m4 := (bcellE hwd0 G _ hGlx).trans g4; have m5 := (bcellE hwd0 G _ hGlx).trans g5
        have hPly : P < wd.heap.size := Nat.lt_of_lt_of_le hPlx hwd0.size
        have hGly : G < wd.heap.size := Nat.lt_of_lt_of_le hGlx hwd0.size
        clear hwd0
        refine wp_region_over_tail 7 (by kernel_rfl) (by kernel_rfl) ?_
        simp only [List.take_succ_cons, List.take_zero, List.drop_succ_cons, List.drop_zero]
        repeat (go_big_quiet_step (fail))
        refine wpQuiet_nil ?_
        rintro _ ⟨yy, rfl⟩
        have hby0 := over_below _ yy
        have hby := Lib.hid (show Below wx.heap.size wx _ from hwd.out.trans (hby0.mono hwd.out.size))
        clear hby0
        generalize over _ yy = wy at hby ⊢
        obtain ⟨g9, cur, cur', e9, hcg, hcs, hct, hce⟩ := hown.out
        injection e9 with e9
        injection e9 with e9 _
        subst e9
        have hcy := (hby.out.block g hgl).trans hcg
        have hcc := Go.Joins.cell_of_block hcy
        have hcf := Go.Joins.unfrozen_of_block hcy
        have hPy := (hby.out.block P hPlx).trans HX.out.b
        have hGy := (hby.out.block G hGlx).trans ((hbx.out.block G hGl).trans hbl.out)
        have k0 := (bcellE hby.out g _ hgl).trans c0; have k1 := (bcellE hby.out g _ hgl).trans c1; have k2 := (bcellE hby.out g _ hgl).trans c2; have k3 := (bcellE hby.out g _ hgl).trans c3; have k4 := (bcellE hby.out g _ hgl).trans c4; have k5 := (bcellE hby.out g _ hgl).trans c5
        have b0 := hcf (p * 6); have b1 := hcf (p * 6 + 1); have b2 := hcf (p * 6 + 2); have b3 := hcf (p * 6 + 3); have b4 := hcf (p * 6 + 4); have b5 := hcf (p * 6 + 5)
        have j0 := (bcellE hby.out G _ hGlx).trans g0; have j1 := (bcellE hby.out G _ hGlx).trans g1; have j2 := (bcellE hby.out G _ hGlx).trans g2; have j3 := (bcellE hby.out G _ hGlx).trans g3; have j4 := (bcellE hby.out G _ hGlx).trans g4; have j5 := (bcellE hby.out G _ hGlx).trans g5
        have HPY := Lib.hid hPy
        have HGY := Lib.hid hGy
        have HCY := Lib.hid hcy
        have HCS := Lib.hid hcs
        have HCT := Lib.hid hct
        have HCE := Lib.hid hce
        clear hcc hcf c0 c1 c2 c3 c4 c5 g0 g1 g2 g3 g4 g5 m0 m1 m2 m3 m4 m5 hxp hxf hxp2 hPy hGy hcy hcs hct hce hcg
        have hGg' : ¬ G = g := hGg
        have hgG' : ¬ g = G := Ne.symm hGg
        clear hxs hPG hrl hbx HX HGG HW1 hs1 hbl H1 hPl hGl
        go_wp2_with fail
        generalize hW6 : ((((((wy.setCell _ _).setCell _ _).setCell _ _).setCell _ _).setCell _ _).setCell _ _) = W6
        obtain ⟨hw1, hw2, hw3⟩ := set_six HCY.out _ _ _ _ _ _ _ W6 hW6
        rw [← HCE.out] at hw1
        have HPS : Hid (PS base P (some ⟨g, 0, none⟩) c (Ls.put ⟨u1, v1, x1, y1, z, t⟩ l) W6) := by
          show PS _ _ _ _ _ _
          rw [hput.out]
          refine ⟨?_, ⟨cl_len encL _, .inr ⟨g, c, cur', by rw [List.length_set], hbg.out, hw1, by rw [List.length_set]; exact HG0.out.le, HG0.out.cm, HCS.out, by rw [List.length_set]; exact HCT.out⟩⟩, HG0.out.hP⟩
          rw [List.length_set]
          exact (hw2 P hPg).trans HPY.out
        have hB6 : Hid (Below base w W6) := ((below_le HBX.out hbase'.out).trans (hby.out.mono (Nat.le_trans HBS.out hbx'.out))).trans (hw3 base hbg.out)
        clear hw1 hw2 hw3 hW6
        refine (CS'.out _).mono ?_
        rintro e w4 ⟨rfl, hb4⟩
        have hPS4 := Lib.hid (HPS.out.go hb4)
        have hB4 := Lib.hid (hB6.out.trans (hb4.mono (Nat.le_trans hbase'.out hB6.out.size)))
        clear hb4
        go_wp2
        go_ret
        exact ⟨some ⟨g, 0, none⟩, some ⟨w4.heap.size, 0, none⟩, c, 1, _, rfl, HNM.out.symm, own_new1 w4 ⟨1, _, _, _, _, _, _⟩ (Nat.le_trans hbase'.out hB4.out.size), hPS4.out.go (below_new _ _), hB4.out.alloc (Nat.le_trans hbase'.out hB4.out.size) _⟩
      · have d1 : (t1 == t) = false := by simpa using h4
        have d2 : (t1 != t) = true := by simpa using h4
        subst h1; subst h2; subst h3
        clear h4 heq
        go_wp2
        go_quiet (fail)
        go_wp2
        have hwd0 := below_drewN wx nq
        generalize wx.drewN nq = wd at hwd0 ⊢
        have hwd := Lib.hid hwd0
        have hxp2 := (bcellE hwd0 P 0 hPlx).trans hxp
        have m0 := (bcellE hwd0 G _ hGlx).trans g0; have m1 := (bcellE hwd0 G _ hGlx).trans g1; have m2 := (bcellE hwd0 G _ hGlx).trans g2; have m3 := (bcellE hwd0 G _ hGlx).trans g3; have m4 := (bcellE hwd0 G _ hGlx).trans g4; have m5 := (bcellE hwd0 G _ hGlx).trans g5
        have hPly : P < wd.heap.size := Nat.lt_of_lt_of_le hPlx hwd0.size
        have hGly : G < wd.heap.size := Nat.lt_of_lt_of_le hGlx hwd0.size
        clear hwd0
        refine wp_region_over_tail 7 (by kernel_rfl) (by kernel_rfl) ?_
        simp only [List.take_succ_cons, List.take_zero, List.drop_succ_cons, List.drop_zero]
        repeat (go_big_quiet_step (fail))
        refine wpQuiet_nil ?_
        rintro _ ⟨yy, rfl⟩
        have hby0 := over_below _ yy
        have hby := Lib.hid (show Below wx.heap.size wx _ from hwd.out.trans (hby0.mono hwd.out.size))
        clear hby0
        generalize over _ yy = wy at hby ⊢
        obtain ⟨g9, cur, cur', e9, hcg, hcs, hct, hce⟩ := hown.out
        injection e9 with e9
        injection e9 with e9 _
        subst e9
        have hcy := (hby.out.block g hgl).trans hcg
        have hcc := Go.Joins.cell_of_block hcy
        have hcf := Go.Joins.unfrozen_of_block hcy
        have hPy := (hby.out.block P hPlx).trans HX.out.b
        have hGy := (hby.out.block G hGlx).trans ((hbx.out.block G hGl).trans hbl.out)
        have k0 := (bcellE hby.out g _ hgl).trans c0; have k1 := (bcellE hby.out g _ hgl).trans c1; have k2 := (bcellE hby.out g _ hgl).trans c2; have k3 := (bcellE hby.out g _ hgl).trans c3; have k4 := (bcellE hby.out g _ hgl).trans c4; have k5 := (bcellE hby.out g _ hgl).trans c5
        have b0 := hcf (p * 6); have b1 := hcf (p * 6 + 1); have b2 := hcf (p * 6 + 2); have b3 := hcf (p * 6 + 3); have b4 := hcf (p * 6 + 4); have b5 := hcf (p * 6 + 5)
        have j0 := (bcellE hby.out G _ hGlx).trans g0; have j1 := (bcellE hby.out G _ hGlx).trans g1; have j2 := (bcellE hby.out G _ hGlx).trans g2; have j3 := (bcellE hby.out G _ hGlx).trans g3; have j4 := (bcellE hby.out G _ hGlx).trans g4; have j5 := (bcellE hby.out G _ hGlx).trans g5
        have HPY := Lib.hid hPy
        have HGY := Lib.hid hGy
        have HCY := Lib.hid hcy
        have HCS := Lib.hid hcs
        have HCT := Lib.hid hct
        have HCE := Lib.hid hce
        clear hcc hcf c0 c1 c2 c3 c4 c5 g0 g1 g2 g3 g4 g5 m0 m1 m2 m3 m4 m5 hxp hxf hxp2 hPy hGy hcy hcs hct hce hcg
        have hGg' : ¬ G = g := hGg
        have hgG' : ¬ g = G := Ne.symm hGg
        clear hxs hPG hrl hbx HX HGG HW1 hs1 hbl H1 hPl hGl
        go_wp2_with fail
        generalize hW6 : ((((((wy.setCell _ _).setCell _ _).setCell _ _).setCell _ _).setCell _ _).setCell _ _) = W6
        obtain ⟨hw1, hw2, hw3⟩ := set_six HCY.out _ _ _ _ _ _ _ W6 hW6
        rw [← HCE.out] at hw1
        have HPS : Hid (PS base P (some ⟨g, 0, none⟩) c (Ls.put ⟨u1, v1, x1, y1, z1, t⟩ l) W6) := by
          show PS _ _ _ _ _ _
          rw [hput.out]
          refine ⟨?_, ⟨cl_len encL _, .inr ⟨g, c, cur', by rw [List.length_set], hbg.out, hw1, by rw [List.length_set]; exact HG0.out.le, HG0.out.cm, HCS.out, by rw [List.length_set]; exact HCT.out⟩⟩, HG0.out.hP⟩
          rw [List.length_set]
          exact (hw2 P hPg).trans HPY.out
        have hB6 : Hid (Below base w W6) := ((below_le HBX.out hbase'.out).trans (hby.out.mono (Nat.le_trans HBS.out hbx'.out))).trans (hw3 base hbg.out)
        clear hw1 hw2 hw3 hW6
        refine (CS'.out _).mono ?_
        rintro e w4 ⟨rfl, hb4⟩
        have hPS4 := Lib.hid (HPS.out.go hb4)
        have hB4 := Lib.hid (hB6.out.trans (hb4.mono (Nat.le_trans hbase'.out hB6.out.size)))
        clear hb4
        go_wp2
        go_ret
        exact ⟨some ⟨g, 0, none⟩, some ⟨w4.heap.size, 0, none⟩, c, 1, _, rfl, HNM.out.symm, own_new1 w4 ⟨1, _, _, _, _, _, _⟩ (Nat.le_trans hbase'.out hB4.out.size), hPS4.out.go (below_new _ _), hB4.out.alloc (Nat.le_trans hbase'.out hB4.out.size) _⟩
end Go.Proofs.YtfapfkaipdcflaaGreat.K
