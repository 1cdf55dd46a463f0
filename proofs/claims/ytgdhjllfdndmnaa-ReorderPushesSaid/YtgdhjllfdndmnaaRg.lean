/-
  push: an event waits, and those that wait no longer are released.
-/
import Derived.Test.YtgdhjllfdndmnaaRf
namespace Go.Proofs.Ytgdhjllfdndmnaa
open Go.RowKit Go.Lib

theorem gr_refl (w : World) (row : Option Nat) : w.grownBy w row := ⟨rfl, rfl, rfl, Nat.le_refl _, fun _ _ _ => rfl⟩
theorem gr_trans {w w1 w2 : World} {row : Option Nat} (h : w.grownBy w1 row) (h2 : w1.grownBy w2 row) : w.grownBy w2 row :=
  ⟨h2.os.trans h.os, h2.tape.trans h.tape, h2.output.trans h.output, Nat.le_trans h.size h2.size, fun i hi hne => (h2.block i (Nat.lt_of_lt_of_le hi h.size) hne).trans (h.block i hi hne)⟩
theorem gr_drewN (w : World) (n : Nat) (row : Option Nat) : w.grownBy (w.drewN n) row := ⟨rfl, rfl, rfl, Nat.le_refl _, fun _ _ _ => rfl⟩
theorem gr_alloc (w : World) (o : Obj) (row : Option Nat) : w.grownBy (w.alloc o) row := ⟨rfl, rfl, rfl, by simp, fun i hi _ => Below.heap_alloc _ _ _ hi⟩
theorem gr_of_below {w w' : World} {row : Option Nat} (h : Below w.heap.size w w') : w.grownBy w' row := ⟨h.os, h.tape, h.output, h.size, fun k hk _ => h.block k hk⟩
/-- what is known while an event is inserted: k: it has been done -/
structure JIns (base n : Nat) (A : Option Addr) (c : Nat) (l l2 : List Ev) (k : Bool) (a : Act) (w : World) : Prop where
  sz : a.tmps.size = 47
  own : k = false → OW base w A c l
  new : k = true → ∃ A' c', a.eval (.tmp 17) = .slice A' l2.length c' ∧ OW base w A' c' l2 ∧ Fr n (bk A c) (bk A' c')
section
variable {base n : Nat} {A : Option Addr} {c : Nat} {l l2 : List Ev} {k : Bool} {a : Act} {w w' : World}
theorem JIns.put {d : Nat} {v : Value} (h : JIns base n A c l l2 k a w) (hd : d ≠ 17) : JIns base n A c l l2 k (a.put (some d) v) w :=
  ⟨by rw [size_put]; exact h.sz, h.own, fun hk => by rw [eval_put_other hd]; exact h.new hk⟩
theorem JIns.go (h : JIns base n A c l l2 k a w) (hb : Below w.heap.size w w') : JIns base n A c l l2 k a w' :=
  ⟨h.sz, fun hk => (h.own hk).go hb, fun hk => by
    obtain ⟨A', c', e, ho, hf⟩ := h.new hk
    exact ⟨A', c', e, ho.go hb, hf⟩⟩
theorem JIns.done {A' : Option Addr} {c' : Nat} (h : JIns base n A c l l2 k a w) (ho : OW base w' A' c' l2) (hf : Fr n (bk A c) (bk A' c')) : JIns base n A c l l2 true (a.put (some 17) (.slice A' l2.length c')) w' :=
  ⟨by rw [size_put]; exact h.sz, fun hk => absurd hk (by decide), fun _ => ⟨A', c', eval_put_same (by rw [h.sz]; decide), ho, hf⟩⟩
end
/-- what push answers -/
def PushQ (base P : Nat) (A : Option Addr) (c : Nat) (b : Rd.Bf) (e : Ev) (w : World) (en : Ending) (w' : World) : Prop :=
  ∃ (A1 A2 : Option Addr) (c1 c2 : Nat), en = .returned (.slice A2 (Rd.pushed b e).2.length c2) ∧ QB base P A1 c1 (Rd.pushed b e).1 w' ∧ RN base w' A2 c2 (Rd.pushed b e).2 ∧ Tw P (bk A c) w w' ∧ Fr w.heap.size (bk A c) (bk A1 c1)
set_option maxHeartbeats 4000000 in
set_option maxRecDepth 100000 in
theorem push_any (base P : Nat) (A : Option Addr) (c : Nat) (n L M : Int) (l : List Ev) (k s u v x y z : Int) (hs : 0 ≤ s ∧ s ≤ 1048576) (hL : -1 ≤ L ∧ L ≤ 1048576) (hn : 0 ≤ n ∧ n ≤ 1048576) (w : World) (h : QB base P A c ⟨n, L, M, l⟩ w) (ha : Rd.Asc l) (hl : l.length ≤ 60000) (hbase : base ≤ w.heap.size) :
    Calls Try.prog 29 #[.pointer (some ⟨P, 0, none⟩), .agg #[.int .i64 k, .int .i64 s, .int .i64 u, .int .i64 v, .int .i64 x, .int .i64 y, .int .i64 z]] w (PushQ base P A c ⟨n, L, M, l⟩ ⟨k, s, u, v, x, y, z⟩ w) := by
  obtain ⟨W1, HW1⟩ : ∃ W1, Hid (W1 = w.alloc (.cells #[.int .i64 k, .int .i64 s, .int .i64 u, .int .i64 v, .int .i64 x, .int .i64 y, .int .i64 z] 26)) := ⟨_, rfl⟩
  obtain ⟨G, HGG⟩ : ∃ G, Hid (G = w.heap.size) := ⟨_, rfl⟩
  have HB1 : Hid (Below w.heap.size w W1) := by show Below _ _ _; rw [HW1.out]; exact below_new _ _
  have hs1 : Hid (W1.heap.size = G + 1) := by show _ = _; rw [HW1.out, HGG.out]; simp
  have H0 := Lib.hid h
  have H1 := Lib.hid (h.go HB1.out)
  have hPG : P < G := by have := h.lP; have := HGG.out; omega
  have HGx : Hid (W1.heap[G]? = some (.cells #[.int .i64 k, .int .i64 s, .int .i64 u, .int .i64 v, .int .i64 x, .int .i64 y, .int .i64 z] 26)) := by show _ = _; rw [HW1.out, HGG.out]; exact heap_alloc_new _ _
  have HPx := Lib.hid H1.out.blk
  have HPl : Hid (P < W1.heap.size) := H1.out.lP
  have HGl : Hid (G < W1.heap.size) := by show _ < _; rw [hs1.out]; omega
  have HPR : Hid (some P ≠ bk A c) := fun e => H1.out.ne e.symm
  have HGR : Hid (some G ≠ bk A c) := fun e => by have := h.own.lt G e.symm; have := HGG.out; omega
  obtain ⟨p, HP⟩ : ∃ p, Hid ((Rd.upto s l).length = p) := ⟨_, rfl⟩
  have hpl : p ≤ l.length := by rw [← HP.out]; have := Rd.len_split s l; omega
  obtain ⟨l2, HL2⟩ : ∃ l2, Hid (l.take p ++ ⟨k, s, u, v, x, y, z⟩ :: l.drop p = l2) := ⟨_, rfl⟩
  have hins : Hid (Rd.ins ⟨k, s, u, v, x, y, z⟩ l = l2) := by show _ = _; rw [← HL2.out, ← HP.out]; exact Rd.ins_take ha
  have HA2 : Hid (Rd.Asc l2) := by show Rd.Asc _; rw [← hins.out]; exact Rd.ins_asc ha
  have HL2n : Hid (l2.length = l.length + 1) := by show _ = _; rw [← hins.out]; exact Rd.ins_len _ _
  obtain ⟨N, HN⟩ : ∃ N, Hid (l.length = N) := ⟨_, rfl⟩
  have C1 : Hid (∀ ws : World, ws.heap[P]? = some (.cells #[.int .i64 n, .int .i64 L, .int .i64 M, .slice A N c] 53 (0, 0)) → OW base ws A c l → Calls Try.prog 39 #[.pointer (some ⟨P, 0, none⟩), .int .i64 s] ws fun e w' => e = .returned (.int .i64 (p : Nat)) ∧ Below ws.heap.size ws w') := by
    intro ws h1 h2
    have := upTo_any base P A c ⟨n, L, M, l⟩ s (by omega) ws ⟨by rw [HN.out]; exact h1, h2, h.hP⟩ ha (by show l.length ≤ _; omega)
    dsimp only at this
    rw [HP.out] at this
    exact this
  have C2 : Hid (∀ (vb : Nat) (ws : World), OW base ws A c l → W1.heap.size ≤ vb → ws.heap[vb]? = some (.cells #[.int .i64 k, .int .i64 s, .int .i64 u, .int .i64 v, .int .i64 x, .int .i64 y, .int .i64 z] 26 (0, 0)) → base ≤ ws.heap.size → Calls Try.prog 38 #[.slice A N c, .int .i64 p, .slice (some ⟨vb, 0, none⟩) 1 1] ws (InsP base l2 A c ws)) := by
    intro vb ws h1 h2 h3 h4
    have := insert_any base A c l p ⟨k, s, u, v, x, y, z⟩ vb ws h1 hpl h3 (fun e => by have := H1.out.own.lt vb e; omega) (by omega) h4
    rw [HL2.out, HN.out] at this
    exact this
  have HJ0 : Hid (∀ a : Act, a.tmps.size = 47 → JIns base W1.heap.size A c l l2 false a (W1.drewN 1)) := fun a ha => ⟨ha, fun _ => H1.out.own.go (below_drewN _ _), fun h => absurd h (by decide)⟩
  have HRL : Hid (∀ q, bk A c = some q → q < W1.heap.size) := fun q e => (H1.out.own.lt q e).2
  have HM : Hid (∀ (q0 : Value) (w5 w6 : World), (∃ vb, q0 = .slice (some ⟨vb, 0, none⟩) 1 1 ∧ W1.heap.size ≤ vb ∧ w5.heap[vb]? = some (.cells #[.int .i64 k, .int .i64 s, .int .i64 u, .int .i64 v, .int .i64 x, .int .i64 y, .int .i64 z] 26 (0, 0))) → w5.grownBy w6 (bk A c) → (∃ vb, q0 = .slice (some ⟨vb, 0, none⟩) 1 1 ∧ W1.heap.size ≤ vb ∧ w6.heap[vb]? = some (.cells #[.int .i64 k, .int .i64 s, .int .i64 u, .int .i64 v, .int .i64 x, .int .i64 y, .int .i64 z] 26 (0, 0)))) := by
    rintro q0 w5 w6 ⟨vb, e, h1, h2⟩ hg
    exact ⟨vb, e, h1, (hg.block vb (lt_of_some h2) (fun e => by have := HRL.out vb e.symm; omega)).trans h2⟩
  have hbs : Hid (base ≤ W1.heap.size) := Nat.le_trans hbase HB1.out.size
  have HSZ : Hid ((0 ≤ s ∧ s ≤ 1048576) ∧ (-1 ≤ L ∧ L ≤ 1048576) ∧ (0 ≤ n ∧ n ≤ 1048576) ∧ l.length ≤ 60000) := ⟨hs, hL, hn, hl⟩
  replace HPx : Hid (W1.heap[P]? = some (.cells #[.int .i64 n, .int .i64 L, .int .i64 M, .slice A N c] 53 (0, 0))) := by show _ = _; have := HPx.out; dsimp only at this; rwa [HN.out] at this
  clear h ha hl hbase hpl hs hL hn
  go_enter Try.func29, Try.ntmps29
  go_wp2
  rw [← HW1.out, ← HGG.out]
  refine wp_region_ac 16 47 (fun u v => u.grownBy v (bk A c)) (fun f a wr => JIns base W1.heap.size A c l l2 (f 12) a wr) [(fun q0 _ => q0 = .pointer (some ⟨P, 0, none⟩)), (fun q0 _ => q0 = .pointer (some ⟨P, 0, none⟩)), (fun q0 _ => q0 = .pointer (some ⟨P, 0, none⟩)), (fun q0 _ => q0 = .pointer (some ⟨P, 0, none⟩)), (fun q0 _ => q0 = .pointer (some ⟨P, 3, none⟩)), (fun q0 _ => q0 = .slice A N c), (fun q0 _ => q0 = .pointer (some ⟨P, 0, none⟩)), (fun q0 _ => q0 = .pointer (some ⟨G, 1, none⟩)), (fun q0 _ => q0 = .int .i64 s), (fun q0 _ => q0 = .int .i64 (p : Nat)), (fun q0 _ => q0 = .agg #[.int .i64 k, .int .i64 s, .int .i64 u, .int .i64 v, .int .i64 x, .int .i64 y, .int .i64 z]), (fun q0 w5 => ∃ vb, q0 = .slice (some ⟨vb, 0, none⟩) 1 1 ∧ W1.heap.size ≤ vb ∧ w5.heap[vb]? = some (.cells #[.int .i64 k, .int .i64 s, .int .i64 u, .int .i64 v, .int .i64 x, .int .i64 y, .int .i64 z] 26 (0, 0))), (fun _ _ => True), (fun q0 _ => q0 = .pointer (some ⟨P, 0, none⟩)), (fun q0 _ => q0 = .pointer (some ⟨P, 0, none⟩)), (fun q0 _ => q0 = .pointer (some ⟨P, 3, none⟩))] (by kernel_rfl) (by kernel_rfl) rfl (fun _ _ _ => gr_trans) (gr_drewN _ _ _) (HJ0.out _ rfl) ?_ ?_ ?_
  · intro R hR
    simp only [List.mem_cons, List.not_mem_nil, or_false] at hR
    rcases hR with rfl | rfl | rfl | rfl | rfl | rfl | rfl | rfl | rfl | rfl | rfl | rfl | rfl | rfl | rfl | rfl <;> first | exact fun _ _ _ h _ => h | exact HM.out
  · simp only [List.take_succ_cons, List.take_zero]
    refine ⟨?_, ?_, ?_, ?_, ?_, ?_, ?_, ?_, ?_, ?_, ?_, ?_, ?_, ?_, ?_, ?_, trivial⟩
    · intro a ws f hle hjj hfi hun hdn hag hdep K Q hK
      have d0 : (a.tmps[0]?).getD undef = .pointer (some ⟨P, 0, none⟩) := eval_get (hag 0 (freeB_spec (by kernel_rfl)))
      rw [if_pos (show Region.wanted _ _ = true from rfl)]
      unfold Oper.wp
      simp [go_sem, d0]
      exact hK _ _ (gr_refl _ _) (hjj.put (by decide)) rfl
    · intro a ws f hle hjj hfi hun hdn hag hdep K Q hK
      have d0 : (a.tmps[0]?).getD undef = .pointer (some ⟨P, 0, none⟩) := eval_get (hag 0 (freeB_spec (by kernel_rfl)))
      rw [if_pos (show Region.wanted _ _ = true from rfl)]
      unfold Oper.wp
      simp [go_sem, d0]
      exact hK _ _ (gr_refl _ _) (hjj.put (by decide)) rfl
    · intro a ws f hle hjj hfi hun hdn hag hdep K Q hK
      have d6 : (a.tmps[6]?).getD undef = .pointer (some ⟨P, 0, none⟩) := eval_get (dep_of hdep 1 6 rfl (by kernel_rfl) rfl rfl)
      rw [if_pos (show Region.wanted _ _ = true from rfl)]
      unfold Oper.wp
      simp [go_sem, d6]
      exact hK _ _ (gr_refl _ _) (hjj.put (by decide)) rfl
    · intro a ws f hle hjj hfi hun hdn hag hdep K Q hK
      have d7 : (a.tmps[7]?).getD undef = .pointer (some ⟨P, 0, none⟩) := eval_get (dep_of hdep 2 7 rfl (by kernel_rfl) rfl rfl)
      rw [if_pos (show Region.wanted _ _ = true from rfl)]
      unfold Oper.wp
      simp [go_sem, d7]
      exact hK _ _ (gr_refl _ _) (hjj.put (by decide)) rfl
    · intro a ws f hle hjj hfi hun hdn hag hdep K Q hK
      have d8 : (a.tmps[8]?).getD undef = .pointer (some ⟨P, 0, none⟩) := eval_get (dep_of hdep 3 8 rfl (by kernel_rfl) rfl rfl)
      rw [if_pos (show Region.wanted _ _ = true from rfl)]
      unfold Oper.wp
      simp [go_sem, d8]
      exact hK _ _ (gr_refl _ _) (hjj.put (by decide)) rfl
    · intro a ws f hle hjj hfi hun hdn hag hdep K Q hK
      have d9 : (a.tmps[9]?).getD undef = .pointer (some ⟨P, 3, none⟩) := eval_get (dep_of hdep 4 9 rfl (by kernel_rfl) rfl rfl)
      rw [if_pos (show Region.wanted _ _ = true from rfl)]
      have y0 := Go.Joins.cell_of_block ((hle.block P HPl.out HPR.out).trans HPx.out) 3
      unfold Oper.wp
      simp [go_sem, d9, y0]
      exact hK _ _ (gr_refl _ _) (hjj.put (by decide)) rfl
    · intro a ws f hle hjj hfi hun hdn hag hdep K Q hK
      have d0 : (a.tmps[0]?).getD undef = .pointer (some ⟨P, 0, none⟩) := eval_get (hag 0 (freeB_spec (by kernel_rfl)))
      rw [if_pos (show Region.wanted _ _ = true from rfl)]
      unfold Oper.wp
      simp [go_sem, d0]
      exact hK _ _ (gr_refl _ _) (hjj.put (by decide)) rfl
    · intro a ws f hle hjj hfi hun hdn hag hdep K Q hK
      have d3 : (a.tmps[3]?).getD undef = .pointer (some ⟨G, 0, none⟩) := eval_get (hag 3 (freeB_spec (by kernel_rfl)))
      rw [if_pos (show Region.wanted _ _ = true from rfl)]
      unfold Oper.wp
      simp [go_sem, d3]
      exact hK _ _ (gr_refl _ _) (hjj.put (by decide)) rfl
    · intro a ws f hle hjj hfi hun hdn hag hdep K Q hK
      have d12 : (a.tmps[12]?).getD undef = .pointer (some ⟨G, 1, none⟩) := eval_get (dep_of hdep 7 12 rfl (by kernel_rfl) rfl rfl)
      rw [if_pos (show Region.wanted _ _ = true from rfl)]
      have y0 := Go.Joins.cell_of_block ((hle.block G HGl.out HGR.out).trans HGx.out) 1
      unfold Oper.wp
      simp [go_sem, d12, y0]
      exact hK _ _ (gr_refl _ _) (hjj.put (by decide)) rfl
    · intro a ws f hle hjj hfi hun hdn hag hdep K Q hK
      have d11 : (a.tmps[11]?).getD undef = .pointer (some ⟨P, 0, none⟩) := eval_get (dep_of hdep 6 11 rfl (by kernel_rfl) rfl rfl)
      have d13 : (a.tmps[13]?).getD undef = .int .i64 s := eval_get (dep_of hdep 8 13 rfl (by kernel_rfl) rfl rfl)
      rw [if_pos (show Region.wanted _ _ = true from rfl)]
      have hun12 : f 12 = false := hun 12 _ rfl (by kernel_rfl)
      have hcon := C1.out ws ((hle.block P HPl.out HPR.out).trans HPx.out) (hjj.own hun12)
      unfold Oper.wp
      simp [go_sem, d11, d13]
      refine hcon.mono ?_
      rintro e w9 ⟨rfl, hb9⟩
      exact hK _ _ (gr_of_below hb9) ((hjj.go hb9).put (by decide)) rfl
    · intro a ws f hle hjj hfi hun hdn hag hdep K Q hK
      have d3 : (a.tmps[3]?).getD undef = .pointer (some ⟨G, 0, none⟩) := eval_get (hag 3 (freeB_spec (by kernel_rfl)))
      rw [if_pos (show Region.wanted _ _ = true from rfl)]
      have yy := Go.Joins.cell_of_block ((hle.block G HGl.out HGR.out).trans HGx.out)
      have y0 := yy 0; have y1 := yy 1; have y2 := yy 2; have y3 := yy 3; have y4 := yy 4; have y5 := yy 5; have y6 := yy 6
      simp only [List.getElem?_toArray, List.getElem?_cons_succ, List.getElem?_cons_zero] at y0 y1 y2 y3 y4 y5 y6
      clear yy
      unfold Oper.wp
      simp [go_sem, d3, y0, y1, y2, y3, y4, y5, y6]
      exact hK _ _ (gr_refl _ _) (hjj.put (by decide)) rfl
    · intro a ws f hle hjj hfi hun hdn hag hdep K Q hK
      have d15 : (a.tmps[15]?).getD undef = .agg #[.int .i64 k, .int .i64 s, .int .i64 u, .int .i64 v, .int .i64 x, .int .i64 y, .int .i64 z] := eval_get (dep_of hdep 10 15 rfl (by kernel_rfl) rfl rfl)
      rw [if_pos (show Region.wanted _ _ = true from rfl)]
      have hsz := hle.size
      unfold Oper.wp
      simp [go_sem, d15]
      exact hK _ _ (gr_alloc _ _ _) ((hjj.go (below_new _ _)).put (by decide)) ⟨_, rfl, hsz, heap_alloc_new _ _⟩
    · intro a ws f hle hjj hfi hun hdn hag hdep K Q hK
      have d10 : (a.tmps[10]?).getD undef = .slice A N c := eval_get (dep_of hdep 5 10 rfl (by kernel_rfl) rfl rfl)
      have d14 : (a.tmps[14]?).getD undef = .int .i64 (p : Nat) := eval_get (dep_of hdep 9 14 rfl (by kernel_rfl) rfl rfl)
      have d16 : (fun q0 w5 => ∃ vb, q0 = .slice (some ⟨vb, 0, none⟩) 1 1 ∧ W1.heap.size ≤ vb ∧ w5.heap[vb]? = some (.cells #[.int .i64 k, .int .i64 s, .int .i64 u, .int .i64 v, .int .i64 x, .int .i64 y, .int .i64 z] 26 (0, 0))) (a.eval (.tmp 16)) ws := dep_of hdep 11 16 rfl (by kernel_rfl) rfl rfl
      rw [if_pos (show Region.wanted _ _ = true from rfl)]
      obtain ⟨vb, d16, hvb1, hvb2⟩ := d16
      have d16 := eval_get d16
      have hun' : f 12 = false := hfi
      have hcon := C2.out vb ws (hjj.own hun') hvb1 hvb2 (Nat.le_trans hbs.out hle.size)
      unfold Oper.wp
      simp [go_sem, d10, d14, d16]
      refine hcon.mono ?_
      rintro e w9 ⟨A9, c9, rfl, ho9, hg9, hf9⟩
      exact hK _ _ hg9 (hjj.done ho9 (fun q hq => (hf9 q hq).imp id (Nat.le_trans hle.size))) trivial
    · intro a ws f hle hjj hfi hun hdn hag hdep K Q hK
      have d5 : (a.tmps[5]?).getD undef = .pointer (some ⟨P, 0, none⟩) := eval_get (dep_of hdep 0 5 rfl (by kernel_rfl) rfl rfl)
      rw [if_pos (show Region.wanted _ _ = true from rfl)]
      unfold Oper.wp
      simp [go_sem, d5]
      exact hK _ _ (gr_refl _ _) (hjj.put (by decide)) rfl
    · intro a ws f hle hjj hfi hun hdn hag hdep K Q hK
      have d18 : (a.tmps[18]?).getD undef = .pointer (some ⟨P, 0, none⟩) := eval_get (dep_of hdep 13 18 rfl (by kernel_rfl) rfl rfl)
      rw [if_pos (show Region.wanted _ _ = true from rfl)]
      unfold Oper.wp
      simp [go_sem, d18]
      exact hK _ _ (gr_refl _ _) (hjj.put (by decide)) rfl
    · intro a ws f hle hjj hfi hun hdn hag hdep K Q hK
      have d19 : (a.tmps[19]?).getD undef = .pointer (some ⟨P, 0, none⟩) := eval_get (dep_of hdep 14 19 rfl (by kernel_rfl) rfl rfl)
      rw [if_pos (show Region.wanted _ _ = true from rfl)]
      unfold Oper.wp
      simp [go_sem, d19]
      exact hK _ _ (gr_refl _ _) (hjj.put (by decide)) rfl
  · intro a ws f hle hjj hft hff hsz hdf hag hend
    have f5 : a.eval (.tmp 5) = .pointer (some ⟨P, 0, none⟩) := end_of hend 0 5 (by decide) rfl rfl rfl
    have f6 : a.eval (.tmp 6) = .pointer (some ⟨P, 0, none⟩) := end_of hend 1 6 (by decide) rfl rfl rfl
    have f7 : a.eval (.tmp 7) = .pointer (some ⟨P, 0, none⟩) := end_of hend 2 7 (by decide) rfl rfl rfl
    have f8 : a.eval (.tmp 8) = .pointer (some ⟨P, 0, none⟩) := end_of hend 3 8 (by decide) rfl rfl rfl
    have f9 : a.eval (.tmp 9) = .pointer (some ⟨P, 3, none⟩) := end_of hend 4 9 (by decide) rfl rfl rfl
    have f10 : a.eval (.tmp 10) = .slice A N c := end_of hend 5 10 (by decide) rfl rfl rfl
    have f11 : a.eval (.tmp 11) = .pointer (some ⟨P, 0, none⟩) := end_of hend 6 11 (by decide) rfl rfl rfl
    have f12 : a.eval (.tmp 12) = .pointer (some ⟨G, 1, none⟩) := end_of hend 7 12 (by decide) rfl rfl rfl
    have f13 : a.eval (.tmp 13) = .int .i64 s := end_of hend 8 13 (by decide) rfl rfl rfl
    have f14 : a.eval (.tmp 14) = .int .i64 (p : Nat) := end_of hend 9 14 (by decide) rfl rfl rfl
    have f15 : a.eval (.tmp 15) = .agg #[.int .i64 k, .int .i64 s, .int .i64 u, .int .i64 v, .int .i64 x, .int .i64 y, .int .i64 z] := end_of hend 10 15 (by decide) rfl rfl rfl
    have f16 : (fun q0 w5 => ∃ vb, q0 = .slice (some ⟨vb, 0, none⟩) 1 1 ∧ W1.heap.size ≤ vb ∧ w5.heap[vb]? = some (.cells #[.int .i64 k, .int .i64 s, .int .i64 u, .int .i64 v, .int .i64 x, .int .i64 y, .int .i64 z] 26 (0, 0))) (a.eval (.tmp 16)) ws := end_of hend 11 16 (by decide) rfl rfl rfl
    have f17 : (fun _ _ => True) (a.eval (.tmp 17)) ws := end_of hend 12 17 (by decide) rfl rfl rfl
    have f18 : a.eval (.tmp 18) = .pointer (some ⟨P, 0, none⟩) := end_of hend 13 18 (by decide) rfl rfl rfl
    have f19 : a.eval (.tmp 19) = .pointer (some ⟨P, 0, none⟩) := end_of hend 14 19 (by decide) rfl rfl rfl
    have f20 : a.eval (.tmp 20) = .pointer (some ⟨P, 3, none⟩) := end_of hend 15 20 (by decide) rfl rfl rfl
    have ea := act_block 5 16 hsz hdf hag [5, 6, 7, 8, 9, 10, 11, 12, 13, 14, 15, 16, 17, 18, 19, 20] (by kernel_rfl) (by kernel_rfl) (of_decide_eq_true (by kernel_rfl))
    clear hag hend hsz hdf
    obtain ⟨A', c', e17, ho, hf⟩ := hjj.new (hft 12 (by decide))
    simp only [List.map_cons, List.map_nil, f5, f6, f7, f8, f9, f10, f11, f12, f13, f14, f15, f18, f19, f20] at ea
    clear f5 f6 f7 f8 f9 f10 f11 f12 f13 f14 f15 f18 f19 f20
    generalize a.eval (.tmp 16) = x16 at ea f16
    generalize a.eval (.tmp 17) = x17 at ea f17
    simp only [List.take_succ_cons, List.take_zero, List.drop_succ_cons, List.drop_zero, List.cons_append, List.nil_append] at ea
    subst ea
    have hPb := (hle.block P HPl.out HPR.out).trans HPx.out
    have HPb := Lib.hid hPb
    have HGb := Lib.hid ((hle.block G HGl.out HGR.out).trans HGx.out)
    have HO := Lib.hid ho
    have HF := Lib.hid hf
    have HGr := Lib.hid hle
    have pf := Go.Joins.unfrozen_of_block hPb 3
    have pc := Go.Joins.cell_of_block hPb
    have pc1 := pc 3
    simp only [List.getElem?_toArray, List.getElem?_cons_succ, List.getElem?_cons_zero] at pc1
    have hGs := lt_of_some HGb.out
    have hPs := lt_of_some hPb
    clear hjj hft hff hle ho hf hPb HJ0 HM pc
    replace e17 : x17 = .slice A' l2.length c' := e17
    subst e17
    have HQ1 : Hid (QB base P A' c' ⟨n, L, M, l2⟩ (ws.setCell ⟨P, 3, none⟩ (.slice A' l2.length c'))) := by
      refine ⟨?_, HO.out.kept Tw.set.grownP (fun q hq e => HO.out.ne HPb.out (by decide) (by rw [hq]; exact e.symm)), H0.out.hP⟩
      exact setCell_cells HPb.out 3 _
    have HT1 : Hid (Tw P (bk A c) W1 (ws.setCell ⟨P, 3, none⟩ (.slice A' l2.length c'))) := (Tw.of_grown HGr.out).trans Tw.set.more (Fr.refl _ _)
    have HGb1 : Hid ((ws.setCell ⟨P, 3, none⟩ (.slice A' l2.length c')).heap[G]? = some (.cells #[.int .i64 k, .int .i64 s, .int .i64 u, .int .i64 v, .int .i64 x, .int .i64 y, .int .i64 z] 26 (0, 0))) := (Below.heap_setCell _ _ _ _ (by show G ≠ P; omega)).trans HGb.out
    obtain ⟨N2, HN2⟩ : ∃ N2, Hid (l2.length = N2) := ⟨_, rfl⟩
    simp only [HN2.out] at HQ1 HT1 HGb1 ⊢
    go_wp2_with fail
    clear pf pc1
    generalize ws.setCell ⟨P, 3, none⟩ (.slice A' N2 c') = W2 at HQ1 HT1 HGb1 ⊢
    have hG2 := lt_of_some HGb1.out
    have hP2 := HQ1.out.lP
    have pc := HQ1.out.cells
    dsimp only at pc
    obtain ⟨q0, q1, q2, q3⟩ := pc
    have gc := Go.Joins.cell_of_block HGb1.out 1
    simp only [List.getElem?_toArray, List.getElem?_cons_succ, List.getElem?_cons_zero] at gc
    rw [HN2.out] at q3
    have q1z := HQ1.out.fz 1
    obtain ⟨L2, HL⟩ : ∃ L2, Hid (max L s = L2) := ⟨_, rfl⟩
    have HRQ : Hid (Rd.rel ⟨n, L2, M, l2⟩ (L2 - n - 1) = Rd.pushed ⟨n, L, M, l⟩ ⟨k, s, u, v, x, y, z⟩) := by
      show Rd.rel _ _ = Rd.rel (Rd.put _ _) _
      unfold Rd.put
      dsimp only
      rw [hins.out, HL.out]
    obtain ⟨nn, HNN⟩ : ∃ nn, Hid ((Rd.pushed ⟨n, L, M, l⟩ ⟨k, s, u, v, x, y, z⟩).2.length = nn) := ⟨_, rfl⟩
    have hmx : (s ≤ L ∧ L2 = L) ∨ (L < s ∧ L2 = s) := by have := HL.out; omega
    rcases hmx with ⟨hmx, h9⟩ | ⟨hmx, h9⟩
    all_goals
      subst h9
      refine wp_region_over_tail 12 (by kernel_rfl) (by kernel_rfl) ?_
      simp only [List.take_succ_cons, List.take_zero, List.drop_succ_cons, List.drop_zero]
      repeat (go_big_quiet_step (fail))
      refine wpQuiet_nil ?_
      rintro _ ⟨xx, rfl⟩
      have hbx := Lib.hid (over_below _ xx)
      generalize over _ xx = wx at hbx ⊢
      have HQx := Lib.hid (HQ1.out.go hbx.out)
      have q1y := HQx.out.fz 1
      have q1c := HQx.out.cells.2.1
      dsimp only at q1c
      have hPx := HQx.out.lP
      clear q0 q1 q2 q3 gc q1z
      have HQ2 : Hid (QB base P A' c' ⟨n, L2, M, l2⟩ (wx.setCell ⟨P, 1, none⟩ (.int .i64 L2))) := by
        have hT : Tw P none wx (wx.setCell ⟨P, 1, none⟩ (.int .i64 L2)) := Tw.set
        exact ⟨setCell_cells HQx.out.blk 1 _, HQx.out.own.kept hT.grownP (fun q hq e => HQx.out.ne (by rw [hq, e])), HQx.out.hP⟩
      have HT2 : Hid (Tw P (bk A c) W1 (wx.setCell ⟨P, 1, none⟩ (.int .i64 L2))) := (HT1.out.trans (Tw.of_below hbx.out) (Fr.refl _ _)).trans Tw.set.more (Fr.refl _ _)
      have f1 : IntKind.i64.wrap (L2 - n) = L2 - n := IntWalk.i64_in _ (by have := HSZ.out; omega)
      have f2 : IntKind.i64.wrap (L2 - n - 1) = L2 - n - 1 := IntWalk.i64_in _ (by have := HSZ.out; omega)
      have C3 : Hid (∀ W, QB base P A' c' ⟨n, L2, M, l2⟩ W → Calls Try.prog 30 #[.pointer (some ⟨P, 0, none⟩), .int .i64 (L2 - n - 1)] W (RelP base P A' c' ⟨n, L2, M, l2⟩ (L2 - n - 1) W)) :=
        fun W hq => release_any base P A' c' ⟨n, L2, M, l2⟩ (L2 - n - 1) (by have := HSZ.out; omega) W hq HA2.out (by show l2.length ≤ _; rw [HL2n.out]; have := HSZ.out; omega)
      go_wp2_with fail
      clear q1y q1c
      generalize wx.setCell ⟨P, 1, none⟩ (.int .i64 L2) = W3 at HQ2 HT2 ⊢
      have pc := HQ2.out.cells
      dsimp only at pc
      obtain ⟨q0, q1, q2, q3⟩ := pc
      have hP3 := HQ2.out.lP
      refine wp_region_over_tail 13 (by kernel_rfl) (by kernel_rfl) ?_
      simp only [List.take_succ_cons, List.take_zero, List.drop_succ_cons, List.drop_zero]
      repeat (go_big_quiet_step (fail))
      refine wpQuiet_nil ?_
      rintro _ ⟨xx, rfl⟩
      have hby := Lib.hid (over_below _ xx)
      generalize over _ xx = wy at hby ⊢
      have HQ3 := Lib.hid (HQ2.out.go hby.out)
      have HT3 : Hid (Tw P (bk A c) W1 wy) := HT2.out.trans (Tw.of_below hby.out) (Fr.refl _ _)
      clear q0 q1 q2 q3 HT1 HT2
      go_wp2_with fail
      refine (C3.out _ HQ3.out).mono ?_
      rintro e w9 ⟨A1, A2, c1, c2, rfl, hq9, hr9, ht9, hf9⟩
      rw [HRQ.out] at hq9 hr9 ⊢
      have HQ9 := Lib.hid hq9
      have HR9 := Lib.hid hr9
      have HT9 : Hid (Tw P (bk A c) w w9) := ((Tw.of_below HB1.out).trans HT3.out (Fr.refl _ _)).trans ht9.more (Fr.refl _ _)
      have HF9 : Hid (Fr w.heap.size (bk A c) (bk A1 c1)) := fun q hq => by
        rcases hf9 q hq with h0 | h0
        · rcases HF.out q h0 with h1 | h1
          · exact .inl h1
          · exact .inr (Nat.le_trans HB1.out.size h1)
        · exact .inr (Nat.le_trans (Nat.le_trans HB1.out.size HT3.out.size) h0)
      clear hq9 hr9 ht9 hf9 C3
      rw [HNN.out]
      go_wp2
      go_ret
      exact ⟨A1, A2, c1, c2, by rw [HNN.out]; rfl, HQ9.out, HR9.out, HT9.out, HF9.out⟩
end Go.Proofs.Ytgdhjllfdndmnaa
