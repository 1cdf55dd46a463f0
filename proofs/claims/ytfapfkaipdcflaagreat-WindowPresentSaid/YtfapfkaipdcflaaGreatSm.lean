/-
  An event happens to a window's links by age.
-/
import Derived.Test.YtfapfkaipdcflaaGreatSl
import Derived.Deep.CutBlock
import Derived.IntWalk
namespace Go.Proofs.YtfapfkaipdcflaaGreat
open Go.RowKit Go.Lib

theorem cmpA_any (u v x y z t u' v' x' y' z' t' : Int) (w : World) : Calls Tryz.prog 59 #[.agg #[.int .i64 u, .int .i64 v, .int .i64 x, .int .i64 y, .int .i64 z, .int .i64 t], .agg #[.int .i64 u', .int .i64 v', .int .i64 x', .int .i64 y', .int .i64 z', .int .i64 t']] w fun e w' => e = .returned (.int .i64 (cmpA ⟨u, v, x, y, z, t⟩ ⟨u', v', x', y', z', t'⟩)) ∧ Below w.heap.size w w' :=
  (cmpA_grow u v x y z t u' v' x' y' z' t' w).mono fun _ _ ⟨he, q, os, hw⟩ => ⟨he, hw ▸ below_growN w q os⟩
def fndA (t : Ls.Lk) (l : List Ls.Lk) : Bool := match l[Ls.posA t l]? with | some a => decide (cmpA a t = 0) | none => false
set_option maxHeartbeats 4000000 in
theorem searchA_any (A : Option Addr) (c : Nat) (l : List Ls.Lk) (u v x y z t : Int) (w : World) (h : RL w.heap.size w A c l) (ha : Ls.Aged l) (hl : l.length ≤ 65536) :
    Calls Tryz.prog 67 #[.slice A l.length c, .agg #[.int .i64 u, .int .i64 v, .int .i64 x, .int .i64 y, .int .i64 z, .int .i64 t], .func (.func 59) #[] #[]] w fun e w' =>
      e = .returned (.tuple #[.int .i64 (Ls.posA ⟨u, v, x, y, z, t⟩ l), .bool (fndA ⟨u, v, x, y, z, t⟩ l)]) ∧ Below w.heap.size w w' := by
  have H := Lib.hid h
  have HA := Lib.hid ha
  clear h ha
  have HPL := Lib.hid (Ls.posA_le ⟨u, v, x, y, z, t⟩ l)
  obtain ⟨p, HP⟩ : ∃ p, Hid (Ls.posA ⟨u, v, x, y, z, t⟩ l = p) := ⟨_, rfl⟩
  have hpl : p ≤ l.length := by rw [← HP.out]; exact HPL.out
  rw [HP.out]
  obtain ⟨F, HF⟩ : ∃ F, Hid (fndA ⟨u, v, x, y, z, t⟩ l = F) := ⟨_, rfl⟩
  rw [HF.out]
  go_enter Tryz.func67, Tryz.ntmps67
  go_wp2
  obtain ⟨g, HG⟩ : ∃ g, Hid (g = w.heap.size) := ⟨_, rfl⟩
  obtain ⟨W1, HW1⟩ : ∃ W1, Hid (W1 = w.alloc (.cells #[.int .i64 u, .int .i64 v, .int .i64 x, .int .i64 y, .int .i64 z, .int .i64 t] 62)) := ⟨_, rfl⟩
  have HBL : Hid (W1.heap[g]? = some (.cells #[.int .i64 u, .int .i64 v, .int .i64 x, .int .i64 y, .int .i64 z, .int .i64 t] 62)) := by show _ = _; rw [HW1.out, HG.out]; exact heap_alloc_new _ _
  have HGL : Hid (g < W1.heap.size) := by show _ < _; rw [HW1.out, HG.out]; simp
  have HB1 : Hid (Below w.heap.size w W1) := by show Below _ _ _; rw [HW1.out]; exact below_new _ _
  have HRE : Hid (RL W1.heap.size W1 A c l) := H.out.up HB1.out
  rw [← HW1.out, ← HG.out]
  clear HW1 HG H
  go_loopw [9, 10] (fun i j wr => ∃ (a b : Nat), i = .int .i64 a ∧ j = .int .i64 b ∧ a ≤ p ∧ p ≤ b ∧ b ≤ l.length ∧ Hid (Below W1.heap.size W1 wr)) (fun i j _ => (RowKit.intOf j).toNat - (RowKit.intOf i).toNat)
  case atStart => exact ⟨0, l.length, rfl, rfl, by omega, hpl, Nat.le_refl _, Below.refl _ _⟩
  case round =>
    obtain ⟨a, b, rfl, rfl, hap, hpb, hbl, HBR⟩ := hrel
    have hblk := (HBR.out.block g HGL.out).trans HBL.out
    have hg := Go.Joins.cell_of_block hblk
    have g0 := hg 0; have g1 := hg 1; have g2 := hg 2; have g3 := hg 3; have g4 := hg 4; have g5 := hg 5
    simp only [List.getElem?_toArray, List.getElem?_cons_succ, List.getElem?_cons_zero] at g0 g1 g2 g3 g4 g5
    have hgl : g < wr.heap.size := Nat.lt_of_lt_of_le HGL.out HBR.out.size
    clear hg hblk
    have HRr := Lib.hid (HRE.out.up HBR.out)
    by_cases hab : a < b
    · obtain ⟨m, hm⟩ : ∃ m, m = (a + b) / 2 := ⟨_, rfl⟩
      have hm1 : a ≤ m := by omega
      have hm2 : m < b := by omega
      obtain ⟨bb, off, ⟨u', v', x', y', z', t'⟩, rfl, hb, hx, c0, c1, c2, c3, c4, c5⟩ := RL.at_ (k := m) HRr.out (by omega)
      dsimp only at c0 c1 c2 c3 c4 c5
      have hlt := Ls.posA_lt ⟨u, v, x, y, z, t⟩ l HA.out m _ hx
      rw [HP.out, ← cmpA_neg] at hlt
      have C33 := Lib.hid (fun w => cmpA_any u' v' x' y' z' t' u v x y z t w)
      obtain ⟨M, HM⟩ : ∃ M, Hid (cmpA ⟨u', v', x', y', z', t'⟩ ⟨u, v, x, y, z, t⟩ = M) := ⟨_, rfl⟩
      simp only [HM.out] at C33 hlt
      have fm : ((a : Int) + (b : Int)) / 2 = (m : Int) := by omega
      have HMM := Lib.hid hm
      clear hm hx
      by_cases hM : M < 0
      all_goals
        go_wp2
        refine wp_region_over (by kernel_rfl) (by kernel_rfl) ?_
        repeat (go_big_quiet_step (first | (go_at_call 59; exact calls_over (C33.out _))))
        refine wpQuiet_nil ?_
        rintro _ ⟨zz, rfl⟩
        have hbx := Lib.hid (over_below _ zz)
        clear c0 c1 c2 c3 c4 c5 g0 g1 g2 g3 g4 g5
        go_wp2
        go_roundw
        case rel => first
          | exact ⟨m + 1, b, by go_num, rfl, by omega, hpb, hbl, HBR.out.trans (hbx.out.mono HBR.out.size)⟩
          | exact ⟨a, m, rfl, rfl, hap, by omega, by omega, HBR.out.trans (hbx.out.mono HBR.out.size)⟩
        case measure => simp [RowKit.intOf]; omega
    · obtain rfl : a = p := by omega
      obtain rfl : b = a := by omega
      by_cases hin : b < l.length
      · obtain ⟨bb, off, ⟨u', v', x', y', z', t'⟩, rfl, hb, hx, c0, c1, c2, c3, c4, c5⟩ := RL.at_ (k := b) HRr.out hin
        dsimp only at c0 c1 c2 c3 c4 c5
        have HQ : Hid (F = decide (cmpA ⟨u', v', x', y', z', t'⟩ ⟨u, v, x, y, z, t⟩ = 0)) := by
          show _ = _
          rw [← HF.out, fndA, HP.out, hx]
        have C33 := Lib.hid (fun w => cmpA_any u' v' x' y' z' t' u v x y z t w)
        obtain ⟨M, HM⟩ : ∃ M, Hid (cmpA ⟨u', v', x', y', z', t'⟩ ⟨u, v, x, y, z, t⟩ = M) := ⟨_, rfl⟩
        simp only [HM.out] at C33 HQ
        clear hx
        have hd : decide (b < l.length) = true := by simpa using hin
        by_cases hM : M = 0
        · have HQ2 : Hid (F = true) := HQ.out.trans (by simp [hM])
          subst hM
          clear HQ
          obtain rfl := HQ2.out
          go_wp2
          refine wp_region_over (by kernel_rfl) (by kernel_rfl) ?_
          repeat (go_big_quiet_step (first | (go_at_call 59; exact calls_over (C33.out _))))
          refine wpQuiet_nil ?_
          rintro _ ⟨zz, rfl⟩
          have hbx := Lib.hid (over_below _ zz)
          clear c0 c1 c2 c3 c4 c5 g0 g1 g2 g3 g4 g5
          go_wp2
          go_ret2
          exact ⟨rfl, HB1.out.trans ((HBR.out.trans (hbx.out.mono HBR.out.size)).mono HB1.out.size)⟩
        · have HQ2 : Hid (F = false) := HQ.out.trans (by simp [hM])
          have hm1 : (M == 0) = false := by simpa using hM
          clear HQ hM
          obtain rfl := HQ2.out
          go_wp2
          refine wp_region_over (by kernel_rfl) (by kernel_rfl) ?_
          repeat (go_big_quiet_step (first | (go_at_call 59; exact calls_over (C33.out _))))
          refine wpQuiet_nil ?_
          rintro _ ⟨zz, rfl⟩
          have hbx := Lib.hid (over_below _ zz)
          clear c0 c1 c2 c3 c4 c5 g0 g1 g2 g3 g4 g5
          go_wp2
          go_ret2
          exact ⟨rfl, HB1.out.trans ((HBR.out.trans (hbx.out.mono HBR.out.size)).mono HB1.out.size)⟩
      · have HQ2 : Hid (F = false) := by
          show _ = _
          rw [← HF.out, fndA, HP.out, List.getElem?_eq_none (by omega)]
        have hd : decide (b < l.length) = false := by simpa using hin
        obtain rfl := HQ2.out
        go_wp2
        refine wp_region_over (by kernel_rfl) (by kernel_rfl) ?_
        repeat (go_big_quiet_step (fail))
        refine wpQuiet_nil ?_
        rintro _ ⟨zz, rfl⟩
        have hbx := Lib.hid (over_below _ zz)
        clear g0 g1 g2 g3 g4 g5
        go_wp2
        go_ret2
        exact ⟨rfl, HB1.out.trans ((HBR.out.trans (hbx.out.mono HBR.out.size)).mono HB1.out.size)⟩

/-- all blocks stay but P and one row -/
structure Tw (P : Nat) (r : Option Nat) (w w' : World) : Prop where
  os : w'.os = w.os
  tape : w'.tape = w.tape
  output : w'.output = w.output
  size : w.heap.size ≤ w'.heap.size
  block : ∀ k, k < w.heap.size → k ≠ P → r ≠ some k → w'.heap[k]? = w.heap[k]?
section
variable {P : Nat} {r r1 : Option Nat} {w w1 w2 : World}
theorem Tw.refl : Tw P r w w := ⟨rfl, rfl, rfl, Nat.le_refl _, fun _ _ _ _ => rfl⟩
theorem Tw.trans (h : Tw P r w w1) (h2 : Tw P r1 w1 w2) (hf : Fr w.heap.size r r1) : Tw P r w w2 :=
  ⟨h2.os.trans h.os, h2.tape.trans h.tape, h2.output.trans h.output, Nat.le_trans h.size h2.size, fun k hk hP hr =>
    (h2.block k (Nat.lt_of_lt_of_le hk h.size) hP (fun e => (hf k e).elim hr (fun h0 => by omega))).trans (h.block k hk hP hr)⟩
theorem Tw.of_below (h : Below w.heap.size w w1) : Tw P r w w1 := ⟨h.os, h.tape, h.output, h.size, fun k hk _ _ => h.block k hk⟩
theorem Tw.of_grown (h : w.grownBy w1 r) : Tw P r w w1 := ⟨h.os, h.tape, h.output, h.size, fun k hk _ hr => h.block k hk (fun e => hr e.symm)⟩
theorem Tw.of_grownP (h : w.grownBy w1 (some P)) : Tw P r w w1 := ⟨h.os, h.tape, h.output, h.size, fun k hk hP _ => h.block k hk (fun e => hP (Option.some.inj e))⟩
theorem Tw.below {B : Nat} (h : Tw P r w w1) (hP : B ≤ P) (hr : ∀ k, r = some k → B ≤ k) (hB : B ≤ w.heap.size) : Below B w w1 :=
  ⟨h.os, h.tape, h.output, h.size, fun k hk => h.block k (by omega) (by omega) (fun e => by have := hr k e; omega)⟩
end
theorem gr_refl (w : World) (row : Option Nat) : w.grownBy w row := ⟨rfl, rfl, rfl, Nat.le_refl _, fun _ _ _ => rfl⟩
theorem gr_drewN (w : World) (n : Nat) (row : Option Nat) : w.grownBy (w.drewN n) row := ⟨rfl, rfl, rfl, Nat.le_refl _, fun _ _ _ => rfl⟩
theorem gr_alloc (w : World) (o : Obj) (row : Option Nat) : w.grownBy (w.alloc o) row := ⟨rfl, rfl, rfl, by simp, fun i hi _ => Below.heap_alloc _ _ _ hi⟩
/-- what is known while a link is inserted: k: it has been done -/
structure JIns (base n : Nat) (A : Option Addr) (c : Nat) (l l2 : List Ls.Lk) (k : Bool) (a : Act) (w : World) : Prop where
  sz : a.tmps.size = 52
  own : k = false → OW base w A c l
  new : k = true → ∃ A' c', a.eval (.tmp 49) = .slice A' l2.length c' ∧ OW base w A' c' l2 ∧ Fr n (bk A c) (bk A' c')
section
variable {base n : Nat} {A : Option Addr} {c : Nat} {l l2 : List Ls.Lk} {k : Bool} {a : Act} {w w' : World}
theorem JIns.put {d : Nat} {v : Value} (h : JIns base n A c l l2 k a w) (hd : d ≠ 49) : JIns base n A c l l2 k (a.put (some d) v) w :=
  ⟨by rw [size_put]; exact h.sz, h.own, fun hk => by rw [eval_put_other hd]; exact h.new hk⟩
theorem JIns.go (h : JIns base n A c l l2 k a w) (hb : Below w.heap.size w w') : JIns base n A c l l2 k a w' :=
  ⟨h.sz, fun hk => (h.own hk).go hb, fun hk => by
    obtain ⟨A', c', e, ho, hf⟩ := h.new hk
    exact ⟨A', c', e, ho.go hb, hf⟩⟩
theorem JIns.done {A' : Option Addr} {c' : Nat} (h : JIns base n A c l l2 k a w) (ho : OW base w' A' c' l2) (hf : Fr n (bk A c) (bk A' c')) : JIns base n A c l l2 true (a.put (some 49) (.slice A' l2.length c')) w' :=
  ⟨by rw [size_put]; exact h.sz, fun hk => absurd hk (by decide), fun _ => ⟨A', c', eval_put_same (by rw [h.sz]; decide), ho, hf⟩⟩
end
/-- what apply answers -/
def StepP (base P : Nat) (A : Option Addr) (c : Nat) (W M : Int) (l2 : List Ls.Lk) (w : World) (en : Ending) (w' : World) : Prop :=
  en = .returned (.tuple #[]) ∧ ∃ A1 c1, PB base P A1 c1 W M l2 w' ∧ Tw P (bk A c) w w' ∧ Fr w.heap.size (bk A c) (bk A1 c1)
/-- the row of a set's link is laid: the rest of the walk -/
theorem step_end {base P c c2 : Nat} {A A2 : Option Addr} {W M : Int} {l l2 : List Ls.Lk} {w w1 w2 : World} (h : PB base P A c W M l w) (hT : Tw P (bk A c) w w1) (hf : Fr w.heap.size (bk A c) (bk A2 c2)) (hP : ∃ v0, w1.heap[P]? = some (.cells #[.int .i64 W, .int .i64 M, v0] 81 (0, 0))) (ho : OW base w1 A2 c2 l2) (m : Nat) (hm : l2.length = m) (hw2 : w2 = w1.setCell ⟨P, 2, none⟩ (.slice A2 m c2)) :
    StepP base P A c W M l2 w (.returned (.tuple #[])) w2 := by
  subst hw2; subst hm
  obtain ⟨v0, hP⟩ := hP
  have hg : w1.grownBy (w1.setCell ⟨P, 2, none⟩ (.slice A2 l2.length c2)) (some P) := only_set1 _ _ _ rfl
  refine ⟨rfl, A2, c2, ⟨?_, ho.kept hg (fun k hk e => ho.ne hP (by decide) (by rw [hk, e])), h.hP⟩, ?_, hf⟩
  · rw [setCell_cells hP 2]; rfl
  · exact hT.trans (Tw.of_grownP (r := none) hg) (fun _ e => by cases e)
set_option maxHeartbeats 4000000 in
set_option maxRecDepth 100000 in
theorem apply_any (base P : Nat) (A : Option Addr) (c : Nat) (W M : Int) (l : List Ls.Lk) (k s u v x y z : Int) (w : World) (h : PB base P A c W M l w) (ha : Ls.Aged l) (hl : l.length ≤ 60000) (hbase : base ≤ w.heap.size) :
    Calls Tryz.prog 44 #[.pointer (some ⟨P, 0, none⟩), .agg #[.int .i64 k, .int .i64 s, .int .i64 u, .int .i64 v, .int .i64 x, .int .i64 y, .int .i64 z]] w (StepP base P A c W M (Ls.stepA l ⟨k, s, u, v, x, y, z⟩) w) := by
  obtain ⟨lo, Ha⟩ : ∃ lo, Hid (min u v = lo) := ⟨_, rfl⟩
  obtain ⟨hi, Hb⟩ : ∃ hi, Hid (max u v = hi) := ⟨_, rfl⟩
  have he : Ls.ends (⟨k, s, u, v, x, y, z⟩ : Ev) = ⟨lo, hi, 0, 0, 0, s⟩ := by
    rw [← Ha.out, ← Hb.out]; rfl
  have HE := Lib.hid he
  obtain ⟨G, HGG⟩ : ∃ G, Hid (G = w.heap.size) := ⟨_, rfl⟩
  obtain ⟨W1, HW1⟩ : ∃ W1, Hid (W1 = (w.alloc (.cells #[.int .i64 k, .int .i64 s, .int .i64 u, .int .i64 v, .int .i64 x, .int .i64 y, .int .i64 z] 57)).alloc (.cells #[.int .i64 lo, .int .i64 hi, .int .i64 0, .int .i64 0, .int .i64 0, .int .i64 s] 62)) := ⟨_, rfl⟩
  have HB1 : Hid (Below w.heap.size w W1) := by show Below _ _ _; rw [HW1.out]; exact (below_new _ _).alloc (by simp) _
  have hx1 : W1.heap[G]? = some (.cells #[.int .i64 k, .int .i64 s, .int .i64 u, .int .i64 v, .int .i64 x, .int .i64 y, .int .i64 z] 57 (0, 0)) := by rw [HW1.out, HGG.out, Below.heap_alloc _ _ _ (by simp)]; exact heap_alloc_new _ _
  have hx2 : W1.heap[G + 1]? = some (.cells #[.int .i64 lo, .int .i64 hi, .int .i64 0, .int .i64 0, .int .i64 0, .int .i64 s] 62 (0, 0)) := by rw [HW1.out, HGG.out]; have := heap_alloc_new (w.alloc (.cells #[.int .i64 k, .int .i64 s, .int .i64 u, .int .i64 v, .int .i64 x, .int .i64 y, .int .i64 z] 57)) (.cells #[.int .i64 lo, .int .i64 hi, .int .i64 0, .int .i64 0, .int .i64 0, .int .i64 s] 62); simpa using this
  have HCap : Hid (Cap G (G + 1) ⟨k, s, u, v, x, y, z⟩ W1) := ⟨hx1, by rw [hx2, ← Ha.out, ← Hb.out]⟩
  have H0 := Lib.hid h
  have H1 := Lib.hid (h.go HB1.out)
  have HR : Hid (∀ q, bk A c = some q → q < G) := fun q hq => by rw [HGG.out]; exact (h.own.lt q hq).2
  have hPG : P < G := by rw [HGG.out]; exact h.lP
  have C := Lib.hid (delete_any base G (G + 1) ⟨k, s, u, v, x, y, z⟩ A c l W1 H1.out.own (by omega) HCap.out (fun e => by have := HR.out _ e; omega) (fun e => by have := HR.out _ e; omega))
  obtain ⟨l1, HL1⟩ : ∃ l1, Hid ((l.filter fun x_1 => !Ls.hitA (⟨k, s, u, v, x, y, z⟩ : Ev) x_1) = l1) := ⟨_, rfl⟩
  rw [HL1.out] at C
  have hl1 : l1.length ≤ 60000 := by rw [← HL1.out]; exact Nat.le_trans (List.length_filter_le _ _) hl
  have HA1 : Hid (Ls.Aged l1) := by show Ls.Aged _; rw [← HL1.out]; exact List.Pairwise.filter _ ha
  have HST : Hid (Ls.stepA l ⟨k, s, u, v, x, y, z⟩ = if k = 1 then l1.take (Ls.posA ⟨lo, hi, 0, 0, 0, s⟩ l1) ++ ⟨lo, hi, 0, 0, 0, s⟩ :: l1.drop (Ls.posA ⟨lo, hi, 0, 0, 0, s⟩ l1) else l1) := by
    show _ = _
    unfold Ls.stepA
    rw [HL1.out, he]
  obtain ⟨p0, p1, p2⟩ := h.cells
  have hPl := h.lP
  obtain ⟨n, HN⟩ : ∃ n, Hid (l.length = n) := ⟨_, rfl⟩
  rw [HN.out] at p2 C
  obtain ⟨l2, HL2⟩ : ∃ l2, Hid (Ls.stepA l ⟨k, s, u, v, x, y, z⟩ = l2) := ⟨_, rfl⟩
  rw [HL2.out] at HST ⊢
  clear h ha hx1 hx2 he
  rw [HW1.out, HGG.out] at C
  go_enter Tryz.func44, Tryz.ntmps44
  go_wp2_with fail
  rw [Ha.out, Hb.out]
  refine C.out.mono ?_
  rw [← HW1.out, ← HGG.out]
  rintro en w2 ⟨rfl, ho, hg⟩
  have HO := Lib.hid ho
  have HG2 := Lib.hid hg
  have HC2 := Lib.hid (HCap.out.gr hg (fun e => by have := HR.out _ e; omega) (fun e => by have := HR.out _ e; omega))
  have HP2 : Hid (w2.heap[P]? = some (.cells #[.int .i64 W, .int .i64 M, .slice A n c] 81 (0, 0))) := by
    show _ = _
    rw [hg.block P H1.out.lP (fun e => H1.out.ne e.symm), ← HN.out]
    exact H1.out.blk
  have hhc := Go.Joins.cell_of_block HP2.out
  have y0 := hhc 0; have y1 := hhc 1; have y2 := hhc 2
  simp only [List.getElem?_toArray, List.getElem?_cons_succ, List.getElem?_cons_zero] at y0 y1 y2
  have z2 := Go.Joins.unfrozen_of_block HP2.out 2
  have e0 := Go.Joins.cell_of_block HC2.out.ev 0
  simp only [List.getElem?_toArray, List.getElem?_cons_zero] at e0
  have hP2 := lt_of_some HP2.out
  have hG2 := lt_of_some HC2.out.ev
  have hne : G ≠ P := by omega
  have hne' : P ≠ G := by omega
  have HT2 : Hid (Tw P (bk A c) w w2) := (Tw.of_below HB1.out).trans (Tw.of_grown HG2.out) (Fr.refl _ _)
  clear hhc ho hg C p0 p1 p2 hPl
  by_cases hk1 : k = 1
  · subst hk1
    have HST1 : Hid (l1.take (Ls.posA ⟨lo, hi, 0, 0, 0, s⟩ l1) ++ ⟨lo, hi, 0, 0, 0, s⟩ :: l1.drop (Ls.posA ⟨lo, hi, 0, 0, 0, s⟩ l1) = l2) := (HST.out.trans (if_pos rfl)).symm
    clear HST
    go_wp2
    obtain ⟨W3, HW3⟩ : ∃ W3, Hid (W3 = w2.setCell ⟨P, 2, none⟩ (.slice A l1.length c)) := ⟨_, rfl⟩
    rw [← HW3.out]
    have hG3 : w2.grownBy W3 (some P) := only_set1 _ _ _ HW3.out
    have HPx3 : Hid (W3.heap[P]? = some (.cells #[.int .i64 W, .int .i64 M, .slice A l1.length c] 81 (0, 0))) := by show _ = _; rw [HW3.out, setCell_cells HP2.out 2]; rfl
    have HO3 : Hid (OW base W3 A c l1) := HO.out.kept hG3 (fun q hq e => HO.out.ne HP2.out (by decide) (by rw [hq, e]))
    have HC3 : Hid (Cap G (G + 1) ⟨1, s, u, v, x, y, z⟩ W3) := HC2.out.gr hG3 (fun e => by injection e with e; omega) (fun e => by injection e with e; omega)
    have HT3 : Hid (Tw P (bk A c) w W3) := HT2.out.trans (Tw.of_grownP (r := bk A c) hG3) (Fr.refl _ _)
    obtain ⟨n1, HN1⟩ : ∃ n1, Hid (l1.length = n1) := ⟨_, rfl⟩
    rw [HN1.out] at HPx3 hl1 ⊢
    have HLx3 : Hid (W3.heap[G + 1]? = some (.cells #[.int .i64 lo, .int .i64 hi, .int .i64 0, .int .i64 0, .int .i64 0, .int .i64 s] 62 (0, 0))) := by show _ = _; have := HC3.out.lk; rw [Ha.out, Hb.out] at this; exact this
    have hcc := Go.Joins.cell_of_block HPx3.out
    have q2 := hcc 2
    have hdd := Go.Joins.cell_of_block HLx3.out
    have l0 := hdd 0; have l1' := hdd 1; have l2' := hdd 2; have l3 := hdd 3; have l4 := hdd 4; have l5 := hdd 5
    simp only [List.getElem?_toArray, List.getElem?_cons_succ, List.getElem?_cons_zero] at q2 l0 l1' l2' l3 l4 l5
    have hP3 := lt_of_some HPx3.out
    have hL3 := lt_of_some HLx3.out
    have hpl : Ls.posA ⟨lo, hi, 0, 0, 0, s⟩ l1 ≤ l1.length := Ls.posA_le _ _
    obtain ⟨p, HPP⟩ : ∃ p, Hid (Ls.posA ⟨lo, hi, 0, 0, 0, s⟩ l1 = p) := ⟨_, rfl⟩
    obtain ⟨F, HF⟩ : ∃ F, Hid (fndA ⟨lo, hi, 0, 0, 0, s⟩ l1 = F) := ⟨_, rfl⟩
    rw [HPP.out] at HST1 hpl
    have C33 : Hid (∀ ws, Below W3.heap.size W3 ws → Calls Tryz.prog 67 #[.slice A n1 c, .agg #[.int .i64 lo, .int .i64 hi, .int .i64 0, .int .i64 0, .int .i64 0, .int .i64 s], .func (.func 59) #[] #[]] ws fun e w' =>
        e = .returned (.tuple #[.int .i64 (p : Nat), .bool F]) ∧ Below ws.heap.size ws w') := by
      intro ws hb
      have := searchA_any A c l1 lo hi 0 0 0 s ws (HO3.out.rv.up hb) HA1.out (by rw [HN1.out]; omega)
      rwa [HN1.out, HPP.out, HF.out] at this
    clear hcc hdd y0 y1 y2 z2 e0 hP2 hG2 hG3 HW3
    refine wp_region_over (by kernel_rfl) (by kernel_rfl) ?_
    repeat (go_big_quiet_step (first | (go_at_call 67; exact calls_over (C33.out _ (over_below _ _)))))
    refine wpQuiet_nil ?_
    rintro _ ⟨xx, rfl⟩
    have hbx := Lib.hid (over_below W3 xx)
    generalize over W3 xx = W4 at hbx ⊢
    clear q2 l0 l1' l2' l3 l4 l5 hP3 hL3 C33
    have HPx : Hid (W4.heap[P]? = some (.cells #[.int .i64 W, .int .i64 M, .slice A n1 c] 81 (0, 0))) := (hbx.out.block _ (lt_of_some HPx3.out)).trans HPx3.out
    have HGx : Hid (W4.heap[G + 1]? = some (.cells #[.int .i64 lo, .int .i64 hi, .int .i64 0, .int .i64 0, .int .i64 0, .int .i64 s] 62 (0, 0))) := (hbx.out.block _ (lt_of_some HLx3.out)).trans HLx3.out
    have HO4 : Hid (OW base W4 A c l1) := HO3.out.go hbx.out
    have HT4 : Hid (Tw P (bk A c) w W4) := HT3.out.trans (Tw.of_below (r := bk A c) hbx.out) (Fr.refl _ _)
    have HPl := Lib.hid (lt_of_some HPx.out)
    have HGl := Lib.hid (lt_of_some HGx.out)
    have HPR : Hid (some P ≠ bk A c) := fun e => HO4.out.ne HPx.out (by decide) e.symm
    have HGR : Hid (some (G + 1) ≠ bk A c) := fun e => by have := HR.out _ e.symm; omega
    have hbs : Hid (base ≤ W4.heap.size) := Nat.le_trans hbase HT4.out.size
    have C2 : Hid (∀ (vb : Nat) (ws : World), OW base ws A c l1 → W4.heap.size ≤ vb → ws.heap[vb]? = some (.cells #[.int .i64 lo, .int .i64 hi, .int .i64 0, .int .i64 0, .int .i64 0, .int .i64 s] 62 (0, 0)) → base ≤ ws.heap.size → Calls Tryz.prog 68 #[.slice A n1 c, .int .i64 p, .slice (some ⟨vb, 0, none⟩) 1 1] ws (InsP base l2 A c ws)) := by
      intro vb ws h1 h2 h3 h4
      have := insert_any base A c l1 p ⟨lo, hi, 0, 0, 0, s⟩ vb ws h1 hpl h3 (fun e => by have := HO4.out.lt vb e; omega) (by rw [HN1.out]; omega) h4
      rwa [HST1.out, HN1.out] at this
    have HJ0 : Hid (∀ a : Act, a.tmps.size = 52 → JIns base W4.heap.size A c l1 l2 false a (W4.drewN 1)) := fun a ha => ⟨ha, fun _ => HO4.out.go (below_drewN _ _), fun h => absurd h (by decide)⟩
    have HRL : Hid (∀ q, bk A c = some q → q < W4.heap.size) := fun q e => (HO4.out.lt q e).2
    have HM : Hid (∀ (q0 : Value) (w5 w6 : World), (∃ vb, q0 = .slice (some ⟨vb, 0, none⟩) 1 1 ∧ W4.heap.size ≤ vb ∧ w5.heap[vb]? = some (.cells #[.int .i64 lo, .int .i64 hi, .int .i64 0, .int .i64 0, .int .i64 0, .int .i64 s] 62 (0, 0))) → w5.grownBy w6 (bk A c) → (∃ vb, q0 = .slice (some ⟨vb, 0, none⟩) 1 1 ∧ W4.heap.size ≤ vb ∧ w6.heap[vb]? = some (.cells #[.int .i64 lo, .int .i64 hi, .int .i64 0, .int .i64 0, .int .i64 0, .int .i64 s] 62 (0, 0)))) := by
      rintro q0 w5 w6 ⟨vb, e, h1, h2⟩ hg
      exact ⟨vb, e, h1, (hg.block vb (lt_of_some h2) (fun e => by have := HRL.out vb e.symm; omega)).trans h2⟩
    have HFw : Hid (Fr w.heap.size (bk A c) (bk A c)) := Fr.refl _ _
    have HWS := Lib.hid HT4.out.size
    clear hpl hl1 hbase
    go_wp2
    refine wp_region_ac 11 52 (fun u v => u.grownBy v (bk A c)) (fun f a wr => JIns base W4.heap.size A c l1 l2 (f 8) a wr) [(fun q0 _ => q0 = .pointer (some ⟨P, 0, none⟩)), (fun q0 _ => q0 = .pointer (some ⟨P, 0, none⟩)), (fun q0 _ => q0 = .pointer (some ⟨P, 0, none⟩)), (fun q0 _ => q0 = .pointer (some ⟨P, 2, none⟩)), (fun q0 _ => q0 = .slice A n1 c), (fun q0 _ => q0 = .int .i64 (p : Nat)), (fun q0 _ => q0 = .agg #[.int .i64 lo, .int .i64 hi, .int .i64 0, .int .i64 0, .int .i64 0, .int .i64 s]), (fun q0 w5 => ∃ vb, q0 = .slice (some ⟨vb, 0, none⟩) 1 1 ∧ W4.heap.size ≤ vb ∧ w5.heap[vb]? = some (.cells #[.int .i64 lo, .int .i64 hi, .int .i64 0, .int .i64 0, .int .i64 0, .int .i64 s] 62 (0, 0))), (fun _ _ => True), (fun q0 _ => q0 = .pointer (some ⟨P, 0, none⟩)), (fun q0 _ => q0 = .pointer (some ⟨P, 2, none⟩))] (by kernel_rfl) (by kernel_rfl) rfl (fun _ _ _ => gr_trans) (gr_drewN _ _ _) (HJ0.out _ rfl) ?_ ?_ ?_
    · intro R hR
      simp only [List.mem_cons, List.not_mem_nil, or_false] at hR
      rcases hR with rfl | rfl | rfl | rfl | rfl | rfl | rfl | rfl | rfl | rfl | rfl <;> first | exact fun _ _ _ h _ => h | exact HM.out
    · simp only [List.take_succ_cons, List.take_zero]
      refine ⟨?_, ?_, ?_, ?_, ?_, ?_, ?_, ?_, ?_, ?_, ?_, trivial⟩
      · intro a ws f hle hjj hfi hun hdn hag hdep K Q hK
        have d0 : (a.tmps[0]?).getD undef = .pointer (some ⟨P, 0, none⟩) := eval_get (hag 0 (freeB_spec (by kernel_rfl)))
        rw [if_pos (show Region.wanted _ _ = true from rfl)]
        unfold Oper.wp
        simp [go_sem, d0]
        exact hK _ _ (gr_refl _ _) (hjj.put (by decide)) rfl
      · intro a ws f hle hjj hfi hun hdn hag hdep K Q hK
        have d0 : (a.tmps[0]?).getD undef = .pointer (some ⟨P, 0, none⟩) := eval_get (hag 0 (freeB_spec (by kernel_rfl)))
        rw [if_pos (show Region.wanted _ _ = true from rfl)]
        unfold Oper.wp
        simp [go_sem, d0]
        exact hK _ _ (gr_refl _ _) (hjj.put (by decide)) rfl
      · intro a ws f hle hjj hfi hun hdn hag hdep K Q hK
        have d42 : (a.tmps[42]?).getD undef = .pointer (some ⟨P, 0, none⟩) := eval_get (dep_of hdep 1 42 rfl (by kernel_rfl) rfl rfl)
        rw [if_pos (show Region.wanted _ _ = true from rfl)]
        unfold Oper.wp
        simp [go_sem, d42]
        exact hK _ _ (gr_refl _ _) (hjj.put (by decide)) rfl
      · intro a ws f hle hjj hfi hun hdn hag hdep K Q hK
        have d43 : (a.tmps[43]?).getD undef = .pointer (some ⟨P, 0, none⟩) := eval_get (dep_of hdep 2 43 rfl (by kernel_rfl) rfl rfl)
        rw [if_pos (show Region.wanted _ _ = true from rfl)]
        unfold Oper.wp
        simp [go_sem, d43]
        exact hK _ _ (gr_refl _ _) (hjj.put (by decide)) rfl
      · intro a ws f hle hjj hfi hun hdn hag hdep K Q hK
        have d44 : (a.tmps[44]?).getD undef = .pointer (some ⟨P, 2, none⟩) := eval_get (dep_of hdep 3 44 rfl (by kernel_rfl) rfl rfl)
        rw [if_pos (show Region.wanted _ _ = true from rfl)]
        have y0 := Go.Joins.cell_of_block ((hle.block P HPl.out HPR.out).trans HPx.out) 2
        unfold Oper.wp
        simp [go_sem, d44, y0]
        exact hK _ _ (gr_refl _ _) (hjj.put (by decide)) rfl
      · intro a ws f hle hjj hfi hun hdn hag hdep K Q hK
        have d5 : (a.tmps[5]?).getD undef = .int .i64 (p : Nat) := eval_get (hag 5 (freeB_spec (by kernel_rfl)))
        rw [if_pos (show Region.wanted _ _ = true from rfl)]
        unfold Oper.wp
        simp [go_sem, d5]
        exact hK _ _ (gr_refl _ _) (hjj.put (by decide)) rfl
      · intro a ws f hle hjj hfi hun hdn hag hdep K Q hK
        have d4 : (a.tmps[4]?).getD undef = .pointer (some ⟨G + 1, 0, none⟩) := eval_get (hag 4 (freeB_spec (by kernel_rfl)))
        rw [if_pos (show Region.wanted _ _ = true from rfl)]
        have yy := Go.Joins.cell_of_block ((hle.block (G + 1) HGl.out HGR.out).trans HGx.out)
        have y0 := yy 0; have y1 := yy 1; have y2 := yy 2; have y3 := yy 3; have y4 := yy 4; have y5 := yy 5
        simp only [List.getElem?_toArray, List.getElem?_cons_succ, List.getElem?_cons_zero] at y0 y1 y2 y3 y4 y5
        clear yy
        unfold Oper.wp
        simp [go_sem, d4, y0, y1, y2, y3, y4, y5]
        exact hK _ _ (gr_refl _ _) (hjj.put (by decide)) rfl
      · intro a ws f hle hjj hfi hun hdn hag hdep K Q hK
        have d47 : (a.tmps[47]?).getD undef = .agg #[.int .i64 lo, .int .i64 hi, .int .i64 0, .int .i64 0, .int .i64 0, .int .i64 s] := eval_get (dep_of hdep 6 47 rfl (by kernel_rfl) rfl rfl)
        rw [if_pos (show Region.wanted _ _ = true from rfl)]
        have hsz := hle.size
        unfold Oper.wp
        simp [go_sem, d47]
        exact hK _ _ (gr_alloc _ _ _) ((hjj.go (below_new _ _)).put (by decide)) ⟨_, rfl, hsz, heap_alloc_new _ _⟩
      · intro a ws f hle hjj hfi hun hdn hag hdep K Q hK
        have d45 : (a.tmps[45]?).getD undef = .slice A n1 c := eval_get (dep_of hdep 4 45 rfl (by kernel_rfl) rfl rfl)
        have d46 : (a.tmps[46]?).getD undef = .int .i64 (p : Nat) := eval_get (dep_of hdep 5 46 rfl (by kernel_rfl) rfl rfl)
        have d48 : (fun q0 w5 => ∃ vb, q0 = .slice (some ⟨vb, 0, none⟩) 1 1 ∧ W4.heap.size ≤ vb ∧ w5.heap[vb]? = some (.cells #[.int .i64 lo, .int .i64 hi, .int .i64 0, .int .i64 0, .int .i64 0, .int .i64 s] 62 (0, 0))) (a.eval (.tmp 48)) ws := dep_of hdep 7 48 rfl (by kernel_rfl) rfl rfl
        rw [if_pos (show Region.wanted _ _ = true from rfl)]
        obtain ⟨vb, d48, hvb1, hvb2⟩ := d48
        have d48 := eval_get d48
        have hun' : f 8 = false := hfi
        have hcon := C2.out vb ws (hjj.own hun') hvb1 hvb2 (Nat.le_trans hbs.out hle.size)
        unfold Oper.wp
        simp [go_sem, d45, d46, d48]
        refine hcon.mono ?_
        rintro e w9 ⟨A9, c9, rfl, ho9, hg9, hf9⟩
        exact hK _ _ hg9 (hjj.done ho9 (fun q hq => (hf9 q hq).imp id (Nat.le_trans hle.size))) trivial
      · intro a ws f hle hjj hfi hun hdn hag hdep K Q hK
        have d41 : (a.tmps[41]?).getD undef = .pointer (some ⟨P, 0, none⟩) := eval_get (dep_of hdep 0 41 rfl (by kernel_rfl) rfl rfl)
        rw [if_pos (show Region.wanted _ _ = true from rfl)]
        unfold Oper.wp
        simp [go_sem, d41]
        exact hK _ _ (gr_refl _ _) (hjj.put (by decide)) rfl
      · intro a ws f hle hjj hfi hun hdn hag hdep K Q hK
        have d50 : (a.tmps[50]?).getD undef = .pointer (some ⟨P, 0, none⟩) := eval_get (dep_of hdep 9 50 rfl (by kernel_rfl) rfl rfl)
        rw [if_pos (show Region.wanted _ _ = true from rfl)]
        unfold Oper.wp
        simp [go_sem, d50]
        exact hK _ _ (gr_refl _ _) (hjj.put (by decide)) rfl
    · intro a ws f hle hjj hft hff hsz hdf hag hend
      have f41 : a.eval (.tmp 41) = .pointer (some ⟨P, 0, none⟩) := end_of hend 0 41 (by decide) rfl rfl rfl
      have f42 : a.eval (.tmp 42) = .pointer (some ⟨P, 0, none⟩) := end_of hend 1 42 (by decide) rfl rfl rfl
      have f43 : a.eval (.tmp 43) = .pointer (some ⟨P, 0, none⟩) := end_of hend 2 43 (by decide) rfl rfl rfl
      have f44 : a.eval (.tmp 44) = .pointer (some ⟨P, 2, none⟩) := end_of hend 3 44 (by decide) rfl rfl rfl
      have f45 : a.eval (.tmp 45) = .slice A n1 c := end_of hend 4 45 (by decide) rfl rfl rfl
      have f46 : a.eval (.tmp 46) = .int .i64 (p : Nat) := end_of hend 5 46 (by decide) rfl rfl rfl
      have f47 : a.eval (.tmp 47) = .agg #[.int .i64 lo, .int .i64 hi, .int .i64 0, .int .i64 0, .int .i64 0, .int .i64 s] := end_of hend 6 47 (by decide) rfl rfl rfl
      have f48 : (fun q0 w5 => ∃ vb, q0 = .slice (some ⟨vb, 0, none⟩) 1 1 ∧ W4.heap.size ≤ vb ∧ w5.heap[vb]? = some (.cells #[.int .i64 lo, .int .i64 hi, .int .i64 0, .int .i64 0, .int .i64 0, .int .i64 s] 62 (0, 0))) (a.eval (.tmp 48)) ws := end_of hend 7 48 (by decide) rfl rfl rfl
      have f49 : (fun _ _ => True) (a.eval (.tmp 49)) ws := end_of hend 8 49 (by decide) rfl rfl rfl
      have f50 : a.eval (.tmp 50) = .pointer (some ⟨P, 0, none⟩) := end_of hend 9 50 (by decide) rfl rfl rfl
      have f51 : a.eval (.tmp 51) = .pointer (some ⟨P, 2, none⟩) := end_of hend 10 51 (by decide) rfl rfl rfl
      have ea := act_block 41 11 hsz hdf hag [41, 42, 43, 44, 45, 46, 47, 48, 49, 50, 51] (by kernel_rfl) (by kernel_rfl) (of_decide_eq_true (by kernel_rfl))
      clear hag hend hsz hdf
      obtain ⟨A', c', e49, ho, hf⟩ := hjj.new (hft 8 (by decide))
      simp only [List.map_cons, List.map_nil, f41, f42, f43, f44, f45, f46, f47, f50, f51] at ea
      clear f41 f42 f43 f44 f45 f46 f47 f50 f51
      generalize a.eval (.tmp 48) = x48 at ea f48
      generalize a.eval (.tmp 49) = x49 at ea f49
      simp only [List.take_succ_cons, List.take_zero, List.drop_succ_cons, List.drop_zero, List.cons_append, List.nil_append] at ea
      subst ea
      have HPb := Lib.hid ((hle.block P HPl.out HPR.out).trans HPx.out)
      have HO5 := Lib.hid ho
      have HF5 := Lib.hid hf
      have HGr := Lib.hid hle
      have pf := Go.Joins.unfrozen_of_block HPb.out 2
      have pc1 := Go.Joins.cell_of_block HPb.out 2
      simp only [List.getElem?_toArray, List.getElem?_cons_succ, List.getElem?_cons_zero] at pc1
      have hPs := lt_of_some HPb.out
      clear hjj hft hff hle ho hf HJ0 HM
      replace e49 : x49 = .slice A' l2.length c' := e49
      subst e49
      have HT5 : Hid (Tw P (bk A c) w ws) := HT4.out.trans (Tw.of_grown HGr.out) (Fr.refl _ _)
      have HFF : Hid (Fr w.heap.size (bk A c) (bk A' c')) := fun q hq => (HF5.out q hq).imp id (Nat.le_trans HWS.out)
      obtain ⟨N2, HN2⟩ : ∃ N2, Hid (l2.length = N2) := ⟨_, rfl⟩
      simp only [HN2.out]
      go_wp2
      go_end0
      exact step_end H0.out HT5.out HFF.out ⟨_, HPb.out⟩ HO5.out _ HN2.out rfl
  · have dk : (k == 1) = false := by simpa using hk1
    obtain rfl := HST.out.trans (if_neg hk1)
    go_wp2
    go_end0
    exact step_end H0.out HT2.out (Fr.refl _ _) ⟨_, HP2.out⟩ HO.out _ rfl rfl
end Go.Proofs.YtfapfkaipdcflaaGreat
