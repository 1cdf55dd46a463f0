/-
  Merging two sets side by side; Union, Meet, Minus, Within of package nodeset.
-/
import Derived.Test.YtioohmhllajifaaGreatNe
namespace Go.Proofs.YtioohmhllajifaaGreat
open Go.RowKit Go.Lib

theorem m_any (x y : Bool) (w : World) : Calls Tryz.prog 53 #[.bool x, .bool y] w fun e w' => e = .returned (.bool (x && y)) ∧ w = w' := by
  cases x <;> cases y <;> (go_enter Tryz.func53, Tryz.ntmps53; go_wp2; go_ret; exact ⟨rfl, rfl⟩)

theorem enter_of {f : FuncId} {fn : Func} {c : Code} (hf : Tryz.prog.funcs[f]? = some fn) (hname : (fn.name == "runtime.NumGoroutine") = false) (hb : fn.body = some c) (args : Array Value) (w : World) :
    (callFunc f args).run Tryz.prog w = .ok (.enter f args) w := by
  have h1 : fn.name ≠ "runtime.NumGoroutine" := by simpa using hname
  simp [callFunc, hf, h1, hb]
theorem int_info : (Tryz.prog.info? 3).map (fun i => (i.zero, i.size, i.bytes)) = some (some (.int .i64 0), 1, 8) := by kernel_rfl
theorem ret_slice {A : Option Addr} {c : Nat} {a b : List Int} (h : a = b) : Ending.returned (.slice A a.length c) = .returned (.slice A b.length c) := by rw [h]
theorem mg_nn (f : Bool → Bool → Bool) : Ns.mg f [] [] = [] := by unfold Ns.mg; rfl
theorem mg_L (f : Bool → Bool → Bool) (x : Int) (a : List Int) : Ns.mg f (x :: a) [] = Ns.one (f true false) x ++ Ns.mg f a [] := by rw [Ns.mg]
theorem mg_R (f : Bool → Bool → Bool) (y : Int) (b : List Int) : Ns.mg f [] (y :: b) = Ns.one (f false true) y ++ Ns.mg f [] b := by rw [Ns.mg]
theorem mg_LT (f : Bool → Bool → Bool) (x y : Int) (a b : List Int) (h : x < y) : Ns.mg f (x :: a) (y :: b) = Ns.one (f true false) x ++ Ns.mg f a (y :: b) := by rw [Ns.mg, if_pos h]
theorem mg_GT (f : Bool → Bool → Bool) (x y : Int) (a b : List Int) (h : y < x) : Ns.mg f (x :: a) (y :: b) = Ns.one (f false true) y ++ Ns.mg f (x :: a) b := by rw [Ns.mg, if_neg (by omega), if_pos h]
theorem mg_EQ (f : Bool → Bool → Bool) (x : Int) (a b : List Int) : Ns.mg f (x :: a) (x :: b) = Ns.one (f true true) x ++ Ns.mg f a b := by rw [Ns.mg, if_neg (by omega), if_neg (by omega)]
theorem keep_yes {ks m r : List Int} {x : Int} {t : Bool} (h : ks ++ (Ns.one t x ++ m) = r) (ht : t = true) : (ks ++ [x]) ++ m = r := by subst ht; simpa [Ns.one] using h
theorem keep_no {ks m r : List Int} {x : Int} {t : Bool} (h : ks ++ (Ns.one t x ++ m) = r) (ht : t = false) : ks ++ m = r := by subst ht; simpa [Ns.one] using h
theorem fr_LT (x y : Int) (a b : List Int) (h : x < y) : fr (x :: a) (y :: b) = -1 := compareInt_lt x y h
theorem fr_GT (x y : Int) (a b : List Int) (h : y < x) : fr (x :: a) (y :: b) = 1 := compareInt_gt x y h
theorem fr_EQ (x : Int) (a b : List Int) : fr (x :: a) (x :: b) = 0 := compareInt_eq x
theorem below_grown1 {B : Nat} {w0 w1 w2 : World} {o : Obj} {v : Value} (h : Below B w0 w1) (hg : (w1.alloc o).grownBy w2 v.ownBlock) (hv : ∀ k, v.ownBlock = some k → B ≤ k) (hB : B ≤ w1.heap.size) : Below B w0 w2 :=
  (h.alloc hB o).grown hg (by simp; omega) hv
theorem wpList_push {ops : Array Oper} {rest : List Oper} {o : Oper} {a : Act} {Q : Exit → Act → World → Prop} (W : World) (hgd : o.guard = none) (s x : Operand)
    (ho : o.op = .call { callee := .builtin .append, args := #[s, x], argTypes := #[22, 22] }) (base : Nat) (A2 : Option Addr) (c2 : Nat) (ks : List Int) (z : Int)
    (hs : a.eval s = .slice A2 ks.length c2) (hown : W.ownsRow base 3 1 (.slice A2 ks.length c2) ks.length (vals ks)) (hx : a.eval x = .slice (some ⟨W.heap.size, 0, none⟩) 1 1)
    (hk : ks.length ≤ 200000) (hbase : base ≤ W.heap.size)
    (h : ∀ A3 c3 w', Hid (w'.ownsRow base 3 1 (.slice A3 (ks ++ [z]).length c3) (ks ++ [z]).length (vals (ks ++ [z]))) → Hid (Below base W w') → wpList Tryz.prog ops Q rest (a.put o.dst (.slice A3 (ks ++ [z]).length c3)) w') :
    wpList Tryz.prog ops Q (o :: rest) a (W.alloc (.cells #[.int .i64 z] 3)) := by
  obtain ⟨i0, hi0, hz0, hz1, hz2⟩ := info_parts int_info
  refine wpList_append_any _ hgd s x 22 ho base 3 i0 _ 1 8 Tryz.underlying22 hi0 hz0 hz1 hz2 rfl (by omega) (.slice A2 ks.length c2) ks.length (vals ks) hs (hown.alloc _)
    _ (some ⟨W.heap.size, 0, none⟩) 1 1 [.int .i64 z] hx (reads_new1 W z 3) (by simp [Value.oneCell']) (by simp only [maxLen]; omega) (by omega) (by simp; omega) ?_
  intro v3 w3 hown3 hg3 hat3
  have hbw : Below base W w3 := below_grown1 (w1 := W) (Below.refl _ _) hg3 (fun k hk => (hown.lt k hk).1) hbase
  obtain ⟨A3, c3, rfl⟩ : ∃ A3 c3, v3 = .slice A3 (ks ++ [z]).length c3 := by
    rcases hown3.2 with ⟨e0, e1⟩ | ⟨g, cap, cur, e0, _⟩
    · exact absurd e1 (by omega)
    · exact ⟨some ⟨g, 0, none⟩, cap, by rw [e0]; simp⟩
  refine h A3 c3 w3 ?_ hbw
  show w3.ownsRow base 3 1 _ _ _
  rw [vals_append]
  simpa [vals] using hown3
theorem below_undraw {B n : Nat} {w w' : World} (h : Below B (w.drewN n) w') : Below B w w' := ⟨h.os, h.tape, h.output, h.size, h.block⟩
theorem rd_any {B : Nat} {w : World} {A : Option Addr} {c : Nat} {l : List Int} (h : RB B w A c l) (hB : B ≤ w.heap.size) : RD w A c l := h.rd hB
set_option maxHeartbeats 1000000 in
set_option maxRecDepth 100000 in
theorem merged_any (K : FuncId) (f : Bool → Bool → Bool) (hE : ∀ args W, (callFunc K args).run Tryz.prog W = .ok (.enter K args) W) (hK : ∀ x y w, Calls Tryz.prog K #[.bool x, .bool y] w fun e w' => e = .returned (.bool (f x y)) ∧ w = w')
    (A B : Option Addr) (c d : Nat) (a b : List Int) (w : World) (h : RD w A c a) (h' : RD w B d b) (hl : a.length ≤ 65536) (hl' : b.length ≤ 65536) :
    Calls Tryz.prog 51 #[.slice A a.length c, .slice B b.length d, .func (.func K) #[] #[]] w (Gives w (Ns.mg f a b)) := by
  obtain ⟨i0, hi0, hz0, hz1, hz2⟩ := info_parts int_info
  have HI := Lib.hid hi0
  have HZ0 := Lib.hid hz0
  have HZ1 := Lib.hid hz1
  have HZ2 := Lib.hid hz2
  clear hi0 hz0 hz1 hz2
  have HK := Lib.hid hK
  have HE := Lib.hid hE
  clear hK hE
  go_enter Tryz.func51, Tryz.ntmps51
  go_wp2
  go_loopw [0, 1, 7] (fun u v o wr => ∃ (A1 B1 A2 : Option Addr) (c1 d1 c2 : Nat) (a1 b1 ks : List Int), u = .slice A1 a1.length c1 ∧ v = .slice B1 b1.length d1 ∧ o = .slice A2 ks.length c2 ∧
      RB w.heap.size wr A1 c1 a1 ∧ RB w.heap.size wr B1 d1 b1 ∧ a1.length ≤ 65536 ∧ b1.length ≤ 65536 ∧ ks.length + a1.length + b1.length ≤ 131072 ∧
      Hid (wr.ownsRow w.heap.size 3 1 (.slice A2 ks.length c2) ks.length (vals ks)) ∧ Hid (Below w.heap.size w wr) ∧ Hid (ks ++ Ns.mg f a1 b1 = Ns.mg f a b))
    (fun u v _ _ => (match u with | .slice _ n _ => n | _ => 0) + (match v with | .slice _ n _ => n | _ => 0))
  case atStart => exact ⟨A, B, none, c, d, 0, a, b, [], rfl, rfl, rfl, h, h', hl, hl', by simp; omega, World.ownsRow_nil _ _ _ _, Below.refl _ _, rfl⟩
  case round =>
    obtain ⟨A1, B1, A2, c1, d1, c2, a1, b1, ks, rfl, rfl, rfl, h1, h2, hl1, hl2, hl3, HO, HB, HM⟩ := hrel
    cases a1 with
    | nil =>
      cases b1 with
      | nil =>
        rw [mg_nn, List.append_nil] at HM
        go_wp2
        go_ret
        refine ⟨A2, c2, ret_slice HM.out, ?_, HB.out⟩
        rw [← HM.out]
        exact RD.of_own HO.out
      | cons y b1 =>
        have hf1 := (fronts_any A1 B1 c1 d1 [] (y :: b1) wr (h1.rd HB.out.size) (h2.rd HB.out.size) hl1 hl2)
        rw [show fr [] (y :: b1) = 1 from rfl] at hf1
        have HF := Lib.hid hf1
        clear hf1
        have HM2 := HM.out
        rw [mg_R] at HM2
        have HM3 := Lib.hid HM2
        clear HM2 HM
        obtain ⟨ae, y', rfl, hb', hy, hcell'⟩ := h2.let_ (k := 0) (by simp)
        obtain rfl : y = y' := by simpa using hy
        have hc0' : wr.cell? ae = some (.int .i64 y) := hcell'
        have ht' : RB w.heap.size wr (if d1 = 1 then some ae else some ⟨ae.block, ae.off + 1, none⟩) (d1 - 1) b1 := h2.tail_ (k := 1) (by simp)
        have hd1 := h2.len
        simp only [List.length_cons] at hd1
        clear hcell' hy
        simp only [List.length_cons, List.length_nil] at hl1 hl2 hl3
        by_cases hft : f false true = true
        · have HM4 := Lib.hid (keep_yes HM3.out hft)
          go_wp2_with fail
          refine (HF.out).mono ?_
          rintro e w1 ⟨rfl, n1, rfl⟩
          go_wp2_with fail
          go_quiet (fail)
          generalize (if d1 = 1 then some ae else some ({ block := ae.block, off := ae.off + 1 } : Addr)) = BX at ht' ⊢
          go_wp2_with fail
          rw [HE.out, Oper.upon_enter]
          refine (HK.out false true _).mono ?_
          rintro e w2 ⟨rfl, rfl⟩
          go_wp2_with (at_builtin; refine wpList_push _ rfl (.tmp 43) (.tmp 45) rfl w.heap.size A2 c2 ks y rfl (by exact HO.out) rfl (by omega) (by exact HB.out.size) ?_; intro A3 c3 w3 HO3 HBR; clear HF HK HE HI HZ0 HZ1 HZ2)
          go_roundw
          case rel => exact ⟨_, _, A3, _, _, c3, [], b1, ks ++ [y], rfl, rfl, by simp, h1.go (below_undraw HBR.out), ht'.go (below_undraw HBR.out), by first | omega | (simp; omega), by first | omega | (simp; omega), by simp; omega, HO3.out, HB.out.trans (below_undraw HBR.out), HM4.out⟩
          case measure => simp <;> omega
        · have hff : f false true = false := by simpa using hft
          have HM4 := Lib.hid (keep_no HM3.out hff)
          clear hft
          go_wp2_with fail
          refine (HF.out).mono ?_
          rintro e w1 ⟨rfl, n1, rfl⟩
          go_wp2_with fail
          go_quiet (fail)
          generalize (if d1 = 1 then some ae else some ({ block := ae.block, off := ae.off + 1 } : Addr)) = BX at ht' ⊢
          go_wp2_with fail
          rw [HE.out, Oper.upon_enter]
          refine (HK.out false true _).mono ?_
          rintro e w2 ⟨rfl, rfl⟩
          go_wp2
          go_roundw
          case rel => exact ⟨_, _, A2, _, _, c2, [], b1, ks, rfl, rfl, rfl, h1.go (⟨rfl, rfl, rfl, Nat.le_refl _, fun _ _ => rfl⟩), ht'.go (⟨rfl, rfl, rfl, Nat.le_refl _, fun _ _ => rfl⟩), by first | omega | (simp; omega), by first | omega | (simp; omega), by first | omega | (simp; omega), HO.out, HB.out.trans ⟨rfl, rfl, rfl, Nat.le_refl _, fun _ _ => rfl⟩, HM4.out⟩
          case measure => simp <;> omega
    | cons x a1 =>
      cases b1 with
      | nil =>
        have hf1 := (fronts_any A1 B1 c1 d1 (x :: a1) [] wr (h1.rd HB.out.size) (h2.rd HB.out.size) hl1 hl2)
        rw [show fr (x :: a1) [] = -1 from rfl] at hf1
        have HF := Lib.hid hf1
        clear hf1
        have HM2 := HM.out
        rw [mg_L] at HM2
        have HM3 := Lib.hid HM2
        clear HM2 HM
        obtain ⟨ad, x', rfl, hb, hx, hcell⟩ := h1.let_ (k := 0) (by simp)
        obtain rfl : x = x' := by simpa using hx
        have hc0 : wr.cell? ad = some (.int .i64 x) := hcell
        have ht : RB w.heap.size wr (if c1 = 1 then some ad else some ⟨ad.block, ad.off + 1, none⟩) (c1 - 1) a1 := h1.tail_ (k := 1) (by simp)
        have hc1 := h1.len
        simp only [List.length_cons] at hc1
        clear hcell hx
        simp only [List.length_cons, List.length_nil] at hl1 hl2 hl3
        by_cases hft : f true false = true
        · have HM4 := Lib.hid (keep_yes HM3.out hft)
          go_wp2_with fail
          refine (HF.out).mono ?_
          rintro e w1 ⟨rfl, n1, rfl⟩
          go_wp2_with fail
          go_quiet (fail)
          generalize (if c1 = 1 then some ad else some ({ block := ad.block, off := ad.off + 1 } : Addr)) = AX at ht ⊢
          go_wp2_with fail
          rw [HE.out, Oper.upon_enter]
          refine (HK.out true false _).mono ?_
          rintro e w2 ⟨rfl, rfl⟩
          go_wp2_with (at_builtin; refine wpList_push _ rfl (.tmp 43) (.tmp 45) rfl w.heap.size A2 c2 ks x rfl (by exact HO.out) rfl (by omega) (by exact HB.out.size) ?_; intro A3 c3 w3 HO3 HBR; clear HF HK HE HI HZ0 HZ1 HZ2)
          go_roundw
          case rel => exact ⟨_, _, A3, _, _, c3, a1, [], ks ++ [x], rfl, rfl, by simp, ht.go (below_undraw HBR.out), h2.go (below_undraw HBR.out), by first | omega | (simp; omega), by first | omega | (simp; omega), by simp; omega, HO3.out, HB.out.trans (below_undraw HBR.out), HM4.out⟩
          case measure => simp <;> omega
        · have hff : f true false = false := by simpa using hft
          have HM4 := Lib.hid (keep_no HM3.out hff)
          clear hft
          go_wp2_with fail
          refine (HF.out).mono ?_
          rintro e w1 ⟨rfl, n1, rfl⟩
          go_wp2_with fail
          go_quiet (fail)
          generalize (if c1 = 1 then some ad else some ({ block := ad.block, off := ad.off + 1 } : Addr)) = AX at ht ⊢
          go_wp2_with fail
          rw [HE.out, Oper.upon_enter]
          refine (HK.out true false _).mono ?_
          rintro e w2 ⟨rfl, rfl⟩
          go_wp2
          go_roundw
          case rel => exact ⟨_, _, A2, _, _, c2, a1, [], ks, rfl, rfl, rfl, ht.go (⟨rfl, rfl, rfl, Nat.le_refl _, fun _ _ => rfl⟩), h2.go (⟨rfl, rfl, rfl, Nat.le_refl _, fun _ _ => rfl⟩), by first | omega | (simp; omega), by first | omega | (simp; omega), by first | omega | (simp; omega), HO.out, HB.out.trans ⟨rfl, rfl, rfl, Nat.le_refl _, fun _ _ => rfl⟩, HM4.out⟩
          case measure => simp <;> omega
      | cons y b1 =>
        by_cases hxy : x < y
        · have hf1 := (fronts_any A1 B1 c1 d1 (x :: a1) (y :: b1) wr (h1.rd HB.out.size) (h2.rd HB.out.size) hl1 hl2)
          rw [fr_LT x y a1 b1 hxy] at hf1
          have HF := Lib.hid hf1
          clear hf1
          have HM2 := HM.out
          rw [mg_LT f x y a1 b1 hxy] at HM2
          have HM3 := Lib.hid HM2
          clear HM2 HM
          obtain ⟨ad, x', rfl, hb, hx, hcell⟩ := h1.let_ (k := 0) (by simp)
          obtain rfl : x = x' := by simpa using hx
          have hc0 : wr.cell? ad = some (.int .i64 x) := hcell
          have ht : RB w.heap.size wr (if c1 = 1 then some ad else some ⟨ad.block, ad.off + 1, none⟩) (c1 - 1) a1 := h1.tail_ (k := 1) (by simp)
          have hc1 := h1.len
          simp only [List.length_cons] at hc1
          clear hcell hx
          simp only [List.length_cons] at hl1 hl2 hl3
          by_cases hft : f true false = true
          · have HM4 := Lib.hid (keep_yes HM3.out hft)
            go_wp2_with fail
            refine (HF.out).mono ?_
            rintro e w1 ⟨rfl, n1, rfl⟩
            go_wp2_with fail
            go_quiet (fail)
            generalize (if c1 = 1 then some ad else some ({ block := ad.block, off := ad.off + 1 } : Addr)) = AX at ht ⊢
            go_wp2_with fail
            rw [HE.out, Oper.upon_enter]
            refine (HK.out true false _).mono ?_
            rintro e w2 ⟨rfl, rfl⟩
            go_wp2_with (at_builtin; refine wpList_push _ rfl (.tmp 43) (.tmp 45) rfl w.heap.size A2 c2 ks x rfl (by exact HO.out) rfl (by omega) (by exact HB.out.size) ?_; intro A3 c3 w3 HO3 HBR; clear HF HK HE HI HZ0 HZ1 HZ2)
            go_roundw
            case rel => exact ⟨_, _, A3, _, _, c3, a1, (y :: b1), ks ++ [x], rfl, rfl, by simp, ht.go (below_undraw HBR.out), h2.go (below_undraw HBR.out), by first | omega | (simp; omega), by first | omega | (simp; omega), by simp; omega, HO3.out, HB.out.trans (below_undraw HBR.out), HM4.out⟩
            case measure => simp <;> omega
          · have hff : f true false = false := by simpa using hft
            have HM4 := Lib.hid (keep_no HM3.out hff)
            clear hft
            go_wp2_with fail
            refine (HF.out).mono ?_
            rintro e w1 ⟨rfl, n1, rfl⟩
            go_wp2_with fail
            go_quiet (fail)
            generalize (if c1 = 1 then some ad else some ({ block := ad.block, off := ad.off + 1 } : Addr)) = AX at ht ⊢
            go_wp2_with fail
            rw [HE.out, Oper.upon_enter]
            refine (HK.out true false _).mono ?_
            rintro e w2 ⟨rfl, rfl⟩
            go_wp2
            go_roundw
            case rel => exact ⟨_, _, A2, _, _, c2, a1, (y :: b1), ks, rfl, rfl, rfl, ht.go (⟨rfl, rfl, rfl, Nat.le_refl _, fun _ _ => rfl⟩), h2.go (⟨rfl, rfl, rfl, Nat.le_refl _, fun _ _ => rfl⟩), by first | omega | (simp; omega), by first | omega | (simp; omega), by first | omega | (simp; omega), HO.out, HB.out.trans ⟨rfl, rfl, rfl, Nat.le_refl _, fun _ _ => rfl⟩, HM4.out⟩
            case measure => simp <;> omega
        · by_cases hyx : y < x
          · have hf1 := (fronts_any A1 B1 c1 d1 (x :: a1) (y :: b1) wr (h1.rd HB.out.size) (h2.rd HB.out.size) hl1 hl2)
            rw [fr_GT x y a1 b1 hyx] at hf1
            have HF := Lib.hid hf1
            clear hf1
            have HM2 := HM.out
            rw [mg_GT f x y a1 b1 hyx] at HM2
            have HM3 := Lib.hid HM2
            clear HM2 HM
            obtain ⟨ae, y', rfl, hb', hy, hcell'⟩ := h2.let_ (k := 0) (by simp)
            obtain rfl : y = y' := by simpa using hy
            have hc0' : wr.cell? ae = some (.int .i64 y) := hcell'
            have ht' : RB w.heap.size wr (if d1 = 1 then some ae else some ⟨ae.block, ae.off + 1, none⟩) (d1 - 1) b1 := h2.tail_ (k := 1) (by simp)
            have hd1 := h2.len
            simp only [List.length_cons] at hd1
            clear hcell' hy
            simp only [List.length_cons] at hl1 hl2 hl3
            by_cases hft : f false true = true
            · have HM4 := Lib.hid (keep_yes HM3.out hft)
              go_wp2_with fail
              refine (HF.out).mono ?_
              rintro e w1 ⟨rfl, n1, rfl⟩
              go_wp2_with fail
              go_quiet (fail)
              generalize (if d1 = 1 then some ae else some ({ block := ae.block, off := ae.off + 1 } : Addr)) = BX at ht' ⊢
              go_wp2_with fail
              rw [HE.out, Oper.upon_enter]
              refine (HK.out false true _).mono ?_
              rintro e w2 ⟨rfl, rfl⟩
              go_wp2_with (at_builtin; refine wpList_push _ rfl (.tmp 43) (.tmp 45) rfl w.heap.size A2 c2 ks y rfl (by exact HO.out) rfl (by omega) (by exact HB.out.size) ?_; intro A3 c3 w3 HO3 HBR; clear HF HK HE HI HZ0 HZ1 HZ2)
              go_roundw
              case rel => exact ⟨_, _, A3, _, _, c3, (x :: a1), b1, ks ++ [y], rfl, rfl, by simp, h1.go (below_undraw HBR.out), ht'.go (below_undraw HBR.out), by first | omega | (simp; omega), by first | omega | (simp; omega), by simp; omega, HO3.out, HB.out.trans (below_undraw HBR.out), HM4.out⟩
              case measure => simp <;> omega
            · have hff : f false true = false := by simpa using hft
              have HM4 := Lib.hid (keep_no HM3.out hff)
              clear hft
              go_wp2_with fail
              refine (HF.out).mono ?_
              rintro e w1 ⟨rfl, n1, rfl⟩
              go_wp2_with fail
              go_quiet (fail)
              generalize (if d1 = 1 then some ae else some ({ block := ae.block, off := ae.off + 1 } : Addr)) = BX at ht' ⊢
              go_wp2_with fail
              rw [HE.out, Oper.upon_enter]
              refine (HK.out false true _).mono ?_
              rintro e w2 ⟨rfl, rfl⟩
              go_wp2
              go_roundw
              case rel => exact ⟨_, _, A2, _, _, c2, (x :: a1), b1, ks, rfl, rfl, rfl, h1.go (⟨rfl, rfl, rfl, Nat.le_refl _, fun _ _ => rfl⟩), ht'.go (⟨rfl, rfl, rfl, Nat.le_refl _, fun _ _ => rfl⟩), by first | omega | (simp; omega), by first | omega | (simp; omega), by first | omega | (simp; omega), HO.out, HB.out.trans ⟨rfl, rfl, rfl, Nat.le_refl _, fun _ _ => rfl⟩, HM4.out⟩
              case measure => simp <;> omega
          · obtain rfl : x = y := by omega
            have hf1 := (fronts_any A1 B1 c1 d1 (x :: a1) (x :: b1) wr (h1.rd HB.out.size) (h2.rd HB.out.size) hl1 hl2)
            rw [fr_EQ x a1 b1] at hf1
            have HF := Lib.hid hf1
            clear hf1
            have HM2 := HM.out
            rw [mg_EQ f x a1 b1] at HM2
            have HM3 := Lib.hid HM2
            clear HM2 HM
            obtain ⟨ad, x', rfl, hb, hx, hcell⟩ := h1.let_ (k := 0) (by simp)
            obtain rfl : x = x' := by simpa using hx
            have hc0 : wr.cell? ad = some (.int .i64 x) := hcell
            have ht : RB w.heap.size wr (if c1 = 1 then some ad else some ⟨ad.block, ad.off + 1, none⟩) (c1 - 1) a1 := h1.tail_ (k := 1) (by simp)
            have hc1 := h1.len
            simp only [List.length_cons] at hc1
            clear hcell hx
            obtain ⟨ae, y', rfl, hb', hy, hcell'⟩ := h2.let_ (k := 0) (by simp)
            obtain rfl : x = y' := by simpa using hy
            have hc0' : wr.cell? ae = some (.int .i64 x) := hcell'
            have ht' : RB w.heap.size wr (if d1 = 1 then some ae else some ⟨ae.block, ae.off + 1, none⟩) (d1 - 1) b1 := h2.tail_ (k := 1) (by simp)
            have hd1 := h2.len
            simp only [List.length_cons] at hd1
            clear hcell' hy
            simp only [List.length_cons] at hl1 hl2 hl3
            by_cases hft : f true true = true
            · have HM4 := Lib.hid (keep_yes HM3.out hft)
              go_wp2_with fail
              refine (HF.out).mono ?_
              rintro e w1 ⟨rfl, n1, rfl⟩
              go_wp2_with fail
              go_quiet (fail)
              generalize (if c1 = 1 then some ad else some ({ block := ad.block, off := ad.off + 1 } : Addr)) = AX at ht ⊢
              go_wp2_with fail
              go_quiet (fail)
              generalize (if d1 = 1 then some ae else some ({ block := ae.block, off := ae.off + 1 } : Addr)) = BX at ht' ⊢
              go_wp2_with fail
              rw [HE.out, Oper.upon_enter]
              refine (HK.out true true _).mono ?_
              rintro e w2 ⟨rfl, rfl⟩
              go_wp2_with (at_builtin; refine wpList_push _ rfl (.tmp 43) (.tmp 45) rfl w.heap.size A2 c2 ks x rfl (by exact HO.out) rfl (by omega) (by exact HB.out.size) ?_; intro A3 c3 w3 HO3 HBR; clear HF HK HE HI HZ0 HZ1 HZ2)
              go_roundw
              case rel => exact ⟨_, _, A3, _, _, c3, a1, b1, ks ++ [x], rfl, rfl, by simp, ht.go (below_undraw HBR.out), ht'.go (below_undraw HBR.out), by first | omega | (simp; omega), by first | omega | (simp; omega), by simp; omega, HO3.out, HB.out.trans (below_undraw HBR.out), HM4.out⟩
              case measure => simp <;> omega
            · have hff : f true true = false := by simpa using hft
              have HM4 := Lib.hid (keep_no HM3.out hff)
              clear hft
              go_wp2_with fail
              refine (HF.out).mono ?_
              rintro e w1 ⟨rfl, n1, rfl⟩
              go_wp2_with fail
              go_quiet (fail)
              generalize (if c1 = 1 then some ad else some ({ block := ad.block, off := ad.off + 1 } : Addr)) = AX at ht ⊢
              go_wp2_with fail
              go_quiet (fail)
              generalize (if d1 = 1 then some ae else some ({ block := ae.block, off := ae.off + 1 } : Addr)) = BX at ht' ⊢
              go_wp2_with fail
              rw [HE.out, Oper.upon_enter]
              refine (HK.out true true _).mono ?_
              rintro e w2 ⟨rfl, rfl⟩
              go_wp2
              go_roundw
              case rel => exact ⟨_, _, A2, _, _, c2, a1, b1, ks, rfl, rfl, rfl, ht.go (⟨rfl, rfl, rfl, Nat.le_refl _, fun _ _ => rfl⟩), ht'.go (⟨rfl, rfl, rfl, Nat.le_refl _, fun _ _ => rfl⟩), by first | omega | (simp; omega), by first | omega | (simp; omega), by first | omega | (simp; omega), HO.out, HB.out.trans ⟨rfl, rfl, rfl, Nat.le_refl _, fun _ _ => rfl⟩, HM4.out⟩
              case measure => simp <;> omega

theorem Gives.mono_ {w w' : World} {l : List Int} {e : Ending} {w2 : World} (h : Gives w' l e w2) (hb : Below w.heap.size w w') : Gives w l e w2 := by
  obtain ⟨A, c, he, h1, h2⟩ := h
  exact ⟨A, c, he, h1, hb.trans (h2.mono hb.size)⟩


theorem meet_any (A B : Option Addr) (c d : Nat) (a b : List Int) (w : World) (h : RD w A c a) (h' : RD w B d b) (hl : a.length ≤ 65536) (hl' : b.length ≤ 65536) :
    Calls Tryz.prog 34 #[.slice A a.length c, .slice B b.length d] w (Gives w (Ns.mee a b)) := by
  have H := Lib.hid h
  have H' := Lib.hid h'
  clear h h'
  go_enter Tryz.func34, Tryz.ntmps34
  go_wp2_with fail
  refine (of_any A c a w H.out hl).mono ?_
  rintro e w1 ⟨A1, c1, rfl, h1, hb1⟩
  have H1 := Lib.hid h1
  have HB1 := Lib.hid hb1
  clear h1 hb1
  go_wp2_with fail
  refine (of_any B d b w1 (H'.out.go HB1.out) hl').mono ?_
  rintro e w2 ⟨A2, c2, rfl, h2, hb2⟩
  have H2 := Lib.hid h2
  have HB2 := Lib.hid hb2
  clear h2 hb2
  have hm := merged_any 53 (fun x y => x && y) (enter_of Tryz.func53 (by kernel_rfl) rfl) m_any A1 A2 c1 c2 (Ns.norm a) (Ns.norm b) w2 (H1.out.go HB2.out) H2.out (Nat.le_trans (Ns.len_norm a) hl) (Nat.le_trans (Ns.len_norm b) hl')
  rw [Ns.mg_mee] at hm
  have HMM := Lib.hid hm
  clear hm
  go_wp2_with fail
  refine HMM.out.mono ?_
  rintro e w3 ⟨A3, c3, rfl, h3, hb3⟩
  have H3 := Lib.hid h3
  have HB3 := Lib.hid hb3
  clear h3 hb3
  go_wp2
  go_ret
  exact ⟨A3, c3, rfl, H3.out, HB1.out.trans ((HB2.out.trans (HB3.out.mono HB2.out.size)).mono HB1.out.size)⟩


theorem wit_len (a b : List Int) : ((Ns.mns a b).length : Int) = 0 ↔ Ns.wit a b = true := by
  rw [← Ns.mns_nil]
  constructor
  · intro h; exact List.eq_nil_of_length_eq_zero (by omega)
  · intro h; rw [h]; rfl
end Go.Proofs.YtioohmhllajifaaGreat
