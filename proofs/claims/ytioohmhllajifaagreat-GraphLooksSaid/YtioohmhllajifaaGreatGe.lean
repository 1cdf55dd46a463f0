/-
  The reference's Neighbours, Degree and Common.
-/
import Derived.Test.YtioohmhllajifaaGreatGd
import Derived.Test.YtioohmhllajifaaGreatNi
namespace Go.Proofs.YtioohmhllajifaaGreat
open Go.RowKit Go.Lib

/-- as wpList_push, and what else stays: every block but the list's own -/
theorem wpList_pushG {ops : Array Oper} {rest : List Oper} {o : Oper} {a : Act} {Q : Exit → Act → World → Prop} (W : World) (hgd : o.guard = none) (s x : Operand)
    (ho : o.op = .call { callee := .builtin .append, args := #[s, x], argTypes := #[22, 22] }) (base : Nat) (A2 : Option Addr) (c2 : Nat) (ks : List Int) (z : Int)
    (hs : a.eval s = .slice A2 ks.length c2) (hown : W.ownsRow base 3 1 (.slice A2 ks.length c2) ks.length (vals ks)) (hx : a.eval x = .slice (some ⟨W.heap.size, 0, none⟩) 1 1)
    (hk : ks.length ≤ 200000) (hbase : base ≤ W.heap.size)
    (h : ∀ A3 c3 w', Hid (w'.ownsRow base 3 1 (.slice A3 (ks ++ [z]).length c3) (ks ++ [z]).length (vals (ks ++ [z]))) → Hid (Below base W w') → Hid (W.grownBy w' (Value.slice A2 ks.length c2).ownBlock) → wpList Tryz.prog ops Q rest (a.put o.dst (.slice A3 (ks ++ [z]).length c3)) w') :
    wpList Tryz.prog ops Q (o :: rest) a (W.alloc (.cells #[.int .i64 z] 3)) := by
  obtain ⟨i0, hi0, hz0, hz1, hz2⟩ := info_parts int_info
  refine wpList_append_any _ hgd s x 22 ho base 3 i0 _ 1 8 Tryz.underlying22 hi0 hz0 hz1 hz2 rfl (by omega) (.slice A2 ks.length c2) ks.length (vals ks) hs (hown.alloc _)
    _ (some ⟨W.heap.size, 0, none⟩) 1 1 [.int .i64 z] hx (reads_new1 W z 3) (by simp [Value.oneCell']) (by simp only [maxLen]; omega) (by omega) (by simp; omega) ?_
  intro v3 w3 hown3 hg3 hat3
  have hbw : Below base W w3 := below_grown1 (w1 := W) (Below.refl _ _) hg3 (fun k hk => (hown.lt k hk).1) hbase
  have hgr : W.grownBy w3 (Value.slice A2 ks.length c2).ownBlock :=
    ⟨hbw.os, hbw.tape, hbw.output, hbw.size, fun i hi hne => (hg3.block i (by simp; omega) hne).trans (Below.heap_alloc W _ i hi)⟩
  have ho3 : w3.ownsRow base 3 1 v3 (ks ++ [z]).length (vals (ks ++ [z])) := by rw [vals_append, List.length_append]; exact hown3
  obtain ⟨A3, c3, rfl⟩ := own_form ho3
  exact h A3 c3 w3 ho3 hbw hgr

/-- what edges say of a node's neighbours, in their order -/
def rawN (v : Int) (l : List Ed) : List Int := l.flatMap fun e => (if e.1 = v then [e.2] else []) ++ (if e.2 = v then [e.1] else [])
theorem rawN_succ (v : Int) (l : List Ed) (x y : Int) (k : Nat) (h : l[k]? = some (x, y)) : rawN v (l.take (k + 1)) = rawN v (l.take k) ++ (if x = v then [y] else []) ++ (if y = v then [x] else []) := by
  rw [take_succ_e l _ k h]; simp [rawN]
theorem rawN_len (v : Int) (l : List Ed) (k : Nat) (hk : k ≤ l.length) : (rawN v (l.take k)).length ≤ 2 * k := by
  induction k with
  | zero => simp [rawN]
  | succ k ih =>
    have h := List.getElem?_eq_getElem (l := l) (i := k) (by omega)
    rw [rawN_succ v l l[k].1 l[k].2 k h]
    have := ih (by omega)
    simp only [List.length_append]
    split <;> split <;> simp <;> omega
def nbr (n : Int) (l : List Ed) (v : Int) : List Int := if chk n l = 0 then Ns.norm (rawN v l) else []
theorem nbr_len (n : Int) (l : List Ed) (v : Int) : (nbr n l v).length ≤ 2 * l.length := by
  unfold nbr
  split
  · have h1 := Ns.len_norm (rawN v l)
    have h2 := rawN_len v l l.length (Nat.le_refl _)
    rw [List.take_length] at h2
    omega
  · simp

set_option maxHeartbeats 2000000 in
theorem rnbr_any (n : Int) (A : Option Addr) (c : Nat) (l : List Ed) (v : Int) (w : World) (h : RE w.heap.size w A c l) (hl : l.length ≤ 32768) :
    Calls Tryz.prog 13 #[.agg #[.int .i64 n, .slice A l.length c], .int .i64 v] w (Gives w (nbr n l v)) := by
  have HG0 := Lib.hid (Gb.start (n := n) h)
  clear h
  obtain ⟨X, HX⟩ : ∃ X, Hid (chk n l = X) := ⟨_, rfl⟩
  by_cases hX : X = 0
  · subst hX
    have HF := Lib.hid (show nbr n l v = Ns.norm (rawN v l) by unfold nbr; rw [if_pos HX.out])
    go_enter Tryz.func13, Tryz.ntmps13
    go_wp2_with fail
    refine (check_any n A c l _ HG0.out.re (by omega)).mono ?_
    rintro e W1 ⟨rfl, hb⟩
    rw [HX.out]
    have HG := Lib.hid (HG0.out.go hb)
    have z1 := HG.out.c0; have z2 := HG.out.c1; have z3 := HG.out.lt
    clear hb HG0
    go_wp2
    obtain ⟨g, Hg⟩ : ∃ g, Hid (g = w.heap.size) := ⟨_, rfl⟩
    rw [← Hg.out] at HG z1 z2 z3 ⊢
    clear z1 z2 z3 Hg
    go_loopw [5, 14] (fun s i wr => ∃ (k : Nat) (A2 : Option Addr) (c2 : Nat) (ks : List Int), k ≤ l.length ∧ i = .int .i64 k ∧ s = .slice A2 ks.length c2 ∧ ks.length ≤ 2 * k ∧ Hid (ks = rawN v (l.take k)) ∧
        Hid (wr.ownsRow W1.heap.size 3 1 (.slice A2 ks.length c2) ks.length (vals ks)) ∧ Hid (Below W1.heap.size W1 wr)) (fun _ i _ => l.length - (RowKit.intOf i).toNat)
    case atStart => exact ⟨0, none, 0, [], Nat.zero_le _, rfl, rfl, by simp, rfl, World.ownsRow_nil _ _ _ _, Below.refl _ _⟩
    case round =>
      obtain ⟨k, A2, c2, ks, hk, rfl, rfl, hks, HK, HO, HBR⟩ := hrel
      by_cases hlt : k < l.length
      · obtain ⟨b, off, x, y, rfl, hb, hx, hc0, hc1⟩ := (HG.out.re.up HBR.out).let_ hlt
        have HS := Lib.hid (rawN_succ v l x y k hx)
        clear hx
        obtain ⟨g2, Hg2⟩ : ∃ g2, Hid (g2 = wr.heap.size) := ⟨_, rfl⟩
        have HWa := Lib.hid (show Below W1.heap.size W1 (wr.alloc (.cells #[.int .i64 x, .int .i64 y] 53)) from HBR.out.alloc HBR.out.size _)
        by_cases h1 : x = v
        · subst h1
          have e1 : (x == x) = true := by simp
          by_cases h2 : y = x
          · subst h2
            have e2 : (y == y) = true := by simp
            have HN : Hid (ks ++ [y] ++ [y] = rawN y (l.take (k + 1))) := by
              show _ = _
              rw [HS.out, if_pos rfl, HK.out]
            go_wp2_with (first
              | (at_builtin; refine wpList_pushG _ rfl (.tmp 22) (.tmp 25) rfl W1.heap.size A2 c2 ks y rfl (HO.out.alloc _) (by simp [Act.eval]) (by omega) HWa.out.size ?_; intro A3 c3 w3 HO3 HB3 HG3; have hne : (Value.slice A2 ks.length c2).ownBlock ≠ some wr.heap.size := (fun h0 => by have := (HO.out.lt _ h0).2; omega); have f0 : w3.cell? ⟨wr.heap.size, 0, none⟩ = some (.int .i64 y) := (World.cell?_of_block (a := ⟨wr.heap.size, 0, none⟩) (HG3.out.block _ (by simp) (fun h0 => hne h0.symm))).trans (Go.Joins.cell_of_block (heap_alloc_new wr _) 0); have f1 : w3.cell? ⟨wr.heap.size, 1, none⟩ = some (.int .i64 y) := (World.cell?_of_block (a := ⟨wr.heap.size, 1, none⟩) (HG3.out.block _ (by simp) (fun h0 => hne h0.symm))).trans (Go.Joins.cell_of_block (heap_alloc_new wr _) 1); have HB4 := Lib.hid (HWa.out.trans HB3.out); clear hne)
              | (at_builtin; refine wpList_pushG _ rfl (.tmp 31) (.tmp 34) rfl W1.heap.size A3 c3 (ks ++ [y]) y (by simp [Act.eval]) HO3.out rfl (by simp; omega) HB4.out.size ?_; intro A5 c5 w5 HO5 HB5 HG5; have HB6 := Lib.hid (HB4.out.trans HB5.out)))
            go_roundw
            case rel => exact ⟨k + 1, A5, c5, ks ++ [y] ++ [y], by omega, by go_num, by simp, by first | omega | (simp; omega) | simp, HN.out, HO5.out, HB6.out⟩
            case measure => simp [RowKit.intOf]; omega
          · have e2 : (y == x) = false := by simpa using h2
            have HN : Hid (ks ++ [y] = rawN x (l.take (k + 1))) := by
              show _ = _
              rw [HS.out, if_pos rfl, if_neg h2, HK.out, List.append_nil]
            clear h2
            go_wp2_with (at_builtin; refine wpList_pushG _ rfl (.tmp 22) (.tmp 25) rfl W1.heap.size A2 c2 ks y rfl (HO.out.alloc _) (by simp [Act.eval]) (by omega) HWa.out.size ?_; intro A3 c3 w3 HO3 HB3 HG3; have hne : (Value.slice A2 ks.length c2).ownBlock ≠ some wr.heap.size := (fun h0 => by have := (HO.out.lt _ h0).2; omega); have f0 : w3.cell? ⟨wr.heap.size, 0, none⟩ = some (.int .i64 x) := (World.cell?_of_block (a := ⟨wr.heap.size, 0, none⟩) (HG3.out.block _ (by simp) (fun h0 => hne h0.symm))).trans (Go.Joins.cell_of_block (heap_alloc_new wr _) 0); have f1 : w3.cell? ⟨wr.heap.size, 1, none⟩ = some (.int .i64 y) := (World.cell?_of_block (a := ⟨wr.heap.size, 1, none⟩) (HG3.out.block _ (by simp) (fun h0 => hne h0.symm))).trans (Go.Joins.cell_of_block (heap_alloc_new wr _) 1); have HB4 := Lib.hid (HWa.out.trans HB3.out); clear hne)
            go_roundw
            case rel => exact ⟨k + 1, A3, c3, ks ++ [y], by omega, by go_num, by simp, by first | omega | (simp; omega) | simp, HN.out, HO3.out, HB4.out⟩
            case measure => simp [RowKit.intOf]; omega
        · have e1 : (x == v) = false := by simpa using h1
          by_cases h2 : y = v
          · subst h2
            have e2 : (y == y) = true := by simp
            have HN : Hid (ks ++ [x] = rawN y (l.take (k + 1))) := by
              show _ = _
              rw [HS.out, if_neg h1, if_pos rfl, HK.out, List.append_nil]
            clear h1
            go_wp2_with (at_builtin; refine wpList_pushG _ rfl (.tmp 31) (.tmp 34) rfl W1.heap.size A2 c2 ks x rfl (HO.out.alloc _) (by simp [Act.eval]) (by omega) HWa.out.size ?_; intro A3 c3 w3 HO3 HB3 HG3; have HB4 := Lib.hid (HWa.out.trans HB3.out))
            go_roundw
            case rel => exact ⟨k + 1, A3, c3, ks ++ [x], by omega, by go_num, by simp, by first | omega | (simp; omega) | simp, HN.out, HO3.out, HB4.out⟩
            case measure => simp [RowKit.intOf]; omega
          · have e2 : (y == v) = false := by simpa using h2
            have HN : Hid (ks = rawN v (l.take (k + 1))) := by
              show _ = _
              rw [HS.out, if_neg h1, if_neg h2, HK.out, List.append_nil, List.append_nil]
            clear h1 h2
            go_wp2
            go_roundw
            case rel => exact ⟨k + 1, A2, c2, ks, by omega, by go_num, by simp, by first | omega | (simp; omega) | simp, HN.out, (Lib.hid (HO.out.alloc _)).out, HWa.out⟩
            case measure => simp [RowKit.intOf]; omega
      · have e : l.take k = l := List.take_of_length_le (by omega)
        rw [e] at HK
        clear e
        have hkl : ks.length ≤ 65536 := by omega
        go_wp2_with fail
        refine (rof_any A2 c2 ks wr (RD.of_own HO.out) hkl).mono ?_
        rintro e w5 ⟨A5, c5, rfl, h5, hb5⟩
        have H5 := Lib.hid h5
        have HB5 := Lib.hid hb5
        have HR : Hid (Ns.norm ks = nbr n l v) := by show _ = _; rw [HF.out, HK.out]
        rw [HR.out] at H5 ⊢
        clear h5 hb5
        go_wp2
        go_ret
        exact ⟨A5, c5, rfl, H5.out, HG.out.bel.trans ((HBR.out.trans (HB5.out.mono HBR.out.size)).mono HG.out.bel.size)⟩
  · have HF := Lib.hid (show nbr n l v = [] by unfold nbr; rw [if_neg (by rw [HX.out]; exact hX)])
    have e1 : (X != 0) = true := by simpa using hX
    clear hX
    go_enter Tryz.func13, Tryz.ntmps13
    go_wp2_with fail
    refine (check_any n A c l _ HG0.out.re (by omega)).mono ?_
    rintro e w1 ⟨rfl, hb⟩
    rw [HX.out]
    have HG := Lib.hid (HG0.out.go hb)
    clear hb HG0
    go_wp2
    go_ret
    exact ⟨none, 0, by rw [HF.out]; rfl, by rw [HF.out]; exact RD.nil_ _ _ _, HG.out.bel⟩

theorem rdeg_any (n : Int) (A : Option Addr) (c : Nat) (l : List Ed) (v : Int) (w : World) (h : RE w.heap.size w A c l) (hl : l.length ≤ 32768) :
    Calls Tryz.prog 15 #[.agg #[.int .i64 n, .slice A l.length c], .int .i64 v] w fun e w' => e = .returned (.int .i64 ((nbr n l v).length : Nat)) ∧ Below w.heap.size w w' := by
  have HG0 := Lib.hid (Gb.start (n := n) h)
  clear h
  go_enter Tryz.func15, Tryz.ntmps15
  go_wp2_with fail
  refine (rnbr_any n A c l v _ HG0.out.re hl).mono ?_
  rintro e w1 ⟨A1, c1, rfl, h1, hb⟩
  have HG := Lib.hid (HG0.out.go hb)
  clear hb h1 HG0
  go_wp2
  go_ret
  exact ⟨rfl, HG.out.bel⟩
end Go.Proofs.YtioohmhllajifaaGreat
