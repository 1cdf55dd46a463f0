/-
  The reference's sets: put, Of, Union.
-/
import Derived.Test.YtioohmhllajifaaGreatNf
import Derived.Deep.RegionLaw
namespace Go.Proofs.YtioohmhllajifaaGreat
open Go.RowKit Go.Lib

theorem own_form {w : World} {base : Nat} {v : Value} {l : List Int} (h : w.ownsRow base 3 1 v l.length (vals l)) : ∃ A c, v = .slice A l.length c := by
  rcases h.2 with ⟨e0, e1⟩ | ⟨g, cap, cur, e0, _⟩
  · exact ⟨none, 0, by rw [e0, e1]⟩
  · exact ⟨_, _, e0⟩
theorem wp_appl {o : Oper} {a : Act} {K : Act → World → Prop} {Q : Exit → Act → World → Prop} (W : World) (s x : Operand)
    (ho : o.op = .call { callee := .builtin .append, args := #[s, x], argTypes := #[22, 22] }) (base : Nat) (A2 : Option Addr) (c2 : Nat) (ks : List Int)
    (hs : a.eval s = .slice A2 ks.length c2) (hown : W.ownsRow base 3 1 (.slice A2 ks.length c2) ks.length (vals ks)) (A' : Option Addr) (c' m : Nat) (news : List Int) (hm : news.length = m)
    (hx : a.eval x = .slice A' m c') (hr : RD W A' c' news) (hk : ks.length + m ≤ 200000) (hbase : base ≤ W.heap.size)
    (h : ∀ A3 c3 w', Hid (w'.ownsRow base 3 1 (.slice A3 (ks ++ news).length c3) (ks ++ news).length (vals (ks ++ news))) → Hid (Below base W w') → K (a.put o.dst (.slice A3 (ks ++ news).length c3)) w') :
    o.wp Tryz.prog a W K Q := by
  subst hm
  obtain ⟨i0, hi0, hz0, hz1, hz2⟩ := info_parts int_info
  refine wp_append_any _ s x 22 ho base 3 i0 _ 1 8 Tryz.underlying22 hi0 hz0 hz1 hz2 rfl (by omega) (.slice A2 ks.length c2) ks.length (vals ks) hs hown
    _ A' news.length c' (vals news) hx hr.2 (vals_one news) (by simp only [maxLen]; omega) (by omega) hbase ?_
  intro v3 w3 hown3 hg3 hat3
  have hbw : Below base W w3 := (Below.refl _ _).grown hg3 hbase (fun k hk => (hown.lt k hk).1)
  have ho3 : w3.ownsRow base 3 1 v3 (ks ++ news).length (vals (ks ++ news)) := by rw [vals_append, List.length_append]; exact hown3
  obtain ⟨A3, c3, rfl⟩ := own_form ho3
  exact h A3 c3 w3 ho3 hbw
theorem wpList_appl {ops : Array Oper} {rest : List Oper} {o : Oper} {a : Act} {Q : Exit → Act → World → Prop} (W : World) (hgd : o.guard = none) (s x : Operand)
    (ho : o.op = .call { callee := .builtin .append, args := #[s, x], argTypes := #[22, 22] }) (base : Nat) (A2 : Option Addr) (c2 : Nat) (ks : List Int)
    (hs : a.eval s = .slice A2 ks.length c2) (hown : W.ownsRow base 3 1 (.slice A2 ks.length c2) ks.length (vals ks)) (A' : Option Addr) (c' m : Nat) (news : List Int) (hm : news.length = m)
    (hx : a.eval x = .slice A' m c') (hr : RD W A' c' news) (hk : ks.length + m ≤ 200000) (hbase : base ≤ W.heap.size)
    (h : ∀ A3 c3 w', Hid (w'.ownsRow base 3 1 (.slice A3 (ks ++ news).length c3) (ks ++ news).length (vals (ks ++ news))) → Hid (Below base W w') → wpList Tryz.prog ops Q rest (a.put o.dst (.slice A3 (ks ++ news).length c3)) w') :
    wpList Tryz.prog ops Q (o :: rest) a W :=
  wpList_plain hgd fun _ hK => wp_appl W s x ho base A2 c2 ks hs hown A' c' m news hm hx hr hk hbase fun A3 c3 w' h1 h2 => hK _ _ (h A3 c3 w' h1 h2)
theorem step_appl {ops : Array Oper} {o : Oper} {a : Act} {K : Act → World → Prop} {Q : Exit → Act → World → Prop} {E : Prop} (W : World) (hgd : o.guard = none) (s x : Operand)
    (ho : o.op = .call { callee := .builtin .append, args := #[s, x], argTypes := #[22, 22] }) (base : Nat) (A2 : Option Addr) (c2 : Nat) (ks : List Int)
    (hs : a.eval s = .slice A2 ks.length c2) (hown : W.ownsRow base 3 1 (.slice A2 ks.length c2) ks.length (vals ks)) (A' : Option Addr) (c' m : Nat) (news : List Int) (hm : news.length = m)
    (hx : a.eval x = .slice A' m c') (hr : RD W A' c' news) (hk : ks.length + m ≤ 200000) (hbase : base ≤ W.heap.size)
    (h : ∀ A3 c3 w', Hid (w'.ownsRow base 3 1 (.slice A3 (ks ++ news).length c3) (ks ++ news).length (vals (ks ++ news))) → Hid (Below base W w') → K (a.put o.dst (.slice A3 (ks ++ news).length c3)) w') :
    if Region.wanted o (yielded ops a.tmps) = true then Oper.wp Tryz.prog o a W K Q else E := by
  have hw : Region.wanted o (yielded ops a.tmps) = true := by simp [Region.wanted, hgd]
  rw [if_pos hw]
  exact wp_appl W s x ho base A2 c2 ks hs hown A' c' m news hm hx hr hk hbase h
theorem rd_new1 (w : World) (x : Int) : RD (w.alloc (.cells #[.int .i64 x] 3)) (some ⟨w.heap.size, 0, none⟩) 1 [x] := ⟨Nat.le_refl _, reads_new1 w x 3⟩

theorem below_via {B : Nat} {w3 w4 : World} {o : Obj} (h : Below B (w3.alloc o).drew w4) (hB : B ≤ w3.heap.size) : Below B w3 w4 :=
  have e : Below B w3 (w3.alloc o) := (Below.refl _ _).alloc hB o
  (show Below B w3 (w3.alloc o).drew from ⟨e.os, e.tape, e.output, e.size, e.block⟩).trans h
theorem RB_nil (B : Nat) (w : World) (A : Option Addr) (c : Nat) (l : List Int) (h : l.length = 0) (_hc : 0 ≤ c) : RB B w A c l := by
  obtain rfl := List.eq_nil_of_length_eq_zero h
  exact ⟨Nat.zero_le _, by simp [vals], fun h => absurd h (by simp)⟩
theorem ret_sliceN {A : Option Addr} {c n m : Nat} (h : n = m) : Ending.returned (.slice A n c) = .returned (.slice A m c) := by rw [h]
theorem ins_step (l : List Int) (x y : Int) (k : Nat) (h : l[k]? = some y) (hlt : y < x) : l.take k ++ Ns.ins (l.drop k) x = l.take (k + 1) ++ Ns.ins (l.drop (k + 1)) x := by
  rw [drop_at l y k h, take_succ_at l y k h, List.append_assoc]
  congr 1
  show (if y < x then _ else _) = _
  rw [if_pos hlt]; rfl
theorem ins_end (l : List Int) (x : Int) (k : Nat) (h : l.length ≤ k) : l.take k ++ Ns.ins (l.drop k) x = l.take k ++ [x] ++ l.drop k := by
  rw [List.drop_eq_nil_of_le h]; simp [Ns.ins]
theorem ins_same (l : List Int) (x : Int) (k : Nat) (h : l[k]? = some x) : l.take k ++ Ns.ins (l.drop k) x = l := by
  rw [drop_at l x k h]
  show _ ++ (if x < x then _ else if x = x then x :: l.drop (k + 1) else _) = _
  rw [if_neg (by omega), if_pos rfl, ← drop_at l x k h, List.take_append_drop]
theorem ins_here (l : List Int) (x y : Int) (k : Nat) (h : l[k]? = some y) (hlt : x < y) : l.take k ++ Ns.ins (l.drop k) x = l.take k ++ [x] ++ l.drop k := by
  rw [drop_at l y k h]
  show _ ++ (if y < x then _ else if y = x then _ else _) = _
  rw [if_neg (by omega), if_neg (by omega)]; simp

set_option maxHeartbeats 1000000 in
theorem put_any (A : Option Addr) (c : Nat) (l : List Int) (x : Int) (w : World) (h : RD w A c l) (hl : l.length ≤ 65536) :
    Calls Tryz.prog 50 #[.slice A l.length c, .int .i64 x] w (Gives w (Ns.ins l x)) := by
  have hc := h.1
  go_enter Tryz.func50, Tryz.ntmps50
  go_wp2
  go_loop [5] (fun i => ∃ k : Nat, k ≤ l.length ∧ i = .int .i64 k ∧ Hid (Ns.ins l x = l.take k ++ Ns.ins (l.drop k) x)) (fun i => l.length - (RowKit.intOf i).toNat)
  case atStart => exact ⟨0, Nat.zero_le _, rfl, rfl⟩
  case round =>
    obtain ⟨k, hk, rfl, HN⟩ := hrel
    by_cases hlt : k < l.length
    · obtain ⟨ad, y, rfl, hb, hy, hcell⟩ := h.let_ hlt
      have HY := Lib.hid hy
      clear hy
      by_cases h1 : y < x
      · have HR := Lib.hid (HN.out.trans (ins_step l x y k HY.out h1))
        go_wp2
        go_round
        case rel => exact ⟨k + 1, by omega, by go_num, HR.out⟩
        case measure => simp [RowKit.intOf]; omega
      · by_cases h2 : y = x
        · subst h2
          have HR := Lib.hid (HN.out.trans (ins_same l y k HY.out))
          go_wp2
          go_ret
          exact ⟨some ad, c, ret_slice HR.out.symm, by rw [HR.out]; exact h, Below.refl _ _⟩
        · have hd : (y == x) = false := by simpa using h2
          have HR := Lib.hid (HN.out.trans (ins_here l x y k HY.out (by omega)))
          clear h2
          have hck : ¬ c = k := by omega
          obtain ⟨tk, HTK⟩ : ∃ tk, Hid (tk = l.take k) := ⟨_, rfl⟩
          obtain ⟨dk, HDK⟩ : ∃ dk, Hid (dk = l.drop k) := ⟨_, rfl⟩
          have HLN : Hid (tk.length = k) := by show _ = _; rw [HTK.out, List.length_take]; omega
          have HDN : Hid (dk.length = l.length - k) := by show _ = _; rw [HDK.out, List.length_drop]
          have HFR : Hid (RB w.heap.size w (some ad) c tk) := by show RB _ _ _ _ _; rw [HTK.out]; exact RB.front (RD.rb h) (k := k) hk
          have HRR : Hid (Ns.ins l x = tk ++ [x] ++ dk) := by show _ = _; rw [HTK.out, HDK.out]; exact HR.out
          clear HR
          go_wp2_with (at_builtin; refine wpList_appl _ rfl (.const (.slice none 0 0)) (.tmp 36) rfl w.heap.size none 0 [] rfl (World.ownsRow_nil _ _ _ _) (some ad) c k tk HLN.out rfl HFR.out (by simp; omega) (Nat.le_refl _) ?_; intro A3 c3 w3 HO3 HB3; rw [List.nil_append] at HO3; rw [List.nil_append])
          have HR2 : Hid (RB w.heap.size w3 (some (ad.add k)) (c - k) dk) := by show RB _ _ _ _ _; rw [HDK.out]; have := RB.go (RB.tail_ (RD.rb h) (k := k) hk) HB3.out; rw [if_neg hck] at this; exact this
          go_region_law (first
            | (refine step_appl _ rfl (.tmp 38) (.tmp 40) rfl w.heap.size A3 c3 tk (by simp [Act.eval]) (by exact HO3.out.alloc _) (some ⟨w3.heap.size, 0, none⟩) 1 1 [x] rfl (by simp [Act.eval]) (by exact rd_new1 _ x) (by rw [HLN.out]; omega) (by have := HB3.out.size; simp; omega) ?_; intro A4 c4 w4 HO4 HB4)
            | (refine step_appl _ rfl (.tmp 41) (.tmp 44) rfl w.heap.size A4 c4 (tk ++ [x]) (by simp [Act.eval]) (by exact HO4.out) (some (ad.add k)) (c - k) (l.length - k) dk HDN.out (by simp [Act.eval]) ((HR2.out.go (below_via HB4.out HB3.out.size)).rd (Nat.le_trans HB3.out.size (below_via (w3 := w3) HB4.out HB3.out.size).size)) (by simp; rw [HLN.out]; omega) (Nat.le_trans HB3.out.size (below_via (w3 := w3) HB4.out HB3.out.size).size) ?_; intro A5 c5 w5 HO5 HB5))
          go_wp2
          go_ret
          refine ⟨A5, c5, ?_, ?_, ?_⟩
          · exact ret_sliceN (by rw [HRR.out]; simp; try omega)
          · rw [HRR.out]; exact RD.of_own HO5.out
          · exact HB3.out.trans ((below_via (w3 := w3) HB4.out HB3.out.size).trans HB5.out)
    · have HR := Lib.hid (HN.out.trans (ins_end l x k (by omega)))
      cases A with
      | none =>
        have hl0 : l.length = 0 := by
          rcases Nat.eq_zero_or_pos l.length with h0 | h0
          · exact h0
          · obtain ⟨_, _, e, _⟩ := h.let_ h0; cases e
        have hk0 : k = 0 := by omega
        subst hk0
        have HL0 := Lib.hid hl0
        clear hl0
        have HLx : Hid (l = []) := List.eq_nil_of_length_eq_zero HL0.out
        have HRR : Hid (Ns.ins l x = [] ++ [x] ++ []) := by show _ = _; rw [HLx.out]; rfl
        clear HR
        go_wp2
        go_region_law (first
          | (refine step_appl _ rfl (.tmp 38) (.tmp 40) rfl w.heap.size none 0 [] (by simp [Act.eval]) (World.ownsRow_nil _ _ _ _) (some ⟨w.heap.size, 0, none⟩) 1 1 [x] rfl (by simp [Act.eval]) (by exact rd_new1 _ x) (by simp) (by simp) ?_; intro A4 c4 w4 HO4 HB4)
          | (refine step_appl _ rfl (.tmp 41) (.tmp 44) rfl w.heap.size A4 c4 ([] ++ [x]) (by simp [Act.eval]) (by exact HO4.out) none c l.length [] (by rw [HLx.out]) (by simp [Act.eval]) (RD.nil_ _ _ _) (by simp; omega) (below_via (w3 := w) HB4.out (Nat.le_refl _)).size ?_; intro A5 c5 w5 HO5 HB5))
        go_wp2
        go_ret
        refine ⟨A5, c5, ?_, ?_, ?_⟩
        · exact ret_sliceN (by rw [HRR.out]; simp; try omega)
        · rw [HRR.out]; exact RD.of_own HO5.out
        · exact (below_via (w3 := w) HB4.out (Nat.le_refl _)).trans HB5.out
      | some ad =>
        by_cases hck : c = k
        · have HC := Lib.hid hck
          clear hck
          have hck : k = l.length := by have := HC.out; omega
          subst hck
          have hcl : c = l.length := HC.out
          subst hcl
          obtain ⟨tk, HTK⟩ : ∃ tk, Hid (tk = l.take l.length) := ⟨_, rfl⟩
          obtain ⟨dk, HDK⟩ : ∃ dk, Hid (dk = l.drop l.length) := ⟨_, rfl⟩
          have HLN : Hid (tk.length = l.length) := by show _ = _; rw [HTK.out, List.length_take]; omega
          have HDN : Hid (dk.length = l.length - l.length) := by show _ = _; rw [HDK.out, List.length_drop]
          have HFR : Hid (RB w.heap.size w (some ad) l.length tk) := by show RB _ _ _ _ _; rw [HTK.out]; exact RB.front (RD.rb h) (k := l.length) hk
          have HRR : Hid (Ns.ins l x = tk ++ [x] ++ dk) := by show _ = _; rw [HTK.out, HDK.out]; exact HR.out
          clear HR
          go_wp2_with (at_builtin; refine wpList_appl _ rfl (.const (.slice none 0 0)) (.tmp 36) rfl w.heap.size none 0 [] rfl (World.ownsRow_nil _ _ _ _) (some ad) l.length l.length tk HLN.out rfl HFR.out (by simp; omega) (Nat.le_refl _) ?_; intro A3 c3 w3 HO3 HB3; rw [List.nil_append] at HO3; rw [List.nil_append])
          have HR2 : Hid (RB w.heap.size w3 (some ad) (l.length - l.length) dk) := RB_nil _ _ _ _ _ (by have := HDN.out; omega) (Nat.zero_le _)
          go_region_law (first
            | (refine step_appl _ rfl (.tmp 38) (.tmp 40) rfl w.heap.size A3 c3 tk (by simp [Act.eval]) (by exact HO3.out.alloc _) (some ⟨w3.heap.size, 0, none⟩) 1 1 [x] rfl (by simp [Act.eval]) (by exact rd_new1 _ x) (by rw [HLN.out]; omega) (by have := HB3.out.size; simp; omega) ?_; intro A4 c4 w4 HO4 HB4)
            | (refine step_appl _ rfl (.tmp 41) (.tmp 44) rfl w.heap.size A4 c4 (tk ++ [x]) (by simp [Act.eval]) (by exact HO4.out) (some ad) (l.length - l.length) (l.length - l.length) dk (by rw [HDN.out]) (by simp [Act.eval]) ((HR2.out.go (below_via HB4.out HB3.out.size)).rd (Nat.le_trans HB3.out.size (below_via (w3 := w3) HB4.out HB3.out.size).size)) (by simp; rw [HLN.out]; omega) (Nat.le_trans HB3.out.size (below_via (w3 := w3) HB4.out HB3.out.size).size) ?_; intro A5 c5 w5 HO5 HB5))
          go_wp2
          go_ret
          refine ⟨A5, c5, ?_, ?_, ?_⟩
          · exact ret_sliceN (by rw [HRR.out]; simp; try omega)
          · rw [HRR.out]; exact RD.of_own HO5.out
          · exact HB3.out.trans ((below_via (w3 := w3) HB4.out HB3.out.size).trans HB5.out)
        · 
          obtain ⟨tk, HTK⟩ : ∃ tk, Hid (tk = l.take k) := ⟨_, rfl⟩
          obtain ⟨dk, HDK⟩ : ∃ dk, Hid (dk = l.drop k) := ⟨_, rfl⟩
          have HLN : Hid (tk.length = k) := by show _ = _; rw [HTK.out, List.length_take]; omega
          have HDN : Hid (dk.length = l.length - k) := by show _ = _; rw [HDK.out, List.length_drop]
          have HFR : Hid (RB w.heap.size w (some ad) c tk) := by show RB _ _ _ _ _; rw [HTK.out]; exact RB.front (RD.rb h) (k := k) hk
          have HRR : Hid (Ns.ins l x = tk ++ [x] ++ dk) := by show _ = _; rw [HTK.out, HDK.out]; exact HR.out
          clear HR
          go_wp2_with (at_builtin; refine wpList_appl _ rfl (.const (.slice none 0 0)) (.tmp 36) rfl w.heap.size none 0 [] rfl (World.ownsRow_nil _ _ _ _) (some ad) c k tk HLN.out rfl HFR.out (by simp; omega) (Nat.le_refl _) ?_; intro A3 c3 w3 HO3 HB3; rw [List.nil_append] at HO3; rw [List.nil_append])
          have HR2 : Hid (RB w.heap.size w3 (some (ad.add k)) (c - k) dk) := by show RB _ _ _ _ _; rw [HDK.out]; have := RB.go (RB.tail_ (RD.rb h) (k := k) hk) HB3.out; rw [if_neg hck] at this; exact this
          go_region_law (first
            | (refine step_appl _ rfl (.tmp 38) (.tmp 40) rfl w.heap.size A3 c3 tk (by simp [Act.eval]) (by exact HO3.out.alloc _) (some ⟨w3.heap.size, 0, none⟩) 1 1 [x] rfl (by simp [Act.eval]) (by exact rd_new1 _ x) (by rw [HLN.out]; omega) (by have := HB3.out.size; simp; omega) ?_; intro A4 c4 w4 HO4 HB4)
            | (refine step_appl _ rfl (.tmp 41) (.tmp 44) rfl w.heap.size A4 c4 (tk ++ [x]) (by simp [Act.eval]) (by exact HO4.out) (some (ad.add k)) (c - k) (l.length - k) dk HDN.out (by simp [Act.eval]) ((HR2.out.go (below_via HB4.out HB3.out.size)).rd (Nat.le_trans HB3.out.size (below_via (w3 := w3) HB4.out HB3.out.size).size)) (by simp; rw [HLN.out]; omega) (Nat.le_trans HB3.out.size (below_via (w3 := w3) HB4.out HB3.out.size).size) ?_; intro A5 c5 w5 HO5 HB5))
          go_wp2
          go_ret
          refine ⟨A5, c5, ?_, ?_, ?_⟩
          · exact ret_sliceN (by rw [HRR.out]; simp; try omega)
          · rw [HRR.out]; exact RD.of_own HO5.out
          · exact HB3.out.trans ((below_via (w3 := w3) HB4.out HB3.out.size).trans HB5.out)

theorem norm_step (l : List Int) (y : Int) (k : Nat) (h : l[k]? = some y) : Ns.ins (Ns.norm (l.take k)) y = Ns.norm (l.take (k + 1)) := by
  rw [take_succ_at l y k h, Ns.norm_snoc]
theorem len_norm_take (l : List Int) (k : Nat) (hk : k ≤ l.length) : (Ns.norm (l.take k)).length ≤ k := Nat.le_trans (Ns.len_norm _) (by simp; omega)

set_option maxHeartbeats 400000 in
theorem rof_any (A : Option Addr) (c : Nat) (l : List Int) (w : World) (h : RD w A c l) (hl : l.length ≤ 65536) :
    Calls Tryz.prog 33 #[.slice A l.length c] w (Gives w (Ns.norm l)) := by
  go_enter Tryz.func33, Tryz.ntmps33
  go_wp2
  go_loopw [3, 8] (fun v i wr => ∃ (k : Nat) (A1 : Option Addr) (c1 : Nat) (s : List Int), k ≤ l.length ∧ i = .int .i64 k ∧ v = .slice A1 s.length c1 ∧ Hid (s = Ns.norm (l.take k)) ∧ Hid (RD wr A1 c1 s) ∧ Hid (Below w.heap.size w wr)) (fun _ i _ => l.length - (RowKit.intOf i).toNat)
  case atStart => exact ⟨0, none, 0, [], Nat.zero_le _, rfl, rfl, rfl, RD.nil_ _ _ _, Below.refl _ _⟩
  case round =>
    obtain ⟨k, A1, c1, s, hk, rfl, rfl, HS, HR, HB⟩ := hrel
    by_cases hlt : k < l.length
    · obtain ⟨ad, y, e, hb, hy, hcell⟩ := (h.go HB.out).let_ hlt
      subst e
      have HY := Lib.hid hy
      clear hy
      have hsl : s.length ≤ 65536 := by rw [HS.out]; have := len_norm_take l k hk; omega
      go_wp2_with fail
      refine (put_any A1 c1 s y wr HR.out hsl).mono ?_
      rintro e w2 ⟨A2, c2, rfl, h2, hb2⟩
      obtain ⟨s2, HS2⟩ : ∃ s2, Hid (s2 = Ns.ins s y) := ⟨_, rfl⟩
      rw [← HS2.out] at h2 ⊢
      have HN : Hid (s2 = Ns.norm (l.take (k + 1))) := by show _ = _; rw [HS2.out, HS.out]; exact norm_step l y k HY.out
      have H2 := Lib.hid h2
      have HB2 := Lib.hid hb2
      clear h2 hb2 HS2
      go_wp2
      go_roundw
      case rel => exact ⟨k + 1, A2, c2, s2, by omega, by go_num, rfl, HN.out, H2.out, HB.out.trans (HB2.out.mono HB.out.size)⟩
      case measure => simp [RowKit.intOf]; omega
    · have e : l.take k = l := List.take_of_length_le (by omega)
      rw [e] at HS
      clear e
      go_wp2
      go_ret
      exact ⟨A1, c1, ret_slice HS.out, by rw [← HS.out]; exact HR.out, HB.out⟩

end Go.Proofs.YtioohmhllajifaaGreat
