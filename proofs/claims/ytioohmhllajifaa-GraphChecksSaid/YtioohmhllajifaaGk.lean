/-
  The reference's with: an edge goes into a list of edges.
-/
import Derived.Test.YtioohmhllajifaaGj
namespace Go.Proofs.Ytioohmhllajifaa
open Go.RowKit Go.Lib

/-- an edge put into a list of edges, as the reference does -/
def insE (e : Ed) : List Ed → List Ed
  | [] => [e]
  | x :: l => if bef x e = true then x :: insE e l else if x = e then x :: l else e :: x :: l
theorem insE_step (l : List Ed) (x y : Ed) (k : Nat) (h : l[k]? = some y) (hlt : bef y x = true) : l.take k ++ insE x (l.drop k) = l.take (k + 1) ++ insE x (l.drop (k + 1)) := by
  rw [drop_at_e l y k h, take_succ_e l y k h, List.append_assoc]
  congr 1
  show (if bef y x = true then _ else _) = _
  rw [if_pos hlt]; rfl
theorem insE_end (l : List Ed) (x : Ed) (k : Nat) (h : l.length ≤ k) : l.take k ++ insE x (l.drop k) = l.take k ++ [x] ++ l.drop k := by
  rw [List.drop_eq_nil_of_le h]; simp [insE]
theorem insE_same (l : List Ed) (x : Ed) (k : Nat) (h : l[k]? = some x) (hb : bef x x = false) : l.take k ++ insE x (l.drop k) = l := by
  rw [drop_at_e l x k h]
  show _ ++ (if bef x x = true then _ else if x = x then x :: l.drop (k + 1) else _) = _
  rw [if_neg (by simp [hb]), if_pos rfl, ← drop_at_e l x k h, List.take_append_drop]
theorem insE_here (l : List Ed) (x y : Ed) (k : Nat) (h : l[k]? = some y) (hb : bef y x = false) (hne : y ≠ x) : l.take k ++ insE x (l.drop k) = l.take k ++ [x] ++ l.drop k := by
  rw [drop_at_e l y k h]
  show _ ++ (if bef y x = true then _ else if y = x then _ else _) = _
  rw [if_neg (by simp [hb]), if_neg hne]; simp
theorem insE_len (e : Ed) (l : List Ed) : (insE e l).length ≤ l.length + 1 := by
  induction l with
  | nil => simp [insE]
  | cons x l ih => simp only [insE]; split <;> (try split) <;> simp <;> omega
/-- what a function that makes a list of edges answers -/
def GivesE (w : World) (A0 : Option Addr) (c0 : Nat) (l0 l : List Ed) (e : Ending) (w' : World) : Prop :=
  ∃ A c, e = .returned (.slice A l.length c) ∧ ((A = A0 ∧ c = c0 ∧ l = l0) ∨ w'.ownsRow w.heap.size 52 2 (.slice A l.length c) l.length (ev l)) ∧ Below w.heap.size w w'
theorem RE_nil' (B : Nat) (w : World) (A : Option Addr) (c : Nat) (l : List Ed) (h : l.length = 0) : RE B w A c l := by
  obtain rfl := List.eq_nil_of_length_eq_zero h
  exact RE.nil_ _ _ _ _

set_option maxHeartbeats 4000000 in
set_option maxRecDepth 100000 in
theorem with_any (A : Option Addr) (c : Nat) (l : List Ed) (u v : Int) (w : World) (h : RE w.heap.size w A c l) (hl : l.length ≤ 65536) :
    Calls Try.prog 39 #[.slice A l.length c, .agg #[.int .i64 u, .int .i64 v]] w (GivesE w A c l (insE (u, v) l)) := by
  have hc := h.1
  have hB0 : Below w.heap.size w (w.alloc (.cells #[.int .i64 u, .int .i64 v] 52)) := (Below.refl _ _).alloc (Nat.le_refl _) _
  have H := Lib.hid h
  clear h
  go_enter Try.func39, Try.ntmps39
  go_wp2
  obtain ⟨g, HG⟩ : ∃ g, Hid (g = w.heap.size) := ⟨_, rfl⟩
  obtain ⟨W1, HW1⟩ : ∃ W1, Hid (W1 = w.alloc (.cells #[.int .i64 u, .int .i64 v] 52)) := ⟨_, rfl⟩
  have HBL : Hid (W1.heap[g]? = some (.cells #[.int .i64 u, .int .i64 v] 52)) := by show _ = _; rw [HW1.out, HG.out]; exact heap_alloc_new _ _
  have HGL : Hid (g < W1.heap.size) := by show _ < _; rw [HW1.out, HG.out]; simp
  have HRE : Hid (RE W1.heap.size W1 A c l) := by show RE _ _ _ _ _; rw [HW1.out]; exact H.out.up hB0
  have HB1 : Hid (Below w.heap.size w W1) := by show Below _ _ _; rw [HW1.out]; exact hB0
  rw [← HW1.out, ← HG.out]
  clear HW1 HG H hB0
  go_loopw [5] (fun i wr => ∃ (k : Nat), k ≤ l.length ∧ i = .int .i64 k ∧ Hid (Below W1.heap.size W1 wr) ∧ Hid (insE (u, v) l = l.take k ++ insE (u, v) (l.drop k))) (fun i _ => l.length - (RowKit.intOf i).toNat)
  case atStart => exact ⟨0, Nat.zero_le _, rfl, Below.refl _ _, rfl⟩
  case round =>
    obtain ⟨k, hk, rfl, HBR, HN⟩ := hrel
    have hbl : wr.heap[g]? = some (.cells #[.int .i64 u, .int .i64 v] 52) := (HBR.out.block g HGL.out).trans HBL.out
    have hg0 : wr.cell? ⟨g, 0, none⟩ = some (.int .i64 u) := Go.Joins.cell_of_block hbl 0
    have hg1 : wr.cell? ⟨g, 1, none⟩ = some (.int .i64 v) := Go.Joins.cell_of_block hbl 1
    have hgl : g < wr.heap.size := Nat.lt_of_lt_of_le HGL.out HBR.out.size
    have HBr := Lib.hid hbl
    clear hbl
    have HRr := Lib.hid (HRE.out.up HBR.out)
    by_cases hlt : k < l.length
    · obtain ⟨b, off, x, y, rfl, hb, hx, hc0, hc1⟩ := HRr.out.let_ hlt
      have HX := Lib.hid hx
      clear hx
      have C43 := Lib.hid (fun w => before_any x y u v w)
      by_cases hbf : bef (x, y) (u, v) = true
      · have HR := Lib.hid (HN.out.trans (insE_step l _ _ k HX.out hbf))
        rw [hbf] at C43
        clear hbf
        go_wp2
        refine wp_region_over (by kernel_rfl) (by kernel_rfl) ?_
        repeat (go_big_quiet_step (first | (go_at_call 33; exact calls_over (C43.out _))))
        refine wpQuiet_nil ?_
        rintro _ ⟨z, rfl⟩
        have hbx := Lib.hid (over_below _ z)
        go_wp2
        go_roundw
        case rel => exact ⟨k + 1, by omega, by go_num, HBR.out.trans (hbx.out.mono HBR.out.size), HR.out⟩
        case measure => simp [RowKit.intOf]; omega
      · have hbf' : bef (x, y) (u, v) = false := by simpa using hbf
        rw [hbf'] at C43
        have HBF := Lib.hid hbf'
        clear hbf hbf'
        go_wp2
        refine wp_region_over (by kernel_rfl) (by kernel_rfl) ?_
        repeat (go_big_quiet_step (first | (go_at_call 33; exact calls_over (C43.out _))))
        refine wpQuiet_nil ?_
        rintro _ ⟨z, rfl⟩
        have hbx := Lib.hid (over_below _ z)
        generalize hw2 : over wr z = wp at hbx ⊢
        have HBL2 : Hid (wp.heap[g]? = some (.cells #[.int .i64 u, .int .i64 v] 52)) := (hbx.out.block g hgl).trans HBr.out
        have HGL2 : Hid (g < wp.heap.size) := lt_of_some HBL2.out
        have HB2 : Hid (Below w.heap.size w wp) := HB1.out.trans ((HBR.out.trans (hbx.out.mono HBR.out.size)).mono HB1.out.size)
        have HE2 : Hid (RE wp.heap.size wp (some ⟨b, off, none⟩) c l) := HRr.out.up hbx.out
        clear hw2 z hbx hc0 hc1 hg0 hg1
        have hg0 : wp.cell? ⟨g, 0, none⟩ = some (.int .i64 u) := Go.Joins.cell_of_block HBL2.out 0
        have hg1 : wp.cell? ⟨g, 1, none⟩ = some (.int .i64 v) := Go.Joins.cell_of_block HBL2.out 1
        have hgl2 : g < wp.heap.size := HGL2.out
        obtain ⟨b', off', x', y', e1, hb, hy, hc0, hc1⟩ := HE2.out.let_ hlt
        injection e1 with e1
        injection e1 with e1 e2
        subst e1; subst e2
        have hxy : (x', y') = ((x, y) : Ed) := Option.some.inj (hy.symm.trans HX.out)
        have hxy : x = x' ∧ y = y' := by simpa [eq_comm] using hxy
        obtain ⟨rfl, rfl⟩ := hxy
        clear hy
        by_cases he : (x, y) = ((u, v) : Ed)
        · have hee : x = u ∧ y = v := by simpa using he
          obtain ⟨rfl, rfl⟩ := hee
          clear he
          have HR := Lib.hid (HN.out.trans (insE_same l _ k HX.out HBF.out))
          go_wp2
          refine wp_region_over (by kernel_rfl) (by kernel_rfl) ?_
          repeat (go_big_quiet_step (fail))
          refine wpQuiet_nil ?_
          rintro _ ⟨z, rfl⟩
          have hbx := Lib.hid (over_below _ z)
          go_wp2
          go_ret
          exact ⟨some ⟨b, off, none⟩, c, (congrArg (fun n => Ending.returned (.slice (some ⟨b, off, none⟩) (List.length n) c)) HR.out.symm), .inl ⟨rfl, rfl, HR.out⟩, HB2.out.trans (hbx.out.mono HB2.out.size)⟩
        · have HR := Lib.hid (HN.out.trans (insE_here l _ _ k HX.out HBF.out he))
          have hd : (x = u ∧ (y == v) = false) ∨ (x == u) = false := by
            by_cases h1 : x = u
            · refine .inl ⟨h1, ?_⟩
              simpa using fun h2 => he (by rw [h1, h2])
            · exact .inr (by simpa using h1)
          clear he
          have hck : ¬ c = k := by omega
          rcases hd with ⟨hxu, hd⟩ | hd
          · obtain rfl := hxu.symm
            have hd' : (u == u) = true := by simp
            go_wp2
            refine wp_region_over (by kernel_rfl) (by kernel_rfl) ?_
            repeat (go_big_quiet_step (fail))
            refine wpQuiet_nil ?_
            rintro _ ⟨z, rfl⟩
            have hbx := Lib.hid (over_below _ z)
            generalize hw2 : over wp z = w2 at hbx ⊢
            have HBL2 : Hid (w2.heap[g]? = some (.cells #[.int .i64 u, .int .i64 v] 52)) := (hbx.out.block g HGL2.out).trans HBL2.out
            have HGL2 : Hid (g < w2.heap.size) := lt_of_some HBL2.out
            have HB2 : Hid (Below w.heap.size w w2) := HB2.out.trans (hbx.out.mono HB2.out.size)
            have HE2 : Hid (RE w2.heap.size w2 (some ⟨b, off, none⟩) c l) := HE2.out.up hbx.out
            clear hw2 z hbx hc0 hc1 hg0 hg1 hd hd' hb
            have hg0 : w2.cell? ⟨g, 0, none⟩ = some (.int .i64 u) := Go.Joins.cell_of_block HBL2.out 0
            have hg1 : w2.cell? ⟨g, 1, none⟩ = some (.int .i64 v) := Go.Joins.cell_of_block HBL2.out 1
            have hgl : g < w2.heap.size := HGL2.out
            obtain ⟨tk, HTK⟩ : ∃ tk, Hid (tk = l.take (k)) := ⟨_, rfl⟩
            obtain ⟨dk, HDK⟩ : ∃ dk, Hid (dk = l.drop (k)) := ⟨_, rfl⟩
            have HLN : Hid (tk.length = k) := by show _ = _; rw [HTK.out, List.length_take]; omega
            have HDN : Hid (dk.length = (l.length - k)) := by show _ = _; rw [HDK.out, List.length_drop]
            have HFR : Hid (RE w2.heap.size w2 (some ⟨b, off, none⟩) c tk) := by show RE _ _ _ _ _; rw [HTK.out]; exact RE.front HE2.out (k := k) (by omega)
            have HRR : Hid (insE (u, v) l = tk ++ [(u, v)] ++ dk) := by show _ = _; rw [HTK.out, HDK.out]; exact HR.out
            clear HR
            go_wp2_with (at_builtin; refine wpList_applE _ rfl (.const (.slice none 0 0)) (.tmp 36) rfl w2.heap.size none 0 [] rfl (World.ownsRow_nil _ _ _ _) (some ⟨b, off, none⟩) c (k) tk HLN.out rfl HFR.out (by simp; omega) (Nat.le_refl _) ?_; intro A3 c3 w3 HO3 HB3; rw [List.nil_append] at HO3; rw [List.nil_append]; have b3 := (HB3.out.block _ HGL2.out).trans HBL2.out; have d0 := Go.Joins.cell_of_block b3 0; have d1 := Go.Joins.cell_of_block b3 1; have dl := lt_of_some b3; simp at d0 d1; clear b3)
            have HR2 : Hid (RE w2.heap.size w3 (some ⟨b, off + k * 2, none⟩) (c - k) dk) := by show RE _ _ _ _ _; rw [HDK.out]; have := (RE.tail_ HE2.out (k := k) (by omega)).go HB3.out; rw [if_neg hck, Option.map_some, Go.WideShapes.add_plain] at this; exact this
            go_region_law (first
                        | (refine step_applE _ rfl (.tmp 38) (.tmp 40) rfl w2.heap.size A3 c3 tk (by simp [Act.eval]) (by exact HO3.out.alloc _) (some ⟨w3.heap.size, 0, none⟩) 1 1 [(u, v)] rfl (by simp [Act.eval]) (by exact RE_newB _ u v) (by rw [HLN.out]; omega) (by have := HB3.out.size; simp; omega) ?_; intro A4 c4 w4 HO4 HB4)
                        | (refine step_applE _ rfl (.tmp 41) (.tmp 44) rfl w2.heap.size A4 c4 (tk ++ [(u, v)]) (by simp [Act.eval]) (by exact HO4.out) (some ⟨b, off + k * 2, none⟩) (c - k) (l.length - k) dk HDN.out (by simp [Act.eval]) ((HR2.out.go (below_via HB4.out HB3.out.size)).more (Nat.le_trans HB3.out.size (below_via (w3 := w3) HB4.out HB3.out.size).size)) (by simp; rw [HLN.out]; omega) (Nat.le_trans HB3.out.size (below_via (w3 := w3) HB4.out HB3.out.size).size) ?_; intro A5 c5 w5 HO5 HB5))
            go_wp2
            go_ret
            refine ⟨A5, c5, ?_, ?_, ?_⟩
            · exact ret_sliceN (by rw [HRR.out]; simp; try omega)
            · rw [HRR.out]; exact .inr (Go.Joins.ownsRow_le HO5.out HB2.out.size)
            · exact HB2.out.trans ((HB3.out.trans ((below_via (w3 := w3) HB4.out HB3.out.size).trans HB5.out)).mono HB2.out.size)

          · have hd' := hd
            go_wp2
            refine wp_region_over (by kernel_rfl) (by kernel_rfl) ?_
            repeat (go_big_quiet_step (fail))
            refine wpQuiet_nil ?_
            rintro _ ⟨z, rfl⟩
            have hbx := Lib.hid (over_below _ z)
            generalize hw2 : over wp z = w2 at hbx ⊢
            have HBL2 : Hid (w2.heap[g]? = some (.cells #[.int .i64 u, .int .i64 v] 52)) := (hbx.out.block g HGL2.out).trans HBL2.out
            have HGL2 : Hid (g < w2.heap.size) := lt_of_some HBL2.out
            have HB2 : Hid (Below w.heap.size w w2) := HB2.out.trans (hbx.out.mono HB2.out.size)
            have HE2 : Hid (RE w2.heap.size w2 (some ⟨b, off, none⟩) c l) := HE2.out.up hbx.out
            clear hw2 z hbx hc0 hc1 hg0 hg1 hd hd' hb
            have hg0 : w2.cell? ⟨g, 0, none⟩ = some (.int .i64 u) := Go.Joins.cell_of_block HBL2.out 0
            have hg1 : w2.cell? ⟨g, 1, none⟩ = some (.int .i64 v) := Go.Joins.cell_of_block HBL2.out 1
            have hgl : g < w2.heap.size := HGL2.out
            obtain ⟨tk, HTK⟩ : ∃ tk, Hid (tk = l.take (k)) := ⟨_, rfl⟩
            obtain ⟨dk, HDK⟩ : ∃ dk, Hid (dk = l.drop (k)) := ⟨_, rfl⟩
            have HLN : Hid (tk.length = k) := by show _ = _; rw [HTK.out, List.length_take]; omega
            have HDN : Hid (dk.length = (l.length - k)) := by show _ = _; rw [HDK.out, List.length_drop]
            have HFR : Hid (RE w2.heap.size w2 (some ⟨b, off, none⟩) c tk) := by show RE _ _ _ _ _; rw [HTK.out]; exact RE.front HE2.out (k := k) (by omega)
            have HRR : Hid (insE (u, v) l = tk ++ [(u, v)] ++ dk) := by show _ = _; rw [HTK.out, HDK.out]; exact HR.out
            clear HR
            go_wp2_with (at_builtin; refine wpList_applE _ rfl (.const (.slice none 0 0)) (.tmp 36) rfl w2.heap.size none 0 [] rfl (World.ownsRow_nil _ _ _ _) (some ⟨b, off, none⟩) c (k) tk HLN.out rfl HFR.out (by simp; omega) (Nat.le_refl _) ?_; intro A3 c3 w3 HO3 HB3; rw [List.nil_append] at HO3; rw [List.nil_append]; have b3 := (HB3.out.block _ HGL2.out).trans HBL2.out; have d0 := Go.Joins.cell_of_block b3 0; have d1 := Go.Joins.cell_of_block b3 1; have dl := lt_of_some b3; simp at d0 d1; clear b3)
            have HR2 : Hid (RE w2.heap.size w3 (some ⟨b, off + k * 2, none⟩) (c - k) dk) := by show RE _ _ _ _ _; rw [HDK.out]; have := (RE.tail_ HE2.out (k := k) (by omega)).go HB3.out; rw [if_neg hck, Option.map_some, Go.WideShapes.add_plain] at this; exact this
            go_region_law (first
                        | (refine step_applE _ rfl (.tmp 38) (.tmp 40) rfl w2.heap.size A3 c3 tk (by simp [Act.eval]) (by exact HO3.out.alloc _) (some ⟨w3.heap.size, 0, none⟩) 1 1 [(u, v)] rfl (by simp [Act.eval]) (by exact RE_newB _ u v) (by rw [HLN.out]; omega) (by have := HB3.out.size; simp; omega) ?_; intro A4 c4 w4 HO4 HB4)
                        | (refine step_applE _ rfl (.tmp 41) (.tmp 44) rfl w2.heap.size A4 c4 (tk ++ [(u, v)]) (by simp [Act.eval]) (by exact HO4.out) (some ⟨b, off + k * 2, none⟩) (c - k) (l.length - k) dk HDN.out (by simp [Act.eval]) ((HR2.out.go (below_via HB4.out HB3.out.size)).more (Nat.le_trans HB3.out.size (below_via (w3 := w3) HB4.out HB3.out.size).size)) (by simp; rw [HLN.out]; omega) (Nat.le_trans HB3.out.size (below_via (w3 := w3) HB4.out HB3.out.size).size) ?_; intro A5 c5 w5 HO5 HB5))
            go_wp2
            go_ret
            refine ⟨A5, c5, ?_, ?_, ?_⟩
            · exact ret_sliceN (by rw [HRR.out]; simp; try omega)
            · rw [HRR.out]; exact .inr (Go.Joins.ownsRow_le HO5.out HB2.out.size)
            · exact HB2.out.trans ((HB3.out.trans ((below_via (w3 := w3) HB4.out HB3.out.size).trans HB5.out)).mono HB2.out.size)

    · have HR := Lib.hid (HN.out.trans (insE_end l _ k (by omega)))
      go_wp2
      refine wp_region_over (by kernel_rfl) (by kernel_rfl) ?_
      repeat (go_big_quiet_step (fail))
      refine wpQuiet_nil ?_
      rintro _ ⟨z, rfl⟩
      have hbx := Lib.hid (over_below _ z)
      generalize hw2 : over wr z = wp at hbx ⊢
      have HBL2 : Hid (wp.heap[g]? = some (.cells #[.int .i64 u, .int .i64 v] 52)) := (hbx.out.block g hgl).trans HBr.out
      have HGL2 : Hid (g < wp.heap.size) := lt_of_some HBL2.out
      have HB2 : Hid (Below w.heap.size w wp) := HB1.out.trans ((HBR.out.trans (hbx.out.mono HBR.out.size)).mono HB1.out.size)
      have HE2 : Hid (RE wp.heap.size wp A c l) := HRr.out.up hbx.out
      clear hw2 z hbx hg0 hg1
      have hg0 : wp.cell? ⟨g, 0, none⟩ = some (.int .i64 u) := Go.Joins.cell_of_block HBL2.out 0
      have hg1 : wp.cell? ⟨g, 1, none⟩ = some (.int .i64 v) := Go.Joins.cell_of_block HBL2.out 1
      have hgl2 : g < wp.heap.size := HGL2.out
      go_wp2
      refine wp_region_over (by kernel_rfl) (by kernel_rfl) ?_
      repeat (go_big_quiet_step (fail))
      refine wpQuiet_nil ?_
      rintro _ ⟨z, rfl⟩
      have hbx := Lib.hid (over_below _ z)
      generalize hw2 : over wp z = w2 at hbx ⊢
      have HBL2 : Hid (w2.heap[g]? = some (.cells #[.int .i64 u, .int .i64 v] 52)) := (hbx.out.block g HGL2.out).trans HBL2.out
      have HGL2 : Hid (g < w2.heap.size) := lt_of_some HBL2.out
      have HB2 : Hid (Below w.heap.size w w2) := HB2.out.trans (hbx.out.mono HB2.out.size)
      have HE2 : Hid (RE w2.heap.size w2 A c l) := HE2.out.up hbx.out
      clear hw2 z hbx hg0 hg1
      have hg0 : w2.cell? ⟨g, 0, none⟩ = some (.int .i64 u) := Go.Joins.cell_of_block HBL2.out 0
      have hg1 : w2.cell? ⟨g, 1, none⟩ = some (.int .i64 v) := Go.Joins.cell_of_block HBL2.out 1
      have hgl : g < w2.heap.size := HGL2.out
      have hkl : k = l.length := by omega
      subst hkl
      cases A with
      | none =>
        have hl0 : l.length = 0 := by
          rcases Nat.eq_zero_or_pos l.length with h0 | h0
          · exact h0
          · obtain ⟨_, _, _, _, e, _⟩ := HE2.out.let_ h0; cases e
        have HL0 := Lib.hid hl0
        clear hl0
        have HLx : Hid (l = []) := List.eq_nil_of_length_eq_zero HL0.out
        have HRR : Hid (insE (u, v) l = [] ++ [(u, v)] ++ []) := by show _ = _; rw [HLx.out]; rfl
        clear HR
        go_wp2
        go_region_law (first
          | (refine step_applE _ rfl (.tmp 38) (.tmp 40) rfl w2.heap.size none 0 [] (by simp [Act.eval]) (World.ownsRow_nil _ _ _ _) (some ⟨w2.heap.size, 0, none⟩) 1 1 [(u, v)] rfl (by simp [Act.eval]) (by exact RE_newB _ u v) (by simp) (by simp) ?_; intro A4 c4 w4 HO4 HB4)
          | (refine step_applE _ rfl (.tmp 41) (.tmp 44) rfl w2.heap.size A4 c4 ([] ++ [(u, v)]) (by simp [Act.eval]) (by exact HO4.out) none c 0 [] rfl (by simp [Act.eval]) (RE.nil_ _ _ _ _) (by simp) (below_via (w3 := w2) HB4.out (Nat.le_refl _)).size ?_; intro A5 c5 w5 HO5 HB5))
        go_wp2
        go_ret
        refine ⟨A5, c5, ?_, ?_, ?_⟩
        · exact ret_sliceN (by rw [HRR.out]; simp; try omega)
        · rw [HRR.out]; exact .inr (Go.Joins.ownsRow_le HO5.out HB2.out.size)
        · exact HB2.out.trans (((below_via (w3 := w2) HB4.out (Nat.le_refl _)).trans HB5.out).mono HB2.out.size)

      | some ad =>
        by_cases hck : c = l.length
        · have hck' := hck
          subst hck'
          obtain ⟨tk, HTK⟩ : ∃ tk, Hid (tk = l.take (l.length)) := ⟨_, rfl⟩
          obtain ⟨dk, HDK⟩ : ∃ dk, Hid (dk = l.drop (l.length)) := ⟨_, rfl⟩
          have HLN : Hid (tk.length = l.length) := by show _ = _; rw [HTK.out, List.length_take]; omega
          have HDN : Hid (dk.length = (l.length - l.length)) := by show _ = _; rw [HDK.out, List.length_drop]
          have HFR : Hid (RE w2.heap.size w2 (some ad) l.length tk) := by show RE _ _ _ _ _; rw [HTK.out]; exact RE.front HE2.out (k := l.length) (by omega)
          have HRR : Hid (insE (u, v) l = tk ++ [(u, v)] ++ dk) := by show _ = _; rw [HTK.out, HDK.out]; exact HR.out
          clear HR
          go_wp2_with (at_builtin; refine wpList_applE _ rfl (.const (.slice none 0 0)) (.tmp 36) rfl w2.heap.size none 0 [] rfl (World.ownsRow_nil _ _ _ _) (some ad) l.length (l.length) tk HLN.out rfl HFR.out (by simp; omega) (Nat.le_refl _) ?_; intro A3 c3 w3 HO3 HB3; rw [List.nil_append] at HO3; rw [List.nil_append]; have b3 := (HB3.out.block _ HGL2.out).trans HBL2.out; have d0 := Go.Joins.cell_of_block b3 0; have d1 := Go.Joins.cell_of_block b3 1; have dl := lt_of_some b3; simp at d0 d1; clear b3)
          have HR2 : Hid (RE w2.heap.size w3 (some ad) (l.length - l.length) dk) := RE_nil' _ _ _ _ _ (by have := HDN.out; omega)
          go_region_law (first
                      | (refine step_applE _ rfl (.tmp 38) (.tmp 40) rfl w2.heap.size A3 c3 tk (by simp [Act.eval]) (by exact HO3.out.alloc _) (some ⟨w3.heap.size, 0, none⟩) 1 1 [(u, v)] rfl (by simp [Act.eval]) (by exact RE_newB _ u v) (by rw [HLN.out]; omega) (by have := HB3.out.size; simp; omega) ?_; intro A4 c4 w4 HO4 HB4)
                      | (refine step_applE _ rfl (.tmp 41) (.tmp 44) rfl w2.heap.size A4 c4 (tk ++ [(u, v)]) (by simp [Act.eval]) (by exact HO4.out) (some ad) (l.length - l.length) (l.length - l.length) dk HDN.out (by simp [Act.eval]) ((HR2.out.go (below_via HB4.out HB3.out.size)).more (Nat.le_trans HB3.out.size (below_via (w3 := w3) HB4.out HB3.out.size).size)) (by simp; rw [HLN.out]; omega) (Nat.le_trans HB3.out.size (below_via (w3 := w3) HB4.out HB3.out.size).size) ?_; intro A5 c5 w5 HO5 HB5))
          go_wp2
          go_ret
          refine ⟨A5, c5, ?_, ?_, ?_⟩
          · exact ret_sliceN (by rw [HRR.out]; simp; try omega)
          · rw [HRR.out]; exact .inr (Go.Joins.ownsRow_le HO5.out HB2.out.size)
          · exact HB2.out.trans ((HB3.out.trans ((below_via (w3 := w3) HB4.out HB3.out.size).trans HB5.out)).mono HB2.out.size)

        · 
          obtain ⟨tk, HTK⟩ : ∃ tk, Hid (tk = l.take (l.length)) := ⟨_, rfl⟩
          obtain ⟨dk, HDK⟩ : ∃ dk, Hid (dk = l.drop (l.length)) := ⟨_, rfl⟩
          have HLN : Hid (tk.length = l.length) := by show _ = _; rw [HTK.out, List.length_take]; omega
          have HDN : Hid (dk.length = (l.length - l.length)) := by show _ = _; rw [HDK.out, List.length_drop]
          have HFR : Hid (RE w2.heap.size w2 (some ad) c tk) := by show RE _ _ _ _ _; rw [HTK.out]; exact RE.front HE2.out (k := l.length) (by omega)
          have HRR : Hid (insE (u, v) l = tk ++ [(u, v)] ++ dk) := by show _ = _; rw [HTK.out, HDK.out]; exact HR.out
          clear HR
          go_wp2_with (at_builtin; refine wpList_applE _ rfl (.const (.slice none 0 0)) (.tmp 36) rfl w2.heap.size none 0 [] rfl (World.ownsRow_nil _ _ _ _) (some ad) c (l.length) tk HLN.out rfl HFR.out (by simp; omega) (Nat.le_refl _) ?_; intro A3 c3 w3 HO3 HB3; rw [List.nil_append] at HO3; rw [List.nil_append]; have b3 := (HB3.out.block _ HGL2.out).trans HBL2.out; have d0 := Go.Joins.cell_of_block b3 0; have d1 := Go.Joins.cell_of_block b3 1; have dl := lt_of_some b3; simp at d0 d1; clear b3)
          have HR2 : Hid (RE w2.heap.size w3 (some (ad.add (l.length * 2))) (c - l.length) dk) := RE_nil' _ _ _ _ _ (by have := HDN.out; omega)
          go_region_law (first
                      | (refine step_applE _ rfl (.tmp 38) (.tmp 40) rfl w2.heap.size A3 c3 tk (by simp [Act.eval]) (by exact HO3.out.alloc _) (some ⟨w3.heap.size, 0, none⟩) 1 1 [(u, v)] rfl (by simp [Act.eval]) (by exact RE_newB _ u v) (by rw [HLN.out]; omega) (by have := HB3.out.size; simp; omega) ?_; intro A4 c4 w4 HO4 HB4)
                      | (refine step_applE _ rfl (.tmp 41) (.tmp 44) rfl w2.heap.size A4 c4 (tk ++ [(u, v)]) (by simp [Act.eval]) (by exact HO4.out) (some (ad.add (l.length * 2))) (c - l.length) (l.length - l.length) dk HDN.out (by simp [Act.eval]) ((HR2.out.go (below_via HB4.out HB3.out.size)).more (Nat.le_trans HB3.out.size (below_via (w3 := w3) HB4.out HB3.out.size).size)) (by simp; rw [HLN.out]; omega) (Nat.le_trans HB3.out.size (below_via (w3 := w3) HB4.out HB3.out.size).size) ?_; intro A5 c5 w5 HO5 HB5))
          go_wp2
          go_ret
          refine ⟨A5, c5, ?_, ?_, ?_⟩
          · exact ret_sliceN (by rw [HRR.out]; simp; try omega)
          · rw [HRR.out]; exact .inr (Go.Joins.ownsRow_le HO5.out HB2.out.size)
          · exact HB2.out.trans ((HB3.out.trans ((below_via (w3 := w3) HB4.out HB3.out.size).trans HB5.out)).mono HB2.out.size)

end Go.Proofs.Ytioohmhllajifaa
