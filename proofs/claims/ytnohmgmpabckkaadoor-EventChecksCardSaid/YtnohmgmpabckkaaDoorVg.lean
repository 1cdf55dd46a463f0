/-
  wordsOf.
-/
import Derived.Test.YtnohmgmpabckkaaDoorVf
import Derived.Test.YtnohmgmpabckkaaDoorIx
namespace Go.Proofs.YtnohmgmpabckkaaDoor
open Go.RowKit Go.Lib

/-- what makes a list of words: the list, in memory of its own -/
def WordsP (L : List ByteArray) (w : World) (en : Ending) (w' : World) : Prop :=
  ∃ A c, en = .returned (.slice A L.length c) ∧ RSt w'.heap.size w' A c L ∧ Below w.heap.size w w'
theorem RSt_new3 (w : World) (a b c : ByteArray) : RSt (w.alloc (.cells #[.string a, .string b, .string c] 9)).heap.size (w.alloc (.cells #[.string a, .string b, .string c] 9)) (some ⟨w.heap.size, 0, none⟩) 3 [a, b, c] := RX_new encS w [a, b, c] 9
theorem RSt_new1 (w : World) (a : ByteArray) : RSt (w.alloc (.cells #[.string a] 9)).heap.size (w.alloc (.cells #[.string a] 9)) (some ⟨w.heap.size, 0, none⟩) 1 [a] := RX_new encS w [a] 9
theorem own3 (w : World) (B : Nat) (hB : B ≤ w.heap.size) (a b c : ByteArray) : (w.alloc (.cells #[.string a, .string b, .string c] 9)).ownsRow B 9 1 (.slice (some ⟨w.heap.size, 0, none⟩) 3 3) 3 (cl stc [a, b, c]) :=
  World.ownsRow_lit w #[.string a, .string b, .string c] 3 hB (by decide) rfl
def F3 (a b c : ByteArray) (z : Value) (w : World) : Prop := ∃ g, z = .slice (some ⟨g, 0, none⟩) 3 3 ∧ RSt w.heap.size w (some ⟨g, 0, none⟩) 3 [a, b, c]
theorem F3_mono (a b c : ByteArray) : Mono (F3 a b c) := fun _ _ _ ⟨g, h1, h2⟩ hb => ⟨g, h1, h2.up hb⟩
theorem F3_new (w : World) (a b c : ByteArray) : F3 a b c (.slice (some ⟨w.heap.size, 0, none⟩) 3 3) (w.alloc (.cells #[.string a, .string b, .string c] 9)) := ⟨_, rfl, RSt_new3 w a b c⟩
set_option maxHeartbeats 4000000 in
set_option maxRecDepth 100000 in
theorem words3_any (t u v x y z : Int) (w : World) (K : KW w) (ht : 0 ≤ t ∧ t ≤ 1048576) (hu : 0 ≤ u ∧ u < 64) :
    Calls Tryd.prog 31 #[.agg #[.int .i64 3, .int .i64 t, .int .i64 u, .int .i64 v, .int .i64 x, .int .i64 y, .int .i64 z]] w (WordsP [⟨#[108, 101, 97, 118, 101]⟩, mk (Lib.itoa t), mk (Lib.itoa u)] w) := by
  have HK := Lib.hid (K.up (below_new w (.cells #[.int .i64 3, .int .i64 t, .int .i64 u, .int .i64 v, .int .i64 x, .int .i64 y, .int .i64 z] 23)))
  have HSZ : Hid (7 ≤ w.heap.size) := K.sz
  have hsz : 0 < w.heap.size := by have := K.sz; omega
  have k3' := K.k3
  clear K
  obtain ⟨T, HT⟩ : ∃ T, Hid (mk (Lib.itoa t) = T) := ⟨_, rfl⟩
  have CT := Lib.hid (fun W (h : KW W) => HT.out ▸ itoa_any t ht.1 (by omega) W h)
  rw [HT.out]
  obtain ⟨U, HU⟩ : ∃ U, Hid (mk (Lib.itoa u) = U) := ⟨_, rfl⟩
  have CU := Lib.hid (fun W (h : KW W) => HU.out ▸ itoa_any u hu.1 (by omega) W h)
  rw [HU.out]
  clear ht hu
  go_enter Tryd.func31, Tryd.ntmps31
  go_wp2_with fail
  refine wp_region_over_tail 10 (by kernel_rfl) (by kernel_rfl) ?_
  simp only [List.take_succ_cons, List.take_zero, List.drop_succ_cons, List.drop_zero]
  repeat (go_big_quiet_step (first | (go_at_call 35; first | with_reducible exact calls_over (CT.out _ (HK.out.over _)) | with_reducible exact calls_over (CU.out _ (HK.out.over _)))))
  refine wpQuiet_nil ?_
  rintro _ ⟨x1, rfl⟩
  have hb := over_below _ x1
  have HK3 := Lib.hid (HK.out.over x1)
  generalize over _ x1 = w3 at *
  obtain ⟨b0, b1, b2, b3, b4, b5, b6⟩ := box7 hb
  have HB3 := Lib.hid (below_via hb)
  have hs3 : w.heap.size < w3.heap.size := by have := hb.size; simp at this; omega
  clear hb x1 HK k3'
  go_wp2
  go_ret
  exact ⟨some ⟨w3.heap.size, 0, none⟩, 3, rfl, RSt_new3 _ _ _ _, HB3.out.trans ((below_new _ _).mono HB3.out.size)⟩
set_option maxHeartbeats 4000000 in
set_option maxRecDepth 100000 in
theorem words2_any (t u v x y z : Int) (w : World) (K : KW w) (ht : 0 ≤ t ∧ t ≤ 1048576) (hu : 0 ≤ u ∧ u < 64) (hv : 0 ≤ v ∧ v < 64) :
    Calls Tryd.prog 31 #[.agg #[.int .i64 2, .int .i64 t, .int .i64 u, .int .i64 v, .int .i64 x, .int .i64 y, .int .i64 z]] w (WordsP [⟨#[99, 117, 116]⟩, mk (Lib.itoa t), mk (Lib.itoa u), mk (Lib.itoa v)] w) := by
  have HK := Lib.hid (K.up (below_new w (.cells #[.int .i64 2, .int .i64 t, .int .i64 u, .int .i64 v, .int .i64 x, .int .i64 y, .int .i64 z] 23)))
  have HSZ : Hid (7 ≤ w.heap.size) := K.sz
  have hsz : 0 < w.heap.size := by have := K.sz; omega
  have k3' := K.k2
  clear K
  obtain ⟨T, HT⟩ : ∃ T, Hid (mk (Lib.itoa t) = T) := ⟨_, rfl⟩
  have CT := Lib.hid (fun W (h : KW W) => HT.out ▸ itoa_any t ht.1 (by omega) W h)
  rw [HT.out]
  obtain ⟨U, HU⟩ : ∃ U, Hid (mk (Lib.itoa u) = U) := ⟨_, rfl⟩
  have CU := Lib.hid (fun W (h : KW W) => HU.out ▸ itoa_any u hu.1 (by omega) W h)
  rw [HU.out]
  obtain ⟨V, HV⟩ : ∃ V, Hid (mk (Lib.itoa v) = V) := ⟨_, rfl⟩
  have CV := Lib.hid (fun W (h : KW W) => HV.out ▸ itoa_any v hv.1 (by omega) W h)
  rw [HV.out]
  clear ht hu hv
  go_enter Tryd.func31, Tryd.ntmps31
  go_wp2_with fail
  refine wp_region_over_tail 10 (by kernel_rfl) (by kernel_rfl) ?_
  simp only [List.take_succ_cons, List.take_zero, List.drop_succ_cons, List.drop_zero]
  repeat (go_big_quiet_step (first | (go_at_call 35; first | with_reducible exact calls_over (CT.out _ (HK.out.over _)) | with_reducible exact calls_over (CU.out _ (HK.out.over _)))))
  refine wpQuiet_nil ?_
  rintro _ ⟨x1, rfl⟩
  have hb := over_below _ x1
  have HK3 := Lib.hid (HK.out.over x1)
  generalize over _ x1 = w3 at *
  obtain ⟨b0, b1, b2, b3, b4, b5, b6⟩ := box7 hb
  have HB3 := Lib.hid (below_via hb)
  have hs3 : w.heap.size < w3.heap.size := by have := hb.size; simp at this; omega
  clear hb x1 HK k3'
  have HK4 := Lib.hid (HK3.out.up (below_new w3 (.cells #[.string ⟨#[99, 117, 116]⟩, .string T, .string U] 9)))
  have HO4 := Lib.hid (own3 w3 w.heap.size HB3.out.size ⟨#[99, 117, 116]⟩ T U)
  have HB4 : Hid (Below w.heap.size w (w3.alloc (.cells #[.string ⟨#[99, 117, 116]⟩, .string T, .string U] 9))) := HB3.out.trans ((below_new _ _).mono HB3.out.size)
  clear HK3 HB3
  go_wp2_with fail
  refine (CV.out _ HK4.out).mono ?_
  rintro e w5 ⟨rfl, hb5⟩
  have HK5 := Lib.hid (HK4.out.up hb5)
  have HO5 := Lib.hid (own_up HO4.out hb5)
  have HB5 : Hid (Below w.heap.size w w5) := HB4.out.trans (hb5.mono HB4.out.size)
  have hs5 : w3.heap.size < w5.heap.size := by have := hb5.size; simp at this; omega
  have c0 := (hb5.cell (p := ⟨w.heap.size, 0, none⟩) (by simp; omega)).trans ((World.cell?_alloc_lt w3 _ ⟨w.heap.size, 0, none⟩ hs3).trans b0)
  have c4 := (hb5.cell (p := ⟨w.heap.size, 4, none⟩) (by simp; omega)).trans ((World.cell?_alloc_lt w3 _ ⟨w.heap.size, 4, none⟩ hs3).trans b4)
  have c5 := (hb5.cell (p := ⟨w.heap.size, 5, none⟩) (by simp; omega)).trans ((World.cell?_alloc_lt w3 _ ⟨w.heap.size, 5, none⟩ hs3).trans b5)
  have c6 := (hb5.cell (p := ⟨w.heap.size, 6, none⟩) (by simp; omega)).trans ((World.cell?_alloc_lt w3 _ ⟨w.heap.size, 6, none⟩ hs3).trans b6)
  have hs6 : w.heap.size < w5.heap.size := by omega
  clear hb5 b0 b1 b2 b3 b4 b5 b6 HK4 HO4 HB4
  go_wp2_with (at_builtin; (refine wpList_applS _ rfl (.tmp 19) (.tmp 23) w.heap.size (some ⟨w3.heap.size, 0, none⟩) 3 rfl [⟨#[99, 117, 116]⟩, T, U] (by simp [Act.eval]) (HO5.out.alloc _) (some ⟨w5.heap.size, 0, none⟩) 1 1 [V] rfl (by simp [Act.eval]) (RSt_new1 _ _) (by simp) (by have := HB5.out.size; simp; omega) ?_; intro A6 c6' w6 HO6 HB6 HG6; have HB7 : Hid (Below w.heap.size w w6) := (HB5.out.trans ((below_new _ _).mono HB5.out.size)).trans HB6.out; have HK6 : Hid (KW w6) := HK5.out.go (((below_new w5 (.cells #[.string V] 9)).mono (show w.heap.size ≤ _ by omega)).trans HB6.out) (by have := HB5.out; have := HSZ.out; omega); have HX6 : Hid (∀ j, w6.cell? ⟨w.heap.size, j, none⟩ = w5.cell? ⟨w.heap.size, j, none⟩) := fun j => (World.cell?_of_block (HG6.out.block w.heap.size (by simp; omega) (by simp [Value.ownBlock]; omega))).trans (World.cell?_alloc_lt w5 _ ⟨w.heap.size, j, none⟩ hs6); have d0 := (HX6.out 0).trans c0; have d4 := (HX6.out 4).trans c4; have d5 := (HX6.out 5).trans c5; have d6 := (HX6.out 6).trans c6; have hs7 : w.heap.size < w6.heap.size := (by have := HG6.out.size; simp at this; omega); clear c0 c4 c5 c6 HK5 HO5 HB5 HB6 HG6))
  go_ret
  exact ⟨A6, c6', rfl, RX.of_own HO6.out, HB7.out⟩
set_option maxHeartbeats 4000000 in
set_option maxRecDepth 100000 in
theorem words1_any (t u v x y z : Int) (w : World) (K : KW w) (ht : 0 ≤ t ∧ t ≤ 1048576) (hu : 0 ≤ u ∧ u < 64) (hv : 0 ≤ v ∧ v < 64) (hx : 0 ≤ x ∧ x ≤ 1000) (hy : 0 ≤ y ∧ y ≤ 15) :
    Calls Tryd.prog 31 #[.agg #[.int .i64 1, .int .i64 t, .int .i64 u, .int .i64 v, .int .i64 x, .int .i64 y, .int .i64 z]] w (WordsP [⟨#[115, 101, 116]⟩, mk (Lib.itoa t), mk (Lib.itoa u), mk (Lib.itoa v), mk (Lib.itoa x), mk (Lib.itoa y), mk (if z = -1 then [45] else [43])] w) := by
  have HK := Lib.hid (K.up (below_new w (.cells #[.int .i64 1, .int .i64 t, .int .i64 u, .int .i64 v, .int .i64 x, .int .i64 y, .int .i64 z] 23)))
  have HSZ : Hid (7 ≤ w.heap.size) := K.sz
  have hsz : 0 < w.heap.size := by have := K.sz; omega
  have k3' := K.k1
  clear K
  obtain ⟨T, HT⟩ : ∃ T, Hid (mk (Lib.itoa t) = T) := ⟨_, rfl⟩
  have CT := Lib.hid (fun W (h : KW W) => HT.out ▸ itoa_any t ht.1 (by omega) W h)
  rw [HT.out]
  obtain ⟨U, HU⟩ : ∃ U, Hid (mk (Lib.itoa u) = U) := ⟨_, rfl⟩
  have CU := Lib.hid (fun W (h : KW W) => HU.out ▸ itoa_any u hu.1 (by omega) W h)
  rw [HU.out]
  obtain ⟨V, HV⟩ : ∃ V, Hid (mk (Lib.itoa v) = V) := ⟨_, rfl⟩
  have CV := Lib.hid (fun W (h : KW W) => HV.out ▸ itoa_any v hv.1 (by omega) W h)
  rw [HV.out]
  obtain ⟨X, HX⟩ : ∃ X, Hid (mk (Lib.itoa x) = X) := ⟨_, rfl⟩
  have CX := Lib.hid (fun W (h : KW W) => HX.out ▸ itoa_any x hx.1 (by omega) W h)
  rw [HX.out]
  obtain ⟨Y, HY⟩ : ∃ Y, Hid (mk (Lib.itoa y) = Y) := ⟨_, rfl⟩
  have CY := Lib.hid (fun W (h : KW W) => HY.out ▸ itoa_any y hy.1 (by omega) W h)
  rw [HY.out]
  obtain ⟨Z, HZ⟩ : ∃ Z, Hid (mk (if z = -1 then [45] else [43]) = Z) := ⟨_, rfl⟩
  have CZ := Lib.hid (fun W => HZ.out ▸ signWord_any z W)
  rw [HZ.out]
  clear ht hu hv hx hy
  go_enter Tryd.func31, Tryd.ntmps31
  go_wp2_with fail
  refine wp_region_over_tail 10 (by kernel_rfl) (by kernel_rfl) ?_
  simp only [List.take_succ_cons, List.take_zero, List.drop_succ_cons, List.drop_zero]
  repeat (go_big_quiet_step (first | (go_at_call 35; first | with_reducible exact calls_over (CT.out _ (HK.out.over _)) | with_reducible exact calls_over (CU.out _ (HK.out.over _)))))
  refine wpQuiet_nil ?_
  rintro _ ⟨x1, rfl⟩
  have hb := over_below _ x1
  have HK3 := Lib.hid (HK.out.over x1)
  generalize over _ x1 = w3 at *
  obtain ⟨b0, b1, b2, b3, b4, b5, b6⟩ := box7 hb
  have HB3 := Lib.hid (below_via hb)
  have hs3 : w.heap.size < w3.heap.size := by have := hb.size; simp at this; omega
  clear hb x1 HK k3'
  have HK4 := Lib.hid (HK3.out.up (below_new w3 (.cells #[.string ⟨#[115, 101, 116]⟩, .string T, .string U] 9)))
  have HO4 := Lib.hid (own3 w3 w.heap.size HB3.out.size ⟨#[115, 101, 116]⟩ T U)
  have HB4 : Hid (Below w.heap.size w (w3.alloc (.cells #[.string ⟨#[115, 101, 116]⟩, .string T, .string U] 9))) := HB3.out.trans ((below_new _ _).mono HB3.out.size)
  clear HK3 HB3
  go_wp2_with fail
  refine (CV.out _ HK4.out).mono ?_
  rintro e w5 ⟨rfl, hb5⟩
  have HK5 := Lib.hid (HK4.out.up hb5)
  have HO5 := Lib.hid (own_up HO4.out hb5)
  have HB5 : Hid (Below w.heap.size w w5) := HB4.out.trans (hb5.mono HB4.out.size)
  have hs5 : w3.heap.size < w5.heap.size := by have := hb5.size; simp at this; omega
  have c0 := (hb5.cell (p := ⟨w.heap.size, 0, none⟩) (by simp; omega)).trans ((World.cell?_alloc_lt w3 _ ⟨w.heap.size, 0, none⟩ hs3).trans b0)
  have c4 := (hb5.cell (p := ⟨w.heap.size, 4, none⟩) (by simp; omega)).trans ((World.cell?_alloc_lt w3 _ ⟨w.heap.size, 4, none⟩ hs3).trans b4)
  have c5 := (hb5.cell (p := ⟨w.heap.size, 5, none⟩) (by simp; omega)).trans ((World.cell?_alloc_lt w3 _ ⟨w.heap.size, 5, none⟩ hs3).trans b5)
  have c6 := (hb5.cell (p := ⟨w.heap.size, 6, none⟩) (by simp; omega)).trans ((World.cell?_alloc_lt w3 _ ⟨w.heap.size, 6, none⟩ hs3).trans b6)
  have hs6 : w.heap.size < w5.heap.size := by omega
  clear hb5 b0 b1 b2 b3 b4 b5 b6 HK4 HO4 HB4
  go_wp2_with (at_builtin; (refine wpList_applS _ rfl (.tmp 19) (.tmp 23) w.heap.size (some ⟨w3.heap.size, 0, none⟩) 3 rfl [⟨#[115, 101, 116]⟩, T, U] (by simp [Act.eval]) (HO5.out.alloc _) (some ⟨w5.heap.size, 0, none⟩) 1 1 [V] rfl (by simp [Act.eval]) (RSt_new1 _ _) (by simp) (by have := HB5.out.size; simp; omega) ?_; intro A6 c6' w6 HO6 HB6 HG6; have HB7 : Hid (Below w.heap.size w w6) := (HB5.out.trans ((below_new _ _).mono HB5.out.size)).trans HB6.out; have HK6 : Hid (KW w6) := HK5.out.go (((below_new w5 (.cells #[.string V] 9)).mono (show w.heap.size ≤ _ by omega)).trans HB6.out) (by have := HB5.out; have := HSZ.out; omega); have HX6 : Hid (∀ j, w6.cell? ⟨w.heap.size, j, none⟩ = w5.cell? ⟨w.heap.size, j, none⟩) := fun j => (World.cell?_of_block (HG6.out.block w.heap.size (by simp; omega) (by simp [Value.ownBlock]; omega))).trans (World.cell?_alloc_lt w5 _ ⟨w.heap.size, j, none⟩ hs6); have d0 := (HX6.out 0).trans c0; have d4 := (HX6.out 4).trans c4; have d5 := (HX6.out 5).trans c5; have d6 := (HX6.out 6).trans c6; have hs7 : w.heap.size < w6.heap.size := (by have := HG6.out.size; simp at this; omega); clear c0 c4 c5 c6 HK5 HO5 HB5 HB6 HG6))
  refine wp_region_inv 11 41 [(fun q0 _ => q0 = .slice A6 4 c6'), (fun q0 _ => q0 = .pointer (some ⟨w.heap.size, 4, none⟩)), (fun q0 _ => q0 = .int .i64 x), (fun q0 _ => q0 = .string X), (fun q0 _ => q0 = .pointer (some ⟨w.heap.size, 5, none⟩)), (fun q0 _ => q0 = .int .i64 y), (fun q0 _ => q0 = .string Y), (fun q0 _ => q0 = .pointer (some ⟨w.heap.size, 6, none⟩)), (fun q0 _ => q0 = .int .i64 z), (fun q0 _ => q0 = .string Z), (F3 X Y Z)] (by kernel_rfl) (by kernel_rfl) rfl ?_ ?_ ?_
  · intro R hR
    simp only [List.mem_cons, List.not_mem_nil, or_false] at hR
    rcases hR with rfl | rfl | rfl | rfl | rfl | rfl | rfl | rfl | rfl | rfl | rfl
    · exact mono_eq _
    · exact mono_eq _
    · exact mono_eq _
    · exact mono_eq _
    · exact mono_eq _
    · exact mono_eq _
    · exact mono_eq _
    · exact mono_eq _
    · exact mono_eq _
    · exact mono_eq _
    · exact F3_mono X Y Z
  · simp only [List.take_succ_cons, List.take_zero]
    refine ⟨?_, ?_, ?_, ?_, ?_, ?_, ?_, ?_, ?_, ?_, ?_, trivial⟩
    · intro a ws hb hag hdep K Q hK
      have d3 : (a.tmps[3]?).getD undef = .slice A6 4 c6' := eval_get (hag 3 (freeB_spec (by kernel_rfl)))
      rw [if_pos (show Region.wanted _ _ = true from rfl)]
      have y4 := (hb.cell (p := ⟨w.heap.size, 4, none⟩) hs7).trans d4; have y5 := (hb.cell (p := ⟨w.heap.size, 5, none⟩) hs7).trans d5; have y6 := (hb.cell (p := ⟨w.heap.size, 6, none⟩) hs7).trans d6
      unfold Oper.wp
      simp [go_sem, *]
      exact hK _ _ (Below.refl _ _) rfl
    · intro a ws hb hag hdep K Q hK
      have d1 : (a.tmps[1]?).getD undef = .pointer (some ⟨w.heap.size, 0, none⟩) := eval_get (hag 1 (freeB_spec (by kernel_rfl)))
      rw [if_pos (show Region.wanted _ _ = true from rfl)]
      have y4 := (hb.cell (p := ⟨w.heap.size, 4, none⟩) hs7).trans d4; have y5 := (hb.cell (p := ⟨w.heap.size, 5, none⟩) hs7).trans d5; have y6 := (hb.cell (p := ⟨w.heap.size, 6, none⟩) hs7).trans d6
      unfold Oper.wp
      simp [go_sem, *]
      exact hK _ _ (Below.refl _ _) rfl
    · intro a ws hb hag hdep K Q hK
      have d30 : (a.tmps[30]?).getD undef = .pointer (some ⟨w.heap.size, 4, none⟩) := eval_get (dep_of hdep 1 30 rfl (by kernel_rfl) rfl rfl)
      rw [if_pos (show Region.wanted _ _ = true from rfl)]
      have y4 := (hb.cell (p := ⟨w.heap.size, 4, none⟩) hs7).trans d4; have y5 := (hb.cell (p := ⟨w.heap.size, 5, none⟩) hs7).trans d5; have y6 := (hb.cell (p := ⟨w.heap.size, 6, none⟩) hs7).trans d6
      unfold Oper.wp
      simp [go_sem, *]
      exact hK _ _ (Below.refl _ _) rfl
    · intro a ws hb hag hdep K Q hK
      have d31 : (a.tmps[31]?).getD undef = .int .i64 x := eval_get (dep_of hdep 2 31 rfl (by kernel_rfl) rfl rfl)
      rw [if_pos (show Region.wanted _ _ = true from rfl)]
      have HKs := HK6.out.go (hb.mono (Nat.le_refl _)) HK6.out.sz
      unfold Oper.wp
      simp [go_sem, d31]
      refine (CX.out _ HKs).mono ?_
      rintro e w3 ⟨rfl, hb3⟩
      exact hK _ _ hb3 rfl
    · intro a ws hb hag hdep K Q hK
      have d1 : (a.tmps[1]?).getD undef = .pointer (some ⟨w.heap.size, 0, none⟩) := eval_get (hag 1 (freeB_spec (by kernel_rfl)))
      rw [if_pos (show Region.wanted _ _ = true from rfl)]
      have y4 := (hb.cell (p := ⟨w.heap.size, 4, none⟩) hs7).trans d4; have y5 := (hb.cell (p := ⟨w.heap.size, 5, none⟩) hs7).trans d5; have y6 := (hb.cell (p := ⟨w.heap.size, 6, none⟩) hs7).trans d6
      unfold Oper.wp
      simp [go_sem, *]
      exact hK _ _ (Below.refl _ _) rfl
    · intro a ws hb hag hdep K Q hK
      have d33 : (a.tmps[33]?).getD undef = .pointer (some ⟨w.heap.size, 5, none⟩) := eval_get (dep_of hdep 4 33 rfl (by kernel_rfl) rfl rfl)
      rw [if_pos (show Region.wanted _ _ = true from rfl)]
      have y4 := (hb.cell (p := ⟨w.heap.size, 4, none⟩) hs7).trans d4; have y5 := (hb.cell (p := ⟨w.heap.size, 5, none⟩) hs7).trans d5; have y6 := (hb.cell (p := ⟨w.heap.size, 6, none⟩) hs7).trans d6
      unfold Oper.wp
      simp [go_sem, *]
      exact hK _ _ (Below.refl _ _) rfl
    · intro a ws hb hag hdep K Q hK
      have d34 : (a.tmps[34]?).getD undef = .int .i64 y := eval_get (dep_of hdep 5 34 rfl (by kernel_rfl) rfl rfl)
      rw [if_pos (show Region.wanted _ _ = true from rfl)]
      have HKs := HK6.out.go (hb.mono (Nat.le_refl _)) HK6.out.sz
      unfold Oper.wp
      simp [go_sem, d34]
      refine (CY.out _ HKs).mono ?_
      rintro e w3 ⟨rfl, hb3⟩
      exact hK _ _ hb3 rfl
    · intro a ws hb hag hdep K Q hK
      have d1 : (a.tmps[1]?).getD undef = .pointer (some ⟨w.heap.size, 0, none⟩) := eval_get (hag 1 (freeB_spec (by kernel_rfl)))
      rw [if_pos (show Region.wanted _ _ = true from rfl)]
      have y4 := (hb.cell (p := ⟨w.heap.size, 4, none⟩) hs7).trans d4; have y5 := (hb.cell (p := ⟨w.heap.size, 5, none⟩) hs7).trans d5; have y6 := (hb.cell (p := ⟨w.heap.size, 6, none⟩) hs7).trans d6
      unfold Oper.wp
      simp [go_sem, *]
      exact hK _ _ (Below.refl _ _) rfl
    · intro a ws hb hag hdep K Q hK
      have d36 : (a.tmps[36]?).getD undef = .pointer (some ⟨w.heap.size, 6, none⟩) := eval_get (dep_of hdep 7 36 rfl (by kernel_rfl) rfl rfl)
      rw [if_pos (show Region.wanted _ _ = true from rfl)]
      have y4 := (hb.cell (p := ⟨w.heap.size, 4, none⟩) hs7).trans d4; have y5 := (hb.cell (p := ⟨w.heap.size, 5, none⟩) hs7).trans d5; have y6 := (hb.cell (p := ⟨w.heap.size, 6, none⟩) hs7).trans d6
      unfold Oper.wp
      simp [go_sem, *]
      exact hK _ _ (Below.refl _ _) rfl
    · intro a ws hb hag hdep K Q hK
      have d37 : (a.tmps[37]?).getD undef = .int .i64 z := eval_get (dep_of hdep 8 37 rfl (by kernel_rfl) rfl rfl)
      rw [if_pos (show Region.wanted _ _ = true from rfl)]
      unfold Oper.wp
      simp [go_sem, d37]
      refine (CZ.out _).mono ?_
      rintro e w3 ⟨rfl, rfl⟩
      exact hK _ _ (Below.refl _ _) rfl
    · intro a ws hb hag hdep K Q hK
      have d32 : (a.tmps[32]?).getD undef = .string X := eval_get (dep_of hdep 3 32 rfl (by kernel_rfl) rfl rfl)
      have d35 : (a.tmps[35]?).getD undef = .string Y := eval_get (dep_of hdep 6 35 rfl (by kernel_rfl) rfl rfl)
      have d38 : (a.tmps[38]?).getD undef = .string Z := eval_get (dep_of hdep 9 38 rfl (by kernel_rfl) rfl rfl)
      rw [if_pos (show Region.wanted _ _ = true from rfl)]
      unfold Oper.wp
      simp [go_sem, d32, d35, d38]
      exact hK _ _ (below_new _ _) (F3_new _ _ _ _)
  · intro a ws hb hsz hdf hag hend
    have f29 : a.eval (.tmp 29) = .slice A6 4 c6' := end_of hend 0 29 (by decide) rfl rfl rfl
    have f30 : a.eval (.tmp 30) = .pointer (some ⟨w.heap.size, 4, none⟩) := end_of hend 1 30 (by decide) rfl rfl rfl
    have f31 : a.eval (.tmp 31) = .int .i64 x := end_of hend 2 31 (by decide) rfl rfl rfl
    have f32 : a.eval (.tmp 32) = .string X := end_of hend 3 32 (by decide) rfl rfl rfl
    have f33 : a.eval (.tmp 33) = .pointer (some ⟨w.heap.size, 5, none⟩) := end_of hend 4 33 (by decide) rfl rfl rfl
    have f34 : a.eval (.tmp 34) = .int .i64 y := end_of hend 5 34 (by decide) rfl rfl rfl
    have f35 : a.eval (.tmp 35) = .string Y := end_of hend 6 35 (by decide) rfl rfl rfl
    have f36 : a.eval (.tmp 36) = .pointer (some ⟨w.heap.size, 6, none⟩) := end_of hend 7 36 (by decide) rfl rfl rfl
    have f37 : a.eval (.tmp 37) = .int .i64 z := end_of hend 8 37 (by decide) rfl rfl rfl
    have f38 : a.eval (.tmp 38) = .string Z := end_of hend 9 38 (by decide) rfl rfl rfl
    have f39 : (F3 X Y Z) (a.eval (.tmp 39)) ws := end_of hend 10 39 (by decide) rfl rfl rfl
    have ea := act_block 29 11 hsz hdf hag [29, 30, 31, 32, 33, 34, 35, 36, 37, 38, 39] (by kernel_rfl) (by kernel_rfl) (of_decide_eq_true (by kernel_rfl))
    clear hag hend hsz hdf
    simp only [List.map_cons, List.map_nil, f29, f30, f31, f32, f33, f34, f35, f36, f37, f38] at ea
    clear f29 f30 f31 f32 f33 f34 f35 f36 f37 f38
    generalize a.eval (.tmp 39) = x39 at ea f39
    simp only [List.take_succ_cons, List.take_zero, List.drop_succ_cons, List.drop_zero, List.cons_append, List.nil_append] at ea
    subst ea
    have HO7 := Lib.hid (own_up HO6.out hb)
    have HB8 : Hid (Below w.heap.size w ws) := HB7.out.trans (hb.mono HB7.out.size)
    obtain ⟨g, rfl, hf⟩ := f39
    have HF := Lib.hid hf
    clear hb hf
    simp only [List.drop_succ_cons, List.drop_zero]
    go_wp2_with (at_builtin; refine wpList_applS _ rfl (.tmp 29) (.tmp 39) w.heap.size A6 c6' rfl ([⟨#[115, 101, 116]⟩, T, U] ++ [V]) (by simp [Act.eval]) HO7.out (some ⟨g, 0, none⟩) 3 3 [X, Y, Z] rfl (by simp [Act.eval]) HF.out (by simp) HB8.out.size ?_; intro A9 c9 w9 HO9 HB9 _)
    go_ret
    exact ⟨A9, c9, rfl, RX.of_own HO9.out, HB8.out.trans HB9.out⟩
end Go.Proofs.YtnohmgmpabckkaaDoor
