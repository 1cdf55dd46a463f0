/-
  Encode of both sides.
-/
import Derived.Test.YtnohmgmpabckkaaDoorVc
import Derived.Test.YtnohmgmpabckkaaDoorIx
namespace Go.Proofs.YtnohmgmpabckkaaDoor
open Go.RowKit Go.Lib

/-- the byte of a number -/
def u8 (z : Int) : UInt8 := UInt8.ofNat (z % 256).toNat
theorem u8_val (z : Int) : ((u8 z).toNat : Int) = z % 256 := by
  have h1 := Int.emod_nonneg z (show (256 : Int) ≠ 0 by decide)
  have h2 := Int.emod_lt_of_pos z (show (0 : Int) < 256 by decide)
  unfold u8
  rw [UInt8.toNat_ofNat']
  omega
def sgn8 (e : Ev) : Int := if e.sign = -1 then 1 else 0
def enc10 (e : Ev) : List UInt8 := [u8 e.kind, u8 (e.time / 65536), u8 (e.time / 256), u8 e.time, u8 e.u, u8 e.v, u8 (e.weight / 256), u8 e.weight, u8 e.label, u8 (sgn8 e)]
def encL (l : List Ev) : List UInt8 := l.flatMap enc10
def encT (l : List Ev) : List UInt8 := if chkT l = 0 then encL l else []
theorem encL_len (l : List Ev) : (encL l).length = 10 * l.length := by
  induction l with
  | nil => rfl
  | cons a l ih => rw [show encL (a :: l) = enc10 a ++ encL l from rfl, List.length_append, ih]; simp [enc10]; omega
theorem take_succ_of {α : Type} (l : List α) (y : α) (k : Nat) (h : l[k]? = some y) : l.take (k + 1) = l.take k ++ [y] := by
  obtain ⟨hk, rfl⟩ := List.getElem?_eq_some_iff.1 h
  rw [List.take_succ_eq_append_getElem hk]
theorem encL_succ (l : List Ev) (a : Ev) (k : Nat) (h : l[k]? = some a) : encL (l.take (k + 1)) = encL (l.take k) ++ enc10 a := by
  rw [take_succ_of l a k h]; simp [encL]
theorem u8_cells (a : Ev) : #[.int .u8 (a.kind % 256), .int .u8 (a.time / 65536 % 256), .int .u8 (a.time / 256 % 256), .int .u8 (a.time % 256), .int .u8 (a.u % 256), .int .u8 (a.v % 256), .int .u8 (a.weight / 256 % 256), .int .u8 (a.weight % 256), .int .u8 (a.label % 256), .int .u8 (sgn8 a)] = (cl byc (enc10 a)).toArray := by
  have hs : sgn8 a % 256 = sgn8 a := by unfold sgn8; split <;> rfl
  simp only [cl, enc10, byc, List.flatMap_cons, List.flatMap_nil, List.cons_append, List.nil_append, u8_val, hs]
/-- a new block of an event's ten bytes -/
def FB (a : Ev) (z : Value) (w : World) : Prop := ∃ g, z = .slice (some ⟨g, 0, none⟩) 10 10 ∧ RBy w.heap.size w (some ⟨g, 0, none⟩) 10 (enc10 a)
theorem FB_mono (a : Ev) : Mono (FB a) := fun _ _ _ ⟨g, h1, h2⟩ hb => ⟨g, h1, h2.up hb⟩
theorem FB_new (a : Ev) (w : World) : FB a (.slice (some ⟨w.heap.size, 0, none⟩) 10 10) (w.alloc (.cells #[.int .u8 (a.kind % 256), .int .u8 (a.time / 65536 % 256), .int .u8 (a.time / 256 % 256), .int .u8 (a.time % 256), .int .u8 (a.u % 256), .int .u8 (a.v % 256), .int .u8 (a.weight / 256 % 256), .int .u8 (a.weight % 256), .int .u8 (a.label % 256), .int .u8 (sgn8 a)] 5)) := by
  rw [u8_cells]
  exact ⟨_, rfl, RX_new encB w (enc10 a) 5⟩
/-- what Encode answers -/
def EncP (l : List Ev) (w : World) (e : Ending) (w' : World) : Prop :=
  ∃ A' c', e = .returned (.tuple #[.slice A' (encT l).length c', .int .i64 (chkT l)]) ∧ RBy w'.heap.size w' A' c' (encT l) ∧ Below w.heap.size w w'
theorem signByte_any (k t u v x y z : Int) (w : World) : Calls Tryd.prog 27 #[.agg #[.int .i64 k, .int .i64 t, .int .i64 u, .int .i64 v, .int .i64 x, .int .i64 y, .int .i64 z]] w fun e w' => e = .returned (.int .u8 (sgn8 ⟨k, t, u, v, x, y, z⟩)) ∧ Below w.heap.size w w' := by
  go_enter Tryd.func27, Tryd.ntmps27
  go_wp2
  all_goals (go_ret; refine ⟨?_, below_new _ _⟩; simp_all [sgn8])
set_option maxHeartbeats 4000000 in
set_option maxRecDepth 100000 in
theorem encode_any (A : Option Addr) (c : Nat) (l : List Ev) (w : World) (h : RE w.heap.size w A c l) (hl : l.length ≤ 1000000) :
    Calls Tryd.prog 12 #[.slice A l.length c] w (EncP l w) := by
  have H := Lib.hid h
  clear h
  obtain ⟨R, HR⟩ : ∃ R, Hid (chkT l = R) := ⟨_, rfl⟩
  obtain ⟨i0, hi0, hz0, hz1, hz2⟩ := info_parts infoB
  have HI0 := Lib.hid hi0
  have HZ0 := Lib.hid hz0
  have HZ1 := Lib.hid hz1
  have HZ2 := Lib.hid hz2
  clear hi0 hz0 hz1 hz2
  by_cases h0 : R = 0
  · subst h0
    go_enter Tryd.func12, Tryd.ntmps12
    go_wp2_with fail
    refine (checkList_any _ _ _ _ H.out hl).mono ?_
    rintro e w1 ⟨rfl, hb⟩
    have HB0 := Lib.hid hb
    clear hb
    rw [HR.out]
    go_wp2_with (at_make; refine wpList_make_own _ rfl (.const (.int .i64 0)) (.tmp 15) 34 rfl w.heap.size 5 i0 _ 1 Tryd.underlying34 HI0.out HZ0.out HZ1.out .i64 .i64 (10 * (l.length : Int)) (10 * l.length) rfl (by simp [Act.eval]; try (rw [IntWalk.i64_in _ (by omega)])) (by omega) (by rw [HZ2.out]; omega) (by simp only [maxLen]; omega) HB0.out.size ?_; intro w2 ho1 hg1; have HO1 := Lib.hid ho1; have HG1 := Lib.hid hg1; clear ho1 hg1)
    have HB2 : Hid (Below w.heap.size w w2) := HB0.out.grown HG1.out HB0.out.size (fun k hk => by cases hk)
    clear HB0 HG1 HI0 HZ0 HZ1 HZ2
    go_loopw [5, 19] (fun s i wr => ∃ (k : Nat) (A2 : Option Addr) (c2 : Nat) (ks : List UInt8), k ≤ l.length ∧ i = .int .i64 k ∧ s = .slice A2 ks.length c2 ∧ Hid (ks.length = 10 * k) ∧ Hid (ks = encL (l.take k)) ∧
        Hid (wr.ownsRow w.heap.size 5 1 (.slice A2 ks.length c2) ks.length (cl byc ks)) ∧ Hid (Below w.heap.size w wr)) (fun _ i _ => l.length - (RowKit.intOf i).toNat)
    case atStart => exact ⟨0, some ⟨w1.heap.size, 0, none⟩, 10 * l.length, [], Nat.zero_le _, rfl, rfl, rfl, rfl, HO1.out, HB2.out⟩
    case round =>
      clear HO1 HB2
      obtain ⟨k, A2, c2, ks, hk, rfl, rfl, hks, HK, HO, HB⟩ := hrel
      by_cases hlt : k < l.length
      · obtain ⟨b, off, x, rfl, hb, ha, c0, c1, c2', c3, c4, c5, c6⟩ := RE.at_ (H.out.go HB.out) hlt
        have HA := Lib.hid ha
        clear ha
        go_wp2_with fail
        refine wp_region_inv 34 60 [(fun z _ => z = .slice A2 ks.length c2), (fun z _ => z = .pointer (some ⟨wr.heap.size, 0, none⟩)), (fun z _ => z = .int .i64 x.kind), (fun z _ => z = .int .u8 (x.kind % 256)), (fun z _ => z = .pointer (some ⟨wr.heap.size, 1, none⟩)), (fun z _ => z = .int .i64 x.time), (fun z _ => z = .int .i64 (x.time / 65536)), (fun z _ => z = .int .u8 ((x.time / 65536) % 256)), (fun z _ => z = .pointer (some ⟨wr.heap.size, 1, none⟩)), (fun z _ => z = .int .i64 x.time), (fun z _ => z = .int .i64 (x.time / 256)), (fun z _ => z = .int .u8 ((x.time / 256) % 256)), (fun z _ => z = .pointer (some ⟨wr.heap.size, 1, none⟩)), (fun z _ => z = .int .i64 x.time), (fun z _ => z = .int .u8 (x.time % 256)), (fun z _ => z = .pointer (some ⟨wr.heap.size, 2, none⟩)), (fun z _ => z = .int .i64 x.u), (fun z _ => z = .int .u8 (x.u % 256)), (fun z _ => z = .pointer (some ⟨wr.heap.size, 3, none⟩)), (fun z _ => z = .int .i64 x.v), (fun z _ => z = .int .u8 (x.v % 256)), (fun z _ => z = .pointer (some ⟨wr.heap.size, 4, none⟩)), (fun z _ => z = .int .i64 x.weight), (fun z _ => z = .int .i64 (x.weight / 256)), (fun z _ => z = .int .u8 ((x.weight / 256) % 256)), (fun z _ => z = .pointer (some ⟨wr.heap.size, 4, none⟩)), (fun z _ => z = .int .i64 x.weight), (fun z _ => z = .int .u8 (x.weight % 256)), (fun z _ => z = .pointer (some ⟨wr.heap.size, 5, none⟩)), (fun z _ => z = .int .i64 x.label), (fun z _ => z = .int .u8 (x.label % 256)), (fun z _ => z = .agg #[.int .i64 x.kind, .int .i64 x.time, .int .i64 x.u, .int .i64 x.v, .int .i64 x.weight, .int .i64 x.label, .int .i64 x.sign]), (fun z _ => z = .int .u8 (sgn8 x)), (FB x)] (by kernel_rfl) (by kernel_rfl) rfl ?_ ?_ ?_
        · intro R hR
          simp only [List.mem_cons, List.not_mem_nil, or_false] at hR
          rcases hR with rfl | rfl | rfl | rfl | rfl | rfl | rfl | rfl | rfl | rfl | rfl | rfl | rfl | rfl | rfl | rfl | rfl | rfl | rfl | rfl | rfl | rfl | rfl | rfl | rfl | rfl | rfl | rfl | rfl | rfl | rfl | rfl | rfl | rfl
          · exact mono_eq _
          · exact mono_eq _
          · exact mono_eq _
          · exact mono_eq _
          · exact mono_eq _
          · exact mono_eq _
          · exact mono_eq _
          · exact mono_eq _
          · exact mono_eq _
          · exact mono_eq _
          · exact mono_eq _
          · exact mono_eq _
          · exact mono_eq _
          · exact mono_eq _
          · exact mono_eq _
          · exact mono_eq _
          · exact mono_eq _
          · exact mono_eq _
          · exact mono_eq _
          · exact mono_eq _
          · exact mono_eq _
          · exact mono_eq _
          · exact mono_eq _
          · exact mono_eq _
          · exact mono_eq _
          · exact mono_eq _
          · exact mono_eq _
          · exact mono_eq _
          · exact mono_eq _
          · exact mono_eq _
          · exact mono_eq _
          · exact mono_eq _
          · exact mono_eq _
          · exact FB_mono x
        · simp only [List.take_succ_cons, List.take_zero]
          refine ⟨?_, ?_, ?_, ?_, ?_, ?_, ?_, ?_, ?_, ?_, ?_, ?_, ?_, ?_, ?_, ?_, ?_, ?_, ?_, ?_, ?_, ?_, ?_, ?_, ?_, ?_, ?_, ?_, ?_, ?_, ?_, ?_, ?_, ?_, trivial⟩
          · intro a ws hb hag hdep K Q hK
            have d5 : (a.tmps[5]?).getD undef = .slice A2 ks.length c2 := eval_get (hag 5 (freeB_spec (by kernel_rfl)))
            rw [if_pos (show Region.wanted _ _ = true from rfl)]
            obtain ⟨y0, y1, y2, y3, y4, y5, y6⟩ := box7 hb
            unfold Oper.wp
            simp [go_sem, *]
            exact hK _ _ (Below.refl _ _) rfl
          · intro a ws hb hag hdep K Q hK
            have d7 : (a.tmps[7]?).getD undef = .pointer (some ⟨wr.heap.size, 0, none⟩) := eval_get (hag 7 (freeB_spec (by kernel_rfl)))
            rw [if_pos (show Region.wanted _ _ = true from rfl)]
            obtain ⟨y0, y1, y2, y3, y4, y5, y6⟩ := box7 hb
            unfold Oper.wp
            simp [go_sem, *]
            exact hK _ _ (Below.refl _ _) rfl
          · intro a ws hb hag hdep K Q hK
            have d24 : (a.tmps[24]?).getD undef = .pointer (some ⟨wr.heap.size, 0, none⟩) := eval_get (dep_of hdep 1 24 rfl (by kernel_rfl) rfl rfl)
            rw [if_pos (show Region.wanted _ _ = true from rfl)]
            obtain ⟨y0, y1, y2, y3, y4, y5, y6⟩ := box7 hb
            unfold Oper.wp
            simp [go_sem, *]
            exact hK _ _ (Below.refl _ _) rfl
          · intro a ws hb hag hdep K Q hK
            have d25 : (a.tmps[25]?).getD undef = .int .i64 x.kind := eval_get (dep_of hdep 2 25 rfl (by kernel_rfl) rfl rfl)
            rw [if_pos (show Region.wanted _ _ = true from rfl)]
            obtain ⟨y0, y1, y2, y3, y4, y5, y6⟩ := box7 hb
            unfold Oper.wp
            simp [go_sem, *]
            exact hK _ _ (Below.refl _ _) rfl
          · intro a ws hb hag hdep K Q hK
            have d7 : (a.tmps[7]?).getD undef = .pointer (some ⟨wr.heap.size, 0, none⟩) := eval_get (hag 7 (freeB_spec (by kernel_rfl)))
            rw [if_pos (show Region.wanted _ _ = true from rfl)]
            obtain ⟨y0, y1, y2, y3, y4, y5, y6⟩ := box7 hb
            unfold Oper.wp
            simp [go_sem, *]
            exact hK _ _ (Below.refl _ _) rfl
          · intro a ws hb hag hdep K Q hK
            have d27 : (a.tmps[27]?).getD undef = .pointer (some ⟨wr.heap.size, 1, none⟩) := eval_get (dep_of hdep 4 27 rfl (by kernel_rfl) rfl rfl)
            rw [if_pos (show Region.wanted _ _ = true from rfl)]
            obtain ⟨y0, y1, y2, y3, y4, y5, y6⟩ := box7 hb
            unfold Oper.wp
            simp [go_sem, *]
            exact hK _ _ (Below.refl _ _) rfl
          · intro a ws hb hag hdep K Q hK
            have d28 : (a.tmps[28]?).getD undef = .int .i64 x.time := eval_get (dep_of hdep 5 28 rfl (by kernel_rfl) rfl rfl)
            rw [if_pos (show Region.wanted _ _ = true from rfl)]
            obtain ⟨y0, y1, y2, y3, y4, y5, y6⟩ := box7 hb
            unfold Oper.wp
            simp [go_sem, *]
            exact hK _ _ (Below.refl _ _) rfl
          · intro a ws hb hag hdep K Q hK
            have d29 : (a.tmps[29]?).getD undef = .int .i64 (x.time / 65536) := eval_get (dep_of hdep 6 29 rfl (by kernel_rfl) rfl rfl)
            rw [if_pos (show Region.wanted _ _ = true from rfl)]
            obtain ⟨y0, y1, y2, y3, y4, y5, y6⟩ := box7 hb
            unfold Oper.wp
            simp [go_sem, *]
            exact hK _ _ (Below.refl _ _) rfl
          · intro a ws hb hag hdep K Q hK
            have d7 : (a.tmps[7]?).getD undef = .pointer (some ⟨wr.heap.size, 0, none⟩) := eval_get (hag 7 (freeB_spec (by kernel_rfl)))
            rw [if_pos (show Region.wanted _ _ = true from rfl)]
            obtain ⟨y0, y1, y2, y3, y4, y5, y6⟩ := box7 hb
            unfold Oper.wp
            simp [go_sem, *]
            exact hK _ _ (Below.refl _ _) rfl
          · intro a ws hb hag hdep K Q hK
            have d31 : (a.tmps[31]?).getD undef = .pointer (some ⟨wr.heap.size, 1, none⟩) := eval_get (dep_of hdep 8 31 rfl (by kernel_rfl) rfl rfl)
            rw [if_pos (show Region.wanted _ _ = true from rfl)]
            obtain ⟨y0, y1, y2, y3, y4, y5, y6⟩ := box7 hb
            unfold Oper.wp
            simp [go_sem, *]
            exact hK _ _ (Below.refl _ _) rfl
          · intro a ws hb hag hdep K Q hK
            have d32 : (a.tmps[32]?).getD undef = .int .i64 x.time := eval_get (dep_of hdep 9 32 rfl (by kernel_rfl) rfl rfl)
            rw [if_pos (show Region.wanted _ _ = true from rfl)]
            obtain ⟨y0, y1, y2, y3, y4, y5, y6⟩ := box7 hb
            unfold Oper.wp
            simp [go_sem, *]
            exact hK _ _ (Below.refl _ _) rfl
          · intro a ws hb hag hdep K Q hK
            have d33 : (a.tmps[33]?).getD undef = .int .i64 (x.time / 256) := eval_get (dep_of hdep 10 33 rfl (by kernel_rfl) rfl rfl)
            rw [if_pos (show Region.wanted _ _ = true from rfl)]
            obtain ⟨y0, y1, y2, y3, y4, y5, y6⟩ := box7 hb
            unfold Oper.wp
            simp [go_sem, *]
            exact hK _ _ (Below.refl _ _) rfl
          · intro a ws hb hag hdep K Q hK
            have d7 : (a.tmps[7]?).getD undef = .pointer (some ⟨wr.heap.size, 0, none⟩) := eval_get (hag 7 (freeB_spec (by kernel_rfl)))
            rw [if_pos (show Region.wanted _ _ = true from rfl)]
            obtain ⟨y0, y1, y2, y3, y4, y5, y6⟩ := box7 hb
            unfold Oper.wp
            simp [go_sem, *]
            exact hK _ _ (Below.refl _ _) rfl
          · intro a ws hb hag hdep K Q hK
            have d35 : (a.tmps[35]?).getD undef = .pointer (some ⟨wr.heap.size, 1, none⟩) := eval_get (dep_of hdep 12 35 rfl (by kernel_rfl) rfl rfl)
            rw [if_pos (show Region.wanted _ _ = true from rfl)]
            obtain ⟨y0, y1, y2, y3, y4, y5, y6⟩ := box7 hb
            unfold Oper.wp
            simp [go_sem, *]
            exact hK _ _ (Below.refl _ _) rfl
          · intro a ws hb hag hdep K Q hK
            have d36 : (a.tmps[36]?).getD undef = .int .i64 x.time := eval_get (dep_of hdep 13 36 rfl (by kernel_rfl) rfl rfl)
            rw [if_pos (show Region.wanted _ _ = true from rfl)]
            obtain ⟨y0, y1, y2, y3, y4, y5, y6⟩ := box7 hb
            unfold Oper.wp
            simp [go_sem, *]
            exact hK _ _ (Below.refl _ _) rfl
          · intro a ws hb hag hdep K Q hK
            have d7 : (a.tmps[7]?).getD undef = .pointer (some ⟨wr.heap.size, 0, none⟩) := eval_get (hag 7 (freeB_spec (by kernel_rfl)))
            rw [if_pos (show Region.wanted _ _ = true from rfl)]
            obtain ⟨y0, y1, y2, y3, y4, y5, y6⟩ := box7 hb
            unfold Oper.wp
            simp [go_sem, *]
            exact hK _ _ (Below.refl _ _) rfl
          · intro a ws hb hag hdep K Q hK
            have d38 : (a.tmps[38]?).getD undef = .pointer (some ⟨wr.heap.size, 2, none⟩) := eval_get (dep_of hdep 15 38 rfl (by kernel_rfl) rfl rfl)
            rw [if_pos (show Region.wanted _ _ = true from rfl)]
            obtain ⟨y0, y1, y2, y3, y4, y5, y6⟩ := box7 hb
            unfold Oper.wp
            simp [go_sem, *]
            exact hK _ _ (Below.refl _ _) rfl
          · intro a ws hb hag hdep K Q hK
            have d39 : (a.tmps[39]?).getD undef = .int .i64 x.u := eval_get (dep_of hdep 16 39 rfl (by kernel_rfl) rfl rfl)
            rw [if_pos (show Region.wanted _ _ = true from rfl)]
            obtain ⟨y0, y1, y2, y3, y4, y5, y6⟩ := box7 hb
            unfold Oper.wp
            simp [go_sem, *]
            exact hK _ _ (Below.refl _ _) rfl
          · intro a ws hb hag hdep K Q hK
            have d7 : (a.tmps[7]?).getD undef = .pointer (some ⟨wr.heap.size, 0, none⟩) := eval_get (hag 7 (freeB_spec (by kernel_rfl)))
            rw [if_pos (show Region.wanted _ _ = true from rfl)]
            obtain ⟨y0, y1, y2, y3, y4, y5, y6⟩ := box7 hb
            unfold Oper.wp
            simp [go_sem, *]
            exact hK _ _ (Below.refl _ _) rfl
          · intro a ws hb hag hdep K Q hK
            have d41 : (a.tmps[41]?).getD undef = .pointer (some ⟨wr.heap.size, 3, none⟩) := eval_get (dep_of hdep 18 41 rfl (by kernel_rfl) rfl rfl)
            rw [if_pos (show Region.wanted _ _ = true from rfl)]
            obtain ⟨y0, y1, y2, y3, y4, y5, y6⟩ := box7 hb
            unfold Oper.wp
            simp [go_sem, *]
            exact hK _ _ (Below.refl _ _) rfl
          · intro a ws hb hag hdep K Q hK
            have d42 : (a.tmps[42]?).getD undef = .int .i64 x.v := eval_get (dep_of hdep 19 42 rfl (by kernel_rfl) rfl rfl)
            rw [if_pos (show Region.wanted _ _ = true from rfl)]
            obtain ⟨y0, y1, y2, y3, y4, y5, y6⟩ := box7 hb
            unfold Oper.wp
            simp [go_sem, *]
            exact hK _ _ (Below.refl _ _) rfl
          · intro a ws hb hag hdep K Q hK
            have d7 : (a.tmps[7]?).getD undef = .pointer (some ⟨wr.heap.size, 0, none⟩) := eval_get (hag 7 (freeB_spec (by kernel_rfl)))
            rw [if_pos (show Region.wanted _ _ = true from rfl)]
            obtain ⟨y0, y1, y2, y3, y4, y5, y6⟩ := box7 hb
            unfold Oper.wp
            simp [go_sem, *]
            exact hK _ _ (Below.refl _ _) rfl
          · intro a ws hb hag hdep K Q hK
            have d44 : (a.tmps[44]?).getD undef = .pointer (some ⟨wr.heap.size, 4, none⟩) := eval_get (dep_of hdep 21 44 rfl (by kernel_rfl) rfl rfl)
            rw [if_pos (show Region.wanted _ _ = true from rfl)]
            obtain ⟨y0, y1, y2, y3, y4, y5, y6⟩ := box7 hb
            unfold Oper.wp
            simp [go_sem, *]
            exact hK _ _ (Below.refl _ _) rfl
          · intro a ws hb hag hdep K Q hK
            have d45 : (a.tmps[45]?).getD undef = .int .i64 x.weight := eval_get (dep_of hdep 22 45 rfl (by kernel_rfl) rfl rfl)
            rw [if_pos (show Region.wanted _ _ = true from rfl)]
            obtain ⟨y0, y1, y2, y3, y4, y5, y6⟩ := box7 hb
            unfold Oper.wp
            simp [go_sem, *]
            exact hK _ _ (Below.refl _ _) rfl
          · intro a ws hb hag hdep K Q hK
            have d46 : (a.tmps[46]?).getD undef = .int .i64 (x.weight / 256) := eval_get (dep_of hdep 23 46 rfl (by kernel_rfl) rfl rfl)
            rw [if_pos (show Region.wanted _ _ = true from rfl)]
            obtain ⟨y0, y1, y2, y3, y4, y5, y6⟩ := box7 hb
            unfold Oper.wp
            simp [go_sem, *]
            exact hK _ _ (Below.refl _ _) rfl
          · intro a ws hb hag hdep K Q hK
            have d7 : (a.tmps[7]?).getD undef = .pointer (some ⟨wr.heap.size, 0, none⟩) := eval_get (hag 7 (freeB_spec (by kernel_rfl)))
            rw [if_pos (show Region.wanted _ _ = true from rfl)]
            obtain ⟨y0, y1, y2, y3, y4, y5, y6⟩ := box7 hb
            unfold Oper.wp
            simp [go_sem, *]
            exact hK _ _ (Below.refl _ _) rfl
          · intro a ws hb hag hdep K Q hK
            have d48 : (a.tmps[48]?).getD undef = .pointer (some ⟨wr.heap.size, 4, none⟩) := eval_get (dep_of hdep 25 48 rfl (by kernel_rfl) rfl rfl)
            rw [if_pos (show Region.wanted _ _ = true from rfl)]
            obtain ⟨y0, y1, y2, y3, y4, y5, y6⟩ := box7 hb
            unfold Oper.wp
            simp [go_sem, *]
            exact hK _ _ (Below.refl _ _) rfl
          · intro a ws hb hag hdep K Q hK
            have d49 : (a.tmps[49]?).getD undef = .int .i64 x.weight := eval_get (dep_of hdep 26 49 rfl (by kernel_rfl) rfl rfl)
            rw [if_pos (show Region.wanted _ _ = true from rfl)]
            obtain ⟨y0, y1, y2, y3, y4, y5, y6⟩ := box7 hb
            unfold Oper.wp
            simp [go_sem, *]
            exact hK _ _ (Below.refl _ _) rfl
          · intro a ws hb hag hdep K Q hK
            have d7 : (a.tmps[7]?).getD undef = .pointer (some ⟨wr.heap.size, 0, none⟩) := eval_get (hag 7 (freeB_spec (by kernel_rfl)))
            rw [if_pos (show Region.wanted _ _ = true from rfl)]
            obtain ⟨y0, y1, y2, y3, y4, y5, y6⟩ := box7 hb
            unfold Oper.wp
            simp [go_sem, *]
            exact hK _ _ (Below.refl _ _) rfl
          · intro a ws hb hag hdep K Q hK
            have d51 : (a.tmps[51]?).getD undef = .pointer (some ⟨wr.heap.size, 5, none⟩) := eval_get (dep_of hdep 28 51 rfl (by kernel_rfl) rfl rfl)
            rw [if_pos (show Region.wanted _ _ = true from rfl)]
            obtain ⟨y0, y1, y2, y3, y4, y5, y6⟩ := box7 hb
            unfold Oper.wp
            simp [go_sem, *]
            exact hK _ _ (Below.refl _ _) rfl
          · intro a ws hb hag hdep K Q hK
            have d52 : (a.tmps[52]?).getD undef = .int .i64 x.label := eval_get (dep_of hdep 29 52 rfl (by kernel_rfl) rfl rfl)
            rw [if_pos (show Region.wanted _ _ = true from rfl)]
            obtain ⟨y0, y1, y2, y3, y4, y5, y6⟩ := box7 hb
            unfold Oper.wp
            simp [go_sem, *]
            exact hK _ _ (Below.refl _ _) rfl
          · intro a ws hb hag hdep K Q hK
            have d7 : (a.tmps[7]?).getD undef = .pointer (some ⟨wr.heap.size, 0, none⟩) := eval_get (hag 7 (freeB_spec (by kernel_rfl)))
            rw [if_pos (show Region.wanted _ _ = true from rfl)]
            obtain ⟨y0, y1, y2, y3, y4, y5, y6⟩ := box7 hb
            unfold Oper.wp
            simp [go_sem, *]
            exact hK _ _ (Below.refl _ _) rfl
          · intro a ws hb hag hdep K Q hK
            have d54 : (a.tmps[54]?).getD undef = .agg #[.int .i64 x.kind, .int .i64 x.time, .int .i64 x.u, .int .i64 x.v, .int .i64 x.weight, .int .i64 x.label, .int .i64 x.sign] := eval_get (dep_of hdep 31 54 rfl (by kernel_rfl) rfl rfl)
            rw [if_pos (show Region.wanted _ _ = true from rfl)]
            unfold Oper.wp
            simp [go_sem, d54]
            refine (signByte_any _ _ _ _ _ _ _ _).mono ?_
            rintro e w3 ⟨rfl, hb3⟩
            exact hK _ _ hb3 rfl
          · intro a ws hb hag hdep K Q hK
            have d26 : (a.tmps[26]?).getD undef = .int .u8 (x.kind % 256) := eval_get (dep_of hdep 3 26 rfl (by kernel_rfl) rfl rfl)
            have d30 : (a.tmps[30]?).getD undef = .int .u8 ((x.time / 65536) % 256) := eval_get (dep_of hdep 7 30 rfl (by kernel_rfl) rfl rfl)
            have d34 : (a.tmps[34]?).getD undef = .int .u8 ((x.time / 256) % 256) := eval_get (dep_of hdep 11 34 rfl (by kernel_rfl) rfl rfl)
            have d37 : (a.tmps[37]?).getD undef = .int .u8 (x.time % 256) := eval_get (dep_of hdep 14 37 rfl (by kernel_rfl) rfl rfl)
            have d40 : (a.tmps[40]?).getD undef = .int .u8 (x.u % 256) := eval_get (dep_of hdep 17 40 rfl (by kernel_rfl) rfl rfl)
            have d43 : (a.tmps[43]?).getD undef = .int .u8 (x.v % 256) := eval_get (dep_of hdep 20 43 rfl (by kernel_rfl) rfl rfl)
            have d47 : (a.tmps[47]?).getD undef = .int .u8 ((x.weight / 256) % 256) := eval_get (dep_of hdep 24 47 rfl (by kernel_rfl) rfl rfl)
            have d50 : (a.tmps[50]?).getD undef = .int .u8 (x.weight % 256) := eval_get (dep_of hdep 27 50 rfl (by kernel_rfl) rfl rfl)
            have d53 : (a.tmps[53]?).getD undef = .int .u8 (x.label % 256) := eval_get (dep_of hdep 30 53 rfl (by kernel_rfl) rfl rfl)
            have d55 : (a.tmps[55]?).getD undef = .int .u8 (sgn8 x) := eval_get (dep_of hdep 32 55 rfl (by kernel_rfl) rfl rfl)
            rw [if_pos (show Region.wanted _ _ = true from rfl)]
            unfold Oper.wp
            simp [go_sem, d26, d30, d34, d37, d40, d43, d47, d50, d53, d55]
            exact hK _ _ (below_new _ _) (FB_new x _)
        · intro a ws hb hsz hdf hag hend
          have f23 : a.eval (.tmp 23) = .slice A2 ks.length c2 := end_of hend 0 23 (by decide) rfl rfl rfl
          have f24 : a.eval (.tmp 24) = .pointer (some ⟨wr.heap.size, 0, none⟩) := end_of hend 1 24 (by decide) rfl rfl rfl
          have f25 : a.eval (.tmp 25) = .int .i64 x.kind := end_of hend 2 25 (by decide) rfl rfl rfl
          have f26 : a.eval (.tmp 26) = .int .u8 (x.kind % 256) := end_of hend 3 26 (by decide) rfl rfl rfl
          have f27 : a.eval (.tmp 27) = .pointer (some ⟨wr.heap.size, 1, none⟩) := end_of hend 4 27 (by decide) rfl rfl rfl
          have f28 : a.eval (.tmp 28) = .int .i64 x.time := end_of hend 5 28 (by decide) rfl rfl rfl
          have f29 : a.eval (.tmp 29) = .int .i64 (x.time / 65536) := end_of hend 6 29 (by decide) rfl rfl rfl
          have f30 : a.eval (.tmp 30) = .int .u8 ((x.time / 65536) % 256) := end_of hend 7 30 (by decide) rfl rfl rfl
          have f31 : a.eval (.tmp 31) = .pointer (some ⟨wr.heap.size, 1, none⟩) := end_of hend 8 31 (by decide) rfl rfl rfl
          have f32 : a.eval (.tmp 32) = .int .i64 x.time := end_of hend 9 32 (by decide) rfl rfl rfl
          have f33 : a.eval (.tmp 33) = .int .i64 (x.time / 256) := end_of hend 10 33 (by decide) rfl rfl rfl
          have f34 : a.eval (.tmp 34) = .int .u8 ((x.time / 256) % 256) := end_of hend 11 34 (by decide) rfl rfl rfl
          have f35 : a.eval (.tmp 35) = .pointer (some ⟨wr.heap.size, 1, none⟩) := end_of hend 12 35 (by decide) rfl rfl rfl
          have f36 : a.eval (.tmp 36) = .int .i64 x.time := end_of hend 13 36 (by decide) rfl rfl rfl
          have f37 : a.eval (.tmp 37) = .int .u8 (x.time % 256) := end_of hend 14 37 (by decide) rfl rfl rfl
          have f38 : a.eval (.tmp 38) = .pointer (some ⟨wr.heap.size, 2, none⟩) := end_of hend 15 38 (by decide) rfl rfl rfl
          have f39 : a.eval (.tmp 39) = .int .i64 x.u := end_of hend 16 39 (by decide) rfl rfl rfl
          have f40 : a.eval (.tmp 40) = .int .u8 (x.u % 256) := end_of hend 17 40 (by decide) rfl rfl rfl
          have f41 : a.eval (.tmp 41) = .pointer (some ⟨wr.heap.size, 3, none⟩) := end_of hend 18 41 (by decide) rfl rfl rfl
          have f42 : a.eval (.tmp 42) = .int .i64 x.v := end_of hend 19 42 (by decide) rfl rfl rfl
          have f43 : a.eval (.tmp 43) = .int .u8 (x.v % 256) := end_of hend 20 43 (by decide) rfl rfl rfl
          have f44 : a.eval (.tmp 44) = .pointer (some ⟨wr.heap.size, 4, none⟩) := end_of hend 21 44 (by decide) rfl rfl rfl
          have f45 : a.eval (.tmp 45) = .int .i64 x.weight := end_of hend 22 45 (by decide) rfl rfl rfl
          have f46 : a.eval (.tmp 46) = .int .i64 (x.weight / 256) := end_of hend 23 46 (by decide) rfl rfl rfl
          have f47 : a.eval (.tmp 47) = .int .u8 ((x.weight / 256) % 256) := end_of hend 24 47 (by decide) rfl rfl rfl
          have f48 : a.eval (.tmp 48) = .pointer (some ⟨wr.heap.size, 4, none⟩) := end_of hend 25 48 (by decide) rfl rfl rfl
          have f49 : a.eval (.tmp 49) = .int .i64 x.weight := end_of hend 26 49 (by decide) rfl rfl rfl
          have f50 : a.eval (.tmp 50) = .int .u8 (x.weight % 256) := end_of hend 27 50 (by decide) rfl rfl rfl
          have f51 : a.eval (.tmp 51) = .pointer (some ⟨wr.heap.size, 5, none⟩) := end_of hend 28 51 (by decide) rfl rfl rfl
          have f52 : a.eval (.tmp 52) = .int .i64 x.label := end_of hend 29 52 (by decide) rfl rfl rfl
          have f53 : a.eval (.tmp 53) = .int .u8 (x.label % 256) := end_of hend 30 53 (by decide) rfl rfl rfl
          have f54 : a.eval (.tmp 54) = .agg #[.int .i64 x.kind, .int .i64 x.time, .int .i64 x.u, .int .i64 x.v, .int .i64 x.weight, .int .i64 x.label, .int .i64 x.sign] := end_of hend 31 54 (by decide) rfl rfl rfl
          have f55 : a.eval (.tmp 55) = .int .u8 (sgn8 x) := end_of hend 32 55 (by decide) rfl rfl rfl
          have f56 : (FB x) (a.eval (.tmp 56)) ws := end_of hend 33 56 (by decide) rfl rfl rfl
          have ea := act_block 23 34 hsz hdf hag [23, 24, 25, 26, 27, 28, 29, 30, 31, 32, 33, 34, 35, 36, 37, 38, 39, 40, 41, 42, 43, 44, 45, 46, 47, 48, 49, 50, 51, 52, 53, 54, 55, 56] (by kernel_rfl) (by kernel_rfl) (of_decide_eq_true (by kernel_rfl))
          clear hag hend hsz hdf
          simp only [List.map_cons, List.map_nil, f23, f24, f25, f26, f27, f28, f29, f30, f31, f32, f33, f34, f35, f36, f37, f38, f39, f40, f41, f42, f43, f44, f45, f46, f47, f48, f49, f50, f51, f52, f53, f54, f55] at ea
          clear f23 f24 f25 f26 f27 f28 f29 f30 f31 f32 f33 f34 f35 f36 f37 f38 f39 f40 f41 f42 f43 f44 f45 f46 f47 f48 f49 f50 f51 f52 f53 f54 f55
          generalize a.eval (.tmp 56) = x56 at ea f56
          simp only [List.take_succ_cons, List.take_zero, List.drop_succ_cons, List.drop_zero, List.cons_append, List.nil_append] at ea
          subst ea
          have HO1 := Lib.hid (own_up (HO.out.alloc _) hb)
          have HB1 : Hid (Below w.heap.size w ws) := HB.out.trans ((below_via hb).mono HB.out.size)
          obtain ⟨g, rfl, hf⟩ := f56
          have HF := Lib.hid hf
          clear hb hf c0 c1 c2' c3 c4 c5 c6
          simp only [List.drop_succ_cons, List.drop_zero]
          go_wp2_with (at_builtin; refine wpList_applB _ rfl (.tmp 23) (.tmp 56) w.heap.size A2 c2 rfl ks (by simp [Act.eval]) HO1.out (some ⟨g, 0, none⟩) 10 10 (enc10 x) rfl (by simp [Act.eval]) HF.out (by have := hks.out; omega) HB1.out.size ?_; intro A6 c6 w6 HO6 HB6 _)
          go_roundw
          case rel => exact ⟨k + 1, A6, c6, ks ++ enc10 x, hlt, by go_num, by simp, by show _ = _; rw [List.length_append, hks.out]; simp [enc10]; omega, by show _ = _; rw [HK.out, encL_succ l x k HA.out], HO6.out, HB1.out.trans HB6.out⟩
          case measure => simp [RowKit.intOf]; omega
      · obtain rfl : k = l.length := by omega
        have hE : encT l = ks := by rw [encT, if_pos HR.out, HK.out, List.take_length]
        have HE := Lib.hid hE
        clear hE
        go_wp2
        exact bodyPost_ret (v := .tuple #[.slice A2 ks.length c2, .int .i64 0]) (by simp [results, Tryd.results12, go_sem]) rfl ⟨A2, c2, by rw [HE.out, HR.out], by rw [HE.out]; exact RX.of_own HO.out, HB.out⟩
  · have HE := Lib.hid (show encT l = [] by rw [encT, if_neg (by rw [HR.out]; exact h0)])
    have hd : (R != 0) = true := by simpa using h0
    clear h0
    go_enter Tryd.func12, Tryd.ntmps12
    go_wp2_with fail
    refine (checkList_any _ _ _ _ H.out hl).mono ?_
    rintro e w1 ⟨rfl, hb⟩
    have HB0 := Lib.hid hb
    clear hb
    rw [HR.out]
    go_wp2
    exact bodyPost_ret (v := .tuple #[.slice none 0 0, .int .i64 R]) (by simp [results, Tryd.results12, go_sem]) rfl ⟨none, 0, by rw [HE.out, HR.out]; rfl, by rw [HE.out]; exact RX.nil_ _ _ _ _, HB0.out⟩
end Go.Proofs.YtnohmgmpabckkaaDoor
