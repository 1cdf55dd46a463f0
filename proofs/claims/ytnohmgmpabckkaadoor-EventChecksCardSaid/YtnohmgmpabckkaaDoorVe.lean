/-
  The reference's Encode.
-/
import Derived.Test.YtnohmgmpabckkaaDoorVd
namespace Go.Proofs.YtnohmgmpabckkaaDoor
open Go.RowKit Go.Lib

theorem chkL_all (l : List Ev) (k : Nat) (a : Ev) (h : chkL l = 0) (ha : l[k]? = some a) : chkE a = 0 := by
  induction l generalizing k with
  | nil => simp at ha
  | cons x l ih =>
    by_cases h0 : chkE x = 0
    · rw [chkL, if_pos h0] at h
      cases k with
      | zero => simp at ha; subst ha; exact h0
      | succ k => exact ih k h (by simpa using ha)
    · rw [chkL, if_neg h0] at h; exact absurd h h0
theorem chkT_all (l : List Ev) (k : Nat) (a : Ev) (h : chkT l = 0) (ha : l[k]? = some a) : chkE a = 0 := by
  unfold chkT at h
  split at h
  · omega
  · exact chkL_all l k a h ha
theorem chkT_len (l : List Ev) (h : chkT l = 0) : l.length ≤ 65536 := by
  unfold chkT at h
  split at h <;> omega
theorem valid_sign (a : Ev) (h : chkE a = 0) : (a.sign < 0 ↔ a.sign = -1) := by
  unfold chkE at h
  split at h
  · omega
  split at h
  · omega
  split at h
  · omega
  split at h
  · omega
  rename_i h1
  unfold attrB at h1
  split at h1 <;> simp at h1 <;> omega
theorem RB_new' (a : Ev) (w : World) (s : Int) (hs : sgn8 a = s) (g : Nat) (hg : g = w.heap.size) : RBy (w.alloc (.cells #[.int .u8 (a.kind % 256), .int .u8 (a.time / 65536 % 256), .int .u8 (a.time / 256 % 256), .int .u8 (a.time % 256), .int .u8 (a.u % 256), .int .u8 (a.v % 256), .int .u8 (a.weight / 256 % 256), .int .u8 (a.weight % 256), .int .u8 (a.label % 256), .int .u8 s] 5)).heap.size (w.alloc (.cells #[.int .u8 (a.kind % 256), .int .u8 (a.time / 65536 % 256), .int .u8 (a.time / 256 % 256), .int .u8 (a.time % 256), .int .u8 (a.u % 256), .int .u8 (a.v % 256), .int .u8 (a.weight / 256 % 256), .int .u8 (a.weight % 256), .int .u8 (a.label % 256), .int .u8 s] 5)) (some ⟨g, 0, none⟩) 10 (enc10 a) := by
  subst hs hg
  rw [u8_cells]
  exact RX_new encB w (enc10 a) 5
set_option maxHeartbeats 4000000 in
set_option maxRecDepth 100000 in
theorem rencode_any (A : Option Addr) (c : Nat) (l : List Ev) (w : World) (h : RE w.heap.size w A c l) (hl : l.length ≤ 1000000) :
    Calls Tryd.prog 13 #[.slice A l.length c] w (EncP l w) := by
  have H := Lib.hid h
  clear h
  obtain ⟨R, HR⟩ : ∃ R, Hid (chkT l = R) := ⟨_, rfl⟩
  by_cases h0 : R = 0
  · subst h0
    go_enter Tryd.func13, Tryd.ntmps13
    go_wp2_with fail
    refine (rcheckAll_any _ _ _ _ H.out hl).mono ?_
    rintro e w1 ⟨rfl, hb⟩
    have HB0 := Lib.hid hb
    clear hb
    rw [HR.out]
    have HO1 : Hid (w1.ownsRow w.heap.size 5 1 (.slice none 0 0) 0 []) := World.ownsRow_nil _ _ _ _
    go_wp2
    go_loopw [5, 16] (fun s i wr => ∃ (k : Nat) (A2 : Option Addr) (c2 : Nat) (ks : List UInt8), k ≤ l.length ∧ i = .int .i64 k ∧ s = .slice A2 ks.length c2 ∧ Hid (ks.length = 10 * k) ∧ Hid (ks = encL (l.take k)) ∧
        Hid (wr.ownsRow w.heap.size 5 1 (.slice A2 ks.length c2) ks.length (cl byc ks)) ∧ Hid (Below w.heap.size w wr)) (fun _ i _ => l.length - (RowKit.intOf i).toNat)
    case atStart => exact ⟨0, none, 0, [], Nat.zero_le _, rfl, rfl, rfl, rfl, HO1.out, HB0.out⟩
    case round =>
      clear HO1 HB0
      obtain ⟨k, A2, c2, ks, hk, rfl, rfl, hks, HK, HO, HB⟩ := hrel
      by_cases hlt : k < l.length
      · obtain ⟨b, off, x, rfl, hb, ha, c0, c1, c2', c3, c4, c5, c6⟩ := RE.at_ (H.out.go HB.out) hlt
        have HA := Lib.hid ha
        have HV := Lib.hid (valid_sign x (chkT_all l k x HR.out ha))
        clear ha
        by_cases hs : x.sign < 0
        · have HSG := Lib.hid (show sgn8 x = 1 by unfold sgn8; rw [if_pos (HV.out.1 hs)])
          go_wp2_with (at_builtin; refine wpList_applB _ rfl (.tmp 23) (.tmp 55) w.heap.size A2 c2 rfl ks (by simp [Act.eval]) ((HO.out.alloc _).alloc _) (some ⟨wr.heap.size + 1, 0, none⟩) 10 10 (enc10 x) rfl (by simp [Act.eval]) (RB_new' x (wr.alloc (.cells #[.int .i64 x.kind, .int .i64 x.time, .int .i64 x.u, .int .i64 x.v, .int .i64 x.weight, .int .i64 x.label, .int .i64 x.sign] 23)) _ HSG.out (wr.heap.size + 1) (by simp)) (by have := hks.out; omega) (by have := HB.out.size; simp; omega) ?_; intro A6 c6 w6 HO6 HB6 _)
          have HB7 : Hid (Below w.heap.size w w6) := ((HB.out.trans ((below_new wr _).mono HB.out.size)).trans ((below_new _ _).mono (by have := HB.out.size; simp; omega))).trans HB6.out
          go_roundw
          case rel => exact ⟨k + 1, A6, c6, ks ++ enc10 x, hlt, by go_num, by simp, by show _ = _; rw [List.length_append, hks.out]; simp [enc10]; omega, by show _ = _; rw [HK.out, encL_succ l x k HA.out], HO6.out, HB7.out⟩
          case measure => simp [RowKit.intOf]; omega
        · have HSG := Lib.hid (show sgn8 x = 0 by unfold sgn8; rw [if_neg (fun h => hs (HV.out.2 h))])
          go_wp2_with (at_builtin; refine wpList_applB _ rfl (.tmp 23) (.tmp 55) w.heap.size A2 c2 rfl ks (by simp [Act.eval]) ((HO.out.alloc _).alloc _) (some ⟨wr.heap.size + 1, 0, none⟩) 10 10 (enc10 x) rfl (by simp [Act.eval]) (RB_new' x (wr.alloc (.cells #[.int .i64 x.kind, .int .i64 x.time, .int .i64 x.u, .int .i64 x.v, .int .i64 x.weight, .int .i64 x.label, .int .i64 x.sign] 23)) _ HSG.out (wr.heap.size + 1) (by simp)) (by have := hks.out; omega) (by have := HB.out.size; simp; omega) ?_; intro A6 c6 w6 HO6 HB6 _)
          have HB7 : Hid (Below w.heap.size w w6) := ((HB.out.trans ((below_new wr _).mono HB.out.size)).trans ((below_new _ _).mono (by have := HB.out.size; simp; omega))).trans HB6.out
          go_roundw
          case rel => exact ⟨k + 1, A6, c6, ks ++ enc10 x, hlt, by go_num, by simp, by show _ = _; rw [List.length_append, hks.out]; simp [enc10]; omega, by show _ = _; rw [HK.out, encL_succ l x k HA.out], HO6.out, HB7.out⟩
          case measure => simp [RowKit.intOf]; omega
      · obtain rfl : k = l.length := by omega
        have hE : encT l = ks := by rw [encT, if_pos HR.out, HK.out, List.take_length]
        have HE := Lib.hid hE
        clear hE
        go_wp2
        exact bodyPost_ret (v := .tuple #[.slice A2 ks.length c2, .int .i64 0]) (by simp [results, Tryd.results13, go_sem]) rfl ⟨A2, c2, by rw [HE.out, HR.out], by rw [HE.out]; exact RX.of_own HO.out, HB.out⟩
  · have HE := Lib.hid (show encT l = [] by rw [encT, if_neg (by rw [HR.out]; exact h0)])
    have hd : (R != 0) = true := by simpa using h0
    clear h0
    go_enter Tryd.func13, Tryd.ntmps13
    go_wp2_with fail
    refine (rcheckAll_any _ _ _ _ H.out hl).mono ?_
    rintro e w1 ⟨rfl, hb⟩
    have HB0 := Lib.hid hb
    clear hb
    rw [HR.out]
    go_wp2
    exact bodyPost_ret (v := .tuple #[.slice none 0 0, .int .i64 R]) (by simp [results, Tryd.results13, go_sem]) rfl ⟨none, 0, by rw [HE.out, HR.out]; rfl, by rw [HE.out]; exact RX.nil_ _ _ _ _, HB0.out⟩
end Go.Proofs.YtnohmgmpabckkaaDoor
