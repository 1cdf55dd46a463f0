/-
  An event out of its ten bytes.
-/
import Derived.Test.YtnohmgmpabckkaaDoorVr
import Derived.Laws.Cover3
namespace Go.Proofs.YtnohmgmpabckkaaDoor
open Go.RowKit Go.Lib

theorem signOf_any (k z : Int) (w : World) (h : (k = 1 ∧ (z = 1 ∨ z = -1)) ∨ (k ≠ 1 ∧ z = 0)) : Calls Tryd.prog 47 #[.int .i64 k, .int .u8 (if z = -1 then 1 else 0)] w fun e w' => e = .returned (.tuple #[.int .i64 z, .bool true]) ∧ w = w' := by
  rcases h with ⟨rfl, rfl | rfl⟩ | ⟨hk, rfl⟩
  · rw [if_neg (by decide)]
    go_enter Tryd.func47, Tryd.ntmps47
    go_wp2
    exact bodyPost_ret (v := .tuple #[.int .i64 1, .bool true]) (by simp [results, Tryd.results47, go_sem]) rfl ⟨rfl, rfl⟩
  · rw [if_pos rfl]
    go_enter Tryd.func47, Tryd.ntmps47
    go_wp2
    exact bodyPost_ret (v := .tuple #[.int .i64 (-1), .bool true]) (by simp [results, Tryd.results47, go_sem]) rfl ⟨rfl, rfl⟩
  · have hd : (k == 1) = false := by simpa using hk
    rw [if_neg (by decide)]
    clear hk
    go_enter Tryd.func47, Tryd.ntmps47
    go_wp2
    exact bodyPost_ret (v := .tuple #[.int .i64 0, .bool true]) (by simp [results, Tryd.results47, go_sem]) rfl ⟨rfl, rfl⟩
theorem or_i64 (i : Nat) (x y : Int) (hx₀ : 0 ≤ x) (hx : x % 2 ^ i = 0) (hx₁ : x < 4294967296) (hy₀ : 0 ≤ y) (hy : y < 2 ^ i) (hy₁ : y < 4294967296) : bits .or .i64 x y = x + y :=
  bits_join .i64 32 (by decide) (fun n h0 h1 => IntWalk.i64_in _ (by omega)) i x y hx₀ hx (by omega) hy₀ hy (by omega)
theorem or_b1 (a b : Int) (ha : 0 ≤ a ∧ a < 256) (hb : 0 ≤ b ∧ b < 256) : bits .or .i64 (a * 65536) (b * 256) = a * 65536 + b * 256 := or_i64 16 _ _ (by omega) (by omega) (by omega) (by omega) (by omega) (by omega)
theorem or_b2 (a b c : Int) (ha : 0 ≤ a ∧ a < 256) (hb : 0 ≤ b ∧ b < 256) (hc : 0 ≤ c ∧ c < 256) : bits .or .i64 (a * 65536 + b * 256) c = a * 65536 + b * 256 + c := or_i64 8 _ _ (by omega) (by omega) (by omega) (by omega) (by omega) (by omega)
theorem or_b3 (a b : Int) (ha : 0 ≤ a ∧ a < 256) (hb : 0 ≤ b ∧ b < 256) : bits .or .i64 (a * 256) b = a * 256 + b := or_i64 8 _ _ (by omega) (by omega) (by omega) (by omega) (by omega) (by omega)
set_option maxHeartbeats 2000000 in
set_option maxRecDepth 100000 in
theorem fromBytes_any (k b1 b2 b3 u v c1 c2 y s z : Int) (w : World) (hk : 0 ≤ k ∧ k < 256) (h1 : 0 ≤ b1 ∧ b1 < 256) (h2 : 0 ≤ b2 ∧ b2 < 256) (h3 : 0 ≤ b3 ∧ b3 < 256) (hu : 0 ≤ u ∧ u < 256) (hv : 0 ≤ v ∧ v < 256)
    (g1 : 0 ≤ c1 ∧ c1 < 256) (g2 : 0 ≤ c2 ∧ c2 < 256) (hy : 0 ≤ y ∧ y < 256) (hS : ∀ W, Calls Tryd.prog 47 #[.int .i64 k, .int .u8 s] W fun e w' => e = .returned (.tuple #[.int .i64 z, .bool true]) ∧ W = w') :
    Calls Tryd.prog 36 #[.agg #[.int .u8 k, .int .u8 b1, .int .u8 b2, .int .u8 b3, .int .u8 u, .int .u8 v, .int .u8 c1, .int .u8 c2, .int .u8 y, .int .u8 s]] w fun e w' => e = .returned (.tuple #[.agg #[.int .i64 k, .int .i64 (b1 * 65536 + b2 * 256 + b3), .int .i64 u, .int .i64 v, .int .i64 (c1 * 256 + c2), .int .i64 y, .int .i64 z], .bool true]) ∧ Below w.heap.size w w' := by
  have HS := Lib.hid hS
  clear hS
  have o1 := or_b1 b1 b2 h1 h2
  have o2 := or_b2 b1 b2 b3 h1 h2 h3
  have o3 := or_b3 c1 c2 g1 g2
  go_enter Tryd.func36, Tryd.ntmps36
  go_wp2_with fail
  refine (HS.out _).mono ?_
  rintro e w1 ⟨rfl, rfl⟩
  clear HS
  go_wp2_with fail
  exact ret_struct (p := 2) (u := 3) Tryd.results36 rfl (w.heap.size + 1) rfl (.bool true) rfl (by simpa using heap_alloc_new (w.alloc _) _) ⟨rfl, (below_new _ _).trans ((below_new _ _).mono (by simp))⟩
/-- the call on a valid event's ten bytes -/
theorem fromE_any (e : Ev) (V : VB e) (w : World) : Calls Tryd.prog 36 #[.agg #[.int .u8 (e.kind % 256), .int .u8 (e.time / 65536 % 256), .int .u8 (e.time / 256 % 256), .int .u8 (e.time % 256), .int .u8 (e.u % 256), .int .u8 (e.v % 256), .int .u8 (e.weight / 256 % 256), .int .u8 (e.weight % 256), .int .u8 (e.label % 256), .int .u8 (sgn8 e)]] w
    fun en w' => en = .returned (.tuple #[.agg #[.int .i64 e.kind, .int .i64 e.time, .int .i64 e.u, .int .i64 e.v, .int .i64 e.weight, .int .i64 e.label, .int .i64 e.sign], .bool true]) ∧ Below w.heap.size w w' := by
  obtain ⟨hk, ht, hu, hv, hx, hy, s1, s2, v3⟩ := V
  have hS : ∀ W, Calls Tryd.prog 47 #[.int .i64 e.kind, .int .u8 (sgn8 e)] W fun en w' => en = .returned (.tuple #[.int .i64 e.sign, .bool true]) ∧ W = w' := fun W => signOf_any e.kind e.sign W (by
    rcases hk with h | h | h
    · exact .inl ⟨h, s1 h⟩
    · exact .inr ⟨by omega, (s2 (by omega)).2.2⟩
    · exact .inr ⟨by omega, (s2 (by omega)).2.2⟩)
  have h := fromBytes_any e.kind (e.time / 65536 % 256) (e.time / 256 % 256) (e.time % 256) e.u e.v (e.weight / 256 % 256) (e.weight % 256) e.label (sgn8 e) e.sign w (by omega) (by omega) (by omega) (by omega) (by omega) (by omega) (by omega) (by omega) (by omega) hS
  rw [show e.time / 65536 % 256 * 65536 + e.time / 256 % 256 * 256 + e.time % 256 = e.time by omega, show e.weight / 256 % 256 * 256 + e.weight % 256 = e.weight by omega] at h
  rw [show e.kind % 256 = e.kind by omega, show e.u % 256 = e.u by omega, show e.v % 256 = e.v by omega, show e.label % 256 = e.label by omega]
  exact h
theorem encL_at (l : List Ev) (k : Nat) (e : Ev) (h : l[k]? = some e) (j : Nat) (hj : j < 10) : (encL l)[10 * k + j]? = (enc10 e)[j]? := by
  induction l generalizing k with
  | nil => simp at h
  | cons x l ih =>
    rw [show encL (x :: l) = enc10 x ++ encL l from rfl]
    have hx : (enc10 x).length = 10 := rfl
    cases k with
    | zero =>
      simp at h; subst h
      rw [List.getElem?_append_left (by rw [hx]; omega)]
      simp
    | succ k =>
      rw [List.getElem?_append_right (by rw [hx]; omega), hx, show 10 * (k + 1) + j - 10 = 10 * k + j by omega]
      exact ih k (by simpa using h)
/-- the ten bytes of an event, read -/
theorem RBy.ten {B : Nat} {w : World} {A : Option Addr} {c : Nat} {l : List Ev} (h : RBy B w A c (encL l)) {k : Nat} (hk : k < l.length) : ∃ (b off : Nat) (a : Ev), A = some ⟨b, off, none⟩ ∧ b < B ∧ l[k]? = some a ∧
    ∀ j u, (enc10 a)[j]? = some u → w.cell? ⟨b, off + 10 * k + j, none⟩ = some (.int .u8 u.toNat) := by
  obtain ⟨b, off, u0, rfl, hb, -, -⟩ := RBy.at_ h (k := 10 * k) (by rw [encL_len]; omega)
  refine ⟨b, off, l[k], rfl, hb, List.getElem?_eq_getElem hk, fun j u hu => ?_⟩
  have hj : j < 10 := (List.getElem?_eq_some_iff.1 hu).1
  obtain ⟨b', off', u', hA, -, hu', hc⟩ := RBy.at_ h (k := 10 * k + j) (by rw [encL_len]; omega)
  injection hA with hA
  injection hA with e1 e2
  subst e1; subst e2
  rw [encL_at l k _ (List.getElem?_eq_getElem hk) j hj, hu] at hu'
  injection hu' with hu'
  rw [Nat.add_assoc, hc, hu']
/-- what Decode answers to a list's bytes -/
def DecP (l : List Ev) (w : World) (e : Ending) (w' : World) : Prop :=
  ∃ A c, e = .returned (.tuple #[.slice A l.length c, .int .i64 0]) ∧ RE w'.heap.size w' A c l ∧ Below w.heap.size w w'
set_option maxHeartbeats 4000000 in
set_option maxRecDepth 100000 in
theorem decode_any (A : Option Addr) (c : Nat) (l : List Ev) (w : World) (h : RBy w.heap.size w A c (encL l)) (hl : l.length ≤ 60000) (h0 : chkL l = 0) :
    Calls Tryd.prog 17 #[.slice A (10 * l.length) c] w (DecP l w) := by
  have H := Lib.hid h
  have hc : 10 * l.length ≤ c := by have := h.1; rwa [encL_len] at this
  have H0 := Lib.hid h0
  have HV := Lib.hid (vb_all l (by unfold chkT; rw [if_neg (by omega)]; exact h0))
  clear h h0
  obtain ⟨i0, hi0, hz0, hz1, hz2⟩ := info_parts infoE
  have HI0 := Lib.hid hi0
  have HZ0 := Lib.hid hz0
  have HZ1 := Lib.hid hz1
  have HZ2 := Lib.hid hz2
  clear hi0 hz0 hz1 hz2
  have q1 : ((10 * l.length : Nat) : Int).tdiv 10 = l.length := by rw [Int.tdiv_eq_ediv_of_nonneg (by omega)]; omega
  have q2 : ((10 * l.length : Nat) : Int).tmod 10 = 0 := by rw [Int.tmod_eq_emod_of_nonneg (by omega)]; omega
  go_enter Tryd.func17, Tryd.ntmps17
  go_wp2_with (at_make; refine wpList_make_own _ rfl (.const (.int .i64 0)) (.tmp 18) 27 rfl w.heap.size 23 i0 _ 7 Tryd.underlying27 HI0.out HZ0.out HZ1.out .i64 .i64 (l.length : Int) l.length rfl (by simp [Act.eval]; try (rw [IntWalk.i64_in _ (by omega)])) (by omega) (by rw [HZ2.out]; omega) (by simp only [maxLen]; omega) (Nat.le_refl _) ?_; intro w2 ho1 hg1; have HO1 := Lib.hid ho1; have HG1 := Lib.hid hg1; clear ho1 hg1)
  have HB2 : Hid (Below w.heap.size w w2) := (Below.refl _ _).grown HG1.out (Nat.le_refl _) (fun k hk => by cases hk)
  clear HG1 HI0 HZ0 HZ1 HZ2 q1 q2
  go_loopw [4, 5] (fun v i wr => ∃ (k : Nat) (A2 : Option Addr) (c2 : Nat) (ks : List Ev), k ≤ l.length ∧ i = .int .i64 ((10 * k : Nat) : Int) ∧ v = .slice A2 ks.length c2 ∧ Hid (ks = l.take k) ∧
      Hid (wr.ownsRow w.heap.size 23 7 (.slice A2 ks.length c2) ks.length (cl Ev.cells ks)) ∧ Hid (Below w.heap.size w wr)) (fun _ i _ => 10 * l.length - (RowKit.intOf i).toNat)
  case atStart => exact ⟨0, _, l.length, [], Nat.zero_le _, rfl, rfl, rfl, HO1.out, HB2.out⟩
  case round =>
    clear HO1 HB2
    obtain ⟨k, A2, c2, ks, hk, rfl, rfl, HK, HO, HB⟩ := hrel
    have hkl : ks.length ≤ 60000 := by rw [HK.out]; simp; omega
    by_cases hlt : k < l.length
    · obtain ⟨b, off, e, rfl, hb, ha, hcs⟩ := RBy.ten (H.out.go HB.out) hlt
      have HE := Lib.hid ha
      have y0 := hcs 0 _ rfl; have y1 := hcs 1 _ rfl; have y2 := hcs 2 _ rfl; have y3 := hcs 3 _ rfl; have y4 := hcs 4 _ rfl; have y5 := hcs 5 _ rfl; have y6 := hcs 6 _ rfl; have y7 := hcs 7 _ rfl; have y8 := hcs 8 _ rfl; have y9 := hcs 9 _ rfl
      have hs : sgn8 e % 256 = sgn8 e := by unfold sgn8; split <;> rfl
      simp only [u8_val, hs, Nat.add_zero] at y0 y1 y2 y3 y4 y5 y6 y7 y8 y9
      clear ha hcs hs
      have CE := Lib.hid (fun W => fromE_any e (HV.out e (List.mem_of_getElem? HE.out)) W)
      have hat : ∀ W, (Instr.arrayAt 74 (.slice (some ⟨b, off + 10 * k, none⟩) 10 (c - 10 * k))).run Tryd.prog W = .ok (.pointer (some ⟨b, off + 10 * k, none⟩)) W := fun W => run_arrayAt W 74 _ 10 _ 10 _ Tryd.underlying74 (Nat.le_refl _)
      go_wp2_with fail
      refine (CE.out _).mono ?_
      rintro en w6 ⟨rfl, hb6⟩
      have HO6 := Lib.hid (own_up HO.out hb6)
      have HB6 : Hid (Below w.heap.size w w6) := HB.out.trans (hb6.mono HB.out.size)
      clear hb6 HO HB y0 y1 y2 y3 y4 y5 y6 y7 y8 y9 hat CE
      go_wp2_with (at_builtin; (refine wpList_applE _ rfl (.tmp 39) (.tmp 41) w.heap.size A2 c2 rfl ks (by simp [Act.eval]) ((HO6.out.alloc _).alloc _) (some ⟨w6.heap.size + 1, 0, none⟩) 1 1 [e] rfl (by simp [Act.eval]) (by have := RE_new1 (w6.alloc (.cells #[.int .i64 e.kind, .int .i64 e.time, .int .i64 e.u, .int .i64 e.v, .int .i64 e.weight, .int .i64 e.label, .int .i64 e.sign] 23)) e.kind e.time e.u e.v e.weight e.label e.sign; simpa using this) (by omega) (by have := HB6.out.size; simp; omega) ?_; intro A9 c9 w9 HO9 HB9 HG9))
      have HB69 : Hid (Below w.heap.size w w9) := ((HB6.out.trans ((below_new _ _).mono HB6.out.size)).trans ((below_new _ _).mono (by have := HB6.out.size; simp; omega))).trans HB9.out
      go_roundw
      case rel => exact ⟨k + 1, A9, c9, ks ++ [e], hlt, by go_num, by simp, by show _ = _; rw [HK.out, take_succ_of l e k HE.out], HO9.out, HB69.out⟩
      case measure => simp [RowKit.intOf]; try omega
    · obtain rfl : k = l.length := by omega
      have hke : ks = l := by rw [HK.out, List.take_of_length_le (Nat.le_refl _)]
      subst hke
      go_wp2_with fail
      refine (checkAll_any _ _ _ _ (RX.of_own HO.out) (by omega)).mono ?_
      rintro en w6 ⟨rfl, hb6⟩
      rw [H0.out]
      have HO6 := Lib.hid (own_up HO.out hb6)
      have HB6 : Hid (Below w.heap.size w w6) := HB.out.trans (hb6.mono HB.out.size)
      clear hb6 HO HB
      go_wp2
      exact bodyPost_ret (v := .tuple #[.slice A2 ks.length c2, .int .i64 0]) (by simp [results, Tryd.results17, go_sem]) rfl ⟨A2, c2, rfl, RX.of_own HO6.out, HB6.out⟩
end Go.Proofs.YtnohmgmpabckkaaDoor
