/-
  Parse of lines that are events'.
-/
import Derived.Test.YtnohmgmpabckkaaDoorVq
namespace Go.Proofs.YtnohmgmpabckkaaDoor
open Go.RowKit Go.Lib

theorem fromWords_any (A : Option Addr) (c : Nat) (e : Ev) (h0 : chkE e = 0) (S : List ByteArray) (hS : (wl e).map mk = S) (w : World) (K : KW w) (h : RSt w.heap.size w A c S) :
    Calls Tryd.prog 41 #[.slice A S.length c] w fun en w' => en = .returned (.tuple #[.agg #[.int .i64 e.kind, .int .i64 e.time, .int .i64 e.u, .int .i64 e.v, .int .i64 e.weight, .int .i64 e.label, .int .i64 e.sign], .int .i64 0]) ∧ Below w.heap.size w w' := by
  obtain ⟨hk, ht, hu, hv, hx, hy, s1, s2, v3⟩ := vb_of e h0
  obtain ⟨k, t, u, v, x, y, z⟩ := e
  simp only at hk ht hu hv hx hy s1 s2 v3
  subst hS
  rcases hk with rfl | rfl | rfl
  · exact fromWords1_any A c t u v x y z ht hu hv hx hy (s1 rfl) h0 w K h
  · obtain ⟨rfl, rfl, rfl⟩ := s2 (by decide)
    exact fromWords2_any A c t u v ht hu hv h0 w K h
  · obtain ⟨rfl, rfl, rfl⟩ := s2 (by decide)
    obtain rfl := v3 rfl
    exact fromWords3_any A c t u ht hu h0 w K h
def ParseP (l : List Ev) (w : World) (e : Ending) (w' : World) : Prop :=
  ∃ A c, e = .returned (.tuple #[.slice A l.length c, .int .i64 0, .int .i64 0]) ∧ RE w'.heap.size w' A c l ∧ Below w.heap.size w w'
/-- the lines of events, and an empty one behind them, or none -/
def lns (l : List Ev) (t : Bool) : List (List UInt8) := l.map lnE ++ (if t = true then [[]] else [])
theorem lns_len (l : List Ev) (t : Bool) : (lns l t).length ≤ l.length + 1 ∧ l.length ≤ (lns l t).length := by unfold lns; split <;> simp
theorem lns_at (l : List Ev) (t : Bool) (k : Nat) (x : List UInt8) (h : (lns l t)[k]? = some x) : (∃ e, l[k]? = some e ∧ x = lnE e) ∨ (l.length ≤ k ∧ x = []) := by
  unfold lns at h
  by_cases hk : k < l.length
  · rw [List.getElem?_append_left (by simpa using hk), List.getElem?_map] at h
    obtain ⟨e, he, hx⟩ := Option.map_eq_some_iff.1 h
    exact .inl ⟨e, he, hx.symm⟩
  · rw [List.getElem?_append_right (by simp; omega)] at h
    refine .inr ⟨by omega, ?_⟩
    have hm := List.mem_of_getElem? h
    split at hm
    · simpa using hm
    · simp at hm
theorem lns_mem (l : List Ev) (t : Bool) (hv : ∀ e ∈ l, VB e) : ∀ x ∈ lns l t, ∀ b ∈ x, b ≠ 10 := by
  intro x hx b hb
  obtain ⟨k, hk, hk2⟩ := List.getElem_of_mem hx
  rcases lns_at l t k x (by rw [List.getElem?_eq_getElem hk, hk2]) with ⟨e, he, rfl⟩ | ⟨-, rfl⟩
  · exact line_no10 e (hv e (List.mem_of_getElem? he)) b hb
  · simp at hb
theorem lnE_len (e : Ev) (V : VB e) : (lnE e).length ≤ 59 := by
  have := txtE_len e V
  unfold txtE at this
  simp at this
  exact this
theorem RE_new1 (w : World) (k t u v x y z : Int) : RE (w.alloc (.cells #[.int .i64 k, .int .i64 t, .int .i64 u, .int .i64 v, .int .i64 x, .int .i64 y, .int .i64 z] 23)).heap.size (w.alloc (.cells #[.int .i64 k, .int .i64 t, .int .i64 u, .int .i64 v, .int .i64 x, .int .i64 y, .int .i64 z] 23)) (some ⟨w.heap.size, 0, none⟩) 1 [⟨k, t, u, v, x, y, z⟩] := RX_new encE w [⟨k, t, u, v, x, y, z⟩] 23
theorem infoLines : cl stc = fun (l : List ByteArray) => l.map Value.string := by funext l; exact cl_stc l
set_option maxHeartbeats 4000000 in
set_option maxRecDepth 100000 in
theorem parse_any (l : List Ev) (t : Bool) (w : World) (K : KW w) (hl : l.length ≤ 60000) (hne : lns l t ≠ []) (h0 : ∀ e ∈ l, chkE e = 0) (hs : (Lib.join (lns l t) [10]).length ≤ 1048576) :
    Calls Tryd.prog 18 #[.string (mk (Lib.join (lns l t) [10]))] w (ParseP l w) := by
  have HSP := Lib.hid (split_lines (lns l t) hne (lns_mem l t (fun e he => vb_of e (h0 e he))))
  have HCT := Lib.hid (Lib.splitB_all ⟨#[10]⟩ (by decide) 0 _ (mk (Lib.join (lns l t) [10])) rfl)
  rw [HSP.out] at HCT
  have H0 := Lib.hid h0
  have HW := Lib.hid K
  obtain ⟨S, HS⟩ : ∃ S, Hid (mk (Lib.join (lns l t) [10]) = S) := ⟨_, rfl⟩
  have hsz : S.size ≤ 1048576 := by rw [← HS.out, mk_size]; exact hs
  obtain ⟨L, HL⟩ : ∃ L, Hid ((lns l t).map mk = L) := ⟨_, rfl⟩
  rw [HS.out, HL.out] at HSP HCT
  rw [HS.out]
  have HLen : Hid (L.length ≤ l.length + 1 ∧ l.length ≤ L.length) := by show _ ∧ _; rw [← HL.out, List.length_map]; exact lns_len l t
  obtain ⟨m, hm⟩ := K.ml
  have CSP : Hid (Calls Tryd.prog 38 #[.string S, .string ⟨#[10]⟩] w fun e w' => e = .returned (.slice (some ⟨w.heap.size, 0, none⟩) L.length L.length) ∧ w' = w.alloc (.cells (L.map Value.string).toArray 9)) := by
    have := Tryd.strings_Split S ⟨#[10]⟩ m w (by omega) hm (by decide)
    rw [HSP.out, ← HCT.out] at this
    exact this
  have HR : Hid (RSt (w.alloc (.cells (L.map Value.string).toArray 9)).heap.size (w.alloc (.cells (L.map Value.string).toArray 9)) (some ⟨w.heap.size, 0, none⟩) L.length L) := by
    have := RX_new encS w L 9
    rw [cl_stc] at this
    exact this
  have hbig : ∀ s ∈ L, s.size ≤ 9223372036854775807 := by
    intro s hs
    rw [← HL.out] at hs
    obtain ⟨x, hx, rfl⟩ := List.mem_map.1 hs
    rw [mk_size]
    obtain ⟨k, hk, hk2⟩ := List.getElem_of_mem hx
    rcases lns_at l t k x (by rw [List.getElem?_eq_getElem hk, hk2]) with ⟨e, he, rfl⟩ | ⟨-, rfl⟩
    · have := lnE_len e (vb_of e (h0 e (List.mem_of_getElem? he))); omega
    · simp
  have hL2 : L.length ≤ 60001 := by have := HLen.out; omega
  clear K h0 hs hne HSP HCT hm
  go_enter Tryd.func18, Tryd.ntmps18
  go_wp2_with fail
  refine CSP.out.mono ?_
  rintro e w1 ⟨rfl, rfl⟩
  have HB1 := Lib.hid (below_new w (.cells (L.map Value.string).toArray 9))
  generalize w.alloc (.cells (L.map Value.string).toArray 9) = w1 at HR HB1 ⊢
  go_wp2_with fail
  refine (countLines_any _ _ _ _ HR.out (by omega) hbig).mono ?_
  rintro e w2 ⟨n, rfl, hn, hb2⟩
  have HR2 := Lib.hid (RX.up HR.out hb2)
  have HB2 : Hid (Below w.heap.size w w2) := HB1.out.trans (hb2.mono HB1.out.size)
  clear hb2 HR HB1 CSP
  have hn2 : ¬ (65536 : Int) < (n : Int) := by omega
  have HO0 : Hid (w2.ownsRow w2.heap.size 23 7 (.slice none 0 0) 0 []) := World.ownsRow_nil _ _ _ _
  go_wp2
  go_loopw [6, 22] (fun v i wr => ∃ (k : Nat) (A2 : Option Addr) (c2 : Nat) (ks : List Ev), k ≤ L.length ∧ i = .int .i64 k ∧ v = .slice A2 ks.length c2 ∧ Hid (ks = l.take k) ∧
      Hid (wr.ownsRow w2.heap.size 23 7 (.slice A2 ks.length c2) ks.length (cl Ev.cells ks)) ∧ Hid (Below w2.heap.size w2 wr)) (fun _ i _ => L.length - (RowKit.intOf i).toNat)
  case atStart => exact ⟨0, none, 0, [], Nat.zero_le _, rfl, rfl, rfl, HO0.out, Below.refl _ _⟩
  case round =>
    clear HO0
    obtain ⟨k, A2, c2, ks, hk, rfl, rfl, HK, HO, HB3⟩ := hrel
    have HB : Hid (Below w.heap.size w wr) := HB2.out.trans (HB3.out.mono HB2.out.size)
    have hkl : ks.length ≤ 60000 := by rw [HK.out]; simp; omega
    by_cases hlt : k < L.length
    · obtain ⟨b, off, a, hbo, hb, ha, hc⟩ := RSt.at_ (HR2.out.go HB3.out) hlt
      injection hbo with hbo
      injection hbo with e1 e2
      subst e1; subst e2
      rw [Nat.zero_add] at hc
      rw [← HL.out, List.getElem?_map] at ha
      obtain ⟨x, hx, rfl⟩ := Option.map_eq_some_iff.1 ha
      rcases lns_at l t k x hx with ⟨e, he, rfl⟩ | ⟨hle, rfl⟩
      · have HE := Lib.hid he
        have HC := Lib.hid (H0.out e (List.mem_of_getElem? he))
        have HV := Lib.hid (vb_of e HC.out)
        clear ha hx he
        obtain ⟨S2, HS2⟩ : ∃ S2, Hid ((wl e).map mk = S2) := ⟨_, rfl⟩
        have hpos : 0 < S2.length := by rw [← HS2.out]; exact wl_pos e
        have hd : ((S2.length : Int) == 0) = false := by rw [beq_eq_false_iff_ne]; omega
        have CW := Lib.hid (fun W => wordsIn_any (lnE e) W (by have := lnE_len e HV.out; omega))
        rw [wds_line e HV.out, HS2.out] at CW
        obtain ⟨X, HX⟩ : ∃ X, Hid (mk (lnE e) = X) := ⟨_, rfl⟩
        rw [HX.out] at CW hc
        go_wp2_with fail
        refine (CW.out _).mono ?_
        rintro en w5 ⟨A3, c3, rfl, hr5, hb5⟩
        have HR5 := Lib.hid hr5
        have HO5 := Lib.hid (own_up HO.out hb5)
        have HB5 : Hid (Below w.heap.size w w5) := HB.out.trans (hb5.mono HB.out.size)
        have HB35 : Hid (Below w2.heap.size w2 w5) := HB3.out.trans (hb5.mono HB3.out.size)
        clear hb5 hr5 hc CW HO HB HB3
        go_wp2_with fail
        refine (fromWords_any A3 c3 e HC.out S2 HS2.out _ (HW.out.go HB5.out HW.out.sz) HR5.out).mono ?_
        rintro en w6 ⟨rfl, hb6⟩
        have HO6 := Lib.hid (own_up HO5.out hb6)
        have HB6 : Hid (Below w.heap.size w w6) := HB5.out.trans (hb6.mono HB5.out.size)
        have HB36 : Hid (Below w2.heap.size w2 w6) := HB35.out.trans (hb6.mono HB35.out.size)
        clear hb6 HO5 HB5 HB35 HR5
        go_wp2_with (at_builtin; (refine wpList_applE _ rfl (.tmp 42) (.tmp 44) w2.heap.size A2 c2 rfl ks (by simp [Act.eval]) ((HO6.out.alloc _).alloc _) (some ⟨w6.heap.size + 1, 0, none⟩) 1 1 [e] rfl (by simp [Act.eval]) (by have := RE_new1 (w6.alloc (.cells #[.int .i64 e.kind, .int .i64 e.time, .int .i64 e.u, .int .i64 e.v, .int .i64 e.weight, .int .i64 e.label, .int .i64 e.sign] 23)) e.kind e.time e.u e.v e.weight e.label e.sign; simpa using this) (by omega) (by have := HB36.out.size; simp; omega) ?_; intro A9 c9 w9 HO9 HB9 HG9))
        have HB39 : Hid (Below w2.heap.size w2 w9) := ((HB36.out.trans ((below_new _ _).mono HB36.out.size)).trans ((below_new _ _).mono (by have := HB36.out.size; simp; omega))).trans HB9.out
        go_roundw
        case rel => exact ⟨k + 1, A9, c9, ks ++ [e], hlt, by go_num, by simp, by show _ = _; rw [HK.out, take_succ_of l e k HE.out], HO9.out, HB39.out⟩
        case measure => simp [RowKit.intOf]; try omega
      · clear ha hx
        have CW := Lib.hid (fun W => wordsIn_any [] W (by simp))
        rw [show wdsA [] [] = [] from rfl] at CW
        obtain ⟨X, HX⟩ : ∃ X, Hid (mk [] = X) := ⟨_, rfl⟩
        rw [HX.out] at CW hc
        go_wp2_with fail
        refine (CW.out _).mono ?_
        rintro en w5 ⟨A3, c3, rfl, hr5, hb5⟩
        have HO5 := Lib.hid (own_up HO.out hb5)
        have HB35 : Hid (Below w2.heap.size w2 w5) := HB3.out.trans (hb5.mono HB3.out.size)
        clear hb5 hr5 hc CW HO HB HB3
        go_wp2
        go_roundw
        case rel => exact ⟨k + 1, A2, c2, ks, hlt, by go_num, rfl, by show _ = _; rw [HK.out, List.take_of_length_le hle, List.take_of_length_le (by omega)], HO5.out, HB35.out⟩
        case measure => simp [RowKit.intOf]; try omega
    · obtain rfl : k = L.length := by omega
      have hke : ks = l := by rw [HK.out, List.take_of_length_le HLen.out.2]
      subst hke
      go_wp2
      exact bodyPost_ret (v := .tuple #[.slice A2 ks.length c2, .int .i64 0, .int .i64 0]) (by simp [results, Tryd.results18, go_sem]) rfl ⟨A2, c2, rfl, RX.of_own HO.out, HB.out⟩
end Go.Proofs.YtnohmgmpabckkaaDoor
