/-
  An event happens.
-/
import Derived.Test.YtfapfkaipdcflaaKm
import Derived.Lib.SliceRun
namespace Go.Proofs.Ytfapfkaipdcflaa.K
open Go.RowKit Go.Lib

set_option maxHeartbeats 2000000 in
theorem apply_any (base P : Nat) (A : Option Addr) (c : Nat) (l : List Ls.Lk) (k t u v x y z : Int) (hk : k = 1 ∨ k = 2 ∨ k = 3) (w : World) (h : PS base P A c l w) (ha : Ls.Asc l) (hl : l.length ≤ 65536) (hbase : base ≤ w.heap.size) :
    Calls Try.prog 55 #[.pointer (some ⟨P, 0, none⟩), .agg #[.int .i64 k, .int .i64 t, .int .i64 u, .int .i64 v, .int .i64 x, .int .i64 y, .int .i64 z]] w (AppP base P l ⟨k, t, u, v, x, y, z⟩ w) := by
  have HB := Lib.hid (below_new w (.cells #[.int .i64 k, .int .i64 t, .int .i64 u, .int .i64 v, .int .i64 x, .int .i64 y, .int .i64 z] 40))
  have H1 := Lib.hid (h.go HB.out)
  have hb1 := Lib.hid (Nat.le_trans hbase HB.out.size)
  have hb0 := Lib.hid hbase
  clear h hbase
  rcases hk with rfl | rfl | rfl
  · have CL := Lib.hid (fun w => linkOf_any 1 t u v x y z w)
    have CS : Hid (∀ w2, PS base P A c l w2 → base ≤ w2.heap.size → Calls Try.prog 73 #[.pointer (some ⟨P, 0, none⟩), .agg #[.int .i64 (min u v), .int .i64 (max u v), .int .i64 x, .int .i64 y, .int .i64 z, .int .i64 t]] w2 (SetLP base P l ⟨min u v, max u v, x, y, z, t⟩ w2)) := fun w2 h2 hb => set_any base P A c l _ _ _ _ _ _ w2 h2 ha hl hb
    have HLK : Hid (Ls.lk ⟨1, t, u, v, x, y, z⟩ = ⟨min u v, max u v, x, y, z, t⟩) := rfl
    obtain ⟨U, HU⟩ : ∃ U, Hid (min u v = U) := ⟨_, rfl⟩
    obtain ⟨V, HV⟩ : ∃ V, Hid (max u v = V) := ⟨_, rfl⟩
    simp only [HU.out, HV.out] at CL CS HLK
    go_enter Try.func55, Try.ntmps55
    go_wp2_with fail
    refine (CL.out _).mono ?_
    rintro e w2 ⟨rfl, hb2⟩
    have HB2 := Lib.hid hb2
    clear hb2 CL
    go_wp2_with fail
    refine (CS.out w2 (H1.out.go HB2.out) (Nat.le_trans hb1.out HB2.out.size)).mono ?_
    rintro e w3 ⟨A3, A4, c3, c4, ev, rfl, hev, hrv, hps, hbw⟩
    have HEV : Hid (Ls.chg l ⟨1, t, u, v, x, y, z⟩ = ev) := by
      show _ = _
      rw [hev, Ls.chg, if_pos rfl, HLK.out]
    have HNX : Hid (Ls.nextL l ⟨1, t, u, v, x, y, z⟩ = Ls.put ⟨U, V, x, y, z, t⟩ l) := by
      show _ = _
      rw [Ls.nextL, if_pos rfl, HLK.out]
    have HRV := Lib.hid hrv
    have HPS := Lib.hid hps
    have HBW := Lib.hid ((below_le HB.out hb0.out).trans (((below_le HB2.out hb1.out)).trans hbw))
    clear hev hrv hps hbw CS
    go_wp2
    go_ret
    exact ⟨A3, A4, c3, c4, by rw [HEV.out]; rfl, by rw [HEV.out]; exact HRV.out, by rw [HNX.out]; exact HPS.out, HBW.out⟩
  · have CC := Lib.hid (cut_any base P A c l t u v x y z _ H1.out ha hl hb1.out)
    go_enter Try.func55, Try.ntmps55
    go_wp2_with fail
    refine CC.out.mono ?_
    rintro e w3 ⟨A3, A4, c3, c4, rfl, hrv, hps, hbw⟩
    have HRV := Lib.hid hrv
    have HPS := Lib.hid hps
    have HBW := Lib.hid ((below_le HB.out hb0.out).trans hbw)
    obtain ⟨m, HM⟩ : ∃ m, Hid ((Ls.chg l ⟨2, t, u, v, x, y, z⟩).length = m) := ⟨_, rfl⟩
    rw [HM.out]
    clear hrv hps hbw CC
    go_wp2
    go_ret
    exact ⟨A3, A4, c3, c4, by rw [HM.out]; rfl, HRV.out, HPS.out, HBW.out⟩
  · have CC := Lib.hid (leave_any base P A c l t u v x y z _ H1.out hl hb1.out)
    go_enter Try.func55, Try.ntmps55
    go_wp2_with fail
    refine CC.out.mono ?_
    rintro e w3 ⟨A3, A4, c3, c4, rfl, hrv, hps, hbw⟩
    have HRV := Lib.hid hrv
    have HPS := Lib.hid hps
    have HBW := Lib.hid ((below_le HB.out hb0.out).trans hbw)
    obtain ⟨m, HM⟩ : ∃ m, Hid ((Ls.chg l ⟨3, t, u, v, x, y, z⟩).length = m) := ⟨_, rfl⟩
    rw [HM.out]
    clear hrv hps hbw CC
    go_wp2
    go_ret
    exact ⟨A3, A4, c3, c4, by rw [HM.out]; rfl, HRV.out, HPS.out, HBW.out⟩
set_option maxHeartbeats 2000000 in
set_option maxRecDepth 100000 in
theorem clone_any (A : Option Addr) (c : Nat) (l : List Ls.Lk) (w : World) (h : RL w.heap.size w A c l) (hl : l.length ≤ 65536) :
    Calls Try.prog 53 #[.slice A l.length c] w fun e w' => ∃ A' c', e = .returned (.slice A' l.length c') ∧ w'.ownsRow w.heap.size 57 6 (.slice A' l.length c') l.length (cl Ls.Lk.cells l) ∧ Below w.heap.size w w' := by
  have H := Lib.hid h
  have q22 : ∀ (w : World) (a : Option Addr) (n c n' c' : Nat), (binOp .eql 48 (.slice a n c) (.slice none n' c')).run Try.prog w = .ok (.bool a.isNone) w := fun w a n c n' c' => Lib.run_eql_slice_nil w _ _ a n c n' c' Try.underlying48
  cases A with
  | none =>
    have h0 : l = [] := by
      cases l with
      | nil => rfl
      | cons a l =>
        obtain ⟨_, _, _, e, _⟩ := RX.let_ encL (by decide) (k := 0) h (by simp)
        cases e
    subst h0
    clear h
    go_enter Try.func53, Try.ntmps53
    go_wp2
    go_ret
    exact ⟨none, 0, rfl, World.ownsRow_nil _ _ _ _, Below.refl _ _⟩
  | some ad =>
    obtain ⟨n, HN⟩ : ∃ n, Hid (l.length = n) := ⟨_, rfl⟩
    have HO : Hid ((w.alloc (.cells #[] 57)).ownsRow w.heap.size 57 6 (.slice (some ⟨w.heap.size, 0, none⟩) ([] : List Ls.Lk).length 0) ([] : List Ls.Lk).length (cl Ls.Lk.cells [])) := World.ownsRow_made w #[] 0 (Nat.le_refl _) (by unfold maxLen; omega) rfl
    clear h
    go_enter Try.func53, Try.ntmps53
    go_wp2_with (at_builtin; (refine wpList_applL _ rfl (.tmp 5) (.tmp 6) w.heap.size (some ⟨w.heap.size, 0, none⟩) 0 rfl [] (by simp [Act.eval]) HO.out (some ad) c l.length l rfl (by simp [Act.eval]) (H.out.up (below_new _ _)) (by simp; omega) (by simp) ?_; intro A6 c6 w6 HO6 HB6 HG6))
    have HBW : Hid (Below w.heap.size w w6) := (below_new w _).trans HB6.out
    simp only [List.nil_append] at HO6 ⊢
    go_wp2
    go_ret
    exact ⟨A6, c6, rfl, HO6.out, HBW.out⟩
end Go.Proofs.Ytfapfkaipdcflaa.K
