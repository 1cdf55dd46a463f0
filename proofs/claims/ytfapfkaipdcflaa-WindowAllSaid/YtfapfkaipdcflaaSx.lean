/-
  WindowAll: the walk of the law.
-/
import Derived.Test.YtfapfkaipdcflaaSw
namespace Go.Proofs.Ytfapfkaipdcflaa
open Go.RowKit Go.Lib

theorem okEv_of {N : Nat} {T : Int} {l : List Ev} (h : ∀ e ∈ l, Ls.Good N e ∧ e.time ≤ T) (hp : l.Pairwise (fun a b => a.time ≤ b.time)) : Ls.OkEv N 0 l :=
  ⟨fun e he => ⟨(h e he).1, (Ls.good_kind (h e he).1).2.1⟩, hp⟩
theorem chkSt_zero {N : Nat} (hN : N ≤ 64) {l : List Ev} (hl : l.length ≤ 65536) (h : Ls.OkEv N 0 l) : Ls.chkSt N l = 0 := by
  unfold Ls.chkSt
  rw [if_neg (by omega), if_neg (by omega)]
  exact (Ls.chkEv_ok N 0 l).2 h
theorem pairwise_near {l : List Ev} {T W : Int} (h : ∀ e ∈ l, 0 ≤ e.time ∧ e.time ≤ T) (hT : T < W) : l.Pairwise fun a b => b.time - a.time < W := by
  induction l with
  | nil => exact List.Pairwise.nil
  | cons a l ih =>
    refine List.pairwise_cons.2 ⟨fun b hb => ?_, ih fun e he => h e (by simp [he])⟩
    have h1 := h a (by simp)
    have h2 := h b (by simp [hb])
    omega
/-- Slide of a valid stream, at a valid window -/
theorem slide_ok (N : Nat) (hN : N ≤ 64) (k W M : Int) (hk : (Lit.int .i64 k).wf = true) (hW : chkW k W M = 0) (A : Option Addr) (c : Nat) (l : List Ev) (w : World) (h : RV w.heap.size w A c l) (hl : l.length ≤ 30000) (ho : Ls.OkEv N 0 l) :
    Calls Try.prog 7 #[.int .i64 N, .slice A l.length c, .agg #[.int .i64 k, .int .i64 W, .int .i64 M]] w (SlideP 0 (Ls.slideA (extW k W) (extM k M) [] l) w) := by
  have := slide_any N k W M hk A c l w h hl
  rw [hW, chkSt_zero hN (by omega) ho] at this
  exact this
set_option maxHeartbeats 8000000 in
set_option maxRecDepth 100000 in
theorem all_law (A : Option Addr) (c : Nat) (L : List Int) (W : World) (h : RD W A c L) (hL : L.length ≤ 17592186044416) :
    Calls Try.prog 3 #[.slice A L.length c] W fun e W' => e = .returned (.bool true) ∧ Below W.heap.size W W' := by
  have CN := Lib.hid (new_any A c L W h)
  clear h
  go_enter Try.func3, Try.ntmps3
  go_wp2_with fail
  refine CN.out.mono ?_
  rintro e w1 ⟨rfl, D1, hb1⟩
  have HD1 := Lib.hid D1
  have HB1 := Lib.hid hb1
  clear D1 hb1 CN
  go_wp2_with fail
  refine (next_any W.heap.size W.heap.size A c L 0 5 w1 HD1.out hL (by decide)).mono ?_
  rintro e w2 ⟨r, m2, rfl, hr1, hr2, D2, g2⟩
  have HD2 := Lib.hid D2
  have HB2 : Hid (Below W.heap.size W w2) := HB1.out.grown g2 HB1.out.size (fun k hk => by injection hk with hk; omega)
  obtain ⟨N, hN⟩ : ∃ N : Nat, 2 + r = N := ⟨(2 + r).toNat, by omega⟩
  have hNB : 2 ≤ N ∧ N ≤ 6 := by omega
  have f1 : IntKind.i64.wrap (2 + r) = N := by rw [← hN]; exact IntWalk.i64_in _ (by omega)
  clear D2 g2 hr1 hr2 HD1 HB1
  go_wp2_with fail
  refine (evlist_any W.heap.size W.heap.size A c L m2 N 14 w2 HD2.out hL (by omega) (by decide)).mono ?_
  rintro e w3 ⟨l, Al, cl', m3, rfl, hll, hlv, hlp, ho, hd, hg⟩
  have HB3 : Hid (Below W.heap.size W w3) := HB2.out.grown hg HB2.out.size (fun k hk => by injection hk with hk; omega)
  have HOK := Lib.hid (okEv_of hlv hlp)
  have HTB : Hid (∀ e ∈ l, 0 ≤ e.time ∧ e.time ≤ 45) := fun e he => ⟨(Ls.good_kind (hlv e he).1).2.1, by have := (hlv e he).2; omega⟩
  have HRL := Lib.hid (RX.of_own ho)
  have HLL := Lib.hid hll
  clear hlv hlp ho hd hg HD2 HB2 hN f1
  have HS1 : Hid (Ls.slideA (extW 1 0) (extM 1 0) [] l = l) := Ls.slide_none _ _ (by decide) l [] (by simp) (pairwise_near HTB.out (by decide)) (by have := HLL.out; show ((([] : List Ls.Lk).length : Nat) : Int) + (l.length : Int) ≤ 2016; simp; omega)
  have HS2 : Hid (Ls.slideA (extW 2 1000) (extM 2 0) [] l = l) := Ls.slide_none _ _ (by decide) l [] (by simp) (pairwise_near HTB.out (by decide)) (by have := HLL.out; show ((([] : List Ls.Lk).length : Nat) : Int) + (l.length : Int) ≤ 2016; simp; omega)
  have HS3 : Hid (Ls.slideA (extW 3 0) (extM 3 100) [] l = l) := Ls.slide_none _ _ (by decide) l [] (by simp) (pairwise_near HTB.out (by decide)) (by have := HLL.out; show ((([] : List Ls.Lk).length : Nat) : Int) + (l.length : Int) ≤ 100; simp; omega)
  have C1 := Lib.hid (slide_ok N (by omega) 1 0 0 rfl (by decide) Al cl' l w3 HRL.out (by omega) HOK.out)
  rw [HS1.out] at C1
  go_wp2_with fail
  refine C1.out.mono ?_
  rintro e w4 ⟨A4, c4, rfl, ho4, hb4⟩
  have HR4 := Lib.hid (RX.of_own ho4)
  have HB4 := Lib.hid hb4
  have HL4 := Lib.hid (HRL.out.up hb4)
  clear ho4 hb4 C1
  have C2 := Lib.hid (slide_ok N (by omega) 2 1000 0 rfl (by decide) Al cl' l w4 HL4.out (by omega) HOK.out)
  rw [HS2.out] at C2
  go_wp2_with fail
  refine C2.out.mono ?_
  rintro e w5 ⟨A5, c5, rfl, ho5, hb5⟩
  have HR5 := Lib.hid (RX.of_own ho5)
  have HB5 := Lib.hid (HB4.out.trans (hb5.mono HB4.out.size))
  have HR45 := Lib.hid (HR4.out.up hb5)
  have HL5 := Lib.hid (HL4.out.up hb5)
  clear ho5 hb5 C2 HL4 HR4 HB4
  have C3 := Lib.hid (slide_ok N (by omega) 3 0 100 rfl (by decide) Al cl' l w5 HL5.out (by omega) HOK.out)
  rw [HS3.out] at C3
  go_wp2_with fail
  refine C3.out.mono ?_
  rintro e w6 ⟨A6, c6, rfl, ho6, hb6⟩
  have HR6 := Lib.hid (RX.of_own ho6)
  have HB6 := Lib.hid (HB5.out.trans (hb6.mono HB5.out.size))
  have HR46 := Lib.hid (HR45.out.up hb6)
  have HR56 := Lib.hid (HR5.out.up hb6)
  have HL6 := Lib.hid (HL5.out.up hb6)
  clear ho6 hb6 C3 HL5 HR5 HR45 HB5
  go_wp2_with fail
  refine (same_any A4 Al c4 cl' l w6 HR46.out HL6.out (by omega)).mono ?_
  rintro e w7 ⟨rfl, hb7⟩
  have HB7 := Lib.hid (HB6.out.trans (hb7.mono HB6.out.size))
  have HR57 := Lib.hid (HR56.out.up hb7)
  have HR67 := Lib.hid (HR6.out.up hb7)
  have HL7 := Lib.hid (HL6.out.up hb7)
  clear hb7 HL6 HR6 HR56 HR46 HB6
  go_wp2_with fail
  refine (same_any A5 Al c5 cl' l w7 HR57.out HL7.out (by omega)).mono ?_
  rintro e w8 ⟨rfl, hb8⟩
  have HB8 := Lib.hid (HB7.out.trans (hb8.mono HB7.out.size))
  have HR68 := Lib.hid (HR67.out.up hb8)
  have HL8 := Lib.hid (HL7.out.up hb8)
  clear hb8 HL7 HR67 HR57 HB7
  go_wp2_with fail
  refine (same_any A6 Al c6 cl' l w8 HR68.out HL8.out (by omega)).mono ?_
  rintro e w9 ⟨rfl, hb9⟩
  have HB9 := Lib.hid (HB8.out.trans (hb9.mono HB8.out.size))
  clear hb9 HL8 HR68 HB8
  go_wp2_with fail
  refine (awake_any w9).mono ?_
  rintro e w10 ⟨rfl, hb10⟩
  have HB10 := Lib.hid (HB9.out.trans (hb10.mono HB9.out.size))
  clear hb10 HB9
  go_wp2
  go_ret
  exact ⟨rfl, HB3.out.trans (HB10.out.mono HB3.out.size)⟩
end Go.Proofs.Ytfapfkaipdcflaa
