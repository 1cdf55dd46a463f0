/-
  A stream that may happen; Slide of it.
-/
import Derived.Test.YtfapfkaipdcflaaGreatSw
import Derived.Test.YtfapfkaipdcflaaGreatLm
namespace Go.Proofs.YtfapfkaipdcflaaGreat
open Go.RowKit Go.Lib

theorem okEv_of {N : Nat} {T : Int} {l : List Ev} (h : ∀ e ∈ l, Ls.Good N e ∧ e.time ≤ T) (hp : l.Pairwise (fun a b => a.time ≤ b.time)) : Ls.OkEv N 0 l :=
  ⟨fun e he => ⟨(h e he).1, (Ls.good_kind (h e he).1).2.1⟩, hp⟩
theorem chkSt_zero {N : Nat} (hN : N ≤ 64) {l : List Ev} (hl : l.length ≤ 65536) (h : Ls.OkEv N 0 l) : Ls.chkSt N l = 0 := by
  unfold Ls.chkSt
  rw [if_neg (by omega), if_neg (by omega)]
  exact (Ls.chkEv_ok N 0 l).2 h
theorem pairwise_near {l : List Ev} {T W : Int} (h : ∀ e ∈ l, 0 ≤ e.time ∧ e.time ≤ T) (hT : T < W) : l.Pairwise fun a b => b.time - a.time < W := by
  induction l with
  | nil => exact List.Pairwise.nil
  | cons a l ih =>
    refine List.pairwise_cons.2 ⟨fun b hb => ?_, ih fun e he => h e (by simp [he])⟩
    have h1 := h a (by simp)
    have h2 := h b (by simp [hb])
    omega
/-- Slide of a valid stream, at a valid window -/
theorem slide_ok (N : Nat) (hN : N ≤ 64) (k W M : Int) (hk : (Lit.int .i64 k).wf = true) (hW : chkW k W M = 0) (A : Option Addr) (c : Nat) (l : List Ev) (w : World) (h : RV w.heap.size w A c l) (hl : l.length ≤ 30000) (ho : Ls.OkEv N 0 l) :
    Calls Tryz.prog 25 #[.int .i64 N, .slice A l.length c, .agg #[.int .i64 k, .int .i64 W, .int .i64 M]] w (SlideP 0 (Ls.slideA (extW k W) (extM k M) [] l) w) := by
  have := slide_any N k W M hk A c l w h hl
  rw [hW, chkSt_zero hN (by omega) ho] at this
  exact this
end Go.Proofs.YtfapfkaipdcflaaGreat
