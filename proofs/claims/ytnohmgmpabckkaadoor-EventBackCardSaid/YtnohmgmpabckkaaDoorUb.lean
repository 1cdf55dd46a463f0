/-
  Two lists of the same events.
-/
import Derived.Test.YtnohmgmpabckkaaDoorUa
namespace Go.Proofs.YtnohmgmpabckkaaDoor
open Go.RowKit Go.Lib

set_option maxHeartbeats 2000000 in
theorem same_any (A B : Option Addr) (c d : Nat) (l : List Ev) (w : World) (h : RE w.heap.size w A c l) (g : RE w.heap.size w B d l) (hl : l.length ≤ 1000000) :
    Calls Tryd.prog 19 #[.slice A l.length c, .slice B l.length d] w fun e w' => e = .returned (.bool true) ∧ Below w.heap.size w w' := by
  have H := Lib.hid h
  have G := Lib.hid g
  clear h g
  go_enter Tryd.func19, Tryd.ntmps19
  go_wp2
  go_loopw [13] (fun i wr => ∃ (k : Nat), k ≤ l.length ∧ i = .int .i64 k ∧ Hid (Below w.heap.size w wr)) (fun i _ => l.length - (RowKit.intOf i).toNat)
  case atStart => exact ⟨0, Nat.zero_le _, rfl, Below.refl _ _⟩
  case round =>
    obtain ⟨k, hk, rfl, HB⟩ := hrel
    by_cases hlt : k < l.length
    · obtain ⟨b, off, a, rfl, hb, ha, c0, c1, c2, c3, c4, c5, c6⟩ := RE.at_ (H.out.go HB.out) hlt
      obtain ⟨b', off', a', rfl, hb', ha', e0, e1, e2, e3, e4, e5, e6⟩ := RE.at_ (G.out.go HB.out) hlt
      obtain rfl : a = a' := by rw [ha] at ha'; injection ha'
      go_wp2_with fail
      go_quiet (fail)
      clear c0 c1 c2 c3 c4 c5 c6 e0 e1 e2 e3 e4 e5 e6
      go_wp2
      go_roundw
      case rel => exact ⟨k + 1, hlt, by go_num, HB.out.trans ((below_drewN wr nq).mono HB.out.size)⟩
      case measure => simp [RowKit.intOf]; try omega
    · obtain rfl : k = l.length := by omega
      go_wp2
      go_ret
      exact ⟨rfl, HB.out⟩
end Go.Proofs.YtnohmgmpabckkaaDoor
