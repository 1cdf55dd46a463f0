/-
  The reference's Find of a link.
-/
import Derived.Test.YtagkpkkbkeefbaaMa
import Derived.Test.YtagkpkkbkeefbaaKw
namespace Go.Proofs.Ytagkpkkbkeefbaa
open Go.RowKit Go.Lib

namespace Ls
/-- a place behind k -/
def sh (k : Nat) (r : Int) : Int := if r < 0 then -1 else r + k
theorem sh_hit (key a : Lk) (l : List Lk) (k : Nat) (h : l[k]? = some a) (hs : same a key = true) : sh k (find key (l.drop k)) = k := by
  rw [drop_at_e l a k h]; unfold find; rw [if_pos hs]; simp [sh]
theorem sh_miss (key a : Lk) (l : List Lk) (k : Nat) (h : l[k]? = some a) (hs : same a key = false) : sh k (find key (l.drop k)) = sh (k + 1) (find key (l.drop (k + 1))) := by
  rw [drop_at_e l a k h]
  show sh k (if _ then _ else _) = _
  rw [if_neg (by simp [hs])]
  unfold sh
  by_cases h1 : find key (l.drop (k + 1)) < 0
  · rw [if_pos h1, if_pos (by decide), if_pos h1]
  · rw [if_neg h1, if_neg (by omega), if_neg h1]; omega
theorem sh_end (key : Lk) (l : List Lk) (k : Nat) (h : l.length ≤ k) : sh k (find key (l.drop k)) = -1 := by rw [List.drop_eq_nil_of_le h]; rfl
theorem sh_zero (key : Lk) (l : List Lk) : sh 0 (find key l) = find key l := by
  unfold sh
  cases l with
  | nil => rfl
  | cons a l =>
    unfold find
    split
    · rfl
    · split
      · rfl
      · next h => rw [if_neg (by omega)]; simp
end Ls
set_option maxHeartbeats 2000000 in
set_option maxRecDepth 100000 in
theorem rfind_any (n : Int) (A : Option Addr) (c : Nat) (l : List Ls.Lk) (u v : Int) (w : World) (h : RL w.heap.size w A c l) (hl : l.length ≤ 60000) :
    Calls Try.prog 25 #[.agg #[.int .i64 n, .slice A l.length c], .int .i64 u, .int .i64 v] w fun e w' => e = .returned (.int .i64 (Ls.findS n l u v)) ∧ Below w.heap.size w w' := by
  obtain ⟨W1, hW1⟩ : ∃ W1, Hid (w.alloc (.cells #[.int .i64 n, .slice A l.length c] 24) = W1) := ⟨_, rfl⟩
  obtain ⟨g, HG⟩ : ∃ g, Hid (w.heap.size = g) := ⟨_, rfl⟩
  have HB1 : Hid (Below w.heap.size w W1) := by show Below _ _ _; rw [← hW1.out]; exact below_new _ _
  have H1 := Lib.hid (h.up HB1.out)
  have HS : Hid (W1.heap[g]? = some (.cells #[.int .i64 n, .slice A l.length c] 24)) := by show _ = _; rw [← hW1.out, ← HG.out]; exact heap_alloc_new _ _
  have C13 := Lib.hid (rcheckS_any n A c l W1 H1.out (by omega))
  have hGl : g < W1.heap.size := lt_of_some HS.out
  have s0 := Go.Joins.cell_of_block HS.out 0; have s1 := Go.Joins.cell_of_block HS.out 1
  simp only [List.getElem?_toArray, List.getElem?_cons_succ, List.getElem?_cons_zero] at s0 s1
  obtain ⟨R, HR⟩ : ∃ R, Hid (Ls.chkS n l = R) := ⟨_, rfl⟩
  simp only [HR.out] at C13
  clear h
  go_enter Try.func25, Try.ntmps25
  go_wp2_with fail
  rw [hW1.out]
  try simp only [HG.out]
  refine C13.out.mono ?_
  rintro e w2 ⟨rfl, hb2⟩
  have B2 := Lib.hid (HB1.out.trans (hb2.mono HB1.out.size))
  have H2 := Lib.hid (H1.out.up hb2)
  have HS2 := Lib.hid ((hb2.block _ hGl).trans HS.out)
  have p1 := Go.Joins.cell_of_block HS2.out 1
  simp only [List.getElem?_toArray, List.getElem?_cons_succ, List.getElem?_cons_zero] at p1
  have hG2 : g < w2.heap.size := Nat.lt_of_lt_of_le hGl hb2.size
  clear hb2 C13 s0 s1
  by_cases hR : R = 0
  · subst hR
    have HF : Hid (Ls.findS n l u v = Ls.sh 0 (Ls.find (Ls.btw u v) (l.drop 0))) := by show _ = _; rw [Ls.findS, if_pos HR.out, List.drop_zero, Ls.sh_zero]
    have HSM : Hid (∀ a : Ls.Lk, Ls.same a (Ls.btw u v) = (decide (a.u = min u v) && decide (a.v = max u v))) := fun _ => rfl
    go_wp2
    clear p1
    go_loopw [15] (fun i wr => ∃ (k : Nat), k ≤ l.length ∧ i = .int .i64 k ∧ Hid (Below w2.heap.size w2 wr) ∧ Hid (Ls.findS n l u v = Ls.sh k (Ls.find (Ls.btw u v) (l.drop k)))) (fun i _ => l.length - (RowKit.intOf i).toNat)
    case atStart => exact ⟨0, Nat.zero_le _, rfl, Below.refl _ _, HF.out⟩
    case round =>
      obtain ⟨k, hk, rfl, HBR, HN⟩ := hrel
      have HRr := Lib.hid (H2.out.up HBR.out)
      have HBE := Lib.hid (B2.out.trans (HBR.out.mono B2.out.size))
      by_cases hlt : k < l.length
      · obtain ⟨b, off, ⟨a1, a2, x, y, z, t⟩, rfl, hb, hx, hc0, hc1, hc2, hc3, hc4, hc5⟩ := RL.at_ HRr.out hlt
        dsimp only at hc0 hc1 hc2 hc3 hc4 hc5
        have HX := Lib.hid hx
        clear hx
        have HBB : Hid (Below wr.heap.size wr (wr.alloc (.cells #[.int .i64 a1, .int .i64 a2, .int .i64 x, .int .i64 y, .int .i64 z, .int .i64 t] 62))) := below_new _ _
        have HB0k := Lib.hid (HBR.out.trans (HBB.out.mono HBR.out.size))
        have HBX := Lib.hid (HBE.out.trans (HBB.out.mono HBE.out.size))
        have hsm := HSM.out ⟨a1, a2, x, y, z, t⟩
        dsimp only at hsm
        by_cases h1 : a1 = min u v
        · have d1 : (a1 == min u v) = true := by simp [h1]
          by_cases h2 : a2 = max u v
          · have d2 : (a2 == max u v) = true := by simp [h2]
            have HR2 := Lib.hid (HN.out.trans (Ls.sh_hit _ _ l k HX.out (by rw [hsm]; simp [h1, h2])))
            clear hsm
            clear h1 h2
            go_wp2
            go_ret
            exact ⟨ret_int HR2.out.symm, HBX.out⟩
          · have d2 : (a2 == max u v) = false := by simpa using h2
            have HR2 := Lib.hid (HN.out.trans (Ls.sh_miss _ _ l k HX.out (by rw [hsm]; simp [h2])))
            clear hsm h1 h2
            go_wp2
            go_roundw
            case rel => exact ⟨k + 1, by omega, by go_num, HB0k.out, HR2.out⟩
            case measure => simp [RowKit.intOf]; omega
        · have d1 : (a1 == min u v) = false := by simpa using h1
          have HR2 := Lib.hid (HN.out.trans (Ls.sh_miss _ _ l k HX.out (by rw [hsm]; simp [h1])))
          clear hsm h1
          go_wp2
          go_roundw
          case rel => exact ⟨k + 1, by omega, by go_num, HB0k.out, HR2.out⟩
          case measure => simp [RowKit.intOf]; omega
      · have HR2 := Lib.hid (HN.out.trans (Ls.sh_end _ l k (by omega)))
        go_wp2
        go_ret
        exact ⟨ret_int HR2.out.symm, HBE.out⟩
  · have hd : (R != 0) = true := by simpa using hR
    have HF : Hid (Ls.findS n l u v = -1) := by show _ = _; rw [Ls.findS, if_neg (by rw [HR.out]; exact hR)]
    go_wp2
    go_ret
    exact ⟨ret_int HF.out.symm, B2.out⟩
end Go.Proofs.Ytagkpkkbkeefbaa
