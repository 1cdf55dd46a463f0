/-
  A window's links by age, in a box of their own; until, expired.
-/
import Derived.Test.YtfapfkaipdcflaaGreatSc
import Derived.Test.YtfapfkaipdcflaaGreatSd
import Derived.Test.YtfapfkaipdcflaaGreatLm
import Derived.Laws.ResultCell
namespace Go.Proofs.YtfapfkaipdcflaaGreat
open Go.RowKit Go.Lib

/-- links by age in block P, in a row of their own -/
structure PB (base P : Nat) (A : Option Addr) (c : Nat) (W M : Int) (l : List Ls.Lk) (w : World) : Prop where
  blk : w.heap[P]? = some (.cells #[.int .i64 W, .int .i64 M, .slice A l.length c] 81 (0, 0))
  own : OW base w A c l
  hP : base ≤ P
section
variable {base P c : Nat} {A : Option Addr} {W M : Int} {l : List Ls.Lk} {w w' : World}
theorem PB.lP (h : PB base P A c W M l w) : P < w.heap.size := lt_of_some h.blk
theorem PB.go (h : PB base P A c W M l w) (hb : Below w.heap.size w w') : PB base P A c W M l w' := ⟨(hb.block _ h.lP).trans h.blk, h.own.go hb, h.hP⟩
theorem PB.ne (h : PB base P A c W M l w) : bk A c ≠ some P := h.own.ne h.blk (by decide)
theorem PB.cells (h : PB base P A c W M l w) : w.cell? ⟨P, 0, none⟩ = some (.int .i64 W) ∧ w.cell? ⟨P, 1, none⟩ = some (.int .i64 M) ∧ w.cell? ⟨P, 2, none⟩ = some (.slice A l.length c) :=
  ⟨Go.Joins.cell_of_block h.blk 0, Go.Joins.cell_of_block h.blk 1, Go.Joins.cell_of_block h.blk 2⟩
theorem PB.fz (h : PB base P A c W M l w) (i : Nat) : w.frozen? ⟨P, i, none⟩ = false := Go.Joins.unfrozen_of_block h.blk i
end
/-- the times of links are in their bounds -/
def Tm (l : List Ls.Lk) : Prop := ∀ x ∈ l, 0 ≤ x.time ∧ x.time ≤ 1048576
def optV : Option Int → Value
  | none => .tuple #[.int .i64 0, .bool false]
  | some s => .tuple #[.int .i64 s, .bool true]
theorem until_any (base P : Nat) (A : Option Addr) (c : Nat) (W M : Int) (l : List Ls.Lk) (hW : 0 ≤ W ∧ W ≤ 1048577) (hT : Tm l) (hl : l.length ≤ 65536) (w : World) (h : PB base P A c W M l w) :
    Calls Tryz.prog 40 #[.pointer (some ⟨P, 0, none⟩)] w fun e w' => e = .returned (optV (Ls.untilA W l)) ∧ Below w.heap.size w w' := by
  obtain ⟨p0, p1, p2⟩ := h.cells
  by_cases h1 : W = 1048577
  · have hR : Ls.untilA W l = none := by cases l <;> simp [Ls.untilA, h1]
    rw [hR]
    subst h1
    clear h hT
    go_enter Tryz.func40, Tryz.ntmps40
    go_wp2
    go_ret2
    exact ⟨rfl, Below.refl _ _⟩
  · have d1 : (W == 1048577) = false := by simpa using h1
    cases l with
    | nil =>
      have hR : Ls.untilA W [] = none := rfl
      rw [hR]
      simp only [List.length_nil] at p2
      clear h hT hl
      go_enter Tryz.func40, Tryz.ntmps40
      go_wp2
      go_ret2
      exact ⟨rfl, Below.refl _ _⟩
    | cons x l =>
      have hR : Ls.untilA W (x :: l) = some (x.time + W) := by simp [Ls.untilA, h1]
      rw [hR]
      obtain ⟨t1, t2⟩ := hT x (by simp)
      obtain ⟨b, off, a, rfl, hb, ha, c0, c1, c2, c3, c4, c5⟩ := RL.at_ (k := 0) h.own.rv (by simp)
      simp at ha
      subst ha
      simp only [Nat.zero_mul, Nat.add_zero] at c5
      have f1 : IntKind.i64.wrap (x.time + W) = x.time + W := IntWalk.i64_in _ (by omega)
      obtain ⟨n, hn⟩ : ∃ n, (x :: l).length = n := ⟨_, rfl⟩
      rw [hn] at p2 hl
      have hn1 : 0 < n := by rw [← hn]; simp
      have hn2 : ((n : Int) == 0) = false := by rw [beq_eq_false_iff_ne]; omega
      clear h hT c0 c1 c2 c3 c4 hn h1
      go_enter Tryz.func40, Tryz.ntmps40
      go_wp2
      go_quiet (fail)
      go_wp2
      go_ret2
      exact ⟨rfl, ⟨rfl, rfl, rfl, Nat.le_refl _, fun _ _ => rfl⟩⟩
theorem lessT_any (u v x y z t s : Int) (w : World) : Calls Tryz.prog 81 #[.agg #[.int .i64 u, .int .i64 v, .int .i64 x, .int .i64 y, .int .i64 z, .int .i64 t], .int .i64 s] w fun e w' => e = .returned (.int .i64 (Lib.compareInt t s)) ∧ Below w.heap.size w w' := by
  have HB := Lib.hid (below_new w (.cells #[.int .i64 u, .int .i64 v, .int .i64 x, .int .i64 y, .int .i64 z, .int .i64 t] 62))
  go_enter Tryz.func81, Tryz.ntmps81
  go_wp2_with (go_at_call 76; refine (cmpC _ _ _).mono ?_; rintro e w' ⟨rfl, rfl⟩)
  go_ret
  exact ⟨rfl, HB.out⟩
theorem compareInt_neg (a b : Int) : Lib.compareInt a b < 0 ↔ a < b := by
  unfold Lib.compareInt
  split
  · simp; omega
  · split <;> simp <;> omega
theorem compareInt_zero (a b : Int) : Lib.compareInt a b = 0 ↔ a = b := by
  unfold Lib.compareInt
  split
  · simp; omega
  · split <;> simp <;> omega
/-- whether a link of that very time stands at the place of a time -/
def fndT (s : Int) (l : List Ls.Lk) : Bool := match l[Ls.older s l]? with | some a => decide (a.time = s) | none => false
set_option maxHeartbeats 2000000 in
theorem searchT_any (A : Option Addr) (c : Nat) (l : List Ls.Lk) (s : Int) (w : World) (h : RL w.heap.size w A c l) (ha : Ls.Aged l) (hl : l.length ≤ 65536) :
    Calls Tryz.prog 80 #[.slice A l.length c, .int .i64 s, .func (.func 81) #[] #[]] w fun e w' =>
      e = .returned (.tuple #[.int .i64 (Ls.older s l), .bool (fndT s l)]) ∧ Below w.heap.size w w' := by
  have H := Lib.hid h
  have hpl : Ls.older s l ≤ l.length := Ls.older_le s l
  have HM := Lib.hid (fun m a hm => Ls.older_lt s l ha m a hm)
  obtain ⟨F, HF⟩ : ∃ F, Hid (fndT s l = F) := ⟨_, rfl⟩
  rw [HF.out]
  have HF2 : Hid ((match l[Ls.older s l]? with | some a => decide (a.time = s) | none => false) = F) := HF.out
  clear HF
  obtain ⟨p, HP⟩ : ∃ p, Hid (Ls.older s l = p) := ⟨_, rfl⟩
  rw [HP.out] at hpl HF2 ⊢
  simp only [HP.out] at HM
  clear h ha
  go_enter Tryz.func80, Tryz.ntmps80
  go_wp2
  go_loopw [9, 10] (fun i j wr => ∃ (a b : Nat), i = .int .i64 a ∧ j = .int .i64 b ∧ a ≤ p ∧ p ≤ b ∧ b ≤ l.length ∧ Hid (Below w.heap.size w wr)) (fun i j _ => (RowKit.intOf j).toNat - (RowKit.intOf i).toNat)
  case atStart => exact ⟨0, l.length, rfl, rfl, by omega, hpl, Nat.le_refl _, Below.refl _ _⟩
  case round =>
    obtain ⟨a, b, rfl, rfl, hap, hpb, hbl, HBR⟩ := hrel
    have HRr := Lib.hid (H.out.up HBR.out)
    by_cases hab : a < b
    · obtain ⟨m, hm⟩ : ∃ m, m = (a + b) / 2 := ⟨_, rfl⟩
      have hm1 : a ≤ m := by omega
      have hm2 : m < b := by omega
      obtain ⟨bb, off, ⟨u1, v1, x1, y1, z1, t1⟩, rfl, hb, hx, c0, c1, c2, c3, c4, c5⟩ := RL.at_ (k := m) HRr.out (by omega)
      dsimp only at c0 c1 c2 c3 c4 c5
      have hlt := HM.out m _ hx
      have C := Lib.hid (fun w => lessT_any u1 v1 x1 y1 z1 t1 s w)
      have hlt2 := (compareInt_neg t1 s).trans hlt
      obtain ⟨X, HX⟩ : ∃ X, Hid (Lib.compareInt t1 s = X) := ⟨_, rfl⟩
      rw [HX.out] at hlt2
      simp only [HX.out] at C
      have fm : ((a : Int) + (b : Int)) / 2 = (m : Int) := by omega
      have HMM := Lib.hid hm
      clear hm hx hlt
      by_cases hX : X < 0
      all_goals
        go_wp2_with fail
        refine (C.out _).mono ?_
        rintro e w2 ⟨rfl, hb2⟩
        have HB2 := Lib.hid hb2
        clear hb2 C c0 c1 c2 c3 c4 c5
        go_wp2
        go_roundw
        case rel => first
          | exact ⟨m + 1, b, by go_num, rfl, by omega, hpb, hbl, HBR.out.trans (HB2.out.mono HBR.out.size)⟩
          | exact ⟨a, m, rfl, rfl, hap, by omega, by omega, HBR.out.trans (HB2.out.mono HBR.out.size)⟩
        case measure => simp [RowKit.intOf]; omega
    · obtain rfl : a = p := by omega
      obtain rfl : b = a := by omega
      by_cases hin : b < l.length
      · obtain ⟨bb, off, ⟨u1, v1, x1, y1, z1, t1⟩, rfl, hb, hx, c0, c1, c2, c3, c4, c5⟩ := RL.at_ (k := b) HRr.out hin
        dsimp only at c0 c1 c2 c3 c4 c5
        have C := Lib.hid (fun w => lessT_any u1 v1 x1 y1 z1 t1 s w)
        have hz := compareInt_zero t1 s
        obtain ⟨X, HX⟩ : ∃ X, Hid (Lib.compareInt t1 s = X) := ⟨_, rfl⟩
        simp only [HX.out] at C hz
        have hF : (X == 0) = F := by
          rw [← HF2.out, hx]
          show _ = decide (t1 = s)
          rw [Bool.eq_iff_iff]
          simp [hz]
        clear hx HX hz HF2
        go_wp2_with fail
        refine (C.out _).mono ?_
        rintro e w2 ⟨rfl, hb2⟩
        have HB2 := Lib.hid hb2
        clear hb2 C c0 c1 c2 c3 c4 c5
        go_wp2
        go_ret2
        exact ⟨rfl, HBR.out.trans (HB2.out.mono HBR.out.size)⟩
      · have hF : F = false := by
          rw [← HF2.out, List.getElem?_eq_none (by omega)]
        subst hF
        go_wp2
        go_ret2
        exact ⟨rfl, HBR.out⟩
set_option maxHeartbeats 1000000 in
theorem expired_any (base P : Nat) (A : Option Addr) (c : Nat) (W M : Int) (l : List Ls.Lk) (t : Int) (ht : 0 ≤ t ∧ t ≤ 4194304) (hW : 0 ≤ W ∧ W ≤ 1048577) (hM : 0 ≤ M ∧ M ≤ 2016) (ha : Ls.Aged l) (hl : l.length ≤ 65536) (w : World) (h : PB base P A c W M l w) :
    Calls Tryz.prog 60 #[.pointer (some ⟨P, 0, none⟩), .int .i64 t] w fun e w' => e = .returned (.int .i64 (Ls.outN W M t l : Nat)) ∧ Below w.heap.size w w' := by
  obtain ⟨p0, p1, p2⟩ := h.cells
  have f1 : IntKind.i64.wrap (t - W) = t - W := IntWalk.i64_in _ (by omega)
  have f2 : IntKind.i64.wrap (t - W + 1) = t - W + 1 := IntWalk.i64_in _ (by omega)
  have hlP := h.lP
  have H := Lib.hid h
  obtain ⟨n, HN⟩ : ∃ n, Hid (l.length = n) := ⟨_, rfl⟩
  have C : Hid (∀ ws, Below w.heap.size w ws → Calls Tryz.prog 80 #[.slice A n c, .int .i64 (t - W + 1), .func (.func 81) #[] #[]] ws fun e w' =>
      e = .returned (.tuple #[.int .i64 (Ls.older (t - W + 1) l), .bool (fndT (t - W + 1) l)]) ∧ Below ws.heap.size ws w') := by
    intro ws hb
    have := searchT_any A c l (t - W + 1) ws (H.out.own.rv.up hb) ha hl
    rwa [HN.out] at this
  obtain ⟨p, HP⟩ : ∃ p, Hid (Ls.older (t - W + 1) l = p) := ⟨_, rfl⟩
  obtain ⟨F, HF⟩ : ∃ F, Hid (fndT (t - W + 1) l = F) := ⟨_, rfl⟩
  have hpn : p ≤ n := by rw [← HP.out, ← HN.out]; exact Ls.older_le _ _
  simp only [HP.out, HF.out] at C
  have f3 : IntKind.i64.wrap ((n : Int) - M) = n - M := IntWalk.i64_in _ (by rw [HN.out] at hl; omega)
  have HR : Hid (max (p : Int) ((n : Int) - M) = (Ls.outN W M t l : Nat)) := by
    show _ = _
    unfold Ls.outN
    rw [HP.out, HN.out]
    omega
  obtain ⟨R, HRR⟩ : ∃ R : Int, Hid (((Ls.outN W M t l : Nat) : Int) = R) := ⟨_, rfl⟩
  rw [HRR.out] at HR ⊢
  rw [HN.out] at p2
  clear h ha hl HF HP HRR
  go_enter Tryz.func60, Tryz.ntmps60
  go_wp2
  refine wp_region_over (by kernel_rfl) (by kernel_rfl) ?_
  repeat (go_big_quiet_step (first | (go_at_call 80; exact calls_over (C.out _ (over_below _ _)))))
  refine wpQuiet_nil ?_
  rintro _ ⟨xx, rfl⟩
  have hbx := Lib.hid (over_below w xx)
  obtain ⟨q0, q1, q2⟩ := (H.out.go hbx.out).cells
  have hsz := (H.out.go hbx.out).lP
  rw [HN.out] at q2
  generalize over w xx = wx at hbx q0 q1 q2 hsz ⊢
  clear C p0 p1 p2
  have hmx := HR.out
  go_wp2
  go_quiet (fail)
  all_goals go_wp2
  all_goals
    go_ret
    exact ⟨ret_intN (by omega), (hbx.out).trans (⟨rfl, rfl, rfl, Nat.le_refl _, fun _ _ => rfl⟩)⟩
end Go.Proofs.YtfapfkaipdcflaaGreat
