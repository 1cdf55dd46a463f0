/- The walk of the reference's long division. -/
import Derived.Test.YtafheinapjfbaaaWg
import Derived.OneCell
import Derived.WalkSmall
namespace Go.Proofs.Ytafheinapjfbaaa
open Go.RowKit Go.Lib Go.BigFrame
/-- a block of two cells, none frozen -/
def Blk2 (w : World) (g : Nat) (t : TypeId) (x y : Value) : Prop := w.heap[g]? = some (.cells #[x, y] t (0, 0))
namespace Blk2
variable {w w' : World} {g : Nat} {t : TypeId} {x y : Value}
theorem lt (h : Blk2 w g t x y) : g < w.heap.size := lt_of_block h
theorem c0 (h : Blk2 w g t x y) : w.cell? ⟨g, 0, none⟩ = some x := by unfold Blk2 at h; simp [World.cell?, h]
theorem c1 (h : Blk2 w g t x y) : w.cell? ⟨g, 1, none⟩ = some y := by unfold Blk2 at h; simp [World.cell?, h]
theorem f0 (h : Blk2 w g t x y) : w.frozen? ⟨g, 0, none⟩ = false := by unfold Blk2 at h; simp [World.frozen?, h]
theorem f1 (h : Blk2 w g t x y) : w.frozen? ⟨g, 1, none⟩ = false := by unfold Blk2 at h; simp [World.frozen?, h]
theorem new' (h : w.heap.size = g) : Blk2 (w.alloc (.cells #[x, y] t)) g t x y := h ▸ heap_alloc_new w _
theorem new : Blk2 (w.alloc (.cells #[x, y] t)) w.heap.size t x y := heap_alloc_new w _
theorem alloc (h : Blk2 w g t x y) (o : Obj) : Blk2 (w.alloc o) g t x y := (Below.heap_alloc w o g h.lt).trans h
theorem other (h : Blk2 w g t x y) {p : Addr} (hp : g ≠ p.block) (u : Value) : Blk2 (w.setCell p u) g t x y := (Below.heap_setCell w p u g hp).trans h
theorem below {B : Nat} (h : Blk2 w g t x y) (hb : Below B w w') (hg : g < B) : Blk2 w' g t x y := (hb.block g hg).trans h
theorem drewN (h : Blk2 w g t x y) (n : Nat) : Blk2 (w.drewN n) g t x y := h
theorem set0 (h : Blk2 w g t x y) (u : Value) : Blk2 (w.setCell ⟨g, 0, none⟩ u) g t u y := by
  have hlt := h.lt
  have h' : w.heap[g] = .cells #[x, y] t (0, 0) := by unfold Blk2 at h; simpa [Array.getElem?_eq_getElem hlt] using h
  show (w.heap.modify g _)[g]? = _
  rw [Array.getElem?_eq_getElem (by simpa using hlt), Array.getElem_modify_self, h']
  rfl
theorem set1 (h : Blk2 w g t x y) (u : Value) : Blk2 (w.setCell ⟨g, 1, none⟩ u) g t x u := by
  have hlt := h.lt
  have h' : w.heap[g] = .cells #[x, y] t (0, 0) := by unfold Blk2 at h; simpa [Array.getElem?_eq_getElem hlt] using h
  show (w.heap.modify g _)[g]? = _
  rw [Array.getElem?_eq_getElem (by simpa using hlt), Array.getElem_modify_self, h']
  rfl
end Blk2

def hN (n : Nat) : Nat := n / 18446744073709551616 % 18446744073709551616
def lN (n : Nat) : Nat := n % 18446744073709551616
theorem hN_lt (n : Nat) : hN n < 18446744073709551616 := Nat.mod_lt _ (by omega)
theorem lN_lt (n : Nat) : lN n < 18446744073709551616 := Nat.mod_lt _ (by omega)
theorem hiOf_nat (n : Nat) (z : Int) (h : z = n) : hiOf z = hN n := by subst h; unfold hiOf hN; omega
theorem loOf_nat (n : Nat) (z : Int) (h : z = n) : loOf z = lN n := by subst h; unfold loOf lN; omega
theorem uw_nat (n : Nat) (h : n < 340282366920938463463374607431768211456) : uw (hN n) (lN n) = n := by unfold uw hN lN; omega
theorem words_lt (r bh bl B : Nat) (hr : r < 340282366920938463463374607431768211456) (h4 : bl < 18446744073709551616) (hB : uw bh bl = B) : decide (hN r < bh ∨ hN r = bh ∧ lN r < bl) = decide (r < B) := by
  rw [decide_eq_decide]; unfold uw at hB; unfold hN lN; omega
theorem dblN (r : Nat) (hr : r < 340282366920938463463374607431768211456) (w : World) :
    Calls Try.prog 55 #[.agg #[.int .u64 (hN r), .int .u64 (lN r)]] w fun e w' => e = .returned (.agg #[.int .u64 (hN (2 * r)), .int .u64 (lN (2 * r))]) ∧ Below w.heap.size w w' := by
  have := double_any (hN r) (lN r) (lN_lt r) w
  rwa [hiOf_nat (2 * r) _ (by rw [uw_nat r hr]; omega), loOf_nat (2 * r) _ (by rw [uw_nat r hr]; omega)] at this
theorem subN (r bh bl B : Nat) (hr : r < 340282366920938463463374607431768211456) (h3 : bh < 18446744073709551616) (h4 : bl < 18446744073709551616) (hB : uw bh bl = B) (hle : B ≤ r) (w : World) :
    Calls Try.prog 40 #[.agg #[.int .u64 (hN r), .int .u64 (lN r)], .agg #[.int .u64 bh, .int .u64 bl]] w fun e w' => e = .returned (.agg #[.int .u64 (hN (r - B)), .int .u64 (lN (r - B))]) ∧ Below w.heap.size w w' := by
  have := sub_any (hN r) (lN r) bh bl (hN_lt r) h3 (lN_lt r) h4 w
  rwa [hiOf_nat (r - B) _ (by rw [uw_nat r hr, hB]; omega), loOf_nat (r - B) _ (by rw [uw_nat r hr, hB]; omega)] at this
theorem lessN (r bh bl B : Nat) (hr : r < 340282366920938463463374607431768211456) (h4 : bl < 18446744073709551616) (hB : uw bh bl = B) (w : World) :
    Calls Try.prog 39 #[.agg #[.int .u64 (hN r), .int .u64 (lN r)], .agg #[.int .u64 bh, .int .u64 bl]] w fun e w' => e = .returned (.bool (decide (r < B))) ∧ Below w.heap.size w w' := by
  have := less_any (hN r) (lN r) bh bl w
  rwa [words_lt r bh bl B hr h4 hB] at this

/-- the division's memory: numbers, remainder so far, quotient so far -/
structure DivMem (w wr : World) (ah al bh bl : Nat) (q r : Nat) : Prop where
  B : Below w.heap.size w wr
  a : Blk2 wr w.heap.size 49 (.int .u64 ah) (.int .u64 al)
  b : Blk2 wr (w.heap.size + 1) 49 (.int .u64 bh) (.int .u64 bl)
  x : Blk2 wr (w.heap.size + 1 + 1) 49 (.int .u64 0) (.int .u64 0)
  y : Blk2 wr (w.heap.size + 1 + 1 + 1) 49 (.int .u64 0) (.int .u64 0)
  q : Blk2 wr (w.heap.size + 1 + 1 + 1 + 1) 49 (.int .u64 (hN q)) (.int .u64 (lN q))
  r : Blk2 wr (w.heap.size + 1 + 1 + 1 + 1 + 1) 49 (.int .u64 (hN r)) (.int .u64 (lN r))

theorem div_start (w : World) (ah al bh bl : Nat) : DivMem w
   ((((((w.alloc (.cells #[.int .u64 ah, .int .u64 al] 49)).alloc (.cells #[.int .u64 bh, .int .u64 bl] 49)).alloc (.cells #[.int .u64 0, .int .u64 0] 49)).alloc (.cells #[.int .u64 0, .int .u64 0] 49)).alloc (.cells #[.int .u64 0, .int .u64 0] 49)).alloc (.cells #[.int .u64 0, .int .u64 0] 49)) ah al bh bl 0 0 :=
  by
  refine ⟨by go_grown, ?_, ?_, ?_, ?_, ?_, ?_⟩ <;> (repeat' (first | (refine Blk2.new' ?_; simp; done) | (refine Blk2.alloc ?_ _)))

namespace DivMem
variable {w wr wr' : World} {ah al bh bl q r : Nat}
theorem below (M : DivMem w wr ah al bh bl q r) (hb : Below wr.heap.size wr wr') : DivMem w wr' ah al bh bl q r :=
  ⟨M.B.trans (hb.mono M.B.size), M.a.below hb M.a.lt, M.b.below hb M.b.lt, M.x.below hb M.x.lt, M.y.below hb M.y.lt, M.q.below hb M.q.lt, M.r.below hb M.r.lt⟩
theorem setr (M : DivMem w wr ah al bh bl q r) (r' : Nat) : DivMem w ((wr.setCell ⟨w.heap.size + 1 + 1 + 1 + 1 + 1, 0, none⟩ (.int .u64 (hN r'))).setCell ⟨w.heap.size + 1 + 1 + 1 + 1 + 1, 1, none⟩ (.int .u64 (lN r'))) ah al bh bl q r' :=
  ⟨(M.B.setCell (by dsimp only; omega) _).setCell (by dsimp only; omega) _, (M.a.other (by dsimp only; omega) _).other (by dsimp only; omega) _, (M.b.other (by dsimp only; omega) _).other (by dsimp only; omega) _, (M.x.other (by dsimp only; omega) _).other (by dsimp only; omega) _, (M.y.other (by dsimp only; omega) _).other (by dsimp only; omega) _, (M.q.other (by dsimp only; omega) _).other (by dsimp only; omega) _, (M.r.set0 _).set1 _⟩
theorem setr1 (M : DivMem w wr ah al bh bl q r) (r' : Nat) (h : hN r = hN r') : DivMem w (wr.setCell ⟨w.heap.size + 1 + 1 + 1 + 1 + 1, 1, none⟩ (.int .u64 (lN r'))) ah al bh bl q r' :=
  ⟨M.B.setCell (by dsimp only; omega) _, M.a.other (by dsimp only; omega) _, M.b.other (by dsimp only; omega) _, M.x.other (by dsimp only; omega) _, M.y.other (by dsimp only; omega) _, M.q.other (by dsimp only; omega) _, h ▸ M.r.set1 _⟩
theorem setq (M : DivMem w wr ah al bh bl q r) (q' : Nat) : DivMem w ((wr.setCell ⟨w.heap.size + 1 + 1 + 1 + 1, 0, none⟩ (.int .u64 (hN q'))).setCell ⟨w.heap.size + 1 + 1 + 1 + 1, 1, none⟩ (.int .u64 (lN q'))) ah al bh bl q' r :=
  ⟨(M.B.setCell (by dsimp only; omega) _).setCell (by dsimp only; omega) _, (M.a.other (by dsimp only; omega) _).other (by dsimp only; omega) _, (M.b.other (by dsimp only; omega) _).other (by dsimp only; omega) _, (M.x.other (by dsimp only; omega) _).other (by dsimp only; omega) _, (M.y.other (by dsimp only; omega) _).other (by dsimp only; omega) _, (M.q.set0 _).set1 _, (M.r.other (by dsimp only; omega) _).other (by dsimp only; omega) _⟩
theorem setq1 (M : DivMem w wr ah al bh bl q r) (q' : Nat) (h : hN q = hN q') : DivMem w (wr.setCell ⟨w.heap.size + 1 + 1 + 1 + 1, 1, none⟩ (.int .u64 (lN q'))) ah al bh bl q' r :=
  ⟨M.B.setCell (by dsimp only; omega) _, M.a.other (by dsimp only; omega) _, M.b.other (by dsimp only; omega) _, M.x.other (by dsimp only; omega) _, M.y.other (by dsimp only; omega) _, h ▸ M.q.set1 _, M.r.other (by dsimp only; omega) _⟩
theorem facts (M : DivMem w wr ah al bh bl q r) : (wr.cell? ⟨w.heap.size, 0, none⟩ = some (.int .u64 ah) ∧ wr.cell? ⟨w.heap.size, 1, none⟩ = some (.int .u64 al) ∧
    wr.cell? ⟨w.heap.size + 1, 0, none⟩ = some (.int .u64 bh) ∧ wr.cell? ⟨w.heap.size + 1, 1, none⟩ = some (.int .u64 bl)) ∧
    (wr.cell? ⟨w.heap.size + 1 + 1 + 1 + 1, 0, none⟩ = some (.int .u64 (hN q)) ∧ wr.cell? ⟨w.heap.size + 1 + 1 + 1 + 1, 1, none⟩ = some (.int .u64 (lN q)) ∧ wr.frozen? ⟨w.heap.size + 1 + 1 + 1 + 1, 0, none⟩ = false ∧ wr.frozen? ⟨w.heap.size + 1 + 1 + 1 + 1, 1, none⟩ = false) ∧
    (wr.cell? ⟨w.heap.size + 1 + 1 + 1 + 1 + 1, 0, none⟩ = some (.int .u64 (hN r)) ∧ wr.cell? ⟨w.heap.size + 1 + 1 + 1 + 1 + 1, 1, none⟩ = some (.int .u64 (lN r)) ∧ wr.frozen? ⟨w.heap.size + 1 + 1 + 1 + 1 + 1, 0, none⟩ = false ∧ wr.frozen? ⟨w.heap.size + 1 + 1 + 1 + 1 + 1, 1, none⟩ = false) ∧
    w.heap.size < wr.heap.size ∧ w.heap.size + 1 < wr.heap.size ∧ w.heap.size + 1 + 1 + 1 + 1 < wr.heap.size ∧ w.heap.size + 1 + 1 + 1 + 1 + 1 < wr.heap.size :=
  ⟨⟨M.a.c0, M.a.c1, M.b.c0, M.b.c1⟩, ⟨M.q.c0, M.q.c1, M.q.f0, M.q.f1⟩, ⟨M.r.c0, M.r.c1, M.r.f0, M.r.f1⟩, M.a.lt, M.b.lt, M.q.lt, M.r.lt⟩
end DivMem
theorem or1N (n : Nat) : bits .or .u64 ((lN (2 * n) : Nat) : Int) 1 = ((lN (2 * n + 1) : Nat) : Int) := by
  have := or_low (lN (2 * n)) 1 (lN_lt _) (by unfold lN; omega) (by omega)
  rw [show lN (2 * n + 1) = lN (2 * n) + 1 by unfold lN; omega]
  exact this
theorem hN1 (n : Nat) : hN (2 * n) = hN (2 * n + 1) := by unfold hN; omega
theorem bit_and (a j b : Nat) (ha : a < 18446744073709551616) (h : a / 2 ^ j % 2 = b) : bits .and .u64 ((a : Int) / 2 ^ j) 1 = (b : Int) := by
  have hle : a / 2 ^ j ≤ a := Nat.div_le_self _ _
  have e : ((a : Int) / 2 ^ j) = ((a / 2 ^ j : Nat) : Int) := by simp
  generalize a / 2 ^ j = m at *
  rw [e, and_one_u64 _ (by omega) (by omega)]
  omega
/-- a step of the long division -/
theorem div_step0 (A B q r j b : Nat) (h : A / 2 ^ (j + 1) = q * B + r) (hb : A / 2 ^ j % 2 = b) : A / 2 ^ j = (2 * q) * B + (2 * r + b) := by
  have : A / 2 ^ (j + 1) = A / 2 ^ j / 2 := by rw [Nat.pow_succ, Nat.div_div_eq_div_mul]
  rw [Nat.mul_assoc]; omega
theorem div_step1 (A B q r j b : Nat) (h : A / 2 ^ (j + 1) = q * B + r) (hb : A / 2 ^ j % 2 = b) (hle : B ≤ 2 * r + b) : A / 2 ^ j = (2 * q + 1) * B + (2 * r + b - B) := by
  rw [div_step0 A B q r j b h hb, Nat.add_mul]; omega
theorem bit_hi (ah al A j : Nat) (hA : uw ah al = A) (h2 : al < 18446744073709551616) (hj : 64 ≤ j) : ah / 2 ^ (j - 64) % 2 = A / 2 ^ j % 2 := by
  obtain ⟨i, rfl⟩ : ∃ i, j = 64 + i := ⟨j - 64, by omega⟩
  rw [Nat.pow_add, ← Nat.div_div_eq_div_mul, show 64 + i - 64 = i by omega, show A / 2 ^ 64 = ah by unfold uw at hA; omega]
theorem bit_lo (ah al A j : Nat) (hA : uw ah al = A) (hj : j < 64) : al / 2 ^ j % 2 = A / 2 ^ j % 2 := by
  have e : A = 2 ^ 64 * ah + al := by unfold uw at hA; omega
  obtain ⟨i, hi⟩ : ∃ i, 64 = j + 1 + i := ⟨63 - j, by omega⟩
  rw [e, hi, Nat.pow_add, Nat.pow_succ, Nat.mul_assoc, Nat.mul_assoc, Nat.mul_add_div (Nat.two_pow_pos j), Nat.mul_add_mod]

theorem ret_div {A B q r : Nat} (h : A / 2 ^ 0 = q * B + r) (hr : r < B) :
    Ending.returned (.tuple #[.agg #[.int .u64 (hN q), .int .u64 (lN q)], .agg #[.int .u64 (hN r), .int .u64 (lN r)]]) =
    .returned (.tuple #[.agg #[.int .u64 (hN (A / B)), .int .u64 (lN (A / B))], .agg #[.int .u64 (hN (A % B)), .int .u64 (lN (A % B))]]) := by
  have hA : A = r + B * q := by rw [Nat.mul_comm]; simpa [Nat.add_comm] using h
  have hB : 0 < B := by omega
  have e1 : A / B = q := by rw [hA, Nat.add_mul_div_left _ _ hB, Nat.div_eq_of_lt hr]; omega
  have e2 : A % B = r := by rw [hA, Nat.add_mul_mod_self_left, Nat.mod_eq_of_lt hr]
  rw [e1, e2]
set_option maxHeartbeats 1000000 in
theorem divide_any (ah al bh bl A B : Nat) (w : World) (h1 : ah < 18446744073709551616) (h2 : al < 18446744073709551616) (h3 : bh < 9223372036854775808) (h4 : bl < 18446744073709551616) (hA : uw ah al = A) (hB : uw bh bl = B) (hp : 0 < B) :
    Calls Try.prog 47 #[.agg #[.int .u64 ah, .int .u64 al], .agg #[.int .u64 bh, .int .u64 bl]] w fun e w' =>
      e = .returned (.tuple #[.agg #[.int .u64 (hN (A / B)), .int .u64 (lN (A / B))], .agg #[.int .u64 (hN (A % B)), .int .u64 (lN (A % B))]]) ∧ Below w.heap.size w w' := by
  have HA := Lib.hid hA; have HB := Lib.hid hB; clear hA hB
  go_enter Try.func47, Try.ntmps47
  go_wp2
  go_loopw [8] (fun i wr => ∃ k q r : Nat, k ≤ 128 ∧ i = .int .i64 ((k : Int) - 1) ∧ DivMem w wr ah al bh bl q r ∧ r < B ∧ A / 2 ^ k = q * B + r) (fun i _ => (intOf i + 1).toNat)
  case atStart => exact ⟨128, 0, 0, by omega, rfl, div_start w ah al bh bl, hp, by
      have := HA.out; have h128 : A < 2 ^ 128 := by (have := uw_lt ah al h1 h2; omega)
      rw [Nat.div_eq_of_lt h128]; omega⟩
  case round =>
    obtain ⟨k, q, r, hk, rfl, hM, hr, hq⟩ := hrel
    have HR := Lib.hid hr; have HQ := Lib.hid hq; clear hr hq
    have HM := Lib.hid hM
    by_cases h0 : k = 0
    · subst h0
      have cx0 := hM.x.c0; have cx1 := hM.x.c1; have fx0 := hM.x.f0; have fx1 := hM.x.f1
      have cy0 := hM.y.c0; have cy1 := hM.y.c1; have fy0 := hM.y.f0; have fy1 := hM.y.f1
      have cq0 := hM.q.c0; have cq1 := hM.q.c1; have fq0 := hM.q.f0; have fq1 := hM.q.f1
      have cr0 := hM.r.c0; have cr1 := hM.r.c1; have fr0 := hM.r.f0; have fr1 := hM.r.f1
      have hB := hM.B
      clear hM
      go_wp2
      go_region
      all_goals
        go_wp2
        exact bodyPost_ret (v := .tuple #[.agg #[.int .u64 (hN q), .int .u64 (lN q)], .agg #[.int .u64 (hN r), .int .u64 (lN r)]]) (by simp [results, Try.results47, go_sem, *]) rfl ⟨ret_div HQ.out HR.out, by go_grown⟩
    · obtain ⟨j, rfl⟩ : ∃ j, k = j + 1 := ⟨k - 1, by omega⟩
      have ej : ((j + 1 : Nat) : Int) - 1 = (j : Int) := by omega
      rw [ej]
      have hj : j ≤ 127 := by omega
      clear ej h0 hk
      have hrB := HR.out
      have hrb : r < 170141183460469231731687303715884105728 := by (have := HB.out; unfold uw at this; omega)
      clear hrB
      have hqb : q < 340282366920938463463374607431768211456 := by
        have hA := HA.out; have hu := uw_lt ah al h1 h2
        have h1 : q ≤ q * B := Nat.le_mul_of_pos_right q hp
        have h2 : A / 2 ^ (j + 1) ≤ A := Nat.div_le_self _ _
        have h3 := HQ.out
        omega
      obtain ⟨⟨ca0, ca1, cb0, cb1⟩, ⟨cq0, cq1, fq0, fq1⟩, ⟨cr0, cr1, fr0, fr1⟩, za, zb, zq, zr⟩ := hM.facts
      clear hM
      rcases Nat.mod_two_eq_zero_or_one (A / 2 ^ j) with hbit | hbit <;> by_cases hj6 : 64 ≤ j
      · skip
        have eb : bits .and .u64 ((ah : Int) / 2 ^ (j - 64)) 1 = 0 := bit_and ah (j - 64) 0 h1 (by rw [bit_hi ah al A j HA.out h2 hj6]; exact hbit)
        have HBit := Lib.hid hbit; clear hbit
        go_wp2_with fail
        refine (dblN r (by omega) _).mono ?_
        rintro e w1 ⟨rfl, hb⟩
        have M1 := HM.out.below hb
        clear hb ca0 ca1 cb0 cb1 cq0 cq1 fq0 fq1 cr0 cr1 fr0 fr1 za zb zq zr
        obtain ⟨⟨ca0, ca1, cb0, cb1⟩, ⟨cq0, cq1, fq0, fq1⟩, ⟨cr0, cr1, fr0, fr1⟩, za, zb, zq, zr⟩ := M1.facts
        go_wp2_with fail
        refine (dblN q (by omega) _).mono ?_
        rintro e w2 ⟨rfl, hb⟩
        have M2 := DivMem.below (M1.setr (2 * r)) (by exact hb)
        clear hb M1 ca0 ca1 cb0 cb1 cq0 cq1 fq0 fq1 cr0 cr1 fr0 fr1 za zb zq zr eb
        obtain ⟨⟨ca0, ca1, cb0, cb1⟩, ⟨cq0, cq1, fq0, fq1⟩, ⟨cr0, cr1, fr0, fr1⟩, za, zb, zq, zr⟩ := M2.facts
        go_wp2_with fail
        refine (lessN (2 * r) bh bl B (by omega) h4 HB.out _).mono ?_
        rintro e w3 ⟨rfl, hb⟩
        have M3 := DivMem.below (M2.setq (2 * q)) hb
        clear hb M2 ca0 ca1 cb0 cb1 cq0 cq1 fq0 fq1 cr0 cr1 fr0 fr1 za zb zq zr
        obtain ⟨⟨ca0, ca1, cb0, cb1⟩, ⟨cq0, cq1, fq0, fq1⟩, ⟨cr0, cr1, fr0, fr1⟩, za, zb, zq, zr⟩ := M3.facts
        by_cases hless : 2 * r < B
        · have hless' : decide (2 * r < B) = true := decide_eq_true hless
          go_wp2
          go_roundw
          case rel => exact ⟨j, 2 * q, 2 * r, by omega, rfl, M3, hless, div_step0 A B q r j 0 HQ.out HBit.out⟩
          case measure => simp [intOf]
        · have hless' : decide (2 * r < B) = false := decide_eq_false hless
          go_wp2_with fail
          refine (subN (2 * r) bh bl B (by omega) (by omega) h4 HB.out (by omega) _).mono ?_
          rintro e w4 ⟨rfl, hb⟩
          have M4 := DivMem.below M3 hb
          clear hb M3 ca0 ca1 cb0 cb1 cq0 cq1 fq0 fq1 cr0 cr1 fr0 fr1 za zb zq zr
          obtain ⟨⟨ca0, ca1, cb0, cb1⟩, ⟨cq0, cq1, fq0, fq1⟩, ⟨cr0, cr1, fr0, fr1⟩, za, zb, zq, zr⟩ := M4.facts
          go_wp2
          go_roundw
          case rel => exact ⟨j, 2 * q + 1, 2 * r - B, by omega, rfl, by rw [or1N]; exact (M4.setr _).setq1 (2 * q + 1) (hN1 q), by have := HR.out; omega, div_step1 A B q r j 0 HQ.out HBit.out (by omega)⟩
          case measure => simp [intOf]
      · skip
        have eb : bits .and .u64 ((al : Int) / 2 ^ (j)) 1 = 0 := bit_and al (j) 0 h2 (by rw [bit_lo ah al A j HA.out (by omega)]; exact hbit)
        have HBit := Lib.hid hbit; clear hbit
        go_wp2_with fail
        refine (dblN r (by omega) _).mono ?_
        rintro e w1 ⟨rfl, hb⟩
        have M1 := HM.out.below hb
        clear hb ca0 ca1 cb0 cb1 cq0 cq1 fq0 fq1 cr0 cr1 fr0 fr1 za zb zq zr
        obtain ⟨⟨ca0, ca1, cb0, cb1⟩, ⟨cq0, cq1, fq0, fq1⟩, ⟨cr0, cr1, fr0, fr1⟩, za, zb, zq, zr⟩ := M1.facts
        go_wp2_with fail
        refine (dblN q (by omega) _).mono ?_
        rintro e w2 ⟨rfl, hb⟩
        have M2 := DivMem.below (M1.setr (2 * r)) (by exact hb)
        clear hb M1 ca0 ca1 cb0 cb1 cq0 cq1 fq0 fq1 cr0 cr1 fr0 fr1 za zb zq zr eb
        obtain ⟨⟨ca0, ca1, cb0, cb1⟩, ⟨cq0, cq1, fq0, fq1⟩, ⟨cr0, cr1, fr0, fr1⟩, za, zb, zq, zr⟩ := M2.facts
        go_wp2_with fail
        refine (lessN (2 * r) bh bl B (by omega) h4 HB.out _).mono ?_
        rintro e w3 ⟨rfl, hb⟩
        have M3 := DivMem.below (M2.setq (2 * q)) hb
        clear hb M2 ca0 ca1 cb0 cb1 cq0 cq1 fq0 fq1 cr0 cr1 fr0 fr1 za zb zq zr
        obtain ⟨⟨ca0, ca1, cb0, cb1⟩, ⟨cq0, cq1, fq0, fq1⟩, ⟨cr0, cr1, fr0, fr1⟩, za, zb, zq, zr⟩ := M3.facts
        by_cases hless : 2 * r < B
        · have hless' : decide (2 * r < B) = true := decide_eq_true hless
          go_wp2
          go_roundw
          case rel => exact ⟨j, 2 * q, 2 * r, by omega, rfl, M3, hless, div_step0 A B q r j 0 HQ.out HBit.out⟩
          case measure => simp [intOf]
        · have hless' : decide (2 * r < B) = false := decide_eq_false hless
          go_wp2_with fail
          refine (subN (2 * r) bh bl B (by omega) (by omega) h4 HB.out (by omega) _).mono ?_
          rintro e w4 ⟨rfl, hb⟩
          have M4 := DivMem.below M3 hb
          clear hb M3 ca0 ca1 cb0 cb1 cq0 cq1 fq0 fq1 cr0 cr1 fr0 fr1 za zb zq zr
          obtain ⟨⟨ca0, ca1, cb0, cb1⟩, ⟨cq0, cq1, fq0, fq1⟩, ⟨cr0, cr1, fr0, fr1⟩, za, zb, zq, zr⟩ := M4.facts
          go_wp2
          go_roundw
          case rel => exact ⟨j, 2 * q + 1, 2 * r - B, by omega, rfl, by rw [or1N]; exact (M4.setr _).setq1 (2 * q + 1) (hN1 q), by have := HR.out; omega, div_step1 A B q r j 0 HQ.out HBit.out (by omega)⟩
          case measure => simp [intOf]
      · skip
        have eb : bits .and .u64 ((ah : Int) / 2 ^ (j - 64)) 1 = 1 := bit_and ah (j - 64) 1 h1 (by rw [bit_hi ah al A j HA.out h2 hj6]; exact hbit)
        have HBit := Lib.hid hbit; clear hbit
        go_wp2_with fail
        refine (dblN r (by omega) _).mono ?_
        rintro e w1 ⟨rfl, hb⟩
        have M1 := HM.out.below hb
        clear hb ca0 ca1 cb0 cb1 cq0 cq1 fq0 fq1 cr0 cr1 fr0 fr1 za zb zq zr
        obtain ⟨⟨ca0, ca1, cb0, cb1⟩, ⟨cq0, cq1, fq0, fq1⟩, ⟨cr0, cr1, fr0, fr1⟩, za, zb, zq, zr⟩ := M1.facts
        go_wp2_with fail
        refine (dblN q (by omega) _).mono ?_
        rintro e w2 ⟨rfl, hb⟩
        have M2 := DivMem.below ((M1.setr (2 * r)).setr1 (2 * r + 1) (hN1 r)) (by rw [← or1N]; exact hb)
        clear hb M1 ca0 ca1 cb0 cb1 cq0 cq1 fq0 fq1 cr0 cr1 fr0 fr1 za zb zq zr eb
        obtain ⟨⟨ca0, ca1, cb0, cb1⟩, ⟨cq0, cq1, fq0, fq1⟩, ⟨cr0, cr1, fr0, fr1⟩, za, zb, zq, zr⟩ := M2.facts
        go_wp2_with fail
        refine (lessN (2 * r + 1) bh bl B (by omega) h4 HB.out _).mono ?_
        rintro e w3 ⟨rfl, hb⟩
        have M3 := DivMem.below (M2.setq (2 * q)) hb
        clear hb M2 ca0 ca1 cb0 cb1 cq0 cq1 fq0 fq1 cr0 cr1 fr0 fr1 za zb zq zr
        obtain ⟨⟨ca0, ca1, cb0, cb1⟩, ⟨cq0, cq1, fq0, fq1⟩, ⟨cr0, cr1, fr0, fr1⟩, za, zb, zq, zr⟩ := M3.facts
        by_cases hless : 2 * r + 1 < B
        · have hless' : decide (2 * r + 1 < B) = true := decide_eq_true hless
          go_wp2
          go_roundw
          case rel => exact ⟨j, 2 * q, 2 * r + 1, by omega, rfl, M3, hless, div_step0 A B q r j 1 HQ.out HBit.out⟩
          case measure => simp [intOf]
        · have hless' : decide (2 * r + 1 < B) = false := decide_eq_false hless
          go_wp2_with fail
          refine (subN (2 * r + 1) bh bl B (by omega) (by omega) h4 HB.out (by omega) _).mono ?_
          rintro e w4 ⟨rfl, hb⟩
          have M4 := DivMem.below M3 hb
          clear hb M3 ca0 ca1 cb0 cb1 cq0 cq1 fq0 fq1 cr0 cr1 fr0 fr1 za zb zq zr
          obtain ⟨⟨ca0, ca1, cb0, cb1⟩, ⟨cq0, cq1, fq0, fq1⟩, ⟨cr0, cr1, fr0, fr1⟩, za, zb, zq, zr⟩ := M4.facts
          go_wp2
          go_roundw
          case rel => exact ⟨j, 2 * q + 1, 2 * r + 1 - B, by omega, rfl, by rw [or1N]; exact (M4.setr _).setq1 (2 * q + 1) (hN1 q), by have := HR.out; omega, div_step1 A B q r j 1 HQ.out HBit.out (by omega)⟩
          case measure => simp [intOf]
      · skip
        have eb : bits .and .u64 ((al : Int) / 2 ^ (j)) 1 = 1 := bit_and al (j) 1 h2 (by rw [bit_lo ah al A j HA.out (by omega)]; exact hbit)
        have HBit := Lib.hid hbit; clear hbit
        go_wp2_with fail
        refine (dblN r (by omega) _).mono ?_
        rintro e w1 ⟨rfl, hb⟩
        have M1 := HM.out.below hb
        clear hb ca0 ca1 cb0 cb1 cq0 cq1 fq0 fq1 cr0 cr1 fr0 fr1 za zb zq zr
        obtain ⟨⟨ca0, ca1, cb0, cb1⟩, ⟨cq0, cq1, fq0, fq1⟩, ⟨cr0, cr1, fr0, fr1⟩, za, zb, zq, zr⟩ := M1.facts
        go_wp2_with fail
        refine (dblN q (by omega) _).mono ?_
        rintro e w2 ⟨rfl, hb⟩
        have M2 := DivMem.below ((M1.setr (2 * r)).setr1 (2 * r + 1) (hN1 r)) (by rw [← or1N]; exact hb)
        clear hb M1 ca0 ca1 cb0 cb1 cq0 cq1 fq0 fq1 cr0 cr1 fr0 fr1 za zb zq zr eb
        obtain ⟨⟨ca0, ca1, cb0, cb1⟩, ⟨cq0, cq1, fq0, fq1⟩, ⟨cr0, cr1, fr0, fr1⟩, za, zb, zq, zr⟩ := M2.facts
        go_wp2_with fail
        refine (lessN (2 * r + 1) bh bl B (by omega) h4 HB.out _).mono ?_
        rintro e w3 ⟨rfl, hb⟩
        have M3 := DivMem.below (M2.setq (2 * q)) hb
        clear hb M2 ca0 ca1 cb0 cb1 cq0 cq1 fq0 fq1 cr0 cr1 fr0 fr1 za zb zq zr
        obtain ⟨⟨ca0, ca1, cb0, cb1⟩, ⟨cq0, cq1, fq0, fq1⟩, ⟨cr0, cr1, fr0, fr1⟩, za, zb, zq, zr⟩ := M3.facts
        by_cases hless : 2 * r + 1 < B
        · have hless' : decide (2 * r + 1 < B) = true := decide_eq_true hless
          go_wp2
          go_roundw
          case rel => exact ⟨j, 2 * q, 2 * r + 1, by omega, rfl, M3, hless, div_step0 A B q r j 1 HQ.out HBit.out⟩
          case measure => simp [intOf]
        · have hless' : decide (2 * r + 1 < B) = false := decide_eq_false hless
          go_wp2_with fail
          refine (subN (2 * r + 1) bh bl B (by omega) (by omega) h4 HB.out (by omega) _).mono ?_
          rintro e w4 ⟨rfl, hb⟩
          have M4 := DivMem.below M3 hb
          clear hb M3 ca0 ca1 cb0 cb1 cq0 cq1 fq0 fq1 cr0 cr1 fr0 fr1 za zb zq zr
          obtain ⟨⟨ca0, ca1, cb0, cb1⟩, ⟨cq0, cq1, fq0, fq1⟩, ⟨cr0, cr1, fr0, fr1⟩, za, zb, zq, zr⟩ := M4.facts
          go_wp2
          go_roundw
          case rel => exact ⟨j, 2 * q + 1, 2 * r + 1 - B, by omega, rfl, by rw [or1N]; exact (M4.setr _).setq1 (2 * q + 1) (hN1 q), by have := HR.out; omega, div_step1 A B q r j 1 HQ.out HBit.out (by omega)⟩
          case measure => simp [intOf]
end Go.Proofs.Ytafheinapjfbaaa
