/-
  A list of events in a row of one's own that may begin within its block; the checks of a buffer.
-/
import Derived.Test.YtgdhjllfdndmnaaPa
namespace Go.Proofs.Ytgdhjllfdndmnaa
open Go.RowKit Go.Lib

/-- the block of a slice that has room -/
def bk (A : Option Addr) (c : Nat) : Option Nat := if c = 0 then none else A.map (·.block)
/-- a slice of events in a row of one's own, from its place on to the row's end -/
def OW (base : Nat) (w : World) (A : Option Addr) (c : Nat) (l : List Ev) : Prop :=
  l.length ≤ c ∧ c ≤ maxLen ∧ (c = 0 ∨ ∃ (g o : Nat) (cur : Array Value), A = some ⟨g, o, none⟩ ∧ base ≤ g ∧ w.heap[g]? = some (.cells cur 26 (0, 0)) ∧ cur.size = o + c * 7 ∧ (cur.toList.drop o).take (l.length * 7) = cl Ev.cells l)
/-- a block is the old one, or none, or new -/
def Fr (n : Nat) (r r' : Option Nat) : Prop := ∀ k, r' = some k → r = some k ∨ n ≤ k
theorem Fr.refl (n : Nat) (r : Option Nat) : Fr n r r := fun _ h => .inl h
theorem Fr.trans {n m : Nat} {r r1 r2 : Option Nat} (h : Fr n r r1) (h2 : Fr m r1 r2) (hm : n ≤ m) : Fr n r r2 := fun k hk => by
  rcases h2 k hk with h3 | h3
  · exact h k h3
  · exact .inr (by omega)
section
variable {base : Nat} {w w' : World} {A : Option Addr} {c : Nat} {l : List Ev}
theorem OW.of_own (h : w.ownsRow base 26 7 (.slice A l.length c) l.length (cl Ev.cells l)) : OW base w A c l := by
  rcases h.2 with ⟨hv, h1⟩ | ⟨g, cap, cur, hv, hb, hg, hn, hm, hs, ht⟩
  · injection hv with e1 e2 e3
    subst e3
    exact ⟨by omega, by unfold maxLen; omega, .inl rfl⟩
  · injection hv with e1 e2 e3
    subst e1; subst e3
    exact ⟨hn, hm, .inr ⟨g, 0, cur, rfl, hb, hg, by omega, by simpa using ht⟩⟩
theorem OW.rv (h : OW base w A c l) : RV w.heap.size w A c l := by
  refine ⟨h.1, cl_len encE l, fun h0 => ?_⟩
  rcases h.2.2 with h1 | ⟨g, o, cur, rfl, hb, hg, hs, ht⟩
  · have := h.1; omega
  · refine ⟨_, rfl, lt_of_some hg, fun j u hu => ?_⟩
    have hj := (List.getElem?_eq_some_iff.1 hu).1
    rw [cl_len encE] at hj
    have hcell := Go.Joins.cell_of_block hg
    rw [Go.WideShapes.add_plain, hcell, ← hu, ← ht, List.getElem?_take_of_lt hj, List.getElem?_drop]
    simp
theorem OW.kept (h : OW base w A c l) {r : Option Nat} (hg : w.grownBy w' r) (hr : ∀ k, bk A c = some k → r ≠ some k) : OW base w' A c l := by
  refine ⟨h.1, h.2.1, ?_⟩
  rcases h.2.2 with h1 | ⟨g, o, cur, rfl, hb, hg', hs, ht⟩
  · exact .inl h1
  · by_cases hc : c = 0
    · exact .inl hc
    · refine .inr ⟨g, o, cur, rfl, hb, (hg.block g (lt_of_some hg') (fun e => hr g (by simp [bk, hc]) e.symm)).trans hg', hs, ht⟩
theorem OW.go (h : OW base w A c l) (hb : Below w.heap.size w w') : OW base w' A c l := by
  refine ⟨h.1, h.2.1, ?_⟩
  rcases h.2.2 with h1 | ⟨g, o, cur, rfl, hb', hg', hs, ht⟩
  · exact .inl h1
  · exact .inr ⟨g, o, cur, rfl, hb', (hb.block g (lt_of_some hg')).trans hg', hs, ht⟩
theorem OW.lt (h : OW base w A c l) : ∀ k, bk A c = some k → base ≤ k ∧ k < w.heap.size := by
  intro k hk
  unfold bk at hk
  split at hk
  · cases hk
  · rcases h.2.2 with h1 | ⟨g, o, cur, rfl, hb', hg', hs, ht⟩
    · contradiction
    · simp at hk; subst hk; exact ⟨hb', lt_of_some hg'⟩
/-- no block of another kind -/
theorem OW.ne (h : OW base w A c l) {P : Nat} {cs : Array Value} {T : TypeId} {z : Nat × Nat} (hP : w.heap[P]? = some (.cells cs T z)) (hT : T ≠ 26) : bk A c ≠ some P := by
  intro hk
  unfold bk at hk
  split at hk
  · cases hk
  · rcases h.2.2 with h1 | ⟨g, o, cur, rfl, hb', hg', hs, ht⟩
    · contradiction
    · simp at hk; subst hk
      rw [hg'] at hP
      injection hP with hP
      injection hP with _ hP
      exact hT hP.symm
theorem OW.cut (h : OW base w A c l) {k : Nat} (hk : k ≤ l.length) : OW base w (if c = k then A else A.map (·.add (k * 7))) (c - k) (l.drop k) := by
  refine ⟨by have := h.1; simp; omega, by have := h.2.1; omega, ?_⟩
  by_cases hc : c = k
  · exact .inl (by omega)
  · rcases h.2.2 with h1 | ⟨g, o, cur, rfl, hb', hg', hs, ht⟩
    · have := h.1; omega
    · refine .inr ⟨g, o + k * 7, cur, ?_, hb', hg', ?_, ?_⟩
      · rw [if_neg hc]; simp [Go.WideShapes.add_plain]
      · have := h.1; omega
      · rw [List.length_drop, ← cl_drop encE, ← ht, ← List.drop_drop, List.drop_take, Nat.sub_mul]
theorem bk_cut (A : Option Addr) (c k n : Nat) : Fr n (bk A c) (bk (if c = k then A else A.map (·.add (k * 7))) (c - k)) := by
  intro j hj
  left
  unfold bk at hj ⊢
  split at hj
  · cases hj
  · next h0 =>
    rw [if_neg (by omega)]
    rw [if_neg (by omega)] at hj
    rw [← hj]
    cases A with
    | none => rfl
    | some a => show some a.block = some (a.add (k * 7)).block; rw [block_of_add]
end
/-! the checks of a buffer -/
def numB (b : Rd.Bf) : Bool := decide (0 ≤ b.bound) && decide (b.bound ≤ 1048576) && decide (-1 ≤ b.mark) && decide (b.mark ≤ b.latest) && decide (b.latest ≤ 1048576)
def evF (L : Int) : Int → List Ev → Bool
  | _, [] => true
  | ls, e :: l => decide (chkE e = 0) && decide (ls ≤ e.time) && decide (e.time ≤ L) && evF L e.time l
theorem evF_iff (L : Int) (l : List Ev) : ∀ ls, evF L ls l = true ↔ (∀ e ∈ l, chkE e = 0 ∧ ls ≤ e.time ∧ e.time ≤ L) ∧ Rd.Asc l := by
  induction l with
  | nil => intro ls; simp [evF, Rd.Asc]
  | cons e l ih =>
    intro ls
    unfold evF
    rw [Bool.and_eq_true, Bool.and_eq_true, Bool.and_eq_true, decide_eq_true_eq, decide_eq_true_eq, decide_eq_true_eq, ih e.time]
    constructor
    · rintro ⟨⟨⟨h1, h2⟩, h3⟩, h4, h5⟩
      refine ⟨fun x hx => ?_, List.pairwise_cons.2 ⟨fun x hx => (h4 x hx).2.1, h5⟩⟩
      rcases List.mem_cons.1 hx with rfl | hx
      · exact ⟨h1, h2, h3⟩
      · obtain ⟨a1, a2, a3⟩ := h4 x hx
        exact ⟨a1, by omega, a3⟩
    · rintro ⟨h1, h2⟩
      obtain ⟨a1, a2, a3⟩ := h1 e (by simp)
      obtain ⟨b1, b2⟩ := List.pairwise_cons.1 h2
      exact ⟨⟨⟨a1, a2⟩, a3⟩, fun x hx => ⟨(h1 x (by simp [hx])).1, b1 x hx, (h1 x (by simp [hx])).2.2⟩, b2⟩
theorem valid_eq (b : Rd.Bf) : decide (Rd.V b) = (numB b && decide (b.wait.length ≤ 4096) && evF b.latest (b.mark + 1) b.wait) := by
  rw [Bool.eq_iff_iff, decide_eq_true_eq, Bool.and_eq_true, Bool.and_eq_true, evF_iff, decide_eq_true_eq]
  unfold Rd.V numB Rd.okE
  simp only [Bool.and_eq_true, decide_eq_true_eq]
  constructor
  · rintro ⟨h1, h2, h3, h4, h5, h6, h7, h8⟩
    exact ⟨⟨⟨⟨⟨⟨h1, h2⟩, h3⟩, h4⟩, h5⟩, h6⟩, fun e he => ⟨(h7 e he).1, by have := (h7 e he).2.1; omega, (h7 e he).2.2⟩, h8⟩
  · rintro ⟨⟨⟨⟨⟨⟨h1, h2⟩, h3⟩, h4⟩, h5⟩, h6⟩, h7, h8⟩
    exact ⟨h1, h2, h3, h4, h5, h6, fun e he => ⟨(h7 e he).1, by have := (h7 e he).2.1; omega, (h7 e he).2.2⟩, h8⟩
theorem numbers_any (n L M : Int) (S : Value) (l : List Ev) (w : World) : Calls Try.prog 34 #[.agg #[.int .i64 n, .int .i64 L, .int .i64 M, S]] w fun e w' => e = .returned (.bool (numB ⟨n, L, M, l⟩)) ∧ Below w.heap.size w w' := by
  obtain ⟨R, HR⟩ : ∃ R, Hid (numB ⟨n, L, M, l⟩ = R) := ⟨_, rfl⟩
  rw [HR.out]
  go_enter Try.func34, Try.ntmps34
  go_wp2
  all_goals (go_ret; refine ⟨ret_bool ?_, below_new _ _⟩; rw [← HR.out]; clear HR; simp_all [numB]; try grind)
set_option maxHeartbeats 2000000 in
theorem events_any (n L M : Int) (hM : -1 ≤ M ∧ M ≤ 1048576) (A : Option Addr) (c : Nat) (l : List Ev) (w : World) (h : RV w.heap.size w A c l) (hl : l.length ≤ 65536) :
    Calls Try.prog 35 #[.agg #[.int .i64 n, .int .i64 L, .int .i64 M, .slice A l.length c]] w fun e w' => e = .returned (.bool (evF L (M + 1) l)) ∧ Below w.heap.size w w' := by
  have H := Lib.hid h
  clear h
  obtain ⟨R, HR⟩ : ∃ R, Hid (evF L (M + 1) l = R) := ⟨_, rfl⟩
  rw [HR.out]
  obtain ⟨g, HG⟩ : ∃ g, Hid (g = w.heap.size) := ⟨_, rfl⟩
  obtain ⟨W1, HW1⟩ : ∃ W1, Hid (W1 = w.alloc (.cells #[.int .i64 n, .int .i64 L, .int .i64 M, .slice A l.length c] 24)) := ⟨_, rfl⟩
  have HBL : Hid (W1.heap[g]? = some (.cells #[.int .i64 n, .int .i64 L, .int .i64 M, .slice A l.length c] 24)) := by show _ = _; rw [HW1.out, HG.out]; exact heap_alloc_new _ _
  have HGL : Hid (g < W1.heap.size) := by show _ < _; rw [HW1.out, HG.out]; simp
  have HB1 : Hid (Below w.heap.size w W1) := by show Below _ _ _; rw [HW1.out]; exact below_new _ _
  have HRE : Hid (RV W1.heap.size W1 A c l) := H.out.up HB1.out
  have fM : IntKind.i64.wrap (M + 1) = M + 1 := IntWalk.i64_in _ (by omega)
  go_enter Try.func35, Try.ntmps35
  go_wp2
  rw [← HW1.out, ← HG.out]
  clear HW1 HG H fM hM
  go_loopw [3, 12] (fun s i wr => ∃ (k : Nat) (ls : Int), i = .int .i64 k ∧ s = .int .i64 ls ∧ k ≤ l.length ∧ Hid (evF L ls (l.drop k) = R) ∧ Hid (Below W1.heap.size W1 wr)) (fun _ i _ => l.length - (RowKit.intOf i).toNat)
  case atStart => exact ⟨0, M + 1, rfl, rfl, Nat.zero_le _, HR.out, Below.refl _ _⟩
  case round =>
    obtain ⟨k, ls, rfl, rfl, hk, HE, HB⟩ := hrel
    have hblk := (HB.out.block g HGL.out).trans HBL.out
    have hg := Go.Joins.cell_of_block hblk
    have g1 := hg 1
    simp only [List.getElem?_toArray, List.getElem?_cons_succ, List.getElem?_cons_zero] at g1
    have hgl : g < wr.heap.size := Nat.lt_of_lt_of_le HGL.out HB.out.size
    clear hg hblk
    by_cases hlt : k < l.length
    · obtain ⟨b, off, ⟨k1, t1, u1, v1, x1, y1, z1⟩, rfl, hb, ha, c0, c1, c2, c3, c4, c5, c6⟩ := RV.at_ (HRE.out.up HB.out) hlt
      have HE2 : Hid ((decide (chkE ⟨k1, t1, u1, v1, x1, y1, z1⟩ = 0) && decide (ls ≤ t1) && decide (t1 ≤ L) && evF L t1 (l.drop (k + 1))) = R) := by
        show _ = _
        rw [← HE.out, List.drop_eq_getElem_cons hlt, (List.getElem?_eq_some_iff.1 ha).2]
        rfl
      clear HE ha
      dsimp only at c0 c1 c2 c3 c4 c5 c6
      have C := Lib.hid (fun w => check_anyE k1 t1 u1 v1 x1 y1 z1 w)
      obtain ⟨X, HX⟩ : ∃ X, Hid (chkE ⟨k1, t1, u1, v1, x1, y1, z1⟩ = X) := ⟨_, rfl⟩
      rw [HX.out] at HE2
      simp only [HX.out] at C
      clear HX
      go_wp2_with fail
      refine (C.out _).mono ?_
      rintro e w2 ⟨rfl, hb2⟩
      have HB2 : Hid (Below wr.heap.size wr w2) := below_viaE hb2
      obtain ⟨b0, b1, b2, b3, b4, b5, b6⟩ := box7 hb2
      have g1' := (HB2.out.cell (p := ⟨g, 1, none⟩) hgl).trans g1
      clear hb2 C c0 c1 c2 c3 c4 c5 c6 g1
      by_cases hX : X = 0
      · subst hX
        by_cases h1 : t1 < ls
        · have d1 : decide (t1 < ls) = true := by simpa using h1
          have hR : Hid (false = R) := by show _ = _; rw [← HE2.out]; simp; omega
          go_wp2
          go_ret
          exact ⟨ret_bool hR.out, HB1.out.trans ((HB.out.trans (HB2.out.mono HB.out.size)).mono HB1.out.size)⟩
        · have d1 : decide (t1 < ls) = false := by simpa using h1
          by_cases h2 : t1 > L
          · have d2 : decide (t1 > L) = true := by simpa using h2
            have hR : Hid (false = R) := by show _ = _; rw [← HE2.out]; simp; omega
            go_wp2
            go_ret
            exact ⟨ret_bool hR.out, HB1.out.trans ((HB.out.trans (HB2.out.mono HB.out.size)).mono HB1.out.size)⟩
          · have d2 : decide (t1 > L) = false := by simpa using h2
            have HE3 : Hid (evF L t1 (l.drop (k + 1)) = R) := by
              show _ = _
              rw [← HE2.out, decide_eq_true (show ls ≤ t1 by omega), decide_eq_true (show t1 ≤ L by omega)]
              simp
            clear HE2
            go_wp2
            go_roundw
            case rel => exact ⟨k + 1, t1, by go_num, rfl, by omega, HE3.out, HB.out.trans (HB2.out.mono HB.out.size)⟩
            case measure => simp [RowKit.intOf]; try omega
      · have d0 : (X != 0) = true := by simpa using hX
        have hR : Hid (false = R) := by show _ = _; rw [← HE2.out]; simp [hX]
        clear hX
        go_wp2
        go_ret
        exact ⟨ret_bool hR.out, HB1.out.trans ((HB.out.trans (HB2.out.mono HB.out.size)).mono HB1.out.size)⟩
    · obtain rfl : k = l.length := by omega
      have hR : Hid (true = R) := by show _ = _; rw [← HE.out, List.drop_length]; rfl
      go_wp2
      go_ret
      exact ⟨ret_bool hR.out, HB1.out.trans (HB.out.mono HB1.out.size)⟩
end Go.Proofs.Ytgdhjllfdndmnaa
