/-
  Words and lines as mathematics: words are read back from a line, lines from a text.
-/
import Derived.Test.YtnohmgmpabckkaaDoorVp
namespace Go.Proofs.YtnohmgmpabckkaaDoor
open Go.RowKit Go.Lib

theorem wdsA_app (x : List UInt8) : ∀ (cur r : List UInt8), (∀ b ∈ x, b ≠ 32) → wdsA cur (x ++ r) = wdsA (cur ++ x) r := by
  induction x with
  | nil => intro cur r _; simp
  | cons b x ih =>
    intro cur r h
    rw [List.cons_append, wdsA, if_neg (h b (by simp)), ih _ _ (fun c hc => h c (by simp [hc]))]
    simp
theorem wdsA_tail (r : List (List UInt8)) : ∀ (cur : List UInt8), cur ≠ [] → (∀ x ∈ r, x ≠ [] ∧ ∀ b ∈ x, b ≠ 32) → wdsA cur (Lib.joinTail [32] r) = cur :: r := by
  induction r with
  | nil => intro cur h _; simp [Lib.joinTail, wdsA, h]
  | cons y r ih =>
    intro cur h hr
    have e : Lib.joinTail [32] (y :: r) = 32 :: (y ++ Lib.joinTail [32] r) := by simp [Lib.joinTail]
    rw [e, wdsA, if_pos rfl, if_neg h, wdsA_app _ _ _ (hr y (by simp)).2, List.nil_append, ih y (hr y (by simp)).1 (fun x hx => hr x (by simp [hx]))]
    rfl
theorem wds_join (L : List (List UInt8)) (h0 : L ≠ []) (h : ∀ x ∈ L, x ≠ [] ∧ ∀ b ∈ x, b ≠ 32) : wdsA [] (Lib.join L [32]) = L := by
  cases L with
  | nil => exact absurd rfl h0
  | cons x r =>
    rw [Lib.join_cons, wdsA_app _ _ _ (h x (by simp)).2, List.nil_append]
    exact wdsA_tail r x (h x (by simp)).1 (fun y hy => h y (by simp [hy]))
theorem itoa_word (n : Int) (h : 0 ≤ n) (c : UInt8) (hc : c.toNat < 48) : Lib.itoa n ≠ [] ∧ ∀ b ∈ Lib.itoa n, b ≠ c := by
  obtain ⟨h1, h2, -⟩ := itoa_dig n h
  refine ⟨h2, fun b hb e => ?_⟩
  subst e
  have := (h1 b hb).1
  omega
theorem wl_words (e : Ev) (V : VB e) (c : UInt8) (hc : c = 32 ∨ c = 10) : ∀ x ∈ wl e, x ≠ [] ∧ ∀ b ∈ x, b ≠ c := by
  have hc48 : c.toNat < 48 := by rcases hc with rfl | rfl <;> decide
  have h1 := itoa_word e.time V.t.1 c hc48
  have h2 := itoa_word e.u V.u.1 c hc48
  have h3 := itoa_word e.v V.v.1 c hc48
  have h4 := itoa_word e.weight V.w.1 c hc48
  have h5 := itoa_word e.label V.l.1 c hc48
  have k1 : ([115, 101, 116] : List UInt8) ≠ [] ∧ ∀ b ∈ ([115, 101, 116] : List UInt8), b ≠ c := by rcases hc with rfl | rfl <;> decide
  have k2 : ([99, 117, 116] : List UInt8) ≠ [] ∧ ∀ b ∈ ([99, 117, 116] : List UInt8), b ≠ c := by rcases hc with rfl | rfl <;> decide
  have k3 : ([108, 101, 97, 118, 101] : List UInt8) ≠ [] ∧ ∀ b ∈ ([108, 101, 97, 118, 101] : List UInt8), b ≠ c := by rcases hc with rfl | rfl <;> decide
  have k4 : ([45] : List UInt8) ≠ [] ∧ ∀ b ∈ ([45] : List UInt8), b ≠ c := by rcases hc with rfl | rfl <;> decide
  have k5 : ([43] : List UInt8) ≠ [] ∧ ∀ b ∈ ([43] : List UInt8), b ≠ c := by rcases hc with rfl | rfl <;> decide
  intro x hx
  unfold wl at hx
  simp only [List.mem_append, List.mem_cons, List.not_mem_nil, or_false] at hx
  rcases hx with ((hx | hx | hx) | hx) | hx
  · subst hx; split
    · exact k1
    · split
      · exact k2
      · exact k3
  · subst hx; exact h1
  · subst hx; exact h2
  · split at hx
    · simp at hx
    · simp at hx; subst hx; exact h3
  · split at hx
    · simp only [List.mem_cons, List.not_mem_nil, or_false] at hx
      rcases hx with hx | hx | hx
      · subst hx; exact h4
      · subst hx; exact h5
      · subst hx; split
        · exact k4
        · exact k5
    · simp at hx
def lnE (e : Ev) : List UInt8 := Lib.join (wl e) [32]
theorem wl_ne (e : Ev) : wl e ≠ [] := by unfold wl; simp
theorem wds_line (e : Ev) (V : VB e) : wdsA [] (lnE e) = wl e := wds_join _ (wl_ne e) (wl_words e V 32 (.inl rfl))
theorem mem_joinTail (sep : List UInt8) (r : List (List UInt8)) (b : UInt8) (h : b ∈ Lib.joinTail sep r) : b ∈ sep ∨ ∃ x ∈ r, b ∈ x := by
  induction r with
  | nil => simp [Lib.joinTail] at h
  | cons y r ih =>
    have e : Lib.joinTail sep (y :: r) = sep ++ (y ++ Lib.joinTail sep r) := by simp [Lib.joinTail]
    rw [e, List.mem_append, List.mem_append] at h
    rcases h with h | h | h
    · exact .inl h
    · exact .inr ⟨y, by simp, h⟩
    · rcases ih h with h | ⟨x, hx, hb⟩
      · exact .inl h
      · exact .inr ⟨x, by simp [hx], hb⟩
theorem mem_join (sep : List UInt8) (L : List (List UInt8)) (b : UInt8) (h : b ∈ Lib.join L sep) : b ∈ sep ∨ ∃ x ∈ L, b ∈ x := by
  cases L with
  | nil => simp [Lib.join_nil] at h
  | cons x r =>
    rw [Lib.join_cons, List.mem_append] at h
    rcases h with h | h
    · exact .inr ⟨x, by simp, h⟩
    · rcases mem_joinTail sep r b h with h | ⟨y, hy, hb⟩
      · exact .inl h
      · exact .inr ⟨y, by simp [hy], hb⟩
theorem line_no10 (e : Ev) (V : VB e) : ∀ b ∈ lnE e, b ≠ 10 := by
  intro b hb
  rcases mem_join [32] (wl e) b hb with h | ⟨x, hx, h⟩
  · simp at h; subst h; decide
  · exact (wl_words e V 10 (.inr rfl) x hx).2 b h
theorem indexByte_at (x r : List UInt8) (c : UInt8) (h : ∀ b ∈ x, b ≠ c) : Lib.indexByte (x ++ c :: r) c = x.length := by
  induction x with
  | nil => simp [Lib.indexByte]
  | cons b x ih =>
    have hb : (b == c) = false := by simpa using h b (by simp)
    have ih := ih fun d hd => h d (by simp [hd])
    rw [List.cons_append, Lib.indexByte, hb, ih]
    have : ((x.length : Int) == -1) = false := by rw [beq_eq_false_iff_ne]; omega
    rw [this]
    simp
theorem join_cons2 (x y : List UInt8) (r : List (List UInt8)) (sep : List UInt8) : Lib.join (x :: y :: r) sep = x ++ (sep ++ Lib.join (y :: r) sep) := by
  rw [Lib.join_cons, Lib.join_cons]; simp [Lib.joinTail]
theorem splitK_join (L : List (List UInt8)) (c : UInt8) (h0 : L ≠ []) (h : ∀ x ∈ L, ∀ b ∈ x, b ≠ c) : Lib.splitK [c] 0 (Lib.count (Lib.join L [c]) [c]) (Lib.join L [c]) = L := by
  induction L with
  | nil => exact absurd rfl h0
  | cons x r ih =>
    cases r with
    | nil =>
      rw [Lib.join_one]
      have hz : Lib.count x [c] = 0 := by rw [Lib.count_one, List.count_eq_zero]; intro hm; exact h x (by simp) c hm rfl
      rw [hz]; rfl
    | cons y r =>
      have ih := ih (by simp) (fun z hz => h z (by simp [hz]))
      rw [join_cons2]
      have hc : Lib.count (x ++ ([c] ++ Lib.join (y :: r) [c])) [c] = Lib.count (Lib.join (y :: r) [c]) [c] + 1 := by
        rw [Lib.count_one, Lib.count_one, List.count_append, List.count_append]
        have hz : List.count c x = 0 := by rw [List.count_eq_zero]; intro hm; exact h x (by simp) c hm rfl
        rw [hz]
        simp
        omega
      have hi : Lib.index (x ++ ([c] ++ Lib.join (y :: r) [c])) [c] = x.length := by
        rw [Lib.index_one]
        exact indexByte_at x _ c (h x (by simp))
      rw [hc, Lib.splitK, hi]
      have hm : ((x.length : Int) == -1) = false := by rw [beq_eq_false_iff_ne]; omega
      rw [hm]
      simp only [Int.toNat_natCast, Nat.add_zero, List.length_cons, List.length_nil, Bool.false_eq_true, if_false]
      rw [List.take_left, show x.length + (0 + 1) = x.length + 1 by omega, ← List.drop_drop, List.drop_left]
      simp only [List.singleton_append, List.drop_succ_cons, List.drop_zero]
      rw [ih]
theorem map_inj_data : ∀ (a : List ByteArray) (b : List (List UInt8)), a.map (·.data.toList) = b → a = b.map mk
  | [], b, h => by simp at h; subst h; rfl
  | x :: a, b, h => by
    cases b with
    | nil => simp at h
    | cons y b =>
      simp only [List.map_cons, List.cons.injEq] at h
      rw [List.map_cons, map_inj_data a b h.2, ← h.1]
      congr 1
theorem split_lines (L : List (List UInt8)) (h0 : L ≠ []) (h : ∀ x ∈ L, ∀ b ∈ x, b ≠ 10) :
    Lib.splitB ⟨#[10]⟩ 0 (Lib.countB (mk (Lib.join L [10])) ⟨#[10]⟩) (mk (Lib.join L [10])) = L.map mk := by
  apply map_inj_data
  rw [Lib.splitB_data]
  have e : Lib.countB (mk (Lib.join L [10])) ⟨#[10]⟩ = Lib.count (Lib.join L [10]) [10] := by
    unfold Lib.countB
    rw [mk_data]
  rw [e, mk_data]
  exact splitK_join L 10 h0 h
theorem txtL_join (l : List Ev) : txtL l = Lib.join (l.map lnE ++ [[]]) [10] := by
  induction l with
  | nil => simp [txtL, Lib.join_one]
  | cons a l ih =>
    rw [show txtL (a :: l) = txtE a ++ txtL l from rfl, ih, txtE]
    cases l with
    | nil => simp [lnE, join_cons2]
    | cons b l => simp [lnE, join_cons2]
end Go.Proofs.YtnohmgmpabckkaaDoor
