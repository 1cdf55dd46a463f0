/-
  Plain mathematics of sets of integers as ascending lists: insertion, union, meet, what is taken away, merging side by side, the order of lists.
-/
import Derived.Lib.SlicesCompact
namespace Go.Proofs.Ytjagjlgboheoeaa
namespace Ns

def ins : List Int → Int → List Int
  | [], x => [x]
  | y :: l, x => if y < x then y :: ins l x else if y = x then y :: l else x :: y :: l
def norm (l : List Int) : List Int := l.foldl ins []
def Asc (l : List Int) : Prop := l.Pairwise (· < ·)

theorem mem_ins (l : List Int) (x z : Int) : z ∈ ins l x ↔ z ∈ l ∨ z = x := by
  induction l with
  | nil => simp [ins]
  | cons y l ih =>
    unfold ins
    split
    · simp [ih, or_assoc]
    · split
      · next h => subst h; simp only [List.mem_cons]; constructor <;> intro h <;> rcases h with h | h <;> simp [h] <;> (rcases h with h | h <;> simp [h])
      · simp only [List.mem_cons]; constructor <;> (intro h; rcases h with h | h) <;> simp [h]
theorem asc_ins (l : List Int) (x : Int) (h : Asc l) : Asc (ins l x) := by
  induction l with
  | nil => simp [ins, Asc]
  | cons y l ih =>
    unfold Asc at h ih ⊢
    rw [List.pairwise_cons] at h
    unfold ins
    split
    · next hlt =>
      rw [List.pairwise_cons]
      refine ⟨fun z hz => ?_, ih h.2⟩
      rcases (mem_ins l x z).1 hz with h1 | h1
      · exact h.1 z h1
      · omega
    · next hge =>
      split
      · exact List.pairwise_cons.2 h
      · next hne =>
        refine List.pairwise_cons.2 ⟨fun z hz => ?_, List.pairwise_cons.2 h⟩
        rcases List.mem_cons.1 hz with h1 | h1
        · omega
        · have := h.1 z h1; omega
theorem len_ins (l : List Int) (x : Int) : (ins l x).length ≤ l.length + 1 := by
  induction l with
  | nil => simp [ins]
  | cons y l ih => unfold ins; split <;> (try split) <;> simp <;> omega
theorem fold_ins (l : List Int) : ∀ s, (∀ z, z ∈ l.foldl ins s ↔ z ∈ s ∨ z ∈ l) ∧ (Asc s → Asc (l.foldl ins s)) ∧ (l.foldl ins s).length ≤ s.length + l.length := by
  induction l with
  | nil => intro s; simp
  | cons x l ih =>
    intro s
    obtain ⟨h1, h2, h3⟩ := ih (ins s x)
    refine ⟨fun z => ?_, fun h => h2 (asc_ins s x h), ?_⟩
    · rw [List.foldl_cons, h1, mem_ins]; simp [or_assoc]
    · have := len_ins s x; simp only [List.foldl_cons, List.length_cons]; omega
theorem mem_norm (l : List Int) (z : Int) : z ∈ norm l ↔ z ∈ l := by simpa [norm] using (fold_ins l []).1 z
theorem asc_norm (l : List Int) : Asc (norm l) := (fold_ins l []).2.1 List.Pairwise.nil
theorem len_norm (l : List Int) : (norm l).length ≤ l.length := by simpa [norm] using (fold_ins l []).2.2
theorem norm_snoc (l : List Int) (x : Int) : norm (l ++ [x]) = ins (norm l) x := by simp [norm]

/-- two ascending lists with the same numbers are the same -/
theorem asc_unique : ∀ (a b : List Int), Asc a → Asc b → (∀ x, x ∈ a ↔ x ∈ b) → a = b := by
  intro a
  induction a with
  | nil =>
    intro b _ _ h
    cases b with
    | nil => rfl
    | cons y b => exact absurd ((h y).2 (by simp)) (by simp)
  | cons x a ih =>
    intro b ha hb h
    cases b with
    | nil => exact absurd ((h x).1 (by simp)) (by simp)
    | cons y b =>
      have ha' := List.pairwise_cons.1 ha
      have hb' := List.pairwise_cons.1 hb
      have exy : x = y := by
        rcases List.mem_cons.1 ((h x).1 (by simp)) with h1 | h1
        · exact h1
        · rcases List.mem_cons.1 ((h y).2 (by simp)) with h2 | h2
          · exact h2.symm
          · have := hb'.1 x h1; have := ha'.1 y h2; omega
      subst exy
      congr 1
      refine ih b ha'.2 hb'.2 fun z => ?_
      have hz := h z
      simp only [List.mem_cons] at hz
      constructor
      · intro h1
        rcases hz.1 (.inr h1) with h2 | h2
        · subst h2; have := ha'.1 z h1; omega
        · exact h2
      · intro h1
        rcases hz.2 (.inr h1) with h2 | h2
        · subst h2; have := hb'.1 z h1; omega
        · exact h2
theorem norm_of_asc (l : List Int) (h : Asc l) : norm l = l := asc_unique _ _ (asc_norm l) h (mem_norm l)
theorem norm_norm (l : List Int) : norm (norm l) = norm l := norm_of_asc _ (asc_norm l)

/-! compact behind a sort -/
theorem compact_inv (d : Array Int) (hs : ∀ i j, i ≤ j → j < d.size → d[i]! ≤ d[j]!) : ∀ m, m ≤ d.size →
    Asc (Lib.compactUpTo d m) ∧ (∀ z, z ∈ Lib.compactUpTo d m ↔ ∃ j, j < m ∧ d[j]! = z) := by
  intro m
  induction m with
  | zero => intro _; refine ⟨?_, ?_⟩ <;> simp [Lib.compactUpTo, Asc]
  | succ m ih =>
    intro hm
    obtain ⟨h1, h2⟩ := ih (by omega)
    rw [Lib.compactUpTo_succ]
    by_cases hk : Lib.keeps d m = true
    · rw [if_pos hk]
      refine ⟨?_, fun z => ?_⟩
      · unfold Asc at h1 ⊢
        rw [List.pairwise_append]
        refine ⟨h1, List.pairwise_singleton _ _, fun a ha b hb => ?_⟩
        obtain ⟨j, hj, rfl⟩ := (h2 a).1 ha
        rw [List.mem_singleton] at hb
        subst hb
        have hk' : m = 0 ∨ d[m]! ≠ d[m - 1]! := by simpa [Lib.keeps] using hk
        have a1 := hs j (m - 1) (by omega) (by omega)
        have a2 := hs (m - 1) m (by omega) (by omega)
        rcases hk' with h0 | h0 <;> omega
      · rw [List.mem_append, h2, List.mem_singleton]
        constructor
        · rintro (⟨j, hj, rfl⟩ | rfl)
          · exact ⟨j, by omega, rfl⟩
          · exact ⟨m, by omega, rfl⟩
        · rintro ⟨j, hj, rfl⟩
          by_cases hjm : j = m
          · subst hjm; exact .inr rfl
          · exact .inl ⟨j, by omega, rfl⟩
    · rw [if_neg hk, List.append_nil]
      refine ⟨h1, fun z => ?_⟩
      rw [h2]
      have hk' : ¬ (m = 0 ∨ d[m]! ≠ d[m - 1]!) := by simpa [Lib.keeps] using hk
      have he : d[m]! = d[m - 1]! := Decidable.byContradiction fun h => hk' (.inr h)
      constructor
      · rintro ⟨j, hj, rfl⟩; exact ⟨j, by omega, rfl⟩
      · rintro ⟨j, hj, rfl⟩
        by_cases hjm : j = m
        · subst hjm; exact ⟨j - 1, by omega, he.symm⟩
        · exact ⟨j, by omega, rfl⟩
theorem compact_sorted (l : List Int) : Lib.compact (l.mergeSort fun x y => decide (x ≤ y)) = norm l := by
  have hp := List.mergeSort_perm l (fun x y => decide (x ≤ y))
  have hs := List.pairwise_mergeSort (le := fun x y : Int => decide (x ≤ y)) (fun a b c h1 h2 => by simp at *; omega) (fun a b => by simp; omega) l
  generalize l.mergeSort (fun x y => decide (x ≤ y)) = s at hp hs
  have key := compact_inv s.toArray (fun i j hij hj => by
    have hj' : j < s.length := by simpa using hj
    by_cases e : i = j
    · subst e; exact Int.le_refl _
    · have := List.pairwise_iff_getElem.1 hs i j (by omega) hj' (by omega)
      simpa [getElem!_pos, hj', show i < s.length by omega] using this) s.length (by simp)
  refine asc_unique _ _ key.1 (asc_norm l) fun z => ?_
  rw [mem_norm, ← hp.mem_iff]
  show z ∈ Lib.compactUpTo s.toArray s.length ↔ _
  rw [key.2, List.mem_iff_getElem]
  constructor
  · rintro ⟨j, hj, rfl⟩; exact ⟨j, hj, by simp [getElem!_pos, hj]⟩
  · rintro ⟨j, hj, rfl⟩; exact ⟨j, hj, by simp [getElem!_pos, hj]⟩

/-! side by side -/
def one (b : Bool) (x : Int) : List Int := if b then [x] else []
def mg (f : Bool → Bool → Bool) : List Int → List Int → List Int
  | [], [] => []
  | x :: a, [] => one (f true false) x ++ mg f a []
  | [], y :: b => one (f false true) y ++ mg f [] b
  | x :: a, y :: b => if x < y then one (f true false) x ++ mg f a (y :: b) else if y < x then one (f false true) y ++ mg f (x :: a) b else one (f true true) x ++ mg f a b
  termination_by a b => a.length + b.length
theorem mem_one (b : Bool) (x z : Int) : z ∈ one b x ↔ b = true ∧ z = x := by unfold one; split <;> simp_all
theorem asc_one (b : Bool) (x : Int) (l : List Int) (h : Asc l) (hx : ∀ z ∈ l, x < z) : Asc (one b x ++ l) := by
  unfold one Asc; split
  · exact List.pairwise_cons.2 ⟨hx, h⟩
  · exact h
theorem mg_all (f : Bool → Bool → Bool) (a b : List Int) (ha : Asc a) (hb : Asc b) :
    Asc (mg f a b) ∧ (∀ z, z ∈ mg f a b ↔ (z ∈ a ∨ z ∈ b) ∧ f (decide (z ∈ a)) (decide (z ∈ b)) = true) := by
  fun_induction mg f a b with
  | case1 => simp [Asc]
  | case2 x a ih =>
    obtain ⟨hx, ha'⟩ := List.pairwise_cons.1 ha
    obtain ⟨h1, h2⟩ := ih ha' hb
    refine ⟨asc_one _ _ _ h1 fun z hz => ?_, fun z => ?_⟩
    · rcases ((h2 z).1 hz).1 with h | h
      · exact hx z h
      · cases h
    · rw [List.mem_append, mem_one, h2]
      by_cases hz : z = x
      · subst hz
        have : z ∉ a := fun h => by have := hx z h; omega
        simp [this]
      · simp [hz]
  | case3 y b ih =>
    obtain ⟨hy, hb'⟩ := List.pairwise_cons.1 hb
    obtain ⟨h1, h2⟩ := ih ha hb'
    refine ⟨asc_one _ _ _ h1 fun z hz => ?_, fun z => ?_⟩
    · rcases ((h2 z).1 hz).1 with h | h
      · cases h
      · exact hy z h
    · rw [List.mem_append, mem_one, h2]
      by_cases hz : z = y
      · subst hz
        have : z ∉ b := fun h => by have := hy z h; omega
        simp [this]
      · simp [hz]
  | case4 x a y b hlt ih =>
    obtain ⟨hx, ha'⟩ := List.pairwise_cons.1 ha
    obtain ⟨hy, hb'⟩ := List.pairwise_cons.1 hb
    obtain ⟨h1, h2⟩ := ih ha' hb
    have hxy : ∀ z ∈ y :: b, x < z := fun z hz => by
      rcases List.mem_cons.1 hz with h | h
      · omega
      · have := hy z h; omega
    refine ⟨asc_one _ _ _ h1 fun z hz => ?_, fun z => ?_⟩
    · rcases ((h2 z).1 hz).1 with h | h
      · exact hx z h
      · exact hxy z h
    · rw [List.mem_append, mem_one, h2]
      by_cases hz : z = x
      · subst hz
        have n1 : z ∉ a := fun h => by have := hx z h; omega
        have n2 : z ∉ y :: b := fun h => by have := hxy z h; omega
        have n3 : ¬ (z = y ∨ z ∈ b) := by simpa using n2
        simp [n1, show ¬ z = y from fun h => n3 (.inl h), show ¬ z ∈ b from fun h => n3 (.inr h)]
      · simp [hz]
  | case5 x a y b hge hlt ih =>
    obtain ⟨hx, ha'⟩ := List.pairwise_cons.1 ha
    obtain ⟨hy, hb'⟩ := List.pairwise_cons.1 hb
    obtain ⟨h1, h2⟩ := ih ha hb'
    have hxy : ∀ z ∈ x :: a, y < z := fun z hz => by
      rcases List.mem_cons.1 hz with h | h
      · omega
      · have := hx z h; omega
    refine ⟨asc_one _ _ _ h1 fun z hz => ?_, fun z => ?_⟩
    · rcases ((h2 z).1 hz).1 with h | h
      · exact hxy z h
      · exact hy z h
    · rw [List.mem_append, mem_one, h2]
      by_cases hz : z = y
      · subst hz
        have n1 : z ∉ b := fun h => by have := hy z h; omega
        have n2 : z ∉ x :: a := fun h => by have := hxy z h; omega
        have n3 : ¬ (z = x ∨ z ∈ a) := by simpa using n2
        simp [n1, show ¬ z = x from fun h => n3 (.inl h), show ¬ z ∈ a from fun h => n3 (.inr h)]
      · simp [hz]
  | case6 x a y b hge hge2 ih =>
    obtain ⟨hx, ha'⟩ := List.pairwise_cons.1 ha
    obtain ⟨hy, hb'⟩ := List.pairwise_cons.1 hb
    obtain rfl : x = y := by omega
    obtain ⟨h1, h2⟩ := ih ha' hb'
    refine ⟨asc_one _ _ _ h1 fun z hz => ?_, fun z => ?_⟩
    · rcases ((h2 z).1 hz).1 with h | h
      · exact hx z h
      · exact hy z h
    · rw [List.mem_append, mem_one, h2]
      by_cases hz : z = x
      · subst hz
        have n1 : z ∉ a := fun h => by have := hx z h; omega
        have n2 : z ∉ b := fun h => by have := hy z h; omega
        simp [n1, n2]
      · simp [hz]
theorem len_mg (f : Bool → Bool → Bool) (a b : List Int) : (mg f a b).length ≤ a.length + b.length := by
  have h1 : ∀ c x, (one c x).length ≤ 1 := fun c x => by unfold one; split <;> simp
  fun_induction mg f a b <;> simp only [List.length_append, List.length_cons, List.length_nil] at * <;> (try omega)
  all_goals (have := h1 (f true false); have := h1 (f false true); have := h1 (f true true); grind)

def uni (a b : List Int) : List Int := norm (a ++ b)
def mee (a b : List Int) : List Int := (norm a).filter (fun x => b.contains x)
def mns (a b : List Int) : List Int := (norm a).filter (fun x => !b.contains x)
theorem asc_filter (l : List Int) (p : Int → Bool) (h : Asc l) : Asc (l.filter p) := List.Pairwise.filter _ h
theorem asc_uni (a b : List Int) : Asc (uni a b) := asc_norm _
theorem asc_mee (a b : List Int) : Asc (mee a b) := asc_filter _ _ (asc_norm _)
theorem asc_mns (a b : List Int) : Asc (mns a b) := asc_filter _ _ (asc_norm _)
theorem mem_uni (a b : List Int) (z : Int) : z ∈ uni a b ↔ z ∈ a ∨ z ∈ b := by simp [uni, mem_norm]
theorem mem_mee (a b : List Int) (z : Int) : z ∈ mee a b ↔ z ∈ a ∧ z ∈ b := by simp [mee, mem_norm]
theorem mem_mns (a b : List Int) (z : Int) : z ∈ mns a b ↔ z ∈ a ∧ ¬ z ∈ b := by simp [mns, mem_norm]
theorem len_uni (a b : List Int) : (uni a b).length ≤ a.length + b.length := by have := len_norm (a ++ b); simpa [uni] using this
theorem len_mee (a b : List Int) : (mee a b).length ≤ a.length := Nat.le_trans (List.length_filter_le _ _) (len_norm a)
theorem len_mns (a b : List Int) : (mns a b).length ≤ a.length := Nat.le_trans (List.length_filter_le _ _) (len_norm a)
theorem mg_uni (a b : List Int) : mg (fun x y => x || y) (norm a) (norm b) = uni a b := by
  obtain ⟨h1, h2⟩ := mg_all (fun x y => x || y) (norm a) (norm b) (asc_norm a) (asc_norm b)
  exact asc_unique _ _ h1 (asc_uni a b) fun z => by rw [h2, mem_uni]; simp [mem_norm]
theorem mg_mee (a b : List Int) : mg (fun x y => x && y) (norm a) (norm b) = mee a b := by
  obtain ⟨h1, h2⟩ := mg_all (fun x y => x && y) (norm a) (norm b) (asc_norm a) (asc_norm b)
  exact asc_unique _ _ h1 (asc_mee a b) fun z => by rw [h2, mem_mee]; simp [mem_norm]; intro h _; exact .inl h
theorem mg_mns (a b : List Int) : mg (fun x y => x && !y) (norm a) (norm b) = mns a b := by
  obtain ⟨h1, h2⟩ := mg_all (fun x y => x && !y) (norm a) (norm b) (asc_norm a) (asc_norm b)
  exact asc_unique _ _ h1 (asc_mns a b) fun z => by rw [h2, mem_mns]; simp [mem_norm]; intro h _; exact .inl h
def wit (a b : List Int) : Bool := a.all fun x => b.contains x
theorem mns_nil (a b : List Int) : mns a b = [] ↔ wit a b = true := by
  unfold wit
  rw [List.all_eq_true]
  constructor
  · intro h x hx
    have : x ∉ mns a b := by simp [h]
    rw [mem_mns] at this
    simpa [hx] using this
  · intro h
    refine List.eq_nil_iff_forall_not_mem.2 fun x hx => ?_
    rw [mem_mns] at hx
    exact hx.2 (by simpa using h x hx.1)

/-! the order of lists -/
def cm : List Int → List Int → Int
  | [], [] => 0
  | [], _ :: _ => -1
  | _ :: _, [] => 1
  | x :: a, y :: b => if x < y then -1 else if y < x then 1 else cm a b
theorem cm_vals (a b : List Int) : cm a b = -1 ∨ cm a b = 0 ∨ cm a b = 1 := by
  fun_induction cm a b <;> simp_all
theorem cm_zero (a b : List Int) : cm a b = 0 ↔ a = b := by
  fun_induction cm a b with
  | case1 => simp
  | case2 => simp
  | case3 => simp
  | case4 x a y b h => constructor <;> intro h' <;> simp at h' ; omega
  | case5 x a y b h1 h2 => constructor <;> intro h' <;> simp at h' ; omega
  | case6 x a y b h1 h2 ih => rw [ih]; constructor <;> intro h <;> simp_all; omega
theorem cm_neg (a b : List Int) : cm b a = - cm a b := by
  fun_induction cm a b with
  | case1 => simp [cm]
  | case2 => simp [cm]
  | case3 => simp [cm]
  | case4 x a y b h => unfold cm; rw [if_neg (by omega), if_pos h]; rfl
  | case5 x a y b h1 h2 => unfold cm; rw [if_pos h2]
  | case6 x a y b h1 h2 ih => show (if y < x then (-1 : Int) else if x < y then 1 else cm b a) = -cm a b; rw [if_neg (by omega), if_neg (by omega), ih]
theorem cm_trans (a b c : List Int) : cm a b ≤ 0 → cm b c ≤ 0 → cm a c ≤ 0 := by
  induction a generalizing b c with
  | nil => intro _ _; cases c <;> simp [cm]
  | cons x a ih =>
    intro h1 h2
    cases b with
    | nil => simp [cm] at h1
    | cons y b =>
      cases c with
      | nil => simp [cm] at h2
      | cons z c =>
        unfold cm at h1 h2 ⊢
        split at h1
        · split at h2
          · rw [if_pos (by omega)]; omega
          · split at h2
            · omega
            · rw [if_pos (by omega)]; omega
        · split at h1
          · omega
          · split at h2
            · rw [if_pos (by omega)]; omega
            · split at h2
              · omega
              · rw [if_neg (by omega), if_neg (by omega)]; exact ih b c h1 h2
theorem cm_pre (a b : List Int) (h : b ≠ []) : cm a (a ++ b) = -1 := by
  induction a with
  | nil => cases b with
    | nil => exact absurd rfl h
    | cons y b => rfl
  | cons x a ih => show cm (x :: a) (x :: (a ++ b)) = -1; unfold cm; rw [if_neg (by omega), if_neg (by omega)]; exact ih
theorem cm_cons (x : Int) (a b : List Int) : cm (x :: a) (x :: b) = cm a b := by
  show (if x < x then -1 else if x < x then 1 else cm a b) = cm a b
  rw [if_neg (by omega), if_neg (by omega)]
end Ns
end Go.Proofs.Ytjagjlgboheoeaa
