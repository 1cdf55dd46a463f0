/-
  Joined texts: a, b, c, d, e, f, g, h, i.
-/
import Derived.Lib.SlicesCompact
import Derived.Below
import Derived.Laws.OwnMore
import Derived.Deep.AppendLies
import Derived.Deep.Draws
import Derived.Maps.AppendAt
import Derived.RegionTactic
import Derived.OwnWalk
import Derived.Lib.SmallJoins
import Derived.Test.YtagkpkkbkeefbaaSh
import Derived.WalkKit
import Derived.LoopTactic
import Derived.Deep.QuietTactic
import Derived.BigQuiet
import Derived.Lib.Hide
import Derived.OpenShut
import Derived.Lib.OwnBridge
import Derived.Deep.RegionLaw
/-
  Plain mathematics of sets of integers as ascending lists: insertion, union, meet, what is taken away, merging side by side, the order of lists.
-/
namespace Go.Proofs.Ytagkpkkbkeefbaa
namespace Ns

def ins : List Int → Int → List Int
  | [], x => [x]
  | y :: l, x => if y < x then y :: ins l x else if y = x then y :: l else x :: y :: l
def norm (l : List Int) : List Int := l.foldl ins []
def Asc (l : List Int) : Prop := l.Pairwise (· < ·)

theorem mem_ins (l : List Int) (x z : Int) : z ∈ ins l x ↔ z ∈ l ∨ z = x := by
  induction l with
  | nil => simp [ins]
  | cons y l ih =>
    unfold ins
    split
    · simp [ih, or_assoc]
    · split
      · next h => subst h; simp only [List.mem_cons]; constructor <;> intro h <;> rcases h with h | h <;> simp [h] <;> (rcases h with h | h <;> simp [h])
      · simp only [List.mem_cons]; constructor <;> (intro h; rcases h with h | h) <;> simp [h]
theorem asc_ins (l : List Int) (x : Int) (h : Asc l) : Asc (ins l x) := by
  induction l with
  | nil => simp [ins, Asc]
  | cons y l ih =>
    unfold Asc at h ih ⊢
    rw [List.pairwise_cons] at h
    unfold ins
    split
    · next hlt =>
      rw [List.pairwise_cons]
      refine ⟨fun z hz => ?_, ih h.2⟩
      rcases (mem_ins l x z).1 hz with h1 | h1
      · exact h.1 z h1
      · omega
    · next hge =>
      split
      · exact List.pairwise_cons.2 h
      · next hne =>
        refine List.pairwise_cons.2 ⟨fun z hz => ?_, List.pairwise_cons.2 h⟩
        rcases List.mem_cons.1 hz with h1 | h1
        · omega
        · have := h.1 z h1; omega
theorem len_ins (l : List Int) (x : Int) : (ins l x).length ≤ l.length + 1 := by
  induction l with
  | nil => simp [ins]
  | cons y l ih => unfold ins; split <;> (try split) <;> simp <;> omega
theorem fold_ins (l : List Int) : ∀ s, (∀ z, z ∈ l.foldl ins s ↔ z ∈ s ∨ z ∈ l) ∧ (Asc s → Asc (l.foldl ins s)) ∧ (l.foldl ins s).length ≤ s.length + l.length := by
  induction l with
  | nil => intro s; simp
  | cons x l ih =>
    intro s
    obtain ⟨h1, h2, h3⟩ := ih (ins s x)
    refine ⟨fun z => ?_, fun h => h2 (asc_ins s x h), ?_⟩
    · rw [List.foldl_cons, h1, mem_ins]; simp [or_assoc]
    · have := len_ins s x; simp only [List.foldl_cons, List.length_cons]; omega
theorem mem_norm (l : List Int) (z : Int) : z ∈ norm l ↔ z ∈ l := by simpa [norm] using (fold_ins l []).1 z
theorem asc_norm (l : List Int) : Asc (norm l) := (fold_ins l []).2.1 List.Pairwise.nil
theorem len_norm (l : List Int) : (norm l).length ≤ l.length := by simpa [norm] using (fold_ins l []).2.2
theorem norm_snoc (l : List Int) (x : Int) : norm (l ++ [x]) = ins (norm l) x := by simp [norm]

/-- two ascending lists with the same numbers are the same -/
theorem asc_unique : ∀ (a b : List Int), Asc a → Asc b → (∀ x, x ∈ a ↔ x ∈ b) → a = b := by
  intro a
  induction a with
  | nil =>
    intro b _ _ h
    cases b with
    | nil => rfl
    | cons y b => exact absurd ((h y).2 (by simp)) (by simp)
  | cons x a ih =>
    intro b ha hb h
    cases b with
    | nil => exact absurd ((h x).1 (by simp)) (by simp)
    | cons y b =>
      have ha' := List.pairwise_cons.1 ha
      have hb' := List.pairwise_cons.1 hb
      have exy : x = y := by
        rcases List.mem_cons.1 ((h x).1 (by simp)) with h1 | h1
        · exact h1
        · rcases List.mem_cons.1 ((h y).2 (by simp)) with h2 | h2
          · exact h2.symm
          · have := hb'.1 x h1; have := ha'.1 y h2; omega
      subst exy
      congr 1
      refine ih b ha'.2 hb'.2 fun z => ?_
      have hz := h z
      simp only [List.mem_cons] at hz
      constructor
      · intro h1
        rcases hz.1 (.inr h1) with h2 | h2
        · subst h2; have := ha'.1 z h1; omega
        · exact h2
      · intro h1
        rcases hz.2 (.inr h1) with h2 | h2
        · subst h2; have := hb'.1 z h1; omega
        · exact h2
theorem norm_of_asc (l : List Int) (h : Asc l) : norm l = l := asc_unique _ _ (asc_norm l) h (mem_norm l)
theorem norm_norm (l : List Int) : norm (norm l) = norm l := norm_of_asc _ (asc_norm l)

/-! compact behind a sort -/
theorem compact_inv (d : Array Int) (hs : ∀ i j, i ≤ j → j < d.size → d[i]! ≤ d[j]!) : ∀ m, m ≤ d.size →
    Asc (Lib.compactUpTo d m) ∧ (∀ z, z ∈ Lib.compactUpTo d m ↔ ∃ j, j < m ∧ d[j]! = z) := by
  intro m
  induction m with
  | zero => intro _; refine ⟨?_, ?_⟩ <;> simp [Lib.compactUpTo, Asc]
  | succ m ih =>
    intro hm
    obtain ⟨h1, h2⟩ := ih (by omega)
    rw [Lib.compactUpTo_succ]
    by_cases hk : Lib.keeps d m = true
    · rw [if_pos hk]
      refine ⟨?_, fun z => ?_⟩
      · unfold Asc at h1 ⊢
        rw [List.pairwise_append]
        refine ⟨h1, List.pairwise_singleton _ _, fun a ha b hb => ?_⟩
        obtain ⟨j, hj, rfl⟩ := (h2 a).1 ha
        rw [List.mem_singleton] at hb
        subst hb
        have hk' : m = 0 ∨ d[m]! ≠ d[m - 1]! := by simpa [Lib.keeps] using hk
        have a1 := hs j (m - 1) (by omega) (by omega)
        have a2 := hs (m - 1) m (by omega) (by omega)
        rcases hk' with h0 | h0 <;> omega
      · rw [List.mem_append, h2, List.mem_singleton]
        constructor
        · rintro (⟨j, hj, rfl⟩ | rfl)
          · exact ⟨j, by omega, rfl⟩
          · exact ⟨m, by omega, rfl⟩
        · rintro ⟨j, hj, rfl⟩
          by_cases hjm : j = m
          · subst hjm; exact .inr rfl
          · exact .inl ⟨j, by omega, rfl⟩
    · rw [if_neg hk, List.append_nil]
      refine ⟨h1, fun z => ?_⟩
      rw [h2]
      have hk' : ¬ (m = 0 ∨ d[m]! ≠ d[m - 1]!) := by simpa [Lib.keeps] using hk
      have he : d[m]! = d[m - 1]! := Decidable.byContradiction fun h => hk' (.inr h)
      constructor
      · rintro ⟨j, hj, rfl⟩; exact ⟨j, by omega, rfl⟩
      · rintro ⟨j, hj, rfl⟩
        by_cases hjm : j = m
        · subst hjm; exact ⟨j - 1, by omega, he.symm⟩
        · exact ⟨j, by omega, rfl⟩
theorem compact_sorted (l : List Int) : Lib.compact (l.mergeSort fun x y => decide (x ≤ y)) = norm l := by
  have hp := List.mergeSort_perm l (fun x y => decide (x ≤ y))
  have hs := List.pairwise_mergeSort (le := fun x y : Int => decide (x ≤ y)) (fun a b c h1 h2 => by simp at *; omega) (fun a b => by simp; omega) l
  generalize l.mergeSort (fun x y => decide (x ≤ y)) = s at hp hs
  have key := compact_inv s.toArray (fun i j hij hj => by
    have hj' : j < s.length := by simpa using hj
    by_cases e : i = j
    · subst e; exact Int.le_refl _
    · have := List.pairwise_iff_getElem.1 hs i j (by omega) hj' (by omega)
      simpa [getElem!_pos, hj', show i < s.length by omega] using this) s.length (by simp)
  refine asc_unique _ _ key.1 (asc_norm l) fun z => ?_
  rw [mem_norm, ← hp.mem_iff]
  show z ∈ Lib.compactUpTo s.toArray s.length ↔ _
  rw [key.2, List.mem_iff_getElem]
  constructor
  · rintro ⟨j, hj, rfl⟩; exact ⟨j, hj, by simp [getElem!_pos, hj]⟩
  · rintro ⟨j, hj, rfl⟩; exact ⟨j, hj, by simp [getElem!_pos, hj]⟩

/-! side by side -/
def one (b : Bool) (x : Int) : List Int := if b then [x] else []
def mg (f : Bool → Bool → Bool) : List Int → List Int → List Int
  | [], [] => []
  | x :: a, [] => one (f true false) x ++ mg f a []
  | [], y :: b => one (f false true) y ++ mg f [] b
  | x :: a, y :: b => if x < y then one (f true false) x ++ mg f a (y :: b) else if y < x then one (f false true) y ++ mg f (x :: a) b else one (f true true) x ++ mg f a b
  termination_by a b => a.length + b.length
theorem mem_one (b : Bool) (x z : Int) : z ∈ one b x ↔ b = true ∧ z = x := by unfold one; split <;> simp_all
theorem asc_one (b : Bool) (x : Int) (l : List Int) (h : Asc l) (hx : ∀ z ∈ l, x < z) : Asc (one b x ++ l) := by
  unfold one Asc; split
  · exact List.pairwise_cons.2 ⟨hx, h⟩
  · exact h
theorem mg_all (f : Bool → Bool → Bool) (a b : List Int) (ha : Asc a) (hb : Asc b) :
    Asc (mg f a b) ∧ (∀ z, z ∈ mg f a b ↔ (z ∈ a ∨ z ∈ b) ∧ f (decide (z ∈ a)) (decide (z ∈ b)) = true) := by
  fun_induction mg f a b with
  | case1 => simp [Asc]
  | case2 x a ih =>
    obtain ⟨hx, ha'⟩ := List.pairwise_cons.1 ha
    obtain ⟨h1, h2⟩ := ih ha' hb
    refine ⟨asc_one _ _ _ h1 fun z hz => ?_, fun z => ?_⟩
    · rcases ((h2 z).1 hz).1 with h | h
      · exact hx z h
      · cases h
    · rw [List.mem_append, mem_one, h2]
      by_cases hz : z = x
      · subst hz
        have : z ∉ a := fun h => by have := hx z h; omega
        simp [this]
      · simp [hz]
  | case3 y b ih =>
    obtain ⟨hy, hb'⟩ := List.pairwise_cons.1 hb
    obtain ⟨h1, h2⟩ := ih ha hb'
    refine ⟨asc_one _ _ _ h1 fun z hz => ?_, fun z => ?_⟩
    · rcases ((h2 z).1 hz).1 with h | h
      · cases h
      · exact hy z h
    · rw [List.mem_append, mem_one, h2]
      by_cases hz : z = y
      · subst hz
        have : z ∉ b := fun h => by have := hy z h; omega
        simp [this]
      · simp [hz]
  | case4 x a y b hlt ih =>
    obtain ⟨hx, ha'⟩ := List.pairwise_cons.1 ha
    obtain ⟨hy, hb'⟩ := List.pairwise_cons.1 hb
    obtain ⟨h1, h2⟩ := ih ha' hb
    have hxy : ∀ z ∈ y :: b, x < z := fun z hz => by
      rcases List.mem_cons.1 hz with h | h
      · omega
      · have := hy z h; omega
    refine ⟨asc_one _ _ _ h1 fun z hz => ?_, fun z => ?_⟩
    · rcases ((h2 z).1 hz).1 with h | h
      · exact hx z h
      · exact hxy z h
    · rw [List.mem_append, mem_one, h2]
      by_cases hz : z = x
      · subst hz
        have n1 : z ∉ a := fun h => by have := hx z h; omega
        have n2 : z ∉ y :: b := fun h => by have := hxy z h; omega
        have n3 : ¬ (z = y ∨ z ∈ b) := by simpa using n2
        simp [n1, show ¬ z = y from fun h => n3 (.inl h), show ¬ z ∈ b from fun h => n3 (.inr h)]
      · simp [hz]
  | case5 x a y b hge hlt ih =>
    obtain ⟨hx, ha'⟩ := List.pairwise_cons.1 ha
    obtain ⟨hy, hb'⟩ := List.pairwise_cons.1 hb
    obtain ⟨h1, h2⟩ := ih ha hb'
    have hxy : ∀ z ∈ x :: a, y < z := fun z hz => by
      rcases List.mem_cons.1 hz with h | h
      · omega
      · have := hx z h; omega
    refine ⟨asc_one _ _ _ h1 fun z hz => ?_, fun z => ?_⟩
    · rcases ((h2 z).1 hz).1 with h | h
      · exact hxy z h
      · exact hy z h
    · rw [List.mem_append, mem_one, h2]
      by_cases hz : z = y
      · subst hz
        have n1 : z ∉ b := fun h => by have := hy z h; omega
        have n2 : z ∉ x :: a := fun h => by have := hxy z h; omega
        have n3 : ¬ (z = x ∨ z ∈ a) := by simpa using n2
        simp [n1, show ¬ z = x from fun h => n3 (.inl h), show ¬ z ∈ a from fun h => n3 (.inr h)]
      · simp [hz]
  | case6 x a y b hge hge2 ih =>
    obtain ⟨hx, ha'⟩ := List.pairwise_cons.1 ha
    obtain ⟨hy, hb'⟩ := List.pairwise_cons.1 hb
    obtain rfl : x = y := by omega
    obtain ⟨h1, h2⟩ := ih ha' hb'
    refine ⟨asc_one _ _ _ h1 fun z hz => ?_, fun z => ?_⟩
    · rcases ((h2 z).1 hz).1 with h | h
      · exact hx z h
      · exact hy z h
    · rw [List.mem_append, mem_one, h2]
      by_cases hz : z = x
      · subst hz
        have n1 : z ∉ a := fun h => by have := hx z h; omega
        have n2 : z ∉ b := fun h => by have := hy z h; omega
        simp [n1, n2]
      · simp [hz]
theorem len_mg (f : Bool → Bool → Bool) (a b : List Int) : (mg f a b).length ≤ a.length + b.length := by
  have h1 : ∀ c x, (one c x).length ≤ 1 := fun c x => by unfold one; split <;> simp
  fun_induction mg f a b <;> simp only [List.length_append, List.length_cons, List.length_nil] at * <;> (try omega)
  all_goals (have := h1 (f true false); have := h1 (f false true); have := h1 (f true true); grind)

def uni (a b : List Int) : List Int := norm (a ++ b)
def mee (a b : List Int) : List Int := (norm a).filter (fun x => b.contains x)
def mns (a b : List Int) : List Int := (norm a).filter (fun x => !b.contains x)
theorem asc_filter (l : List Int) (p : Int → Bool) (h : Asc l) : Asc (l.filter p) := List.Pairwise.filter _ h
theorem asc_uni (a b : List Int) : Asc (uni a b) := asc_norm _
theorem asc_mee (a b : List Int) : Asc (mee a b) := asc_filter _ _ (asc_norm _)
theorem asc_mns (a b : List Int) : Asc (mns a b) := asc_filter _ _ (asc_norm _)
theorem mem_uni (a b : List Int) (z : Int) : z ∈ uni a b ↔ z ∈ a ∨ z ∈ b := by simp [uni, mem_norm]
theorem mem_mee (a b : List Int) (z : Int) : z ∈ mee a b ↔ z ∈ a ∧ z ∈ b := by simp [mee, mem_norm]
theorem mem_mns (a b : List Int) (z : Int) : z ∈ mns a b ↔ z ∈ a ∧ ¬ z ∈ b := by simp [mns, mem_norm]
theorem len_uni (a b : List Int) : (uni a b).length ≤ a.length + b.length := by have := len_norm (a ++ b); simpa [uni] using this
theorem len_mee (a b : List Int) : (mee a b).length ≤ a.length := Nat.le_trans (List.length_filter_le _ _) (len_norm a)
theorem len_mns (a b : List Int) : (mns a b).length ≤ a.length := Nat.le_trans (List.length_filter_le _ _) (len_norm a)
theorem mg_uni (a b : List Int) : mg (fun x y => x || y) (norm a) (norm b) = uni a b := by
  obtain ⟨h1, h2⟩ := mg_all (fun x y => x || y) (norm a) (norm b) (asc_norm a) (asc_norm b)
  exact asc_unique _ _ h1 (asc_uni a b) fun z => by rw [h2, mem_uni]; simp [mem_norm]
theorem mg_mee (a b : List Int) : mg (fun x y => x && y) (norm a) (norm b) = mee a b := by
  obtain ⟨h1, h2⟩ := mg_all (fun x y => x && y) (norm a) (norm b) (asc_norm a) (asc_norm b)
  exact asc_unique _ _ h1 (asc_mee a b) fun z => by rw [h2, mem_mee]; simp [mem_norm]; intro h _; exact .inl h
theorem mg_mns (a b : List Int) : mg (fun x y => x && !y) (norm a) (norm b) = mns a b := by
  obtain ⟨h1, h2⟩ := mg_all (fun x y => x && !y) (norm a) (norm b) (asc_norm a) (asc_norm b)
  exact asc_unique _ _ h1 (asc_mns a b) fun z => by rw [h2, mem_mns]; simp [mem_norm]; intro h _; exact .inl h
def wit (a b : List Int) : Bool := a.all fun x => b.contains x
theorem mns_nil (a b : List Int) : mns a b = [] ↔ wit a b = true := by
  unfold wit
  rw [List.all_eq_true]
  constructor
  · intro h x hx
    have : x ∉ mns a b := by simp [h]
    rw [mem_mns] at this
    simpa [hx] using this
  · intro h
    refine List.eq_nil_iff_forall_not_mem.2 fun x hx => ?_
    rw [mem_mns] at hx
    exact hx.2 (by simpa using h x hx.1)

/-! the order of lists -/
def cm : List Int → List Int → Int
  | [], [] => 0
  | [], _ :: _ => -1
  | _ :: _, [] => 1
  | x :: a, y :: b => if x < y then -1 else if y < x then 1 else cm a b
theorem cm_vals (a b : List Int) : cm a b = -1 ∨ cm a b = 0 ∨ cm a b = 1 := by
  fun_induction cm a b <;> simp_all
theorem cm_zero (a b : List Int) : cm a b = 0 ↔ a = b := by
  fun_induction cm a b with
  | case1 => simp
  | case2 => simp
  | case3 => simp
  | case4 x a y b h => constructor <;> intro h' <;> simp at h' ; omega
  | case5 x a y b h1 h2 => constructor <;> intro h' <;> simp at h' ; omega
  | case6 x a y b h1 h2 ih => rw [ih]; constructor <;> intro h <;> simp_all; omega
theorem cm_neg (a b : List Int) : cm b a = - cm a b := by
  fun_induction cm a b with
  | case1 => simp [cm]
  | case2 => simp [cm]
  | case3 => simp [cm]
  | case4 x a y b h => unfold cm; rw [if_neg (by omega), if_pos h]; rfl
  | case5 x a y b h1 h2 => unfold cm; rw [if_pos h2]
  | case6 x a y b h1 h2 ih => show (if y < x then (-1 : Int) else if x < y then 1 else cm b a) = -cm a b; rw [if_neg (by omega), if_neg (by omega), ih]
theorem cm_trans (a b c : List Int) : cm a b ≤ 0 → cm b c ≤ 0 → cm a c ≤ 0 := by
  induction a generalizing b c with
  | nil => intro _ _; cases c <;> simp [cm]
  | cons x a ih =>
    intro h1 h2
    cases b with
    | nil => simp [cm] at h1
    | cons y b =>
      cases c with
      | nil => simp [cm] at h2
      | cons z c =>
        unfold cm at h1 h2 ⊢
        split at h1
        · split at h2
          · rw [if_pos (by omega)]; omega
          · split at h2
            · omega
            · rw [if_pos (by omega)]; omega
        · split at h1
          · omega
          · split at h2
            · rw [if_pos (by omega)]; omega
            · split at h2
              · omega
              · rw [if_neg (by omega), if_neg (by omega)]; exact ih b c h1 h2
theorem cm_pre (a b : List Int) (h : b ≠ []) : cm a (a ++ b) = -1 := by
  induction a with
  | nil => cases b with
    | nil => exact absurd rfl h
    | cons y b => rfl
  | cons x a ih => show cm (x :: a) (x :: (a ++ b)) = -1; unfold cm; rw [if_neg (by omega), if_neg (by omega)]; exact ih
theorem cm_cons (x : Int) (a b : List Int) : cm (x :: a) (x :: b) = cm a b := by
  show (if x < x then -1 else if x < x then 1 else cm a b) = cm a b
  rw [if_neg (by omega), if_neg (by omega)]
end Ns
end Go.Proofs.Ytagkpkkbkeefbaa

/-
  Words for memory: a slice that reads as a list of integers, nil let in; an append onto a slice of the call's own.
-/
namespace Go.Proofs.Ytagkpkkbkeefbaa
open Go.RowKit

theorem block_of_add (a : Addr) (n : Nat) : (a.add n).block = a.block := by unfold Addr.add; split <;> rfl
theorem add_of_add (a : Addr) (i j : Nat) : (a.add i).add j = a.add (i + j) := by
  unfold Addr.add
  by_cases hi : i = 0 <;> by_cases hj : j = 0 <;> simp [hi, hj, Nat.add_assoc]

def Reads (w : World) (B size : Nat) (A : Option Addr) (n : Nat) (xs : List Value) : Prop :=
  xs.length = n * size ∧ (0 < n → ∃ ad, A = some ad ∧ ad.block < B ∧ ∀ j u, xs[j]? = some u → w.cell? (ad.add j) = some u)

section
variable {w w' : World} {B B' size n : Nat} {A : Option Addr} {xs : List Value}
theorem Reads.none_ : Reads w B size A 0 [] := ⟨by simp, fun h => absurd h (by omega)⟩
theorem Reads.at_ {k : Nat} (h : Reads w B 1 A n xs) (hk : k < n) : ∃ ad u, A = some ad ∧ ad.block < B ∧ xs[k]? = some u ∧ w.cell? (ad.add k) = some u := by
  obtain ⟨ad, e, hb, hc⟩ := h.2 (by omega)
  have hl : k < xs.length := by have := h.1; omega
  exact ⟨ad, xs[k], e, hb, List.getElem?_eq_getElem hl, hc k _ (List.getElem?_eq_getElem hl)⟩
theorem Reads.keep (h : Reads w B size A n xs) (hk : ∀ p : Addr, p.block < B → w'.cell? p = w.cell? p) : Reads w' B size A n xs :=
  ⟨h.1, fun hn => by
    obtain ⟨ad, e, hb, hc⟩ := h.2 hn
    exact ⟨ad, e, hb, fun j u hu => (hk _ (by rw [block_of_add]; exact hb)).trans (hc j u hu)⟩⟩
theorem Reads.more (h : Reads w B size A n xs) (hB : B ≤ B') : Reads w B' size A n xs :=
  ⟨h.1, fun hn => by
    obtain ⟨ad, e, hb, hc⟩ := h.2 hn
    exact ⟨ad, e, by omega, hc⟩⟩
theorem Reads.below (h : Reads w B size A n xs) (hb : Below B w w') : Reads w' B size A n xs := h.keep fun _ hp => hb.cell hp
theorem Reads.drew (h : Reads w B size A n xs) : Reads w.drew B size A n xs := h
theorem Reads.drewN (h : Reads w B size A n xs) (k : Nat) : Reads (w.drewN k) B size A n xs := h
theorem Reads.alloc (h : Reads w B size A n xs) (hB : B ≤ w.heap.size) (o : Obj) : Reads (w.alloc o) B size A n xs := h.keep fun p hp => World.cell?_alloc_lt w o p (by omega)
theorem Reads.setCell (h : Reads w B size A n xs) {p : Addr} (hB : B ≤ p.block) (u : Value) : Reads (w.setCell p u) B size A n xs :=
  h.keep fun q hq => World.cell?_setCell_other w p q u (fun e => by subst e; omega)
theorem Reads.grown (h : Reads w B size A n xs) {row : Option Nat} (hg : w.grownBy w' row) (hB : B ≤ w.heap.size) (hr : ∀ g, row = some g → B ≤ g) : Reads w' B size A n xs :=
  h.keep fun p hp => World.cell?_of_block (hg.block p.block (by omega) (fun e => by have := hr _ e.symm; omega))
theorem Reads.cut (h : Reads w B size A n xs) {k cap : Nat} (hk : k ≤ n) (hc : n ≤ cap) :
    Reads w B size (if cap = k then A else A.map (·.add (k * size))) (n - k) (xs.drop (k * size)) := by
  refine ⟨by rw [List.length_drop, h.1, Nat.sub_mul], fun hn => ?_⟩
  obtain ⟨ad, rfl, hb, hcell⟩ := h.2 (by omega)
  rw [if_neg (by omega)]
  refine ⟨ad.add (k * size), rfl, by rw [block_of_add]; exact hb, fun j u hu => ?_⟩
  rw [add_of_add]
  exact hcell _ u (by rw [← hu, List.getElem?_drop])
theorem Reads.of_own {base : Nat} {e : TypeId} {c : Nat} (h : w.ownsRow base e size (.slice A n c) n xs) : Reads w w.heap.size size A n xs := by
  refine ⟨h.1, fun hn => ?_⟩
  obtain ⟨g, cap, hv, _, hlt⟩ := h.form hn
  have hA : A = some ⟨g, 0, none⟩ := by injection hv
  subst hA
  exact ⟨_, rfl, hlt, h.cells (g := g) rfl⟩
end

section
variable {P : Program} (w : World)

theorem run_append_of_nil (base : Nat) (t ty e : TypeId) (i : TypeInfo) (size : Nat) (ht : P.underlying t = some (.slice e)) (hi : P.info? e = some i)
    (v : Value) (n : Nat) (xs : List Value) (hown : w.ownsRow base e size v n xs) (c : Nat) : (Builtin.append_ #[t, t] ty #[v, .slice none 0 c]).run P w = .ok v w := by
  rcases hown.2 with ⟨rfl, rfl⟩ | ⟨g, cap, cur, rfl, _, _, hnc, _⟩
  · simp [Builtin.append_, run_underlying ht, sizeOf, typeInfo, hi, Builtin.lenOf, Builtin.firstCells]
  · simp [Builtin.append_, run_underlying ht, sizeOf, typeInfo, hi, Builtin.lenOf, Builtin.firstCells, hnc, storeCells]

theorem run_append_any (base : Nat) (t ty e : TypeId) (i : TypeInfo) (z : Value) (size bytes : Nat) (ht : P.underlying t = some (.slice e)) (hi : P.info? e = some i) (hz : i.zero = some z)
    (hsize : i.size = size) (hby : i.bytes = bytes) (hzs : z.cells.size = size) (hsz : 0 < size)
    (v : Value) (n : Nat) (xs : List Value) (hown : w.ownsRow base e size v n xs)
    (B : Nat) (A : Option Addr) (m c : Nat) (news : List Value) (hr : Reads w B size A m news) (h1 : ∀ u ∈ news, u.oneCell' = true)
    (h63 : n + m ≤ maxLen) (hbytes : (n + m) * bytes ≤ 140737488355328) (hbase : base ≤ w.heap.size) :
    ∃ v' w', (Builtin.append_ #[t, t] ty #[v, .slice A m c]).run P w = .ok v' w' ∧ w'.ownsRow base e size v' (n + m) (xs ++ news) ∧ w.grownBy w' v.ownBlock ∧
      (v'.ownBlock = v.ownBlock ∨ v'.ownBlock = some w.heap.size) := by
  rcases A with _ | ad
  · have hm : m = 0 := by
      rcases Nat.eq_zero_or_pos m with h0 | h0
      · exact h0
      · obtain ⟨ad, h, _⟩ := hr.2 h0
        cases h
    subst hm
    have hn : news = [] := List.eq_nil_of_length_eq_zero (by simpa using hr.1)
    subst hn
    exact ⟨v, w, run_append_of_nil w base t ty e i size ht hi v n xs hown c, by simpa using hown, World.grownBy.refl w _, .inl rfl⟩
  · have hcells : ∀ j u, news[j]? = some u → w.cell? (ad.add j) = some u := by
      intro j u hu
      rcases Nat.eq_zero_or_pos m with h0 | h0
      · subst h0
        have hn : news = [] := List.eq_nil_of_length_eq_zero (by simpa using hr.1)
        subst hn
        simp at hu
      · obtain ⟨ad', h, _, hc⟩ := hr.2 h0
        injection h with h
        subst h
        exact hc j u hu
    obtain ⟨v', w', hrun, h2, h3, _, h5⟩ := run_append_own_at (P := P) w base t ty e i z size bytes ht hi hz hsize hby hzs hsz v n xs hown ad m c news hr.1 hcells h1 h63 hbytes hbase
    exact ⟨v', w', hrun, h2, h3, h5⟩

theorem wp_append_any {o : Oper} {a : Act} {K : Act → World → Prop} {Q : Exit → Act → World → Prop} (s x : Operand) (t : TypeId)
    (ho : o.op = .call { callee := .builtin .append, args := #[s, x], argTypes := #[t, t] })
    (base : Nat) (e : TypeId) (i : TypeInfo) (z : Value) (size bytes : Nat) (ht : P.underlying t = some (.slice e)) (hi : P.info? e = some i) (hz : i.zero = some z)
    (hsize : i.size = size) (hby : i.bytes = bytes) (hzs : z.cells.size = size) (hsz : 0 < size)
    (v : Value) (n : Nat) (xs : List Value) (hs : a.eval s = v) (hown : w.ownsRow base e size v n xs)
    (B : Nat) (A : Option Addr) (m c : Nat) (news : List Value) (hx : a.eval x = .slice A m c) (hr : Reads w B size A m news) (h1 : ∀ u ∈ news, u.oneCell' = true)
    (h63 : n + m ≤ maxLen) (hbytes : (n + m) * bytes ≤ 140737488355328) (hbase : base ≤ w.heap.size)
    (h : ∀ v' w', w'.ownsRow base e size v' (n + m) (xs ++ news) → w.grownBy w' v.ownBlock → (v'.ownBlock = v.ownBlock ∨ v'.ownBlock = some w.heap.size) → K (a.put o.dst v') w') : o.wp P a w K Q := by
  obtain ⟨v', w', hrun, h2, h3, h4⟩ := run_append_any (P := P) w base t o.type e i z size bytes ht hi hz hsize hby hzs hsz v n xs hown B A m c news hr h1 h63 hbytes hbase
  unfold Oper.wp execOp
  simp only [ho, resolve, invoke, builtin, Sem.run_bind, Sem.run_pure, Result.andThen_ok, List.map_toArray, List.map_cons, List.map_nil, hs, hx, hrun]
  exact h v' w' h2 h3 h4

theorem wpList_append_any {ops : Array Oper} {rest : List Oper} {o : Oper} {a : Act} {Q : Exit → Act → World → Prop} (hgd : o.guard = none) (s x : Operand) (t : TypeId)
    (ho : o.op = .call { callee := .builtin .append, args := #[s, x], argTypes := #[t, t] })
    (base : Nat) (e : TypeId) (i : TypeInfo) (z : Value) (size bytes : Nat) (ht : P.underlying t = some (.slice e)) (hi : P.info? e = some i) (hz : i.zero = some z)
    (hsize : i.size = size) (hby : i.bytes = bytes) (hzs : z.cells.size = size) (hsz : 0 < size)
    (v : Value) (n : Nat) (xs : List Value) (hs : a.eval s = v) (hown : w.ownsRow base e size v n xs)
    (B : Nat) (A : Option Addr) (m c : Nat) (news : List Value) (hx : a.eval x = .slice A m c) (hr : Reads w B size A m news) (h1 : ∀ u ∈ news, u.oneCell' = true)
    (h63 : n + m ≤ maxLen) (hbytes : (n + m) * bytes ≤ 140737488355328) (hbase : base ≤ w.heap.size)
    (h : ∀ v' w', w'.ownsRow base e size v' (n + m) (xs ++ news) → w.grownBy w' v.ownBlock → (v'.ownBlock = v.ownBlock ∨ v'.ownBlock = some w.heap.size) → wpList P ops Q rest (a.put o.dst v') w') : wpList P ops Q (o :: rest) a w :=
  wpList_plain hgd fun _ hK => wp_append_any w s x t ho base e i z size bytes ht hi hz hsize hby hzs hsz v n xs hs hown B A m c news hx hr h1 h63 hbytes hbase fun v' w' h2 h3 h4 => hK _ _ (h v' w' h2 h3 h4)

theorem step_append_any {ops : Array Oper} {o : Oper} {a : Act} {K : Act → World → Prop} {Q : Exit → Act → World → Prop} {E : Prop} (hgd : o.guard = none) (s x : Operand) (t : TypeId)
    (ho : o.op = .call { callee := .builtin .append, args := #[s, x], argTypes := #[t, t] })
    (base : Nat) (e : TypeId) (i : TypeInfo) (z : Value) (size bytes : Nat) (ht : P.underlying t = some (.slice e)) (hi : P.info? e = some i) (hz : i.zero = some z)
    (hsize : i.size = size) (hby : i.bytes = bytes) (hzs : z.cells.size = size) (hsz : 0 < size)
    (v : Value) (n : Nat) (xs : List Value) (hs : a.eval s = v) (hown : w.ownsRow base e size v n xs)
    (B : Nat) (A : Option Addr) (m c : Nat) (news : List Value) (hx : a.eval x = .slice A m c) (hr : Reads w B size A m news) (h1 : ∀ u ∈ news, u.oneCell' = true)
    (h63 : n + m ≤ maxLen) (hbytes : (n + m) * bytes ≤ 140737488355328) (hbase : base ≤ w.heap.size)
    (h : ∀ v' w', w'.ownsRow base e size v' (n + m) (xs ++ news) → w.grownBy w' v.ownBlock → (v'.ownBlock = v.ownBlock ∨ v'.ownBlock = some w.heap.size) → K (a.put o.dst v') w') :
    if Region.wanted o (yielded ops a.tmps) = true then Oper.wp P o a w K Q else E := by
  have hw : Region.wanted o (yielded ops a.tmps) = true := by simp [Region.wanted, hgd]
  rw [if_pos hw]
  exact wp_append_any w s x t ho base e i z size bytes ht hi hz hsize hby hzs hsz v n xs hs hown B A m c news hx hr h1 h63 hbytes hbase h
end

/-! integers -/
def vals (l : List Int) : List Value := l.map (Value.int .i64)
def RD (w : World) (A : Option Addr) (c : Nat) (l : List Int) : Prop := l.length ≤ c ∧ Reads w w.heap.size 1 A l.length (vals l)
theorem len_vals (l : List Int) : (vals l).length = l.length := by simp [vals]
theorem vals_append (a b : List Int) : vals (a ++ b) = vals a ++ vals b := by simp [vals]
theorem vals_one (l : List Int) : ∀ u ∈ vals l, u.oneCell' = true := by
  intro u hu
  obtain ⟨x, _, rfl⟩ := List.mem_map.1 hu
  rfl
section
variable {w w' : World} {A : Option Addr} {c : Nat} {l : List Int}
theorem RD.go (h : RD w A c l) (hb : Below w.heap.size w w') : RD w' A c l := ⟨h.1, (h.2.below hb).more hb.size⟩
theorem RD.alloc (h : RD w A c l) (o : Obj) : RD (w.alloc o) A c l := h.go ((Below.refl _ _).alloc (Nat.le_refl _) o)
theorem RD.nil_ (w : World) (A : Option Addr) (c : Nat) : RD w A c [] := ⟨Nat.zero_le _, by simp [vals], fun h => absurd h (by simp)⟩
theorem RD.at_ (h : RD w A c l) {k : Nat} (hk : k < l.length) : ∃ ad : Addr, A = some ad ∧ ad.block < w.heap.size ∧ w.cell? (ad.add k) = some (.int .i64 (l.getD k 0)) := by
  obtain ⟨ad, u, e, hb, hu, hc⟩ := h.2.at_ hk
  refine ⟨ad, e, hb, ?_⟩
  rw [hc, ← hu, vals, List.getElem?_map, List.getElem?_eq_getElem hk]
  simp [hk]
theorem RD.let_ (h : RD w A c l) {k : Nat} (hk : k < l.length) : ∃ (ad : Addr) (y : Int), A = some ad ∧ ad.block < w.heap.size ∧ l[k]? = some y ∧ w.cell? (ad.add k) = some (.int .i64 y) := by
  obtain ⟨ad, e, hb, hc⟩ := h.at_ hk
  exact ⟨ad, l[k], e, hb, List.getElem?_eq_getElem hk, by rw [hc]; simp [hk]⟩
theorem RD.all_ (h : RD w A c l) {ad : Addr} (e : A = some ad) {k : Nat} (hk : k < l.length) : w.cell? (ad.add k) = some (.int .i64 (l.getD k 0)) := by
  obtain ⟨ad', e', _, hc⟩ := h.at_ hk
  rw [e] at e'
  injection e' with e'
  rw [e']; exact hc
theorem RD.tail_ (h : RD w A c l) {k : Nat} (hk : k ≤ l.length) : RD w (if c = k then A else A.map (·.add k)) (c - k) (l.drop k) := by
  refine ⟨by have := h.1; simp; omega, ?_⟩
  have := h.2.cut (k := k) (cap := c) hk h.1
  simp only [Nat.mul_one] at this
  rw [List.length_drop]
  rw [vals, List.map_drop]
  exact this
theorem RD.front (h : RD w A c l) {k : Nat} (hk : k ≤ l.length) : RD w A c (l.take k) := by
  refine ⟨by have := h.1; simp; omega, ?_, fun h0 => ?_⟩
  · simp [vals]
  · obtain ⟨ad, e, hb, hc⟩ := h.2.2 (by simp at h0; omega)
    refine ⟨ad, e, hb, fun j u hu => hc j u ?_⟩
    rw [vals, List.getElem?_map] at hu ⊢
    rw [List.getElem?_take] at hu
    split at hu
    · exact hu
    · simp at hu
theorem RD.of_own {base : Nat} {e : TypeId} {c' : Nat} (h : w.ownsRow base e 1 (.slice A l.length c') l.length (vals l)) : RD w A c' l := by
  refine ⟨?_, Reads.of_own h⟩
  rcases h.2 with ⟨e0, _⟩ | ⟨g, cap, cur, e0, _, _, hn, _⟩
  · injection e0 with _ e1 e2; omega
  · injection e0 with _ _ e2; omega
end
/-- the same, in memory below block B -/
def RB (B : Nat) (w : World) (A : Option Addr) (c : Nat) (l : List Int) : Prop := l.length ≤ c ∧ Reads w B 1 A l.length (vals l)
section
variable {B : Nat} {w w' : World} {A : Option Addr} {c : Nat} {l : List Int}
theorem RD.rb (h : RD w A c l) : RB w.heap.size w A c l := h
theorem RB.go (h : RB B w A c l) (hb : Below B w w') : RB B w' A c l := ⟨h.1, h.2.below hb⟩
theorem RB.rd (h : RB B w A c l) (hB : B ≤ w.heap.size) : RD w A c l := ⟨h.1, h.2.more hB⟩
theorem RB.let_ (h : RB B w A c l) {k : Nat} (hk : k < l.length) : ∃ (ad : Addr) (y : Int), A = some ad ∧ ad.block < B ∧ l[k]? = some y ∧ w.cell? (ad.add k) = some (.int .i64 y) := by
  obtain ⟨ad, u, e, hb, hu, hc⟩ := h.2.at_ hk
  refine ⟨ad, l[k], e, hb, List.getElem?_eq_getElem hk, ?_⟩
  rw [hc, ← hu, vals, List.getElem?_map, List.getElem?_eq_getElem hk]
  simp
theorem RB.tail_ (h : RB B w A c l) {k : Nat} (hk : k ≤ l.length) : RB B w (if c = k then A else A.map (·.add k)) (c - k) (l.drop k) := by
  refine ⟨by have := h.1; simp; omega, ?_⟩
  have := h.2.cut (k := k) (cap := c) hk h.1
  simp only [Nat.mul_one] at this
  rw [List.length_drop]
  rw [vals, List.map_drop]
  exact this
theorem RB.front (h : RB B w A c l) {k : Nat} (hk : k ≤ l.length) : RB B w A c (l.take k) := by
  refine ⟨by have := h.1; simp; omega, ?_, fun h0 => ?_⟩
  · simp [vals]
  · obtain ⟨ad, e, hb, hc⟩ := h.2.2 (by simp at h0; omega)
    refine ⟨ad, e, hb, fun j u hu => hc j u ?_⟩
    rw [vals, List.getElem?_map] at hu ⊢
    rw [List.getElem?_take] at hu
    split at hu
    · exact hu
    · simp at hu
theorem RB.len (h : RB B w A c l) : l.length ≤ c := h.1
end
/-- a new block of one number reads as the list of it -/
theorem reads_new1 (w : World) (x : Int) (e : TypeId) : Reads (w.alloc (.cells #[.int .i64 x] e)) (w.alloc (.cells #[.int .i64 x] e)).heap.size 1 (some ⟨w.heap.size, 0, none⟩) 1 [.int .i64 x] := by
  refine ⟨rfl, fun _ => ⟨_, rfl, by simp, fun j u hu => ?_⟩⟩
  have hj : j = 0 := by
    rcases Nat.eq_zero_or_pos j with h | h
    · exact h
    · rw [List.getElem?_eq_none (by simp; omega)] at hu; cases hu
  subst hj
  simp at hu
  subst hu
  simp [Addr.add]
/-- what a function that makes a list answers: the list, in memory of its own or as it came in -/
def Gives (w : World) (l : List Int) (e : Ending) (w' : World) : Prop := ∃ A c, e = .returned (.slice A l.length c) ∧ RD w' A c l ∧ Below w.heap.size w w'
end Go.Proofs.Ytagkpkkbkeefbaa

/-
  The functions that only read: whether a number is in a list, whether a list is a set, the order of lists.
-/
namespace Go.Proofs.Ytagkpkkbkeefbaa
open Go.RowKit

theorem ret_bool {a b : Bool} (h : a = b) : Ending.returned (.bool a) = .returned (.bool b) := by rw [h]
theorem ret_int {a b : Int} (h : a = b) : Ending.returned (.int .i64 a) = .returned (.int .i64 b) := by rw [h]
/-- whether a number is in a list -/
def hasB (l : List Int) (x : Int) : Bool := l.contains x
theorem hasB_iff (l : List Int) (x : Int) : hasB l x = true ↔ x ∈ l := by simp [hasB]
theorem take_succ_at (l : List Int) (y : Int) (k : Nat) (h : l[k]? = some y) : l.take (k + 1) = l.take k ++ [y] := by
  obtain ⟨hk, rfl⟩ := List.getElem?_eq_some_iff.1 h
  exact List.take_succ_eq_append_getElem hk
theorem hasB_succ (l : List Int) (x y : Int) (k : Nat) (h : l[k]? = some y) (hn : hasB (l.take k) x = false) (hne : (y == x) = false) : hasB (l.take (k + 1)) x = false := by
  rw [take_succ_at l y k h]
  have h1 : ¬ hasB (l.take k) x = true := by rw [hn]; simp
  rw [hasB_iff] at h1
  refine Bool.eq_false_iff.2 fun h2 => ?_
  rw [hasB_iff, List.mem_append, List.mem_singleton] at h2
  rcases h2 with h2 | h2
  · exact h1 h2
  · simp [h2] at hne
theorem hasB_at (l : List Int) (x y : Int) (k : Nat) (h : l[k]? = some y) (e : (y == x) = true) : hasB l x = true := by
  obtain rfl : y = x := by simpa using e
  exact (hasB_iff _ _).2 (List.mem_of_getElem? h)
theorem hasB_zero (l : List Int) (x : Int) : hasB (l.take 0) x = false := by simp [hasB]

set_option maxHeartbeats 400000 in
theorem rhas_any (A : Option Addr) (c : Nat) (l : List Int) (x : Int) (w : World) (h : RD w A c l) (hl : l.length ≤ 65536) :
    Calls Try.prog 44 #[.slice A l.length c, .int .i64 x] w fun e w' => e = .returned (.bool (hasB l x)) ∧ w = w' := by
  go_enter Try.func44, Try.ntmps44
  go_wp2
  go_loop [9] (fun i => ∃ k : Nat, k ≤ l.length ∧ i = .int .i64 k ∧ Hid (hasB (l.take k) x = false)) (fun i => l.length - (RowKit.intOf i).toNat)
  case atStart => exact ⟨0, Nat.zero_le _, rfl, hasB_zero l x⟩
  case round =>
    obtain ⟨k, hk, rfl, HN⟩ := hrel
    by_cases hlt : k < l.length
    · obtain ⟨ad, y, rfl, hb, hy, hcell⟩ := h.let_ hlt
      have HY := Lib.hid hy
      clear hy
      by_cases he : y = x
      · have hd : (y == x) = true := by simpa using he
        have HR := Lib.hid (hasB_at l x y k HY.out hd)
        clear he
        go_wp2
        go_ret
        exact ⟨ret_bool HR.out.symm, rfl⟩
      · have hd : (y == x) = false := by simpa using he
        have HN2 := Lib.hid (hasB_succ l x y k HY.out HN.out hd)
        clear he
        go_wp2
        go_round
        case rel => exact ⟨k + 1, by omega, by go_num, HN2.out⟩
        case measure => simp [RowKit.intOf]; omega
    · have e : l.take k = l := List.take_of_length_le (by omega)
      rw [e] at HN
      clear e
      go_wp2
      go_ret
      exact ⟨ret_bool HN.out.symm, rfl⟩

theorem drop_at (l : List Int) (y : Int) (k : Nat) (h : l[k]? = some y) : l.drop k = y :: l.drop (k + 1) := by
  obtain ⟨hk, rfl⟩ := List.getElem?_eq_some_iff.1 h
  exact List.drop_eq_getElem_cons hk


/-- whether a list is a set of numbers above b and below n -/
def vl (n : Int) : Int → List Int → Bool
  | _, [] => true
  | b, x :: l => decide (b < x) && decide (x < n) && vl n x l
theorem vl_yes (n b x : Int) (l : List Int) (k : Nat) (h : l[k]? = some x) (h1 : b < x) (h2 : x < n) : vl n b (l.drop k) = vl n x (l.drop (k + 1)) := by
  rw [drop_at l x k h]; simp [vl, h1, h2]
theorem vl_no (n b x : Int) (l : List Int) (k : Nat) (h : l[k]? = some x) (h1 : x ≤ b ∨ n ≤ x) : vl n b (l.drop k) = false := by
  rw [drop_at l x k h]; unfold vl
  rcases h1 with h1 | h1
  · simp [show ¬ b < x by omega]
  · simp [show ¬ x < n by omega]
theorem vl_end (n b : Int) (l : List Int) (k : Nat) (h : l.length ≤ k) : vl n b (l.drop k) = true := by rw [List.drop_eq_nil_of_le h]; rfl
def valid (l : List Int) (n : Int) : Bool := vl n (-1) l



theorem wit_succ (a b : List Int) (y : Int) (k : Nat) (h : a[k]? = some y) : Ns.wit (a.take (k + 1)) b = (Ns.wit (a.take k) b && hasB b y) := by
  rw [take_succ_at a y k h]; simp [Ns.wit, hasB]
theorem wit_no (a b : List Int) (y : Int) (k : Nat) (h : a[k]? = some y) (hn : hasB b y = false) : Ns.wit a b = false := by
  refine Bool.eq_false_iff.2 fun h2 => ?_
  have := List.all_eq_true.1 h2 y (List.mem_of_getElem? h)
  unfold hasB at hn
  rw [hn] at this
  cases this

end Go.Proofs.Ytagkpkkbkeefbaa

/-
  The order of lists, equality, the fronts of two lists.
-/
namespace Go.Proofs.Ytagkpkkbkeefbaa
open Go.RowKit

theorem cm_step (a b : List Int) (x y : Int) (k : Nat) (h1 : a[k]? = some x) (h2 : b[k]? = some y) :
    Ns.cm (a.drop k) (b.drop k) = if x < y then -1 else if y < x then 1 else Ns.cm (a.drop (k + 1)) (b.drop (k + 1)) := by
  rw [drop_at a x k h1, drop_at b y k h2]; rfl
theorem cm_left (a b : List Int) (k : Nat) (h1 : k < a.length) (h2 : b.length ≤ k) : Ns.cm (a.drop k) (b.drop k) = 1 := by
  rw [List.drop_eq_getElem_cons h1, List.drop_eq_nil_of_le h2]; rfl
theorem cm_end (a b : List Int) (k : Nat) (h1 : a.length ≤ k) : Ns.cm (a.drop k) (b.drop k) = if k < b.length then -1 else 0 := by
  rw [List.drop_eq_nil_of_le h1]
  split
  · next h => rw [List.drop_eq_getElem_cons h]; rfl
  · next h => rw [List.drop_eq_nil_of_le (by omega)]; rfl
theorem cm_len (a b : List Int) (k : Nat) (hk : k ≤ a.length) (h1 : a.length ≤ k) (_hkb : k ≤ b.length) : Ns.cm (a.drop k) (b.drop k) = if a.length < b.length then -1 else 0 := by
  rw [cm_end a b k h1, show k = a.length by omega]

theorem compareInt_lt (x y : Int) (h : x < y) : Lib.compareInt x y = -1 := by simp [Lib.compareInt, h]
theorem compareInt_gt (x y : Int) (h : y < x) : Lib.compareInt x y = 1 := by simp [Lib.compareInt, h, show ¬ x < y by omega]
theorem compareInt_eq (x : Int) : Lib.compareInt x x = 0 := by simp [Lib.compareInt]



theorem draws2 (w : World) (a b : Nat) : ∃ m, (w.drewN a).drewN b = w.drewN m := ⟨_, World.drewN_drewN _ _ _⟩
theorem draws3 (w : World) (a b c : Nat) : ∃ m, ((w.drewN a).drewN b).drewN c = w.drewN m := ⟨_, by rw [World.drewN_drewN, World.drewN_drewN]⟩

theorem below_drewN (w : World) (n : Nat) : Below w.heap.size w (w.drewN n) := ⟨rfl, rfl, rfl, Nat.le_refl _, fun _ _ => rfl⟩
def eqB (a b : List Int) : Bool := decide (a = b)
theorem eqB_len (a b : List Int) (h : a.length ≠ b.length) : eqB a b = false := by
  simp only [eqB, decide_eq_false_iff_not]; rintro rfl; exact h rfl
theorem eqB_cm (a b : List Int) : (Ns.cm a b == 0) = eqB a b := by
  rw [Bool.eq_iff_iff]; simp [eqB, Ns.cm_zero]


/-- the first elements of two sets that are not both empty -/
def fr : List Int → List Int → Int
  | [], _ => 1
  | _, [] => -1
  | x :: _, y :: _ => Lib.compareInt x y
end Go.Proofs.Ytagkpkkbkeefbaa

/-
  Of: the numbers of any list, ascending, each once.
-/
namespace Go.Proofs.Ytagkpkkbkeefbaa
open Go.RowKit Go.Lib

theorem own_grow {w : World} {base : Nat} {e : TypeId} {size n : Nat} {v : Value} {xs : List Value} (h : w.ownsRow base e size v n xs) (os : Array Obj) : (Sort.grow w os).ownsRow base e size v n xs := by
  refine ⟨h.1, ?_⟩
  rcases h.2 with h0 | ⟨g, cap, cur, rfl, hb, hg, hr⟩
  · exact .inl h0
  · have hlt : g < w.heap.size := by
      rcases Nat.lt_or_ge g w.heap.size with h' | h'
      · exact h'
      · rw [Array.getElem?_eq_none h'] at hg; cases hg
    exact .inr ⟨g, cap, cur, rfl, hb, by show (w.heap ++ os)[g]? = _; rw [Array.getElem?_append_left hlt]; exact hg, hr⟩
theorem below_grow {B : Nat} {w0 w : World} (h : Below B w0 w) (hB : B ≤ w.heap.size) (os : Array Obj) : Below B w0 (Sort.grow w os) :=
  ⟨h.os, h.tape, h.output, by have := h.size; show _ ≤ (w.heap ++ os).size; simp; omega, fun k hk => by
    show (w.heap ++ os)[k]? = _
    rw [Array.getElem?_append_left (by omega)]
    exact h.block k hk⟩

end Go.Proofs.Ytagkpkkbkeefbaa

/-
  Merging two sets side by side; Union, Meet, Minus, Within of package nodeset.
-/
namespace Go.Proofs.Ytagkpkkbkeefbaa
open Go.RowKit Go.Lib


theorem enter_of {f : FuncId} {fn : Func} {c : Code} (hf : Try.prog.funcs[f]? = some fn) (hname : (fn.name == "runtime.NumGoroutine") = false) (hb : fn.body = some c) (args : Array Value) (w : World) :
    (callFunc f args).run Try.prog w = .ok (.enter f args) w := by
  have h1 : fn.name ≠ "runtime.NumGoroutine" := by simpa using hname
  simp [callFunc, hf, h1, hb]
theorem int_info : (Try.prog.info? 3).map (fun i => (i.zero, i.size, i.bytes)) = some (some (.int .i64 0), 1, 8) := by kernel_rfl
theorem ret_slice {A : Option Addr} {c : Nat} {a b : List Int} (h : a = b) : Ending.returned (.slice A a.length c) = .returned (.slice A b.length c) := by rw [h]
theorem mg_nn (f : Bool → Bool → Bool) : Ns.mg f [] [] = [] := by unfold Ns.mg; rfl
theorem mg_L (f : Bool → Bool → Bool) (x : Int) (a : List Int) : Ns.mg f (x :: a) [] = Ns.one (f true false) x ++ Ns.mg f a [] := by rw [Ns.mg]
theorem mg_R (f : Bool → Bool → Bool) (y : Int) (b : List Int) : Ns.mg f [] (y :: b) = Ns.one (f false true) y ++ Ns.mg f [] b := by rw [Ns.mg]
theorem mg_LT (f : Bool → Bool → Bool) (x y : Int) (a b : List Int) (h : x < y) : Ns.mg f (x :: a) (y :: b) = Ns.one (f true false) x ++ Ns.mg f a (y :: b) := by rw [Ns.mg, if_pos h]
theorem mg_GT (f : Bool → Bool → Bool) (x y : Int) (a b : List Int) (h : y < x) : Ns.mg f (x :: a) (y :: b) = Ns.one (f false true) y ++ Ns.mg f (x :: a) b := by rw [Ns.mg, if_neg (by omega), if_pos h]
theorem mg_EQ (f : Bool → Bool → Bool) (x : Int) (a b : List Int) : Ns.mg f (x :: a) (x :: b) = Ns.one (f true true) x ++ Ns.mg f a b := by rw [Ns.mg, if_neg (by omega), if_neg (by omega)]
theorem keep_yes {ks m r : List Int} {x : Int} {t : Bool} (h : ks ++ (Ns.one t x ++ m) = r) (ht : t = true) : (ks ++ [x]) ++ m = r := by subst ht; simpa [Ns.one] using h
theorem keep_no {ks m r : List Int} {x : Int} {t : Bool} (h : ks ++ (Ns.one t x ++ m) = r) (ht : t = false) : ks ++ m = r := by subst ht; simpa [Ns.one] using h
theorem fr_LT (x y : Int) (a b : List Int) (h : x < y) : fr (x :: a) (y :: b) = -1 := compareInt_lt x y h
theorem fr_GT (x y : Int) (a b : List Int) (h : y < x) : fr (x :: a) (y :: b) = 1 := compareInt_gt x y h
theorem fr_EQ (x : Int) (a b : List Int) : fr (x :: a) (x :: b) = 0 := compareInt_eq x
theorem below_grown1 {B : Nat} {w0 w1 w2 : World} {o : Obj} {v : Value} (h : Below B w0 w1) (hg : (w1.alloc o).grownBy w2 v.ownBlock) (hv : ∀ k, v.ownBlock = some k → B ≤ k) (hB : B ≤ w1.heap.size) : Below B w0 w2 :=
  (h.alloc hB o).grown hg (by simp; omega) hv
theorem wpList_push {ops : Array Oper} {rest : List Oper} {o : Oper} {a : Act} {Q : Exit → Act → World → Prop} (W : World) (hgd : o.guard = none) (s x : Operand)
    (ho : o.op = .call { callee := .builtin .append, args := #[s, x], argTypes := #[27, 27] }) (base : Nat) (A2 : Option Addr) (c2 : Nat) (ks : List Int) (z : Int)
    (hs : a.eval s = .slice A2 ks.length c2) (hown : W.ownsRow base 3 1 (.slice A2 ks.length c2) ks.length (vals ks)) (hx : a.eval x = .slice (some ⟨W.heap.size, 0, none⟩) 1 1)
    (hk : ks.length ≤ 200000) (hbase : base ≤ W.heap.size)
    (h : ∀ A3 c3 w', Hid (w'.ownsRow base 3 1 (.slice A3 (ks ++ [z]).length c3) (ks ++ [z]).length (vals (ks ++ [z]))) → Hid (Below base W w') → wpList Try.prog ops Q rest (a.put o.dst (.slice A3 (ks ++ [z]).length c3)) w') :
    wpList Try.prog ops Q (o :: rest) a (W.alloc (.cells #[.int .i64 z] 3)) := by
  obtain ⟨i0, hi0, hz0, hz1, hz2⟩ := info_parts int_info
  refine wpList_append_any _ hgd s x 27 ho base 3 i0 _ 1 8 Try.underlying27 hi0 hz0 hz1 hz2 rfl (by omega) (.slice A2 ks.length c2) ks.length (vals ks) hs (hown.alloc _)
    _ (some ⟨W.heap.size, 0, none⟩) 1 1 [.int .i64 z] hx (reads_new1 W z 3) (by simp [Value.oneCell']) (by simp only [maxLen]; omega) (by omega) (by simp; omega) ?_
  intro v3 w3 hown3 hg3 hat3
  have hbw : Below base W w3 := below_grown1 (w1 := W) (Below.refl _ _) hg3 (fun k hk => (hown.lt k hk).1) hbase
  obtain ⟨A3, c3, rfl⟩ : ∃ A3 c3, v3 = .slice A3 (ks ++ [z]).length c3 := by
    rcases hown3.2 with ⟨e0, e1⟩ | ⟨g, cap, cur, e0, _⟩
    · exact absurd e1 (by omega)
    · exact ⟨some ⟨g, 0, none⟩, cap, by rw [e0]; simp⟩
  refine h A3 c3 w3 ?_ hbw
  show w3.ownsRow base 3 1 _ _ _
  rw [vals_append]
  simpa [vals] using hown3
theorem below_undraw {B n : Nat} {w w' : World} (h : Below B (w.drewN n) w') : Below B w w' := ⟨h.os, h.tape, h.output, h.size, h.block⟩
theorem rd_any {B : Nat} {w : World} {A : Option Addr} {c : Nat} {l : List Int} (h : RB B w A c l) (hB : B ≤ w.heap.size) : RD w A c l := h.rd hB

theorem Gives.mono_ {w w' : World} {l : List Int} {e : Ending} {w2 : World} (h : Gives w' l e w2) (hb : Below w.heap.size w w') : Gives w l e w2 := by
  obtain ⟨A, c, he, h1, h2⟩ := h
  exact ⟨A, c, he, h1, hb.trans (h2.mono hb.size)⟩




theorem wit_len (a b : List Int) : ((Ns.mns a b).length : Int) = 0 ↔ Ns.wit a b = true := by
  rw [← Ns.mns_nil]
  constructor
  · intro h; exact List.eq_nil_of_length_eq_zero (by omega)
  · intro h; rw [h]; rfl
end Go.Proofs.Ytagkpkkbkeefbaa

/-
  The reference's sets: put, Of, Union.
-/
namespace Go.Proofs.Ytagkpkkbkeefbaa
open Go.RowKit Go.Lib

theorem own_form {w : World} {base : Nat} {v : Value} {l : List Int} (h : w.ownsRow base 3 1 v l.length (vals l)) : ∃ A c, v = .slice A l.length c := by
  rcases h.2 with ⟨e0, e1⟩ | ⟨g, cap, cur, e0, _⟩
  · exact ⟨none, 0, by rw [e0, e1]⟩
  · exact ⟨_, _, e0⟩
theorem wp_appl {o : Oper} {a : Act} {K : Act → World → Prop} {Q : Exit → Act → World → Prop} (W : World) (s x : Operand)
    (ho : o.op = .call { callee := .builtin .append, args := #[s, x], argTypes := #[27, 27] }) (base : Nat) (A2 : Option Addr) (c2 : Nat) (ks : List Int)
    (hs : a.eval s = .slice A2 ks.length c2) (hown : W.ownsRow base 3 1 (.slice A2 ks.length c2) ks.length (vals ks)) (A' : Option Addr) (c' m : Nat) (news : List Int) (hm : news.length = m)
    (hx : a.eval x = .slice A' m c') (hr : RD W A' c' news) (hk : ks.length + m ≤ 200000) (hbase : base ≤ W.heap.size)
    (h : ∀ A3 c3 w', Hid (w'.ownsRow base 3 1 (.slice A3 (ks ++ news).length c3) (ks ++ news).length (vals (ks ++ news))) → Hid (Below base W w') → K (a.put o.dst (.slice A3 (ks ++ news).length c3)) w') :
    o.wp Try.prog a W K Q := by
  subst hm
  obtain ⟨i0, hi0, hz0, hz1, hz2⟩ := info_parts int_info
  refine wp_append_any _ s x 27 ho base 3 i0 _ 1 8 Try.underlying27 hi0 hz0 hz1 hz2 rfl (by omega) (.slice A2 ks.length c2) ks.length (vals ks) hs hown
    _ A' news.length c' (vals news) hx hr.2 (vals_one news) (by simp only [maxLen]; omega) (by omega) hbase ?_
  intro v3 w3 hown3 hg3 hat3
  have hbw : Below base W w3 := (Below.refl _ _).grown hg3 hbase (fun k hk => (hown.lt k hk).1)
  have ho3 : w3.ownsRow base 3 1 v3 (ks ++ news).length (vals (ks ++ news)) := by rw [vals_append, List.length_append]; exact hown3
  obtain ⟨A3, c3, rfl⟩ := own_form ho3
  exact h A3 c3 w3 ho3 hbw
theorem wpList_appl {ops : Array Oper} {rest : List Oper} {o : Oper} {a : Act} {Q : Exit → Act → World → Prop} (W : World) (hgd : o.guard = none) (s x : Operand)
    (ho : o.op = .call { callee := .builtin .append, args := #[s, x], argTypes := #[27, 27] }) (base : Nat) (A2 : Option Addr) (c2 : Nat) (ks : List Int)
    (hs : a.eval s = .slice A2 ks.length c2) (hown : W.ownsRow base 3 1 (.slice A2 ks.length c2) ks.length (vals ks)) (A' : Option Addr) (c' m : Nat) (news : List Int) (hm : news.length = m)
    (hx : a.eval x = .slice A' m c') (hr : RD W A' c' news) (hk : ks.length + m ≤ 200000) (hbase : base ≤ W.heap.size)
    (h : ∀ A3 c3 w', Hid (w'.ownsRow base 3 1 (.slice A3 (ks ++ news).length c3) (ks ++ news).length (vals (ks ++ news))) → Hid (Below base W w') → wpList Try.prog ops Q rest (a.put o.dst (.slice A3 (ks ++ news).length c3)) w') :
    wpList Try.prog ops Q (o :: rest) a W :=
  wpList_plain hgd fun _ hK => wp_appl W s x ho base A2 c2 ks hs hown A' c' m news hm hx hr hk hbase fun A3 c3 w' h1 h2 => hK _ _ (h A3 c3 w' h1 h2)
theorem step_appl {ops : Array Oper} {o : Oper} {a : Act} {K : Act → World → Prop} {Q : Exit → Act → World → Prop} {E : Prop} (W : World) (hgd : o.guard = none) (s x : Operand)
    (ho : o.op = .call { callee := .builtin .append, args := #[s, x], argTypes := #[27, 27] }) (base : Nat) (A2 : Option Addr) (c2 : Nat) (ks : List Int)
    (hs : a.eval s = .slice A2 ks.length c2) (hown : W.ownsRow base 3 1 (.slice A2 ks.length c2) ks.length (vals ks)) (A' : Option Addr) (c' m : Nat) (news : List Int) (hm : news.length = m)
    (hx : a.eval x = .slice A' m c') (hr : RD W A' c' news) (hk : ks.length + m ≤ 200000) (hbase : base ≤ W.heap.size)
    (h : ∀ A3 c3 w', Hid (w'.ownsRow base 3 1 (.slice A3 (ks ++ news).length c3) (ks ++ news).length (vals (ks ++ news))) → Hid (Below base W w') → K (a.put o.dst (.slice A3 (ks ++ news).length c3)) w') :
    if Region.wanted o (yielded ops a.tmps) = true then Oper.wp Try.prog o a W K Q else E := by
  have hw : Region.wanted o (yielded ops a.tmps) = true := by simp [Region.wanted, hgd]
  rw [if_pos hw]
  exact wp_appl W s x ho base A2 c2 ks hs hown A' c' m news hm hx hr hk hbase h
theorem rd_new1 (w : World) (x : Int) : RD (w.alloc (.cells #[.int .i64 x] 3)) (some ⟨w.heap.size, 0, none⟩) 1 [x] := ⟨Nat.le_refl _, reads_new1 w x 3⟩

theorem below_via {B : Nat} {w3 w4 : World} {o : Obj} (h : Below B (w3.alloc o).drew w4) (hB : B ≤ w3.heap.size) : Below B w3 w4 :=
  have e : Below B w3 (w3.alloc o) := (Below.refl _ _).alloc hB o
  (show Below B w3 (w3.alloc o).drew from ⟨e.os, e.tape, e.output, e.size, e.block⟩).trans h
theorem RB_nil (B : Nat) (w : World) (A : Option Addr) (c : Nat) (l : List Int) (h : l.length = 0) (_hc : 0 ≤ c) : RB B w A c l := by
  obtain rfl := List.eq_nil_of_length_eq_zero h
  exact ⟨Nat.zero_le _, by simp [vals], fun h => absurd h (by simp)⟩
theorem ret_sliceN {A : Option Addr} {c n m : Nat} (h : n = m) : Ending.returned (.slice A n c) = .returned (.slice A m c) := by rw [h]
theorem ins_step (l : List Int) (x y : Int) (k : Nat) (h : l[k]? = some y) (hlt : y < x) : l.take k ++ Ns.ins (l.drop k) x = l.take (k + 1) ++ Ns.ins (l.drop (k + 1)) x := by
  rw [drop_at l y k h, take_succ_at l y k h, List.append_assoc]
  congr 1
  show (if y < x then _ else _) = _
  rw [if_pos hlt]; rfl
theorem ins_end (l : List Int) (x : Int) (k : Nat) (h : l.length ≤ k) : l.take k ++ Ns.ins (l.drop k) x = l.take k ++ [x] ++ l.drop k := by
  rw [List.drop_eq_nil_of_le h]; simp [Ns.ins]
theorem ins_same (l : List Int) (x : Int) (k : Nat) (h : l[k]? = some x) : l.take k ++ Ns.ins (l.drop k) x = l := by
  rw [drop_at l x k h]
  show _ ++ (if x < x then _ else if x = x then x :: l.drop (k + 1) else _) = _
  rw [if_neg (by omega), if_pos rfl, ← drop_at l x k h, List.take_append_drop]
theorem ins_here (l : List Int) (x y : Int) (k : Nat) (h : l[k]? = some y) (hlt : x < y) : l.take k ++ Ns.ins (l.drop k) x = l.take k ++ [x] ++ l.drop k := by
  rw [drop_at l y k h]
  show _ ++ (if y < x then _ else if y = x then _ else _) = _
  rw [if_neg (by omega), if_neg (by omega)]; simp


theorem norm_step (l : List Int) (y : Int) (k : Nat) (h : l[k]? = some y) : Ns.ins (Ns.norm (l.take k)) y = Ns.norm (l.take (k + 1)) := by
  rw [take_succ_at l y k h, Ns.norm_snoc]
theorem len_norm_take (l : List Int) (k : Nat) (hk : k ≤ l.length) : (Ns.norm (l.take k)).length ≤ k := Nat.le_trans (Ns.len_norm _) (by simp; omega)


end Go.Proofs.Ytagkpkkbkeefbaa

/-
  The reference's Meet and Minus, Range of both, and Mod.
-/
namespace Go.Proofs.Ytagkpkkbkeefbaa
open Go.RowKit Go.Lib

theorem filt_succ (p : Int → Bool) (l : List Int) (y : Int) (k : Nat) (h : l[k]? = some y) : (l.take (k + 1)).filter p = (l.take k).filter p ++ (if p y then [y] else []) := by
  rw [take_succ_at l y k h, List.filter_append]; cases hp : p y <;> simp [hp]
theorem filt_yes (p : Int → Bool) (l : List Int) (y : Int) (k : Nat) (h : l[k]? = some y) (hp : p y = true) : (l.take (k + 1)).filter p = (l.take k).filter p ++ [y] := by rw [filt_succ p l y k h, if_pos hp]
theorem filt_no (p : Int → Bool) (l : List Int) (y : Int) (k : Nat) (h : l[k]? = some y) (hp : p y = false) : (l.take (k + 1)).filter p = (l.take k).filter p := by rw [filt_succ p l y k h, if_neg (by rw [hp]; simp), List.append_nil]
theorem len_filt (p : Int → Bool) (l : List Int) (k : Nat) : ((l.take k).filter p).length ≤ k := Nat.le_trans (List.length_filter_le _ _) (by simp; omega)



/-- the numbers below k -/
def upto (k : Nat) : List Int := (List.range k).map (fun i : Nat => (i : Int))
theorem upto_succ (k : Nat) : upto (k + 1) = upto k ++ [(k : Int)] := by simp [upto, List.range_succ]
theorem len_upto (k : Nat) : (upto k).length = k := by simp [upto]
def cut64 (n : Int) : Nat := if n < 0 then 0 else if n < 64 then n.toNat else 64
theorem cut64_le (n : Int) : cut64 n ≤ 64 := by unfold cut64; split <;> (try split) <;> omega
theorem cut64_min (n : Int) (h : 0 ≤ n) : ((cut64 n : Nat) : Int) = min n 64 := by unfold cut64; rw [if_neg (by omega)]; split <;> omega


theorem mod80_any (n : Int) (w : World) (_hn : -9223372036854775808 ≤ n) (_hn' : n < 9223372036854775808) :
    Calls Try.prog 30 #[.int .i64 n, .int .i64 80] w fun e w' => (∃ r : Int, 0 ≤ r ∧ r < 80 ∧ e = .returned (.int .i64 r)) ∧ w = w' := by
  go_enter Try.func30, Try.ntmps30
  go_wp2
  go_ret
  have h1 := Int.tmod_lt_of_pos n (show (0 : Int) < 80 by omega)
  have h2 := Int.lt_tmod_of_pos n (show (0 : Int) < 80 by omega)
  have h3 : wrap64 (n.tmod 80 + 80) = n.tmod 80 + 80 := by unfold wrap64; omega
  rw [h3, Int.tmod_eq_emod_of_nonneg (by omega)]
  exact ⟨⟨_, by omega, by omega, rfl⟩, rfl⟩
end Go.Proofs.Ytagkpkkbkeefbaa

/-
  The examples of the chapter answer true.
-/
namespace Go.Proofs.Ytagkpkkbkeefbaa
open Go.RowKit Go.Lib

theorem rd_new (w : World) (l : List Int) : RD (w.alloc (.cells (vals l).toArray 3)) (some ⟨w.heap.size, 0, none⟩) l.length l := by
  refine ⟨Nat.le_refl _, by simp [vals], fun _ => ⟨_, rfl, by simp, fun j u hu => ?_⟩⟩
  have := (Go.Joins.cell_of_block (w := w.alloc (.cells (vals l).toArray 3)) (heap_alloc_new w _) j)
  rw [show ((⟨w.heap.size, 0, none⟩ : Addr).add j) = ⟨w.heap.size, j, none⟩ by unfold Addr.add; split <;> simp_all]
  rw [this]; simpa using hu
theorem below_new (w : World) (o : Obj) : Below w.heap.size w (w.alloc o) := (Below.refl _ _).alloc (Nat.le_refl _) o

end Go.Proofs.Ytagkpkkbkeefbaa
