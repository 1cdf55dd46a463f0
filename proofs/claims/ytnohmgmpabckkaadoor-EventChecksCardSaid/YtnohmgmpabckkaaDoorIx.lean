/-
  An act that differs from another in some slots alone, written as puts into that other one.
-/
import Derived.Test.YtnohmgmpabckkaaDoorIw
import Derived.Lib.Hide
namespace Go.Proofs.YtnohmgmpabckkaaDoor
open Go.RowKit Go.Lib

theorem put_size (b : Act) (d : Nat) (v : Value) : (b.put (some d) v).tmps.size = b.tmps.size := by simp [Act.put]
theorem put_at (b : Act) (d k : Nat) (v : Value) (hk : k < b.tmps.size) : ((b.put (some d) v).tmps[k]?).getD undef = if d = k then v else (b.tmps[k]?).getD undef := by
  by_cases h : d = k
  · subst h; simp [Act.put, hk]
  · simp [Act.put, h]
theorem puts_at (f : Nat → Value) (k : Nat) : ∀ (ds : List Nat) (b : Act), k < b.tmps.size → (((ds.foldl (fun b d => b.put (some d) (f d)) b).tmps)[k]?).getD undef = if k ∈ ds then f k else (b.tmps[k]?).getD undef
  | [], b, _ => by simp
  | d :: ds, b, hk => by
    rw [List.foldl_cons, puts_at f k ds _ (by rw [put_size]; exact hk), put_at b d k _ hk]
    by_cases h1 : k ∈ ds
    · simp [h1]
    · by_cases h2 : d = k
      · subst h2; simp
      · have h3 : ¬ k = d := fun e => h2 e.symm
        simp [h1, h2, h3]
theorem puts_size (f : Nat → Value) : ∀ (ds : List Nat) (b : Act), (ds.foldl (fun b d => b.put (some d) (f d)) b).tmps.size = b.tmps.size
  | [], _ => rfl
  | d :: ds, b => by rw [List.foldl_cons, puts_size f ds, put_size]
theorem puts_defers (f : Nat → Value) : ∀ (ds : List Nat) (b : Act), (ds.foldl (fun b d => b.put (some d) (f d)) b).defers = b.defers
  | [], _ => rfl
  | d :: ds, b => by rw [List.foldl_cons, puts_defers f ds]; rfl
theorem act_puts {a a0 : Act} {l : List Oper} {n : Nat} (hsz : a.tmps.size = a0.tmps.size) (hdf : a.defers = a0.defers)
    (h : ∀ k, (∀ j oj, j < n → l.toArray[j]? = some oj → oj.dst ≠ some k) → a.eval (.tmp k) = a0.eval (.tmp k)) (ds : List Nat) (hds : (l.take n).filterMap (fun o => o.dst) = ds) :
    a = ds.foldl (fun b d => b.put (some d) (a.eval (.tmp d))) a0 := by
  have hs := puts_size (fun d => a.eval (.tmp d)) ds a0
  have hd := puts_defers (fun d => a.eval (.tmp d)) ds a0
  have key : ∀ k, k < a.tmps.size → (a.tmps[k]?).getD undef = (((ds.foldl (fun b d => b.put (some d) (a.eval (.tmp d))) a0).tmps)[k]?).getD undef := by
    intro k hk
    rw [puts_at (fun d => a.eval (.tmp d)) k ds a0 (by omega)]
    by_cases hm : k ∈ ds
    · rw [if_pos hm]; simp [Act.eval]
    · rw [if_neg hm]
      have := h k (fun j oj hj ho e => hm (by
        rw [← hds, List.mem_filterMap]
        exact ⟨oj, List.mem_of_getElem? (i := j) (by rw [List.getElem?_take_of_lt hj]; simpa using ho), e⟩))
      simpa [Act.eval] using this
  generalize ds.foldl (fun b d => b.put (some d) (a.eval (.tmp d))) a0 = B at hs hd key
  obtain ⟨T, D⟩ := a
  obtain ⟨T', D'⟩ := B
  simp only at hs hd key hsz hdf
  obtain rfl : T = T' := by
    apply Array.ext
    · omega
    · intro i h1 h2
      have := key i h1
      simpa [h1, h2] using this
  rw [hdf, ← hd]
theorem act_block {a a0 : Act} {l : List Oper} {n : Nat} (lo m : Nat) (hsz : a.tmps.size = a0.tmps.size) (hdf : a.defers = a0.defers)
    (h : ∀ k, (∀ j oj, j < n → l.toArray[j]? = some oj → oj.dst ≠ some k) → a.eval (.tmp k) = a0.eval (.tmp k)) (ds : List Nat) (hds : (l.take n).filterMap (fun o => o.dst) = ds) (hr : ds = List.range' lo m) (hlm : lo + m ≤ a0.tmps.size) :
    a = ⟨(a0.tmps.toList.take lo ++ (ds.map (fun d => a.eval (.tmp d)) ++ a0.tmps.toList.drop (lo + m))).toArray, a0.defers⟩ := by
  have key : ∀ k, k < a.tmps.size → k ∉ ds → (a.tmps[k]?).getD undef = (a0.tmps[k]?).getD undef := by
    intro k hk hm
    have := h k (fun j oj hj ho e => hm (by
      rw [← hds, List.mem_filterMap]
      exact ⟨oj, List.mem_of_getElem? (i := j) (by rw [List.getElem?_take_of_lt hj]; simpa using ho), e⟩))
    simpa [Act.eval] using this
  obtain ⟨T, D⟩ := a
  obtain ⟨T0, D0⟩ := a0
  simp only at hsz hdf key hlm
  subst hdf
  have e : T = (T0.toList.take lo ++ (ds.map (fun d => Act.eval ⟨T, D⟩ (.tmp d)) ++ T0.toList.drop (lo + m))).toArray := by
    apply Array.ext
    · simp [hr]; omega
    · intro i h1 h2
      have hi0 : i < T0.size := by omega
      by_cases c1 : i < lo
      · have := key i h1 (by rw [hr, List.mem_range'_1]; omega)
        simp [h1, hi0] at this
        simp [c1, this, Nat.min_eq_left (show lo ≤ T0.size by omega)]
      · by_cases c2 : i < lo + m
        · have e2 : lo + (i - lo) = i := by omega
          simp [List.getElem_append, Nat.min_eq_left (show lo ≤ T0.size by omega), c1, hr, show i - lo < m by omega, Act.eval, e2, h1]
        · have := key i h1 (by rw [hr, List.mem_range'_1]; omega)
          simp [h1, hi0] at this
          have e3 : lo + m + (i - lo - m) = i := by omega
          simp [List.getElem_append, Nat.min_eq_left (show lo ≤ T0.size by omega), c1, hr, show ¬ i - lo < m by omega, this, e3]
  rw [← e]
end Go.Proofs.YtnohmgmpabckkaaDoor
