/-
  As wp_region_at, but that the word which goes along may speak of the slots, too: of the memory that a slot points to.
-/
import Derived.Test.YtnohmgmpabckkaaDoorIv
import Derived.Deep.Draws
namespace Go.Proofs.YtnohmgmpabckkaaDoor
open Go.RowKit
variable {P : Program} {ops : Array Oper}

def StepAc (P : Program) (ops : Array Oper) (n : Nat) (Le : World → World → Prop) (J : (Nat → Bool) → Act → World → Prop) (W0 : World) (a0 : Act) (S : Nat → Fact) (i : Nat) (o : Oper) : Prop :=
  ∀ (a : Act) (w : World) (f : Nat → Bool), Le W0 w → J f a w → f i = false → (∀ j oj, ops[j]? = some oj → waits oj i = true → f j = false) → (∀ j oj, ops[j]? = some oj → waits o j = true → f j = true) →
    (∀ k, (∀ j oj, j < n → ops[j]? = some oj → oj.dst ≠ some k) → a.eval (.tmp k) = a0.eval (.tmp k)) →
    (∀ j oj d, ops[j]? = some oj → waits o j = true → oj.dst = some d → S j (a.eval (.tmp d)) w) →
    ∀ (K : Act → World → Prop) (Q : Exit → Act → World → Prop), (∀ v w', Le w w' → J (fun k => if k = i then true else f k) (a.put o.dst v) w' → S i v w' → K (a.put o.dst v) w') →
      if Region.wanted o (yielded ops a.tmps) then o.wp P a w K Q else K (a.put o.dst undef) w

structure RAc (ops : Array Oper) (n : Nat) (Le : World → World → Prop) (J : (Nat → Bool) → Act → World → Prop) (W0 : World) (a0 : Act) (S : Nat → Fact) (listed : Array Bool) (a : Act) (w : World) : Prop where
  hi : HeadInv .any ops n listed
  le : Le W0 w
  jj : J (fun k => listed.getD k false) a w
  siz : a.tmps.size = a0.tmps.size
  dfr : a.defers = a0.defers
  agr : ∀ k, (∀ j oj, j < n → ops[j]? = some oj → oj.dst ≠ some k) → a.eval (.tmp k) = a0.eval (.tmp k)
  fac : ∀ j oj d, ops[j]? = some oj → listed.getD j false = true → oj.dst = some d → S j (a.eval (.tmp d)) w

theorem wpAny_ac {n N : Nat} {Le : World → World → Prop} {J : (Nat → Bool) → Act → World → Prop} {W0 : World} {a0 : Act} {S : Nat → Fact} {Q : Exit → Act → World → Prop} {rest : List Oper} (htr : ∀ a b c, Le a b → Le b c → Le a c) (hB : ivB ops n N = true) (hN : a0.tmps.size = N) (hrest : ∀ j, rest[j]? = ops[n + j]?) (hrl : rest.length = ops.size - n)
    (hmono : ∀ i v w w', i < n → S i v w → Le w w' → S i v w') (hstep : ∀ i o, i < n → ops[i]? = some o → StepAc P ops n Le J W0 a0 S i o)
    (hend : ∀ a w f, Le W0 w → J f a w → (∀ k, k < n → f k = true) → (∀ k, n ≤ k → f k = false) → a.tmps.size = a0.tmps.size → a.defers = a0.defers → (∀ k, (∀ j oj, j < n → ops[j]? = some oj → oj.dst ≠ some k) → a.eval (.tmp k) = a0.eval (.tmp k)) → (∀ j oj d, j < n → ops[j]? = some oj → oj.dst = some d → S j (a.eval (.tmp d)) w) → wpList P ops Q rest a w) :
    ∀ (f : Nat) (listed : Array Bool) (a : Act) (w : World), unl n listed = f → RAc ops n Le J W0 a0 S listed a w → wpAny P .any ops Q (f + rest.length) listed a w := by
  simp only [ivB, Bool.and_eq_true, Bool.or_eq_true, decide_eq_true_eq] at hB
  obtain ⟨⟨⟨⟨hn, hsc⟩, hord⟩, hdst⟩, hseq⟩ := hB
  intro f
  induction f with
  | zero =>
    intro listed a w hu inv
    have hall := unl_zero hu
    have hL : listed = headL n ops.size := by
      apply Array.ext
      · rw [inv.hi.size]; simp [headL]
      · intro i h1 h2
        have h1' : i < ops.size := by rw [← inv.hi.size]; exact h1
        by_cases hi : i < n
        · have := hall i hi
          simp [h1] at this
          simp [headL, hi, this]
        · have := inv.hi.tail i (by omega) h1'
          simp [h1] at this
          simp [headL, hi, this]
    rw [Nat.zero_add]
    refine wpAny_of_seq rest n listed a w hrest (by rw [hrl, hL]; exact hseq) ?_
    refine hend a w _ inv.le inv.jj hall (fun k hk => ?_) inv.siz inv.dfr inv.agr fun j oj d hj ho hd => inv.fac j oj d ho (hall j hj) hd
    rcases Nat.lt_or_ge k ops.size with h | h
    · exact getD_both (inv.hi.tail k hk h)
    · have : listed.size ≤ k := by rw [inv.hi.size]; exact h
      simp [this]
  | succ f ih =>
    intro listed a w hu inv
    rw [show f + 1 + rest.length = (f + rest.length) + 1 by omega]
    obtain ⟨m, hm, hmu, hmin⟩ := least_un (unl_pos (n := n) (listed := listed) (by omega))
    have hms : m < listed.size := by rw [inv.hi.size]; omega
    have hmr : m ∈ Region.ready .any ops listed := by
      have h1 := List.all_eq_true.1 hord m (List.mem_range.2 hm)
      refine mem_ready.2 ⟨getD_in hms hmu, ?_⟩
      have hmo : m < ops.size := by omega
      refine ⟨ops[m], Array.getElem?_eq_getElem hmo, fun e he hb => ?_⟩
      rw [Array.getElem?_eq_getElem hmo] at h1
      have h2 := Array.all_eq_true'.1 h1 e he
      rw [hb] at h2
      simp at h2
      exact hmin _ h2
    refine ⟨fun h0 => absurd h0 (List.ne_nil_of_mem hmr), fun i hi => ?_⟩
    have hin : i < n := by
      rcases hsc with h | h
      · obtain ⟨_, o, ho, _⟩ := mem_ready.1 hi
        have := (Array.getElem?_eq_some_iff.1 ho).1
        omega
      · refine Nat.lt_of_not_le fun hle => ?_
        have hn' : n < ops.size := by
          obtain ⟨_, o, ho, _⟩ := mem_ready.1 hi
          have := (Array.getElem?_eq_some_iff.1 ho).1
          omega
        exact tail_waits h.1 h.2 hn' inv.hi _ m rfl hm (getD_in hms hmu) i hle hi
    obtain ⟨hun, o, ho, hall⟩ := mem_ready.1 hi
    have his : i < listed.size := by rw [inv.hi.size]; exact (Array.getElem?_eq_some_iff.1 ho).1
    have hst := hstep i o hin ho a w (fun k => listed.getD k false) inv.le inv.jj (getD_both hun) (fun j oj hj hw => by
      obtain ⟨e, he, hb⟩ := Array.any_eq_true'.1 hw
      simp only [Bool.and_eq_true, beq_iff_eq] at hb
      cases hq : listed.getD j false with
      | false => rfl
      | true =>
        have h1 := inv.hi.closed j oj hj hq e he hb.1
        rw [hb.2, getD_both hun] at h1
        cases h1) (fun j oj _ hw => by
      obtain ⟨e, he, hb⟩ := Array.any_eq_true'.1 hw
      simp only [Bool.and_eq_true, beq_iff_eq] at hb
      have h1 := hall e he hb.1
      rwa [hb.2] at h1) inv.agr (fun j oj d hj hw hd => by
      obtain ⟨e, he, hb⟩ := Array.any_eq_true'.1 hw
      simp only [Bool.and_eq_true, beq_iff_eq] at hb
      have h1 := hall e he hb.1
      rw [hb.2] at h1
      exact inv.fac j oj d hj h1 hd) (wpAny P .any ops Q (f + rest.length) (listed.setIfInBounds i true)) Q ?_
    · unfold wpOp
      rw [ho]
      simp only
      by_cases hw : Region.wanted o (yielded ops a.tmps) = true
      · rw [if_pos hw] at hst ⊢; exact .inl hst
      · rw [if_neg hw] at hst ⊢; exact hst
    · intro v w' hb hJ hS
      have hcnt := unl_set (n := n) hin his (getD_both hun)
      have hJ' : J (fun k => (listed.setIfInBounds i true).getD k false) (a.put o.dst v) w' := by
        have : (fun k => (listed.setIfInBounds i true).getD k false) = (fun k => if k = i then true else listed.getD k false) := by
          funext k
          by_cases h : k = i
          · subst h; simp [his]
          · rw [if_neg h, getD_set_ne false (fun h' => h h'.symm)]
        rw [this]; exact hJ
      refine ih _ _ _ (by omega) ⟨inv.hi.set hi hin, htr _ _ _ inv.le hb, hJ', (size_put _ _ _).trans inv.siz, (defers_put _ _ _).trans inv.dfr, fun k hk => ?_, fun j oj d hj hl hd => ?_⟩
      · have hne := hk i o hin ho
        rw [← inv.agr k hk]
        cases hd : o.dst with
        | none => rfl
        | some d => rw [hd] at hne; exact eval_put_other fun h => hne (by rw [h])
      · by_cases hij : i = j
        · subst hij
          have : oj = o := Option.some.inj (hj.symm.trans ho)
          subst this
          rw [hd]
          have h1 := List.all_eq_true.1 hdst i (List.mem_range.2 hin)
          rw [hj] at h1
          simp only [Option.bind_some, hd, Bool.and_eq_true, decide_eq_true_eq] at h1
          rw [eval_put_same (by rw [inv.siz, hN]; exact h1.1)]
          exact hS
        · rw [getD_set_ne false hij] at hl
          have hjn : j < n := by
            refine Nat.lt_of_not_le fun hle => ?_
            have h2 := inv.hi.tail j hle (Array.getElem?_eq_some_iff.1 hj).1
            rw [getD_both h2] at hl; cases hl
          have h0 := hmono j _ w w' hjn (inv.fac j oj d hj hl hd) hb
          have hne : o.dst ≠ some d := by
            have h1 := List.all_eq_true.1 hdst j (List.mem_range.2 hjn)
            rw [hj] at h1
            simp only [Option.bind_some, hd, Bool.and_eq_true, decide_eq_true_eq] at h1
            have h2 := List.all_eq_true.1 h1.2 i (List.mem_range.2 hin)
            simp only [Bool.or_eq_true, decide_eq_true_eq, ho, Option.bind_some] at h2
            rcases h2 with h2 | h2
            · exact absurd h2.symm hij
            · exact h2
          cases ho' : o.dst with
          | none => exact h0
          | some d' => rw [eval_put_other fun h => hne (by rw [ho', h])]; exact h0

def StepsAc (P : Program) (ops : Array Oper) (n : Nat) (Le : World → World → Prop) (J : (Nat → Bool) → Act → World → Prop) (W0 : World) (a0 : Act) (S : Nat → Fact) : Nat → List Oper → Prop
  | _, [] => True
  | i, o :: l => StepAc P ops n Le J W0 a0 S i o ∧ StepsAc P ops n Le J W0 a0 S (i + 1) l
theorem stepsAc_at {n : Nat} {Le : World → World → Prop} {J : (Nat → Bool) → Act → World → Prop} {W0 : World} {a0 : Act} {S : Nat → Fact} : ∀ (l : List Oper) (k : Nat), StepsAc P ops n Le J W0 a0 S k l → ∀ i o, l[i]? = some o → StepAc P ops n Le J W0 a0 S (k + i) o
  | [], _, _, i, o, h => by simp at h
  | x :: l, k, h, i, o, hi => by
    cases i with
    | zero => simp at hi; subst hi; exact h.1
    | succ i => have := stepsAc_at l (k + 1) h.2 i o (by simpa using hi); rwa [show k + 1 + i = k + (i + 1) by omega] at this

theorem wp_region_ac {id : Nat} {Q : Exit → Act → World → Prop} {a0 : Act} {w0 : World} {l : List Oper} (n N : Nat) (Le : World → World → Prop) (J : (Nat → Bool) → Act → World → Prop) (Ss : List Fact) (hm : P.follows .mixedOrders = true) (hB : ivB l.toArray n N = true) (hN : a0.tmps.size = N)
    (htr : ∀ a b c, Le a b → Le b c → Le a c) (hdr : Le w0 (w0.drewN 1)) (hJ : J (fun _ => false) a0 (w0.drewN 1))
    (hmono : ∀ R ∈ Ss, ∀ v w w', R v w → Le w w' → R v w')
    (hstep : StepsAc P l.toArray n Le J w0 a0 (fun i => Ss.getD i (fun _ _ => True)) 0 (l.take n))
    (hend : ∀ a w f, Le w0 w → J f a w → (∀ k, k < n → f k = true) → (∀ k, n ≤ k → f k = false) → a.tmps.size = a0.tmps.size → a.defers = a0.defers → (∀ k, (∀ j oj, j < n → l.toArray[j]? = some oj → oj.dst ≠ some k) → a.eval (.tmp k) = a0.eval (.tmp k)) → (∀ j oj d, j < n → l.toArray[j]? = some oj → oj.dst = some d → (Ss.getD j (fun _ _ => True)) (a.eval (.tmp d)) w) → wpList P l.toArray Q (l.drop n) a w) :
    (Code.region id l.toArray true).wp P Q a0 w0 := by
  refine wp_region_any hm ?_
  have hB' := hB
  simp only [ivB, Bool.and_eq_true, decide_eq_true_eq] at hB'
  have hn : n ≤ l.length := by simpa using hB'.1.1.1.1
  have h0 : unl n (Array.replicate l.toArray.size false) = n := by
    unfold unl
    rw [List.countP_eq_length.2]
    · simp
    · intro i _; rw [getD_replicate_false]; rfl
  have hJ0 : J (fun k => (Array.replicate l.toArray.size false).getD k false) a0 (w0.drewN 1) := by
    have : (fun k => (Array.replicate l.toArray.size false).getD k false) = fun _ => false := by funext k; exact getD_replicate_false _ _
    rw [this]; exact hJ
  have key := wpAny_ac (P := P) (ops := l.toArray) (n := n) (N := N) (Le := Le) (J := J) (W0 := w0) (a0 := a0) (S := fun i => Ss.getD i (fun _ _ => True)) (Q := Q) (rest := l.drop n) htr hB hN (fun j => by simp) (by simp)
    (fun i v w w' _ h hb => by
      show (Ss.getD i (fun _ _ => True)) v w'
      have h' : (Ss.getD i (fun _ _ => True)) v w := h
      rw [List.getD_eq_getElem?_getD] at h' ⊢
      cases hq : Ss[i]? with
      | none => simp
      | some R => rw [hq] at h'; exact hmono R (List.mem_of_getElem? hq) v w w' h' hb)
    (fun i o hi ho => by have := stepsAc_at (l.take n) 0 hstep i o (by rw [List.getElem?_take_of_lt hi]; simpa using ho); rwa [Nat.zero_add] at this)
    hend n (Array.replicate l.toArray.size false) a0 (w0.drewN 1) h0
    ⟨⟨by simp, fun j oj _ hl => (by rw [getD_replicate_false] at hl; cases hl), fun t _ ht => getD_in (by simpa using ht) (getD_replicate_false _ _)⟩, hdr, hJ0, rfl, rfl, fun _ _ => rfl, fun j oj d _ hl => (by rw [getD_replicate_false] at hl; cases hl)⟩
  have e : n + (l.drop n).length = l.toArray.size := by simp; omega
  rw [e] at key
  exact key
end Go.Proofs.YtnohmgmpabckkaaDoor
