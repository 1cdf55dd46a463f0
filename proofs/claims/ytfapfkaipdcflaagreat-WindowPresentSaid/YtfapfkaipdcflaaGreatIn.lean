/-
  Joined texts: regions that draw their order.
-/
import Derived.StillTail
import Derived.Below
import Derived.Deep.Draws
import Derived.Lib.Hide
/-
  A region that draws its order, whose first n operations only make new memory and leave all old memory as it is: what holds of an operation's value (a predicate that new memory does not spoil) is shown once, from what holds of the values that it waits for; whatever order is drawn, all of it holds behind them; then the rest as it stands.
-/
namespace Go.Proofs.YtfapfkaipdcflaaGreat
open Go.RowKit
variable {P : Program} {ops : Array Oper}

def waits (o : Oper) (j : Nat) : Bool := o.after.any fun e => Region.binds .any e && e.on == j
def ordB (ops : Array Oper) (n : Nat) : Bool := (List.range n).all fun i => match ops[i]? with | some o => o.after.all fun e => !Region.binds .any e || decide (e.on < i) | none => false
def headL (n m : Nat) : Array Bool := ((List.range m).map fun i => decide (i < n)).toArray
def dstB (ops : Array Oper) (n N : Nat) : Bool := (List.range n).all fun i => match (ops[i]?).bind (·.dst) with | some d => decide (d < N) && (List.range n).all fun j => decide (i = j) || decide ((ops[j]?).bind (·.dst) ≠ some d) | none => true
/-- the Bool over a region that is written out; N: how many slots the frame has -/
def ivB (ops : Array Oper) (n N : Nat) : Bool := decide (n ≤ ops.size) && (decide (n = ops.size) || (Region.sinkB .any ops n && Region.chainB .any ops n)) && ordB ops n && dstB ops n N && Region.seqB .any ops (ops.size - n) n (headL n ops.size)

abbrev Fact := Value → World → Prop
/-- one operation, from what holds of the values that it waits for -/
def StepOK (P : Program) (ops : Array Oper) (n : Nat) (W0 : World) (a0 : Act) (S : Nat → Fact) (i : Nat) (o : Oper) : Prop :=
  ∀ (a : Act) (w : World), Below W0.heap.size W0 w → (∀ k, (∀ j oj, j < n → ops[j]? = some oj → oj.dst ≠ some k) → a.eval (.tmp k) = a0.eval (.tmp k)) →
    (∀ j oj d, ops[j]? = some oj → waits o j = true → oj.dst = some d → S j (a.eval (.tmp d)) w) →
    ∀ (K : Act → World → Prop) (Q : Exit → Act → World → Prop), (∀ v w', Below w.heap.size w w' → S i v w' → K (a.put o.dst v) w') →
      if Region.wanted o (yielded ops a.tmps) then o.wp P a w K Q else K (a.put o.dst undef) w

structure RInv (ops : Array Oper) (n : Nat) (W0 : World) (a0 : Act) (S : Nat → Fact) (listed : Array Bool) (a : Act) (w : World) : Prop where
  hi : HeadInv .any ops n listed
  bel : Below W0.heap.size W0 w
  siz : a.tmps.size = a0.tmps.size
  dfr : a.defers = a0.defers
  agr : ∀ k, (∀ j oj, j < n → ops[j]? = some oj → oj.dst ≠ some k) → a.eval (.tmp k) = a0.eval (.tmp k)
  fac : ∀ j oj d, ops[j]? = some oj → listed.getD j false = true → oj.dst = some d → S j (a.eval (.tmp d)) w

theorem eval_put_same {a : Act} {d : Nat} {v : Value} (h : d < a.tmps.size) : (a.put (some d) v).eval (.tmp d) = v := by
  simp [Act.put, Act.eval, h]
theorem eval_put_other {a : Act} {d k : Nat} {v : Value} (h : d ≠ k) : (a.put (some d) v).eval (.tmp k) = a.eval (.tmp k) := by
  simp [Act.put, Act.eval, h]
theorem size_put (a : Act) (d : Option Nat) (v : Value) : (a.put d v).tmps.size = a.tmps.size := by
  cases d <;> simp [Act.put]

theorem defers_put (a : Act) (d : Option Nat) (v : Value) : (a.put d v).defers = a.defers := by
  cases d <;> simp [Act.put]

def unl (n : Nat) (listed : Array Bool) : Nat := (List.range n).countP fun i => !listed.getD i false
theorem unl_set {n i : Nat} {listed : Array Bool} (hi : i < n) (hs : i < listed.size) (hu : listed.getD i false = false) : unl n (listed.setIfInBounds i true) + 1 = unl n listed := by
  unfold unl
  induction n with
  | zero => omega
  | succ n ih =>
    rw [List.range_succ, List.countP_append, List.countP_append]
    by_cases h : i = n
    · subst h
      have e1 : (List.range i).countP (fun k => !(listed.setIfInBounds i true).getD k false) = (List.range i).countP (fun k => !listed.getD k false) :=
        List.countP_congr fun k hk => by rw [getD_set_ne false (by have := List.mem_range.1 hk; omega)]
      rw [e1]
      have e2 : (listed.setIfInBounds i true).getD i false = true := by simp [hs]
      simp only [List.countP_cons, List.countP_nil, e2, hu]
      simp
    · have := ih (by omega)
      have e2 : (listed.setIfInBounds i true).getD n false = listed.getD n false := getD_set_ne false h
      simp only [List.countP_cons, List.countP_nil, e2]
      omega
theorem unl_zero {n : Nat} {listed : Array Bool} (h : unl n listed = 0) : ∀ i, i < n → listed.getD i false = true := by
  unfold unl at h
  rw [List.countP_eq_zero] at h
  intro i hi
  have := h i (List.mem_range.2 hi)
  simpa using this
theorem unl_pos {n : Nat} {listed : Array Bool} (h : 0 < unl n listed) : ∃ i, i < n ∧ listed.getD i false = false := by
  unfold unl at h
  rw [List.countP_pos_iff] at h
  obtain ⟨i, hi, h2⟩ := h
  exact ⟨i, List.mem_range.1 hi, by simpa using h2⟩
theorem least_un {n : Nat} {listed : Array Bool} (h : ∃ i, i < n ∧ listed.getD i false = false) : ∃ i, i < n ∧ listed.getD i false = false ∧ ∀ j, j < i → listed.getD j false = true := by
  obtain ⟨i, hi, hu⟩ := h
  induction i using Nat.strongRecOn with
  | _ i ih =>
    by_cases h : ∃ j, j < i ∧ listed.getD j false = false
    · obtain ⟨j, hj, hu'⟩ := h
      exact ih j hj (by omega) hu'
    · refine ⟨i, hi, hu, fun j hj => ?_⟩
      cases hq : listed.getD j false with
      | true => rfl
      | false => exact absurd ⟨j, hj, hq⟩ h

theorem wpAny_inv {n N : Nat} {W0 : World} {a0 : Act} {S : Nat → Fact} {Q : Exit → Act → World → Prop} {rest : List Oper} (hB : ivB ops n N = true) (hN : a0.tmps.size = N) (hrest : ∀ j, rest[j]? = ops[n + j]?) (hrl : rest.length = ops.size - n)
    (hmono : ∀ i v w w', i < n → S i v w → Below w.heap.size w w' → S i v w') (hstep : ∀ i o, i < n → ops[i]? = some o → StepOK P ops n W0 a0 S i o)
    (hend : ∀ a w, Below W0.heap.size W0 w → a.tmps.size = a0.tmps.size → a.defers = a0.defers → (∀ k, (∀ j oj, j < n → ops[j]? = some oj → oj.dst ≠ some k) → a.eval (.tmp k) = a0.eval (.tmp k)) → (∀ j oj d, j < n → ops[j]? = some oj → oj.dst = some d → S j (a.eval (.tmp d)) w) → wpList P ops Q rest a w) :
    ∀ (f : Nat) (listed : Array Bool) (a : Act) (w : World), unl n listed = f → RInv ops n W0 a0 S listed a w → wpAny P .any ops Q (f + rest.length) listed a w := by
  simp only [ivB, Bool.and_eq_true, Bool.or_eq_true, decide_eq_true_eq] at hB
  obtain ⟨⟨⟨⟨hn, hsc⟩, hord⟩, hdst⟩, hseq⟩ := hB
  intro f
  induction f with
  | zero =>
    intro listed a w hu inv
    have hall := unl_zero hu
    have hL : listed = headL n ops.size := by
      apply Array.ext
      · rw [inv.hi.size]; simp [headL]
      · intro i h1 h2
        have h1' : i < ops.size := by rw [← inv.hi.size]; exact h1
        by_cases hi : i < n
        · have := hall i hi
          simp [h1] at this
          simp [headL, hi, this]
        · have := inv.hi.tail i (by omega) h1'
          simp [h1] at this
          simp [headL, hi, this]
    rw [Nat.zero_add]
    refine wpAny_of_seq rest n listed a w hrest (by rw [hrl, hL]; exact hseq) ?_
    exact hend a w inv.bel inv.siz inv.dfr inv.agr fun j oj d hj ho hd => inv.fac j oj d ho (hall j hj) hd
  | succ f ih =>
    intro listed a w hu inv
    rw [show f + 1 + rest.length = (f + rest.length) + 1 by omega]
    obtain ⟨m, hm, hmu, hmin⟩ := least_un (unl_pos (n := n) (listed := listed) (by omega))
    have hms : m < listed.size := by rw [inv.hi.size]; omega
    have hmr : m ∈ Region.ready .any ops listed := by
      have h1 := List.all_eq_true.1 hord m (List.mem_range.2 hm)
      refine mem_ready.2 ⟨getD_in hms hmu, ?_⟩
      have hmo : m < ops.size := by omega
      refine ⟨ops[m], Array.getElem?_eq_getElem hmo, fun e he hb => ?_⟩
      rw [Array.getElem?_eq_getElem hmo] at h1
      have h2 := Array.all_eq_true'.1 h1 e he
      rw [hb] at h2
      simp at h2
      exact hmin _ h2
    refine ⟨fun h0 => absurd h0 (List.ne_nil_of_mem hmr), fun i hi => ?_⟩
    have hin : i < n := by
      rcases hsc with h | h
      · obtain ⟨_, o, ho, _⟩ := mem_ready.1 hi
        have := (Array.getElem?_eq_some_iff.1 ho).1
        omega
      · refine Nat.lt_of_not_le fun hle => ?_
        have hn' : n < ops.size := by
          obtain ⟨_, o, ho, _⟩ := mem_ready.1 hi
          have := (Array.getElem?_eq_some_iff.1 ho).1
          omega
        exact tail_waits h.1 h.2 hn' inv.hi _ m rfl hm (getD_in hms hmu) i hle hi
    obtain ⟨hun, o, ho, hall⟩ := mem_ready.1 hi
    have his : i < listed.size := by rw [inv.hi.size]; exact (Array.getElem?_eq_some_iff.1 ho).1
    have hst := hstep i o hin ho a w inv.bel inv.agr (fun j oj d hj hw hd => by
      obtain ⟨e, he, hb⟩ := Array.any_eq_true'.1 hw
      simp only [Bool.and_eq_true, beq_iff_eq] at hb
      have h1 := hall e he hb.1
      rw [hb.2] at h1
      exact inv.fac j oj d hj h1 hd) (wpAny P .any ops Q (f + rest.length) (listed.setIfInBounds i true)) Q ?_
    · unfold wpOp
      rw [ho]
      simp only
      by_cases hw : Region.wanted o (yielded ops a.tmps) = true
      · rw [if_pos hw] at hst ⊢; exact .inl hst
      · rw [if_neg hw] at hst ⊢; exact hst
    · intro v w' hb hS
      have hcnt := unl_set (n := n) hin his (getD_both hun)
      refine ih _ _ _ (by omega) ⟨inv.hi.set hi hin, inv.bel.trans (hb.mono inv.bel.size), (size_put _ _ _).trans inv.siz, (defers_put _ _ _).trans inv.dfr, fun k hk => ?_, fun j oj d hj hl hd => ?_⟩
      · have hne := hk i o hin ho
        rw [← inv.agr k hk]
        cases hd : o.dst with
        | none => rfl
        | some d => rw [hd] at hne; exact eval_put_other fun h => hne (by rw [h])
      · by_cases hij : i = j
        · subst hij
          have : oj = o := Option.some.inj (hj.symm.trans ho)
          subst this
          rw [hd]
          have h1 := List.all_eq_true.1 hdst i (List.mem_range.2 hin)
          rw [hj] at h1
          simp only [Option.bind_some, hd, Bool.and_eq_true, decide_eq_true_eq] at h1
          rw [eval_put_same (by rw [inv.siz, hN]; exact h1.1)]
          exact hS
        · rw [getD_set_ne false hij] at hl
          have hjn : j < n := by
            refine Nat.lt_of_not_le fun hle => ?_
            have h2 := inv.hi.tail j hle (Array.getElem?_eq_some_iff.1 hj).1
            rw [getD_both h2] at hl; cases hl
          have h0 := hmono j _ w w' hjn (inv.fac j oj d hj hl hd) hb
          have hne : o.dst ≠ some d := by
            have h1 := List.all_eq_true.1 hdst j (List.mem_range.2 hjn)
            rw [hj] at h1
            simp only [Option.bind_some, hd, Bool.and_eq_true, decide_eq_true_eq] at h1
            have h2 := List.all_eq_true.1 h1.2 i (List.mem_range.2 hin)
            simp only [Bool.or_eq_true, decide_eq_true_eq, ho, Option.bind_some] at h2
            rcases h2 with h2 | h2
            · exact absurd h2.symm hij
            · exact h2
          cases ho' : o.dst with
          | none => exact h0
          | some d' => rw [eval_put_other fun h => hne (by rw [ho', h])]; exact h0

/-- the steps of a region that is written out, one by one -/
def Steps (P : Program) (ops : Array Oper) (n : Nat) (W0 : World) (a0 : Act) (S : Nat → Fact) : Nat → List Oper → Prop
  | _, [] => True
  | i, o :: l => StepOK P ops n W0 a0 S i o ∧ Steps P ops n W0 a0 S (i + 1) l
theorem steps_at {n : Nat} {W0 : World} {a0 : Act} {S : Nat → Fact} : ∀ (l : List Oper) (k : Nat), Steps P ops n W0 a0 S k l → ∀ i o, l[i]? = some o → StepOK P ops n W0 a0 S (k + i) o
  | [], _, _, i, o, h => by simp at h
  | x :: l, k, h, i, o, hi => by
    cases i with
    | zero => simp at hi; subst hi; exact h.1
    | succ i => have := steps_at l (k + 1) h.2 i o (by simpa using hi); rwa [show k + 1 + i = k + (i + 1) by omega] at this
def Mono (R : Fact) : Prop := ∀ v w w', R v w → Below w.heap.size w w' → R v w'

theorem wp_region_inv {id : Nat} {Q : Exit → Act → World → Prop} {a0 : Act} {w0 : World} {l : List Oper} (n N : Nat) (Ss : List Fact) (hm : P.follows .mixedOrders = true) (hB : ivB l.toArray n N = true) (hN : a0.tmps.size = N)
    (hmono : ∀ R ∈ Ss, Mono R)
    (hstep : Steps P l.toArray n w0 a0 (fun i => Ss.getD i (fun _ _ => True)) 0 (l.take n))
    (hend : ∀ a w, Below w0.heap.size w0 w → a.tmps.size = a0.tmps.size → a.defers = a0.defers → (∀ k, (∀ j oj, j < n → l.toArray[j]? = some oj → oj.dst ≠ some k) → a.eval (.tmp k) = a0.eval (.tmp k)) → (∀ j oj d, j < n → l.toArray[j]? = some oj → oj.dst = some d → (Ss.getD j (fun _ _ => True)) (a.eval (.tmp d)) w) → wpList P l.toArray Q (l.drop n) a w) :
    (Code.region id l.toArray true).wp P Q a0 w0 := by
  refine wp_region_any hm ?_
  have hB' := hB
  simp only [ivB, Bool.and_eq_true, decide_eq_true_eq] at hB'
  have hn : n ≤ l.length := by simpa using hB'.1.1.1.1
  have h0 : unl n (Array.replicate l.toArray.size false) = n := by
    unfold unl
    rw [List.countP_eq_length.2]
    · simp
    · intro i _; rw [getD_replicate_false]; rfl
  have key := wpAny_inv (P := P) (ops := l.toArray) (n := n) (N := N) (W0 := w0) (a0 := a0) (S := fun i => Ss.getD i (fun _ _ => True)) (Q := Q) (rest := l.drop n) hB hN (fun j => by simp) (by simp)
    (fun i v w w' _ h hb => by
      show (Ss.getD i (fun _ _ => True)) v w'
      have h' : (Ss.getD i (fun _ _ => True)) v w := h
      rw [List.getD_eq_getElem?_getD] at h' ⊢
      cases hq : Ss[i]? with
      | none => simp
      | some R => rw [hq] at h'; exact hmono R (List.mem_of_getElem? hq) v w w' h' hb)
    (fun i o hi ho => by have := steps_at (l.take n) 0 hstep i o (by rw [List.getElem?_take_of_lt hi]; simpa using ho); rwa [Nat.zero_add] at this)
    hend n (Array.replicate l.toArray.size false) a0 { w0 with drawn := w0.drawn + 1 } h0
    ⟨⟨by simp, fun j oj _ hl => (by rw [getD_replicate_false] at hl; cases hl), fun t _ ht => getD_in (by simpa using ht) (getD_replicate_false _ _)⟩, ⟨rfl, rfl, rfl, Nat.le_refl _, fun _ _ => rfl⟩, rfl, rfl, fun _ _ => rfl, fun j oj d _ hl => (by rw [getD_replicate_false] at hl; cases hl)⟩
  have e : n + (l.drop n).length = l.toArray.size := by simp; omega
  rw [e] at key
  exact key

def freeB (l : List Oper) (n k : Nat) : Bool := (l.take n).all fun o => decide (o.dst ≠ some k)
theorem freeB_spec {l : List Oper} {n k : Nat} (h : freeB l n k = true) : ∀ j oj, j < n → l.toArray[j]? = some oj → oj.dst ≠ some k := by
  intro j oj hj ho
  have h1 := List.all_eq_true.1 h oj (List.mem_of_getElem? (i := j) (by rw [List.getElem?_take_of_lt hj]; simpa using ho))
  simpa using h1
/-- what holds of a value that is waited for -/
theorem dep_of {l : List Oper} {Ss : List Fact} {a : Act} {w : World} {o : Oper} (h : ∀ j oj d, l.toArray[j]? = some oj → waits o j = true → oj.dst = some d → (Ss.getD j (fun _ _ => True)) (a.eval (.tmp d)) w) (j d : Nat) {oj : Oper} {R : Fact}
    (h1 : l[j]? = some oj) (h2 : waits o j = true) (h3 : oj.dst = some d) (h4 : Ss[j]? = some R) : R (a.eval (.tmp d)) w := by
  have := h j oj d (by simpa using h1) h2 h3
  rw [List.getD_eq_getElem?_getD, h4] at this
  exact this
theorem end_of {l : List Oper} {Ss : List Fact} {n : Nat} {a : Act} {w : World} (h : ∀ j oj d, j < n → l.toArray[j]? = some oj → oj.dst = some d → (Ss.getD j (fun _ _ => True)) (a.eval (.tmp d)) w) (j d : Nat) {oj : Oper} {R : Fact}
    (hj : j < n) (h1 : l[j]? = some oj) (h3 : oj.dst = some d) (h4 : Ss[j]? = some R) : R (a.eval (.tmp d)) w := by
  have := h j oj d hj (by simpa using h1) h3
  rw [List.getD_eq_getElem?_getD, h4] at this
  exact this
theorem wanted_at {l : List Oper} {a : Act} {o oj : Oper} {j d : Nat} {b : Bool} (hg : o.guard = some (j, b)) (h1 : l[j]? = some oj) (h3 : oj.dst = some d) (hv : a.eval (.tmp d) = .bool b) : Region.wanted o (yielded l.toArray a.tmps) = true := by
  have e : a.tmps[d]? = some (.bool b) := by
    unfold Act.eval at hv
    rcases hq : a.tmps[d]? with _ | v
    · simp [hq] at hv; cases hv
    · simp [hq] at hv; rw [hv]
  unfold Region.wanted yielded
  rw [hg]
  simp [h1, h3, e]
theorem mono_eq (v0 : Value) : Mono (fun v _ => v = v0) := fun _ _ _ h _ => h
theorem eval_get {a : Act} {k : Nat} {v : Value} (h : a.eval (.tmp k) = v) : (a.tmps[k]?).getD undef = v := by simpa [Act.eval] using h
end Go.Proofs.YtfapfkaipdcflaaGreat

/-
  As the rule for regions whose operations only make memory, with any relation between the worlds that is handed on from one operation to the next, and with a word J on the world that may lean on which operations have been carried out: so stores are served, too.
-/
namespace Go.Proofs.YtfapfkaipdcflaaGreat
open Go.RowKit
variable {P : Program} {ops : Array Oper}

def StepAt (P : Program) (ops : Array Oper) (n : Nat) (Le : World → World → Prop) (J : (Nat → Bool) → World → Prop) (W0 : World) (a0 : Act) (S : Nat → Fact) (i : Nat) (o : Oper) : Prop :=
  ∀ (a : Act) (w : World) (f : Nat → Bool), Le W0 w → J f w → f i = false → (∀ j oj, ops[j]? = some oj → waits oj i = true → f j = false) →
    (∀ k, (∀ j oj, j < n → ops[j]? = some oj → oj.dst ≠ some k) → a.eval (.tmp k) = a0.eval (.tmp k)) →
    (∀ j oj d, ops[j]? = some oj → waits o j = true → oj.dst = some d → S j (a.eval (.tmp d)) w) →
    ∀ (K : Act → World → Prop) (Q : Exit → Act → World → Prop), (∀ v w', Le w w' → J (fun k => if k = i then true else f k) w' → S i v w' → K (a.put o.dst v) w') →
      if Region.wanted o (yielded ops a.tmps) then o.wp P a w K Q else K (a.put o.dst undef) w

structure RAt (ops : Array Oper) (n : Nat) (Le : World → World → Prop) (J : (Nat → Bool) → World → Prop) (W0 : World) (a0 : Act) (S : Nat → Fact) (listed : Array Bool) (a : Act) (w : World) : Prop where
  hi : HeadInv .any ops n listed
  le : Le W0 w
  jj : J (fun k => listed.getD k false) w
  siz : a.tmps.size = a0.tmps.size
  dfr : a.defers = a0.defers
  agr : ∀ k, (∀ j oj, j < n → ops[j]? = some oj → oj.dst ≠ some k) → a.eval (.tmp k) = a0.eval (.tmp k)
  fac : ∀ j oj d, ops[j]? = some oj → listed.getD j false = true → oj.dst = some d → S j (a.eval (.tmp d)) w

theorem wpAny_at {n N : Nat} {Le : World → World → Prop} {J : (Nat → Bool) → World → Prop} {W0 : World} {a0 : Act} {S : Nat → Fact} {Q : Exit → Act → World → Prop} {rest : List Oper} (htr : ∀ a b c, Le a b → Le b c → Le a c) (hB : ivB ops n N = true) (hN : a0.tmps.size = N) (hrest : ∀ j, rest[j]? = ops[n + j]?) (hrl : rest.length = ops.size - n)
    (hmono : ∀ i v w w', i < n → S i v w → Le w w' → S i v w') (hstep : ∀ i o, i < n → ops[i]? = some o → StepAt P ops n Le J W0 a0 S i o)
    (hend : ∀ a w f, Le W0 w → J f w → (∀ k, k < n → f k = true) → (∀ k, n ≤ k → f k = false) → a.tmps.size = a0.tmps.size → a.defers = a0.defers → (∀ k, (∀ j oj, j < n → ops[j]? = some oj → oj.dst ≠ some k) → a.eval (.tmp k) = a0.eval (.tmp k)) → (∀ j oj d, j < n → ops[j]? = some oj → oj.dst = some d → S j (a.eval (.tmp d)) w) → wpList P ops Q rest a w) :
    ∀ (f : Nat) (listed : Array Bool) (a : Act) (w : World), unl n listed = f → RAt ops n Le J W0 a0 S listed a w → wpAny P .any ops Q (f + rest.length) listed a w := by
  simp only [ivB, Bool.and_eq_true, Bool.or_eq_true, decide_eq_true_eq] at hB
  obtain ⟨⟨⟨⟨hn, hsc⟩, hord⟩, hdst⟩, hseq⟩ := hB
  intro f
  induction f with
  | zero =>
    intro listed a w hu inv
    have hall := unl_zero hu
    have hL : listed = headL n ops.size := by
      apply Array.ext
      · rw [inv.hi.size]; simp [headL]
      · intro i h1 h2
        have h1' : i < ops.size := by rw [← inv.hi.size]; exact h1
        by_cases hi : i < n
        · have := hall i hi
          simp [h1] at this
          simp [headL, hi, this]
        · have := inv.hi.tail i (by omega) h1'
          simp [h1] at this
          simp [headL, hi, this]
    rw [Nat.zero_add]
    refine wpAny_of_seq rest n listed a w hrest (by rw [hrl, hL]; exact hseq) ?_
    refine hend a w _ inv.le inv.jj hall (fun k hk => ?_) inv.siz inv.dfr inv.agr fun j oj d hj ho hd => inv.fac j oj d ho (hall j hj) hd
    rcases Nat.lt_or_ge k ops.size with h | h
    · exact getD_both (inv.hi.tail k hk h)
    · have : listed.size ≤ k := by rw [inv.hi.size]; exact h
      simp [this]
  | succ f ih =>
    intro listed a w hu inv
    rw [show f + 1 + rest.length = (f + rest.length) + 1 by omega]
    obtain ⟨m, hm, hmu, hmin⟩ := least_un (unl_pos (n := n) (listed := listed) (by omega))
    have hms : m < listed.size := by rw [inv.hi.size]; omega
    have hmr : m ∈ Region.ready .any ops listed := by
      have h1 := List.all_eq_true.1 hord m (List.mem_range.2 hm)
      refine mem_ready.2 ⟨getD_in hms hmu, ?_⟩
      have hmo : m < ops.size := by omega
      refine ⟨ops[m], Array.getElem?_eq_getElem hmo, fun e he hb => ?_⟩
      rw [Array.getElem?_eq_getElem hmo] at h1
      have h2 := Array.all_eq_true'.1 h1 e he
      rw [hb] at h2
      simp at h2
      exact hmin _ h2
    refine ⟨fun h0 => absurd h0 (List.ne_nil_of_mem hmr), fun i hi => ?_⟩
    have hin : i < n := by
      rcases hsc with h | h
      · obtain ⟨_, o, ho, _⟩ := mem_ready.1 hi
        have := (Array.getElem?_eq_some_iff.1 ho).1
        omega
      · refine Nat.lt_of_not_le fun hle => ?_
        have hn' : n < ops.size := by
          obtain ⟨_, o, ho, _⟩ := mem_ready.1 hi
          have := (Array.getElem?_eq_some_iff.1 ho).1
          omega
        exact tail_waits h.1 h.2 hn' inv.hi _ m rfl hm (getD_in hms hmu) i hle hi
    obtain ⟨hun, o, ho, hall⟩ := mem_ready.1 hi
    have his : i < listed.size := by rw [inv.hi.size]; exact (Array.getElem?_eq_some_iff.1 ho).1
    have hst := hstep i o hin ho a w (fun k => listed.getD k false) inv.le inv.jj (getD_both hun) (fun j oj hj hw => by
      obtain ⟨e, he, hb⟩ := Array.any_eq_true'.1 hw
      simp only [Bool.and_eq_true, beq_iff_eq] at hb
      cases hq : listed.getD j false with
      | false => rfl
      | true =>
        have h1 := inv.hi.closed j oj hj hq e he hb.1
        rw [hb.2, getD_both hun] at h1
        cases h1) inv.agr (fun j oj d hj hw hd => by
      obtain ⟨e, he, hb⟩ := Array.any_eq_true'.1 hw
      simp only [Bool.and_eq_true, beq_iff_eq] at hb
      have h1 := hall e he hb.1
      rw [hb.2] at h1
      exact inv.fac j oj d hj h1 hd) (wpAny P .any ops Q (f + rest.length) (listed.setIfInBounds i true)) Q ?_
    · unfold wpOp
      rw [ho]
      simp only
      by_cases hw : Region.wanted o (yielded ops a.tmps) = true
      · rw [if_pos hw] at hst ⊢; exact .inl hst
      · rw [if_neg hw] at hst ⊢; exact hst
    · intro v w' hb hJ hS
      have hcnt := unl_set (n := n) hin his (getD_both hun)
      have hJ' : J (fun k => (listed.setIfInBounds i true).getD k false) w' := by
        have : (fun k => (listed.setIfInBounds i true).getD k false) = (fun k => if k = i then true else listed.getD k false) := by
          funext k
          by_cases h : k = i
          · subst h; simp [his]
          · rw [if_neg h, getD_set_ne false (fun h' => h h'.symm)]
        rw [this]; exact hJ
      refine ih _ _ _ (by omega) ⟨inv.hi.set hi hin, htr _ _ _ inv.le hb, hJ', (size_put _ _ _).trans inv.siz, (defers_put _ _ _).trans inv.dfr, fun k hk => ?_, fun j oj d hj hl hd => ?_⟩
      · have hne := hk i o hin ho
        rw [← inv.agr k hk]
        cases hd : o.dst with
        | none => rfl
        | some d => rw [hd] at hne; exact eval_put_other fun h => hne (by rw [h])
      · by_cases hij : i = j
        · subst hij
          have : oj = o := Option.some.inj (hj.symm.trans ho)
          subst this
          rw [hd]
          have h1 := List.all_eq_true.1 hdst i (List.mem_range.2 hin)
          rw [hj] at h1
          simp only [Option.bind_some, hd, Bool.and_eq_true, decide_eq_true_eq] at h1
          rw [eval_put_same (by rw [inv.siz, hN]; exact h1.1)]
          exact hS
        · rw [getD_set_ne false hij] at hl
          have hjn : j < n := by
            refine Nat.lt_of_not_le fun hle => ?_
            have h2 := inv.hi.tail j hle (Array.getElem?_eq_some_iff.1 hj).1
            rw [getD_both h2] at hl; cases hl
          have h0 := hmono j _ w w' hjn (inv.fac j oj d hj hl hd) hb
          have hne : o.dst ≠ some d := by
            have h1 := List.all_eq_true.1 hdst j (List.mem_range.2 hjn)
            rw [hj] at h1
            simp only [Option.bind_some, hd, Bool.and_eq_true, decide_eq_true_eq] at h1
            have h2 := List.all_eq_true.1 h1.2 i (List.mem_range.2 hin)
            simp only [Bool.or_eq_true, decide_eq_true_eq, ho, Option.bind_some] at h2
            rcases h2 with h2 | h2
            · exact absurd h2.symm hij
            · exact h2
          cases ho' : o.dst with
          | none => exact h0
          | some d' => rw [eval_put_other fun h => hne (by rw [ho', h])]; exact h0

def StepsAt (P : Program) (ops : Array Oper) (n : Nat) (Le : World → World → Prop) (J : (Nat → Bool) → World → Prop) (W0 : World) (a0 : Act) (S : Nat → Fact) : Nat → List Oper → Prop
  | _, [] => True
  | i, o :: l => StepAt P ops n Le J W0 a0 S i o ∧ StepsAt P ops n Le J W0 a0 S (i + 1) l
theorem stepsAt_at {n : Nat} {Le : World → World → Prop} {J : (Nat → Bool) → World → Prop} {W0 : World} {a0 : Act} {S : Nat → Fact} : ∀ (l : List Oper) (k : Nat), StepsAt P ops n Le J W0 a0 S k l → ∀ i o, l[i]? = some o → StepAt P ops n Le J W0 a0 S (k + i) o
  | [], _, _, i, o, h => by simp at h
  | x :: l, k, h, i, o, hi => by
    cases i with
    | zero => simp at hi; subst hi; exact h.1
    | succ i => have := stepsAt_at l (k + 1) h.2 i o (by simpa using hi); rwa [show k + 1 + i = k + (i + 1) by omega] at this

theorem wp_region_at {id : Nat} {Q : Exit → Act → World → Prop} {a0 : Act} {w0 : World} {l : List Oper} (n N : Nat) (Le : World → World → Prop) (J : (Nat → Bool) → World → Prop) (Ss : List Fact) (hm : P.follows .mixedOrders = true) (hB : ivB l.toArray n N = true) (hN : a0.tmps.size = N)
    (htr : ∀ a b c, Le a b → Le b c → Le a c) (hdr : Le w0 (w0.drewN 1)) (hJ : J (fun _ => false) (w0.drewN 1))
    (hmono : ∀ R ∈ Ss, ∀ v w w', R v w → Le w w' → R v w')
    (hstep : StepsAt P l.toArray n Le J w0 a0 (fun i => Ss.getD i (fun _ _ => True)) 0 (l.take n))
    (hend : ∀ a w f, Le w0 w → J f w → (∀ k, k < n → f k = true) → (∀ k, n ≤ k → f k = false) → a.tmps.size = a0.tmps.size → a.defers = a0.defers → (∀ k, (∀ j oj, j < n → l.toArray[j]? = some oj → oj.dst ≠ some k) → a.eval (.tmp k) = a0.eval (.tmp k)) → (∀ j oj d, j < n → l.toArray[j]? = some oj → oj.dst = some d → (Ss.getD j (fun _ _ => True)) (a.eval (.tmp d)) w) → wpList P l.toArray Q (l.drop n) a w) :
    (Code.region id l.toArray true).wp P Q a0 w0 := by
  refine wp_region_any hm ?_
  have hB' := hB
  simp only [ivB, Bool.and_eq_true, decide_eq_true_eq] at hB'
  have hn : n ≤ l.length := by simpa using hB'.1.1.1.1
  have h0 : unl n (Array.replicate l.toArray.size false) = n := by
    unfold unl
    rw [List.countP_eq_length.2]
    · simp
    · intro i _; rw [getD_replicate_false]; rfl
  have hJ0 : J (fun k => (Array.replicate l.toArray.size false).getD k false) (w0.drewN 1) := by
    have : (fun k => (Array.replicate l.toArray.size false).getD k false) = fun _ => false := by funext k; exact getD_replicate_false _ _
    rw [this]; exact hJ
  have key := wpAny_at (P := P) (ops := l.toArray) (n := n) (N := N) (Le := Le) (J := J) (W0 := w0) (a0 := a0) (S := fun i => Ss.getD i (fun _ _ => True)) (Q := Q) (rest := l.drop n) htr hB hN (fun j => by simp) (by simp)
    (fun i v w w' _ h hb => by
      show (Ss.getD i (fun _ _ => True)) v w'
      have h' : (Ss.getD i (fun _ _ => True)) v w := h
      rw [List.getD_eq_getElem?_getD] at h' ⊢
      cases hq : Ss[i]? with
      | none => simp
      | some R => rw [hq] at h'; exact hmono R (List.mem_of_getElem? hq) v w w' h' hb)
    (fun i o hi ho => by have := stepsAt_at (l.take n) 0 hstep i o (by rw [List.getElem?_take_of_lt hi]; simpa using ho); rwa [Nat.zero_add] at this)
    hend n (Array.replicate l.toArray.size false) a0 (w0.drewN 1) h0
    ⟨⟨by simp, fun j oj _ hl => (by rw [getD_replicate_false] at hl; cases hl), fun t _ ht => getD_in (by simpa using ht) (getD_replicate_false _ _)⟩, hdr, hJ0, rfl, rfl, fun _ _ => rfl, fun j oj d _ hl => (by rw [getD_replicate_false] at hl; cases hl)⟩
  have e : n + (l.drop n).length = l.toArray.size := by simp; omega
  rw [e] at key
  exact key
end Go.Proofs.YtfapfkaipdcflaaGreat

/-
  An act that differs from another in some slots alone, written as puts into that other one.
-/
namespace Go.Proofs.YtfapfkaipdcflaaGreat
open Go.RowKit Go.Lib

theorem put_size (b : Act) (d : Nat) (v : Value) : (b.put (some d) v).tmps.size = b.tmps.size := by simp [Act.put]
theorem put_at (b : Act) (d k : Nat) (v : Value) (hk : k < b.tmps.size) : ((b.put (some d) v).tmps[k]?).getD undef = if d = k then v else (b.tmps[k]?).getD undef := by
  by_cases h : d = k
  · subst h; simp [Act.put, hk]
  · simp [Act.put, h]
theorem puts_at (f : Nat → Value) (k : Nat) : ∀ (ds : List Nat) (b : Act), k < b.tmps.size → (((ds.foldl (fun b d => b.put (some d) (f d)) b).tmps)[k]?).getD undef = if k ∈ ds then f k else (b.tmps[k]?).getD undef
  | [], b, _ => by simp
  | d :: ds, b, hk => by
    rw [List.foldl_cons, puts_at f k ds _ (by rw [put_size]; exact hk), put_at b d k _ hk]
    by_cases h1 : k ∈ ds
    · simp [h1]
    · by_cases h2 : d = k
      · subst h2; simp
      · have h3 : ¬ k = d := fun e => h2 e.symm
        simp [h1, h2, h3]
theorem puts_size (f : Nat → Value) : ∀ (ds : List Nat) (b : Act), (ds.foldl (fun b d => b.put (some d) (f d)) b).tmps.size = b.tmps.size
  | [], _ => rfl
  | d :: ds, b => by rw [List.foldl_cons, puts_size f ds, put_size]
theorem puts_defers (f : Nat → Value) : ∀ (ds : List Nat) (b : Act), (ds.foldl (fun b d => b.put (some d) (f d)) b).defers = b.defers
  | [], _ => rfl
  | d :: ds, b => by rw [List.foldl_cons, puts_defers f ds]; rfl
theorem act_puts {a a0 : Act} {l : List Oper} {n : Nat} (hsz : a.tmps.size = a0.tmps.size) (hdf : a.defers = a0.defers)
    (h : ∀ k, (∀ j oj, j < n → l.toArray[j]? = some oj → oj.dst ≠ some k) → a.eval (.tmp k) = a0.eval (.tmp k)) (ds : List Nat) (hds : (l.take n).filterMap (fun o => o.dst) = ds) :
    a = ds.foldl (fun b d => b.put (some d) (a.eval (.tmp d))) a0 := by
  have hs := puts_size (fun d => a.eval (.tmp d)) ds a0
  have hd := puts_defers (fun d => a.eval (.tmp d)) ds a0
  have key : ∀ k, k < a.tmps.size → (a.tmps[k]?).getD undef = (((ds.foldl (fun b d => b.put (some d) (a.eval (.tmp d))) a0).tmps)[k]?).getD undef := by
    intro k hk
    rw [puts_at (fun d => a.eval (.tmp d)) k ds a0 (by omega)]
    by_cases hm : k ∈ ds
    · rw [if_pos hm]; simp [Act.eval]
    · rw [if_neg hm]
      have := h k (fun j oj hj ho e => hm (by
        rw [← hds, List.mem_filterMap]
        exact ⟨oj, List.mem_of_getElem? (i := j) (by rw [List.getElem?_take_of_lt hj]; simpa using ho), e⟩))
      simpa [Act.eval] using this
  generalize ds.foldl (fun b d => b.put (some d) (a.eval (.tmp d))) a0 = B at hs hd key
  obtain ⟨T, D⟩ := a
  obtain ⟨T', D'⟩ := B
  simp only at hs hd key hsz hdf
  obtain rfl : T = T' := by
    apply Array.ext
    · omega
    · intro i h1 h2
      have := key i h1
      simpa [h1, h2] using this
  rw [hdf, ← hd]
theorem act_block {a a0 : Act} {l : List Oper} {n : Nat} (lo m : Nat) (hsz : a.tmps.size = a0.tmps.size) (hdf : a.defers = a0.defers)
    (h : ∀ k, (∀ j oj, j < n → l.toArray[j]? = some oj → oj.dst ≠ some k) → a.eval (.tmp k) = a0.eval (.tmp k)) (ds : List Nat) (hds : (l.take n).filterMap (fun o => o.dst) = ds) (hr : ds = List.range' lo m) (hlm : lo + m ≤ a0.tmps.size) :
    a = ⟨(a0.tmps.toList.take lo ++ (ds.map (fun d => a.eval (.tmp d)) ++ a0.tmps.toList.drop (lo + m))).toArray, a0.defers⟩ := by
  have key : ∀ k, k < a.tmps.size → k ∉ ds → (a.tmps[k]?).getD undef = (a0.tmps[k]?).getD undef := by
    intro k hk hm
    have := h k (fun j oj hj ho e => hm (by
      rw [← hds, List.mem_filterMap]
      exact ⟨oj, List.mem_of_getElem? (i := j) (by rw [List.getElem?_take_of_lt hj]; simpa using ho), e⟩))
    simpa [Act.eval] using this
  obtain ⟨T, D⟩ := a
  obtain ⟨T0, D0⟩ := a0
  simp only at hsz hdf key hlm
  subst hdf
  have e : T = (T0.toList.take lo ++ (ds.map (fun d => Act.eval ⟨T, D⟩ (.tmp d)) ++ T0.toList.drop (lo + m))).toArray := by
    apply Array.ext
    · simp [hr]; omega
    · intro i h1 h2
      have hi0 : i < T0.size := by omega
      by_cases c1 : i < lo
      · have := key i h1 (by rw [hr, List.mem_range'_1]; omega)
        simp [h1, hi0] at this
        simp [c1, this, Nat.min_eq_left (show lo ≤ T0.size by omega)]
      · by_cases c2 : i < lo + m
        · have e2 : lo + (i - lo) = i := by omega
          simp [List.getElem_append, Nat.min_eq_left (show lo ≤ T0.size by omega), c1, hr, show i - lo < m by omega, Act.eval, e2, h1]
        · have := key i h1 (by rw [hr, List.mem_range'_1]; omega)
          simp [h1, hi0] at this
          have e3 : lo + m + (i - lo - m) = i := by omega
          simp [List.getElem_append, Nat.min_eq_left (show lo ≤ T0.size by omega), c1, hr, show ¬ i - lo < m by omega, this, e3]
  rw [← e]
end Go.Proofs.YtfapfkaipdcflaaGreat

/-
  As wp_region_at, but that the word which goes along may speak of the slots, too: of the memory that a slot points to.
-/
namespace Go.Proofs.YtfapfkaipdcflaaGreat
open Go.RowKit
variable {P : Program} {ops : Array Oper}

def StepAc (P : Program) (ops : Array Oper) (n : Nat) (Le : World → World → Prop) (J : (Nat → Bool) → Act → World → Prop) (W0 : World) (a0 : Act) (S : Nat → Fact) (i : Nat) (o : Oper) : Prop :=
  ∀ (a : Act) (w : World) (f : Nat → Bool), Le W0 w → J f a w → f i = false → (∀ j oj, ops[j]? = some oj → waits oj i = true → f j = false) → (∀ j oj, ops[j]? = some oj → waits o j = true → f j = true) →
    (∀ k, (∀ j oj, j < n → ops[j]? = some oj → oj.dst ≠ some k) → a.eval (.tmp k) = a0.eval (.tmp k)) →
    (∀ j oj d, ops[j]? = some oj → waits o j = true → oj.dst = some d → S j (a.eval (.tmp d)) w) →
    ∀ (K : Act → World → Prop) (Q : Exit → Act → World → Prop), (∀ v w', Le w w' → J (fun k => if k = i then true else f k) (a.put o.dst v) w' → S i v w' → K (a.put o.dst v) w') →
      if Region.wanted o (yielded ops a.tmps) then o.wp P a w K Q else K (a.put o.dst undef) w

structure RAc (ops : Array Oper) (n : Nat) (Le : World → World → Prop) (J : (Nat → Bool) → Act → World → Prop) (W0 : World) (a0 : Act) (S : Nat → Fact) (listed : Array Bool) (a : Act) (w : World) : Prop where
  hi : HeadInv .any ops n listed
  le : Le W0 w
  jj : J (fun k => listed.getD k false) a w
  siz : a.tmps.size = a0.tmps.size
  dfr : a.defers = a0.defers
  agr : ∀ k, (∀ j oj, j < n → ops[j]? = some oj → oj.dst ≠ some k) → a.eval (.tmp k) = a0.eval (.tmp k)
  fac : ∀ j oj d, ops[j]? = some oj → listed.getD j false = true → oj.dst = some d → S j (a.eval (.tmp d)) w

theorem wpAny_ac {n N : Nat} {Le : World → World → Prop} {J : (Nat → Bool) → Act → World → Prop} {W0 : World} {a0 : Act} {S : Nat → Fact} {Q : Exit → Act → World → Prop} {rest : List Oper} (htr : ∀ a b c, Le a b → Le b c → Le a c) (hB : ivB ops n N = true) (hN : a0.tmps.size = N) (hrest : ∀ j, rest[j]? = ops[n + j]?) (hrl : rest.length = ops.size - n)
    (hmono : ∀ i v w w', i < n → S i v w → Le w w' → S i v w') (hstep : ∀ i o, i < n → ops[i]? = some o → StepAc P ops n Le J W0 a0 S i o)
    (hend : ∀ a w f, Le W0 w → J f a w → (∀ k, k < n → f k = true) → (∀ k, n ≤ k → f k = false) → a.tmps.size = a0.tmps.size → a.defers = a0.defers → (∀ k, (∀ j oj, j < n → ops[j]? = some oj → oj.dst ≠ some k) → a.eval (.tmp k) = a0.eval (.tmp k)) → (∀ j oj d, j < n → ops[j]? = some oj → oj.dst = some d → S j (a.eval (.tmp d)) w) → wpList P ops Q rest a w) :
    ∀ (f : Nat) (listed : Array Bool) (a : Act) (w : World), unl n listed = f → RAc ops n Le J W0 a0 S listed a w → wpAny P .any ops Q (f + rest.length) listed a w := by
  simp only [ivB, Bool.and_eq_true, Bool.or_eq_true, decide_eq_true_eq] at hB
  obtain ⟨⟨⟨⟨hn, hsc⟩, hord⟩, hdst⟩, hseq⟩ := hB
  intro f
  induction f with
  | zero =>
    intro listed a w hu inv
    have hall := unl_zero hu
    have hL : listed = headL n ops.size := by
      apply Array.ext
      · rw [inv.hi.size]; simp [headL]
      · intro i h1 h2
        have h1' : i < ops.size := by rw [← inv.hi.size]; exact h1
        by_cases hi : i < n
        · have := hall i hi
          simp [h1] at this
          simp [headL, hi, this]
        · have := inv.hi.tail i (by omega) h1'
          simp [h1] at this
          simp [headL, hi, this]
    rw [Nat.zero_add]
    refine wpAny_of_seq rest n listed a w hrest (by rw [hrl, hL]; exact hseq) ?_
    refine hend a w _ inv.le inv.jj hall (fun k hk => ?_) inv.siz inv.dfr inv.agr fun j oj d hj ho hd => inv.fac j oj d ho (hall j hj) hd
    rcases Nat.lt_or_ge k ops.size with h | h
    · exact getD_both (inv.hi.tail k hk h)
    · have : listed.size ≤ k := by rw [inv.hi.size]; exact h
      simp [this]
  | succ f ih =>
    intro listed a w hu inv
    rw [show f + 1 + rest.length = (f + rest.length) + 1 by omega]
    obtain ⟨m, hm, hmu, hmin⟩ := least_un (unl_pos (n := n) (listed := listed) (by omega))
    have hms : m < listed.size := by rw [inv.hi.size]; omega
    have hmr : m ∈ Region.ready .any ops listed := by
      have h1 := List.all_eq_true.1 hord m (List.mem_range.2 hm)
      refine mem_ready.2 ⟨getD_in hms hmu, ?_⟩
      have hmo : m < ops.size := by omega
      refine ⟨ops[m], Array.getElem?_eq_getElem hmo, fun e he hb => ?_⟩
      rw [Array.getElem?_eq_getElem hmo] at h1
      have h2 := Array.all_eq_true'.1 h1 e he
      rw [hb] at h2
      simp at h2
      exact hmin _ h2
    refine ⟨fun h0 => absurd h0 (List.ne_nil_of_mem hmr), fun i hi => ?_⟩
    have hin : i < n := by
      rcases hsc with h | h
      · obtain ⟨_, o, ho, _⟩ := mem_ready.1 hi
        have := (Array.getElem?_eq_some_iff.1 ho).1
        omega
      · refine Nat.lt_of_not_le fun hle => ?_
        have hn' : n < ops.size := by
          obtain ⟨_, o, ho, _⟩ := mem_ready.1 hi
          have := (Array.getElem?_eq_some_iff.1 ho).1
          omega
        exact tail_waits h.1 h.2 hn' inv.hi _ m rfl hm (getD_in hms hmu) i hle hi
    obtain ⟨hun, o, ho, hall⟩ := mem_ready.1 hi
    have his : i < listed.size := by rw [inv.hi.size]; exact (Array.getElem?_eq_some_iff.1 ho).1
    have hst := hstep i o hin ho a w (fun k => listed.getD k false) inv.le inv.jj (getD_both hun) (fun j oj hj hw => by
      obtain ⟨e, he, hb⟩ := Array.any_eq_true'.1 hw
      simp only [Bool.and_eq_true, beq_iff_eq] at hb
      cases hq : listed.getD j false with
      | false => rfl
      | true =>
        have h1 := inv.hi.closed j oj hj hq e he hb.1
        rw [hb.2, getD_both hun] at h1
        cases h1) (fun j oj _ hw => by
      obtain ⟨e, he, hb⟩ := Array.any_eq_true'.1 hw
      simp only [Bool.and_eq_true, beq_iff_eq] at hb
      have h1 := hall e he hb.1
      rwa [hb.2] at h1) inv.agr (fun j oj d hj hw hd => by
      obtain ⟨e, he, hb⟩ := Array.any_eq_true'.1 hw
      simp only [Bool.and_eq_true, beq_iff_eq] at hb
      have h1 := hall e he hb.1
      rw [hb.2] at h1
      exact inv.fac j oj d hj h1 hd) (wpAny P .any ops Q (f + rest.length) (listed.setIfInBounds i true)) Q ?_
    · unfold wpOp
      rw [ho]
      simp only
      by_cases hw : Region.wanted o (yielded ops a.tmps) = true
      · rw [if_pos hw] at hst ⊢; exact .inl hst
      · rw [if_neg hw] at hst ⊢; exact hst
    · intro v w' hb hJ hS
      have hcnt := unl_set (n := n) hin his (getD_both hun)
      have hJ' : J (fun k => (listed.setIfInBounds i true).getD k false) (a.put o.dst v) w' := by
        have : (fun k => (listed.setIfInBounds i true).getD k false) = (fun k => if k = i then true else listed.getD k false) := by
          funext k
          by_cases h : k = i
          · subst h; simp [his]
          · rw [if_neg h, getD_set_ne false (fun h' => h h'.symm)]
        rw [this]; exact hJ
      refine ih _ _ _ (by omega) ⟨inv.hi.set hi hin, htr _ _ _ inv.le hb, hJ', (size_put _ _ _).trans inv.siz, (defers_put _ _ _).trans inv.dfr, fun k hk => ?_, fun j oj d hj hl hd => ?_⟩
      · have hne := hk i o hin ho
        rw [← inv.agr k hk]
        cases hd : o.dst with
        | none => rfl
        | some d => rw [hd] at hne; exact eval_put_other fun h => hne (by rw [h])
      · by_cases hij : i = j
        · subst hij
          have : oj = o := Option.some.inj (hj.symm.trans ho)
          subst this
          rw [hd]
          have h1 := List.all_eq_true.1 hdst i (List.mem_range.2 hin)
          rw [hj] at h1
          simp only [Option.bind_some, hd, Bool.and_eq_true, decide_eq_true_eq] at h1
          rw [eval_put_same (by rw [inv.siz, hN]; exact h1.1)]
          exact hS
        · rw [getD_set_ne false hij] at hl
          have hjn : j < n := by
            refine Nat.lt_of_not_le fun hle => ?_
            have h2 := inv.hi.tail j hle (Array.getElem?_eq_some_iff.1 hj).1
            rw [getD_both h2] at hl; cases hl
          have h0 := hmono j _ w w' hjn (inv.fac j oj d hj hl hd) hb
          have hne : o.dst ≠ some d := by
            have h1 := List.all_eq_true.1 hdst j (List.mem_range.2 hjn)
            rw [hj] at h1
            simp only [Option.bind_some, hd, Bool.and_eq_true, decide_eq_true_eq] at h1
            have h2 := List.all_eq_true.1 h1.2 i (List.mem_range.2 hin)
            simp only [Bool.or_eq_true, decide_eq_true_eq, ho, Option.bind_some] at h2
            rcases h2 with h2 | h2
            · exact absurd h2.symm hij
            · exact h2
          cases ho' : o.dst with
          | none => exact h0
          | some d' => rw [eval_put_other fun h => hne (by rw [ho', h])]; exact h0

def StepsAc (P : Program) (ops : Array Oper) (n : Nat) (Le : World → World → Prop) (J : (Nat → Bool) → Act → World → Prop) (W0 : World) (a0 : Act) (S : Nat → Fact) : Nat → List Oper → Prop
  | _, [] => True
  | i, o :: l => StepAc P ops n Le J W0 a0 S i o ∧ StepsAc P ops n Le J W0 a0 S (i + 1) l
theorem stepsAc_at {n : Nat} {Le : World → World → Prop} {J : (Nat → Bool) → Act → World → Prop} {W0 : World} {a0 : Act} {S : Nat → Fact} : ∀ (l : List Oper) (k : Nat), StepsAc P ops n Le J W0 a0 S k l → ∀ i o, l[i]? = some o → StepAc P ops n Le J W0 a0 S (k + i) o
  | [], _, _, i, o, h => by simp at h
  | x :: l, k, h, i, o, hi => by
    cases i with
    | zero => simp at hi; subst hi; exact h.1
    | succ i => have := stepsAc_at l (k + 1) h.2 i o (by simpa using hi); rwa [show k + 1 + i = k + (i + 1) by omega] at this

theorem wp_region_ac {id : Nat} {Q : Exit → Act → World → Prop} {a0 : Act} {w0 : World} {l : List Oper} (n N : Nat) (Le : World → World → Prop) (J : (Nat → Bool) → Act → World → Prop) (Ss : List Fact) (hm : P.follows .mixedOrders = true) (hB : ivB l.toArray n N = true) (hN : a0.tmps.size = N)
    (htr : ∀ a b c, Le a b → Le b c → Le a c) (hdr : Le w0 (w0.drewN 1)) (hJ : J (fun _ => false) a0 (w0.drewN 1))
    (hmono : ∀ R ∈ Ss, ∀ v w w', R v w → Le w w' → R v w')
    (hstep : StepsAc P l.toArray n Le J w0 a0 (fun i => Ss.getD i (fun _ _ => True)) 0 (l.take n))
    (hend : ∀ a w f, Le w0 w → J f a w → (∀ k, k < n → f k = true) → (∀ k, n ≤ k → f k = false) → a.tmps.size = a0.tmps.size → a.defers = a0.defers → (∀ k, (∀ j oj, j < n → l.toArray[j]? = some oj → oj.dst ≠ some k) → a.eval (.tmp k) = a0.eval (.tmp k)) → (∀ j oj d, j < n → l.toArray[j]? = some oj → oj.dst = some d → (Ss.getD j (fun _ _ => True)) (a.eval (.tmp d)) w) → wpList P l.toArray Q (l.drop n) a w) :
    (Code.region id l.toArray true).wp P Q a0 w0 := by
  refine wp_region_any hm ?_
  have hB' := hB
  simp only [ivB, Bool.and_eq_true, decide_eq_true_eq] at hB'
  have hn : n ≤ l.length := by simpa using hB'.1.1.1.1
  have h0 : unl n (Array.replicate l.toArray.size false) = n := by
    unfold unl
    rw [List.countP_eq_length.2]
    · simp
    · intro i _; rw [getD_replicate_false]; rfl
  have hJ0 : J (fun k => (Array.replicate l.toArray.size false).getD k false) a0 (w0.drewN 1) := by
    have : (fun k => (Array.replicate l.toArray.size false).getD k false) = fun _ => false := by funext k; exact getD_replicate_false _ _
    rw [this]; exact hJ
  have key := wpAny_ac (P := P) (ops := l.toArray) (n := n) (N := N) (Le := Le) (J := J) (W0 := w0) (a0 := a0) (S := fun i => Ss.getD i (fun _ _ => True)) (Q := Q) (rest := l.drop n) htr hB hN (fun j => by simp) (by simp)
    (fun i v w w' _ h hb => by
      show (Ss.getD i (fun _ _ => True)) v w'
      have h' : (Ss.getD i (fun _ _ => True)) v w := h
      rw [List.getD_eq_getElem?_getD] at h' ⊢
      cases hq : Ss[i]? with
      | none => simp
      | some R => rw [hq] at h'; exact hmono R (List.mem_of_getElem? hq) v w w' h' hb)
    (fun i o hi ho => by have := stepsAc_at (l.take n) 0 hstep i o (by rw [List.getElem?_take_of_lt hi]; simpa using ho); rwa [Nat.zero_add] at this)
    hend n (Array.replicate l.toArray.size false) a0 (w0.drewN 1) h0
    ⟨⟨by simp, fun j oj _ hl => (by rw [getD_replicate_false] at hl; cases hl), fun t _ ht => getD_in (by simpa using ht) (getD_replicate_false _ _)⟩, hdr, hJ0, rfl, rfl, fun _ _ => rfl, fun j oj d _ hl => (by rw [getD_replicate_false] at hl; cases hl)⟩
  have e : n + (l.drop n).length = l.toArray.size := by simp; omega
  rw [e] at key
  exact key
end Go.Proofs.YtfapfkaipdcflaaGreat
