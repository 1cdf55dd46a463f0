/-
  A region that draws its order: first n operations that read, reckon, or call what only makes new memory; then one or two new cells, whose making may come at any time; then a rest in one forced order.
-/
import Derived.Test.YtafheinapjfbaaaQt
namespace Go.Proofs.Ytafheinapjfbaaa
open Go.RowKit
variable {P : Program} {ops : Array Oper} {md : Region.Mode} {W : World}

/-- what holds of a world and stays when it grows -/
def CT (W : World) (T : World → Prop) (w : World) : Prop := Below W.heap.size W w ∧ T w
structure Stable (W : World) (T : World → Prop) : Prop where
  ne : ∃ w, CT W T w
  grow : ∀ w w', T w → Below w.heap.size w w' → T w'
theorem CT.grow {T : World → Prop} (hT : Stable W T) {w w' : World} (h : CT W T w) (hb : Below w.heap.size w w') : CT W T w' := ⟨h.1.trans (hb.mono h.1.size), hT.grow w w' h.2 hb⟩
def withNew (T : World → Prop) (w0 : World) (z : Obj) (w : World) : Prop := T w ∧ Below (w0.alloc z).heap.size (w0.alloc z) w
theorem CT.new {T : World → Prop} (hT : Stable W T) {w : World} (h : CT W T w) (z : Obj) : CT W (withNew T w z) (w.alloc z) := by
  have hb : Below w.heap.size w (w.alloc z) := (Below.refl _ _).alloc (Nat.le_refl _) z
  exact ⟨h.1.trans (hb.mono h.1.size), hT.grow w _ h.2 hb, Below.refl _ _⟩
theorem stable_new {T : World → Prop} (hT : Stable W T) {w0 : World} (h0 : CT W T w0) (z : Obj) : Stable W (withNew T w0 z) :=
  ⟨⟨_, h0.new hT z⟩, fun w w' h hb => ⟨hT.grow w w' h.1 hb, h.2.trans (hb.mono h.2.size)⟩⟩

def AllYield (P : Program) (ops : Array Oper) (W : World) (o : Oper) (v : Value) (a : Act) : Prop := ∀ T, Stable W T → YieldsIn P ops (CT W T) o v a

def ptrTo (b : Nat) : Value := .pointer (some ⟨b, 0, none⟩)

/-- f operations of the head are still to come -/
def headF (P : Program) (md : Region.Mode) (ops : Array Oper) (W : World) (n N : Nat) (z : Nat → Obj) (L : (World → Prop) → Array Bool → Act → Prop) : Nat → (World → Prop) → Array Bool → Act → Prop
  | 0, T, listed, a => L T listed a
  | f + 1, T, listed, a => Region.ready md ops listed ≠ [] ∧ ∀ i ∈ Region.ready md ops listed, i < N ∧
      (i < n → qOp P ops (CT W T) i (headF P md ops W n N z L f T (listed.setIfInBounds i true)) a) ∧
      (n ≤ i → ∀ o w0, ops[i]? = some o → CT W T w0 → headF P md ops W n N z L f (withNew T w0 (z i)) (listed.setIfInBounds i true) (a.put o.dst (ptrTo w0.heap.size)))

def Makes (P : Program) (ops : Array Oper) (n N : Nat) (z : Nat → Obj) : Prop :=
  ∀ i o, n ≤ i → i < N → ops[i]? = some o → o.guard = none ∧ ∀ a w, (execOp (Act.eval a) o).run P w = .ok (.value (ptrTo w.heap.size)) (w.alloc (z i))

theorem wanted_none {o : Oper} (h : o.guard = none) (y : Nat → Option Bool) : Region.wanted o y = true := by
  unfold Region.wanted; rw [h]

theorem any_of_headF {n N g : Nat} {z : Nat → Obj} {L : (World → Prop) → Array Bool → Act → Prop} {Q' : Exit → Act → World → Prop} (hm : Makes P ops n N z)
    (hL : ∀ T listed a w, Stable W T → CT W T w → L T listed a → wpAny P md ops Q' g listed a w) (f : Nat) :
    ∀ T (listed : Array Bool) (a : Act) (w : World), Stable W T → CT W T w → headF P md ops W n N z L f T listed a → wpAny P md ops Q' (f + g) listed a w := by
  induction f with
  | zero => intro T listed a w hT hw h; rw [Nat.zero_add]; exact hL _ _ _ _ hT hw h
  | succ f ih =>
    intro T listed a w hT hw h
    rw [show f + 1 + g = (f + g) + 1 by omega]
    refine ⟨fun h0 => absurd h0 h.1, fun i hi => ?_⟩
    obtain ⟨hN, h1, h2⟩ := h.2 i hi
    by_cases hin : i < n
    · exact wpOp_of_qOp hw (fun a' w' hw' h' => ih T _ a' w' hT hw' h') (h1 hin)
    · have hin : n ≤ i := by omega
      unfold wpOp
      cases ho : ops[i]? with
      | none => 
        obtain ⟨_, o, ho', _⟩ := mem_ready.1 hi
        rw [ho] at ho'; cases ho'
      | some o =>
        obtain ⟨hg, hrun⟩ := hm i o hin hN ho
        simp only [wanted_none hg, if_true]
        refine Or.inl ?_
        unfold Oper.wp
        rw [hrun]
        exact ih _ _ _ _ (stable_new hT hw _) (hw.new hT _) (h2 hin o w ho hw)

theorem AllYield.put {o oj : Oper} {v : Value} {a : Act} (hy : AllYield P ops W o v a) (hsel : ∀ cs b, o.op ≠ .select cs b) (h3 : ∀ d, oj.dst = some d → d ∉ o.looksAt ops) (u : Value) : AllYield P ops W o v (a.put oj.dst u) :=
  fun T hT => (hy T hT).of_same (execOp_put o hsel a oj.dst u h3) (wanted_put o a oj.dst u h3)

theorem headF_take {n N i : Nat} {z : Nat → Obj} {oi : Oper} {v : Value} {L : (World → Prop) → Array Bool → Act → Prop} (hi : ops[i]? = some oi) (hsel : ∀ (j : Nat) (o : Oper) cs b, ops[j]? = some o → o.op ≠ .select cs b)
    (hs : Region.sinkB md ops N = true) (hc : Region.chainB md ops N = true) (hN : N < ops.size) (hin : i < n) (hnN : n ≤ N)
    (hdone : ∀ T listed a, L T listed a → ∀ j ∈ Region.ready md ops listed, N ≤ j) (f : Nat) :
    ∀ T (listed : Array Bool) (a : Act), Stable W T → HeadInv md ops N listed →
      (∀ j oj, ops[j]? = some oj → j ≠ i → listed.getD j true = false → (∀ e ∈ oj.after, Region.binds md e = true → e.on ≠ i) → oi.apart ops oj = true) →
      i ∈ Region.ready md ops listed → AllYield P ops W oi v a →
      headF P md ops W n N z L f T (listed.setIfInBounds i true) (a.put oi.dst v) → headF P md ops W n N z L (f + 1) T listed a := by
  induction f with
  | zero =>
    intro T listed a hT inv _ hr hy H
    refine ⟨List.ne_nil_of_mem hr, fun j hj => ?_⟩
    have hjn : j < N := Nat.lt_of_not_le fun h => tail_waits hs hc hN inv _ i rfl (by omega) (mem_ready.1 hr).1 j h hj
    rcases Nat.decEq j i with hji | rfl
    · exact absurd (hdone _ _ _ H j (ready_mono hj hji)) (by omega)
    · exact ⟨hjn, fun _ => (hy T hT).qOp hi H, fun h => absurd h (by omega)⟩
  | succ f ih =>
    intro T listed a hT inv hfree hr hy H
    have hun := (mem_ready.1 hr).1
    refine ⟨List.ne_nil_of_mem hr, fun j hj => ?_⟩
    have hjn : j < N := Nat.lt_of_not_le fun h => tail_waits hs hc hN inv _ i rfl (by omega) hun j h hj
    rcases Nat.decEq j i with hji | rfl
    · obtain ⟨hjun, oj, hoj, hall⟩ := mem_ready.1 hj
      have hnot : ∀ e ∈ oj.after, Region.binds md e = true → e.on ≠ i := fun e he hb heq => by
        have h1 := hall e he hb
        rw [heq, getD_both hun] at h1
        exact Bool.false_ne_true h1
      have hap := hfree j oj hoj hji hjun hnot
      have hfree' : ∀ k ok, ops[k]? = some ok → k ≠ i → (listed.setIfInBounds j true).getD k true = false → (∀ e ∈ ok.after, Region.binds md e = true → e.on ≠ i) → oi.apart ops ok = true := fun k ok hk hki hk0 hno => by
        refine hfree k ok hk hki ?_ hno
        rcases Nat.decEq j k with hjk | rfl
        · rwa [getD_set_ne true hjk] at hk0
        · exact hjun
      obtain ⟨_, h1, h2⟩ := H.2 j (ready_mono hj hji)
      obtain ⟨_, p2, p3⟩ := Oper.apart_spec hap
      refine ⟨hjn, fun hjn' => ?_, fun hjn' o w0 ho hw0 => ?_⟩
      · have hy' : YieldsIn P ops (CT W T) oi v a := hy T hT
        have h4 : qOp P ops (CT W T) j (fun a' => (∃ u, a' = a.put oj.dst u) ∧ headF P md ops W n N z L f T ((listed.setIfInBounds i true).setIfInBounds j true) (a'.put oi.dst v)) a := by
          have h3 := qOp_put hoj hap (fun cs b => hsel i oi cs b hi) (fun cs b => hsel j oj cs b hoj) hy' (h1 hjn')
          unfold qOp at h3 ⊢
          simp only [hoj] at h3 ⊢
          split at h3
          · rename_i hw
            obtain ⟨u, hu, hn⟩ := h3
            rw [if_pos hw]
            exact ⟨u, hu, ⟨u, rfl⟩, hn.2⟩
          · rename_i hw
            rw [if_neg hw]
            exact ⟨⟨undef, rfl⟩, h3.2⟩
        refine qOp_mono (fun a' h5 => ?_) h4
        obtain ⟨⟨u, rfl⟩, h6⟩ := h5
        refine ih T _ _ hT (inv.set hj hjn) hfree' (ready_mono hr (Ne.symm hji)) (hy.put (fun cs b => hsel i oi cs b hi) p3 u) ?_
        rw [Array.setIfInBounds_comm _ _ hji]; exact h6
      · obtain rfl : oj = o := Option.some.inj (hoj.symm.trans ho)
        refine ih _ _ _ (stable_new hT hw0 _) (inv.set hj hjn) hfree' (ready_mono hr (Ne.symm hji)) (hy.put (fun cs b => hsel i oi cs b hi) p3 _) ?_
        have h7 := h2 hjn' oj w0 hoj hw0
        rw [Array.setIfInBounds_comm _ _ hji, Act.put_comm a _ _ p2] at *
        exact h7
    · exact ⟨hjn, fun _ => (hy T hT).qOp hi H, fun h => absurd h (by omega)⟩

/-! The values of the head, read off the frame behind it. -/
def dstOk (M : Nat) : List Oper → Bool
  | [] => true
  | o :: r => (match o.dst with
    | some d => decide (d < M) && r.all fun o' => decide (o'.dst ≠ some d)
    | none => false) && dstOk M r
theorem put_size (a : Act) (d : Option Tmp) (v : Value) : (a.put d v).tmps.size = a.tmps.size := by
  cases d <;> simp [Act.put]
theorem put_other (a : Act) (d : Tmp) (x : Option Tmp) (v : Value) (h : x ≠ some d) : (a.put x v).tmps[d]? = a.tmps[d]? := by
  cases x with
  | none => rfl
  | some y =>
    have : y ≠ d := fun e => h (by rw [e])
    simp [Act.put, this]
theorem put_same (a : Act) (d : Tmp) (v : Value) (h : d < a.tmps.size) : (a.put (some d) v).tmps[d]? = some v := by
  simp [Act.put, h]
theorem fin_keep {C : World → Prop} {afin : Act} (d : Tmp) (l : List Oper) : ∀ a, (∀ o ∈ l, o.dst ≠ some d) → wpQuiet P ops C (fun a' => a' = afin) l a → afin.tmps[d]? = a.tmps[d]? := by
  induction l with
  | nil => intro a _ h; exact congrArg (fun x : Act => x.tmps[d]?) (show afin = a from h.symm)
  | cons o l ih =>
    intro a hd h
    have ho := hd o (List.mem_cons_self ..)
    have hl : ∀ o' ∈ l, o'.dst ≠ some d := fun o' h' => hd o' (List.mem_cons_of_mem _ h')
    unfold wpQuiet at h
    split at h
    · obtain ⟨v, _, h2⟩ := h
      rw [ih _ hl h2, put_other _ _ _ _ ho]
    · rw [ih _ hl h, put_other _ _ _ _ ho]

def lexHeadF (md : Region.Mode) (ops : Array Oper) (endB : Array Bool → Bool) : Nat → Nat → Array Bool → Bool
  | 0, _, listed => endB listed
  | f + 1, k, listed => (Region.ready md ops listed).contains k && Region.free md ops listed k && lexHeadF md ops endB f (k + 1) (listed.setIfInBounds k true)

theorem headF_lex {n N m M : Nat} {z : Nat → Obj} {L : (World → Prop) → Array Bool → Act → Prop} {endB : Array Bool → Bool} {afin : Act}
    (hsel : Region.noSelect ops = true) (hs : Region.sinkB md ops N = true) (hc : Region.chainB md ops N = true) (hN : N < ops.size) (hnN : n ≤ N)
    (hdone : ∀ T listed a, L T listed a → ∀ j ∈ Region.ready md ops listed, N ≤ j)
    (hend : ∀ T listed, Stable W T → endB listed = true → headF P md ops W n N z L m T listed afin) (l : List Oper) :
    ∀ (k : Nat) (T : World → Prop) (listed : Array Bool) (a : Act), Stable W T → (∀ j, j < l.length → l[j]? = ops[k + j]?) → k + l.length = n → HeadInv md ops N listed →
      lexHeadF md ops endB l.length k listed = true → dstOk M l = true → M ≤ a.tmps.size →
      (∀ T, Stable W T → wpQuiet P ops (CT W T) (fun a' => a' = afin) l a) → headF P md ops W n N z L (l.length + m) T listed a := by
  induction l with
  | nil =>
    intro k T listed a hT _ _ _ hB _ _ h
    have : a = afin := h _ hT
    subst this
    simpa using hend T listed hT hB
  | cons o l ih =>
    intro k T listed a hT hl hk inv hB hd hM h
    have h0 : ops[k]? = some o := by simpa using (hl 0 (by simp)).symm
    simp only [List.length_cons, lexHeadF, Bool.and_eq_true] at hB hk
    have hr : k ∈ Region.ready md ops listed := by simpa using hB.1.1
    simp only [dstOk, Bool.and_eq_true] at hd
    obtain ⟨hd1, hd2⟩ := hd
    cases hdst : o.dst with
    | none => rw [hdst] at hd1; cases hd1
    | some d =>
      rw [hdst] at hd1
      simp only [Bool.and_eq_true, decide_eq_true_eq, List.all_eq_true] at hd1
      obtain ⟨hdM, hdl⟩ := hd1
      have key : ∃ v, AllYield P ops W o v a ∧ ∀ T, Stable W T → wpQuiet P ops (CT W T) (fun a' => a' = afin) l (a.put o.dst v) := by
        by_cases hw : Region.wanted o (yielded ops a.tmps) = true
        · refine ⟨(afin.tmps[d]?).getD undef, fun T' hT' => ?_, fun T' hT' => ?_⟩
          all_goals
            have h1 := h T' hT'
            unfold wpQuiet at h1
            rw [if_pos hw] at h1
            obtain ⟨v, hv, h2⟩ := h1
            have e : afin.tmps[d]? = some v := by
              rw [fin_keep d l _ hdl h2, hdst, put_same _ _ _ (Nat.lt_of_lt_of_le hdM hM)]
            rw [e]
          · exact Or.inl ⟨hw, hv⟩
          · exact h2
        · refine ⟨undef, fun T' _ => Or.inr ⟨by simpa using hw, rfl⟩, fun T' hT' => ?_⟩
          have h1 := h T' hT'
          unfold wpQuiet at h1
          rwa [if_neg hw] at h1
      obtain ⟨v, hy, hnext⟩ := key
      rw [List.length_cons, show l.length + 1 + m = (l.length + m) + 1 by omega]
      refine headF_take h0 (Region.noSelect_spec hsel) hs hc hN (by omega) hnN hdone (l.length + m) T listed a hT inv (Region.free_spec h0 hB.1.2) hr hy ?_
      exact ih (k + 1) T _ _ hT (fun j hj => by have := hl (j + 1) (by simp; omega); simpa [Nat.add_assoc, Nat.add_comm 1 j] using this) (by omega) (inv.set hr (by omega)) hB.2 hd2 (by rw [put_size]; exact hM) hnext

/-! The worlds that a walk goes through, for any T. -/
def MoreT (W : World) (T : World → Prop) : Type := { v : World // CT W T v }
def overT (W : World) (T : World → Prop) (x : MoreT W T) : World := x.1
@[simp, go_sem] theorem overT_cell (W : World) (T : World → Prop) (x : MoreT W T) (b o : Nat) (h : b < W.heap.size) : (overT W T x).cell? ⟨b, o, none⟩ = W.cell? ⟨b, o, none⟩ := x.2.1.cell (p := ⟨b, o, none⟩) h
@[simp, go_sem] theorem overT_frozen (W : World) (T : World → Prop) (x : MoreT W T) (b o : Nat) (h : b < W.heap.size) : (overT W T x).frozen? ⟨b, o, none⟩ = W.frozen? ⟨b, o, none⟩ := x.2.1.frozen (p := ⟨b, o, none⟩) h
theorem Stable.some {T : World → Prop} (hT : Stable W T) : Nonempty (MoreT W T) := ⟨⟨hT.ne.choose, hT.ne.choose_spec⟩⟩
theorem class_eq (W : World) (T : World → Prop) : (fun w' => ∃ x, w' = overT W T x) = CT W T :=
  funext fun w' => propext ⟨fun ⟨x, h⟩ => h ▸ x.2, fun h => ⟨⟨w', h⟩, rfl⟩⟩
theorem calls_overT {f : FuncId} {args : Array Value} {T : World → Prop} (hT : Stable W T) {x : MoreT W T} {v : Value}
    (h : Calls P f args (overT W T x) fun e w' => e = .returned v ∧ Below (overT W T x).heap.size (overT W T x) w') : Calls P f args (overT W T x) fun e w'' => e = .returned v ∧ ∃ y, w'' = overT W T y :=
  h.mono fun _ w' ⟨he, hb⟩ => ⟨he, ⟨w', x.2.grow hT hb⟩, rfl⟩
theorem calls_overT_same {f : FuncId} {args : Array Value} {T : World → Prop} {x : MoreT W T} {v : Value}
    (h : Calls P f args (overT W T x) fun e w' => e = .returned v ∧ w' = overT W T x) : Calls P f args (overT W T x) fun e w'' => e = .returned v ∧ ∃ y, w'' = overT W T y :=
  h.mono fun _ _ ⟨he, hb⟩ => ⟨he, x, hb⟩

def floatB1 (ops : Array Oper) (n M : Nat) : Bool :=
  Region.noSelect ops && decide (n + 1 < ops.size) && Region.sinkB .any ops (n + 1) && Region.chainB .any ops (n + 1) && dstOk M (ops.toList.take n) &&
  lexHeadF .any ops (fun listed => decide (Region.ready .any ops listed = [n]) && Region.seqB .any ops (ops.size - (n + 1)) (n + 1) (listed.setIfInBounds n true)) n 0 (Array.replicate ops.size false)

theorem true_stable (W : World) : Stable W (fun _ => True) := ⟨⟨W, Below.refl _ _, trivial⟩, fun _ _ _ _ => trivial⟩

/-- One new cell, made at any time. -/
theorem wp_region_float1 {id : Nat} {Q : Exit → Act → World → Prop} {a : Act} {l : List Oper} (n M : Nat) (d : Tmp) (z : Obj) (afin : Act) (hmix : P.follows .mixedOrders = true) (hB : floatB1 l.toArray n M = true)
    (hmk : Makes P l.toArray n (n + 1) (fun _ => z)) (hdst : (l[n]?).bind (fun o => o.dst) = some d) (hM : M ≤ a.tmps.size)
    (h : ∀ T, Stable W T → wpQuiet P l.toArray (fun w' => ∃ x, w' = overT W T x) (fun a' => a' = afin) (l.take n) a)
    (htail : ∀ b w', Below W.heap.size W w' → W.heap.size ≤ b → w'.heap[b]? = some z → wpList P l.toArray Q (l.drop (n + 1)) (afin.put (some d) (ptrTo b)) w') : (Code.region id l.toArray true).wp P Q a W := by
  simp only [floatB1, Bool.and_eq_true, decide_eq_true_eq] at hB
  obtain ⟨⟨⟨⟨⟨hsel, hn⟩, hs⟩, hc⟩, hd⟩, hlex⟩ := hB
  have hn' : n + 1 < l.length := by simpa using hn
  have htl : (l.take n).length = n := by simp; omega
  have hdl : (l.drop (n + 1)).length = l.toArray.size - (n + 1) := by simp
  have inv0 : HeadInv .any l.toArray (n + 1) (Array.replicate l.toArray.size false) :=
    ⟨by simp, fun j oj _ hl => absurd hl (by rw [getD_replicate_false]; exact Bool.false_ne_true), fun t _ ht => getD_in (by simpa using ht) (getD_replicate_false _ _)⟩
  have H := headF_lex (P := P) (md := .any) (W := W) (n := n) (N := n + 1) (m := 1) (M := M) (z := fun _ => z) (afin := afin)
    (L := fun T listed a => Region.seqB .any l.toArray (l.toArray.size - (n + 1)) (n + 1) listed = true ∧ ∀ w, CT W T w → wpList P l.toArray Q (l.drop (n + 1)) a w)
    (endB := fun listed => decide (Region.ready .any l.toArray listed = [n]) && Region.seqB .any l.toArray (l.toArray.size - (n + 1)) (n + 1) (listed.setIfInBounds n true))
    hsel hs hc hn (by omega) (fun _ _ _ hL => seqB_ready hL.1) (fun T listed hT he => by
      simp only [Bool.and_eq_true, decide_eq_true_eq] at he
      refine ⟨by rw [he.1]; simp, fun i hi => ?_⟩
      rw [he.1] at hi
      obtain rfl : i = n := by simpa using hi
      refine ⟨by omega, fun h => absurd h (by omega), fun _ o w0 ho hw0 => ⟨he.2, fun w hw => ?_⟩⟩
      have ho' : l[i]? = some o := by simpa using ho
      rw [ho'] at hdst
      rw [show o.dst = some d from hdst]
      have hb := hw.2.2
      refine htail _ w hw.1 hw0.1.size ?_
      rw [hb.block w0.heap.size (by simp), heap_alloc_new])
    (l.take n) 0 (fun _ => True) _ a (true_stable W) (fun j hj => by rw [htl] at hj; simp [hj]) (by simpa using htl) inv0 (by rw [htl]; exact hlex) (by simpa using hd) hM
    (fun T hT => by have := h T hT; rwa [class_eq] at this)
  refine wp_region_any hmix ?_
  have := any_of_headF (Q' := Q) (g := l.toArray.size - (n + 1)) hmk (fun T listed a' w' _ hw' hL => by
    have := wpAny_of_seq (md := .any) (Q' := Q) (l.drop (n + 1)) (n + 1) listed a' w' (fun j => by simp [List.getElem?_drop]) (by rw [hdl]; exact hL.1) (hL.2 w' hw')
    rwa [hdl] at this) _ _ _ _ _ (true_stable W) ⟨below_drawn W, trivial⟩ H
  rw [htl, show n + 1 + (l.toArray.size - (n + 1)) = l.toArray.size by omega] at this
  exact this
end Go.Proofs.Ytafheinapjfbaaa
