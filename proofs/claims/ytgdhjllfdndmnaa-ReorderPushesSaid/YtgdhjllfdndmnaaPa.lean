/-
  Mathematics of events out of order: buffers, the events that wait, and what is released.
-/
import Derived.Test.YtgdhjllfdndmnaaRb
namespace Go.Proofs.Ytgdhjllfdndmnaa
namespace Rd

/-- a buffer -/
structure Bf where
  bound : Int
  latest : Int
  mark : Int
  wait : List Ev
  deriving DecidableEq
def Asc (l : List Ev) : Prop := l.Pairwise (fun a b => a.time ≤ b.time)
instance (l : List Ev) : Decidable (Asc l) := by unfold Asc; exact inferInstance
def okE (b : Bf) (e : Ev) : Prop := chkE e = 0 ∧ b.mark < e.time ∧ e.time ≤ b.latest
instance (b : Bf) (e : Ev) : Decidable (okE b e) := by unfold okE; exact inferInstance
def V (b : Bf) : Prop := 0 ≤ b.bound ∧ b.bound ≤ 1048576 ∧ -1 ≤ b.mark ∧ b.mark ≤ b.latest ∧ b.latest ≤ 1048576 ∧ b.wait.length ≤ 4096 ∧ (∀ e ∈ b.wait, okE b e) ∧ Asc b.wait
instance (b : Bf) : Decidable (V b) := by unfold V; exact inferInstance
/-- those up to a time, those behind it -/
def upto (m : Int) (l : List Ev) : List Ev := l.filter fun e => decide (e.time ≤ m)
def behind (m : Int) (l : List Ev) : List Ev := l.filter fun e => decide (m < e.time)
/-- an event put behind all of its time or earlier ones -/
def ins (e : Ev) (l : List Ev) : List Ev := upto e.time l ++ e :: behind e.time l
/-- what is released up to a time -/
def rel (b : Bf) (m : Int) : Bf × List Ev := (⟨b.bound, b.latest, max b.mark m, behind m b.wait⟩, upto m b.wait)
/-- the buffer with one event more, before anything is released -/
def put (b : Bf) (e : Ev) : Bf := ⟨b.bound, max b.latest e.time, b.mark, ins e b.wait⟩
/-- the error of Push: ErrForm 4, ErrLate 10, ErrLimit 3 -/
def pushE (b : Bf) (e : Ev) : Int := if ¬ V b then 4 else if chkE e ≠ 0 then chkE e else if e.time ≤ b.mark then 10 else if 4096 ≤ b.wait.length then 3 else 0
def pushed (b : Bf) (e : Ev) : Bf × List Ev := rel (put b e) (max b.latest e.time - b.bound - 1)
/-- the loop of Sort: what was released, how many were late, or the first error -/
def sortS : Bf → List Ev → Int → List Ev → List Ev × Int × Int
  | b, out, n, [] => (out ++ upto b.latest b.wait, n, 0)
  | b, out, n, e :: l => if pushE b e = 10 then sortS b out (n + 1) l else if pushE b e ≠ 0 then ([], 0, pushE b e) else sortS (pushed b e).1 (out ++ (pushed b e).2) n l
def opened (k : Int) : Bf := ⟨k, -1, -1, []⟩

theorem asc_split (m : Int) (l : List Ev) (h : Asc l) : upto m l ++ behind m l = l := by
  induction l with
  | nil => rfl
  | cons a l ih =>
    have h1 := List.pairwise_cons.1 h
    have i := ih h1.2
    unfold upto behind at i ⊢
    by_cases ha : a.time ≤ m
    · rw [List.filter_cons_of_pos (by simpa using ha), List.filter_cons_of_neg (by simp; omega), List.cons_append, i]
    · have e1 : l.filter (fun e => decide (e.time ≤ m)) = [] := by
        rw [List.filter_eq_nil_iff]
        intro x hx
        have := h1.1 x hx
        simp; omega
      rw [e1] at i
      rw [List.filter_cons_of_neg (by simpa using ha), e1, List.filter_cons_of_pos (by simp; omega)]
      simpa using i
theorem upto_mem {m : Int} {l : List Ev} {x : Ev} : x ∈ upto m l ↔ x ∈ l ∧ x.time ≤ m := by simp [upto]
theorem behind_mem {m : Int} {l : List Ev} {x : Ev} : x ∈ behind m l ↔ x ∈ l ∧ m < x.time := by simp [behind]
theorem asc_upto {m : Int} {l : List Ev} (h : Asc l) : Asc (upto m l) := List.Pairwise.filter _ h
theorem asc_behind {m : Int} {l : List Ev} (h : Asc l) : Asc (behind m l) := List.Pairwise.filter _ h
theorem ins_mem {e x : Ev} {l : List Ev} : x ∈ ins e l ↔ x = e ∨ x ∈ l := by
  unfold ins
  rw [List.mem_append, List.mem_cons, upto_mem, behind_mem]
  constructor
  · rintro (⟨h, -⟩ | h | ⟨h, -⟩)
    · exact .inr h
    · exact .inl h
    · exact .inr h
  · rintro (h | h)
    · exact .inr (.inl h)
    · by_cases ht : x.time ≤ e.time
      · exact .inl ⟨h, ht⟩
      · exact .inr (.inr ⟨h, by omega⟩)
theorem ins_asc {e : Ev} {l : List Ev} (h : Asc l) : Asc (ins e l) := by
  unfold ins
  refine List.pairwise_append.2 ⟨asc_upto h, List.pairwise_cons.2 ⟨fun x hx => ?_, asc_behind h⟩, fun x hx y hy => ?_⟩
  · have := (behind_mem.1 hx).2; omega
  · have h1 := (upto_mem.1 hx).2
    rcases List.mem_cons.1 hy with rfl | hy
    · exact h1
    · have := (behind_mem.1 hy).2; omega
theorem len_split (m : Int) (l : List Ev) : (upto m l).length + (behind m l).length = l.length := by
  induction l with
  | nil => rfl
  | cons a l ih =>
    unfold upto behind at ih ⊢
    by_cases ha : a.time ≤ m
    · rw [List.filter_cons_of_pos (by simpa using ha), List.filter_cons_of_neg (by simp; omega)]
      simp only [List.length_cons]; omega
    · rw [List.filter_cons_of_neg (by simpa using ha), List.filter_cons_of_pos (by simp; omega)]
      simp only [List.length_cons]; omega
theorem ins_len (e : Ev) (l : List Ev) : (ins e l).length = l.length + 1 := by
  unfold ins
  rw [List.length_append, List.length_cons]
  have := len_split e.time l
  omega
theorem upto_all {m : Int} {l : List Ev} (h : ∀ x ∈ l, x.time ≤ m) : upto m l = l := List.filter_eq_self.2 fun x hx => by simpa using h x hx
theorem upto_none {m : Int} {l : List Ev} (h : ∀ x ∈ l, m < x.time) : upto m l = [] := List.filter_eq_nil_iff.2 fun x hx => by have := h x hx; simp; omega
theorem behind_all {m : Int} {l : List Ev} (h : ∀ x ∈ l, m < x.time) : behind m l = l := List.filter_eq_self.2 fun x hx => by simpa using h x hx
theorem behind_none {m : Int} {l : List Ev} (h : ∀ x ∈ l, x.time ≤ m) : behind m l = [] := List.filter_eq_nil_iff.2 fun x hx => by have := h x hx; simp; omega
/-- behind earlier ones -/
theorem ins_app {e : Ev} {o l : List Ev} (h : ∀ x ∈ o, x.time ≤ e.time) : ins e (o ++ l) = o ++ ins e l := by
  have h1 : upto e.time (o ++ l) = o ++ upto e.time l := by rw [upto, List.filter_append]; exact congrArg (· ++ _) (upto_all h)
  have h2 : behind e.time (o ++ l) = behind e.time l := by rw [behind, List.filter_append]; exact (congrArg (· ++ _) (behind_none h)).trans (by simp [behind])
  unfold ins
  rw [h1, h2, List.append_assoc]
/-- the place at which an event is put into an ascending list, found from its end -/
theorem ins_take {e : Ev} {l : List Ev} (h : Asc l) : ins e l = l.take (upto e.time l).length ++ e :: l.drop (upto e.time l).length := by
  have hs := asc_split e.time l h
  have h1 : l.take (upto e.time l).length = upto e.time l := by
    have := List.take_left (l₁ := upto e.time l) (l₂ := behind e.time l)
    rwa [hs] at this
  have h2 : l.drop (upto e.time l).length = behind e.time l := by
    have := List.drop_left (l₁ := upto e.time l) (l₂ := behind e.time l)
    rwa [hs] at this
  rw [h1, h2]; rfl
/-- a loop from the end that stands at place i: all behind it are later -/
theorem upto_len {e : Ev} {l : List Ev} (h : Asc l) {i : Nat} (hi : i ≤ l.length) (h1 : ∀ j a, i ≤ j → l[j]? = some a → e.time < a.time) (h2 : i = 0 ∨ ∃ a, l[i - 1]? = some a ∧ a.time ≤ e.time) : (upto e.time l).length = i := by
  have ht : upto e.time l = l.take i := by
    have hl : l = l.take i ++ l.drop i := (List.take_append_drop i l).symm
    have e2 : upto e.time (l.drop i) = [] := upto_none fun x hx => by
      obtain ⟨j, hj, rfl⟩ := List.getElem_of_mem hx
      rw [List.getElem_drop]
      exact h1 (i + j) _ (by omega) (List.getElem?_eq_getElem _)
    have e1 : upto e.time (l.take i) = l.take i := upto_all fun x hx => by
      obtain ⟨j, hj, rfl⟩ := List.getElem_of_mem hx
      rw [List.getElem_take]
      rw [List.length_take] at hj
      rcases h2 with h2 | ⟨a, ha, hle⟩
      · omega
      · obtain ⟨hlt, rfl⟩ := List.getElem?_eq_some_iff.1 ha
        by_cases hji : j = i - 1
        · subst hji; exact hle
        · have := List.pairwise_iff_getElem.1 h j (i - 1) (by omega) hlt (by omega)
          omega
    conv => lhs; rw [hl]
    rw [upto, List.filter_append]
    show upto e.time (l.take i) ++ upto e.time (l.drop i) = _
    rw [e1, e2, List.append_nil]
  rw [ht, List.length_take]
  omega
/-! what Push and Flush do to a valid buffer -/
theorem put_ok {b : Bf} {e x : Ev} (hV : V b) (hc : chkE e = 0) (hm : b.mark < e.time) (hx : x ∈ ins e b.wait) : chkE x = 0 ∧ b.mark < x.time ∧ x.time ≤ max b.latest e.time := by
  obtain ⟨h1, h2, h3, h4, h5, h6, h7, h8⟩ := hV
  rcases ins_mem.1 hx with rfl | hx
  · exact ⟨hc, hm, by omega⟩
  · obtain ⟨a1, a2, a3⟩ := h7 x hx
    exact ⟨a1, a2, by omega⟩
theorem pushed_valid {b : Bf} {e : Ev} (hV : V b) (hc : chkE e = 0) (ht : e.time ≤ 1048576) (hm : b.mark < e.time) (hl : b.wait.length < 4096) : V (pushed b e).1 := by
  obtain ⟨h1, h2, h3, h4, h5, h6, h7, h8⟩ := hV
  refine ⟨h1, h2, ?_, ?_, ?_, ?_, fun x hx => ?_, asc_behind (ins_asc h8)⟩
  · show -1 ≤ max b.mark (max b.latest e.time - b.bound - 1); omega
  · show max b.mark (max b.latest e.time - b.bound - 1) ≤ max b.latest e.time; omega
  · show max b.latest e.time ≤ 1048576; omega
  · show (behind _ (ins e b.wait)).length ≤ 4096
    have := len_split (max b.latest e.time - b.bound - 1) (ins e b.wait)
    have := ins_len e b.wait
    omega
  · obtain ⟨hx1, hx2⟩ := behind_mem.1 hx
    obtain ⟨a1, a2, a3⟩ := put_ok ⟨h1, h2, h3, h4, h5, h6, h7, h8⟩ hc hm hx1
    refine ⟨a1, ?_, a3⟩
    show max b.mark (max b.latest e.time - b.bound - 1) < x.time
    omega
theorem opened_valid {k : Int} (h0 : 0 ≤ k) (h1 : k ≤ 1048576) : V (opened k) := ⟨h0, h1, by show (-1 : Int) ≤ -1; omega, by show (-1 : Int) ≤ -1; omega, by show (-1 : Int) ≤ 1048576; omega, by simp [opened], fun x hx => by simp [opened] at hx, List.Pairwise.nil⟩
/-! a list of events, one after the other -/
/-- the sort of the law: each event behind all of its time or earlier ones -/
def stab (l : List Ev) : List Ev := l.foldl (fun o e => ins e o) []
theorem stab_asc (l : List Ev) : Asc (stab l) := by
  unfold stab
  have key : ∀ (l o : List Ev), Asc o → Asc (l.foldl (fun o e => ins e o) o) := by
    intro l
    induction l with
    | nil => exact fun _ h => h
    | cons e l ih => exact fun o h => ih _ (ins_asc h)
  exact key l [] List.Pairwise.nil
theorem stab_snoc (l : List Ev) (e : Ev) : stab (l ++ [e]) = ins e (stab l) := by simp [stab, List.foldl_append]
theorem stab_len (l : List Ev) : (stab l).length = l.length := by
  have key : ∀ (l o : List Ev), (l.foldl (fun o e => ins e o) o).length = o.length + l.length := by
    intro l
    induction l with
    | nil => simp
    | cons e l ih =>
      intro o
      have h1 := ih (ins e o)
      have h2 := ins_len e o
      simp only [List.foldl_cons, List.length_cons]
      omega
  have := key l []
  simpa [stab] using this
/-- the state of a run: the buffer, what was released, what was taken -/
structure Run (k : Int) (b : Bf) (out taken : List Ev) : Prop where
  v : V b
  bd : b.bound = k
  st : out ++ b.wait = stab taken
  low : ∀ x ∈ out, x.time ≤ b.mark
  mrk : b.mark = max (-1) (b.latest - k - 1)
theorem run_start {k : Int} (h0 : 0 ≤ k) (h1 : k ≤ 1048576) : Run k (opened k) [] [] := ⟨opened_valid h0 h1, rfl, rfl, fun x hx => by simp at hx, by show (-1 : Int) = max (-1) (-1 - k - 1); omega⟩
theorem run_push {k : Int} {b : Bf} {out taken : List Ev} {e : Ev} (h : Run k b out taken) (hc : chkE e = 0) (ht : e.time ≤ 1048576) (hm : b.mark < e.time) (hl : b.wait.length < 4096) : Run k (pushed b e).1 (out ++ (pushed b e).2) (taken ++ [e]) := by
  have hbd := h.bd
  have hmk := h.mrk
  refine ⟨pushed_valid h.v hc ht hm hl, hbd, ?_, fun x hx => ?_, ?_⟩
  · rw [stab_snoc, ← h.st, ins_app (fun x hx => by have := h.low x hx; omega), List.append_assoc]
    exact congrArg (out ++ ·) (asc_split _ _ (ins_asc h.v.2.2.2.2.2.2.2))
  · show x.time ≤ max b.mark (max b.latest e.time - b.bound - 1)
    rcases List.mem_append.1 hx with hx | hx
    · have := h.low x hx; omega
    · have := (upto_mem.1 hx).2; omega
  · show max b.mark (max b.latest e.time - b.bound - 1) = max (-1) (max b.latest e.time - k - 1)
    omega
theorem run_len {k : Int} {b : Bf} {out taken : List Ev} (h : Run k b out taken) : out.length + b.wait.length = taken.length := by
  have := congrArg List.length h.st
  rw [stab_len, List.length_append] at this
  exact this
theorem run_flush {k : Int} {b : Bf} {out taken : List Ev} (h : Run k b out taken) : upto b.latest b.wait = b.wait := upto_all fun x hx => (h.v.2.2.2.2.2.2.1 x hx).2.2
/-! which events are late -/
/-- the events that are late and those that are taken, by the latest time so far -/
def lates (k : Int) : Int → List Ev → Nat
  | _, [] => 0
  | L, e :: l => (if e.time ≤ max (-1) (L - k - 1) then 1 else 0) + lates k (max L e.time) l
theorem lates_more (k : Int) (l : List Ev) : ∀ L, lates (k + 1) L l ≤ lates k L l := by
  induction l with
  | nil => intro L; exact Nat.le_refl _
  | cons e l ih =>
    intro L
    have := ih (max L e.time)
    unfold lates
    split
    · rw [if_pos (by omega)]; omega
    · split <;> omega
/-- an event that is far behind the latest one -/
def far (k : Int) : Int → List Ev → Bool
  | _, [] => false
  | L, e :: l => decide (L - e.time > k) || far k (max L e.time) l
theorem far_late (k : Int) (_ : 0 ≤ k) (l : List Ev) : ∀ L, (∀ e ∈ l, 0 ≤ e.time) → far k L l = false → lates k L l = 0 := by
  induction l with
  | nil => intro L _ _; rfl
  | cons e l ih =>
    intro L h hf
    unfold far at hf
    rw [Bool.or_eq_false_iff, decide_eq_false_iff_not] at hf
    have h0 := h e (by simp)
    unfold lates
    rw [if_neg (by omega), ih _ (fun x hx => h x (by simp [hx])) hf.2]
theorem far_start (k : Int) (_ : 0 ≤ k) (l : List Ev) (h : ∀ e ∈ l, 0 ≤ e.time) : far k (-1) l = far k 0 l := by
  cases l with
  | nil => rfl
  | cons e l =>
    have := h e (by simp)
    unfold far
    rw [show max (-1) e.time = max 0 e.time by omega, show decide (-1 - e.time > k) = decide (0 - e.time > k) by rw [decide_eq_decide]; constructor <;> intro h <;> omega]
theorem late_iff {k : Int} {b : Bf} {out taken : List Ev} {e : Ev} (h : Run k b out taken) : e.time ≤ b.mark ↔ e.time ≤ max (-1) (b.latest - k - 1) := by rw [h.mrk]
theorem pushE_late {b : Bf} {e : Ev} (hV : V b) (hc : chkE e = 0) (hm : e.time ≤ b.mark) : pushE b e = 10 := by
  unfold pushE; rw [if_neg (by simpa using hV), if_neg (by simpa using hc), if_pos hm]
theorem pushE_ok {b : Bf} {e : Ev} (hV : V b) (hc : chkE e = 0) (hm : ¬ e.time ≤ b.mark) (hl : b.wait.length < 4096) : pushE b e = 0 := by
  unfold pushE; rw [if_neg (by simpa using hV), if_neg (by simpa using hc), if_neg hm, if_neg (by omega)]
/-- Sort of a short list of valid events -/
theorem sort_run {k : Int} (l : List Ev) : ∀ (b : Bf) (out taken : List Ev) (n : Int), Run k b out taken → (∀ e ∈ l, chkE e = 0 ∧ e.time ≤ 1048576) → taken.length + l.length < 4096 →
    ∃ tk : List Ev, sortS b out n l = (stab (taken ++ tk), n + lates k b.latest l, 0) ∧ tk.length + lates k b.latest l = l.length ∧ (lates k b.latest l = 0 → tk = l) := by
  induction l with
  | nil =>
    intro b out taken n h _ _
    refine ⟨[], ?_, rfl, fun _ => rfl⟩
    have := h.st
    unfold sortS
    rw [run_flush h, this, List.append_nil]
    simp [lates]
  | cons e l ih =>
    intro b out taken n h hl hlen
    obtain ⟨hc, ht⟩ := hl e (by simp)
    have hw := run_len h
    simp only [List.length_cons] at hlen
    have hl' : ∀ x ∈ l, chkE x = 0 ∧ x.time ≤ 1048576 := fun x hx => hl x (by simp [hx])
    by_cases hm : e.time ≤ b.mark
    · have hle : max b.latest e.time = b.latest := by have := h.v.2.2.2.1; omega
      obtain ⟨tk, h1, h2, -⟩ := ih b out taken (n + 1) h hl' (by omega)
      refine ⟨tk, ?_, ?_, fun h0 => ?_⟩
      · unfold sortS lates
        rw [if_pos (pushE_late h.v hc hm), if_pos ((late_iff h).1 hm), hle, h1]
        simp only [Prod.mk.injEq, true_and, and_true]
        omega
      · unfold lates
        rw [if_pos ((late_iff h).1 hm), hle, List.length_cons]
        omega
      · unfold lates at h0
        rw [if_pos ((late_iff h).1 hm)] at h0
        omega
    · have hlt : b.mark < e.time := by omega
      have hp := pushE_ok h.v hc hm (by omega)
      have hr := run_push h hc ht hlt (by omega)
      obtain ⟨tk, h1, h2, h3⟩ := ih _ _ _ n hr hl' (by simp; omega)
      have hL : (pushed b e).1.latest = max b.latest e.time := rfl
      rw [hL] at h1 h2 h3
      refine ⟨e :: tk, ?_, ?_, fun h0 => ?_⟩
      · unfold sortS lates
        rw [if_neg (by rw [hp]; decide), if_neg (by rw [hp]; decide), if_neg (fun hh => hm ((late_iff h).2 hh)), h1, List.append_assoc, Nat.zero_add]
        rfl
      · unfold lates
        rw [if_neg (fun hh => hm ((late_iff h).2 hh)), List.length_cons, List.length_cons]
        omega
      · unfold lates at h0
        rw [if_neg (fun hh => hm ((late_iff h).2 hh)), Nat.zero_add] at h0
        rw [h3 h0]
end Rd
end Go.Proofs.Ytgdhjllfdndmnaa
