/-
  As the text Fl: a region that draws its order, now with TWO new cells whose making may come at any time.
-/
import Derived.Test.YtafheinapjfbaaaFl
namespace Go.Proofs.Ytafheinapjfbaaa
open Go.RowKit
variable {P : Program} {W : World}
def end2 (ops : Array Oper) (n : Nat) (listed : Array Bool) : Bool :=
  decide (Region.ready .any ops listed = [n, n + 1]) && decide (Region.ready .any ops (listed.setIfInBounds n true) = [n + 1]) && decide (Region.ready .any ops (listed.setIfInBounds (n + 1) true) = [n]) &&
  Region.seqB .any ops (ops.size - (n + 2)) (n + 2) ((listed.setIfInBounds n true).setIfInBounds (n + 1) true)
def floatB2 (ops : Array Oper) (n M : Nat) : Bool :=
  Region.noSelect ops && decide (n + 2 < ops.size) && Region.sinkB .any ops (n + 2) && Region.chainB .any ops (n + 2) && dstOk M (ops.toList.take n) &&
  lexHeadF .any ops (end2 ops n) n 0 (Array.replicate ops.size false)

/-- Two new cells, made at any time. -/
theorem wp_region_float2 {id : Nat} {Q : Exit → Act → World → Prop} {a : Act} {l : List Oper} (n M : Nat) (d1 d2 : Tmp) (z1 z2 : Obj) (afin : Act) (hmix : P.follows .mixedOrders = true) (hB : floatB2 l.toArray n M = true)
    (hmk : Makes P l.toArray n (n + 2) (fun i => if i = n then z1 else z2)) (hd1 : (l[n]?).bind (fun o => o.dst) = some d1) (hd2 : (l[n + 1]?).bind (fun o => o.dst) = some d2) (hne : d1 ≠ d2) (hM : M ≤ a.tmps.size)
    (h : ∀ T, Stable W T → wpQuiet P l.toArray (fun w' => ∃ x, w' = overT W T x) (fun a' => a' = afin) (l.take n) a)
    (htail : ∀ b1 b2 w', Below W.heap.size W w' → W.heap.size ≤ b1 → W.heap.size ≤ b2 → b1 ≠ b2 → w'.heap[b1]? = some z1 → w'.heap[b2]? = some z2 →
      wpList P l.toArray Q (l.drop (n + 2)) ((afin.put (some d1) (ptrTo b1)).put (some d2) (ptrTo b2)) w') : (Code.region id l.toArray true).wp P Q a W := by
  simp only [floatB2, Bool.and_eq_true, decide_eq_true_eq] at hB
  obtain ⟨⟨⟨⟨⟨hsel, hn⟩, hs⟩, hc⟩, hd⟩, hlex⟩ := hB
  have hn' : n + 2 < l.length := by simpa using hn
  have htl : (l.take n).length = n := by simp; omega
  have hdl : (l.drop (n + 2)).length = l.toArray.size - (n + 2) := by simp
  have inv0 : HeadInv .any l.toArray (n + 2) (Array.replicate l.toArray.size false) :=
    ⟨by simp, fun j oj _ hl => absurd hl (by rw [getD_replicate_false]; exact Bool.false_ne_true), fun t _ ht => getD_in (by simpa using ht) (getD_replicate_false _ _)⟩
  have H := headF_lex (P := P) (md := .any) (W := W) (n := n) (N := n + 2) (m := 2) (M := M) (z := fun i => if i = n then z1 else z2) (afin := afin)
    (L := fun T listed a => Region.seqB .any l.toArray (l.toArray.size - (n + 2)) (n + 2) listed = true ∧ ∀ w, CT W T w → wpList P l.toArray Q (l.drop (n + 2)) a w)
    (endB := end2 l.toArray n)
    hsel hs hc hn (by omega) (fun _ _ _ hL => seqB_ready hL.1) (fun T listed hT he => by
      simp only [end2, Bool.and_eq_true, decide_eq_true_eq] at he
      obtain ⟨⟨⟨he1, he2⟩, he3⟩, he4⟩ := he
      refine ⟨by rw [he1]; simp, fun i hi => ?_⟩
      rw [he1] at hi
      rcases (by simpa using hi : i = n ∨ i = n + 1) with rfl | rfl
      · refine ⟨by omega, fun h => absurd h (by omega), fun _ o w0 ho hw0 => ?_⟩
        refine ⟨by rw [he2]; simp, fun j hj => ?_⟩
        rw [he2] at hj
        obtain rfl : j = i + 1 := by simpa using hj
        refine ⟨by omega, fun h => absurd h (by omega), fun _ o' w1 ho' hw1 => ⟨he4, fun w hw => ?_⟩⟩
        have e1 : l[i]? = some o := by simpa using ho
        have e2 : l[i + 1]? = some o' := by simpa using ho'
        rw [e1] at hd1; rw [e2] at hd2
        rw [show o.dst = some d1 from hd1, show o'.dst = some d2 from hd2]
        have hb1 := hw.2.1.2
        have hb2 := hw.2.2
        have hs1 := hw1.2.2.size
        simp only [if_true] at hb1 hs1
        simp only [if_neg (show ¬ (i + 1 = i) by omega)] at hb2
        refine htail _ _ w hw.1 hw0.1.size hw1.1.size (by simp at hs1; omega) ?_ ?_
        · rw [hb1.block w0.heap.size (by simp), heap_alloc_new]
        · rw [hb2.block w1.heap.size (by simp), heap_alloc_new]
      · refine ⟨by omega, fun h => absurd h (by omega), fun _ o w0 ho hw0 => ?_⟩
        refine ⟨by rw [he3]; simp, fun j hj => ?_⟩
        rw [he3] at hj
        obtain rfl : j = n := by simpa using hj
        refine ⟨by omega, fun h => absurd h (by omega), fun _ o' w1 ho' hw1 => ⟨by rw [Array.setIfInBounds_comm _ _ (by omega)]; exact he4, fun w hw => ?_⟩⟩
        have e1 : l[j + 1]? = some o := by simpa using ho
        have e2 : l[j]? = some o' := by simpa using ho'
        rw [e1] at hd2; rw [e2] at hd1
        rw [show o.dst = some d2 from hd2, show o'.dst = some d1 from hd1, Act.put_comm _ _ _ (fun d hd => by cases hd; exact fun h => hne (by cases h; rfl))]
        have hb1 := hw.2.1.2
        have hb2 := hw.2.2
        have hs1 := hw1.2.2.size
        simp only [if_neg (show ¬ (j + 1 = j) by omega)] at hb1 hs1
        simp only [if_true] at hb2
        refine htail _ _ w hw.1 hw1.1.size hw0.1.size (by simp at hs1; omega) ?_ ?_
        · rw [hb2.block w1.heap.size (by simp), heap_alloc_new]
        · rw [hb1.block w0.heap.size (by simp), heap_alloc_new])
    (l.take n) 0 (fun _ => True) _ a (true_stable W) (fun j hj => by rw [htl] at hj; simp [hj]) (by simpa using htl) inv0 (by rw [htl]; exact hlex) (by simpa using hd) hM
    (fun T hT => by have := h T hT; rwa [class_eq] at this)
  refine wp_region_any hmix ?_
  have := any_of_headF (Q' := Q) (g := l.toArray.size - (n + 2)) hmk (fun T listed a' w' _ hw' hL => by
    have := wpAny_of_seq (md := .any) (Q' := Q) (l.drop (n + 2)) (n + 2) listed a' w' (fun j => by simp [List.getElem?_drop]) (by rw [hdl]; exact hL.1) (hL.2 w' hw')
    rwa [hdl] at this) _ _ _ _ _ (true_stable W) ⟨below_drawn W, trivial⟩ H
  rw [htl, show n + 2 + (l.toArray.size - (n + 2)) = l.toArray.size by omega] at this
  exact this
end Go.Proofs.Ytafheinapjfbaaa
