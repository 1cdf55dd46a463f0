/-
  The maker's Raw: a short list of edges, any.
-/
import Derived.Test.YtioohmhllajifaaGreatGi
namespace Go.Proofs.YtioohmhllajifaaGreat
open Go.RowKit Go.Lib

/-- a number that Raw makes -/
def near (N : Nat) (z : Int) : Prop := -1 ≤ z ∧ z ≤ (N : Int) + 2
/-- what Raw answers: a list of at most 15 edges, in memory of its own -/
def RawP (base g : Nat) (A : Option Addr) (c : Nat) (L : List Int) (N : Nat) (w : World) (e : Ending) (w' : World) : Prop :=
  ∃ (l : List Ed) (A1 : Option Addr) (c1 m : Nat), e = .returned (.slice A1 l.length c1) ∧ l.length ≤ 15 ∧ (∀ z ∈ l, near N z.1 ∧ near N z.2) ∧ w'.ownsRow w.heap.size 53 2 (.slice A1 l.length c1) l.length (ev l) ∧ Dk base w' g A c L m ∧ w.grownBy w' (some g)
theorem near_push {N : Nat} {l : List Ed} {u v : Int} (h : ∀ z ∈ l, near N z.1 ∧ near N z.2) (hu : near N u) (hv : near N v) : ∀ z ∈ l ++ [(u, v)], near N z.1 ∧ near N z.2 := by
  intro z hz
  rcases List.mem_append.1 hz with h1 | h1
  · exact h z h1
  · rw [List.mem_singleton] at h1; subst h1; exact ⟨hu, hv⟩

end Go.Proofs.YtioohmhllajifaaGreat
