/-
  What the laws share: valid lists written as bytes and as text; bytes turned into a string; EventParts.
-/
import Derived.Test.YtnohmgmpabckkaaDoorVv
import Derived.Test.YtnohmgmpabckkaaDoorVt
namespace Go.Proofs.YtnohmgmpabckkaaDoor
open Go.RowKit Go.Lib

theorem chkL_zero (l : List Ev) (h : ∀ e ∈ l, chkE e = 0) : chkL l = 0 := by
  induction l with
  | nil => rfl
  | cons a l ih => rw [chkL, if_pos (h a (by simp))]; exact ih fun e he => h e (by simp [he])
theorem chkT_zero (l : List Ev) (h : ∀ e ∈ l, chkE e = 0) (hl : l.length ≤ 65536) : chkT l = 0 := by
  unfold chkT
  rw [if_neg (by omega)]
  exact chkL_zero l h
theorem enc_ok (A : Option Addr) (c : Nat) (l : List Ev) (w : World) (h : RE w.heap.size w A c l) (hl : l.length ≤ 1000) (hv : ∀ e ∈ l, chkE e = 0) :
    Calls Tryd.prog 12 #[.slice A l.length c] w fun e w' => ∃ A' c', e = .returned (.tuple #[.slice A' (encL l).length c', .int .i64 0]) ∧ RBy w'.heap.size w' A' c' (encL l) ∧ Below w.heap.size w w' := by
  have h0 := chkT_zero l hv (by omega)
  have := encode_any A c l w h (by omega)
  unfold EncP at this
  rw [encT, if_pos h0, h0] at this
  exact this
theorem print_ok (A : Option Addr) (c : Nat) (l : List Ev) (w : World) (h : RE w.heap.size w A c l) (K : KW w) (hl : l.length ≤ 1000) (hv : ∀ e ∈ l, chkE e = 0) :
    Calls Tryd.prog 14 #[.slice A l.length c] w fun e w' => e = .returned (.tuple #[.string (mk (txtL l)), .int .i64 0]) ∧ Below w.heap.size w w' := by
  have h0 := chkT_zero l hv (by omega)
  have := print_any A c l w h K (by omega)
  unfold PrintP at this
  rw [txtT, if_pos h0, h0] at this
  exact this
theorem conv_any {B : Nat} {w : World} {A : Option Addr} {c : Nat} {l : List UInt8} (h : RBy B w A c l) : (convert 34 9 (.slice A l.length c)).run Tryd.prog w = .ok (.string (mk l)) w := by
  rcases A with _ | ad
  · have h0 : l = [] := by
      rcases Nat.eq_zero_or_pos l.length with h1 | h1
      · exact List.eq_nil_of_length_eq_zero h1
      · obtain ⟨_, e, _⟩ := h.2.2 h1; cases e
    subst h0
    exact run_convert_bytes_nil w 34 5 Tryd.underlying34 Tryd.underlying5 0 c 9 Tryd.underlying9
  · have hl : (loadCells ad l.length).run Tryd.prog w = .ok ((l.map fun b => (b.toNat : Int)).map (Value.int .u8)).toArray w := by
      have := run_loadCells_list (P := Tryd.prog) w ad (byteCells l) (fun j v hj => by
        have hjl : 0 < l.length := by
          have := (List.getElem?_eq_some_iff.1 hj).1
          rw [byteCells_length] at this
          omega
        obtain ⟨ad', e, -, hc⟩ := h.2.2 hjl
        injection e with e
        subst e
        exact hc j v (by rw [cl_byc]; exact hj))
      rw [byteCells_length] at this
      rw [this]
      simp [byteCells]
    rw [run_convert_bytes_string w 34 9 5 _ l.length c Tryd.underlying34 Tryd.underlying5 Tryd.underlying9, run_bytesToString w ad l.length c _ hl, foldl_push_bytes]
    congr 2
    apply ByteArray.ext
    simp [mk]
    conv => rhs; rw [← List.map_id l]
    exact List.map_congr_left fun b _ => by simp
theorem grown_to_below {w w' : World} {g B : Nat} (h : w.grownBy w' (some g)) (h1 : B ≤ g) (h2 : B ≤ w.heap.size) : Below B w w' :=
  ⟨h.os, h.tape, h.output, h.size, fun i hi => h.block i (by omega) (by simp; omega)⟩
theorem encL_append (a b : List Ev) : encL (a ++ b) = encL a ++ encL b := by simp [encL]
theorem txtL_append (a b : List Ev) : txtL (a ++ b) = txtL a ++ txtL b := by simp [txtL]
end Go.Proofs.YtnohmgmpabckkaaDoor
