/-
  Reading a number, reading a sign.
-/
import Derived.Test.YtnohmgmpabckkaaDoorVi
namespace Go.Proofs.YtnohmgmpabckkaaDoor
open Go.RowKit Go.Lib

def dig (b : UInt8) : Prop := 48 ≤ b.toNat ∧ b.toNat ≤ 57
def numOf (l : List UInt8) : Int := l.foldl (fun n b => 10 * n + ((b.toNat : Int) - 48)) 0
theorem numOf_succ (l : List UInt8) (b : UInt8) (k : Nat) (h : l[k]? = some b) : numOf (l.take (k + 1)) = 10 * numOf (l.take k) + ((b.toNat : Int) - 48) := by
  rw [take_succ_of l b k h]; simp [numOf]
theorem numOf_bd (l : List UInt8) (h : ∀ b ∈ l, dig b) : ∀ k, k ≤ l.length → 0 ≤ numOf (l.take k) ∧ numOf (l.take k) < 10 ^ k := by
  intro k
  induction k with
  | zero => intro _; simp [numOf]
  | succ k ih =>
    intro hk
    have h1 := ih (by omega)
    have hb := List.getElem?_eq_getElem (l := l) (i := k) (by omega)
    have hd := h l[k] (List.getElem_mem (by omega))
    rw [numOf_succ l _ k hb, Int.pow_succ]
    unfold dig at hd
    omega
theorem digits_dig (u : Nat) : (∀ b ∈ Lib.decDigits u, dig b) ∧ Lib.decDigits u ≠ [] ∧ numOf (Lib.decDigits u) = u := by
  induction u using Nat.strongRecOn with
  | _ u ih =>
    rw [Lib.decDigits]
    split
    · have e : (UInt8.ofNat (48 + u)).toNat = 48 + u := by rw [UInt8.toNat_ofNat']; omega
      refine ⟨fun b hb => ?_, by simp, ?_⟩
      · rw [List.mem_singleton.1 hb]; unfold dig; omega
      · simp only [numOf, List.foldl_cons, List.foldl_nil]; rw [e]; omega
    · obtain ⟨h1, h2, h3⟩ := ih (u / 10) (by omega)
      have e : (UInt8.ofNat (48 + u % 10)).toNat = 48 + u % 10 := by rw [UInt8.toNat_ofNat']; omega
      refine ⟨fun b hb => ?_, by simp, ?_⟩
      · rcases List.mem_append.1 hb with h | h
        · exact h1 b h
        · rw [List.mem_singleton.1 h]; unfold dig; omega
      · unfold numOf at h3 ⊢
        rw [List.foldl_append, h3]
        simp only [List.foldl_cons, List.foldl_nil]
        rw [e]; omega
theorem itoa_dig (n : Int) (h : 0 ≤ n) : (∀ b ∈ Lib.itoa n, dig b) ∧ Lib.itoa n ≠ [] ∧ numOf (Lib.itoa n) = n := by
  unfold Lib.itoa
  rw [if_neg (by omega)]
  obtain ⟨h1, h2, h3⟩ := digits_dig n.toNat
  exact ⟨h1, h2, by rw [h3]; omega⟩
set_option maxHeartbeats 1000000 in
theorem readNumber_any (l : List UInt8) (w : World) (h : ∀ b ∈ l, dig b) (h1 : 0 < l.length) (h7 : l.length ≤ 7) :
    Calls Tryd.prog 79 #[.string (mk l)] w fun e w' => e = .returned (.tuple #[.int .i64 (numOf l), .bool true]) ∧ w = w' := by
  obtain ⟨S, HS⟩ : ∃ S, Hid (mk l = S) := ⟨_, rfl⟩
  have hsz : S.size = l.length := by rw [← HS.out, mk_size]
  have HD := Lib.hid h
  clear h
  rw [HS.out]
  have hd0 : ((l.length : Int) == 0) = false := by rw [beq_eq_false_iff_ne]; omega
  go_enter Tryd.func79, Tryd.ntmps79
  go_wp2
  go_loop [4, 17] (fun n i => ∃ (k : Nat), k ≤ l.length ∧ i = .int .i64 k ∧ n = .int .i64 (numOf (l.take k))) (fun _ i => l.length - (RowKit.intOf i).toNat)
  case atStart => exact ⟨0, Nat.zero_le _, rfl, rfl⟩
  case round =>
    obtain ⟨k, hk, rfl, rfl⟩ := hrel
    obtain ⟨N, HN⟩ : ∃ N, Hid (numOf (l.take k) = N) := ⟨_, rfl⟩
    have hbd := numOf_bd l HD.out k hk
    rw [HN.out] at hbd
    rw [HN.out]
    by_cases hlt : k < l.length
    · have hx := List.getElem?_eq_getElem (l := l) (i := k) hlt
      generalize hb : l[k] = b at hx
      have hdg := HD.out b (by rw [← hb]; exact List.getElem_mem hlt)
      have hS := numOf_succ l b k hx
      rw [HN.out] at hS
      have HX := Lib.hid hx
      have HB := Lib.hid hb
      clear hx hb
      have hSk : S[k]'(by rw [hsz]; exact hlt) = b := by
        have e := HS.out
        subst e
        simp only [mk, ByteArray.getElem_eq_getElem_data, List.getElem_toArray]
        exact HB.out
      have hN7 : N < 10000000 := by
        have h10 : (10 : Nat) ^ k ≤ 10 ^ 7 := Nat.pow_le_pow_right (by decide) (by omega)
        have : ((10 : Nat) ^ k : Nat) = (10 : Int) ^ k := by simp
        omega
      unfold dig at hdg
      have e1 : decide ((b.toNat : Int) < 48) = false := by rw [decide_eq_false_iff_not]; omega
      have e2 : decide (57 < (b.toNat : Int)) = false := by rw [decide_eq_false_iff_not]; omega
      have f1 : wrap64 (10 * N) = 10 * N := by unfold wrap64; omega
      have f2 : wrap64 (10 * N + ((b.toNat : Int) - 48)) = 10 * N + ((b.toNat : Int) - 48) := by unfold wrap64; omega
      have f3 : ((b.toNat : Int) - 48) % 256 = (b.toNat : Int) - 48 := by omega
      have HS2 := Lib.hid hS
      clear hS hbd hN7
      go_wp2
      go_round
      case rel => exact ⟨k + 1, hlt, by go_num, by rw [HS2.out, f2]⟩
      case measure => simp [RowKit.intOf]; omega
    · obtain rfl : k = l.length := by omega
      have HN2 : Hid (numOf l = N) := by have := HN.out; rwa [List.take_length] at this
      go_wp2
      rw [HN2.out]
      exact bodyPost_ret (v := .tuple #[.int .i64 N, .bool true]) (by simp [results, Tryd.results79, go_sem]) rfl ⟨rfl, rfl⟩
theorem readSign_any (z : Int) (w : World) (hz : z = 1 ∨ z = -1) : Calls Tryd.prog 78 #[.string (mk (if z = -1 then [45] else [43]))] w fun e w' => e = .returned (.tuple #[.int .i64 z, .bool true]) ∧ w = w' := by
  rcases hz with rfl | rfl
  · have e1 : ((⟨#[43]⟩ : ByteArray) == ⟨#[43]⟩) = true := by decide
    rw [if_neg (by decide), show mk [43] = ⟨#[43]⟩ from rfl]
    go_enter Tryd.func78, Tryd.ntmps78
    go_wp2
    exact bodyPost_ret (v := .tuple #[.int .i64 1, .bool true]) (by simp [results, Tryd.results78, go_sem]) rfl ⟨rfl, rfl⟩
  · have e1 : ((⟨#[45]⟩ : ByteArray) == ⟨#[43]⟩) = false := by decide
    have e2 : ((⟨#[45]⟩ : ByteArray) == ⟨#[45]⟩) = true := by decide
    rw [if_pos rfl, show mk [45] = ⟨#[45]⟩ from rfl]
    go_enter Tryd.func78, Tryd.ntmps78
    go_wp2
    exact bodyPost_ret (v := .tuple #[.int .i64 (-1), .bool true]) (by simp [results, Tryd.results78, go_sem]) rfl ⟨rfl, rfl⟩
end Go.Proofs.YtnohmgmpabckkaaDoor
