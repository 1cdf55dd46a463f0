/-
  Package graph's Neighbours and Degree.
-/
import Derived.Test.YtioohmhllajifaaGreatHf
import Derived.Test.YtioohmhllajifaaGreatGe
import Derived.Test.YtioohmhllajifaaGreatEa
namespace Go.Proofs.YtioohmhllajifaaGreat
open Go.RowKit Go.Lib

/-! valid lists -/
theorem ck_zero (n : Int) : ∀ (l : List Ed) (p : Option Ed), ck n p l = 0 ↔ (∀ e ∈ l, 0 ≤ e.1 ∧ e.1 < e.2 ∧ e.2 < n) ∧ AscE l ∧ (∀ q, p = some q → ∀ e, l.head? = some e → bef q e = true) := by
  intro l
  induction l with
  | nil => intro p; simp [ck, AscE]
  | cons x l ih =>
    intro p
    rw [ck_cons]
    by_cases h1 : x.1 < 0 ∨ x.2 ≤ x.1 ∨ n ≤ x.2
    · rw [if_pos h1]
      constructor
      · intro h; omega
      · rintro ⟨h, -⟩
        have := h x (by simp)
        omega
    · rw [if_neg h1]
      by_cases h2 : nb p x = true
      · rw [if_pos h2]
        constructor
        · intro h; omega
        · rintro ⟨-, -, h⟩
          cases p with
          | none => simp [nb] at h2
          | some q => have := h q rfl x rfl; simp [nb, this] at h2
      · rw [if_neg h2, ih]
        have hq : ∀ q, p = some q → bef q x = true := by
          rintro q rfl
          simpa [nb] using h2
        constructor
        · rintro ⟨a, b, c⟩
          refine ⟨fun e he => ?_, ?_, fun q hq' e he => ?_⟩
          · rcases List.mem_cons.1 he with rfl | he
            · omega
            · exact a e he
          · refine List.pairwise_cons.2 ⟨fun z hz => ?_, b⟩
            cases l with
            | nil => simp at hz
            | cons y l =>
              have hxy := c x rfl y rfl
              rcases List.mem_cons.1 hz with rfl | hz
              · exact hxy
              · exact bef_trans _ _ _ hxy ((List.pairwise_cons.1 b).1 z hz)
          · simp at he; subst he; exact hq q hq'
        · rintro ⟨a, b, -⟩
          have b' := List.pairwise_cons.1 b
          refine ⟨fun e he => a e (List.mem_cons_of_mem _ he), b'.2, fun q hq' e he => ?_⟩
          injection hq' with hq'; subst hq'
          exact b'.1 e (List.mem_of_mem_head? he)
theorem chk_zero (n : Int) (l : List Ed) : chk n l = 0 ↔ 0 ≤ n ∧ n ≤ 64 ∧ (∀ e ∈ l, 0 ≤ e.1 ∧ e.1 < e.2 ∧ e.2 < n) ∧ AscE l := by
  unfold chk
  by_cases h : n < 0 ∨ 64 < n
  · rw [if_pos h]
    constructor
    · intro h; omega
    · rintro ⟨a, b, -⟩; omega
  · rw [if_neg h, ck_zero]
    constructor
    · rintro ⟨a, b, -⟩; exact ⟨by omega, by omega, a, b⟩
    · rintro ⟨-, -, a, b⟩; exact ⟨a, b, fun q hq => by cases hq⟩

/-- a node's neighbour in an edge -/
def nbE (v : Int) (e : Ed) : List Int := if v = e.1 then [e.2] else if v = e.2 then [e.1] else []
def rawG (v : Int) (l : List Ed) : List Int := l.flatMap (nbE v)
theorem rawG_succ (v : Int) (l : List Ed) (e : Ed) (k : Nat) (h : l[k]? = some e) : rawG v (l.take (k + 1)) = rawG v (l.take k) ++ nbE v e := by
  rw [take_succ_e l _ k h]; simp [rawG]
theorem rawG_N (v : Int) (l : List Ed) (h : ∀ e ∈ l, e.1 < e.2) : rawG v l = rawN v l := by
  induction l with
  | nil => rfl
  | cons e l ih =>
    have h1 := ih fun x hx => h x (List.mem_cons_of_mem _ hx)
    have h2 := h e (by simp)
    show nbE v e ++ rawG v l = ((if e.1 = v then [e.2] else []) ++ (if e.2 = v then [e.1] else [])) ++ rawN v l
    rw [h1]
    congr 1
    unfold nbE
    by_cases a : v = e.1
    · have a' : e.1 = v := a.symm
      have b' : ¬ e.2 = v := by omega
      rw [if_pos a, if_pos a', if_neg b']; rfl
    · have a' : ¬ e.1 = v := fun h => a h.symm
      by_cases b : v = e.2
      · have b' : e.2 = v := b.symm
        rw [if_neg a, if_neg a', if_pos b, if_pos b']; rfl
      · have b' : ¬ e.2 = v := fun h => b h.symm
        rw [if_neg a, if_neg a', if_neg b, if_neg b']; rfl
theorem mem_rawG (v : Int) (l : List Ed) (z : Int) : z ∈ rawG v l ↔ ∃ e ∈ l, z ∈ nbE v e := by simp [rawG]
theorem asc_rawG (v : Int) (l : List Ed) (h : ∀ e ∈ l, e.1 < e.2) (ha : AscE l) : Ns.Asc (rawG v l) := by
  induction l with
  | nil => exact List.Pairwise.nil
  | cons e l ih =>
    have ha' := List.pairwise_cons.1 ha
    have h1 := ih (fun x hx => h x (List.mem_cons_of_mem _ hx)) ha'.2
    show Ns.Asc (nbE v e ++ rawG v l)
    refine List.pairwise_append.2 ⟨?_, h1, fun a hA b hB => ?_⟩
    · unfold nbE; split
      · simp
      · split <;> simp
    · obtain ⟨f, hf, hbf⟩ := (mem_rawG v l b).1 hB
      have hef := (bef_iff _ _).1 (ha'.1 f hf)
      have he := h e (by simp)
      have hf2 := h f (List.mem_cons_of_mem _ hf)
      unfold nbE at hA hbf
      split at hA
      · simp at hA; subst hA
        split at hbf
        · simp at hbf; subst hbf; omega
        · split at hbf
          · simp at hbf; subst hbf; omega
          · simp at hbf
      · split at hA
        · simp at hA; subst hA
          split at hbf
          · simp at hbf; subst hbf; omega
          · split at hbf
            · simp at hbf; subst hbf; omega
            · simp at hbf
        · simp at hA
theorem nbr_valid (n : Int) (l : List Ed) (v : Int) (h : chk n l = 0) : nbr n l v = rawG v l := by
  have h2 := (chk_zero n l).1 h
  unfold nbr
  rw [if_pos h, ← rawG_N v l fun e he => (h2.2.2.1 e he).2.1]
  exact Ns.norm_of_asc _ (asc_rawG v l (fun e he => (h2.2.2.1 e he).2.1) h2.2.2.2)

set_option maxHeartbeats 2000000 in
theorem gnbr_any (n : Int) (A : Option Addr) (c : Nat) (l : List Ed) (v : Int) (w : World) (h : RE w.heap.size w A c l) (hl : l.length ≤ 32768) :
    Calls Tryz.prog 12 #[.agg #[.int .i64 n, .slice A l.length c], .int .i64 v] w (Gives w (nbr n l v)) := by
  have HG0 := Lib.hid (Gb.start (n := n) h)
  clear h
  obtain ⟨X, HX⟩ : ∃ X, Hid (chk n l = X) := ⟨_, rfl⟩
  by_cases hX : X = 0
  · subst hX
    have HF := Lib.hid (nbr_valid n l v HX.out)
    go_enter Tryz.func12, Tryz.ntmps12
    go_wp2_with fail
    refine (gcheck_any n A c l _ HG0.out.re (by omega)).mono ?_
    rintro e W1 ⟨rfl, hb⟩
    rw [HX.out]
    have HG := Lib.hid (HG0.out.go hb)
    have z1 := HG.out.c0; have z2 := HG.out.c1; have z3 := HG.out.lt
    clear hb HG0
    go_wp2
    obtain ⟨g, Hg⟩ : ∃ g, Hid (g = w.heap.size) := ⟨_, rfl⟩
    rw [← Hg.out] at HG z1 z2 z3 ⊢
    clear z1 z2 z3 Hg
    go_loopw [5, 14] (fun s i wr => ∃ (k : Nat) (A2 : Option Addr) (c2 : Nat) (ks : List Int), k ≤ l.length ∧ i = .int .i64 k ∧ s = .slice A2 ks.length c2 ∧ ks.length ≤ k ∧ Hid (ks = rawG v (l.take k)) ∧
        Hid (wr.ownsRow W1.heap.size 3 1 (.slice A2 ks.length c2) ks.length (vals ks)) ∧ Hid (Below W1.heap.size W1 wr)) (fun _ i _ => l.length - (RowKit.intOf i).toNat)
    case atStart => exact ⟨0, none, 0, [], Nat.zero_le _, rfl, rfl, by simp, rfl, World.ownsRow_nil _ _ _ _, Below.refl _ _⟩
    case round =>
      obtain ⟨k, A2, c2, ks, hk, rfl, rfl, hks, HK, HO, HBR⟩ := hrel
      by_cases hlt : k < l.length
      · obtain ⟨b, off, x, y, rfl, hb, hx, hc0, hc1⟩ := (HG.out.re.up HBR.out).let_ hlt
        have HS := Lib.hid (rawG_succ v l (x, y) k hx)
        clear hx
        have HWa := Lib.hid (show Below W1.heap.size W1 (wr.alloc (.cells #[.int .i64 x, .int .i64 y] 53)) from HBR.out.alloc HBR.out.size _)
        by_cases h1 : v = x
        · subst h1
          have e1 : (v == v) = true := by simp
          have HN : Hid (ks ++ [y] = rawG v (l.take (k + 1))) := by
            show _ = _
            rw [HS.out, HK.out]; simp [nbE]
          go_wp2_with (at_builtin; refine wpList_pushG _ rfl (.tmp 23) (.tmp 26) rfl W1.heap.size A2 c2 ks y rfl (HO.out.alloc _) (by simp [Act.eval]) (by omega) HWa.out.size ?_; intro A3 c3 w3 HO3 HB3 HG3; have HB4 := Lib.hid (HWa.out.trans HB3.out))
          go_roundw
          case rel => exact ⟨k + 1, A3, c3, ks ++ [y], by omega, by go_num, by simp, by simp; omega, HN.out, HO3.out, HB4.out⟩
          case measure => simp [RowKit.intOf]; omega
        · have e1 : (v == x) = false := by simpa using h1
          by_cases h2 : v = y
          · subst h2
            have e2 : (v == v) = true := by simp
            have HN : Hid (ks ++ [x] = rawG v (l.take (k + 1))) := by
              show _ = _
              rw [HS.out, HK.out]; simp [nbE, h1]
            clear h1
            go_wp2_with (at_builtin; refine wpList_pushG _ rfl (.tmp 32) (.tmp 35) rfl W1.heap.size A2 c2 ks x rfl (HO.out.alloc _) (by simp [Act.eval]) (by omega) HWa.out.size ?_; intro A3 c3 w3 HO3 HB3 HG3; have HB4 := Lib.hid (HWa.out.trans HB3.out))
            go_roundw
            case rel => exact ⟨k + 1, A3, c3, ks ++ [x], by omega, by go_num, by simp, by simp; omega, HN.out, HO3.out, HB4.out⟩
            case measure => simp [RowKit.intOf]; omega
          · have e2 : (v == y) = false := by simpa using h2
            have HN : Hid (ks = rawG v (l.take (k + 1))) := by
              show _ = _
              rw [HS.out, HK.out]; simp [nbE, h1, h2]
            clear h1 h2
            go_wp2
            go_roundw
            case rel => exact ⟨k + 1, A2, c2, ks, by omega, by go_num, by simp, by omega, HN.out, (Lib.hid (HO.out.alloc _)).out, HWa.out⟩
            case measure => simp [RowKit.intOf]; omega
      · have HR : Hid (ks = nbr n l v) := by show _ = _; rw [HF.out, HK.out, List.take_of_length_le (by omega)]
        have H5 := Lib.hid (RD.of_own HO.out)
        rw [HR.out] at H5
        go_wp2
        go_ret
        exact ⟨A2, c2, by rw [← HR.out]; rfl, H5.out, HG.out.bel.trans (HBR.out.mono HG.out.bel.size)⟩
  · have HF := Lib.hid (show nbr n l v = [] by unfold nbr; rw [if_neg (by rw [HX.out]; exact hX)])
    have e1 : (X != 0) = true := by simpa using hX
    clear hX
    go_enter Tryz.func12, Tryz.ntmps12
    go_wp2_with fail
    refine (gcheck_any n A c l _ HG0.out.re (by omega)).mono ?_
    rintro e w1 ⟨rfl, hb⟩
    rw [HX.out]
    have HG := Lib.hid (HG0.out.go hb)
    clear hb HG0
    go_wp2
    go_ret
    exact ⟨none, 0, by rw [HF.out]; rfl, by rw [HF.out]; exact RD.nil_ _ _ _, HG.out.bel⟩

theorem gdeg_any (n : Int) (A : Option Addr) (c : Nat) (l : List Ed) (v : Int) (w : World) (h : RE w.heap.size w A c l) (hl : l.length ≤ 32768) :
    Calls Tryz.prog 14 #[.agg #[.int .i64 n, .slice A l.length c], .int .i64 v] w fun e w' => e = .returned (.int .i64 ((nbr n l v).length : Nat)) ∧ Below w.heap.size w w' := by
  have HG0 := Lib.hid (Gb.start (n := n) h)
  clear h
  go_enter Tryz.func14, Tryz.ntmps14
  go_wp2_with fail
  refine (gnbr_any n A c l v _ HG0.out.re hl).mono ?_
  rintro e w1 ⟨A1, c1, rfl, h1, hb⟩
  have HG := Lib.hid (HG0.out.go hb)
  clear hb h1 HG0
  go_wp2
  go_ret
  exact ⟨rfl, HG.out.bel⟩
theorem own_up {w w' : World} {bs : Nat} {v : Value} {k : Nat} {xs : List Value} (h : w.ownsRow bs 53 2 v k xs) (hb : Below w.heap.size w w') : w'.ownsRow bs 53 2 v k xs :=
  h.kept (row := none) ⟨hb.os, hb.tape, hb.output, hb.size, fun i hi _ => hb.block i hi⟩ (by
    rcases hA : v.ownBlock with _ | b
    · exact .inl rfl
    · exact .inr (by simp))
end Go.Proofs.YtioohmhllajifaaGreat
