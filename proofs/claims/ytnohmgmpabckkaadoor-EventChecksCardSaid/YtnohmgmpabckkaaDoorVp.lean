/-
  wordsIn, countLinesWithWords.
-/
import Derived.Test.YtnohmgmpabckkaaDoorVo
namespace Go.Proofs.YtnohmgmpabckkaaDoor
open Go.RowKit Go.Lib

/-- what a line has between its spaces; cur: what has been read of a word -/
def wdsA : List UInt8 → List UInt8 → List (List UInt8)
  | cur, [] => if cur = [] then [] else [cur]
  | cur, b :: r => if b = 32 then (if cur = [] then [] else [cur]) ++ wdsA [] r else wdsA (cur ++ [b]) r
def cutB (l : List UInt8) (s i : Nat) : List UInt8 := (l.drop s).take (i - s)
theorem cut_nil (l : List UInt8) (i : Nat) : cutB l i i = [] := by simp [cutB]
theorem cut_succ (l : List UInt8) (s i : Nat) (b : UInt8) (hs : s ≤ i) (h : l[i]? = some b) : cutB l s (i + 1) = cutB l s i ++ [b] := by
  unfold cutB
  rw [show i + 1 - s = (i - s) + 1 by omega]
  exact take_succ_of (l.drop s) b (i - s) (by rw [List.getElem?_drop, show s + (i - s) = i by omega]; exact h)
theorem cut_ne (l : List UInt8) (s i : Nat) (hs : s < i) (h : i ≤ l.length) : cutB l s i ≠ [] := by
  intro e
  have := congrArg List.length e
  simp [cutB] at this
  omega
theorem drop_cons_of (l : List UInt8) (i : Nat) (b : UInt8) (h : l[i]? = some b) : l.drop i = b :: l.drop (i + 1) := by
  obtain ⟨hk, rfl⟩ := List.getElem?_eq_some_iff.1 h
  exact List.drop_eq_getElem_cons hk
theorem mk_extract (l : List UInt8) (a b : Nat) : (mk l).extract a b = mk (cutB l a b) := by
  have h := Lib.extract_data (mk l) a b
  rw [mk_data] at h
  have h2 : ((mk l).extract a b).data = (cutB l a b).toArray := by
    apply Array.ext'
    rw [h]
    rfl
  cases hq : (mk l).extract a b with
  | mk d => rw [hq] at h2; simp only at h2; rw [h2]; rfl
set_option maxHeartbeats 2000000 in
set_option maxRecDepth 100000 in
theorem wordsIn_any (ln : List UInt8) (w : World) (hl : ln.length ≤ 1048576) : Calls Tryd.prog 40 #[.string (mk ln)] w (WordsP ((wdsA [] ln).map mk) w) := by
  obtain ⟨S, HS⟩ : ∃ S, Hid (mk ln = S) := ⟨_, rfl⟩
  obtain ⟨W, HW⟩ : ∃ W, Hid ((wdsA [] ln).map mk = W) := ⟨_, rfl⟩
  have hsz : S.size = ln.length := by rw [← HS.out, mk_size]
  rw [HS.out, HW.out]
  have HO0 : Hid (w.ownsRow w.heap.size 9 1 (.slice none 0 0) 0 []) := World.ownsRow_nil _ _ _ _
  go_enter Tryd.func40, Tryd.ntmps40
  go_wp2
  go_loopw [3, 4, 5] (fun v s i wr => ∃ (k j : Nat) (A2 : Option Addr) (c2 : Nat) (ks : List ByteArray), k ≤ ln.length + 1 ∧ i = .int .i64 k ∧ s = .int .i64 j ∧ v = .slice A2 ks.length c2 ∧ Hid (ks.length ≤ k) ∧
      Hid ((k ≤ ln.length ∧ j ≤ k ∧ ks ++ (wdsA (cutB ln j k) (ln.drop k)).map mk = W) ∨ (k = ln.length + 1 ∧ ks = W)) ∧
      Hid (wr.ownsRow w.heap.size 9 1 (.slice A2 ks.length c2) ks.length (cl stc ks)) ∧ Hid (Below w.heap.size w wr)) (fun _ _ i _ => ln.length + 2 - (RowKit.intOf i).toNat)
  case atStart => exact ⟨0, 0, none, 0, [], by omega, rfl, rfl, rfl, Nat.le_refl _, .inl ⟨by omega, by omega, by rw [← HW.out]; rfl⟩, HO0.out, Below.refl _ _⟩
  case round =>
    clear HO0
    obtain ⟨k, j, A2, c2, ks, hk, rfl, rfl, rfl, hks, HK, HO, HB⟩ := hrel
    by_cases hlt : k ≤ ln.length
    · have HK2 : Hid (j ≤ k ∧ ks ++ (wdsA (cutB ln j k) (ln.drop k)).map mk = W) := by
        rcases HK.out with h | h
        · exact h.2
        · omega
      have hjk := HK2.out.1
      clear HK
      by_cases hlt2 : k < ln.length
      · have hx := List.getElem?_eq_getElem (l := ln) (i := k) hlt2
        generalize hb : ln[k] = b at hx
        have HX := Lib.hid hx
        have HB1 := Lib.hid hb
        clear hx hb
        have hSk : S[k]'(by rw [hsz]; exact hlt2) = b := by
          have e := HS.out
          subst e
          simp only [mk, ByteArray.getElem_eq_getElem_data, List.getElem_toArray]
          exact HB1.out
        by_cases h32 : b = 32
        · subst h32
          have hcut := HK2.out.2
          rw [drop_cons_of ln k 32 HX.out, wdsA, if_pos rfl] at hcut
          have HC := Lib.hid hcut
          clear hcut HK2
          have hd : (((32 : UInt8).toNat : Int) != 32) = false := by decide
          by_cases hjl : j < k
          · have HN : Hid (ks ++ [S.extract j k] ++ (wdsA (cutB ln (k + 1) (k + 1)) (ln.drop (k + 1))).map mk = W) := by
              have := HC.out
              rw [if_neg (cut_ne ln j k hjl (by omega)), List.map_append, ← List.append_assoc] at this
              rw [cut_nil, ← HS.out, mk_extract]
              exact this
            go_wp2_with (at_builtin; (refine wpList_applS _ rfl (.tmp 25) (.tmp 30) w.heap.size A2 c2 rfl ks (by simp [Act.eval]) (HO.out.alloc _) (some ⟨wr.heap.size, 0, none⟩) 1 1 [S.extract j k] rfl (by simp [Act.eval]) (RSt_new1 _ _) (by have := hks.out; omega) (by have := HB.out.size; simp; omega) ?_; intro A6 c6 w6 HO6 HB6 _))
            have HB7 : Hid (Below w.heap.size w w6) := (HB.out.trans ((below_new _ _).mono HB.out.size)).trans HB6.out
            go_roundw
            case rel => exact ⟨k + 1, k + 1, A6, c6, ks ++ [S.extract j k], by omega, by go_num, by go_num, by simp, by have := hks.out; show _ ≤ _; simp; omega, .inl ⟨hlt2, Nat.le_refl _, HN.out⟩, HO6.out, HB7.out⟩
            case measure => simp [RowKit.intOf]; try omega
          · obtain rfl : j = k := by omega
            have HN : Hid (ks ++ (wdsA (cutB ln (j + 1) (j + 1)) (ln.drop (j + 1))).map mk = W) := by
              have := HC.out
              rw [cut_nil, if_pos rfl, List.nil_append] at this
              rw [cut_nil]
              exact this
            go_wp2
            go_roundw
            case rel => exact ⟨j + 1, j + 1, A2, c2, ks, by omega, by go_num, by go_num, rfl, by have := hks.out; show _ ≤ _; omega, .inl ⟨hlt2, Nat.le_refl _, HN.out⟩, HO.out, HB.out⟩
            case measure => simp [RowKit.intOf]; try omega
        · have hd : ((b.toNat : Int) != 32) = true := by
            simp only [bne_iff_ne, ne_eq]
            intro e
            apply h32
            apply UInt8.toNat_inj.1
            have : (32 : UInt8).toNat = 32 := rfl
            omega
          have HN : Hid (ks ++ (wdsA (cutB ln j (k + 1)) (ln.drop (k + 1))).map mk = W) := by
            have := HK2.out.2
            rw [drop_cons_of ln k b HX.out, wdsA, if_neg h32, ← cut_succ ln j k b hjk HX.out] at this
            exact this
          clear HK2 h32
          go_wp2
          go_roundw
          case rel => exact ⟨k + 1, j, A2, c2, ks, by omega, by go_num, rfl, rfl, by have := hks.out; show _ ≤ _; omega, .inl ⟨hlt2, by omega, HN.out⟩, HO.out, HB.out⟩
          case measure => simp [RowKit.intOf]; try omega
      · obtain rfl : k = ln.length := by omega
        have hcut := HK2.out.2
        rw [List.drop_eq_nil_of_le (Nat.le_refl _), wdsA] at hcut
        have HC := Lib.hid hcut
        clear hcut HK2
        by_cases hjl : j < ln.length
        · have HN : Hid (ks ++ [S.extract j ln.length] = W) := by
            have := HC.out
            rw [if_neg (cut_ne ln j ln.length hjl (Nat.le_refl _))] at this
            rw [← HS.out, mk_extract]
            exact this
          go_wp2_with (at_builtin; (refine wpList_applS _ rfl (.tmp 25) (.tmp 30) w.heap.size A2 c2 rfl ks (by simp [Act.eval]) (HO.out.alloc _) (some ⟨wr.heap.size, 0, none⟩) 1 1 [S.extract j ln.length] rfl (by simp [Act.eval]) (RSt_new1 _ _) (by have := hks.out; omega) (by have := HB.out.size; simp; omega) ?_; intro A6 c6 w6 HO6 HB6 _))
          have HB7 : Hid (Below w.heap.size w w6) := (HB.out.trans ((below_new _ _).mono HB.out.size)).trans HB6.out
          go_roundw
          case rel => exact ⟨ln.length + 1, ln.length + 1, A6, c6, ks ++ [S.extract j ln.length], by omega, by go_num, by go_num, by simp, by have := hks.out; show _ ≤ _; simp; omega, .inr ⟨rfl, HN.out⟩, HO6.out, HB7.out⟩
          case measure => simp [RowKit.intOf]; try omega
        · obtain rfl : j = ln.length := by omega
          have HN : Hid (ks = W) := by
            have := HC.out
            rw [cut_nil, if_pos rfl] at this
            show ks = W
            simpa using this
          go_wp2
          go_roundw
          case rel => exact ⟨ln.length + 1, ln.length + 1, A2, c2, ks, by omega, by go_num, by go_num, rfl, by have := hks.out; show _ ≤ _; omega, .inr ⟨rfl, HN.out⟩, HO.out, HB.out⟩
          case measure => simp [RowKit.intOf]; try omega
    · have HK2 : Hid (ks = W) := by
        rcases HK.out with h | h
        · omega
        · exact h.2
      clear HK
      go_wp2
      go_ret
      rw [← HK2.out]
      exact ⟨A2, c2, rfl, RX.of_own HO.out, HB.out⟩
set_option maxHeartbeats 1000000 in
theorem countLines_any (A : Option Addr) (c : Nat) (L : List ByteArray) (w : World) (h : RSt w.heap.size w A c L) (hl : L.length ≤ 2000000) (hs : ∀ s ∈ L, s.size ≤ 9223372036854775807) :
    Calls Tryd.prog 39 #[.slice A L.length c] w fun e w' => ∃ m : Nat, e = .returned (.int .i64 m) ∧ m ≤ L.length ∧ Below w.heap.size w w' := by
  have H := Lib.hid h
  have HS := Lib.hid hs
  clear h hs
  go_enter Tryd.func39, Tryd.ntmps39
  go_wp2
  go_loopw [3, 8] (fun v i wr => ∃ (k m : Nat), k ≤ L.length ∧ m ≤ k ∧ i = .int .i64 k ∧ v = .int .i64 m ∧ Hid (Below w.heap.size w wr)) (fun _ i _ => L.length - (RowKit.intOf i).toNat)
  case atStart => exact ⟨0, 0, Nat.zero_le _, Nat.le_refl _, rfl, rfl, Below.refl _ _⟩
  case round =>
    obtain ⟨k, m, hk, hm, rfl, rfl, HB⟩ := hrel
    by_cases hlt : k < L.length
    · obtain ⟨b, off, a, rfl, hb, ha, hc⟩ := RSt.at_ (H.out.go HB.out) hlt
      have CT := Lib.hid (fun W => Tryd.strings_Trim_one a 32 (by decide) W (HS.out a (List.mem_of_getElem? ha)))
      clear ha
      go_wp2_with fail
      refine (CT.out _).mono ?_
      generalize (⟨(Lib.trimB a.data.toList 32).toArray⟩ : ByteArray) = T
      rintro e w1 ⟨rfl, hw1⟩
      have HB1 : Hid (Below w.heap.size w w1) := by
        rcases hw1 with rfl | rfl
        · exact HB.out
        · exact HB.out.trans ((below_drewN wr 1).mono HB.out.size)
      clear hw1 hc
      go_wp2
      all_goals go_roundw
      case rel => exact ⟨k + 1, m + 1, hlt, by omega, by go_num, by go_num, HB1.out⟩
      case measure => simp [RowKit.intOf]; try omega
      case rel => exact ⟨k + 1, m, hlt, by omega, by go_num, rfl, HB1.out⟩
      case measure => simp [RowKit.intOf]; try omega
    · go_wp2
      go_ret
      exact ⟨m, rfl, by omega, HB.out⟩
end Go.Proofs.YtnohmgmpabckkaaDoor
