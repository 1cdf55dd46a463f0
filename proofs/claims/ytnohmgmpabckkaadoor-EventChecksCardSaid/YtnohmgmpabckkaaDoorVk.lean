/-
  Reading the numbers of a line.
-/
import Derived.Test.YtnohmgmpabckkaaDoorVj
namespace Go.Proofs.YtnohmgmpabckkaaDoor
open Go.RowKit Go.Lib

/-- a word that is a number -/
def NW (l : List UInt8) : Prop := (∀ b ∈ l, dig b) ∧ 0 < l.length ∧ l.length ≤ 7
theorem NW_itoa (n : Int) (h0 : 0 ≤ n) (h1 : n ≤ 2000000) : NW (Lib.itoa n) := by
  obtain ⟨h2, h3, -⟩ := itoa_dig n h0
  exact ⟨h2, List.length_pos_iff.2 h3, itoa_len n h0 h1⟩
/-- the j-th number behind k rounds -/
def nv (ws : List (List UInt8)) (j k : Nat) : Value := .int .i64 (if j < k then numOf (ws.getD j []) else 0)
def nbs (ws : List (List UInt8)) (k : Nat) : Array Value := #[nv ws 0 k, nv ws 1 k, nv ws 2 k, nv ws 3 k, nv ws 4 k]
structure NB (w : World) (ws : List (List UInt8)) (k : Nat) (wr : World) : Prop where
  b0 : wr.heap[w.heap.size]? = some (.cells #[.int .i64 0, .int .i64 0, .int .i64 0, .int .i64 0, .int .i64 0] 102 (0, 0))
  b1 : wr.heap[w.heap.size + 1]? = some (.cells (nbs ws k) 102 (0, 0))
  bel : Below w.heap.size w wr
theorem NB.lt {w wr : World} {ws : List (List UInt8)} {k : Nat} (h : NB w ws k wr) : w.heap.size + 1 < wr.heap.size := by
  rcases Nat.lt_or_ge (w.heap.size + 1) wr.heap.size with h' | h'
  · exact h'
  · have := h.b1; rw [Array.getElem?_eq_none h'] at this; cases this
theorem NB.set {w wr : World} {ws : List (List UInt8)} {k : Nat} (h : NB w ws k wr) (hk : k < 5) (x : List UInt8) (hx : ws[k]? = some x) : NB w ws (k + 1) (wr.setCell ⟨w.heap.size + 1, k, none⟩ (.int .i64 (numOf x))) := by
  have e : ws.getD k [] = x := by rw [List.getD_eq_getElem?_getD, hx]; rfl
  refine ⟨?_, ?_, h.bel.setCell (by show _ ≤ w.heap.size + 1; omega) _⟩
  · exact (Below.heap_setCell wr ⟨w.heap.size + 1, k, none⟩ _ w.heap.size (by show w.heap.size ≠ w.heap.size + 1; omega)).trans h.b0
  · have h1 := h.b1
    have h2 : (wr.setCell ⟨w.heap.size + 1, k, none⟩ (.int .i64 (numOf x))).heap[w.heap.size + 1]? = some (.cells ((nbs ws k).setIfInBounds k (.int .i64 (numOf x))) 102 (0, 0)) := by
      simp [World.setCell, Array.getElem?_modify, h1]
    rw [h2]
    congr 2
    subst e
    rcases k with _ | _ | _ | _ | _ | k
    all_goals first
      | omega
      | simp [nbs, nv]
theorem NB.start (w : World) (ws : List (List UInt8)) : NB w ws 0 ((w.alloc (.cells #[.int .i64 0, .int .i64 0, .int .i64 0, .int .i64 0, .int .i64 0] 102)).alloc (.cells #[.int .i64 0, .int .i64 0, .int .i64 0, .int .i64 0, .int .i64 0] 102)) := by
  refine ⟨(heap_alloc_old _ _ (by simp)).trans (heap_alloc_new _ _), ?_, (below_new _ _).trans ((below_new _ _).mono (by simp))⟩
  have := heap_alloc_new (w.alloc (.cells #[.int .i64 0, .int .i64 0, .int .i64 0, .int .i64 0, .int .i64 0] 102)) (.cells #[.int .i64 0, .int .i64 0, .int .i64 0, .int .i64 0, .int .i64 0] 102)
  rw [show (w.alloc (.cells #[.int .i64 0, .int .i64 0, .int .i64 0, .int .i64 0, .int .i64 0] 102)).heap.size = w.heap.size + 1 by simp] at this
  rw [this]
  simp [nbs, nv]
def numsV (ws : List (List UInt8)) : Value := .agg (nbs ws ws.length)
set_option maxHeartbeats 4000000 in
set_option maxRecDepth 100000 in
theorem readNumbers_any (A : Option Addr) (c : Nat) (ws : List (List UInt8)) (S : List ByteArray) (hS : ws.map mk = S) (w : World) (h : RSt w.heap.size w A c S) (hn : S.length ≤ 5) (hW : ∀ x ∈ ws, NW x) :
    Calls Tryd.prog 65 #[.slice A S.length c, .int .i64 S.length] w fun e w' => e = .returned (.tuple #[numsV ws, .bool true]) ∧ Below w.heap.size w w' := by
  have H := Lib.hid h
  have HW := Lib.hid hW
  have HSm := Lib.hid hS
  have hlen : Hid (ws.length = S.length) := by show _ = _; rw [← hS, List.length_map]
  clear h hW hS
  have HN0 := Lib.hid (NB.start w ws)
  have hd : ((S.length : Int) != (S.length : Int)) = false := by simp
  go_enter Tryd.func65, Tryd.ntmps65
  go_wp2
  go_loopw [18] (fun i wr => ∃ (k : Nat), k ≤ S.length ∧ i = .int .i64 k ∧ Hid (NB w ws k wr)) (fun i _ => S.length - (RowKit.intOf i).toNat)
  case atStart => exact ⟨0, Nat.zero_le _, rfl, HN0.out⟩
  case round =>
    clear HN0
    obtain ⟨k, hk, rfl, HN⟩ := hrel
    have hg := HN.out.lt
    by_cases hlt : k < S.length
    · obtain ⟨b, off, a, rfl, hb, ha, hc⟩ := RSt.at_ (H.out.go HN.out.bel) hlt
      obtain ⟨x, hx, hxa⟩ : ∃ x, ws[k]? = some x ∧ mk x = a := by
        rw [← HSm.out, List.getElem?_map] at ha
        obtain ⟨x, h1, h2⟩ := Option.map_eq_some_iff.1 ha
        exact ⟨x, h1, h2⟩
      have HX := Lib.hid hx
      have HXA := Lib.hid hxa
      have HWx := Lib.hid (HW.out x (List.mem_of_getElem? hx))
      have C79 := Lib.hid (fun W => HXA.out ▸ readNumber_any x W HWx.out.1 HWx.out.2.1 HWx.out.2.2)
      clear hx hxa ha
      have hk5 : k < 5 := by omega
      have hcell := Go.Joins.cell_of_block HN.out.b1
      have hfz := Go.Joins.unfrozen_of_block HN.out.b1
      obtain rfl | rfl | rfl | rfl | rfl : k = 0 ∨ k = 1 ∨ k = 2 ∨ k = 3 ∨ k = 4 := by omega
      · have z0 := hcell 0
        have z1 := hfz 0
        simp only [nbs, List.getElem?_toArray, List.getElem?_cons_zero] at z0
        clear hcell hfz
        try simp only [Nat.add_zero] at hc
        go_wp2_with (go_at_call 79; refine (C79.out _).mono ?_; rintro e w' ⟨rfl, rfl⟩)
        go_roundw
        case rel => exact ⟨1, hlt, by go_num, HN.out.set (by omega) x HX.out⟩
        case measure => simp [RowKit.intOf]; omega
      · have z0 := hcell 1
        have z1 := hfz 1
        simp only [nbs, List.getElem?_toArray, List.getElem?_cons_succ, List.getElem?_cons_zero] at z0
        clear hcell hfz
        try simp only [Nat.add_zero] at hc
        go_wp2_with (go_at_call 79; refine (C79.out _).mono ?_; rintro e w' ⟨rfl, rfl⟩)
        go_roundw
        case rel => exact ⟨2, hlt, by go_num, HN.out.set (by omega) x HX.out⟩
        case measure => simp [RowKit.intOf]; omega
      · have z0 := hcell 2
        have z1 := hfz 2
        simp only [nbs, List.getElem?_toArray, List.getElem?_cons_succ, List.getElem?_cons_zero] at z0
        clear hcell hfz
        try simp only [Nat.add_zero] at hc
        go_wp2_with (go_at_call 79; refine (C79.out _).mono ?_; rintro e w' ⟨rfl, rfl⟩)
        go_roundw
        case rel => exact ⟨3, hlt, by go_num, HN.out.set (by omega) x HX.out⟩
        case measure => simp [RowKit.intOf]; omega
      · have z0 := hcell 3
        have z1 := hfz 3
        simp only [nbs, List.getElem?_toArray, List.getElem?_cons_succ, List.getElem?_cons_zero] at z0
        clear hcell hfz
        try simp only [Nat.add_zero] at hc
        go_wp2_with (go_at_call 79; refine (C79.out _).mono ?_; rintro e w' ⟨rfl, rfl⟩)
        go_roundw
        case rel => exact ⟨4, hlt, by go_num, HN.out.set (by omega) x HX.out⟩
        case measure => simp [RowKit.intOf]; omega
      · have z0 := hcell 4
        have z1 := hfz 4
        simp only [nbs, List.getElem?_toArray, List.getElem?_cons_succ, List.getElem?_cons_zero] at z0
        clear hcell hfz
        try simp only [Nat.add_zero] at hc
        go_wp2_with (go_at_call 79; refine (C79.out _).mono ?_; rintro e w' ⟨rfl, rfl⟩)
        go_roundw
        case rel => exact ⟨5, hlt, by go_num, HN.out.set (by omega) x HX.out⟩
        case measure => simp [RowKit.intOf]; omega
    · obtain rfl : k = S.length := by omega
      have hcell := Go.Joins.cell_of_block HN.out.b1
      have hfz := Go.Joins.unfrozen_of_block HN.out.b0
      have hcl0 := Go.Joins.cell_of_block HN.out.b0
      have z0 := hcell 0; have z1 := hcell 1; have z2 := hcell 2; have z3 := hcell 3; have z4 := hcell 4
      have y0 := hfz 0; have y1 := hfz 1; have y2 := hfz 2; have y3 := hfz 3; have y4 := hfz 4
      have x0 := hcl0 0; have x1 := hcl0 1; have x2 := hcl0 2; have x3 := hcl0 3; have x4 := hcl0 4
      simp only [nbs, List.getElem?_toArray, List.getElem?_cons_succ, List.getElem?_cons_zero] at z0 z1 z2 z3 z4 x0 x1 x2 x3 x4
      clear hcell hfz hcl0
      have HV : Hid (numsV ws = .agg #[nv ws 0 S.length, nv ws 1 S.length, nv ws 2 S.length, nv ws 3 S.length, nv ws 4 S.length]) := by show _ = _; unfold numsV; rw [hlen.out]; rfl
      unfold nv at *
      generalize (if 0 < S.length then numOf (ws.getD 0 []) else 0) = n0 at *
      generalize (if 1 < S.length then numOf (ws.getD 1 []) else 0) = n1 at *
      generalize (if 2 < S.length then numOf (ws.getD 2 []) else 0) = n2 at *
      generalize (if 3 < S.length then numOf (ws.getD 3 []) else 0) = n3 at *
      generalize (if 4 < S.length then numOf (ws.getD 4 []) else 0) = n4 at *
      have hg0 : w.heap.size < wr.heap.size := by omega
      go_wp2
      rw [HV.out]
      exact bodyPost_ret (v := .tuple #[.agg #[.int .i64 n0, .int .i64 n1, .int .i64 n2, .int .i64 n3, .int .i64 n4], .bool true]) (by simp [results, Tryd.results65, go_sem, *]) rfl ⟨rfl, by
        refine Below.setCell (p := ⟨w.heap.size, 4, none⟩) ?_ (Nat.le_refl _) _
        refine Below.setCell (p := ⟨w.heap.size, 3, none⟩) ?_ (Nat.le_refl _) _
        refine Below.setCell (p := ⟨w.heap.size, 2, none⟩) ?_ (Nat.le_refl _) _
        refine Below.setCell (p := ⟨w.heap.size, 1, none⟩) ?_ (Nat.le_refl _) _
        exact Below.setCell (p := ⟨w.heap.size, 0, none⟩) HN.out.bel (Nat.le_refl _) _⟩
end Go.Proofs.YtnohmgmpabckkaaDoor
