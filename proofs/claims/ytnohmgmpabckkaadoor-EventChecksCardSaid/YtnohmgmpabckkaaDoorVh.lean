/-
  Print of package event.
-/
import Derived.Test.YtnohmgmpabckkaaDoorVg
namespace Go.Proofs.YtnohmgmpabckkaaDoor
open Go.RowKit Go.Lib

theorem words_any (k t u v x y z : Int) (w : World) (K : KW w) (V : VB ⟨k, t, u, v, x, y, z⟩) :
    Calls Tryd.prog 31 #[.agg #[.int .i64 k, .int .i64 t, .int .i64 u, .int .i64 v, .int .i64 x, .int .i64 y, .int .i64 z]] w (WordsP ((wl ⟨k, t, u, v, x, y, z⟩).map mk) w) := by
  obtain ⟨hk, ht, hu, hv, hx, hy, -, -, -⟩ := V
  simp only at hk ht hu hv hx hy
  rcases hk with rfl | rfl | rfl
  · exact words1_any t u v x y z w K ht hu hv hx hy
  · exact words2_any t u v x y z w K ht hu hv
  · exact words3_any t u v x y z w K ht hu
/-- an event's line -/
def txtE (e : Ev) : List UInt8 := Lib.join (wl e) [32] ++ [10]
def txtL (l : List Ev) : List UInt8 := l.flatMap txtE
def txtT (l : List Ev) : List UInt8 := if chkT l = 0 then txtL l else []
theorem digits_len (u : Nat) : ∀ n, u < 10 ^ (n + 1) → (Lib.decDigits u).length ≤ n + 1 := by
  induction u using Nat.strongRecOn with
  | _ u ih =>
    intro n hu
    rw [Lib.decDigits]
    split
    · simp
    · cases n with
      | zero => omega
      | succ n =>
        have := ih (u / 10) (by omega) n (by rw [Nat.pow_succ] at hu; omega)
        simp; omega
theorem itoa_len (n : Int) (h0 : 0 ≤ n) (h1 : n ≤ 2000000) : (Lib.itoa n).length ≤ 7 := by
  unfold Lib.itoa
  rw [if_neg (by omega)]
  exact digits_len _ 6 (by omega)
theorem txtE_len (e : Ev) (V : VB e) : (txtE e).length ≤ 60 := by
  have h1 := itoa_len e.time V.t.1 (by have := V.t; omega)
  have h2 := itoa_len e.u V.u.1 (by have := V.u; omega)
  have h3 := itoa_len e.v V.v.1 (by have := V.v; omega)
  have h4 := itoa_len e.weight V.w.1 (by have := V.w; omega)
  have h5 := itoa_len e.label V.l.1 (by have := V.l; omega)
  have h6 : (if e.sign = -1 then [45] else [43] : List UInt8).length = 1 := by split <;> rfl
  unfold txtE wl
  rcases V.k with hk | hk | hk <;> simp [hk, Lib.join_cons, Lib.joinTail, h6] <;> omega
theorem txtL_len (l : List Ev) (h : ∀ e ∈ l, VB e) : (txtL l).length ≤ 60 * l.length := by
  induction l with
  | nil => simp [txtL]
  | cons a l ih =>
    have h1 := txtE_len a (h a (by simp))
    have h2 := ih fun e he => h e (by simp [he])
    rw [show txtL (a :: l) = txtE a ++ txtL l from rfl]
    simp; omega
theorem txtL_succ (l : List Ev) (a : Ev) (k : Nat) (h : l[k]? = some a) : txtL (l.take (k + 1)) = txtL (l.take k) ++ txtE a := by
  rw [take_succ_of l a k h]; simp [txtL]
theorem isB_up {B b : Nat} {bs : List Value} {w w' : World} (h : Lib.IsBuilder 60 5 B b bs w) (hb : Below w.heap.size w w') : Lib.IsBuilder 60 5 B b bs w' := by
  have key : ∀ p, Lib.BuilderAt 60 5 B b p bs w → Lib.BuilderAt 60 5 B b p bs w' := fun p hp => by
    have hlt := hp.lt
    obtain ⟨h1, v, h2, h3, h4⟩ := hp
    exact ⟨h1, v, (hb.block b hlt).trans h2, own_up h3 hb, h4⟩
  rcases h with h | h
  · exact .inl (key _ h)
  · exact .inr (key _ h)
/-- what Print answers -/
def PrintP (l : List Ev) (w : World) (e : Ending) (w' : World) : Prop := e = .returned (.tuple #[.string (mk (txtT l)), .int .i64 (chkT l)]) ∧ Below w.heap.size w w'
theorem RSt.all {B : Nat} {w : World} {A : Option Addr} {c : Nat} {l : List ByteArray} (h : RSt B w A c l) (h0 : 0 < l.length) : ∃ b o, A = some ⟨b, o, none⟩ ∧ b < B ∧ ∀ (j : Nat) x, l[j]? = some x → w.cell? ⟨b, o + j, none⟩ = some (.string x) := by
  obtain ⟨b, o, a, e, hb, -, -⟩ := RSt.at_ h h0
  refine ⟨b, o, e, hb, fun j x hx => ?_⟩
  obtain ⟨b', o', a', e', -, ha', hc⟩ := RSt.at_ h (List.getElem?_eq_some_iff.1 hx).1
  rw [e] at e'
  injection e' with e'
  injection e' with e1 e2
  subst e1; subst e2
  rw [hx] at ha'
  injection ha' with ha'
  subst ha'
  exact hc
theorem join_any (A : Option Addr) (c : Nat) (L : List (List UInt8)) (S : List ByteArray) (hS : L.map mk = S) (w : World) (h : RSt w.heap.size w A c S) (h0 : 0 < S.length) (hlen : (Lib.join L [32]).length ≤ 1000) (hn : S.length ≤ 1000) :
    Calls Tryd.prog 30 #[.slice A S.length c, .string ⟨#[32]⟩] w fun e w' => e = .returned (.string (mk (Lib.join L [32]))) ∧ Below w.heap.size w w' := by
  obtain ⟨b, o, rfl, hb, hc⟩ := RSt.all h h0
  have e : S.map (·.data.toList) = L := by rw [← hS, List.map_map]; conv => rhs; rw [← List.map_id L]
                                           exact List.map_congr_left fun x _ => mk_data x
  have := Tryd.strings_Join b o c S ⟨#[32]⟩ w hc hb (by omega) h.1 (by rw [e]; exact Nat.le_trans hlen (by decide))
  rw [e] at this
  exact this
theorem wl_pos (e : Ev) : 0 < ((wl e).map mk).length := by unfold wl; simp
theorem wl_len (e : Ev) : ((wl e).map mk).length ≤ 7 := by
  rw [List.length_map]
  unfold wl
  by_cases h3 : e.kind = 3 <;> by_cases h1 : e.kind = 1 <;> simp [h3, h1]
theorem strCells_mk (l : List UInt8) : Lib.strCells (mk l) = byteCells l := by simp [Lib.strCells, byteCells, mk]
theorem vb_all (l : List Ev) (h : chkT l = 0) : ∀ e ∈ l, VB e := fun e he => by
  obtain ⟨k, hk, hk2⟩ := List.getElem_of_mem he
  exact vb_of e (chkT_all l k e h (by rw [List.getElem?_eq_getElem hk, hk2]))
set_option maxHeartbeats 4000000 in
set_option maxRecDepth 100000 in
theorem print_any (A : Option Addr) (c : Nat) (l : List Ev) (w : World) (h : RE w.heap.size w A c l) (K : KW w) (hl : l.length ≤ 1000000) :
    Calls Tryd.prog 14 #[.slice A l.length c] w (PrintP l w) := by
  have H := Lib.hid h
  have HKW := Lib.hid K
  clear h K
  obtain ⟨R, HR⟩ : ∃ R, Hid (chkT l = R) := ⟨_, rfl⟩
  by_cases h0 : R = 0
  · subst h0
    have HV := Lib.hid (vb_all l HR.out)
    have HE : Hid (txtT l = txtL l) := by show _ = _; rw [txtT, if_pos HR.out]
    unfold PrintP
    rw [HE.out, HR.out]
    go_enter Tryd.func14, Tryd.ntmps14
    go_wp2_with fail
    refine (checkList_any _ _ _ _ H.out hl).mono ?_
    rintro e w1 ⟨rfl, hb⟩
    have HB0 := Lib.hid hb
    clear hb
    rw [HR.out]
    obtain ⟨b, Hb⟩ : ∃ b, Hid (w1.heap.size = b) := ⟨_, rfl⟩
    have HI1 : Hid (Lib.IsBuilder 60 5 w.heap.size b (byteCells (txtL (l.take 0))) (w1.alloc (.cells #[.pointer none, .slice none 0 0] 60))) := by
      exact .inl ⟨by have := HB0.out.size; have := Hb.out; omega, .slice none 0 0, by rw [← Hb.out]; exact heap_alloc_new w1 _, World.ownsRow_nil _ _ _ _, by simp [Value.ownBlock]⟩
    have HB1 : Hid (Below w.heap.size w (w1.alloc (.cells #[.pointer none, .slice none 0 0] 60))) := HB0.out.trans ((below_new _ _).mono HB0.out.size)
    go_wp2
    rw [Hb.out]
    go_loopw [15] (fun i wr => ∃ (k : Nat), k ≤ l.length ∧ i = .int .i64 k ∧ Hid (Lib.IsBuilder 60 5 w.heap.size b (byteCells (txtL (l.take k))) wr) ∧ Hid (Below w.heap.size w wr)) (fun i _ => l.length - (RowKit.intOf i).toNat)
    case atStart => exact ⟨0, Nat.zero_le _, rfl, HI1.out, HB1.out⟩
    case round =>
      clear HI1 HB1 HB0
      obtain ⟨k, hk, rfl, HI, HB⟩ := hrel
      by_cases hlt : k < l.length
      · obtain ⟨bb, off, x, rfl, hb, ha, c0, c1, c2, c3, c4, c5, c6⟩ := RE.at_ (H.out.go HB.out) hlt
        have HA := Lib.hid ha
        have HX := Lib.hid (HV.out x (List.mem_of_getElem? ha))
        clear ha
        obtain ⟨S, HSD⟩ : ∃ S, Hid ((wl ⟨x.kind, x.time, x.u, x.v, x.weight, x.label, x.sign⟩).map mk = S) := ⟨_, rfl⟩
        have CW := Lib.hid (fun W (h : KW W) => HSD.out ▸ words_any x.kind x.time x.u x.v x.weight x.label x.sign W h HX.out)
        have HSP : Hid (0 < S.length ∧ S.length ≤ 7) := by show _ ∧ _; rw [← HSD.out]; exact ⟨wl_pos _, wl_len _⟩
        go_wp2_with fail
        refine (CW.out _ (HKW.out.go (HB.out.trans ((below_new _ _).mono HB.out.size)) HKW.out.sz)).mono ?_
        rintro e w2 ⟨A2, c2', rfl, hs, hb2⟩
        have HS := Lib.hid hs
        have HI2 := Lib.hid (isB_up HI.out (below_via hb2))
        have HB2 : Hid (Below w.heap.size w w2) := HB.out.trans ((below_via hb2).mono HB.out.size)
        clear hs hb2 c0 c1 c2 c3 c4 c5 c6 CW
        have HL := Lib.hid (txtE_len x HX.out)
        have HL2 : Hid ((txtL (l.take k)).length ≤ 60 * k) := by
          have := txtL_len (l.take k) (fun e he => HV.out e (List.mem_of_mem_take he))
          rw [List.length_take, Nat.min_eq_left hk] at this
          exact this
        have HL3 : Hid ((Lib.join (wl x) [32]).length ≤ 59) := by have := HL.out; unfold txtE at this; simp at this; exact this
        go_wp2_with fail
        refine (join_any _ _ (wl x) S HSD.out _ HS.out HSP.out.1 (by have := HL3.out; omega) (by have := HSP.out.2; omega)).mono ?_
        rintro e w3 ⟨rfl, hb3⟩
        have HI3 := Lib.hid (isB_up HI2.out hb3)
        have HB3 : Hid (Below w.heap.size w w3) := HB2.out.trans (hb3.mono HB2.out.size)
        clear hb3 HS HI2 HB2
        go_wp2_with fail
        refine (bWriteString w.heap.size b _ _ _ HI3.out (by rw [byteCells_length, mk_size]; have := HL2.out; have := HL3.out; omega) HB3.out.size).mono ?_
        rintro e w4 ⟨rfl, ho4, hb4⟩
        have HI4 : Hid (Lib.IsBuilder 60 5 w.heap.size b (byteCells (txtL (l.take k) ++ Lib.join (wl x) [32])) w4) := by
          rw [strCells_mk, ← byteCells_append] at ho4
          exact .inr ho4
        have HB4 : Hid (Below w.heap.size w w4) := HB3.out.trans hb4
        clear ho4 hb4 HI3 HB3
        go_wp2_with fail
        refine (bWriteByte w.heap.size b _ _ _ HI4.out (by rw [byteCells_length, List.length_append]; have := HL2.out; have := HL3.out; omega) HB4.out.size).mono ?_
        rintro e w5 ⟨rfl, ho5, hb5⟩
        have HI5 : Hid (Lib.IsBuilder 60 5 w.heap.size b (byteCells (txtL (l.take (k + 1)))) w5) := by
          rw [txtL_succ l x k HA.out, txtE, ← List.append_assoc, byteCells_append _ [10]]
          exact .inr ho5
        have HB5 : Hid (Below w.heap.size w w5) := HB4.out.trans hb5
        clear ho5 hb5 HI4 HB4
        go_wp2
        go_roundw
        case rel => exact ⟨k + 1, hlt, by go_num, HI5.out, HB5.out⟩
        case measure => simp [RowKit.intOf]; omega
      · obtain rfl : k = l.length := by omega
        have HI2 : Hid (Lib.IsBuilder 60 5 w.heap.size b (byteCells (txtL l)) wr) := by have := HI.out; rwa [List.take_length] at this
        go_wp2_with fail
        refine (bString w.heap.size b _ _ HI2.out HB.out.size).mono ?_
        rintro e w5 ⟨rfl, hb5⟩
        have HB5 : Hid (Below w.heap.size w w5) := HB.out.trans hb5
        go_wp2
        exact bodyPost_ret (v := .tuple #[.string (mk (txtL l)), .int .i64 0]) (by simp [results, Tryd.results14, go_sem, mk]) rfl ⟨rfl, HB5.out⟩
  · have HE := Lib.hid (show txtT l = [] by rw [txtT, if_neg (by rw [HR.out]; exact h0)])
    have hd : (R != 0) = true := by simpa using h0
    clear h0
    unfold PrintP
    rw [HE.out, HR.out]
    go_enter Tryd.func14, Tryd.ntmps14
    go_wp2_with fail
    refine (checkList_any _ _ _ _ H.out hl).mono ?_
    rintro e w1 ⟨rfl, hb⟩
    have HB0 := Lib.hid hb
    clear hb
    rw [HR.out]
    go_wp2
    exact bodyPost_ret (v := .tuple #[.string ⟨#[]⟩, .int .i64 R]) (by simp [results, Tryd.results14, go_sem]) rfl ⟨rfl, HB0.out⟩
end Go.Proofs.YtnohmgmpabckkaaDoor
