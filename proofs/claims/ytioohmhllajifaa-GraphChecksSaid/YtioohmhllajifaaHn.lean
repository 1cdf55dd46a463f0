/-
  Package graph's Remove.
-/
import Derived.Test.YtioohmhllajifaaHm
import Derived.Test.YtioohmhllajifaaGo
import Derived.IntWalk
namespace Go.Proofs.Ytioohmhllajifaa
open Go.RowKit Go.Lib

theorem fnd_spec (e : Ed) : ∀ (l : List Ed) (j : Nat), (∃ k : Nat, fnd e j l = ((j + k : Nat) : Int) ∧ l[k]? = some e) ∨ (fnd e j l = -1 ∧ e ∉ l) := by
  intro l
  induction l with
  | nil => intro j; exact .inr ⟨rfl, by simp⟩
  | cons x l ih =>
    intro j
    by_cases h : x = e
    · subst h; exact .inl ⟨0, by simp [fnd], by simp⟩
    · have e1 : fnd e j (x :: l) = fnd e (j + 1) l := by show (if x = e then _ else _) = _; rw [if_neg h]
      rw [e1]
      rcases ih (j + 1) with ⟨k, h1, h2⟩ | ⟨h1, h2⟩
      · exact .inl ⟨k + 1, by rw [h1]; omega, by simpa using h2⟩
      · exact .inr ⟨h1, by simp only [List.mem_cons, not_or]; exact ⟨fun h' => h h'.symm, h2⟩⟩
theorem find_at (n : Int) (l : List Ed) (u v : Int) (h : 0 ≤ find n l u v) : ∃ k : Nat, find n l u v = (k : Int) ∧ l[k]? = some (edg u v) ∧ chk n l = 0 := by
  unfold find at h ⊢
  by_cases hc : chk n l = 0
  · rw [if_pos hc] at h ⊢
    rcases fnd_spec (edg u v) l 0 with ⟨k, h1, h2⟩ | ⟨h1, h2⟩
    · exact ⟨k, by rw [h1]; omega, h2, hc⟩
    · omega
  · rw [if_neg hc] at h; omega
theorem find_no (n : Int) (l : List Ed) (u v : Int) (hc : chk n l = 0) (h : find n l u v < 0) : edg u v ∉ l := by
  unfold find at h
  rw [if_pos hc] at h
  rcases fnd_spec (edg u v) l 0 with ⟨k, h1, h2⟩ | ⟨h1, h2⟩
  · omega
  · exact h2
theorem keepE_iff (e z : Ed) : keepE e z = true ↔ z ≠ e := by
  unfold keepE
  rw [Bool.not_eq_true', Bool.and_eq_false_iff, decide_eq_false_iff_not, decide_eq_false_iff_not]
  constructor
  · rintro (h | h) rfl <;> exact h rfl
  · intro h
    by_cases h1 : z.1 = e.1
    · exact .inr fun h2 => h (Prod.ext h1 h2)
    · exact .inl h1
theorem rem_at (l : List Ed) (e : Ed) (k : Nat) (ha : AscE l) (hk : l[k]? = some e) : l.take k ++ l.drop (k + 1) = remL l e := by
  have h0 : l = l.take k ++ (e :: l.drop (k + 1)) := by
    obtain ⟨h1, rfl⟩ := List.getElem?_eq_some_iff.1 hk
    rw [← List.drop_eq_getElem_cons h1, List.take_append_drop]
  have hp : (l.take k ++ (e :: l.drop (k + 1))).Pairwise fun a b => bef a b = true := by rw [← h0]; exact ha
  obtain ⟨-, h2, h3⟩ := List.pairwise_append.1 hp
  have h2' := List.pairwise_cons.1 h2
  have e1 : remL l e = (l.take k).filter (keepE e) ++ (e :: l.drop (k + 1)).filter (keepE e) := by
    unfold remL
    rw [← List.filter_append, ← h0]
  rw [e1]
  congr 1
  · refine (List.filter_eq_self.2 fun z hz => ?_).symm
    exact (keepE_iff e z).2 (bef_ne _ _ (h3 z hz e (by simp)))
  · have : keepE e e = false := by cases hq : keepE e e with | false => rfl | true => exact absurd rfl ((keepE_iff e e).1 hq)
    rw [List.filter_cons, this]
    simp only [Bool.false_eq_true, if_false]
    refine (List.filter_eq_self.2 fun z hz => ?_).symm
    exact (keepE_iff e z).2 fun h => bef_ne _ _ (h2'.1 z hz) h.symm

def F34r (A A2 : Option Addr) (k c m d : Nat) : Fact := fun z W => ∃ b, z = .slice (some ⟨b, 0, none⟩) 2 2 ∧ W.heap[b]? = some (.cells #[.slice A k c, .slice A2 m d] 22)
def F38r (bs : Nat) (l : List Ed) : Fact := fun z W => ∃ A c, z = .slice A l.length c ∧ W.ownsRow bs 52 2 (.slice A l.length c) l.length (ev l)
theorem F34r_mono (A A2 : Option Addr) (k c m d : Nat) : Mono (F34r A A2 k c m d) := fun _ _ _ ⟨b, h1, h2⟩ hb => ⟨b, h1, (hb.block b (lt_of_some h2)).trans h2⟩
theorem F38r_mono (bs : Nat) (l : List Ed) : Mono (F38r bs l) := fun _ _ _ ⟨A, c, h1, h2⟩ hb => ⟨A, c, h1, own_up h2 hb⟩

set_option maxHeartbeats 4000000 in
set_option maxRecDepth 100000 in
theorem grem_any (n : Int) (A : Option Addr) (c : Nat) (l : List Ed) (u v : Int) (w : World) (h : RE w.heap.size w A c l) (hl : l.length ≤ 65000) :
    Calls Try.prog 21 #[.agg #[.int .i64 n, .slice A l.length c], .int .i64 u, .int .i64 v] w (GivesG w (if remE n l u v = 0 then n else 0) (if remE n l u v = 0 then remL l (edg u v) else []) (remE n l u v)) := by
  have HA0 := Lib.hid (AS.start (n := n) h)
  have H := Lib.hid h
  clear h
  obtain ⟨x, Hx⟩ : ∃ x, Hid (lookI n l u v = x) := ⟨_, rfl⟩
  obtain ⟨y, Hy⟩ : ∃ y, Hid (lookE n l u v = y) := ⟨_, rfl⟩
  obtain ⟨r, Hr⟩ : ∃ r, Hid (remE n l u v = r) := ⟨_, rfl⟩
  rw [Hr.out]
  have CL := Lib.hid (fun (W : World) (h : RE W.heap.size W A c l) => look_any n A c l u v W h (by omega))
  rw [Hx.out, Hy.out] at CL
  by_cases hy : y = 0
  · have hv : chk n l = 0 ∧ endsB n u v = true := by
      have := Hy.out; unfold lookE at this
      subst hy
      by_cases h1 : chk n l = 0
      · rw [if_pos h1] at this
        by_cases h2 : endsB n u v = true
        · exact ⟨h1, h2⟩
        · rw [if_neg h2] at this; omega
      · rw [if_neg h1] at this; exact absurd this h1
    have hxf : find n l u v = x := by
      have := Hx.out; unfold lookI at this
      rw [if_pos hv.1, if_pos hv.2] at this
      exact this
    have hrr : r = if x < 0 then 7 else 0 := by
      rw [← Hr.out]; unfold remE
      rw [if_pos hv.1, if_pos hv.2, hxf]
    by_cases hx : 0 ≤ x
    · have hr : r = 0 := by rw [hrr, if_neg (by omega)]
      rw [if_pos hr, if_pos hr]
      obtain ⟨k, hk1, hk2, -⟩ := find_at n l u v (by rw [hxf]; exact hx)
      obtain rfl : x = (k : Int) := hxf.symm.trans hk1
      have hkl : k < l.length := (List.getElem?_eq_some_iff.1 hk2).1
      have hL := rem_at l (edg u v) k ((chk_zero n l).1 hv.1).2.2.2 hk2
      generalize remL l (edg u v) = L at hL ⊢
      obtain ⟨A2, HAd⟩ : ∃ A2, Hid ((if c = k + 1 then A else A.map (·.add ((k + 1) * 2))) = A2) := ⟨_, rfl⟩
      have hc := H.out.1
      have CC : Hid (∀ (b : Nat) (W : World), W.heap[b]? = some (.cells #[.slice A k c, .slice A2 (l.length - (k + 1)) (c - (k + 1))] 22) → RE W.heap.size W A c l →
          Calls Try.prog 43 #[.slice (some ⟨b, 0, none⟩) 2 2] W fun e w' => ∃ A' c', e = .returned (.slice A' L.length c') ∧ w'.ownsRow W.heap.size 52 2 (.slice A' L.length c') L.length (ev L) ∧ Below W.heap.size W w') := by
        intro b W hb hre
        have h1 := hre.front (k := k) (by omega)
        have h2 := hre.tail_ (k := k + 1) (by omega)
        rw [HAd.out] at h2
        have e1 : (l.take k).length = k := by simp; omega
        have e2 : (l.drop (k + 1)).length = l.length - (k + 1) := by simp
        have h := concatE_any b A A2 c (c - (k + 1)) (l.take k) (l.drop (k + 1)) W (by rw [e1, e2]; exact hb) h1 h2 (by omega) (by omega)
        rw [hL] at h
        exact h
      obtain ⟨m0, HM0⟩ : ∃ m0, Hid (l.length = m0) := ⟨_, rfl⟩
      have hkm : k < m0 := by rw [← HM0.out]; exact hkl
      have hkc : m0 ≤ c := by rw [← HM0.out]; exact hc
      have hm65 : m0 ≤ 65000 := by rw [← HM0.out]; exact hl
      rw [HM0.out] at CC
      have hd1 : (y != 0) = false := by simpa using hy
      have hd2 : decide ((k : Int) < 0) = false := by simp
      clear hL hk1 hk2 hxf hrr hv hkl hc
      subst hr; subst hy
      go_enter Try.func21, Try.ntmps21
      go_wp2_with fail
      refine (CL.out _ HA0.out.gb.re).mono ?_
      rintro e w1 ⟨rfl, hb⟩
      have HA := Lib.hid (HA0.out.go hb)
      clear hb HA0 CL
      go_wp2
      clear hd1 hd2 hx hl
      refine wp_region_inv 14 40 [(fun z _ => z = .pointer (some ⟨w.heap.size, 0, none⟩)), (fun z _ => z = .int .i64 n), (fun z _ => z = .pointer (some ⟨w.heap.size, 1, none⟩)), (fun z _ => z = .slice A m0 c), (fun z _ => z = .int .i64 (k : Int)), (fun z _ => z = .slice A k c), (fun z _ => z = .pointer (some ⟨w.heap.size, 1, none⟩)), (fun z _ => z = .slice A m0 c), (fun z _ => z = .int .i64 (k : Int)), (fun z _ => z = .int .i64 ((k : Int) + 1)), (fun z _ => z = .slice A2 (m0 - (k + 1)) (c - (k + 1))), (F34r A A2 k c (m0 - (k + 1)) (c - (k + 1))), (F38r (w.heap.size + 2) L), (F37 (w.heap.size + 2) n L)] (by kernel_rfl) (by kernel_rfl) rfl ?_ ?_ ?_
      · intro R hR
        simp only [List.mem_cons, List.not_mem_nil, or_false] at hR
        rcases hR with rfl | rfl | rfl | rfl | rfl | rfl | rfl | rfl | rfl | rfl | rfl | rfl | rfl | rfl
        · exact mono_eq _
        · exact mono_eq _
        · exact mono_eq _
        · exact mono_eq _
        · exact mono_eq _
        · exact mono_eq _
        · exact mono_eq _
        · exact mono_eq _
        · exact mono_eq _
        · exact mono_eq _
        · exact mono_eq _
        · exact F34r_mono _ _ _ _ _ _
        · exact F38r_mono _ L
        · exact F37_mono _ n L
      · simp only [List.take_succ_cons, List.take_zero]
        refine ⟨?_, ?_, ?_, ?_, ?_, ?_, ?_, ?_, ?_, ?_, ?_, ?_, ?_, ?_, trivial⟩
        · intro a w2 hb hag hdep K Q hK
          have d3 : (a.tmps[3]?).getD undef = .pointer (some ⟨w.heap.size, 0, none⟩) := eval_get (hag 3 (freeB_spec (by kernel_rfl)))
          rw [if_pos (show Region.wanted _ _ = true from rfl)]
          have HA2 := HA.out.go hb
          have c0 := HA2.gb.c0; have c1 := (HA2.gb.c1).trans (by rw [HM0.out]); have cl := HA2.gb.lt
          unfold Oper.wp
          simp [go_sem, *]
          exact hK _ _ (Below.refl _ _) rfl
        · intro a w2 hb hag hdep K Q hK
          have d26 : (a.tmps[26]?).getD undef = .pointer (some ⟨w.heap.size, 0, none⟩) := eval_get (dep_of hdep 0 26 rfl (by kernel_rfl) rfl rfl)
          rw [if_pos (show Region.wanted _ _ = true from rfl)]
          have HA2 := HA.out.go hb
          have c0 := HA2.gb.c0; have c1 := (HA2.gb.c1).trans (by rw [HM0.out]); have cl := HA2.gb.lt
          unfold Oper.wp
          simp [go_sem, *]
          exact hK _ _ (Below.refl _ _) rfl
        · intro a w2 hb hag hdep K Q hK
          have d3 : (a.tmps[3]?).getD undef = .pointer (some ⟨w.heap.size, 0, none⟩) := eval_get (hag 3 (freeB_spec (by kernel_rfl)))
          rw [if_pos (show Region.wanted _ _ = true from rfl)]
          have HA2 := HA.out.go hb
          have c0 := HA2.gb.c0; have c1 := (HA2.gb.c1).trans (by rw [HM0.out]); have cl := HA2.gb.lt
          unfold Oper.wp
          simp [go_sem, *]
          exact hK _ _ (Below.refl _ _) rfl
        · intro a w2 hb hag hdep K Q hK
          have d28 : (a.tmps[28]?).getD undef = .pointer (some ⟨w.heap.size, 1, none⟩) := eval_get (dep_of hdep 2 28 rfl (by kernel_rfl) rfl rfl)
          rw [if_pos (show Region.wanted _ _ = true from rfl)]
          have HA2 := HA.out.go hb
          have c0 := HA2.gb.c0; have c1 := (HA2.gb.c1).trans (by rw [HM0.out]); have cl := HA2.gb.lt
          unfold Oper.wp
          simp [go_sem, *]
          exact hK _ _ (Below.refl _ _) rfl
        · intro a w2 hb hag hdep K Q hK
          have d8 : (a.tmps[8]?).getD undef = .int .i64 (k : Int) := eval_get (hag 8 (freeB_spec (by kernel_rfl)))
          rw [if_pos (show Region.wanted _ _ = true from rfl)]
          have HA2 := HA.out.go hb
          have c0 := HA2.gb.c0; have c1 := (HA2.gb.c1).trans (by rw [HM0.out]); have cl := HA2.gb.lt
          unfold Oper.wp
          simp [go_sem, *]
          exact hK _ _ (Below.refl _ _) rfl
        · intro a w2 hb hag hdep K Q hK
          have d29 : (a.tmps[29]?).getD undef = .slice A m0 c := eval_get (dep_of hdep 3 29 rfl (by kernel_rfl) rfl rfl)
          have d30 : (a.tmps[30]?).getD undef = .int .i64 (k : Int) := eval_get (dep_of hdep 4 30 rfl (by kernel_rfl) rfl rfl)
          rw [if_pos (show Region.wanted _ _ = true from rfl)]
          have hkc2 : k ≤ c := by omega
          unfold Oper.wp
          simp [go_sem, d29, d30, hkc2]
          exact hK _ _ (Below.refl _ _) rfl
        · intro a w2 hb hag hdep K Q hK
          have d3 : (a.tmps[3]?).getD undef = .pointer (some ⟨w.heap.size, 0, none⟩) := eval_get (hag 3 (freeB_spec (by kernel_rfl)))
          rw [if_pos (show Region.wanted _ _ = true from rfl)]
          have HA2 := HA.out.go hb
          have c0 := HA2.gb.c0; have c1 := (HA2.gb.c1).trans (by rw [HM0.out]); have cl := HA2.gb.lt
          unfold Oper.wp
          simp [go_sem, *]
          exact hK _ _ (Below.refl _ _) rfl
        · intro a w2 hb hag hdep K Q hK
          have d32 : (a.tmps[32]?).getD undef = .pointer (some ⟨w.heap.size, 1, none⟩) := eval_get (dep_of hdep 6 32 rfl (by kernel_rfl) rfl rfl)
          rw [if_pos (show Region.wanted _ _ = true from rfl)]
          have HA2 := HA.out.go hb
          have c0 := HA2.gb.c0; have c1 := (HA2.gb.c1).trans (by rw [HM0.out]); have cl := HA2.gb.lt
          unfold Oper.wp
          simp [go_sem, *]
          exact hK _ _ (Below.refl _ _) rfl
        · intro a w2 hb hag hdep K Q hK
          have d8 : (a.tmps[8]?).getD undef = .int .i64 (k : Int) := eval_get (hag 8 (freeB_spec (by kernel_rfl)))
          rw [if_pos (show Region.wanted _ _ = true from rfl)]
          have HA2 := HA.out.go hb
          have c0 := HA2.gb.c0; have c1 := (HA2.gb.c1).trans (by rw [HM0.out]); have cl := HA2.gb.lt
          unfold Oper.wp
          simp [go_sem, *]
          exact hK _ _ (Below.refl _ _) rfl
        · intro a w2 hb hag hdep K Q hK
          have d34 : (a.tmps[34]?).getD undef = .int .i64 (k : Int) := eval_get (dep_of hdep 8 34 rfl (by kernel_rfl) rfl rfl)
          rw [if_pos (show Region.wanted _ _ = true from rfl)]
          unfold Oper.wp
          have hw : IntKind.i64.wrap ((k : Int) + 1) = (k : Int) + 1 := IntWalk.i64_in _ (by omega)
          simp [go_sem, d34, hw]
          exact hK _ _ (Below.refl _ _) rfl
        · intro a w2 hb hag hdep K Q hK
          have d33 : (a.tmps[33]?).getD undef = .slice A m0 c := eval_get (dep_of hdep 7 33 rfl (by kernel_rfl) rfl rfl)
          have d35 : (a.tmps[35]?).getD undef = .int .i64 ((k : Int) + 1) := eval_get (dep_of hdep 9 35 rfl (by kernel_rfl) rfl rfl)
          rw [if_pos (show Region.wanted _ _ = true from rfl)]
          have hz : ((k : Int) + 1).toNat = k + 1 := by omega
          have hle : (k : Int) + 1 ≤ (m0 : Int) := by omega
          have h0 : (0 : Int) ≤ (k : Int) + 1 := by omega
          unfold Oper.wp
          simp [go_sem, d33, d35, hz, hle, h0]
          exact hK _ _ (Below.refl _ _) (show Value.slice (if c = k + 1 then A else Option.map (fun x => x.add ((k + 1) * 2)) A) (m0 - (k + 1)) (c - (k + 1)) = Value.slice A2 (m0 - (k + 1)) (c - (k + 1)) by rw [HAd.out])
        · intro a w2 hb hag hdep K Q hK
          have d31 : (a.tmps[31]?).getD undef = .slice A k c := eval_get (dep_of hdep 5 31 rfl (by kernel_rfl) rfl rfl)
          have d36 : (a.tmps[36]?).getD undef = .slice A2 (m0 - (k + 1)) (c - (k + 1)) := eval_get (dep_of hdep 10 36 rfl (by kernel_rfl) rfl rfl)
          rw [if_pos (show Region.wanted _ _ = true from rfl)]
          unfold Oper.wp
          simp [go_sem, d31, d36]
          exact hK _ _ ((Below.refl _ _).alloc (Nat.le_refl _) _) ⟨_, rfl, heap_alloc_new _ _⟩
        · intro a w2 hb hag hdep K Q hK
          have d37 : (F34r A A2 k c (m0 - (k + 1)) (c - (k + 1))) (a.eval (.tmp 37)) w2 := dep_of hdep 11 37 rfl (by kernel_rfl) rfl rfl
          rw [if_pos (show Region.wanted _ _ = true from rfl)]
          obtain ⟨b1, e37, h1⟩ := d37
          have e37 := eval_get e37
          have HA2 := HA.out.go hb
          have hcon := CC.out b1 w2 h1 HA2.gb.re
          unfold Oper.wp
          simp [go_sem, e37]
          refine hcon.mono ?_
          rintro e w3 ⟨A1, c1, rfl, ho, hb3⟩
          exact hK _ _ hb3 ⟨A1, c1, rfl, Go.Joins.ownsRow_le ho (by have := (HA.out.go hb).lt6; omega)⟩
        · intro a w2 hb hag hdep K Q hK
          have d27 : (a.tmps[27]?).getD undef = .int .i64 n := eval_get (dep_of hdep 1 27 rfl (by kernel_rfl) rfl rfl)
          have d38 : (F38r (w.heap.size + 2) L) (a.eval (.tmp 38)) w2 := dep_of hdep 12 38 rfl (by kernel_rfl) rfl rfl
          rw [if_pos (show Region.wanted _ _ = true from rfl)]
          obtain ⟨A1, c1, e38, ho⟩ := d38
          have e38 := eval_get e38
          unfold Oper.wp
          simp [go_sem, d27, e38]
          exact hK _ _ (Below.refl _ _) ⟨A1, c1, rfl, ho⟩
      · intro a w2 hb hsz hdf hag hend
        have f26 : a.eval (.tmp 26) = .pointer (some ⟨w.heap.size, 0, none⟩) := end_of hend 0 26 (by decide) rfl rfl rfl
        have f27 : a.eval (.tmp 27) = .int .i64 n := end_of hend 1 27 (by decide) rfl rfl rfl
        have f28 : a.eval (.tmp 28) = .pointer (some ⟨w.heap.size, 1, none⟩) := end_of hend 2 28 (by decide) rfl rfl rfl
        have f29 : a.eval (.tmp 29) = .slice A m0 c := end_of hend 3 29 (by decide) rfl rfl rfl
        have f30 : a.eval (.tmp 30) = .int .i64 (k : Int) := end_of hend 4 30 (by decide) rfl rfl rfl
        have f31 : a.eval (.tmp 31) = .slice A k c := end_of hend 5 31 (by decide) rfl rfl rfl
        have f32 : a.eval (.tmp 32) = .pointer (some ⟨w.heap.size, 1, none⟩) := end_of hend 6 32 (by decide) rfl rfl rfl
        have f33 : a.eval (.tmp 33) = .slice A m0 c := end_of hend 7 33 (by decide) rfl rfl rfl
        have f34 : a.eval (.tmp 34) = .int .i64 (k : Int) := end_of hend 8 34 (by decide) rfl rfl rfl
        have f35 : a.eval (.tmp 35) = .int .i64 ((k : Int) + 1) := end_of hend 9 35 (by decide) rfl rfl rfl
        have f36 : a.eval (.tmp 36) = .slice A2 (m0 - (k + 1)) (c - (k + 1)) := end_of hend 10 36 (by decide) rfl rfl rfl
        have f37 : (F34r A A2 k c (m0 - (k + 1)) (c - (k + 1))) (a.eval (.tmp 37)) w2 := end_of hend 11 37 (by decide) rfl rfl rfl
        have f38 : (F38r (w.heap.size + 2) L) (a.eval (.tmp 38)) w2 := end_of hend 12 38 (by decide) rfl rfl rfl
        have f39 : (F37 (w.heap.size + 2) n L) (a.eval (.tmp 39)) w2 := end_of hend 13 39 (by decide) rfl rfl rfl
        have f3 : a.eval (.tmp 3) = .pointer (some ⟨w.heap.size, 0, none⟩) := hag 3 (freeB_spec (by kernel_rfl))
        have f6 : a.eval (.tmp 6) = .pointer (some ⟨w.heap.size + 1, 0, none⟩) := hag 6 (freeB_spec (by kernel_rfl))
        have f8 : a.eval (.tmp 8) = .int .i64 (k : Int) := hag 8 (freeB_spec (by kernel_rfl))
        obtain ⟨T, D⟩ := a
        obtain rfl : D = [] := hdf
        obtain ⟨us, rfl⟩ : ∃ us : List Value, T = us.toArray := ⟨T.toList, by simp⟩
        replace hsz : us.length = 40 := by simpa using hsz
        obtain _ | ⟨x0, us⟩ := us
        · simp at hsz
        obtain _ | ⟨x1, us⟩ := us
        · simp at hsz
        obtain _ | ⟨x2, us⟩ := us
        · simp at hsz
        obtain _ | ⟨x3, us⟩ := us
        · simp at hsz
        obtain _ | ⟨x4, us⟩ := us
        · simp at hsz
        obtain _ | ⟨x5, us⟩ := us
        · simp at hsz
        obtain _ | ⟨x6, us⟩ := us
        · simp at hsz
        obtain _ | ⟨x7, us⟩ := us
        · simp at hsz
        obtain _ | ⟨x8, us⟩ := us
        · simp at hsz
        obtain _ | ⟨x9, us⟩ := us
        · simp at hsz
        obtain _ | ⟨x10, us⟩ := us
        · simp at hsz
        obtain _ | ⟨x11, us⟩ := us
        · simp at hsz
        obtain _ | ⟨x12, us⟩ := us
        · simp at hsz
        obtain _ | ⟨x13, us⟩ := us
        · simp at hsz
        obtain _ | ⟨x14, us⟩ := us
        · simp at hsz
        obtain _ | ⟨x15, us⟩ := us
        · simp at hsz
        obtain _ | ⟨x16, us⟩ := us
        · simp at hsz
        obtain _ | ⟨x17, us⟩ := us
        · simp at hsz
        obtain _ | ⟨x18, us⟩ := us
        · simp at hsz
        obtain _ | ⟨x19, us⟩ := us
        · simp at hsz
        obtain _ | ⟨x20, us⟩ := us
        · simp at hsz
        obtain _ | ⟨x21, us⟩ := us
        · simp at hsz
        obtain _ | ⟨x22, us⟩ := us
        · simp at hsz
        obtain _ | ⟨x23, us⟩ := us
        · simp at hsz
        obtain _ | ⟨x24, us⟩ := us
        · simp at hsz
        obtain _ | ⟨x25, us⟩ := us
        · simp at hsz
        obtain _ | ⟨x26, us⟩ := us
        · simp at hsz
        obtain _ | ⟨x27, us⟩ := us
        · simp at hsz
        obtain _ | ⟨x28, us⟩ := us
        · simp at hsz
        obtain _ | ⟨x29, us⟩ := us
        · simp at hsz
        obtain _ | ⟨x30, us⟩ := us
        · simp at hsz
        obtain _ | ⟨x31, us⟩ := us
        · simp at hsz
        obtain _ | ⟨x32, us⟩ := us
        · simp at hsz
        obtain _ | ⟨x33, us⟩ := us
        · simp at hsz
        obtain _ | ⟨x34, us⟩ := us
        · simp at hsz
        obtain _ | ⟨x35, us⟩ := us
        · simp at hsz
        obtain _ | ⟨x36, us⟩ := us
        · simp at hsz
        obtain _ | ⟨x37, us⟩ := us
        · simp at hsz
        obtain _ | ⟨x38, us⟩ := us
        · simp at hsz
        obtain _ | ⟨x39, us⟩ := us
        · simp at hsz
        obtain rfl : us = [] := by cases us with | nil => rfl | cons _ _ => simp at hsz
        clear hag hend hsz
        obtain rfl : x3 = .pointer (some ⟨w.heap.size, 0, none⟩) := f3
        obtain rfl : x6 = .pointer (some ⟨w.heap.size + 1, 0, none⟩) := f6
        obtain rfl : x8 = .int .i64 (k : Int) := f8
        obtain rfl : x26 = .pointer (some ⟨w.heap.size, 0, none⟩) := f26
        obtain rfl : x27 = .int .i64 n := f27
        obtain rfl : x28 = .pointer (some ⟨w.heap.size, 1, none⟩) := f28
        obtain rfl : x29 = .slice A m0 c := f29
        obtain rfl : x30 = .int .i64 (k : Int) := f30
        obtain rfl : x31 = .slice A k c := f31
        obtain rfl : x32 = .pointer (some ⟨w.heap.size, 1, none⟩) := f32
        obtain rfl : x33 = .slice A m0 c := f33
        obtain rfl : x34 = .int .i64 (k : Int) := f34
        obtain rfl : x35 = .int .i64 ((k : Int) + 1) := f35
        obtain rfl : x36 = .slice A2 (m0 - (k + 1)) (c - (k + 1)) := f36
        replace f37 : (F34r A A2 k c (m0 - (k + 1)) (c - (k + 1))) x37 w2 := f37
        replace f38 : (F38r (w.heap.size + 2) L) x38 w2 := f38
        replace f39 : (F37 (w.heap.size + 2) n L) x39 w2 := f39
        obtain ⟨A1, c1, rfl, ho⟩ := f39
        have HA2 := Lib.hid (HA.out.go hb)
        have hfin := HA2.out.fin (.int .i64 n) (.slice A1 L.length c1)
        have hf0 := hfin.1; have hf1 := hfin.2.1; have HW := Lib.hid hfin.2.2
        have HO := Lib.hid (fin_own (w := w) ho (by omega) (.int .i64 n) (.slice A1 L.length c1))
        have r0 := HA2.out.r0; have r1 := HA2.out.r1; have q0 := HA2.out.f0; have q1 := HA2.out.f1; have l6 := HA2.out.lt6
        clear hfin ho
        simp only [List.drop_succ_cons, List.drop_zero]
        go_wp2
        generalize ((w2.setCell ⟨w.heap.size + 1, 0, none⟩ (.int .i64 n)).setCell ⟨w.heap.size + 1, 1, none⟩ (.slice A1 L.length c1)) = wf at HW HO hf0 hf1 ⊢
        exact bodyPost_ret (v := .tuple #[.agg #[.int .i64 n, .slice A1 L.length c1], .int .i64 0]) (by simp [results, Try.results21, go_sem, hf0, hf1]) rfl
          ⟨A1, c1, rfl, Go.Joins.ownsRow_le HO.out (by omega), HW.out⟩
    · have hr : r = 7 := by rw [hrr, if_pos (by omega)]
      rw [if_neg (by rw [hr]; decide), if_neg (by rw [hr]; decide)]
      have hd1 : (y != 0) = false := by simpa using hy
      have hd2 : decide (x < 0) = true := by simp; omega
      clear hxf hrr hv
      subst hr; subst hy
      go_enter Try.func21, Try.ntmps21
      go_wp2_with fail
      refine (CL.out _ HA0.out.gb.re).mono ?_
      rintro e w1 ⟨rfl, hb⟩
      have HA := Lib.hid (HA0.out.go hb)
      clear hb HA0 CL
      have hfin := HA.out.fin (.int .i64 0) (.slice none 0 0)
      have hf0 := hfin.1; have hf1 := hfin.2.1; have HW := Lib.hid hfin.2.2
      have r0 := HA.out.r0; have r1 := HA.out.r1; have q0 := HA.out.f0; have q1 := HA.out.f1; have l6 := HA.out.lt6
      clear hfin
      go_wp2
      generalize ((w1.setCell ⟨w.heap.size + 1, 0, none⟩ (.int .i64 0)).setCell ⟨w.heap.size + 1, 1, none⟩ (.slice none 0 0)) = wf at HW hf0 hf1 ⊢
      exact bodyPost_ret (v := .tuple #[.agg #[.int .i64 0, .slice none 0 0], .int .i64 7]) (by simp [results, Try.results21, go_sem, hf0, hf1]) rfl
        ⟨none, 0, rfl, World.ownsRow_nil _ _ _ _, HW.out⟩
  · have hr : r = y := by
      rw [← Hr.out, ← Hy.out]
      have := Hy.out; unfold lookE at this
      unfold remE lookE
      by_cases h1 : chk n l = 0
      · rw [if_pos h1] at this ⊢
        by_cases h2 : endsB n u v = true
        · rw [if_pos h2] at this; exact absurd this.symm hy
        · rw [if_neg h2, if_pos h1, if_neg h2]
      · rw [if_neg h1, if_neg h1]
    rw [if_neg (by rw [hr]; exact hy), if_neg (by rw [hr]; exact hy)]
    subst hr
    have hd1 : (r != 0) = true := by simpa using hy
    clear hy
    go_enter Try.func21, Try.ntmps21
    go_wp2_with fail
    refine (CL.out _ HA0.out.gb.re).mono ?_
    rintro e w1 ⟨rfl, hb⟩
    have HA := Lib.hid (HA0.out.go hb)
    clear hb HA0 CL
    have hfin := HA.out.fin (.int .i64 0) (.slice none 0 0)
    have hf0 := hfin.1; have hf1 := hfin.2.1; have HW := Lib.hid hfin.2.2
    have r0 := HA.out.r0; have r1 := HA.out.r1; have q0 := HA.out.f0; have q1 := HA.out.f1; have l6 := HA.out.lt6
    clear hfin
    go_wp2
    generalize ((w1.setCell ⟨w.heap.size + 1, 0, none⟩ (.int .i64 0)).setCell ⟨w.heap.size + 1, 1, none⟩ (.slice none 0 0)) = wf at HW hf0 hf1 ⊢
    exact bodyPost_ret (v := .tuple #[.agg #[.int .i64 0, .slice none 0 0], .int .i64 r]) (by simp [results, Try.results21, go_sem, hf0, hf1]) rfl
      ⟨none, 0, rfl, World.ownsRow_nil _ _ _ _, HW.out⟩
end Go.Proofs.Ytioohmhllajifaa
