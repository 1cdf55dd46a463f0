/-
  Package graph's Add.
-/
import Derived.Test.YtioohmhllajifaaHl
import Derived.Test.YtioohmhllajifaaHk
import Derived.Test.YtioohmhllajifaaHe
import Derived.Test.YtioohmhllajifaaIv
import Derived.Test.YtioohmhllajifaaHg
import Derived.Test.YtioohmhllajifaaHj
namespace Go.Proofs.Ytioohmhllajifaa
open Go.RowKit Go.Lib

def F33 (u v : Int) : Fact := fun z W => ∃ b, z = .slice (some ⟨b, 0, none⟩) 1 1 ∧ W.heap[b]? = some (.cells #[.int .i64 u, .int .i64 v] 52)
def F34 (A : Option Addr) (c : Nat) (l : List Ed) (u v : Int) : Fact := fun z W => ∃ b b', z = .slice (some ⟨b, 0, none⟩) 2 2 ∧ W.heap[b]? = some (.cells #[.slice A l.length c, .slice (some ⟨b', 0, none⟩) 1 1] 22) ∧ W.heap[b']? = some (.cells #[.int .i64 u, .int .i64 v] 52)
def F35 (l : List Ed) : Fact := fun z W => ∃ A c, z = .slice A l.length c ∧ RE W.heap.size W A c l
def F36 (bs : Nat) (n : Int) (l : List Ed) : Fact := fun z W => ∃ A c, z = .tuple #[.agg #[.int .i64 n, .slice A l.length c], .int .i64 0] ∧ W.ownsRow bs 52 2 (.slice A l.length c) l.length (ev l)
def F37 (bs : Nat) (n : Int) (l : List Ed) : Fact := fun z W => ∃ A c, z = .agg #[.int .i64 n, .slice A l.length c] ∧ W.ownsRow bs 52 2 (.slice A l.length c) l.length (ev l)
theorem own_up {w w' : World} {bs : Nat} {v : Value} {k : Nat} {xs : List Value} (h : w.ownsRow bs 52 2 v k xs) (hb : Below w.heap.size w w') : w'.ownsRow bs 52 2 v k xs :=
  h.kept (row := none) ⟨hb.os, hb.tape, hb.output, hb.size, fun i hi _ => hb.block i hi⟩ (by
    rcases hA : v.ownBlock with _ | b
    · exact .inl rfl
    · exact .inr (by simp))
theorem F33_mono (u v : Int) : Mono (F33 u v) := fun _ _ _ ⟨b, h1, h2⟩ hb => ⟨b, h1, (hb.block b (lt_of_some h2)).trans h2⟩
theorem F34_mono (A : Option Addr) (c : Nat) (l : List Ed) (u v : Int) : Mono (F34 A c l u v) := fun _ _ _ ⟨b, b', h1, h2, h3⟩ hb => ⟨b, b', h1, (hb.block b (lt_of_some h2)).trans h2, (hb.block b' (lt_of_some h3)).trans h3⟩
theorem F35_mono (l : List Ed) : Mono (F35 l) := fun _ _ _ ⟨A, c, h1, h2⟩ hb => ⟨A, c, h1, h2.up hb⟩
theorem F36_mono (bs : Nat) (n : Int) (l : List Ed) : Mono (F36 bs n l) := fun _ _ _ ⟨A, c, h1, h2⟩ hb => ⟨A, c, h1, own_up h2 hb⟩
theorem F37_mono (bs : Nat) (n : Int) (l : List Ed) : Mono (F37 bs n l) := fun _ _ _ ⟨A, c, h1, h2⟩ hb => ⟨A, c, h1, own_up h2 hb⟩
theorem ofe_add (n : Int) (l : List Ed) (u v : Int) (h : chk n l = 0) (he : endsB n u v = true) : ofe n (l ++ [(u, v)]) = 0 := by
  obtain ⟨h0, h1, h2, -⟩ := (chk_zero n l).1 h
  unfold ofe
  rw [if_neg (by omega), if_pos]
  unfold allE
  rw [List.all_append, Bool.and_eq_true]
  refine ⟨List.all_eq_true.2 fun e hx => ?_, by simp [he]⟩
  have := h2 e hx
  unfold endsB
  simp; omega
theorem edg_valid (e : Ed) (h : e.1 < e.2) : edg e.1 e.2 = e := by unfold edg; exact Prod.ext (by simp; omega) (by simp; omega)
theorem ofl_valid (l : List Ed) (ha : AscE l) (hv : ∀ e ∈ l, e.1 < e.2) : ofl l = l := by
  refine ascE_unique _ _ (asc_ofl l) ha fun z => ?_
  rw [mem_ofl, List.mem_map]
  constructor
  · rintro ⟨e, he, rfl⟩; rw [edg_valid e (hv e he)]; exact he
  · intro hz; exact ⟨z, hz, edg_valid z (hv z hz)⟩
theorem ofl_add (n : Int) (l : List Ed) (u v : Int) (h : chk n l = 0) : ofl (l ++ [(u, v)]) = insE (edg u v) l := by
  obtain ⟨h0, h1, h2, h3⟩ := (chk_zero n l).1 h
  have e : ofl (l ++ [(u, v)]) = insE (edg u v) (ofl l) := by unfold ofl; rw [List.foldl_append]; rfl
  rw [e, ofl_valid l h3 fun e he => (h2 e he).2.1]

set_option maxHeartbeats 4000000 in
set_option maxRecDepth 100000 in
theorem gadd_any (n : Int) (A : Option Addr) (c : Nat) (l : List Ed) (u v : Int) (w : World) (h : RE w.heap.size w A c l) (hl : l.length ≤ 65000) :
    Calls Try.prog 19 #[.agg #[.int .i64 n, .slice A l.length c], .int .i64 u, .int .i64 v] w (GivesG w (if addE n l u v = 0 then n else 0) (if addE n l u v = 0 then insE (edg u v) l else []) (addE n l u v)) := by
  have HA0 := Lib.hid (AS.start (n := n) h)
  clear h
  obtain ⟨x, Hx⟩ : ∃ x, Hid (lookI n l u v = x) := ⟨_, rfl⟩
  obtain ⟨y, Hy⟩ : ∃ y, Hid (lookE n l u v = y) := ⟨_, rfl⟩
  obtain ⟨r, Hr⟩ : ∃ r, Hid (addE n l u v = r) := ⟨_, rfl⟩
  rw [Hr.out]
  have CL := Lib.hid (fun (W : World) (h : RE W.heap.size W A c l) => look_any n A c l u v W h (by omega))
  rw [Hx.out, Hy.out] at CL
  by_cases hy : y = 0
  · by_cases hx : 0 ≤ x
    · have hr : r = 15 := by
        rw [← Hr.out]; unfold addE
        have h1 := Hy.out; unfold lookE at h1
        have h2 := Hx.out; unfold lookI at h2
        subst hy
        by_cases h3 : chk n l = 0
        · rw [if_pos h3] at h1 h2 ⊢
          by_cases h4 : endsB n u v = true
          · rw [if_pos h4] at h2 ⊢; rw [h2, if_neg (by omega)]
          · rw [if_neg h4] at h1; omega
        · rw [if_neg h3] at h1; exact absurd h1 h3
      rw [if_neg (by rw [hr]; decide), if_neg (by rw [hr]; decide)]
      have hd1 : (y != 0) = false := by simpa using hy
      subst hr; subst hy
      go_enter Try.func19, Try.ntmps19
      go_wp2_with fail
      refine (CL.out _ HA0.out.gb.re).mono ?_
      rintro e w1 ⟨rfl, hb⟩
      have HA := Lib.hid (HA0.out.go hb)
      clear hb HA0 CL
      have hfin := HA.out.fin (.int .i64 0) (.slice none 0 0)
      have hf0 := hfin.1; have hf1 := hfin.2.1; have HW := Lib.hid hfin.2.2
      have r0 := HA.out.r0; have r1 := HA.out.r1; have q0 := HA.out.f0; have q1 := HA.out.f1; have l6 := HA.out.lt6
      clear hfin
      go_wp2
      generalize ((w1.setCell ⟨w.heap.size + 1, 0, none⟩ (.int .i64 0)).setCell ⟨w.heap.size + 1, 1, none⟩ (.slice none 0 0)) = wf at HW hf0 hf1 ⊢
      exact bodyPost_ret (v := .tuple #[.agg #[.int .i64 0, .slice none 0 0], .int .i64 15]) (by simp [results, Try.results19, go_sem, hf0, hf1]) rfl
        ⟨none, 0, rfl, World.ownsRow_nil _ _ _ _, HW.out⟩
    · have hv : chk n l = 0 ∧ endsB n u v = true := by
        have := Hy.out; unfold lookE at this
        subst hy
        by_cases h1 : chk n l = 0
        · rw [if_pos h1] at this
          by_cases h2 : endsB n u v = true
          · exact ⟨h1, h2⟩
          · rw [if_neg h2] at this; omega
        · rw [if_neg h1] at this; exact absurd this h1
      have hr : r = 0 := by
        rw [← Hr.out]; unfold addE
        have := Hx.out; unfold lookI at this
        rw [if_pos hv.1, if_pos hv.2] at this ⊢
        rw [this, if_pos (by omega)]
      rw [if_pos hr, if_pos hr]
      have CO := Lib.hid (fun (W : World) (A' : Option Addr) (c' : Nat) (h : RE W.heap.size W A' c' (l ++ [(u, v)])) => gof_any n A' c' (l ++ [(u, v)]) W h (by simp; omega))
      rw [ofe_add n l u v hv.1 hv.2, ofl_add n l u v hv.1, if_pos rfl, if_pos rfl] at CO
      have CC := Lib.hid (fun (b b' : Nat) (W : World) (h1 : W.heap[b]? = some (.cells #[.slice A l.length c, .slice (some ⟨b', 0, none⟩) 1 1] 22)) (h2 : W.heap[b']? = some (.cells #[.int .i64 u, .int .i64 v] 52)) (h3 : RE W.heap.size W A c l) =>
        concatE_any b A (some ⟨b', 0, none⟩) c 1 l [(u, v)] W h1 h3 (RE_block (l := [(u, v)]) h2 (lt_of_some h2)) (by omega) (by simp))
      generalize insE (edg u v) l = L at CO ⊢
      obtain ⟨M, HM⟩ : ∃ M, Hid (l ++ [(u, v)] = M) := ⟨_, rfl⟩
      rw [HM.out] at CO CC
      have hd1 : (y != 0) = false := by simpa using hy
      have hd2 : decide (0 ≤ x) = false := by simpa using hx
      subst hr; subst hy
      go_enter Try.func19, Try.ntmps19
      go_wp2_with fail
      refine (CL.out _ HA0.out.gb.re).mono ?_
      rintro e w1 ⟨rfl, hb⟩
      have HA := Lib.hid (HA0.out.go hb)
      clear hb HA0 CL
      go_wp2
      refine wp_region_inv 13 39 [(fun z _ => z = .pointer (some ⟨w.heap.size, 0, none⟩)), (fun z _ => z = .int .i64 n), (fun z _ => z = .pointer (some ⟨w.heap.size, 1, none⟩)), (fun z _ => z = .slice A l.length c), (fun z _ => z = .int .i64 u), (fun z _ => z = .int .i64 v), (fun z _ => z = .agg #[.int .i64 u, .int .i64 v]), (F33 u v), (F34 A c l u v), (F35 M), (F36 (w.heap.size + 2) n L), (F37 (w.heap.size + 2) n L), (fun z _ => z = .int .i64 0)] (by kernel_rfl) (by kernel_rfl) rfl ?_ ?_ ?_
      · intro R hR
        simp only [List.mem_cons, List.not_mem_nil, or_false] at hR
        rcases hR with rfl | rfl | rfl | rfl | rfl | rfl | rfl | rfl | rfl | rfl | rfl | rfl | rfl
        · exact mono_eq _
        · exact mono_eq _
        · exact mono_eq _
        · exact mono_eq _
        · exact mono_eq _
        · exact mono_eq _
        · exact mono_eq _
        · exact F33_mono u v
        · exact F34_mono A c l u v
        · exact F35_mono _
        · exact F36_mono _ n L
        · exact F37_mono _ n L
        · exact mono_eq _
      · simp only [List.take_succ_cons, List.take_zero]
        refine ⟨?_, ?_, ?_, ?_, ?_, ?_, ?_, ?_, ?_, ?_, ?_, ?_, ?_, trivial⟩
        · intro a w2 hb hag hdep K Q hK
          have d3 : (a.tmps[3]?).getD undef = .pointer (some ⟨w.heap.size, 0, none⟩) := eval_get (hag 3 (freeB_spec (by kernel_rfl)))
          rw [if_pos (show Region.wanted _ _ = true from rfl)]
          have HA2 := HA.out.go hb
          have c0 := HA2.gb.c0; have c1 := HA2.gb.c1; have cl := HA2.gb.lt
          unfold Oper.wp
          simp [go_sem, *]
          exact hK _ _ (Below.refl _ _) rfl
        · intro a w2 hb hag hdep K Q hK
          have d26 : (a.tmps[26]?).getD undef = .pointer (some ⟨w.heap.size, 0, none⟩) := eval_get (dep_of hdep 0 26 rfl (by kernel_rfl) rfl rfl)
          rw [if_pos (show Region.wanted _ _ = true from rfl)]
          have HA2 := HA.out.go hb
          have c0 := HA2.gb.c0; have c1 := HA2.gb.c1; have cl := HA2.gb.lt
          unfold Oper.wp
          simp [go_sem, *]
          exact hK _ _ (Below.refl _ _) rfl
        · intro a w2 hb hag hdep K Q hK
          have d3 : (a.tmps[3]?).getD undef = .pointer (some ⟨w.heap.size, 0, none⟩) := eval_get (hag 3 (freeB_spec (by kernel_rfl)))
          rw [if_pos (show Region.wanted _ _ = true from rfl)]
          have HA2 := HA.out.go hb
          have c0 := HA2.gb.c0; have c1 := HA2.gb.c1; have cl := HA2.gb.lt
          unfold Oper.wp
          simp [go_sem, *]
          exact hK _ _ (Below.refl _ _) rfl
        · intro a w2 hb hag hdep K Q hK
          have d28 : (a.tmps[28]?).getD undef = .pointer (some ⟨w.heap.size, 1, none⟩) := eval_get (dep_of hdep 2 28 rfl (by kernel_rfl) rfl rfl)
          rw [if_pos (show Region.wanted _ _ = true from rfl)]
          have HA2 := HA.out.go hb
          have c0 := HA2.gb.c0; have c1 := HA2.gb.c1; have cl := HA2.gb.lt
          unfold Oper.wp
          simp [go_sem, *]
          exact hK _ _ (Below.refl _ _) rfl
        · intro a w2 hb hag hdep K Q hK
          have d1 : (a.tmps[1]?).getD undef = .int .i64 u := eval_get (hag 1 (freeB_spec (by kernel_rfl)))
          rw [if_pos (show Region.wanted _ _ = true from rfl)]
          have HA2 := HA.out.go hb
          have c0 := HA2.gb.c0; have c1 := HA2.gb.c1; have cl := HA2.gb.lt
          unfold Oper.wp
          simp [go_sem, *]
          exact hK _ _ (Below.refl _ _) rfl
        · intro a w2 hb hag hdep K Q hK
          have d2 : (a.tmps[2]?).getD undef = .int .i64 v := eval_get (hag 2 (freeB_spec (by kernel_rfl)))
          rw [if_pos (show Region.wanted _ _ = true from rfl)]
          have HA2 := HA.out.go hb
          have c0 := HA2.gb.c0; have c1 := HA2.gb.c1; have cl := HA2.gb.lt
          unfold Oper.wp
          simp [go_sem, *]
          exact hK _ _ (Below.refl _ _) rfl
        · intro a w2 hb hag hdep K Q hK
          have d30 : (a.tmps[30]?).getD undef = .int .i64 u := eval_get (dep_of hdep 4 30 rfl (by kernel_rfl) rfl rfl)
          have d31 : (a.tmps[31]?).getD undef = .int .i64 v := eval_get (dep_of hdep 5 31 rfl (by kernel_rfl) rfl rfl)
          rw [if_pos (show Region.wanted _ _ = true from rfl)]
          have HA2 := HA.out.go hb
          have c0 := HA2.gb.c0; have c1 := HA2.gb.c1; have cl := HA2.gb.lt
          unfold Oper.wp
          simp [go_sem, *]
          exact hK _ _ (Below.refl _ _) rfl
        · intro a w2 hb hag hdep K Q hK
          have d32 : (a.tmps[32]?).getD undef = .agg #[.int .i64 u, .int .i64 v] := eval_get (dep_of hdep 6 32 rfl (by kernel_rfl) rfl rfl)
          rw [if_pos (show Region.wanted _ _ = true from rfl)]
          unfold Oper.wp
          simp [go_sem, d32]
          exact hK _ _ ((Below.refl _ _).alloc (Nat.le_refl _) _) ⟨_, rfl, heap_alloc_new _ _⟩
        · intro a w2 hb hag hdep K Q hK
          have d29 : (a.tmps[29]?).getD undef = .slice A l.length c := eval_get (dep_of hdep 3 29 rfl (by kernel_rfl) rfl rfl)
          have d33 : (F33 u v) (a.eval (.tmp 33)) w2 := dep_of hdep 7 33 rfl (by kernel_rfl) rfl rfl
          rw [if_pos (show Region.wanted _ _ = true from rfl)]
          obtain ⟨b1, e33, hb33⟩ := d33
          have e33 := eval_get e33
          unfold Oper.wp
          simp [go_sem, d29, e33]
          exact hK _ _ ((Below.refl _ _).alloc (Nat.le_refl _) _) ⟨_, b1, rfl, heap_alloc_new _ _, (Below.heap_alloc _ _ _ (lt_of_some hb33)).trans hb33⟩
        · intro a w2 hb hag hdep K Q hK
          have d34 : (F34 A c l u v) (a.eval (.tmp 34)) w2 := dep_of hdep 8 34 rfl (by kernel_rfl) rfl rfl
          rw [if_pos (show Region.wanted _ _ = true from rfl)]
          obtain ⟨b1, b2, e34, h1, h2⟩ := d34
          have e34 := eval_get e34
          have HA2 := HA.out.go hb
          have hcon := CC.out b1 b2 w2 h1 h2 HA2.gb.re
          unfold Oper.wp
          simp [go_sem, e34]
          refine hcon.mono ?_
          rintro e w3 ⟨A1, c1, rfl, ho, hb3⟩
          exact hK _ _ hb3 ⟨A1, c1, rfl, RE.of_own ho⟩
        · intro a w2 hb hag hdep K Q hK
          have d27 : (a.tmps[27]?).getD undef = .int .i64 n := eval_get (dep_of hdep 1 27 rfl (by kernel_rfl) rfl rfl)
          have d35 : (F35 M) (a.eval (.tmp 35)) w2 := dep_of hdep 9 35 rfl (by kernel_rfl) rfl rfl
          rw [if_pos (show Region.wanted _ _ = true from rfl)]
          obtain ⟨A1, c1, e35, h1⟩ := d35
          have e35 := eval_get e35
          have hcon := CO.out w2 A1 c1 h1
          unfold Oper.wp
          simp [go_sem, d27, e35]
          refine hcon.mono ?_
          rintro e w3 ⟨A2, c2, rfl, ho, hb3⟩
          exact hK _ _ hb3 ⟨A2, c2, rfl, Go.Joins.ownsRow_le ho (by have := (HA.out.go hb).lt6; omega)⟩
        · intro a w2 hb hag hdep K Q hK
          have d36 : (F36 (w.heap.size + 2) n L) (a.eval (.tmp 36)) w2 := dep_of hdep 10 36 rfl (by kernel_rfl) rfl rfl
          rw [if_pos (show Region.wanted _ _ = true from rfl)]
          obtain ⟨A1, c1, e36, h1⟩ := d36
          have e36 := eval_get e36
          unfold Oper.wp
          simp [go_sem, e36]
          exact hK _ _ (Below.refl _ _) ⟨A1, c1, rfl, h1⟩
        · intro a w2 hb hag hdep K Q hK
          have d36 : (F36 (w.heap.size + 2) n L) (a.eval (.tmp 36)) w2 := dep_of hdep 10 36 rfl (by kernel_rfl) rfl rfl
          rw [if_pos (show Region.wanted _ _ = true from rfl)]
          obtain ⟨A1, c1, e36, h1⟩ := d36
          have e36 := eval_get e36
          unfold Oper.wp
          simp [go_sem, e36]
          exact hK _ _ (Below.refl _ _) rfl
      · intro a w2 hb hsz hdf hag hend
        have f26 : a.eval (.tmp 26) = .pointer (some ⟨w.heap.size, 0, none⟩) := end_of hend 0 26 (by decide) rfl rfl rfl
        have f27 : a.eval (.tmp 27) = .int .i64 n := end_of hend 1 27 (by decide) rfl rfl rfl
        have f28 : a.eval (.tmp 28) = .pointer (some ⟨w.heap.size, 1, none⟩) := end_of hend 2 28 (by decide) rfl rfl rfl
        have f29 : a.eval (.tmp 29) = .slice A l.length c := end_of hend 3 29 (by decide) rfl rfl rfl
        have f30 : a.eval (.tmp 30) = .int .i64 u := end_of hend 4 30 (by decide) rfl rfl rfl
        have f31 : a.eval (.tmp 31) = .int .i64 v := end_of hend 5 31 (by decide) rfl rfl rfl
        have f32 : a.eval (.tmp 32) = .agg #[.int .i64 u, .int .i64 v] := end_of hend 6 32 (by decide) rfl rfl rfl
        have f33 : (F33 u v) (a.eval (.tmp 33)) w2 := end_of hend 7 33 (by decide) rfl rfl rfl
        have f34 : (F34 A c l u v) (a.eval (.tmp 34)) w2 := end_of hend 8 34 (by decide) rfl rfl rfl
        have f35 : (F35 M) (a.eval (.tmp 35)) w2 := end_of hend 9 35 (by decide) rfl rfl rfl
        have f36 : (F36 (w.heap.size + 2) n L) (a.eval (.tmp 36)) w2 := end_of hend 10 36 (by decide) rfl rfl rfl
        have f37 : (F37 (w.heap.size + 2) n L) (a.eval (.tmp 37)) w2 := end_of hend 11 37 (by decide) rfl rfl rfl
        have f38 : a.eval (.tmp 38) = .int .i64 0 := end_of hend 12 38 (by decide) rfl rfl rfl
        have f1 : a.eval (.tmp 1) = .int .i64 u := hag 1 (freeB_spec (by kernel_rfl))
        have f2 : a.eval (.tmp 2) = .int .i64 v := hag 2 (freeB_spec (by kernel_rfl))
        have f3 : a.eval (.tmp 3) = .pointer (some ⟨w.heap.size, 0, none⟩) := hag 3 (freeB_spec (by kernel_rfl))
        have f6 : a.eval (.tmp 6) = .pointer (some ⟨w.heap.size + 1, 0, none⟩) := hag 6 (freeB_spec (by kernel_rfl))
        obtain ⟨T, D⟩ := a
        obtain rfl : D = [] := hdf
        obtain ⟨us, rfl⟩ : ∃ us : List Value, T = us.toArray := ⟨T.toList, by simp⟩
        replace hsz : us.length = 39 := by simpa using hsz
        obtain _ | ⟨x0, us⟩ := us
        · simp at hsz
        obtain _ | ⟨x1, us⟩ := us
        · simp at hsz
        obtain _ | ⟨x2, us⟩ := us
        · simp at hsz
        obtain _ | ⟨x3, us⟩ := us
        · simp at hsz
        obtain _ | ⟨x4, us⟩ := us
        · simp at hsz
        obtain _ | ⟨x5, us⟩ := us
        · simp at hsz
        obtain _ | ⟨x6, us⟩ := us
        · simp at hsz
        obtain _ | ⟨x7, us⟩ := us
        · simp at hsz
        obtain _ | ⟨x8, us⟩ := us
        · simp at hsz
        obtain _ | ⟨x9, us⟩ := us
        · simp at hsz
        obtain _ | ⟨x10, us⟩ := us
        · simp at hsz
        obtain _ | ⟨x11, us⟩ := us
        · simp at hsz
        obtain _ | ⟨x12, us⟩ := us
        · simp at hsz
        obtain _ | ⟨x13, us⟩ := us
        · simp at hsz
        obtain _ | ⟨x14, us⟩ := us
        · simp at hsz
        obtain _ | ⟨x15, us⟩ := us
        · simp at hsz
        obtain _ | ⟨x16, us⟩ := us
        · simp at hsz
        obtain _ | ⟨x17, us⟩ := us
        · simp at hsz
        obtain _ | ⟨x18, us⟩ := us
        · simp at hsz
        obtain _ | ⟨x19, us⟩ := us
        · simp at hsz
        obtain _ | ⟨x20, us⟩ := us
        · simp at hsz
        obtain _ | ⟨x21, us⟩ := us
        · simp at hsz
        obtain _ | ⟨x22, us⟩ := us
        · simp at hsz
        obtain _ | ⟨x23, us⟩ := us
        · simp at hsz
        obtain _ | ⟨x24, us⟩ := us
        · simp at hsz
        obtain _ | ⟨x25, us⟩ := us
        · simp at hsz
        obtain _ | ⟨x26, us⟩ := us
        · simp at hsz
        obtain _ | ⟨x27, us⟩ := us
        · simp at hsz
        obtain _ | ⟨x28, us⟩ := us
        · simp at hsz
        obtain _ | ⟨x29, us⟩ := us
        · simp at hsz
        obtain _ | ⟨x30, us⟩ := us
        · simp at hsz
        obtain _ | ⟨x31, us⟩ := us
        · simp at hsz
        obtain _ | ⟨x32, us⟩ := us
        · simp at hsz
        obtain _ | ⟨x33, us⟩ := us
        · simp at hsz
        obtain _ | ⟨x34, us⟩ := us
        · simp at hsz
        obtain _ | ⟨x35, us⟩ := us
        · simp at hsz
        obtain _ | ⟨x36, us⟩ := us
        · simp at hsz
        obtain _ | ⟨x37, us⟩ := us
        · simp at hsz
        obtain _ | ⟨x38, us⟩ := us
        · simp at hsz
        obtain rfl : us = [] := by cases us with | nil => rfl | cons _ _ => simp at hsz
        clear hag hend hsz
        obtain rfl : x1 = .int .i64 u := f1
        obtain rfl : x2 = .int .i64 v := f2
        obtain rfl : x3 = .pointer (some ⟨w.heap.size, 0, none⟩) := f3
        obtain rfl : x6 = .pointer (some ⟨w.heap.size + 1, 0, none⟩) := f6
        obtain rfl : x26 = .pointer (some ⟨w.heap.size, 0, none⟩) := f26
        obtain rfl : x27 = .int .i64 n := f27
        obtain rfl : x28 = .pointer (some ⟨w.heap.size, 1, none⟩) := f28
        obtain rfl : x29 = .slice A l.length c := f29
        obtain rfl : x30 = .int .i64 u := f30
        obtain rfl : x31 = .int .i64 v := f31
        obtain rfl : x32 = .agg #[.int .i64 u, .int .i64 v] := f32
        replace f33 : (F33 u v) x33 w2 := f33
        replace f34 : (F34 A c l u v) x34 w2 := f34
        replace f35 : (F35 M) x35 w2 := f35
        replace f36 : (F36 (w.heap.size + 2) n L) x36 w2 := f36
        replace f37 : (F37 (w.heap.size + 2) n L) x37 w2 := f37
        obtain rfl : x38 = .int .i64 0 := f38
        obtain ⟨A1, c1, rfl, ho⟩ := f37
        have HA2 := Lib.hid (HA.out.go hb)
        have hfin := HA2.out.fin (.int .i64 n) (.slice A1 L.length c1)
        have hf0 := hfin.1; have hf1 := hfin.2.1; have HW := Lib.hid hfin.2.2
        have HO := Lib.hid (fin_own (w := w) ho (by omega) (.int .i64 n) (.slice A1 L.length c1))
        have r0 := HA2.out.r0; have r1 := HA2.out.r1; have q0 := HA2.out.f0; have q1 := HA2.out.f1; have l6 := HA2.out.lt6
        clear hfin ho
        simp only [List.drop_succ_cons, List.drop_zero]
        go_wp2
        generalize ((w2.setCell ⟨w.heap.size + 1, 0, none⟩ (.int .i64 n)).setCell ⟨w.heap.size + 1, 1, none⟩ (.slice A1 L.length c1)) = wf at HW HO hf0 hf1 ⊢
        exact bodyPost_ret (v := .tuple #[.agg #[.int .i64 n, .slice A1 L.length c1], .int .i64 0]) (by simp [results, Try.results19, go_sem, hf0, hf1]) rfl
          ⟨A1, c1, rfl, Go.Joins.ownsRow_le HO.out (by omega), HW.out⟩
  · have hr : r = y := by
      rw [← Hr.out, ← Hy.out]
      have := Hy.out; unfold lookE at this
      unfold addE lookE
      by_cases h1 : chk n l = 0
      · rw [if_pos h1] at this ⊢
        by_cases h2 : endsB n u v = true
        · rw [if_pos h2] at this; exact absurd this.symm hy
        · rw [if_neg h2, if_pos h1, if_neg h2]
      · rw [if_neg h1, if_neg h1]
    rw [if_neg (by rw [hr]; exact hy), if_neg (by rw [hr]; exact hy)]
    subst hr
    have hd1 : (r != 0) = true := by simpa using hy
    clear hy
    go_enter Try.func19, Try.ntmps19
    go_wp2_with fail
    refine (CL.out _ HA0.out.gb.re).mono ?_
    rintro e w1 ⟨rfl, hb⟩
    have HA := Lib.hid (HA0.out.go hb)
    clear hb HA0 CL
    have hfin := HA.out.fin (.int .i64 0) (.slice none 0 0)
    have hf0 := hfin.1; have hf1 := hfin.2.1; have HW := Lib.hid hfin.2.2
    have r0 := HA.out.r0; have r1 := HA.out.r1; have q0 := HA.out.f0; have q1 := HA.out.f1; have l6 := HA.out.lt6
    clear hfin
    go_wp2
    generalize ((w1.setCell ⟨w.heap.size + 1, 0, none⟩ (.int .i64 0)).setCell ⟨w.heap.size + 1, 1, none⟩ (.slice none 0 0)) = wf at HW hf0 hf1 ⊢
    exact bodyPost_ret (v := .tuple #[.agg #[.int .i64 0, .slice none 0 0], .int .i64 r]) (by simp [results, Try.results19, go_sem, hf0, hf1]) rfl
      ⟨none, 0, rfl, World.ownsRow_nil _ _ _ _, HW.out⟩
end Go.Proofs.Ytioohmhllajifaa
