/-
  expire: what is in a window no more is cut.
-/
import Derived.Test.YtfapfkaipdcflaaGreatSk
namespace Go.Proofs.YtfapfkaipdcflaaGreat
open Go.RowKit Go.Lib

theorem OW.goB {base B c : Nat} {A : Option Addr} {l : List Ls.Lk} {w w' : World} (h : OW base w A c l) (hb : Below B w w') (hk : ∀ k, bk A c = some k → k < B) : OW base w' A c l := by
  refine ⟨h.1, h.2.1, ?_⟩
  rcases h.2.2 with h1 | ⟨g, o, cur, rfl, hb', hg', hs, ht⟩
  · exact .inl h1
  · by_cases hc : c = 0
    · exact .inl hc
    · exact .inr ⟨g, o, cur, rfl, hb', (hb.block g (hk g (by simp [bk, hc]))).trans hg', hs, ht⟩
theorem PB.goB {base P B c : Nat} {A : Option Addr} {W M : Int} {l : List Ls.Lk} {w w' : World} (h : PB base P A c W M l w) (hb : Below B w w') (hP : P < B) (hk : ∀ k, bk A c = some k → k < B) : PB base P A c W M l w' :=
  ⟨(hb.block _ hP).trans h.blk, h.own.goB hb hk, h.hP⟩
theorem RV_new1 (w : World) (e : Ev) : RV (w.alloc (.cells #[.int .i64 e.kind, .int .i64 e.time, .int .i64 e.u, .int .i64 e.v, .int .i64 e.weight, .int .i64 e.label, .int .i64 e.sign] 57)).heap.size (w.alloc (.cells #[.int .i64 e.kind, .int .i64 e.time, .int .i64 e.u, .int .i64 e.v, .int .i64 e.weight, .int .i64 e.label, .int .i64 e.sign] 57)) (some ⟨w.heap.size, 0, none⟩) 1 [e] := RX_new encE w [e] 57
/-- what expire answers -/
def ExpP (base P : Nat) (A : Option Addr) (c : Nat) (W M : Int) (l : List Ls.Lk) (t : Int) (w : World) (en : Ending) (w' : World) : Prop :=
  ∃ (A1 A2 : Option Addr) (c1 c2 : Nat), en = .returned (.slice A2 (Ls.cutsX W M t l).length c2) ∧ PB base P A1 c1 W M (Ls.restX W M t l) w' ∧
    w'.ownsRow w.heap.size 57 7 (.slice A2 (Ls.cutsX W M t l).length c2) (Ls.cutsX W M t l).length (cl Ev.cells (Ls.cutsX W M t l)) ∧ w.grownBy w' (some P) ∧ Fr w.heap.size (bk A c) (bk A1 c1)
theorem exp_set {base P c k : Nat} {A : Option Addr} {W M : Int} {l : List Ls.Lk} {w : World} (h : PB base P A c W M l w) (hk : k ≤ l.length) (X : Option Addr) (j q : Nat)
    (hX : (if c = k then A else A.map (·.add (k * 6))) = X) (hj : l.length - k = j) (hq : c - k = q) :
    PB base P X q W M (l.drop k) (w.setCell ⟨P, 2, none⟩ (.slice X j q)) ∧ w.grownBy (w.setCell ⟨P, 2, none⟩ (.slice X j q)) (some P) ∧ ∀ n, Fr n (bk A c) (bk X q) := by
  subst hX; subst hj; subst hq
  have hg : w.grownBy (w.setCell ⟨P, 2, none⟩ (.slice (if c = k then A else A.map (·.add (k * 6))) (l.length - k) (c - k))) (some P) := only_set1 _ _ _ rfl
  have hO : OW base (w.setCell ⟨P, 2, none⟩ (.slice (if c = k then A else A.map (·.add (k * 6))) (l.length - k) (c - k))) A c l := h.own.kept hg (fun k hk e => h.ne (by rw [hk, e]))
  refine ⟨⟨?_, hO.cut hk, h.hP⟩, hg, bk_cut A c k⟩
  rw [setCell_cells h.blk 2, List.length_drop]
  rfl
theorem exp_end {base P c c2 : Nat} {A A2 X : Option Addr} {q : Nat} {W M t : Int} {l : List Ls.Lk} {w w1 w2 w3 : World} {ts : List Ev} (h : PB base P A c W M l w) (hd : Ls.Dist l) (hb : Below w.heap.size w w1) (hg : w1.grownBy w2 (some P)) (h2 : PB base P X q W M (l.drop (Ls.outN W M t l)) w2) (hf : ∀ n, Fr n (bk A c) (bk X q))
    (hp : ts.Perm ((l.take (Ls.outN W M t l)).map fun x => Ls.cutE x t)) (hs : Srt cmpV ts) (ho : w3.ownsRow w.heap.size 57 7 (.slice A2 ts.length c2) ts.length (cl Ev.cells ts)) (hb3 : Below w.heap.size w2 w3) (m : Nat) (hm : ts.length = m) :
    ExpP base P A c W M l t w (.returned (.slice A2 m c2)) w3 := by
  subst hm
  have hts := srtV_eq t _ ts (List.Pairwise.sublist (List.take_sublist _ _) hd) hp hs
  have hX : ∀ k, bk X q = some k → k < w.heap.size := fun k hk => by
    rcases hf w.heap.size k hk with h1 | h1
    · exact (h.own.lt k h1).2
    · rcases hf (k + 1) k hk with h2 | h2
      · exact (h.own.lt k h2).2
      · omega
  refine ⟨X, A2, q, c2, ?_, h2.goB hb3 h.lP hX, ?_, ?_, hf _⟩
  · rw [hts]; rfl
  · rw [hts] at ho
    exact ho
  · exact ⟨hb3.os.trans (hg.os.trans hb.os), hb3.tape.trans (hg.tape.trans hb.tape), hb3.output.trans (hg.output.trans hb.output), Nat.le_trans hb.size (Nat.le_trans hg.size hb3.size), fun k hk hne => (hb3.block k hk).trans ((hg.block k (Nat.lt_of_lt_of_le hk hb.size) hne).trans (hb.block k hk))⟩
set_option maxHeartbeats 4000000 in
set_option maxRecDepth 100000 in
theorem expire_any (base P : Nat) (A : Option Addr) (c : Nat) (W M : Int) (l : List Ls.Lk) (t : Int) (ht : 0 ≤ t ∧ t ≤ 4194304) (hW : 0 ≤ W ∧ W ≤ 1048577) (hM : 0 ≤ M ∧ M ≤ 2016) (ha : Ls.Aged l) (hd : Ls.Dist l) (hl : l.length ≤ 65536) (w : World) (h : PB base P A c W M l w) :
    Calls Tryz.prog 38 #[.pointer (some ⟨P, 0, none⟩), .int .i64 t] w (ExpP base P A c W M l t w) := by
  have C := Lib.hid (expired_any base P A c W M l t ht hW hM ha hl w h)
  have H := Lib.hid h
  have HD := Lib.hid hd
  have hkl : Ls.outN W M t l ≤ l.length := Ls.outN_le W M t l
  obtain ⟨k, HK⟩ : ∃ k, Hid (Ls.outN W M t l = k) := ⟨_, rfl⟩
  rw [HK.out] at hkl C
  have HKL := Lib.hid hkl
  have hlc : l.length ≤ c := H.out.own.1
  have hcm : c ≤ 9223372036854775807 := by have := H.out.own.2.1; unfold maxLen at this; omega
  obtain ⟨n, HN⟩ : ∃ n, Hid (l.length = n) := ⟨_, rfl⟩
  rw [HN.out] at hkl hlc hl
  have HW := Lib.hid hW
  clear h ha hd ht hW hM
  go_enter Tryz.func38, Tryz.ntmps38
  go_wp2_with fail
  refine C.out.mono ?_
  rintro e w1 ⟨rfl, hb⟩
  have H1 := Lib.hid (H.out.go hb)
  have HB := Lib.hid hb
  obtain ⟨p0, p1, p2⟩ := H1.out.cells
  have hPl := H1.out.lP
  rw [HN.out] at p2
  clear hb C
  go_wp2
  go_loopw [5, 19] (fun s i wr => ∃ (A5 : Option Addr) (c5 j : Nat), s = .slice A5 j c5 ∧ i = .int .i64 j ∧ j ≤ k ∧ Hid (wr.ownsRow w.heap.size 57 7 (.slice A5 ((l.take j).map fun x => Ls.cutE x t).length c5) ((l.take j).map fun x => Ls.cutE x t).length (cl Ev.cells ((l.take j).map fun x => Ls.cutE x t))) ∧ Hid (Below w.heap.size w wr)) (fun _ i _ => k - (RowKit.intOf i).toNat)
  case atStart => exact ⟨none, 0, 0, rfl, rfl, Nat.zero_le _, World.ownsRow_nil _ _ _ _, HB.out⟩
  case round =>
    obtain ⟨A5, c5, j, rfl, rfl, hj, HO, HBR⟩ := hrel
    clear p0 p1 p2 hPl H1 HB
    have HJ : Hid (((l.take j).map fun x => Ls.cutE x t).length = j) := by show _ = _; rw [List.length_map, List.length_take, HN.out]; omega
    by_cases hlt : j < k
    · obtain ⟨bb, off, ⟨u1, v1, x1, y1, z1, t1⟩, rfl, hb, hx, c0, c1, c2, c3, c4, c5'⟩ := RL.at_ (k := j) (H.out.own.rv.up HBR.out) (by rw [HN.out]; omega)
      dsimp only at c0 c1 c2 c3 c4 c5'
      have HT : Hid (((l.take (j + 1)).map fun x => Ls.cutE x t) = ((l.take j).map fun x => Ls.cutE x t) ++ [(⟨2, t, u1, v1, 0, 0, 0⟩ : Ev)]) := by
        show _ = _
        rw [take_at l j _ hx, List.map_append]; rfl
      have HJ6 : Hid (((l.take (j + 1)).map fun x => Ls.cutE x t).length = j + 1) := by show _ = _; rw [List.length_map, List.length_take, HN.out]; omega
      have HSZ := Lib.hid HBR.out.size
      clear hx
      go_wp2_with (at_builtin; (refine wpList_applV _ rfl (.tmp 23) (.tmp 30) w.heap.size A5 c5 rfl ((l.take j).map fun x => Ls.cutE x t) (by simp [Act.eval]; have := HN.out; omega) ((HO.out.alloc _).alloc _) (some ⟨wr.heap.size + 1, 0, none⟩) 1 1 [(⟨2, t, u1, v1, 0, 0, 0⟩ : Ev)] rfl (by simp [Act.eval]) (by have := RV_new1 (wr.alloc (.cells #[.int .i64 u1, .int .i64 v1, .int .i64 x1, .int .i64 y1, .int .i64 z1, .int .i64 t1] 62)) ⟨2, t, u1, v1, 0, 0, 0⟩; simpa using this) (by rw [HJ.out]; omega) (by have := HSZ.out; simp; omega) ?_; intro A6 c6 w6 HO6 HB6 _; rw [← HT.out] at HO6 ⊢; rw [HJ6.out]))
      have HB7 : Hid (Below w.heap.size w w6) := HBR.out.trans ((((Below.refl w.heap.size wr).alloc HSZ.out _).alloc (by have := HSZ.out; simp; omega) _).trans HB6.out)
      clear c0 c1 c2 c3 c4 c5' HO HB6
      go_wp2
      go_roundw
      case rel => exact ⟨A6, c6, j + 1, rfl, by go_num, by omega, HO6.out, HB7.out⟩
      case measure => simp [RowKit.intOf]; omega
    · obtain rfl : j = k := by omega
      have H1 := Lib.hid (H.out.go HBR.out)
      obtain ⟨p0, p1, p2⟩ := H1.out.cells
      have hPl := H1.out.lP
      have z2 := H1.out.fz 2
      rw [HN.out] at p2
      obtain ⟨X, HX⟩ : ∃ X, Hid ((if c = j then A else A.map (·.add (j * 6))) = X) := ⟨_, rfl⟩
      obtain ⟨es1, es2, es3⟩ := exp_set H1.out HKL.out X (n - j) (c - j) HX.out (by rw [HN.out]) rfl
      have ES1 := Lib.hid es1
      have ES2 := Lib.hid es2
      have ES3 := Lib.hid es3
      have HO2 : Hid ((wr.setCell ⟨P, 2, none⟩ (.slice X (n - j) (c - j))).ownsRow w.heap.size 57 7 (.slice A5 ((l.take j).map fun x => Ls.cutE x t).length c5) ((l.take j).map fun x => Ls.cutE x t).length (cl Ev.cells ((l.take j).map fun x => Ls.cutE x t))) :=
        own_other HO.out H1.out.blk (by decide) es2
      have C2 := Lib.hid (sortV_own w.heap.size A5 c5 _ _ HO2.out (by rw [HJ.out]; omega) (Nat.le_trans HBR.out.size es2.size))
      rw [HJ.out] at C2
      clear es1 es2 es3 HO HO2
      by_cases hc : c = j
      · have hXA : A = X := by have := HX.out; rwa [if_pos hc] at this
        obtain rfl : n = j := by omega
        subst hc
        subst hXA
        go_wp2_with fail
        simp only [Nat.sub_self] at C2 ES1 ES2 ES3 ⊢
        refine C2.out.mono ?_
        rintro e w2 ⟨rfl, ts, hlen, hp, hs, ho, hb⟩
        have HE := Lib.hid (exp_end H.out HD.out HBR.out ES2.out (by rw [HK.out]; exact ES1.out) ES3.out (by rw [HK.out]; exact hp) hs ho hb _ hlen)
        clear hlen hp hs ho hb C2
        go_wp2
        go_ret
        exact HE.out
      · have f5 : ¬ c = j := hc
        have hXA : A.map (·.add (j * 6)) = X := by have := HX.out; rwa [if_neg hc] at this
        go_wp2_with fail
        refine C2.out.mono ?_
        rintro e w2 ⟨rfl, ts, hlen, hp, hs, ho, hb⟩
        have HE := Lib.hid (exp_end H.out HD.out HBR.out ES2.out (by rw [HK.out]; exact ES1.out) ES3.out (by rw [HK.out]; exact hp) hs ho hb _ hlen)
        clear hlen hp hs ho hb C2
        go_wp2
        go_ret
        exact HE.out
end Go.Proofs.YtfapfkaipdcflaaGreat
