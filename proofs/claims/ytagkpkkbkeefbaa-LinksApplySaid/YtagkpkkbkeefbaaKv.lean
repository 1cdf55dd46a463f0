/-
  LinksWhere, walked.
-/
import Derived.Test.YtagkpkkbkeefbaaKu
namespace Go.Proofs.Ytagkpkkbkeefbaa
open Go.RowKit Go.Lib

/-- a state that stands in a box -/
structure SX (k : Nat) (n : Int) (A : Option Addr) (c : Nat) (l : List Ls.Lk) (wr : World) : Prop where
  b : wr.heap[k]? = some (.cells #[.int .i64 n, .slice A l.length c] 24)
  rl : RL wr.heap.size wr A c l
section
variable {k : Nat} {n : Int} {A : Option Addr} {c : Nat} {l : List Ls.Lk} {wr w' : World}
theorem SX.go (h : SX k n A c l wr) (hb : Below wr.heap.size wr w') : SX k n A c l w' := ⟨(hb.block _ (lt_of_some h.b)).trans h.b, h.rl.up hb⟩
theorem SX.new (h : RL wr.heap.size wr A c l) (n : Int) : SX wr.heap.size n A c l (wr.alloc (.cells #[.int .i64 n, .slice A l.length c] 24)) := ⟨heap_alloc_new _ _, h.up (below_new _ _)⟩
theorem SX.c0 (h : SX k n A c l wr) : wr.cell? ⟨k, 0, none⟩ = some (.int .i64 n) := Go.Joins.cell_of_block h.b 0
theorem SX.c1 (h : SX k n A c l wr) : wr.cell? ⟨k, 1, none⟩ = some (.slice A l.length c) := Go.Joins.cell_of_block h.b 1
theorem SX.lt (h : SX k n A c l wr) : k < wr.heap.size := lt_of_some h.b
end
theorem below_up {w w1 w2 : World} (h : Below w.heap.size w w1) (h2 : Below w1.heap.size w1 w2) : Below w.heap.size w w2 := h.trans (h2.mono h.size)
theorem chk0 {n : Int} {l : List Ls.Lk} (h : Ls.V n l) : Ls.chkS n l = 0 := (Ls.chkS_zero n l).2 h
theorem wh_length (L : List Int) (sg ls : Int) (l : List Ls.Lk) : (Ls.wh L sg ls l).length ≤ l.length := List.length_filter_le _ _
theorem RD_two (w : World) (p q : Int) : RD (w.alloc (.cells #[.int .i64 p, .int .i64 q] 3)) (some ⟨w.heap.size, 0, none⟩) 2 [p, q] := RD_newT w p q 3
set_option maxHeartbeats 8000000 in
set_option maxRecDepth 100000 in
theorem where_law (A : Option Addr) (c : Nat) (L : List Int) (x : Int) (w : World) (h : RD w A c L) (hL : L.length ≤ 17592186044416) :
    Calls Try.prog 7 #[.slice A L.length c, .int .i64 x] w fun e w' => e = .returned (.bool true) ∧ Below w.heap.size w w' := by
  have CN := Lib.hid (new_any A c L w h)
  clear h
  go_enter Try.func7, Try.ntmps7
  go_wp2_with fail
  refine CN.out.mono ?_
  rintro e v0 ⟨rfl, hd, hb0⟩
  have CSt := Lib.hid (state_any w.heap.size w.heap.size A c L 0 7 v0 hd hL (by decide))
  have HB0 := Lib.hid hb0
  clear hd hb0 CN
  go_wp2_with fail
  refine CSt.out.mono ?_
  rintro e v1 ⟨N, l, As, cs, m1, rfl, hN, ⟨hV, htm⟩, hl, ho, D1, g1⟩
  have HV := Lib.hid hV
  have HC := Lib.hid (chk0 hV)
  have HB : Hid (Below w.heap.size w v1) := HB0.out.grown g1 HB0.out.size (fun k hk => by injection hk with hk; omega)
  have hrl := Lib.hid (RX.of_own ho)
  have HL := Lib.hid hl
  clear hV hl ho D1 g1 HB0 CSt htm
  obtain ⟨qs, HQs⟩ : ∃ q, Hid (l = q) := ⟨_, rfl⟩
  rw [HQs.out] at HV HC HL hrl ⊢
  have HLs := HL
  have HRs := hrl
  clear hrl HL
  obtain ⟨ks, Hks⟩ : ∃ k, Hid (v1.heap.size = k) := ⟨_, rfl⟩
  obtain ⟨us, Hus⟩ : ∃ u, Hid (v1.alloc (.cells #[.int .i64 (N : Nat), .slice As qs.length cs] 24) = u) := ⟨_, rfl⟩
  obtain ⟨kk, HK⟩ : ∃ kk : Int, Hid ((x.tmod 8 + 8) % 8 = kk) := ⟨_, rfl⟩
  have CM := Lib.hid (fun w => mod_any x 8 w (by decide) (by decide))
  simp only [HK.out] at CM
  go_wp2_with fail
  refine (CM.out _).mono ?_
  rw [Hus.out]
  rintro e v2 ⟨rfl, rfl⟩
  clear CM
  have S : Hid (SX ks N As cs qs us) := by show SX _ _ _ _ _ _; rw [← Hks.out, ← Hus.out]; exact SX.new HRs.out _
  replace HB : Hid (Below w.heap.size w us) := by show Below _ _ _; rw [← Hus.out]; exact below_up HB.out (below_new _ _)
  try simp only [Hks.out]
  have s0 := S.out.c0; have s1 := S.out.c1; have sl := S.out.lt
  go_wp2_with fail
  clear s0 s1 sl
  refine (where_any N As none cs 0 qs [] 1 kk _ S.out.rl (RD.nil_ _ _ _) (by have := HLs.out; omega) (by decide)).mono ?_
  rintro e va ⟨na, la, Aa, ca, rfl, hif, hrla, hb⟩
  rw [HC.out, if_pos rfl] at hif
  obtain ⟨rfl, rfl⟩ := hif
  rw [HC.out]
  obtain ⟨qa, HQa⟩ : ∃ q, Hid (Ls.wh [] 1 kk qs = q) := ⟨_, rfl⟩
  have HLa : Hid (qa.length ≤ 10000) := by show _ ≤ _; rw [← HQa.out]; exact Nat.le_trans (wh_length _ _ _ _) HLs.out
  rw [HQa.out] at hrla ⊢
  replace S := Lib.hid (S.out.go hb)
  replace HB := Lib.hid (below_up HB.out hb)
  have HRa := Lib.hid hrla
  clear hb hrla
  obtain ⟨ka, Hka⟩ : ∃ k, Hid (va.heap.size = k) := ⟨_, rfl⟩
  obtain ⟨ua, Hua⟩ : ∃ u, Hid (va.alloc (.cells #[.int .i64 (N : Nat), .slice Aa qa.length ca] 24) = u) := ⟨_, rfl⟩
  have HVa : Hid (Ls.V N qa) := by show Ls.V _ _; rw [← HQa.out]; exact Ls.wh_valid HV.out _ _ _
  have HCa := Lib.hid (chk0 HVa.out)
  have s0 := S.out.c0; have s1 := S.out.c1; have sl := S.out.lt
  go_wp2_with fail
  rw [Hua.out]
  try simp only [Hka.out]
  clear s0 s1 sl
  replace S : Hid (SX ks N As cs qs ua) := by show SX _ _ _ _ _ _; rw [← Hua.out]; exact S.out.go (below_new _ _)
  have A : Hid (SX ka N Aa ca qa ua) := by show SX _ _ _ _ _ _; rw [← Hka.out, ← Hua.out]; exact SX.new HRa.out _
  replace HB : Hid (Below w.heap.size w ua) := by show Below _ _ _; rw [← Hua.out]; exact below_up HB.out (below_new _ _)
  refine (where_any N As none cs 0 qs [] (-1) kk _ S.out.rl (RD.nil_ _ _ _) (by have := HLs.out; omega) (by decide)).mono ?_
  rintro e vb ⟨nb, lb, Ab, cb, rfl, hif, hrlb, hb⟩
  rw [HC.out, if_pos rfl] at hif
  obtain ⟨rfl, rfl⟩ := hif
  rw [HC.out]
  obtain ⟨qb, HQb⟩ : ∃ q, Hid (Ls.wh [] (-1) kk qs = q) := ⟨_, rfl⟩
  have HLb : Hid (qb.length ≤ 10000) := by show _ ≤ _; rw [← HQb.out]; exact Nat.le_trans (wh_length _ _ _ _) HLs.out
  rw [HQb.out] at hrlb ⊢
  replace S := Lib.hid (S.out.go hb)
  replace A := Lib.hid (A.out.go hb)
  replace HB := Lib.hid (below_up HB.out hb)
  have HRb := Lib.hid hrlb
  clear hb hrlb
  obtain ⟨kb, Hkb⟩ : ∃ k, Hid (vb.heap.size = k) := ⟨_, rfl⟩
  obtain ⟨ub, Hub⟩ : ∃ u, Hid (vb.alloc (.cells #[.int .i64 (N : Nat), .slice Ab qb.length cb] 24) = u) := ⟨_, rfl⟩
  have s0 := S.out.c0; have s1 := S.out.c1; have sl := S.out.lt
  have a0 := A.out.c0; have a1 := A.out.c1; have al := A.out.lt
  go_wp2_with fail
  rw [Hub.out]
  try simp only [Hkb.out]
  clear s0 s1 sl a0 a1 al
  replace S : Hid (SX ks N As cs qs ub) := by show SX _ _ _ _ _ _; rw [← Hub.out]; exact S.out.go (below_new _ _)
  replace A : Hid (SX ka N Aa ca qa ub) := by show SX _ _ _ _ _ _; rw [← Hub.out]; exact A.out.go (below_new _ _)
  have B : Hid (SX kb N Ab cb qb ub) := by show SX _ _ _ _ _ _; rw [← Hkb.out, ← Hub.out]; exact SX.new HRb.out _
  replace HB : Hid (Below w.heap.size w ub) := by show Below _ _ _; rw [← Hub.out]; exact below_up HB.out (below_new _ _)
  refine (where_any N As none cs 0 qs [] 0 kk _ S.out.rl (RD.nil_ _ _ _) (by have := HLs.out; omega) (by decide)).mono ?_
  rintro e vc ⟨nc, lc, Ac, cc, rfl, hif, hrlc, hb⟩
  rw [HC.out, if_pos rfl] at hif
  obtain ⟨rfl, rfl⟩ := hif
  rw [HC.out]
  obtain ⟨qc, HQc⟩ : ∃ q, Hid (Ls.wh [] 0 kk qs = q) := ⟨_, rfl⟩
  have HLc : Hid (qc.length ≤ 10000) := by show _ ≤ _; rw [← HQc.out]; exact Nat.le_trans (wh_length _ _ _ _) HLs.out
  rw [HQc.out] at hrlc ⊢
  replace S := Lib.hid (S.out.go hb)
  replace A := Lib.hid (A.out.go hb)
  replace B := Lib.hid (B.out.go hb)
  replace HB := Lib.hid (below_up HB.out hb)
  have HRc := Lib.hid hrlc
  clear hb hrlc
  obtain ⟨kc, Hkc⟩ : ∃ k, Hid (vc.heap.size = k) := ⟨_, rfl⟩
  obtain ⟨uc, Huc⟩ : ∃ u, Hid (vc.alloc (.cells #[.int .i64 (N : Nat), .slice Ac qc.length cc] 24) = u) := ⟨_, rfl⟩
  have s0 := S.out.c0; have s1 := S.out.c1; have sl := S.out.lt
  have a0 := A.out.c0; have a1 := A.out.c1; have al := A.out.lt
  have b0 := B.out.c0; have b1 := B.out.c1; have bl := B.out.lt
  go_wp2_with fail
  rw [Huc.out]
  try simp only [Hkc.out]
  clear s0 s1 sl a0 a1 al b0 b1 bl
  have hz : kc + 1 = uc.heap.size := by rw [← Huc.out, ← Hkc.out]; simp
  simp only [hz]
  clear hz
  replace S : Hid (SX ks N As cs qs uc) := by show SX _ _ _ _ _ _; rw [← Huc.out]; exact S.out.go (below_new _ _)
  replace A : Hid (SX ka N Aa ca qa uc) := by show SX _ _ _ _ _ _; rw [← Huc.out]; exact A.out.go (below_new _ _)
  replace B : Hid (SX kb N Ab cb qb uc) := by show SX _ _ _ _ _ _; rw [← Huc.out]; exact B.out.go (below_new _ _)
  have C : Hid (SX kc N Ac cc qc uc) := by show SX _ _ _ _ _ _; rw [← Hkc.out, ← Huc.out]; exact SX.new HRc.out _
  replace HB : Hid (Below w.heap.size w uc) := by show Below _ _ _; rw [← Huc.out]; exact below_up HB.out (below_new _ _)
  refine (where_any N Aa _ ca 2 qa [0, 2] 0 0 _ (A.out.go (below_new _ _)).rl (RD_two _ 0 2) (by have := HLa.out; omega) (by decide)).mono ?_
  rintro e vx ⟨nx, lx, Ax, cx, rfl, hif, hrlx, hb⟩
  rw [HCa.out, if_pos rfl] at hif
  obtain ⟨rfl, rfl⟩ := hif
  rw [HCa.out]
  obtain ⟨qx, HQx⟩ : ∃ q, Hid (Ls.wh [0, 2] 0 0 qa = q) := ⟨_, rfl⟩
  have HLx : Hid (qx.length ≤ 10000) := by show _ ≤ _; rw [← HQx.out]; exact Nat.le_trans (wh_length _ _ _ _) HLa.out
  rw [HQx.out] at hrlx ⊢
  replace S := Lib.hid ((S.out.go (below_new _ _)).go hb)
  replace A := Lib.hid ((A.out.go (below_new _ _)).go hb)
  replace B := Lib.hid ((B.out.go (below_new _ _)).go hb)
  replace C := Lib.hid ((C.out.go (below_new _ _)).go hb)
  replace HB := Lib.hid (below_up (below_up HB.out (below_new _ _)) hb)
  have HRx := Lib.hid hrlx
  clear hb hrlx
  obtain ⟨kx, Hkx⟩ : ∃ k, Hid (vx.heap.size = k) := ⟨_, rfl⟩
  obtain ⟨ux, Hux⟩ : ∃ u, Hid (vx.alloc (.cells #[.int .i64 (N : Nat), .slice Ax qx.length cx] 24) = u) := ⟨_, rfl⟩
  have s0 := S.out.c0; have s1 := S.out.c1; have sl := S.out.lt
  have a0 := A.out.c0; have a1 := A.out.c1; have al := A.out.lt
  have b0 := B.out.c0; have b1 := B.out.c1; have bl := B.out.lt
  have c0 := C.out.c0; have c1 := C.out.c1; have cl := C.out.lt
  go_wp2_with fail
  rw [Hux.out]
  try simp only [Hkx.out]
  clear s0 s1 sl a0 a1 al b0 b1 bl c0 c1 cl
  have hz : kx + 1 = ux.heap.size := by rw [← Hux.out, ← Hkx.out]; simp
  simp only [hz]
  clear hz
  replace S : Hid (SX ks N As cs qs ux) := by show SX _ _ _ _ _ _; rw [← Hux.out]; exact S.out.go (below_new _ _)
  replace A : Hid (SX ka N Aa ca qa ux) := by show SX _ _ _ _ _ _; rw [← Hux.out]; exact A.out.go (below_new _ _)
  replace B : Hid (SX kb N Ab cb qb ux) := by show SX _ _ _ _ _ _; rw [← Hux.out]; exact B.out.go (below_new _ _)
  replace C : Hid (SX kc N Ac cc qc ux) := by show SX _ _ _ _ _ _; rw [← Hux.out]; exact C.out.go (below_new _ _)
  have X : Hid (SX kx N Ax cx qx ux) := by show SX _ _ _ _ _ _; rw [← Hkx.out, ← Hux.out]; exact SX.new HRx.out _
  replace HB : Hid (Below w.heap.size w ux) := by show Below _ _ _; rw [← Hux.out]; exact below_up HB.out (below_new _ _)
  refine (where_any N As _ cs 2 qs [2, 0] 1 kk _ (S.out.go (below_new _ _)).rl (RD_two _ 2 0) (by have := HLs.out; omega) (by decide)).mono ?_
  rintro e vy ⟨ny, ly, Ay, cy, rfl, hif, hrly, hb⟩
  rw [HC.out, if_pos rfl] at hif
  obtain ⟨rfl, rfl⟩ := hif
  rw [HC.out]
  obtain ⟨qy, HQy⟩ : ∃ q, Hid (Ls.wh [2, 0] 1 kk qs = q) := ⟨_, rfl⟩
  have HLy : Hid (qy.length ≤ 10000) := by show _ ≤ _; rw [← HQy.out]; exact Nat.le_trans (wh_length _ _ _ _) HLs.out
  rw [HQy.out] at hrly ⊢
  replace S := Lib.hid ((S.out.go (below_new _ _)).go hb)
  replace A := Lib.hid ((A.out.go (below_new _ _)).go hb)
  replace B := Lib.hid ((B.out.go (below_new _ _)).go hb)
  replace C := Lib.hid ((C.out.go (below_new _ _)).go hb)
  replace X := Lib.hid ((X.out.go (below_new _ _)).go hb)
  replace HB := Lib.hid (below_up (below_up HB.out (below_new _ _)) hb)
  have HRy := Lib.hid hrly
  clear hb hrly
  obtain ⟨ky, Hky⟩ : ∃ k, Hid (vy.heap.size = k) := ⟨_, rfl⟩
  obtain ⟨uy, Huy⟩ : ∃ u, Hid (vy.alloc (.cells #[.int .i64 (N : Nat), .slice Ay qy.length cy] 24) = u) := ⟨_, rfl⟩
  have HSUM : Hid (qa.length + qb.length = qc.length) := by show _ = _; rw [← HQa.out, ← HQb.out, ← HQc.out]; exact Ls.wh_signs HV.out kk
  have HXY : Hid (qx = qy) := by show _ = _; rw [← HQx.out, ← HQa.out, ← HQy.out]; exact Ls.wh_twice HV.out kk
  have f1 : IntKind.i64.wrap ((qa.length : Int) + (qb.length : Int)) = (qa.length : Int) + (qb.length : Int) := IntWalk.i64_in _ (by have := HLa.out; have := HLb.out; omega)
  have f2 : ((qa.length : Int) + (qb.length : Int) == (qc.length : Int)) = true := by have := HSUM.out; simp; omega
  have s0 := S.out.c0; have s1 := S.out.c1; have sl := S.out.lt
  have a0 := A.out.c0; have a1 := A.out.c1; have al := A.out.lt
  have b0 := B.out.c0; have b1 := B.out.c1; have bl := B.out.lt
  have c0 := C.out.c0; have c1 := C.out.c1; have cl := C.out.lt
  have x0 := X.out.c0; have x1 := X.out.c1; have xl := X.out.lt
  go_wp2_with fail
  rw [Huy.out]
  try simp only [Hky.out]
  clear s0 s1 sl a0 a1 al b0 b1 bl c0 c1 cl x0 x1 xl
  replace S : Hid (SX ks N As cs qs uy) := by show SX _ _ _ _ _ _; rw [← Huy.out]; exact S.out.go (below_new _ _)
  replace A : Hid (SX ka N Aa ca qa uy) := by show SX _ _ _ _ _ _; rw [← Huy.out]; exact A.out.go (below_new _ _)
  replace B : Hid (SX kb N Ab cb qb uy) := by show SX _ _ _ _ _ _; rw [← Huy.out]; exact B.out.go (below_new _ _)
  replace C : Hid (SX kc N Ac cc qc uy) := by show SX _ _ _ _ _ _; rw [← Huy.out]; exact C.out.go (below_new _ _)
  replace X : Hid (SX kx N Ax cx qx uy) := by show SX _ _ _ _ _ _; rw [← Huy.out]; exact X.out.go (below_new _ _)
  have Y : Hid (SX ky N Ay cy qy uy) := by show SX _ _ _ _ _ _; rw [← Hky.out, ← Huy.out]; exact SX.new HRy.out _
  replace HB : Hid (Below w.heap.size w uy) := by show Below _ _ _; rw [← Huy.out]; exact below_up HB.out (below_new _ _)
  have CSm := sameS_any N N Ax Ay cx cy qx qy uy X.out.rl Y.out.rl (by have := HLx.out; omega)
  rw [show sameS N N qx qy = true by unfold sameS; rw [decide_eq_true_eq]; exact ⟨rfl, HXY.out⟩] at CSm
  refine CSm.mono ?_
  rintro e v8 ⟨rfl, hb8⟩
  replace HB := Lib.hid (below_up HB.out hb8)
  clear hb8 f1 f2
  go_wp2_with fail
  refine (awake_any _).mono ?_
  rintro e v9 ⟨rfl, hb9⟩
  replace HB := Lib.hid (below_up HB.out hb9)
  clear hb9
  go_wp2
  go_ret
  exact ⟨rfl, HB.out⟩
end Go.Proofs.Ytagkpkkbkeefbaa
