/-
  slices.DeleteFunc at links, in a row of the caller's own that may begin within its block.
-/
import Derived.Test.YtfapfkaipdcflaaGreatSf
namespace Go.Proofs.YtfapfkaipdcflaaGreat
open Go.RowKit Go.Lib

theorem below_via {w w' : World} {o : Obj} (h : Below (w.alloc o).heap.size (w.alloc o) w') : Below w.heap.size w w' := (below_new w o).trans (h.mono (by simp))
/-- the box of a link, behind a callee that only makes memory -/
theorem box6 {w w1 : World} {a0 a1 a2 a3 a4 a5 : Value} (hb : Below (w.alloc (.cells #[a0, a1, a2, a3, a4, a5] 62)).heap.size (w.alloc (.cells #[a0, a1, a2, a3, a4, a5] 62)) w1) :
    w1.cell? ⟨w.heap.size, 0, none⟩ = some a0 ∧ w1.cell? ⟨w.heap.size, 1, none⟩ = some a1 ∧ w1.cell? ⟨w.heap.size, 2, none⟩ = some a2 ∧ w1.cell? ⟨w.heap.size, 3, none⟩ = some a3 ∧ w1.cell? ⟨w.heap.size, 4, none⟩ = some a4 ∧ w1.cell? ⟨w.heap.size, 5, none⟩ = some a5 := by
  have h := (hb.block w.heap.size (by simp)).trans (heap_alloc_new _ _)
  exact ⟨Go.Joins.cell_of_block h 0, Go.Joins.cell_of_block h 1, Go.Joins.cell_of_block h 2, Go.Joins.cell_of_block h 3, Go.Joins.cell_of_block h 4, Go.Joins.cell_of_block h 5⟩
/-- while links are taken away: those kept stand first, the rest from place j on -/
def LD (g o c j : Nat) (K R : List Ls.Lk) (w : World) : Prop :=
  ∃ cur : Array Value, w.heap[g]? = some (.cells cur 62 (0, 0)) ∧ cur.size = o + c * 6 ∧ (cur.toList.drop o).take (K.length * 6) = cl Ls.Lk.cells K ∧ (cur.toList.drop (o + j * 6)).take (R.length * 6) = cl Ls.Lk.cells R
section
variable {g o c j : Nat} {K R : List Ls.Lk} {a : Ls.Lk} {w w' : World}
theorem LD.go (h : LD g o c j K R w) (hb : w'.heap[g]? = w.heap[g]?) : LD g o c j K R w' := by
  obtain ⟨cur, h1, h2⟩ := h
  exact ⟨cur, hb.trans h1, h2⟩
theorem LD.fz (h : LD g o c j K R w) (q : Nat) : w.frozen? ⟨g, q, none⟩ = false := by
  obtain ⟨cur, h1, -⟩ := h
  exact Go.Joins.unfrozen_of_block h1 q
theorem LD.lt (h : LD g o c j K R w) : g < w.heap.size := by
  obtain ⟨cur, h1, -⟩ := h
  exact lt_of_some h1
theorem LD.at_ (h : LD g o c j K (a :: R) w) : w.cell? ⟨g, o + j * 6, none⟩ = some (.int .i64 a.u) ∧ w.cell? ⟨g, o + j * 6 + 1, none⟩ = some (.int .i64 a.v) ∧ w.cell? ⟨g, o + j * 6 + 2, none⟩ = some (.int .i64 a.weight) ∧ w.cell? ⟨g, o + j * 6 + 3, none⟩ = some (.int .i64 a.label) ∧
    w.cell? ⟨g, o + j * 6 + 4, none⟩ = some (.int .i64 a.sign) ∧ w.cell? ⟨g, o + j * 6 + 5, none⟩ = some (.int .i64 a.time) := by
  obtain ⟨cur, h1, h2, -, h4⟩ := h
  have hc := Go.Joins.cell_of_block h1
  have hx : ∀ r u, a.cells[r]? = some u → w.cell? ⟨g, o + j * 6 + r, none⟩ = some u := by
    intro r u hr
    have hr6 : r < 6 := by have := (List.getElem?_eq_some_iff.1 hr).1; exact this
    have := cl_at encL (a :: R) 0 a rfl r hr6
    rw [Nat.zero_mul, Nat.zero_add, hr, ← h4, List.getElem?_take_of_lt (by simp; omega), List.getElem?_drop] at this
    rw [hc, ← this]
    simp
  exact ⟨hx 0 _ rfl, hx 1 _ rfl, hx 2 _ rfl, hx 3 _ rfl, hx 4 _ rfl, hx 5 _ rfl⟩
theorem LD.st (h : LD g o c j K (a :: R) w) (i : Nat) (hi : i < j) (hj : j + 1 ≤ c) : (∃ v, w.cell? ⟨g, o + i * 6, none⟩ = some v) ∧ (∃ v, w.cell? ⟨g, o + i * 6 + 1, none⟩ = some v) ∧ (∃ v, w.cell? ⟨g, o + i * 6 + 2, none⟩ = some v) ∧ (∃ v, w.cell? ⟨g, o + i * 6 + 3, none⟩ = some v) ∧
    (∃ v, w.cell? ⟨g, o + i * 6 + 4, none⟩ = some v) ∧ (∃ v, w.cell? ⟨g, o + i * 6 + 5, none⟩ = some v) := by
  obtain ⟨cur, h1, h2, -, h4⟩ := h
  have hc := Go.Joins.cell_of_block h1
  have hx : ∀ q, q < o + c * 6 → ∃ v, w.cell? ⟨g, q, none⟩ = some v := fun q hq => ⟨_, (hc q).trans (Array.getElem?_eq_getElem (by omega))⟩
  exact ⟨hx _ (by omega), hx _ (by omega), hx _ (by omega), hx _ (by omega), hx _ (by omega), hx _ (by omega)⟩
theorem LD.skip (h : LD g o c j K (a :: R) w) : LD g o c (j + 1) K R w := by
  obtain ⟨cur, h1, h2, h3, h4⟩ := h
  refine ⟨cur, h1, h2, h3, ?_⟩
  have := congrArg (List.drop 6) h4
  rw [cl_cons, List.drop_left' (by rfl), List.drop_take, List.drop_drop] at this
  rw [← this, List.length_cons, show o + j * 6 + 6 = o + (j + 1) * 6 by omega, show (R.length + 1) * 6 - 6 = R.length * 6 by omega]
theorem six_list (cur : Array Value) (i : Nat) (v0 v1 v2 v3 v4 v5 : Value) (h : i + 6 ≤ cur.size) :
    ((((((cur.setIfInBounds i v0).setIfInBounds (i + 1) v1).setIfInBounds (i + 2) v2).setIfInBounds (i + 3) v3).setIfInBounds (i + 4) v4).setIfInBounds (i + 5) v5).toList = cur.toList.take i ++ [v0, v1, v2, v3, v4, v5] ++ cur.toList.drop (i + 6) := by
  apply List.ext_getElem?
  intro q
  have hl : (cur.toList.take i).length = i := by rw [List.length_take]; simp; omega
  simp only [Array.getElem?_toList, Array.getElem?_setIfInBounds, Array.size_setIfInBounds]
  by_cases h1 : q < i
  · rw [List.append_assoc, List.getElem?_append_left (by omega), List.getElem?_take_of_lt h1, if_neg (by omega), if_neg (by omega), if_neg (by omega), if_neg (by omega), if_neg (by omega), if_neg (by omega), Array.getElem?_toList]
  · by_cases h2 : q < i + 6
    · rw [List.append_assoc, List.getElem?_append_right (by omega), hl]
      obtain ⟨r, rfl⟩ : ∃ r, q = i + r := ⟨q - i, by omega⟩
      obtain h | h | h | h | h | h : r = 0 ∨ r = 1 ∨ r = 2 ∨ r = 3 ∨ r = 4 ∨ r = 5 := by omega
      all_goals subst h
      all_goals simp
      all_goals omega
    · rw [List.getElem?_append_right (by rw [List.length_append, hl]; simp; omega), List.getElem?_drop, if_neg (by omega), if_neg (by omega), if_neg (by omega), if_neg (by omega), if_neg (by omega), if_neg (by omega), ← Array.getElem?_toList]
      congr 1
      rw [List.length_append, hl]
      simp
      omega
theorem setCell_only {u : World} {k i : Nat} {v : Value} (q : Nat) (hq : q ≠ k) : (u.setCell ⟨k, i, none⟩ v).heap[q]? = u.heap[q]? := Below.heap_setCell u ⟨k, i, none⟩ v q hq
theorem only_set1 {w : World} {g : Nat} (i : Nat) (u : Value) (w1 : World) (h : w1 = w.setCell ⟨g, i, none⟩ u) : w.grownBy w1 (some g) := by
  subst h
  exact ⟨rfl, rfl, rfl, by simp [World.setCell], fun k _ hk => setCell_only _ (fun e => hk (by rw [e]))⟩
theorem set_six {w : World} {g : Nat} {cur : Array Value} {T : TypeId} (h : w.heap[g]? = some (.cells cur T (0, 0))) (o : Nat) (v0 v1 v2 v3 v4 v5 : Value) (W : World)
    (hW : ((((((w.setCell ⟨g, o, none⟩ v0).setCell ⟨g, o + 1, none⟩ v1).setCell ⟨g, o + 2, none⟩ v2).setCell ⟨g, o + 3, none⟩ v3).setCell ⟨g, o + 4, none⟩ v4).setCell ⟨g, o + 5, none⟩ v5) = W) :
    W.heap[g]? = some (.cells ((((((cur.setIfInBounds o v0).setIfInBounds (o + 1) v1).setIfInBounds (o + 2) v2).setIfInBounds (o + 3) v3).setIfInBounds (o + 4) v4).setIfInBounds (o + 5) v5) T (0, 0)) ∧
    (∀ k, k ≠ g → W.heap[k]? = w.heap[k]?) ∧ w.grownBy W (some g) := by
  subst hW
  refine ⟨setCell_cells (setCell_cells (setCell_cells (setCell_cells (setCell_cells (setCell_cells h _ _) _ _) _ _) _ _) _ _) _ _, fun k hk => ?_, ?_⟩
  · rw [setCell_only _ hk, setCell_only _ hk, setCell_only _ hk, setCell_only _ hk, setCell_only _ hk, setCell_only _ hk]
  · exact grown_trans (grown_trans (grown_trans (grown_trans (grown_trans (only_set1 _ _ _ rfl) (only_set1 _ _ _ rfl)) (only_set1 _ _ _ rfl)) (only_set1 _ _ _ rfl)) (only_set1 _ _ _ rfl)) (only_set1 _ _ _ rfl)
theorem LD.keep (h : LD g o c j K (a :: R) w) (hK : K.length < j) (hj : j + (R.length + 1) ≤ c) (W : World)
    (hW : ((((((w.setCell ⟨g, o + K.length * 6, none⟩ (.int .i64 a.u)).setCell ⟨g, o + K.length * 6 + 1, none⟩ (.int .i64 a.v)).setCell ⟨g, o + K.length * 6 + 2, none⟩ (.int .i64 a.weight)).setCell ⟨g, o + K.length * 6 + 3, none⟩ (.int .i64 a.label)).setCell ⟨g, o + K.length * 6 + 4, none⟩ (.int .i64 a.sign)).setCell ⟨g, o + K.length * 6 + 5, none⟩ (.int .i64 a.time)) = W) :
    LD g o c (j + 1) (K ++ [a]) R W ∧ w.grownBy W (some g) := by
  have hs := h.skip
  obtain ⟨cur, h1, h2, h3, h4⟩ := hs
  obtain ⟨s1, s2, s3⟩ := set_six h1 (o + K.length * 6) _ _ _ _ _ _ W hW
  have hb : o + K.length * 6 + 6 ≤ cur.size := by omega
  have hl := six_list cur (o + K.length * 6) (.int .i64 a.u) (.int .i64 a.v) (.int .i64 a.weight) (.int .i64 a.label) (.int .i64 a.sign) (.int .i64 a.time) hb
  change _ = _ ++ a.cells ++ _ at hl
  refine ⟨⟨_, s1, by simp [h2], ?_, ?_⟩, s3⟩
  · rw [hl]
    have e1 : (cur.toList.take (o + K.length * 6) ++ a.cells ++ cur.toList.drop (o + K.length * 6 + 6)).drop o = cl Ls.Lk.cells K ++ a.cells ++ cur.toList.drop (o + K.length * 6 + 6) := by
      rw [List.append_assoc, List.drop_append_of_le_length (by rw [List.length_take]; simp; omega), List.drop_take, Nat.add_sub_cancel_left, h3, List.append_assoc]
    have e2 : (cl Ls.Lk.cells K ++ a.cells).length = (K ++ [a]).length * 6 := by
      rw [List.length_append, cl_len encL, encL.len, List.length_append]; simp; omega
    rw [e1, ← e2, List.take_left, cl_append, cl_cons, cl_nil, List.append_nil]
  · have e3 : (cur.toList.take (o + K.length * 6) ++ a.cells).length = o + K.length * 6 + 6 := by
      rw [List.length_append, List.length_take, encL.len]; simp; omega
    have e4 : (cur.toList.take (o + K.length * 6) ++ a.cells ++ cur.toList.drop (o + K.length * 6 + 6)).drop (o + (j + 1) * 6) = cur.toList.drop (o + (j + 1) * 6) := by
      rw [List.drop_append, List.drop_eq_nil_of_le (by omega), List.nil_append, e3, List.drop_drop, show o + K.length * 6 + 6 + (o + (j + 1) * 6 - (o + K.length * 6 + 6)) = o + (j + 1) * 6 by omega]
    rw [hl, e4]
    exact h4
end
theorem run_clearL (w : World) (ty : TypeId) (g i n c : Nat) (cur : Array Value) (hg : w.heap[g]? = some (.cells cur 62 (0, 0))) (hn : 0 < n) (hfit : i + n * 6 ≤ cur.size) :
    (Builtin.clear_ #[22] ty #[.slice (some ⟨g, i, none⟩) n c]).run Tryz.prog w = .ok (.tuple #[]) (w.setRow g (cur.toList.take i ++ List.replicate (n * 6) (Value.int .i64 0) ++ cur.toList.drop (i + n * 6)).toArray) := by
  have hzc : (Builtin.zeroCells (Value.agg #[.int .i64 0, .int .i64 0, .int .i64 0, .int .i64 0, .int .i64 0, .int .i64 0]).cells n).toList = List.replicate (n * 6) (.int .i64 0) := by
    have e : (Value.agg #[.int .i64 0, .int .i64 0, .int .i64 0, .int .i64 0, .int .i64 0, .int .i64 0]).cells = #[.int .i64 0, .int .i64 0, .int .i64 0, .int .i64 0, .int .i64 0, .int .i64 0] := rfl
    rw [e]
    simp [Builtin.zeroCells]
    apply List.ext_getElem
    · simp
    · intro i h1 h2
      have : i % 6 = 0 ∨ i % 6 = 1 ∨ i % 6 = 2 ∨ i % 6 = 3 ∨ i % 6 = 4 ∨ i % 6 = 5 := by omega
      rcases this with h | h | h | h | h | h <;> simp [h]
  have hst := run_storeCells_at Tryz.prog g i 62 (List.replicate (n * 6) (.int .i64 0)) 0 cur w hg (by simpa using hfit) (by intro v hv'; rw [List.eq_of_mem_replicate hv']; rfl)
  simp only [Nat.add_zero, List.length_replicate] at hst
  obtain ⟨m, rfl⟩ : ∃ m, n = m + 1 := ⟨n - 1, by omega⟩
  simp [Builtin.clear_, run_underlying Tryz.underlying22, hzc, hst]
/-- what DeleteFunc answers -/
def DelP (base : Nat) (l : List Ls.Lk) (A : Option Addr) (c : Nat) (w : World) (e : Ending) (w' : World) : Prop :=
  e = .returned (.slice A l.length c) ∧ OW base w' A c l ∧ w.grownBy w' (bk A c)
theorem gr_of_below {w w' : World} {row : Option Nat} (h : Below w.heap.size w w') : w.grownBy w' row := ⟨h.os, h.tape, h.output, h.size, fun k hk _ => h.block k hk⟩
theorem gr_trans {w w1 w2 : World} {row : Option Nat} (h : w.grownBy w1 row) (h2 : w1.grownBy w2 row) : w.grownBy w2 row :=
  ⟨h2.os.trans h.os, h2.tape.trans h.tape, h2.output.trans h.output, Nat.le_trans h.size h2.size, fun i hi hne => (h2.block i (Nat.lt_of_lt_of_le hi h.size) hne).trans (h.block i hi hne)⟩
theorem kept_at (p : Ls.Lk → Bool) (l : List Ls.Lk) (j : Nat) (a : Ls.Lk) (h : l[j]? = some a) : (l.take (j + 1)).filter p = (l.take j).filter p ++ (if p a = true then [a] else []) := by
  rw [take_at l j a h, List.filter_append]
  congr 1
  cases hp : p a <;> simp [hp]
set_option maxHeartbeats 4000000 in
set_option maxRecDepth 100000 in
theorem delete_any (base E N : Nat) (e : Ev) (A : Option Addr) (c : Nat) (l : List Ls.Lk) (w : World) (own : OW base w A c l) (hl : l.length ≤ 65536) (hc : Cap E N e w) (hE : bk A c ≠ some E) (hN : bk A c ≠ some N) :
    Calls Tryz.prog 65 #[.slice A l.length c, .func (.func 66) #[] #[.pointer (some ⟨E, 0, none⟩), .pointer (some ⟨N, 0, none⟩)]] w
      (DelP base (l.filter fun x => !Ls.hitA e x) A c w) := by
  have C := Lib.hid (index_any E N e A c l w own.rv hl hc)
  rcases firstI_cases (Ls.hitA e) l with ⟨h1, h2⟩ | ⟨k, h1, h2, h3, a, h4, h5⟩
  · have HR : Hid ((l.filter fun x => !Ls.hitA e x) = l) := List.filter_eq_self.2 fun x hx => by rw [h2 x hx]; rfl
    rw [HR.out]
    have HO := Lib.hid own
    rw [h1] at C
    clear h1 h2 own hc hE hN HR
    go_enter Tryz.func65, Tryz.ntmps65
    go_wp2_with fail
    refine C.out.mono ?_
    rintro en w1 ⟨rfl, hb⟩
    have HB := Lib.hid hb
    clear hb C
    go_wp2
    go_ret
    exact ⟨rfl, HO.out.go HB.out, gr_of_below HB.out⟩
  · rw [h1] at C
    obtain ⟨g, o, cur, rfl, hbk, hbg, hg, hle, hcm, hsz, htk⟩ := ow_blk own (by omega)
    have HBK := Lib.hid hbk
    have HBG := Lib.hid hbg
    have HNE : Hid (g ≠ E ∧ g ≠ N) := ⟨fun h => hE (by rw [hbk, h]), fun h => hN (by rw [hbk, h])⟩
    have HC := Lib.hid hc
    have HCM := Lib.hid hcm
    unfold maxLen at hcm
    obtain ⟨n, HL⟩ : ∃ n, Hid (l.length = n) := ⟨_, rfl⟩
    have HK0 : Hid ((l.take (k + 1)).filter (fun x => !Ls.hitA e x) = l.take k) := by
      show _ = _
      rw [kept_at _ l k a h4, List.filter_eq_self.2 (fun x hx => by rw [h3 x hx]; rfl), h5]
      simp
    have hLD : Hid (∀ w1, Below w.heap.size w w1 → LD g o c (k + 1) ((l.take (k + 1)).filter (fun x => !Ls.hitA e x)) (l.drop (k + 1)) w1) := by
      intro w1 hb
      rw [HK0.out]
      have h0 : LD g o c k (l.take k) (l.drop k) w1 := by
        refine ⟨cur, (hb.block g (lt_of_some hg)).trans hg, hsz, ?_, ?_⟩
        · rw [List.length_take, Nat.min_eq_left (by omega), ← cl_take encL, ← htk, List.take_take, Nat.min_eq_left (by omega)]
        · rw [← List.drop_drop, ← cl_drop encL, ← htk, List.drop_take, List.length_drop, Nat.sub_mul]
      rw [drop_at2 l k a h4] at h0
      exact h0.skip
    have hKn : Hid (((l.take (k + 1)).filter (fun x => !Ls.hitA e x)).length = k) := by show _ = _; rw [HK0.out, List.length_take]; omega
    have f1 : IntKind.i64.wrap ((k : Int) + 1) = (k : Int) + 1 := IntWalk.i64_in _ (by omega)
    have d12 : (((k : Nat) : Int) == -1) = false := by rw [beq_eq_false_iff_ne]; omega
    rw [HL.out] at h2 hle hl C ⊢
    clear own hc hE hN hbk hbg hg hsz htk h1 h3 h4 h5 HK0
    go_enter Tryz.func65, Tryz.ntmps65
    go_wp2_with fail
    refine C.out.mono ?_
    rintro en w1 ⟨rfl, hb⟩
    have HB := Lib.hid hb
    clear hb C
    go_wp2
    go_loopw [5, 6] (fun i j wr => ∃ (iN jN : Nat), i = .int .i64 iN ∧ j = .int .i64 jN ∧ iN < jN ∧ jN ≤ n ∧ Hid (((l.take jN).filter (fun x => !Ls.hitA e x)).length = iN) ∧ Hid (LD g o c jN ((l.take jN).filter (fun x => !Ls.hitA e x)) (l.drop jN) wr) ∧ Hid (w.grownBy wr (some g))) (fun _ j _ => n - (RowKit.intOf j).toNat)
    case atStart => exact ⟨k, k + 1, rfl, by go_num, by omega, by omega, hKn.out, hLD.out _ HB.out, gr_of_below HB.out⟩
    case round =>
      obtain ⟨i, j, rfl, rfl, hij, hjn, HKL, HLD, HG⟩ := hrel
      clear hLD hKn HB
      have HCr := Lib.hid (HC.out.gr HG.out (fun h => HNE.out.1 (Option.some.inj h)) (fun h => HNE.out.2 (Option.some.inj h)))
      have hgl := HLD.out.lt
      by_cases hlt : j < n
      · obtain ⟨⟨u1, v1, x1, y1, z1, t1⟩, ha⟩ : ∃ a, l[j]? = some a := ⟨_, List.getElem?_eq_getElem (by rw [HL.out]; exact hlt)⟩
        have HX := Lib.hid ha
        have HLD2 : Hid (LD g o c j ((l.take j).filter (fun x => !Ls.hitA e x)) (⟨u1, v1, x1, y1, z1, t1⟩ :: l.drop (j + 1)) wr) := by
          show LD _ _ _ _ _ _ _
          rw [← drop_at2 l j _ ha]; exact HLD.out
        obtain ⟨c0, c1, c2, c3, c4, c5⟩ := HLD2.out.at_
        dsimp only at c0 c1 c2 c3 c4 c5
        have HKA := Lib.hid (kept_at (fun x => !Ls.hitA e x) l j _ ha)
        obtain ⟨W1, HW1⟩ : ∃ W1, Hid (W1 = wr.alloc (.cells #[.int .i64 u1, .int .i64 v1, .int .i64 x1, .int .i64 y1, .int .i64 z1, .int .i64 t1] 62)) := ⟨_, rfl⟩
        have HB1 : Hid (Below wr.heap.size wr W1) := by show Below _ _ _; rw [HW1.out]; exact below_new _ _
        have CH := Lib.hid (hit_any E N e u1 v1 x1 y1 z1 t1 W1 (HCr.out.go HB1.out))
        rw [HW1.out] at CH
        clear ha HLD
        cases hp : Ls.hitA e ⟨u1, v1, x1, y1, z1, t1⟩ with
        | true =>
          rw [hp] at CH
          have HKA2 : Hid ((l.take (j + 1)).filter (fun x => !Ls.hitA e x) = (l.take j).filter (fun x => !Ls.hitA e x)) := by
            show _ = _
            rw [HKA.out, hp]; simp
          clear HKA hp
          go_wp2_with fail
          refine CH.out.mono ?_
          rintro en w2 ⟨rfl, hb2⟩
          have HB2 : Hid (Below wr.heap.size wr w2) := below_via hb2
          clear hb2 CH c0 c1 c2 c3 c4 c5 HW1 HB1
          go_wp2
          go_roundw
          case rel => exact ⟨i, j + 1, rfl, by go_num, by omega, by omega, by show _ = _; rw [HKA2.out]; exact HKL.out, by show LD _ _ _ _ _ _ _; rw [HKA2.out]; exact HLD2.out.skip.go (HB2.out.block g hgl), gr_trans HG.out (gr_of_below HB2.out)⟩
          case measure => simp [RowKit.intOf]; omega
        | false =>
          rw [hp] at CH
          have HKA2 : Hid ((l.take (j + 1)).filter (fun x => !Ls.hitA e x) = (l.take j).filter (fun x => !Ls.hitA e x) ++ [⟨u1, v1, x1, y1, z1, t1⟩]) := by
            show _ = _
            rw [HKA.out, hp]; simp
          clear HKA hp
          go_wp2_with fail
          refine CH.out.mono ?_
          rintro en w2 ⟨rfl, hb2⟩
          have HB2 : Hid (Below wr.heap.size wr w2) := below_via hb2
          obtain ⟨b0, b1, b2, b3, b4, b5⟩ := box6 hb2
          have HLD3 : Hid (LD g o c j ((l.take j).filter (fun x => !Ls.hitA e x)) (⟨u1, v1, x1, y1, z1, t1⟩ :: l.drop (j + 1)) w2) := HLD2.out.go (HB2.out.block g hgl)
          obtain ⟨⟨y0, z0⟩, ⟨y1, z1'⟩, ⟨y2, z2⟩, ⟨y3, z3⟩, ⟨y4, z4⟩, ⟨y5, z5⟩⟩ := HLD3.out.st i (by omega) (by omega)
          have q0 := HLD3.out.fz (o + i * 6); have q1 := HLD3.out.fz (o + i * 6 + 1); have q2 := HLD3.out.fz (o + i * 6 + 2); have q3 := HLD3.out.fz (o + i * 6 + 3); have q4 := HLD3.out.fz (o + i * 6 + 4); have q5 := HLD3.out.fz (o + i * 6 + 5)
          have hgl2 : g < w2.heap.size := Nat.lt_of_lt_of_le hgl HB2.out.size
          have hwl : wr.heap.size < w2.heap.size := by have := hb2.size; simp at this; omega
          clear hb2 CH c0 c1 c2 c3 c4 c5 HW1 HB1
          go_wp2
          obtain ⟨h8, h9⟩ := HLD3.out.keep (by rw [HKL.out]; exact hij) (by rw [List.length_drop, HL.out]; omega) _ rfl
          rw [HKL.out] at h8 h9
          have HL8 := Lib.hid h8
          have HG8 := Lib.hid (gr_trans HG.out (gr_trans (gr_of_below HB2.out) h9))
          clear h8 h9
          go_roundw
          case rel => exact ⟨i + 1, j + 1, by go_num, by go_num, by omega, by omega, by show _ = _; rw [HKA2.out, List.length_append, HKL.out]; rfl, by show LD _ _ _ _ _ _ _; rw [HKA2.out]; exact HL8.out, HG8.out⟩
          case measure => simp [RowKit.intOf]; omega
      · obtain rfl : j = n := by omega
        have HK : Hid (l.filter (fun x => !Ls.hitA e x) = (l.take j).filter (fun x => !Ls.hitA e x)) := by show _ = _; rw [List.take_of_length_le (by rw [HL.out]; exact Nat.le_refl _)]
        obtain ⟨cur2, k1, k2, k3, -⟩ := HLD.out
        have hcl := fun ty => run_clearL wr ty g (o + i * 6) (j - i) (c - i) cur2 k1 (by omega) (by omega)
        have HW3 : Hid (OW base (wr.setRow g (cur2.toList.take (o + i * 6) ++ List.replicate ((j - i) * 6) (Value.int .i64 0) ++ cur2.toList.drop (o + i * 6 + (j - i) * 6)).toArray) (some ⟨g, o, none⟩) c (l.filter (fun x => !Ls.hitA e x)) ∧ w.grownBy (wr.setRow g (cur2.toList.take (o + i * 6) ++ List.replicate ((j - i) * 6) (Value.int .i64 0) ++ cur2.toList.drop (o + i * 6 + (j - i) * 6)).toArray) (some g)) := by
          refine ⟨⟨by rw [HK.out, HKL.out]; omega, HCM.out, .inr ⟨g, o, _, rfl, HBG.out, setRow_heap _ _ _ _ _ _ k1, ?_, ?_⟩⟩, gr_trans HG.out ⟨rfl, rfl, rfl, by simp, fun q _ hq => setRow_other wr g q _ (fun e => hq (by simp [e]))⟩⟩
          · simp only [List.size_toArray, List.length_append, List.length_take, List.length_replicate, List.length_drop, Array.length_toList]
            omega
          · rw [HK.out, HKL.out]
            rw [HKL.out] at k3
            show (List.drop o (cur2.toList.take (o + i * 6) ++ _ ++ _)).take (i * 6) = _
            rw [List.append_assoc, List.drop_append_of_le_length (by rw [List.length_take, Array.length_toList]; omega), List.drop_take, Nat.add_sub_cancel_left, k3, List.take_append_of_le_length (by rw [cl_len encL, HKL.out]; exact Nat.le_refl _), List.take_of_length_le (by rw [cl_len encL, HKL.out]; exact Nat.le_refl _)]
        have HKK : Hid ((l.filter (fun x => !Ls.hitA e x)).length = i) := by show _ = _; rw [HK.out, HKL.out]
        generalize wr.setRow g (cur2.toList.take (o + i * 6) ++ List.replicate ((j - i) * 6) (Value.int .i64 0) ++ cur2.toList.drop (o + i * 6 + (j - i) * 6)).toArray = W3 at hcl HW3
        have f5 : ¬ c = i := by omega
        clear k1 k2 k3
        go_wp2
        go_ret
        exact ⟨by rw [HKK.out]; rfl, HW3.out.1, by rw [HBK.out]; exact HW3.out.2⟩
end Go.Proofs.YtfapfkaipdcflaaGreat
