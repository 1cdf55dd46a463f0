/-
  The law NodesetOrder, walked.
-/
import Derived.Test.YtjagjlgboheoeaaNi
import Derived.BigFrame
namespace Go.Proofs.Ytjagjlgboheoeaa
open Go.RowKit Go.Lib

theorem wpList_applW {ops : Array Oper} {rest : List Oper} {o : Oper} {a : Act} {Q : Exit → Act → World → Prop} (W : World) (hw : Region.wanted o (yielded ops a.tmps) = true) (s x : Operand)
    (ho : o.op = .call { callee := .builtin .append, args := #[s, x], argTypes := #[22, 22] }) (base : Nat) (A2 : Option Addr) (c2 : Nat) (ks : List Int)
    (hs : a.eval s = .slice A2 ks.length c2) (hown : W.ownsRow base 3 1 (.slice A2 ks.length c2) ks.length (vals ks)) (A' : Option Addr) (c' m : Nat) (news : List Int) (hm : news.length = m)
    (hx : a.eval x = .slice A' m c') (hr : RD W A' c' news) (hk : ks.length + m ≤ 200000) (hbase : base ≤ W.heap.size)
    (h : ∀ A3 c3 w', Hid (w'.ownsRow base 3 1 (.slice A3 (ks ++ news).length c3) (ks ++ news).length (vals (ks ++ news))) → Hid (Below base W w') → wpList Try.prog ops Q rest (a.put o.dst (.slice A3 (ks ++ news).length c3)) w') :
    wpList Try.prog ops Q (o :: rest) a W :=
  BigFrame.wpList_want hw fun _ hK => wp_appl W s x ho base A2 c2 ks hs hown A' c' m news hm hx hr hk hbase fun A3 c3 w' h1 h2 => hK _ _ (h A3 c3 w' h1 h2)

theorem law5_far (A B C : Option Addr) (c d f : Nat) (n m k : Nat) (w : World) (hn : n ≤ 17592186044416) (hm : m ≤ 17592186044416) (hk : k ≤ 17592186044416) (hfar : 300 < n + m + k) :
    Calls Try.prog 5 #[.slice A n c, .slice B m d, .slice C k f] w fun e w' => e = .returned (.bool true) ∧ Below w.heap.size w w' := by
  have h1 : (300 : Int) < (n : Int) + m + k := by omega
  go_enter Try.func5, Try.ntmps5
  go_wp2_with (go_at_call 7; refine (awake_any _).mono ?_; rintro e w' ⟨rfl, hb⟩)
  go_ret
  exact ⟨rfl, hb⟩

theorem cm_front (a : List Int) (h : 0 < a.length) : Ns.cm (a.take (a.length - 1)) a = -1 := by
  have h2 : a.drop (a.length - 1) ≠ [] := fun h0 => by have := congrArg List.length h0; simp at this; omega
  have := Ns.cm_pre (a.take (a.length - 1)) (a.drop (a.length - 1)) h2
  rwa [List.take_append_drop] at this

theorem pushed (A B : Option Addr) (c d : Nat) (a : List Int) (w : World) (h : RD w A c a) (h' : RD w B d (a ++ [0])) (hl : a.length ≤ 65535) :
    Calls Try.prog 23 #[.slice A a.length c, .slice B (a.length + 1) d] w fun e w' => e = .returned (.int .i64 (-1)) ∧ w = w' := by
  have := cmp_any A B c d a (a ++ [0]) w h h' (by omega) (by simp; omega)
  rw [Ns.cm_pre a [0] (by simp), List.length_append] at this
  exact this
theorem fronted (A : Option Addr) (c : Nat) (a : List Int) (w : World) (h : RD w A c a) (hl : a.length ≤ 65536) (h0 : 0 < a.length) :
    Calls Try.prog 23 #[.slice A (a.length - 1) c, .slice A a.length c] w fun e w' => e = .returned (.int .i64 (-1)) ∧ w = w' := by
  have := cmp_any A A c c (a.take (a.length - 1)) a w (RB.front h (by omega)) h (by simp; omega) hl
  rw [cm_front a h0, show (a.take (a.length - 1)).length = a.length - 1 by rw [List.length_take]; omega] at this
  exact this
set_option maxHeartbeats 2000000 in
theorem law5_near (A B C : Option Addr) (c d f : Nat) (a b g : List Int) (w : World) (h1 : RD w A c a) (h2 : RD w B d b) (h3 : RD w C f g) (hnear : a.length + b.length + g.length ≤ 300) :
    Calls Try.prog 5 #[.slice A a.length c, .slice B b.length d, .slice C g.length f] w fun e w' => e = .returned (.bool true) ∧ Below w.heap.size w w' := by
  have hi : (a.length : Int) + b.length + g.length ≤ 300 := by omega
  have H1 := Lib.hid h1
  have H2 := Lib.hid h2
  have H3 := Lib.hid h3
  clear h1 h2 h3
  obtain ⟨X, HX⟩ : ∃ X, Hid (Ns.cm a b = X) := ⟨_, rfl⟩
  obtain ⟨Y, HY⟩ : ∃ Y, Hid (Ns.cm b g = Y) := ⟨_, rfl⟩
  obtain ⟨Z, HZ⟩ : ∃ Z, Hid (Ns.cm a g = Z) := ⟨_, rfl⟩
  have hx := Ns.cm_vals a b
  rw [HX.out] at hx
  have hy := Ns.cm_vals b g
  rw [HY.out] at hy
  have hz1 : X ≤ 0 → Y ≤ 0 → Z ≤ 0 := by rw [← HX.out, ← HY.out, ← HZ.out]; exact Ns.cm_trans a b g
  have hz2 : 0 ≤ X → 0 ≤ Y → 0 ≤ Z := by
    have := Ns.cm_trans g b a
    rw [Ns.cm_neg b g, Ns.cm_neg a b, Ns.cm_neg a g, HX.out, HY.out, HZ.out] at this
    intro h h'; have := this (by omega) (by omega); omega
  have HXn : Hid (Ns.cm b a = -X) := by show _ = _; rw [Ns.cm_neg, HX.out]
  have HE : Hid (eqB a b = (X == 0)) := by show _ = _; rw [← eqB_cm, HX.out]
  have HZ1 := Lib.hid hz1
  have HZ2 := Lib.hid hz2
  clear hz1 hz2
  have hA : a = [] ∨ 0 < a.length := by cases a <;> simp
  rcases hA with hA | hA
  · have hne : ((a.length : Int) == 0) = true := by rw [hA]; rfl
    clear hA
    rcases hx with rfl | rfl | rfl <;> rcases hy with rfl | rfl | rfl
    all_goals
      try (have hzA := HZ1.out (by decide) (by decide))
      try (have hzB := HZ2.out (by decide) (by decide))
      have hcapA := H1.out.1
      have hla : a.length ≤ 65535 := by omega
      have hlb : b.length ≤ 65536 := by omega
      have hlg : g.length ≤ 65536 := by omega
      go_enter Try.func5, Try.ntmps5
      go_wp2_with fail
      refine (cmp_any A B c d a b w H1.out H2.out (by omega) hlb).mono ?_
      rintro e w1 ⟨rfl, rfl⟩
      rw [HX.out]
      go_wp2_with fail
      refine (cmp_any B C d f b g w H2.out H3.out hlb hlg).mono ?_
      rintro e w1 ⟨rfl, rfl⟩
      rw [HY.out]
      go_wp2_with fail
      refine (cmp_any A C c f a g w H1.out H3.out (by omega) hlg).mono ?_
      rintro e w1 ⟨rfl, rfl⟩
      rw [HZ.out]
      go_wp2_with fail
      refine (cmp_any B A d c b a w H2.out H1.out hlb (by omega)).mono ?_
      rintro e w1 ⟨rfl, rfl⟩
      rw [HXn.out]
      go_wp2_with fail
      refine (same_any A B c d a b w H1.out H2.out (by omega) hlb).mono ?_
      rintro e w1 ⟨rfl, hb1⟩
      rw [HE.out]
      have HB1 := Lib.hid hb1
      clear hb1
      go_wp2_with (first
        | (at_builtin; refine wpList_applW _ rfl (.const (.slice none 0 0)) (.tmp 82) rfl w.heap.size none 0 [] rfl (World.ownsRow_nil _ _ _ _) A c a.length a rfl rfl (H1.out.go HB1.out) (by simp; omega) HB1.out.size ?_; intro A3 c3 w3 HO3 HB3; rw [List.nil_append] at HO3; rw [List.nil_append]; have HB13 := Lib.hid (HB1.out.trans HB3.out))
        | (at_builtin; refine wpList_applW _ rfl (.tmp 83) (.tmp 84) rfl w.heap.size A3 c3 a rfl (HO3.out.alloc _) (some ⟨w3.heap.size, 0, none⟩) 1 1 [0] rfl rfl (rd_new1 _ 0) (by omega) (by have := HB13.out.size; simp; omega) ?_; intro A4 c4 w4 HO4 HB4; have HB14 := Lib.hid (HB13.out.trans (((Below.refl _ _).alloc HB13.out.size _).trans HB4.out)))
        | (go_at_call 23; refine (pushed A A4 c c4 a w4 (H1.out.go HB14.out) (RD.of_own HO4.out) hla).mono ?_; rintro e w5 ⟨rfl, rfl⟩)
        | (go_at_call 7; refine (awake_any _).mono ?_; rintro e w6 ⟨rfl, hb6⟩; have HB6 := Lib.hid hb6; clear hb6))
      go_ret
      exact ⟨rfl, HB14.out.trans (HB6.out.mono HB14.out.size)⟩
  · have hne : ((a.length : Int) == 0) = false := by refine Bool.eq_false_iff.2 fun h0 => ?_; have : (a.length : Int) = 0 := by simpa using h0
                                                     omega
    rcases hx with rfl | rfl | rfl <;> rcases hy with rfl | rfl | rfl
    all_goals
      try (have hzA := HZ1.out (by decide) (by decide))
      try (have hzB := HZ2.out (by decide) (by decide))
      have hcapA := H1.out.1
      have hla : a.length ≤ 65535 := by omega
      have hlb : b.length ≤ 65536 := by omega
      have hlg : g.length ≤ 65536 := by omega
      go_enter Try.func5, Try.ntmps5
      go_wp2_with fail
      refine (cmp_any A B c d a b w H1.out H2.out (by omega) hlb).mono ?_
      rintro e w1 ⟨rfl, rfl⟩
      rw [HX.out]
      go_wp2_with fail
      refine (cmp_any B C d f b g w H2.out H3.out hlb hlg).mono ?_
      rintro e w1 ⟨rfl, rfl⟩
      rw [HY.out]
      go_wp2_with fail
      refine (cmp_any A C c f a g w H1.out H3.out (by omega) hlg).mono ?_
      rintro e w1 ⟨rfl, rfl⟩
      rw [HZ.out]
      go_wp2_with fail
      refine (cmp_any B A d c b a w H2.out H1.out hlb (by omega)).mono ?_
      rintro e w1 ⟨rfl, rfl⟩
      rw [HXn.out]
      go_wp2_with fail
      refine (same_any A B c d a b w H1.out H2.out (by omega) hlb).mono ?_
      rintro e w1 ⟨rfl, hb1⟩
      rw [HE.out]
      have HB1 := Lib.hid hb1
      clear hb1
      go_wp2_with fail
      refine (fronted A c a w1 (H1.out.go HB1.out) (by omega) hA).mono ?_
      rintro e w2 ⟨rfl, rfl⟩
      go_wp2_with (first
        | (at_builtin; refine wpList_applW _ rfl (.const (.slice none 0 0)) (.tmp 82) rfl w.heap.size none 0 [] rfl (World.ownsRow_nil _ _ _ _) A c a.length a rfl rfl (H1.out.go HB1.out) (by simp; omega) HB1.out.size ?_; intro A3 c3 w3 HO3 HB3; rw [List.nil_append] at HO3; rw [List.nil_append]; have HB13 := Lib.hid (HB1.out.trans HB3.out))
        | (at_builtin; refine wpList_applW _ rfl (.tmp 83) (.tmp 84) rfl w.heap.size A3 c3 a rfl (HO3.out.alloc _) (some ⟨w3.heap.size, 0, none⟩) 1 1 [0] rfl rfl (rd_new1 _ 0) (by omega) (by have := HB13.out.size; simp; omega) ?_; intro A4 c4 w4 HO4 HB4; have HB14 := Lib.hid (HB13.out.trans (((Below.refl _ _).alloc HB13.out.size _).trans HB4.out)))
        | (go_at_call 23; refine (pushed A A4 c c4 a w4 (H1.out.go HB14.out) (RD.of_own HO4.out) hla).mono ?_; rintro e w5 ⟨rfl, rfl⟩)
        | (go_at_call 7; refine (awake_any _).mono ?_; rintro e w6 ⟨rfl, hb6⟩; have HB6 := Lib.hid hb6; clear hb6))
      go_ret
      exact ⟨rfl, HB14.out.trans (HB6.out.mono HB14.out.size)⟩

theorem law5_any (A : Option Addr) (c : Nat) (a : List Int) (B : Option Addr) (d : Nat) (b : List Int) (C : Option Addr) (f : Nat) (g : List Int) (w : World) (h1 : RD w A c a) (s1 : a.length ≤ 17592186044416) (h2 : RD w B d b) (s2 : b.length ≤ 17592186044416)
    (h3 : RD w C f g) (s3 : g.length ≤ 17592186044416) :
    Calls Try.prog 5 #[.slice A a.length c, .slice B b.length d, .slice C g.length f] w fun e w' => e = .returned (.bool true) ∧ Below w.heap.size w w' := by
  by_cases h : 300 < a.length + b.length + g.length
  · exact law5_far A B C c d f _ _ _ w s1 s2 s3 h
  · exact law5_near A B C c d f a b g w h1 h2 h3 (by omega)
end Go.Proofs.Ytjagjlgboheoeaa
