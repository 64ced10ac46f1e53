/- What the reference's ParseIn returns: the walk. -/
import Derived.Test.YtcecdmooojkmoaaDoorP9
import Derived.Deep.DeepCutAuto
namespace Go.Proofs.YtcecdmooojkmoaaDoor
open Go.RowKit Go.Shelf Go.Sort
namespace Fr
set_option linter.unusedVariables false

theorem ref_modes (s : ByteArray) (hs : s.size ≤ 281474976710656) : ∃ N A : Nat, N ≤ 4611686018427387909 ∧
    (s.size = 0 ∧ refn s.data.toList = N ∧ (∀ W : World, Calls Tryd.prog 41 #[.string s, .int .i64 0] W fun o w' => o = .returned (.tuple #[.int .i64 (N : Int), .int .i64 (A : Int)]) ∧ W = w') ∨ ∃ h : 0 < s.size, (s[0] = 45 ∧ refn s.data.toList = -(N : Int) ∧ (∀ W : World, Calls Tryd.prog 41 #[.string s, .int .i64 1] W fun o w' => o = .returned (.tuple #[.int .i64 (N : Int), .int .i64 (A : Int)]) ∧ W = w')) ∨ (s[0] ≠ 45 ∧ refn s.data.toList = N ∧ (∀ W : World, Calls Tryd.prog 41 #[.string s, .int .i64 0] W fun o w' => o = .returned (.tuple #[.int .i64 (N : Int), .int .i64 (A : Int)]) ∧ W = w'))) ∧
    (A = s.size ∧ refd s.data.toList = 1 ∨ A < s.size ∧ ∃ D E : Nat, D ≤ 4611686018427387909 ∧ refd s.data.toList = D ∧
      ∀ W : World, Calls Tryd.prog 41 #[.string s, .int .i64 ((A : Int) + 1)] W fun o w' => o = .returned (.tuple #[.int .i64 (D : Int), .int .i64 (E : Int)]) ∧ W = w') := by
  obtain ⟨N, A, hN, hr1, hn, hd⟩ := ref_read s hs
  refine ⟨N, A, hN, ?_, hd⟩
  unfold sgnL at hr1
  rcases ref_sign s with ⟨h1, h2⟩ | ⟨h, ⟨h1, h2⟩ | ⟨h1, h2⟩⟩
  · rw [if_neg h2] at hn hr1
    exact .inl ⟨h1, hn, hr1⟩
  · rw [if_pos h2] at hn hr1
    exact .inr ⟨h, .inl ⟨h1, hn, hr1⟩⟩
  · rw [if_neg h2] at hn hr1
    exact .inr ⟨h, .inr ⟨h1, hn, hr1⟩⟩

set_option maxRecDepth 100000 in
set_option maxHeartbeats 4000000 in
theorem rparse_any (s : ByteArray) (w : World) (hs : s.size ≤ 281474976710656) :
    Calls Tryd.prog 26 #[.string s] w fun o w' => o = .returned (.agg #[.int .i64 (pN s.data.toList), .int .i64 (pD s.data.toList), .int .i64 (pE s.data.toList)]) ∧ Below w.heap.size w w' := by
  obtain ⟨N, A, hN, hr, hd⟩ := ref_modes s hs
  have HR := Lib.hid (ref_results s.data.toList)
  have HS := Lib.hid hr
  have HD := Lib.hid hd
  clear hr hd
  have HT := Lib.hid (fun (h1 : I62 (refn s.data.toList)) (h2 : 0 ≤ refd s.data.toList ∧ refd s.data.toList ≤ 9223372036854775807) (W : World) => rtext_any (refn s.data.toList) (refd s.data.toList) W h1 h2)
  have HVV := Lib.hid (fun W : World => rvalid_any (refn s.data.toList) (refd s.data.toList) W)
  generalize refn s.data.toList = n at *
  generalize refd s.data.toList = d at *
  generalize pN s.data.toList = rn at *
  generalize pD s.data.toList = rd at *
  generalize pE s.data.toList = re at *
  have HX : Hid ((validB n d = false ∧ rn = 0 ∧ rd = 0 ∧ re = 5) ∨ (validB n d = true ∧ (∀ W : World, Calls Tryd.prog 43 #[.agg #[.int .i64 n, .int .i64 d]] W fun o w' => o = .returned (.string ⟨(textL n d).toArray⟩) ∧ Below W.heap.size W w') ∧ ((textL n d == s.toList) = false ∧ rn = 0 ∧ rd = 0 ∧ re = 5 ∨ (textL n d == s.toList) = true ∧ rn = n ∧ rd = d ∧ re = 0))) := by
    apply Lib.hid
    rcases HR.out with ⟨h1, h2, h3, h4⟩ | ⟨h1, h2, h3, h4, h5, h6⟩ | ⟨h1, h2, h3, h4, h5, h6⟩
    · exact .inl ⟨h1, h2, h3, h4⟩
    · exact .inr ⟨h4, HT.out h1 ⟨h2, h3⟩, .inl ⟨by rw [ByteArray.toList_eq]; simpa using h5, h6⟩⟩
    · exact .inr ⟨h4, HT.out h1 ⟨h2, h3⟩, .inr ⟨by rw [ByteArray.toList_eq]; simpa using h5, h6⟩⟩
  clear HR HT
  generalize textL n d = T at *
  have HE := Lib.hid (show Hid (N ≤ 4611686018427387909) from Lib.hid hN)
  rcases HS.out with ⟨h0, rfl, hc⟩ | ⟨h0, ⟨h1, rfl, hc⟩ | ⟨h1, rfl, hc⟩⟩ <;> rcases HD.out with ⟨rfl, rfl⟩ | ⟨hA, D, E, hD, rfl, hc2⟩
  all_goals
    have HC := Lib.hid hc
    try have HC2 := Lib.hid hc2
    try clear hc2
    clear hc HS HD
  · have hz : decide (0 < s.size) = false := decide_eq_false (by omega)
    have HVc := Lib.hid (fun W : World => HVV.out W ⟨by omega, by omega⟩ ⟨by omega, by omega⟩)
    have hneg : IntKind.i64.wrap (-(N : Int)) = -(N : Int) := IntWalk.i64_in _ (by omega)
    clear HVV HE hN hs
    rcases HX.out with ⟨e, rfl, rfl, rfl⟩ | ⟨e, ht, ⟨hq, rfl, rfl, rfl⟩ | ⟨hq, rfl, rfl, rfl⟩⟩
    · as_aux_lemma =>
        rw [e] at HVc
        clear e HX
        go_enter Tryd.func26, Tryd.ntmps26
        have R0 := Box3.new w (.int .i64 0) (.int .i64 0) (.int .i64 0) 29
        have B0 := (Below.refl w.heap.size w).alloc (Nat.le_refl _) (.cells #[.int .i64 0, .int .i64 0, .int .i64 0] 29)
        go_wp2_with fail
        refine (HC.out _).mono ?_
        rintro o w1 ⟨rfl, rfl⟩
        go_upto_region 11 with fail
        have R1 := R0.alloc (.cells #[.int .i64 (N : Int), .int .i64 1] 25)
        have A1 := Box2.newAt (W := w.alloc (.cells #[.int .i64 0, .int .i64 0, .int .i64 0] 29)) (B := w.heap.size + 1) (by simp) (.int .i64 (N : Int)) (.int .i64 1) 25
        have B1 := B0.alloc B0.size (.cells #[.int .i64 (N : Int), .int .i64 1] 25)
        have a0 := A1.c0
        have a1 := A1.c1
        generalize (w.alloc (.cells #[.int .i64 0, .int .i64 0, .int .i64 0] 29)).alloc (.cells #[.int .i64 (N : Int), .int .i64 1] 25) = W1 at *
        go_wp2_with fail
        refine (HVc.out _).mono ?_
        rintro o w3 ⟨rfl, hb⟩
        have R2 := R1.keep hb
        have A2 := A1.keep hb
        have B2 := B1.trans (hb.mono B1.size)
        clear R0 R1 A1 B0 B1 hb a0 a1 HVc HC
        have r0 := R2.c0
        have r1 := R2.c1
        have r2 := R2.c2
        have f0 := R2.f0
        have f1 := R2.f1
        have f2 := R2.f2
        go_wp2_with fail
        have X := R2.set (.int .i64 0) (.int .i64 0) (.int .i64 5)
        have s0 := X.c0
        have s1 := X.c1
        have s2 := X.c2
        refine bodyPost_ret (v := .agg #[.int .i64 0, .int .i64 0, .int .i64 5]) (by simp [results, Tryd.results26, go_sem, s0, s1, s2]) rfl ⟨rfl, below_set3 B2 (Nat.le_refl _) _ _ _⟩
    · as_aux_lemma =>
        rw [e] at HVc
        have HT := Lib.hid ht
        clear ht
        clear e HX
        go_enter Tryd.func26, Tryd.ntmps26
        have R0 := Box3.new w (.int .i64 0) (.int .i64 0) (.int .i64 0) 29
        have B0 := (Below.refl w.heap.size w).alloc (Nat.le_refl _) (.cells #[.int .i64 0, .int .i64 0, .int .i64 0] 29)
        go_wp2_with fail
        refine (HC.out _).mono ?_
        rintro o w1 ⟨rfl, rfl⟩
        go_upto_region 11 with fail
        have R1 := R0.alloc (.cells #[.int .i64 (N : Int), .int .i64 1] 25)
        have A1 := Box2.newAt (W := w.alloc (.cells #[.int .i64 0, .int .i64 0, .int .i64 0] 29)) (B := w.heap.size + 1) (by simp) (.int .i64 (N : Int)) (.int .i64 1) 25
        have B1 := B0.alloc B0.size (.cells #[.int .i64 (N : Int), .int .i64 1] 25)
        have a0 := A1.c0
        have a1 := A1.c1
        generalize (w.alloc (.cells #[.int .i64 0, .int .i64 0, .int .i64 0] 29)).alloc (.cells #[.int .i64 (N : Int), .int .i64 1] 25) = W1 at *
        go_wp2_with fail
        refine (HVc.out _).mono ?_
        rintro o w3 ⟨rfl, hb⟩
        have R2 := R1.keep hb
        have A2 := A1.keep hb
        have B2 := B1.trans (hb.mono B1.size)
        clear R0 R1 A1 B0 B1 hb a0 a1 HVc HC
        have a0 := A2.c0
        have a1 := A2.c1
        go_wp2_with fail
        refine (HT.out _).mono ?_
        rintro o w4 ⟨rfl, hb⟩
        have R3 := R2.keep hb
        have A3 := A2.keep hb
        have B3 := B2.trans (hb.mono B2.size)
        clear R2 A2 B2 hb a0 a1 HT
        have r0 := R3.c0
        have r1 := R3.c1
        have r2 := R3.c2
        have f0 := R3.f0
        have f1 := R3.f1
        have f2 := R3.f2
        have a0 := A3.c0
        have a1 := A3.c1
        go_wp2_with fail
        have X := R3.set (.int .i64 0) (.int .i64 0) (.int .i64 5)
        have s0 := X.c0
        have s1 := X.c1
        have s2 := X.c2
        refine bodyPost_ret (v := .agg #[.int .i64 0, .int .i64 0, .int .i64 5]) (by simp [results, Tryd.results26, go_sem, s0, s1, s2]) rfl ⟨rfl, below_set3 B3 (Nat.le_refl _) _ _ _⟩
    · as_aux_lemma =>
        rw [e] at HVc
        have HT := Lib.hid ht
        clear ht
        clear e HX
        go_enter Tryd.func26, Tryd.ntmps26
        have R0 := Box3.new w (.int .i64 0) (.int .i64 0) (.int .i64 0) 29
        have B0 := (Below.refl w.heap.size w).alloc (Nat.le_refl _) (.cells #[.int .i64 0, .int .i64 0, .int .i64 0] 29)
        go_wp2_with fail
        refine (HC.out _).mono ?_
        rintro o w1 ⟨rfl, rfl⟩
        go_upto_region 11 with fail
        have R1 := R0.alloc (.cells #[.int .i64 (N : Int), .int .i64 1] 25)
        have A1 := Box2.newAt (W := w.alloc (.cells #[.int .i64 0, .int .i64 0, .int .i64 0] 29)) (B := w.heap.size + 1) (by simp) (.int .i64 (N : Int)) (.int .i64 1) 25
        have B1 := B0.alloc B0.size (.cells #[.int .i64 (N : Int), .int .i64 1] 25)
        have a0 := A1.c0
        have a1 := A1.c1
        generalize (w.alloc (.cells #[.int .i64 0, .int .i64 0, .int .i64 0] 29)).alloc (.cells #[.int .i64 (N : Int), .int .i64 1] 25) = W1 at *
        go_wp2_with fail
        refine (HVc.out _).mono ?_
        rintro o w3 ⟨rfl, hb⟩
        have R2 := R1.keep hb
        have A2 := A1.keep hb
        have B2 := B1.trans (hb.mono B1.size)
        clear R0 R1 A1 B0 B1 hb a0 a1 HVc HC
        have a0 := A2.c0
        have a1 := A2.c1
        go_wp2_with fail
        refine (HT.out _).mono ?_
        rintro o w4 ⟨rfl, hb⟩
        have R3 := R2.keep hb
        have A3 := A2.keep hb
        have B3 := B2.trans (hb.mono B2.size)
        clear R2 A2 B2 hb a0 a1 HT
        have r0 := R3.c0
        have r1 := R3.c1
        have r2 := R3.c2
        have f0 := R3.f0
        have f1 := R3.f1
        have f2 := R3.f2
        have a0 := A3.c0
        have a1 := A3.c1
        go_wp2_with fail
        have X := R3.set (.int .i64 (N : Int)) (.int .i64 1) (.int .i64 0)
        have s0 := X.c0
        have s1 := X.c1
        have s2 := X.c2
        refine bodyPost_ret (v := .agg #[.int .i64 (N : Int), .int .i64 1, .int .i64 0]) (by simp [results, Tryd.results26, go_sem, s0, s1, s2]) rfl ⟨rfl, below_set3 B3 (Nat.le_refl _) _ _ _⟩
  · exact absurd hA (by omega)
  · have hz : decide (0 < s.size) = true := by simpa using h0
    have HVc := Lib.hid (fun W : World => HVV.out W ⟨by omega, by omega⟩ ⟨by omega, by omega⟩)
    have hneg : IntKind.i64.wrap (-(N : Int)) = -(N : Int) := IntWalk.i64_in _ (by omega)
    clear HVV HE hN hs
    rcases HX.out with ⟨e, rfl, rfl, rfl⟩ | ⟨e, ht, ⟨hq, rfl, rfl, rfl⟩ | ⟨hq, rfl, rfl, rfl⟩⟩
    · as_aux_lemma =>
        rw [e] at HVc
        clear e HX
        go_enter Tryd.func26, Tryd.ntmps26
        have R0 := Box3.new w (.int .i64 0) (.int .i64 0) (.int .i64 0) 29
        have B0 := (Below.refl w.heap.size w).alloc (Nat.le_refl _) (.cells #[.int .i64 0, .int .i64 0, .int .i64 0] 29)
        go_wp2_with fail
        refine (HC.out _).mono ?_
        rintro o w1 ⟨rfl, rfl⟩
        go_upto_region 11 with fail
        have R1 := R0.alloc (.cells #[.int .i64 (-(N : Int)), .int .i64 1] 25)
        have A1 := Box2.newAt (W := w.alloc (.cells #[.int .i64 0, .int .i64 0, .int .i64 0] 29)) (B := w.heap.size + 1) (by simp) (.int .i64 (-(N : Int))) (.int .i64 1) 25
        have B1 := B0.alloc B0.size (.cells #[.int .i64 (-(N : Int)), .int .i64 1] 25)
        have a0 := A1.c0
        have a1 := A1.c1
        generalize (w.alloc (.cells #[.int .i64 0, .int .i64 0, .int .i64 0] 29)).alloc (.cells #[.int .i64 (-(N : Int)), .int .i64 1] 25) = W1 at *
        go_wp2_with fail
        refine (HVc.out _).mono ?_
        rintro o w3 ⟨rfl, hb⟩
        have R2 := R1.keep hb
        have A2 := A1.keep hb
        have B2 := B1.trans (hb.mono B1.size)
        clear R0 R1 A1 B0 B1 hb a0 a1 HVc HC
        have r0 := R2.c0
        have r1 := R2.c1
        have r2 := R2.c2
        have f0 := R2.f0
        have f1 := R2.f1
        have f2 := R2.f2
        go_wp2_with fail
        have X := R2.set (.int .i64 0) (.int .i64 0) (.int .i64 5)
        have s0 := X.c0
        have s1 := X.c1
        have s2 := X.c2
        refine bodyPost_ret (v := .agg #[.int .i64 0, .int .i64 0, .int .i64 5]) (by simp [results, Tryd.results26, go_sem, s0, s1, s2]) rfl ⟨rfl, below_set3 B2 (Nat.le_refl _) _ _ _⟩
    · as_aux_lemma =>
        rw [e] at HVc
        have HT := Lib.hid ht
        clear ht
        clear e HX
        go_enter Tryd.func26, Tryd.ntmps26
        have R0 := Box3.new w (.int .i64 0) (.int .i64 0) (.int .i64 0) 29
        have B0 := (Below.refl w.heap.size w).alloc (Nat.le_refl _) (.cells #[.int .i64 0, .int .i64 0, .int .i64 0] 29)
        go_wp2_with fail
        refine (HC.out _).mono ?_
        rintro o w1 ⟨rfl, rfl⟩
        go_upto_region 11 with fail
        have R1 := R0.alloc (.cells #[.int .i64 (-(N : Int)), .int .i64 1] 25)
        have A1 := Box2.newAt (W := w.alloc (.cells #[.int .i64 0, .int .i64 0, .int .i64 0] 29)) (B := w.heap.size + 1) (by simp) (.int .i64 (-(N : Int))) (.int .i64 1) 25
        have B1 := B0.alloc B0.size (.cells #[.int .i64 (-(N : Int)), .int .i64 1] 25)
        have a0 := A1.c0
        have a1 := A1.c1
        generalize (w.alloc (.cells #[.int .i64 0, .int .i64 0, .int .i64 0] 29)).alloc (.cells #[.int .i64 (-(N : Int)), .int .i64 1] 25) = W1 at *
        go_wp2_with fail
        refine (HVc.out _).mono ?_
        rintro o w3 ⟨rfl, hb⟩
        have R2 := R1.keep hb
        have A2 := A1.keep hb
        have B2 := B1.trans (hb.mono B1.size)
        clear R0 R1 A1 B0 B1 hb a0 a1 HVc HC
        have a0 := A2.c0
        have a1 := A2.c1
        go_wp2_with fail
        refine (HT.out _).mono ?_
        rintro o w4 ⟨rfl, hb⟩
        have R3 := R2.keep hb
        have A3 := A2.keep hb
        have B3 := B2.trans (hb.mono B2.size)
        clear R2 A2 B2 hb a0 a1 HT
        have r0 := R3.c0
        have r1 := R3.c1
        have r2 := R3.c2
        have f0 := R3.f0
        have f1 := R3.f1
        have f2 := R3.f2
        have a0 := A3.c0
        have a1 := A3.c1
        go_wp2_with fail
        have X := R3.set (.int .i64 0) (.int .i64 0) (.int .i64 5)
        have s0 := X.c0
        have s1 := X.c1
        have s2 := X.c2
        refine bodyPost_ret (v := .agg #[.int .i64 0, .int .i64 0, .int .i64 5]) (by simp [results, Tryd.results26, go_sem, s0, s1, s2]) rfl ⟨rfl, below_set3 B3 (Nat.le_refl _) _ _ _⟩
    · as_aux_lemma =>
        rw [e] at HVc
        have HT := Lib.hid ht
        clear ht
        clear e HX
        go_enter Tryd.func26, Tryd.ntmps26
        have R0 := Box3.new w (.int .i64 0) (.int .i64 0) (.int .i64 0) 29
        have B0 := (Below.refl w.heap.size w).alloc (Nat.le_refl _) (.cells #[.int .i64 0, .int .i64 0, .int .i64 0] 29)
        go_wp2_with fail
        refine (HC.out _).mono ?_
        rintro o w1 ⟨rfl, rfl⟩
        go_upto_region 11 with fail
        have R1 := R0.alloc (.cells #[.int .i64 (-(N : Int)), .int .i64 1] 25)
        have A1 := Box2.newAt (W := w.alloc (.cells #[.int .i64 0, .int .i64 0, .int .i64 0] 29)) (B := w.heap.size + 1) (by simp) (.int .i64 (-(N : Int))) (.int .i64 1) 25
        have B1 := B0.alloc B0.size (.cells #[.int .i64 (-(N : Int)), .int .i64 1] 25)
        have a0 := A1.c0
        have a1 := A1.c1
        generalize (w.alloc (.cells #[.int .i64 0, .int .i64 0, .int .i64 0] 29)).alloc (.cells #[.int .i64 (-(N : Int)), .int .i64 1] 25) = W1 at *
        go_wp2_with fail
        refine (HVc.out _).mono ?_
        rintro o w3 ⟨rfl, hb⟩
        have R2 := R1.keep hb
        have A2 := A1.keep hb
        have B2 := B1.trans (hb.mono B1.size)
        clear R0 R1 A1 B0 B1 hb a0 a1 HVc HC
        have a0 := A2.c0
        have a1 := A2.c1
        go_wp2_with fail
        refine (HT.out _).mono ?_
        rintro o w4 ⟨rfl, hb⟩
        have R3 := R2.keep hb
        have A3 := A2.keep hb
        have B3 := B2.trans (hb.mono B2.size)
        clear R2 A2 B2 hb a0 a1 HT
        have r0 := R3.c0
        have r1 := R3.c1
        have r2 := R3.c2
        have f0 := R3.f0
        have f1 := R3.f1
        have f2 := R3.f2
        have a0 := A3.c0
        have a1 := A3.c1
        go_wp2_with fail
        have X := R3.set (.int .i64 (-(N : Int))) (.int .i64 1) (.int .i64 0)
        have s0 := X.c0
        have s1 := X.c1
        have s2 := X.c2
        refine bodyPost_ret (v := .agg #[.int .i64 (-(N : Int)), .int .i64 1, .int .i64 0]) (by simp [results, Tryd.results26, go_sem, s0, s1, s2]) rfl ⟨rfl, below_set3 B3 (Nat.le_refl _) _ _ _⟩
  · have hz : decide (0 < s.size) = true := by simpa using h0
    have HVc := Lib.hid (fun W : World => HVV.out W ⟨by omega, by omega⟩ ⟨by omega, by omega⟩)
    have hneg : IntKind.i64.wrap (-(N : Int)) = -(N : Int) := IntWalk.i64_in _ (by omega)
    have hA1 : IntKind.i64.wrap ((A : Int) + 1) = (A : Int) + 1 := IntWalk.i64_in _ (by omega)
    have hAl : decide (A < s.size) = true := by simpa using hA
    clear hA hD
    clear HVV HE hN hs
    rcases HX.out with ⟨e, rfl, rfl, rfl⟩ | ⟨e, ht, ⟨hq, rfl, rfl, rfl⟩ | ⟨hq, rfl, rfl, rfl⟩⟩
    · as_aux_lemma =>
        rw [e] at HVc
        clear e HX
        go_enter Tryd.func26, Tryd.ntmps26
        have R0 := Box3.new w (.int .i64 0) (.int .i64 0) (.int .i64 0) 29
        have B0 := (Below.refl w.heap.size w).alloc (Nat.le_refl _) (.cells #[.int .i64 0, .int .i64 0, .int .i64 0] 29)
        go_wp2_with fail
        refine (HC.out _).mono ?_
        rintro o w1 ⟨rfl, rfl⟩
        go_wp2_with fail
        refine (HC2.out _).mono ?_
        rintro o w2 ⟨rfl, rfl⟩
        go_upto_region 11 with fail
        have R1 := R0.alloc (.cells #[.int .i64 (-(N : Int)), .int .i64 (D : Int)] 25)
        have A1 := Box2.newAt (W := w.alloc (.cells #[.int .i64 0, .int .i64 0, .int .i64 0] 29)) (B := w.heap.size + 1) (by simp) (.int .i64 (-(N : Int))) (.int .i64 (D : Int)) 25
        have B1 := B0.alloc B0.size (.cells #[.int .i64 (-(N : Int)), .int .i64 (D : Int)] 25)
        have a0 := A1.c0
        have a1 := A1.c1
        generalize (w.alloc (.cells #[.int .i64 0, .int .i64 0, .int .i64 0] 29)).alloc (.cells #[.int .i64 (-(N : Int)), .int .i64 (D : Int)] 25) = W1 at *
        go_wp2_with fail
        refine (HVc.out _).mono ?_
        rintro o w3 ⟨rfl, hb⟩
        have R2 := R1.keep hb
        have A2 := A1.keep hb
        have B2 := B1.trans (hb.mono B1.size)
        clear R0 R1 A1 B0 B1 hb a0 a1 HVc HC
        have r0 := R2.c0
        have r1 := R2.c1
        have r2 := R2.c2
        have f0 := R2.f0
        have f1 := R2.f1
        have f2 := R2.f2
        go_wp2_with fail
        have X := R2.set (.int .i64 0) (.int .i64 0) (.int .i64 5)
        have s0 := X.c0
        have s1 := X.c1
        have s2 := X.c2
        refine bodyPost_ret (v := .agg #[.int .i64 0, .int .i64 0, .int .i64 5]) (by simp [results, Tryd.results26, go_sem, s0, s1, s2]) rfl ⟨rfl, below_set3 B2 (Nat.le_refl _) _ _ _⟩
    · as_aux_lemma =>
        rw [e] at HVc
        have HT := Lib.hid ht
        clear ht
        clear e HX
        go_enter Tryd.func26, Tryd.ntmps26
        have R0 := Box3.new w (.int .i64 0) (.int .i64 0) (.int .i64 0) 29
        have B0 := (Below.refl w.heap.size w).alloc (Nat.le_refl _) (.cells #[.int .i64 0, .int .i64 0, .int .i64 0] 29)
        go_wp2_with fail
        refine (HC.out _).mono ?_
        rintro o w1 ⟨rfl, rfl⟩
        go_wp2_with fail
        refine (HC2.out _).mono ?_
        rintro o w2 ⟨rfl, rfl⟩
        go_upto_region 11 with fail
        have R1 := R0.alloc (.cells #[.int .i64 (-(N : Int)), .int .i64 (D : Int)] 25)
        have A1 := Box2.newAt (W := w.alloc (.cells #[.int .i64 0, .int .i64 0, .int .i64 0] 29)) (B := w.heap.size + 1) (by simp) (.int .i64 (-(N : Int))) (.int .i64 (D : Int)) 25
        have B1 := B0.alloc B0.size (.cells #[.int .i64 (-(N : Int)), .int .i64 (D : Int)] 25)
        have a0 := A1.c0
        have a1 := A1.c1
        generalize (w.alloc (.cells #[.int .i64 0, .int .i64 0, .int .i64 0] 29)).alloc (.cells #[.int .i64 (-(N : Int)), .int .i64 (D : Int)] 25) = W1 at *
        go_wp2_with fail
        refine (HVc.out _).mono ?_
        rintro o w3 ⟨rfl, hb⟩
        have R2 := R1.keep hb
        have A2 := A1.keep hb
        have B2 := B1.trans (hb.mono B1.size)
        clear R0 R1 A1 B0 B1 hb a0 a1 HVc HC
        have a0 := A2.c0
        have a1 := A2.c1
        go_wp2_with fail
        refine (HT.out _).mono ?_
        rintro o w4 ⟨rfl, hb⟩
        have R3 := R2.keep hb
        have A3 := A2.keep hb
        have B3 := B2.trans (hb.mono B2.size)
        clear R2 A2 B2 hb a0 a1 HT
        have r0 := R3.c0
        have r1 := R3.c1
        have r2 := R3.c2
        have f0 := R3.f0
        have f1 := R3.f1
        have f2 := R3.f2
        have a0 := A3.c0
        have a1 := A3.c1
        go_wp2_with fail
        have X := R3.set (.int .i64 0) (.int .i64 0) (.int .i64 5)
        have s0 := X.c0
        have s1 := X.c1
        have s2 := X.c2
        refine bodyPost_ret (v := .agg #[.int .i64 0, .int .i64 0, .int .i64 5]) (by simp [results, Tryd.results26, go_sem, s0, s1, s2]) rfl ⟨rfl, below_set3 B3 (Nat.le_refl _) _ _ _⟩
    · as_aux_lemma =>
        rw [e] at HVc
        have HT := Lib.hid ht
        clear ht
        clear e HX
        go_enter Tryd.func26, Tryd.ntmps26
        have R0 := Box3.new w (.int .i64 0) (.int .i64 0) (.int .i64 0) 29
        have B0 := (Below.refl w.heap.size w).alloc (Nat.le_refl _) (.cells #[.int .i64 0, .int .i64 0, .int .i64 0] 29)
        go_wp2_with fail
        refine (HC.out _).mono ?_
        rintro o w1 ⟨rfl, rfl⟩
        go_wp2_with fail
        refine (HC2.out _).mono ?_
        rintro o w2 ⟨rfl, rfl⟩
        go_upto_region 11 with fail
        have R1 := R0.alloc (.cells #[.int .i64 (-(N : Int)), .int .i64 (D : Int)] 25)
        have A1 := Box2.newAt (W := w.alloc (.cells #[.int .i64 0, .int .i64 0, .int .i64 0] 29)) (B := w.heap.size + 1) (by simp) (.int .i64 (-(N : Int))) (.int .i64 (D : Int)) 25
        have B1 := B0.alloc B0.size (.cells #[.int .i64 (-(N : Int)), .int .i64 (D : Int)] 25)
        have a0 := A1.c0
        have a1 := A1.c1
        generalize (w.alloc (.cells #[.int .i64 0, .int .i64 0, .int .i64 0] 29)).alloc (.cells #[.int .i64 (-(N : Int)), .int .i64 (D : Int)] 25) = W1 at *
        go_wp2_with fail
        refine (HVc.out _).mono ?_
        rintro o w3 ⟨rfl, hb⟩
        have R2 := R1.keep hb
        have A2 := A1.keep hb
        have B2 := B1.trans (hb.mono B1.size)
        clear R0 R1 A1 B0 B1 hb a0 a1 HVc HC
        have a0 := A2.c0
        have a1 := A2.c1
        go_wp2_with fail
        refine (HT.out _).mono ?_
        rintro o w4 ⟨rfl, hb⟩
        have R3 := R2.keep hb
        have A3 := A2.keep hb
        have B3 := B2.trans (hb.mono B2.size)
        clear R2 A2 B2 hb a0 a1 HT
        have r0 := R3.c0
        have r1 := R3.c1
        have r2 := R3.c2
        have f0 := R3.f0
        have f1 := R3.f1
        have f2 := R3.f2
        have a0 := A3.c0
        have a1 := A3.c1
        go_wp2_with fail
        have X := R3.set (.int .i64 (-(N : Int))) (.int .i64 (D : Int)) (.int .i64 0)
        have s0 := X.c0
        have s1 := X.c1
        have s2 := X.c2
        refine bodyPost_ret (v := .agg #[.int .i64 (-(N : Int)), .int .i64 (D : Int), .int .i64 0]) (by simp [results, Tryd.results26, go_sem, s0, s1, s2]) rfl ⟨rfl, below_set3 B3 (Nat.le_refl _) _ _ _⟩
  · have hz : decide (0 < s.size) = true := by simpa using h0
    obtain ⟨b, hb0⟩ : ∃ b, s[0] = b := ⟨_, rfl⟩
    rw [hb0] at h1
    have hb1 : ((b.toNat : Int) == 45) = false := by
      simp only [beq_eq_false_iff_ne, ne_eq]
      intro e
      exact h1 (UInt8.toNat_inj.1 (show b.toNat = 45 by omega))
    clear h1
    have HVc := Lib.hid (fun W : World => HVV.out W ⟨by omega, by omega⟩ ⟨by omega, by omega⟩)
    have hneg : IntKind.i64.wrap (-(N : Int)) = -(N : Int) := IntWalk.i64_in _ (by omega)
    clear HVV HE hN hs
    rcases HX.out with ⟨e, rfl, rfl, rfl⟩ | ⟨e, ht, ⟨hq, rfl, rfl, rfl⟩ | ⟨hq, rfl, rfl, rfl⟩⟩
    · as_aux_lemma =>
        rw [e] at HVc
        clear e HX
        go_enter Tryd.func26, Tryd.ntmps26
        have R0 := Box3.new w (.int .i64 0) (.int .i64 0) (.int .i64 0) 29
        have B0 := (Below.refl w.heap.size w).alloc (Nat.le_refl _) (.cells #[.int .i64 0, .int .i64 0, .int .i64 0] 29)
        go_wp2_with fail
        refine (HC.out _).mono ?_
        rintro o w1 ⟨rfl, rfl⟩
        go_upto_region 11 with fail
        have R1 := R0.alloc (.cells #[.int .i64 (N : Int), .int .i64 1] 25)
        have A1 := Box2.newAt (W := w.alloc (.cells #[.int .i64 0, .int .i64 0, .int .i64 0] 29)) (B := w.heap.size + 1) (by simp) (.int .i64 (N : Int)) (.int .i64 1) 25
        have B1 := B0.alloc B0.size (.cells #[.int .i64 (N : Int), .int .i64 1] 25)
        have a0 := A1.c0
        have a1 := A1.c1
        generalize (w.alloc (.cells #[.int .i64 0, .int .i64 0, .int .i64 0] 29)).alloc (.cells #[.int .i64 (N : Int), .int .i64 1] 25) = W1 at *
        go_wp2_with fail
        refine (HVc.out _).mono ?_
        rintro o w3 ⟨rfl, hb⟩
        have R2 := R1.keep hb
        have A2 := A1.keep hb
        have B2 := B1.trans (hb.mono B1.size)
        clear R0 R1 A1 B0 B1 hb a0 a1 HVc HC
        have r0 := R2.c0
        have r1 := R2.c1
        have r2 := R2.c2
        have f0 := R2.f0
        have f1 := R2.f1
        have f2 := R2.f2
        go_wp2_with fail
        have X := R2.set (.int .i64 0) (.int .i64 0) (.int .i64 5)
        have s0 := X.c0
        have s1 := X.c1
        have s2 := X.c2
        refine bodyPost_ret (v := .agg #[.int .i64 0, .int .i64 0, .int .i64 5]) (by simp [results, Tryd.results26, go_sem, s0, s1, s2]) rfl ⟨rfl, below_set3 B2 (Nat.le_refl _) _ _ _⟩
    · as_aux_lemma =>
        rw [e] at HVc
        have HT := Lib.hid ht
        clear ht
        clear e HX
        go_enter Tryd.func26, Tryd.ntmps26
        have R0 := Box3.new w (.int .i64 0) (.int .i64 0) (.int .i64 0) 29
        have B0 := (Below.refl w.heap.size w).alloc (Nat.le_refl _) (.cells #[.int .i64 0, .int .i64 0, .int .i64 0] 29)
        go_wp2_with fail
        refine (HC.out _).mono ?_
        rintro o w1 ⟨rfl, rfl⟩
        go_upto_region 11 with fail
        have R1 := R0.alloc (.cells #[.int .i64 (N : Int), .int .i64 1] 25)
        have A1 := Box2.newAt (W := w.alloc (.cells #[.int .i64 0, .int .i64 0, .int .i64 0] 29)) (B := w.heap.size + 1) (by simp) (.int .i64 (N : Int)) (.int .i64 1) 25
        have B1 := B0.alloc B0.size (.cells #[.int .i64 (N : Int), .int .i64 1] 25)
        have a0 := A1.c0
        have a1 := A1.c1
        generalize (w.alloc (.cells #[.int .i64 0, .int .i64 0, .int .i64 0] 29)).alloc (.cells #[.int .i64 (N : Int), .int .i64 1] 25) = W1 at *
        go_wp2_with fail
        refine (HVc.out _).mono ?_
        rintro o w3 ⟨rfl, hb⟩
        have R2 := R1.keep hb
        have A2 := A1.keep hb
        have B2 := B1.trans (hb.mono B1.size)
        clear R0 R1 A1 B0 B1 hb a0 a1 HVc HC
        have a0 := A2.c0
        have a1 := A2.c1
        go_wp2_with fail
        refine (HT.out _).mono ?_
        rintro o w4 ⟨rfl, hb⟩
        have R3 := R2.keep hb
        have A3 := A2.keep hb
        have B3 := B2.trans (hb.mono B2.size)
        clear R2 A2 B2 hb a0 a1 HT
        have r0 := R3.c0
        have r1 := R3.c1
        have r2 := R3.c2
        have f0 := R3.f0
        have f1 := R3.f1
        have f2 := R3.f2
        have a0 := A3.c0
        have a1 := A3.c1
        go_wp2_with fail
        have X := R3.set (.int .i64 0) (.int .i64 0) (.int .i64 5)
        have s0 := X.c0
        have s1 := X.c1
        have s2 := X.c2
        refine bodyPost_ret (v := .agg #[.int .i64 0, .int .i64 0, .int .i64 5]) (by simp [results, Tryd.results26, go_sem, s0, s1, s2]) rfl ⟨rfl, below_set3 B3 (Nat.le_refl _) _ _ _⟩
    · as_aux_lemma =>
        rw [e] at HVc
        have HT := Lib.hid ht
        clear ht
        clear e HX
        go_enter Tryd.func26, Tryd.ntmps26
        have R0 := Box3.new w (.int .i64 0) (.int .i64 0) (.int .i64 0) 29
        have B0 := (Below.refl w.heap.size w).alloc (Nat.le_refl _) (.cells #[.int .i64 0, .int .i64 0, .int .i64 0] 29)
        go_wp2_with fail
        refine (HC.out _).mono ?_
        rintro o w1 ⟨rfl, rfl⟩
        go_upto_region 11 with fail
        have R1 := R0.alloc (.cells #[.int .i64 (N : Int), .int .i64 1] 25)
        have A1 := Box2.newAt (W := w.alloc (.cells #[.int .i64 0, .int .i64 0, .int .i64 0] 29)) (B := w.heap.size + 1) (by simp) (.int .i64 (N : Int)) (.int .i64 1) 25
        have B1 := B0.alloc B0.size (.cells #[.int .i64 (N : Int), .int .i64 1] 25)
        have a0 := A1.c0
        have a1 := A1.c1
        generalize (w.alloc (.cells #[.int .i64 0, .int .i64 0, .int .i64 0] 29)).alloc (.cells #[.int .i64 (N : Int), .int .i64 1] 25) = W1 at *
        go_wp2_with fail
        refine (HVc.out _).mono ?_
        rintro o w3 ⟨rfl, hb⟩
        have R2 := R1.keep hb
        have A2 := A1.keep hb
        have B2 := B1.trans (hb.mono B1.size)
        clear R0 R1 A1 B0 B1 hb a0 a1 HVc HC
        have a0 := A2.c0
        have a1 := A2.c1
        go_wp2_with fail
        refine (HT.out _).mono ?_
        rintro o w4 ⟨rfl, hb⟩
        have R3 := R2.keep hb
        have A3 := A2.keep hb
        have B3 := B2.trans (hb.mono B2.size)
        clear R2 A2 B2 hb a0 a1 HT
        have r0 := R3.c0
        have r1 := R3.c1
        have r2 := R3.c2
        have f0 := R3.f0
        have f1 := R3.f1
        have f2 := R3.f2
        have a0 := A3.c0
        have a1 := A3.c1
        go_wp2_with fail
        have X := R3.set (.int .i64 (N : Int)) (.int .i64 1) (.int .i64 0)
        have s0 := X.c0
        have s1 := X.c1
        have s2 := X.c2
        refine bodyPost_ret (v := .agg #[.int .i64 (N : Int), .int .i64 1, .int .i64 0]) (by simp [results, Tryd.results26, go_sem, s0, s1, s2]) rfl ⟨rfl, below_set3 B3 (Nat.le_refl _) _ _ _⟩
  · have hz : decide (0 < s.size) = true := by simpa using h0
    obtain ⟨b, hb0⟩ : ∃ b, s[0] = b := ⟨_, rfl⟩
    rw [hb0] at h1
    have hb1 : ((b.toNat : Int) == 45) = false := by
      simp only [beq_eq_false_iff_ne, ne_eq]
      intro e
      exact h1 (UInt8.toNat_inj.1 (show b.toNat = 45 by omega))
    clear h1
    have HVc := Lib.hid (fun W : World => HVV.out W ⟨by omega, by omega⟩ ⟨by omega, by omega⟩)
    have hneg : IntKind.i64.wrap (-(N : Int)) = -(N : Int) := IntWalk.i64_in _ (by omega)
    have hA1 : IntKind.i64.wrap ((A : Int) + 1) = (A : Int) + 1 := IntWalk.i64_in _ (by omega)
    have hAl : decide (A < s.size) = true := by simpa using hA
    clear hA hD
    clear HVV HE hN hs
    rcases HX.out with ⟨e, rfl, rfl, rfl⟩ | ⟨e, ht, ⟨hq, rfl, rfl, rfl⟩ | ⟨hq, rfl, rfl, rfl⟩⟩
    · as_aux_lemma =>
        rw [e] at HVc
        clear e HX
        go_enter Tryd.func26, Tryd.ntmps26
        have R0 := Box3.new w (.int .i64 0) (.int .i64 0) (.int .i64 0) 29
        have B0 := (Below.refl w.heap.size w).alloc (Nat.le_refl _) (.cells #[.int .i64 0, .int .i64 0, .int .i64 0] 29)
        go_wp2_with fail
        refine (HC.out _).mono ?_
        rintro o w1 ⟨rfl, rfl⟩
        go_wp2_with fail
        refine (HC2.out _).mono ?_
        rintro o w2 ⟨rfl, rfl⟩
        go_upto_region 11 with fail
        have R1 := R0.alloc (.cells #[.int .i64 (N : Int), .int .i64 (D : Int)] 25)
        have A1 := Box2.newAt (W := w.alloc (.cells #[.int .i64 0, .int .i64 0, .int .i64 0] 29)) (B := w.heap.size + 1) (by simp) (.int .i64 (N : Int)) (.int .i64 (D : Int)) 25
        have B1 := B0.alloc B0.size (.cells #[.int .i64 (N : Int), .int .i64 (D : Int)] 25)
        have a0 := A1.c0
        have a1 := A1.c1
        generalize (w.alloc (.cells #[.int .i64 0, .int .i64 0, .int .i64 0] 29)).alloc (.cells #[.int .i64 (N : Int), .int .i64 (D : Int)] 25) = W1 at *
        go_wp2_with fail
        refine (HVc.out _).mono ?_
        rintro o w3 ⟨rfl, hb⟩
        have R2 := R1.keep hb
        have A2 := A1.keep hb
        have B2 := B1.trans (hb.mono B1.size)
        clear R0 R1 A1 B0 B1 hb a0 a1 HVc HC
        have r0 := R2.c0
        have r1 := R2.c1
        have r2 := R2.c2
        have f0 := R2.f0
        have f1 := R2.f1
        have f2 := R2.f2
        go_wp2_with fail
        have X := R2.set (.int .i64 0) (.int .i64 0) (.int .i64 5)
        have s0 := X.c0
        have s1 := X.c1
        have s2 := X.c2
        refine bodyPost_ret (v := .agg #[.int .i64 0, .int .i64 0, .int .i64 5]) (by simp [results, Tryd.results26, go_sem, s0, s1, s2]) rfl ⟨rfl, below_set3 B2 (Nat.le_refl _) _ _ _⟩
    · as_aux_lemma =>
        rw [e] at HVc
        have HT := Lib.hid ht
        clear ht
        clear e HX
        go_enter Tryd.func26, Tryd.ntmps26
        have R0 := Box3.new w (.int .i64 0) (.int .i64 0) (.int .i64 0) 29
        have B0 := (Below.refl w.heap.size w).alloc (Nat.le_refl _) (.cells #[.int .i64 0, .int .i64 0, .int .i64 0] 29)
        go_wp2_with fail
        refine (HC.out _).mono ?_
        rintro o w1 ⟨rfl, rfl⟩
        go_wp2_with fail
        refine (HC2.out _).mono ?_
        rintro o w2 ⟨rfl, rfl⟩
        go_upto_region 11 with fail
        have R1 := R0.alloc (.cells #[.int .i64 (N : Int), .int .i64 (D : Int)] 25)
        have A1 := Box2.newAt (W := w.alloc (.cells #[.int .i64 0, .int .i64 0, .int .i64 0] 29)) (B := w.heap.size + 1) (by simp) (.int .i64 (N : Int)) (.int .i64 (D : Int)) 25
        have B1 := B0.alloc B0.size (.cells #[.int .i64 (N : Int), .int .i64 (D : Int)] 25)
        have a0 := A1.c0
        have a1 := A1.c1
        generalize (w.alloc (.cells #[.int .i64 0, .int .i64 0, .int .i64 0] 29)).alloc (.cells #[.int .i64 (N : Int), .int .i64 (D : Int)] 25) = W1 at *
        go_wp2_with fail
        refine (HVc.out _).mono ?_
        rintro o w3 ⟨rfl, hb⟩
        have R2 := R1.keep hb
        have A2 := A1.keep hb
        have B2 := B1.trans (hb.mono B1.size)
        clear R0 R1 A1 B0 B1 hb a0 a1 HVc HC
        have a0 := A2.c0
        have a1 := A2.c1
        go_wp2_with fail
        refine (HT.out _).mono ?_
        rintro o w4 ⟨rfl, hb⟩
        have R3 := R2.keep hb
        have A3 := A2.keep hb
        have B3 := B2.trans (hb.mono B2.size)
        clear R2 A2 B2 hb a0 a1 HT
        have r0 := R3.c0
        have r1 := R3.c1
        have r2 := R3.c2
        have f0 := R3.f0
        have f1 := R3.f1
        have f2 := R3.f2
        have a0 := A3.c0
        have a1 := A3.c1
        go_wp2_with fail
        have X := R3.set (.int .i64 0) (.int .i64 0) (.int .i64 5)
        have s0 := X.c0
        have s1 := X.c1
        have s2 := X.c2
        refine bodyPost_ret (v := .agg #[.int .i64 0, .int .i64 0, .int .i64 5]) (by simp [results, Tryd.results26, go_sem, s0, s1, s2]) rfl ⟨rfl, below_set3 B3 (Nat.le_refl _) _ _ _⟩
    · as_aux_lemma =>
        rw [e] at HVc
        have HT := Lib.hid ht
        clear ht
        clear e HX
        go_enter Tryd.func26, Tryd.ntmps26
        have R0 := Box3.new w (.int .i64 0) (.int .i64 0) (.int .i64 0) 29
        have B0 := (Below.refl w.heap.size w).alloc (Nat.le_refl _) (.cells #[.int .i64 0, .int .i64 0, .int .i64 0] 29)
        go_wp2_with fail
        refine (HC.out _).mono ?_
        rintro o w1 ⟨rfl, rfl⟩
        go_wp2_with fail
        refine (HC2.out _).mono ?_
        rintro o w2 ⟨rfl, rfl⟩
        go_upto_region 11 with fail
        have R1 := R0.alloc (.cells #[.int .i64 (N : Int), .int .i64 (D : Int)] 25)
        have A1 := Box2.newAt (W := w.alloc (.cells #[.int .i64 0, .int .i64 0, .int .i64 0] 29)) (B := w.heap.size + 1) (by simp) (.int .i64 (N : Int)) (.int .i64 (D : Int)) 25
        have B1 := B0.alloc B0.size (.cells #[.int .i64 (N : Int), .int .i64 (D : Int)] 25)
        have a0 := A1.c0
        have a1 := A1.c1
        generalize (w.alloc (.cells #[.int .i64 0, .int .i64 0, .int .i64 0] 29)).alloc (.cells #[.int .i64 (N : Int), .int .i64 (D : Int)] 25) = W1 at *
        go_wp2_with fail
        refine (HVc.out _).mono ?_
        rintro o w3 ⟨rfl, hb⟩
        have R2 := R1.keep hb
        have A2 := A1.keep hb
        have B2 := B1.trans (hb.mono B1.size)
        clear R0 R1 A1 B0 B1 hb a0 a1 HVc HC
        have a0 := A2.c0
        have a1 := A2.c1
        go_wp2_with fail
        refine (HT.out _).mono ?_
        rintro o w4 ⟨rfl, hb⟩
        have R3 := R2.keep hb
        have A3 := A2.keep hb
        have B3 := B2.trans (hb.mono B2.size)
        clear R2 A2 B2 hb a0 a1 HT
        have r0 := R3.c0
        have r1 := R3.c1
        have r2 := R3.c2
        have f0 := R3.f0
        have f1 := R3.f1
        have f2 := R3.f2
        have a0 := A3.c0
        have a1 := A3.c1
        go_wp2_with fail
        have X := R3.set (.int .i64 (N : Int)) (.int .i64 (D : Int)) (.int .i64 0)
        have s0 := X.c0
        have s1 := X.c1
        have s2 := X.c2
        refine bodyPost_ret (v := .agg #[.int .i64 (N : Int), .int .i64 (D : Int), .int .i64 0]) (by simp [results, Tryd.results26, go_sem, s0, s1, s2]) rfl ⟨rfl, below_set3 B3 (Nat.le_refl _) _ _ _⟩
end Fr
end Go.Proofs.YtcecdmooojkmoaaDoor
