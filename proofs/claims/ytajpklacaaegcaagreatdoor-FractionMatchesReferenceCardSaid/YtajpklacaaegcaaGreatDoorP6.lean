/- What the reference's digits, Text, Valid and read return. -/
import Derived.Test.YtajpklacaaegcaaGreatDoorM6
import Derived.Test.YtajpklacaaegcaaGreatDoorG1
import Derived.Laws.Concat
namespace Go.Proofs.YtajpklacaaegcaaGreatDoor
open Go.RowKit Go.Shelf Go.Sort
namespace Fr
set_option linter.unusedVariables false

theorem one_digit : ∀ i : Fin 10, (ByteArray.mk #[48, 49, 50, 51, 52, 53, 54, 55, 56, 57]).extract i.val (i.val + 1) = ⟨[UInt8.ofNat (48 + i.val)].toArray⟩ := by decide +kernel

set_option maxHeartbeats 1000000 in
theorem rdigits_any : ∀ (k : Nat) (n : Int), n.toNat ≤ k → 0 ≤ n → n ≤ 9223372036854775807 → ∀ w : World,
    Calls Tryz.prog 52 #[.int .i64 n] w fun o w' => o = .returned (.string ⟨(Lib.decDigits n.toNat).toArray⟩) ∧ Below w.heap.size w w' := by
  intro k
  induction k using Nat.strongRecOn with
  | _ k ih =>
    intro n hk h0 h1 w
    by_cases h : n < 10
    · have hlt : decide (n < 10) = true := by simpa using h
      have HE : Hid ((ByteArray.mk #[48, 49, 50, 51, 52, 53, 54, 55, 56, 57]).extract n.toNat (n.toNat + 1) = ⟨(Lib.decDigits n.toNat).toArray⟩) := by
        have := one_digit ⟨n.toNat, by omega⟩
        rw [Lib.decDigits_one (by omega)]
        exact Lib.hid this
      have e1 : (n + 1).toNat = n.toNat + 1 := by omega
      have e2 : IntKind.i64.wrap (n + 1) = n + 1 := IntWalk.i64_in _ (by omega)
      clear ih hk
      go_enter Tryz.func52, Tryz.ntmps52
      go_wp2_with fail
      go_ret
      refine ⟨ret_str ?_, Below.refl _ _⟩
      have := HE.out
      first | exact this | (rw [e1]; exact this) | simpa using this
    · have hlt : decide (n < 10) = false := by simpa using h
      have hq : 0 ≤ n / 10 := by omega
      have hm : 0 ≤ n % 10 := by omega
      have H1 := Lib.hid (fun W : World => ih (n / 10).toNat (by omega) (n / 10) (Nat.le_refl _) hq (by omega) W)
      have H2 := Lib.hid (fun W : World => ih (n % 10).toNat (by omega) (n % 10) (Nat.le_refl _) hm (by omega) W)
      have l1 := Lib.decDigits_length (n / 10).toNat
      have l2 := Lib.nDigits_le20 (n / 10).toNat (by omega)
      have l3 := Lib.decDigits_length (n % 10).toNat
      have l4 := Lib.nDigits_le20 (n % 10).toNat (by omega)
      have HE : Hid (Lib.decDigits (n / 10).toNat ++ Lib.decDigits (n % 10).toNat = Lib.decDigits n.toNat) := by
        have e1 : (n / 10).toNat = n.toNat / 10 := by omega
        have e2 : (n % 10).toNat = n.toNat % 10 := by omega
        have e3 : Lib.decDigits n.toNat = Lib.decDigits (n.toNat / 10) ++ [UInt8.ofNat (48 + n.toNat % 10)] := by
          rw [Lib.decDigits, dif_neg (by omega)]
        rw [e1, e2, e3, Lib.decDigits_one (Nat.mod_lt _ (by decide))]
        exact Lib.hid rfl
      rw [← HE.out]
      generalize Lib.decDigits (n / 10).toNat = A at *
      generalize Lib.decDigits (n % 10).toNat = D at *
      have k1 : ∀ w : World, (Op.stringOp .add ⟨A.toArray⟩ ⟨D.toArray⟩).run Tryz.prog w = .ok (.string ⟨(A ++ D).toArray⟩) w := fun w => run_string_add_lists w A D (by omega) (by omega)
      obtain ⟨C, hC⟩ : ∃ C, A ++ D = C := ⟨_, rfl⟩
      rw [hC] at k1 ⊢
      clear hC l1 l2 l3 l4 HE ih hk hq hm h
      go_enter Tryz.func52, Tryz.ntmps52
      go_wp2_with fail
      refine (H1.out _).mono ?_
      rintro o w1 ⟨rfl, b1⟩
      go_wp2_with fail
      refine (H2.out _).mono ?_
      rintro o w2 ⟨rfl, b2⟩
      go_wp2_with fail
      go_ret
      exact ⟨rfl, b1.trans (b2.mono b1.size)⟩

/-- The text of a number of any sign. -/
theorem rtext_any (n d : Int) (w : World) (hn : I62 n) (hd : 0 ≤ d ∧ d ≤ 9223372036854775807) :
    Calls Tryz.prog 25 #[.agg #[.int .i64 n, .int .i64 d]] w fun o w' => o = .returned (.string ⟨(textL n d).toArray⟩) ∧ Below w.heap.size w w' := by
  unfold I62 at hn
  have HS := Lib.hid (fun W : World => rsize_any n W (by omega) (by omega))
  have HA := Lib.hid (fun W : World => rdigits_any _ (n.natAbs : Int) (Nat.le_refl _) (by omega) (by omega) W)
  have HD := Lib.hid (fun W : World => rdigits_any _ d (Nat.le_refl _) hd.1 hd.2 W)
  have e1 : (n.natAbs : Int).toNat = n.natAbs := by omega
  rw [e1] at HA
  have ei : Lib.itoa d = Lib.decDigits d.toNat := by unfold Lib.itoa; rw [if_neg (by omega)]
  have la : (Lib.decDigits n.natAbs).length ≤ 20 := by rw [Lib.decDigits_length]; exact Lib.nDigits_le20 _ (by omega)
  have ld : (Lib.decDigits d.toNat).length ≤ 20 := by rw [Lib.decDigits_length]; exact Lib.nDigits_le20 _ (by omega)
  obtain ⟨A, hA⟩ : ∃ A, Lib.decDigits n.natAbs = A := ⟨_, rfl⟩
  obtain ⟨D, hD⟩ : ∃ D, Lib.decDigits d.toNat = D := ⟨_, rfl⟩
  have HT : Hid (textL n d = if d = 1 then (if n < 0 then 45 :: A else A) else ((if n < 0 then 45 :: A else A) ++ [47]) ++ D) := by
    apply Lib.hid
    unfold textL
    rw [ei, hD]
    have : Lib.itoa n = if n < 0 then 45 :: A else A := by
      unfold Lib.itoa
      rw [hA]
      by_cases h0 : n < 0
      · rw [if_pos h0, if_pos h0]
      · rw [if_neg h0, if_neg h0, ← hA]
        congr 1
        omega
    rw [this]
  rw [hA] at HA la
  rw [hD] at HD ld
  rw [HT.out]
  clear HT hA hD ei e1 hd
  have B0 := (Below.refl w.heap.size w).alloc (Nat.le_refl _) (.cells #[.int .i64 n, .int .i64 d] 25)
  have A0 := Box2.new w (.int .i64 n) (.int .i64 d) 25
  have k0 : ∀ w : World, (Op.stringOp .add ⟨#[45]⟩ ⟨A.toArray⟩).run Tryz.prog w = .ok (.string ⟨(45 :: A).toArray⟩) w := fun w => run_string_add_lists w [45] A (by decide) (by omega)
  by_cases h0 : n < 0
  · have g0 : decide (n < 0) = true := by simpa using h0
    rw [if_pos h0]
    have k1 : ∀ w : World, (Op.stringOp .add ⟨(45 :: A).toArray⟩ ⟨#[47]⟩).run Tryz.prog w = .ok (.string ⟨(45 :: A ++ [47]).toArray⟩) w := fun w => run_string_add_lists w (45 :: A) [47] (by simp; omega) (by decide)
    have k2 : ∀ w : World, (Op.stringOp .add ⟨(45 :: A ++ [47]).toArray⟩ ⟨D.toArray⟩).run Tryz.prog w = .ok (.string ⟨(45 :: A ++ [47] ++ D).toArray⟩) w := fun w => run_string_add_lists w (45 :: A ++ [47]) D (by simp; omega) (by omega)
    obtain ⟨A', hA'⟩ : ∃ A', 45 :: A = A' := ⟨_, rfl⟩
    rw [hA'] at k0 k1 k2 ⊢
    obtain ⟨C, hC⟩ : ∃ C, A' ++ [47] = C := ⟨_, rfl⟩
    rw [hC] at k1 k2 ⊢
    obtain ⟨E, hE⟩ : ∃ E, C ++ D = E := ⟨_, rfl⟩
    rw [hE] at k2 ⊢
    clear hA' hC hE la ld h0
    by_cases h1 : d = 1
    · subst h1
      rw [if_pos rfl]
      go_enter Tryz.func25, Tryz.ntmps25
      go_wp2_with fail
      refine (HS.out _).mono ?_
      rintro o w1 ⟨rfl, rfl⟩
      go_wp2_with fail
      refine (HA.out _).mono ?_
      rintro o w2 ⟨rfl, b2⟩
      have A2 := A0.keep b2
      have c0 := A2.c0
      have c1 := A2.c1
      go_wp2_with fail
      go_ret
      exact ⟨rfl, B0.trans (b2.mono B0.size)⟩
    · have g1 : (d == 1) = false := by simpa using h1
      rw [if_neg h1]
      clear h1
      go_enter Tryz.func25, Tryz.ntmps25
      go_wp2_with fail
      refine (HS.out _).mono ?_
      rintro o w1 ⟨rfl, rfl⟩
      go_wp2_with fail
      refine (HA.out _).mono ?_
      rintro o w2 ⟨rfl, b2⟩
      have A2 := A0.keep b2
      have c0 := A2.c0
      have c1 := A2.c1
      go_wp2_with fail
      refine (HD.out _).mono ?_
      rintro o w3 ⟨rfl, b3⟩
      go_wp2_with fail
      go_ret
      exact ⟨rfl, (B0.trans (b2.mono B0.size)).trans (b3.mono (B0.trans (b2.mono B0.size)).size)⟩
  · have g0 : decide (n < 0) = false := by simpa using h0
    rw [if_neg h0]
    clear k0
    have k1 : ∀ w : World, (Op.stringOp .add ⟨A.toArray⟩ ⟨#[47]⟩).run Tryz.prog w = .ok (.string ⟨(A ++ [47]).toArray⟩) w := fun w => run_string_add_lists w A [47] (by omega) (by decide)
    have k2 : ∀ w : World, (Op.stringOp .add ⟨(A ++ [47]).toArray⟩ ⟨D.toArray⟩).run Tryz.prog w = .ok (.string ⟨(A ++ [47] ++ D).toArray⟩) w := fun w => run_string_add_lists w (A ++ [47]) D (by simp; omega) (by omega)
    obtain ⟨C, hC⟩ : ∃ C, A ++ [47] = C := ⟨_, rfl⟩
    rw [hC] at k1 k2 ⊢
    obtain ⟨E, hE⟩ : ∃ E, C ++ D = E := ⟨_, rfl⟩
    rw [hE] at k2 ⊢
    clear hC hE la ld h0
    by_cases h1 : d = 1
    · subst h1
      rw [if_pos rfl]
      go_enter Tryz.func25, Tryz.ntmps25
      go_wp2_with fail
      refine (HS.out _).mono ?_
      rintro o w1 ⟨rfl, rfl⟩
      go_wp2_with fail
      refine (HA.out _).mono ?_
      rintro o w2 ⟨rfl, b2⟩
      have A2 := A0.keep b2
      have c0 := A2.c0
      have c1 := A2.c1
      go_wp2_with fail
      go_ret
      exact ⟨rfl, B0.trans (b2.mono B0.size)⟩
    · have g1 : (d == 1) = false := by simpa using h1
      rw [if_neg h1]
      clear h1
      go_enter Tryz.func25, Tryz.ntmps25
      go_wp2_with fail
      refine (HS.out _).mono ?_
      rintro o w1 ⟨rfl, rfl⟩
      go_wp2_with fail
      refine (HA.out _).mono ?_
      rintro o w2 ⟨rfl, b2⟩
      have A2 := A0.keep b2
      have c0 := A2.c0
      have c1 := A2.c1
      go_wp2_with fail
      refine (HD.out _).mono ?_
      rintro o w3 ⟨rfl, b3⟩
      go_wp2_with fail
      go_ret
      exact ⟨rfl, (B0.trans (b2.mono B0.size)).trans (b3.mono (B0.trans (b2.mono B0.size)).size)⟩
end Fr
end Go.Proofs.YtajpklacaaegcaaGreatDoor
