/- The law's small functions, and the fixed examples. -/
import Derived.Test.YteikmbcfiabffaaDoorW5
namespace Go.Proofs.YteikmbcfiabffaaDoor
open Go.RowKit Go.Shelf
namespace Hm
set_option linter.unusedVariables false

theorem Vars.keep {w w' : World} (h : Vars w) (hb : Below w.heap.size w w') : Vars w' := by
  obtain ⟨t, fr, hg⟩ := h.chk
  have lt : ∀ {g : Nat} {o : Obj}, w.heap[g]? = some o → g < w.heap.size := fun {g o} hg => by
    rcases Nat.lt_or_ge g w.heap.size with h' | h'
    · exact h'
    · rw [Array.getElem?_eq_none h'] at hg; cases hg
  refine ⟨fun j hj => ?_, t, fr, ?_⟩
  · have hc := h.tab j hj
    rw [hb.cell (p := ⟨1, j, none⟩) (World.block_lt_of_cell? w _ hc)]
    exact hc
  · rw [hb.block _ (lt hg)]
    exact hg

theorem cut_any (x : Nat) (w : World) (hx : x < 18446744073709551616) :
    Calls Tryd.prog 12 #[.int .u64 (x : Int)] w fun e w' => e = .returned (.int .u64 ((x % 2 ^ 57 : Nat) : Int)) ∧ w = w' := by
  have k1 : bits .and .u64 (x : Int) 144115188075855871 = ((x % 2 ^ 57 : Nat) : Int) := by
    have h := bits_and_u64_nat x (2 ^ 57 - 1) hx (by decide)
    rw [Nat.and_two_pow_sub_one_eq_mod] at h
    exact h
  generalize x % 2 ^ 57 = r at *
  clear hx
  go_enter Tryd.func12, Tryd.ntmps12
  go_wp2
  go_ret
  exact ⟨rfl, rfl⟩

theorem encoded_any (d : Nat) (w : World) (hx : d < 18446744073709551616) (hv : Vars w) :
    Calls Tryd.prog 10 #[.int .u64 (d : Int)] w fun e w' => e = .returned (.agg #[.int .u64 (encD d : Int), .int .i64 (encE d : Int)]) ∧ Below w.heap.size w w' := by
  have HE := Lib.hid (fun W (h : Below w.heap.size w W) => encode_any d W hx (hv.keep h))
  clear hx hv
  generalize encD d = a at *
  generalize encE d = b at *
  go_enter Tryd.func10, Tryd.ntmps10
  go_wp2_with fail
  refine (HE.out _ ?_).mono ?_
  · exact (Below.refl _ w).alloc (Nat.le_refl _) _
  rintro e w' ⟨rfl, rfl⟩
  go_wp2_with fail
  refine bodyPost_ret (v := .agg #[.int .u64 (a : Int), .int .i64 (b : Int)]) (by simp [results, Tryd.results10, go_sem]) rfl ⟨rfl, ?_⟩
  exact (Below.refl _ w).alloc (Nat.le_refl _) _

theorem decoded_any (d : Nat) (w : World) (hx : d < 18446744073709551616) (hv : Vars w) :
    Calls Tryd.prog 19 #[.int .u64 (d : Int)] w fun e w' => e = .returned (.agg #[.int .u64 (decD d : Int), .int .i64 (decN d : Int), .int .i64 (decE d : Int)]) ∧ Below w.heap.size w w' := by
  have HE := Lib.hid (fun W (h : Below w.heap.size w W) => decode_any d W hx (hv.keep h))
  clear hx hv
  generalize decD d = a at *
  generalize decN d = b at *
  generalize decE d = c at *
  go_enter Tryd.func19, Tryd.ntmps19
  go_wp2_with fail
  refine (HE.out _ ?_).mono ?_
  · exact (Below.refl _ w).alloc (Nat.le_refl _) _
  rintro e w' ⟨rfl, rfl⟩
  go_wp2_with fail
  refine bodyPost_ret (v := .agg #[.int .u64 (a : Int), .int .i64 (b : Int), .int .i64 (c : Int)]) (by simp [results, Tryd.results19, go_sem]) rfl ⟨rfl, ?_⟩
  exact (Below.refl _ w).alloc (Nat.le_refl _) _

theorem enc_lit (d : Nat) (D A B : Int) (hD : D = (d : Int)) (hx : d < 18446744073709551616) (hA : (encD d : Int) = A) (hB : (encE d : Int) = B) (w : World) (hv : Vars w) :
    Calls Tryd.prog 10 #[.int .u64 D] w fun e w' => e = .returned (.agg #[.int .u64 A, .int .i64 B]) ∧ Below w.heap.size w w' := by
  subst hD hA hB; exact encoded_any d w hx hv
theorem dec_lit (d : Nat) (D A B C : Int) (hD : D = (d : Int)) (hx : d < 18446744073709551616) (hA : (decD d : Int) = A) (hB : (decN d : Int) = B) (hC : (decE d : Int) = C) (w : World) (hv : Vars w) :
    Calls Tryd.prog 19 #[.int .u64 D] w fun e w' => e = .returned (.agg #[.int .u64 A, .int .i64 B, .int .i64 C]) ∧ Below w.heap.size w w' := by
  subst hD hA hB hC; exact decoded_any d w hx hv
theorem check_lit (d : Nat) (D A : Int) (hD : D = (d : Int)) (hx : d < 18446744073709551616) (hA : (check d : Int) = A) (w : World) (hv : Vars w) :
    Calls Tryd.prog 17 #[.int .u64 D] w fun e w' => e = .returned (.int .i64 A) ∧ w = w' := by
  subst hD hA; exact check_any d w hx hv
theorem flip_lit (d : Nat) (D A i : Int) (hD : D = (d : Int)) (hx : d < 18446744073709551616) (hA : (flip d i : Int) = A) (w : World) :
    Calls Tryd.prog 13 #[.int .u64 D, .int .i64 i] w fun e w' => e = .returned (.int .u64 A) ∧ w = w' := by
  subst hD hA; exact flip_any d i w hx
theorem distance_lit (x y : Nat) (X Y A : Int) (hX : X = (x : Int)) (hY : Y = (y : Int)) (hx : x < 18446744073709551616) (hy : y < 18446744073709551616) (hA : (pop (x ^^^ y) : Int) = A) (w : World) :
    Calls Tryd.prog 15 #[.int .u64 X, .int .u64 Y] w fun e w' => e = .returned (.int .i64 A) ∧ w = w' := by
  subst hX hY hA; exact distance_any x y w hx hy

/-- The variables hold what they were laid with, and all that was there is unturned. -/
structure St (w W : World) : Prop where
  v : Vars W
  b : Below w.heap.size w W
theorem St.start {w : World} (h : Vars w) : St w w := ⟨h, Below.refl _ _⟩
theorem St.step {w W W' : World} (h : St w W) (hb : Below W.heap.size W W') : St w W' := ⟨h.v.keep hb, h.b.trans (hb.mono h.b.size)⟩
theorem St.alloc {w W : World} (h : St w W) (o : Obj) : St w (W.alloc o) := h.step ((Below.refl _ W).alloc (Nat.le_refl _) _)

set_option maxHeartbeats 4000000 in
theorem examples_any (w : World) (hv : Vars w) :
    Calls Tryd.prog 9 #[] w fun e w' => e = .returned (.bool true) ∧ Below w.heap.size w w' := by
  have E0 := Lib.hid (enc_lit 0 0 0 0 (by decide) (by decide) (by decide +kernel) (by decide +kernel))
  have E1 := Lib.hid (enc_lit 1 1 15 0 (by decide) (by decide) (by decide +kernel) (by decide +kernel))
  have E2 := Lib.hid (enc_lit 2 2 51 0 (by decide) (by decide) (by decide +kernel) (by decide +kernel))
  have E3 := Lib.hid (enc_lit 3 3 60 0 (by decide) (by decide) (by decide +kernel) (by decide +kernel))
  have E4 := Lib.hid (enc_lit 144115188075855872 144115188075855872 0 1 (by decide) (by decide) (by decide +kernel) (by decide +kernel))
  have C15 := Lib.hid (check_lit 15 15 0 (by decide) (by decide) (by decide +kernel))
  have C14 := Lib.hid (check_lit 14 14 1 (by decide) (by decide) (by decide +kernel))
  have C12 := Lib.hid (check_lit 12 12 2 (by decide) (by decide) (by decide +kernel))
  have D14 := Lib.hid (dec_lit 14 14 1 1 0 (by decide) (by decide) (by decide +kernel) (by decide +kernel) (by decide +kernel))
  have D12 := Lib.hid (dec_lit 12 12 0 0 6 (by decide) (by decide) (by decide +kernel) (by decide +kernel) (by decide +kernel))
  have F3 := Lib.hid (flip_lit 15 15 7 3 (by decide) (by decide) (by decide +kernel))
  have F64 := Lib.hid (flip_lit 15 15 15 64 (by decide) (by decide) (by decide +kernel))
  have L4 := Lib.hid (distance_lit 15 60 15 60 4 (by decide) (by decide) (by decide) (by decide) (by decide +kernel))
  have S0 := St.start hv
  clear hv
  go_enter Tryd.func9, Tryd.ntmps9
  go_wp2_with fail
  refine (E0.out _ S0.v).mono ?_
  rintro e w1 ⟨rfl, hb⟩
  have S1 := S0.step hb
  clear hb S0
  go_wp2_with fail
  refine (E1.out _ S1.v).mono ?_
  rintro e w2 ⟨rfl, hb⟩
  have S2 := S1.step hb
  clear hb S1
  go_wp2_with fail
  refine (E2.out _ S2.v).mono ?_
  rintro e w3 ⟨rfl, hb⟩
  have S3 := S2.step hb
  clear hb S2
  go_wp2_with fail
  refine (E3.out _ S3.v).mono ?_
  rintro e w4 ⟨rfl, hb⟩
  have S4 := S3.step hb
  clear hb S3
  go_wp2_with fail
  refine (E4.out _ S4.v).mono ?_
  rintro e w5 ⟨rfl, hb⟩
  have S5 := S4.step hb
  clear hb S4
  go_wp2_with fail
  refine (C15.out _ S5.v).mono ?_
  rintro e w' ⟨rfl, rfl⟩
  go_wp2_with fail
  refine (C14.out _ S5.v).mono ?_
  rintro e w' ⟨rfl, rfl⟩
  go_wp2_with fail
  refine (C12.out _ S5.v).mono ?_
  rintro e w' ⟨rfl, rfl⟩
  go_wp2_with fail
  refine (D14.out _ S5.v).mono ?_
  rintro e w6 ⟨rfl, hb⟩
  have S6 := S5.step hb
  clear hb S5
  go_wp2_with fail
  refine (D12.out _ S6.v).mono ?_
  rintro e w7 ⟨rfl, hb⟩
  have S7 := S6.step hb
  clear hb S6
  go_wp2_with fail
  refine (F3.out _).mono ?_
  rintro e w' ⟨rfl, rfl⟩
  go_wp2_with fail
  refine (F64.out _).mono ?_
  rintro e w' ⟨rfl, rfl⟩
  go_wp2_with fail
  refine (L4.out _).mono ?_
  rintro e w' ⟨rfl, rfl⟩
  go_wp2_with fail
  go_ret
  exact ⟨rfl, S7.b⟩

end Hm
end Go.Proofs.YteikmbcfiabffaaDoor
