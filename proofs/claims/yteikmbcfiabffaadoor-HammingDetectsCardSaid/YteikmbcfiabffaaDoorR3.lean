/- Statement HammingCorrects: the walk. -/
import Derived.Test.YteikmbcfiabffaaDoorR2
import Derived.BigQuiet
namespace Go.Proofs.YteikmbcfiabffaaDoor
open Go.RowKit Go.Shelf Fr
namespace Hm
set_option linter.unusedVariables false

theorem decE_one {d i : Nat} (h : d < 2 ^ 57) (hi : i < 64) : decE (enc d ^^^ 2 ^ i) = 0 := by unfold decE; rw [check_one h hi]; rfl
theorem decN_one {d i : Nat} (h : d < 2 ^ 57) (hi : i < 64) : decN (enc d ^^^ 2 ^ i) = 1 := by unfold decN; rw [check_one h hi]; rfl

/-- A contract that asks for the variables, in every later world. -/
theorem at_later {w W : World} {P : World → Prop} (S : St w W) (h : ∀ W', Vars W' → P W') : ∀ p : Later W, P p.val := fun p => h p.val (S.v.keep p.below)

set_option maxRecDepth 100000 in
set_option maxHeartbeats 4000000 in
theorem corrects_walk (d k : Nat) (i : Int) (w : World) (hx : d < 18446744073709551616) (hk : k < 64) (hi : i % 64 = (k : Int)) (h0 : 0 ≤ i) (h1 : i ≤ 255) (hv : Vars w) :
    Calls Tryd.prog 5 #[.int .u64 (d : Int), .int .u8 i] w fun e w' => e = .returned (.bool true) ∧ Below w.heap.size w w' := by
  have HEX := Lib.hid (examples_any w hv)
  have S0 := St.start hv
  have HC := Lib.hid (fun W => cut_any d W hx)
  have hr := low57 d
  generalize d % 2 ^ 57 = r at *
  have HN := Lib.hid (enc_cut r hr)
  have hc := enc_lt hr
  have HF := Lib.hid (fun W => flip_in (enc r) k W hc hk)
  have ho : enc r ^^^ 2 ^ k < 2 ^ 64 := Nat.xor_lt_two_pow hc (pow_lt hk)
  have HK := Lib.hid (check_lit (enc r ^^^ 2 ^ k) (enc r ^^^ 2 ^ k : Nat) 1 rfl ho (by rw [check_one hr hk]; rfl))
  have HD := Lib.hid (dec_lit (enc r ^^^ 2 ^ k) (enc r ^^^ 2 ^ k : Nat) r 1 0 rfl ho (by rw [decD_one hr hk]) (by rw [decN_one hr hk]; rfl) (by rw [decE_one hr hk]; rfl))
  have HL := Lib.hid (distance_lit (enc r ^^^ 2 ^ k) (enc r) (enc r ^^^ 2 ^ k : Nat) (enc r) 1 rfl rfl ho hc (by rw [xor_cancel]; show ((ones 64 (2 ^ k) : Nat) : Int) = 1; rw [ones_pow, if_pos hk]; rfl))
  have HB : Hid (∀ W, _) := Lib.hid (fun W => flip_in (enc r ^^^ 2 ^ k) k W ho hk)
  rw [flip_flip] at HB
  clear hr hv hx hc ho hk
  generalize enc r ^^^ 2 ^ k = o at *
  generalize enc r = c at *
  go_enter Tryd.func5, Tryd.ntmps5
  go_wp2_with fail
  refine HEX.out.mono ?_
  rintro e w1 ⟨rfl, hb⟩
  have S1 := S0.step hb
  clear hb S0
  go_wp2_with fail
  refine (HC.out _).mono ?_
  rintro e w' ⟨rfl, rfl⟩
  go_wp2_with fail
  refine (HN.out _ S1.v).mono ?_
  rintro e w2 ⟨rfl, hb⟩
  have S2 := (S1.step hb).alloc (.cells #[.int .u64 (c : Int), .int .i64 0] 27)
  have X2 := Box2.new w2 (.int .u64 (c : Int)) (.int .i64 0) 27
  clear hb S1
  have x0 := X2.c0
  have x1 := X2.c1
  go_wp2_with fail
  refine (HF.out _).mono ?_
  rintro e w' ⟨rfl, rfl⟩
  clear x0 x1
  go_wp2_with fail
  generalize w2.heap.size = B at *
  generalize w2.alloc (.cells #[.int .u64 (c : Int), .int .i64 0] 27) = W at *
  obtain ⟨y0, y1⟩ := X2.later
  have HK2 := Lib.hid (at_later S2 HK.out)
  have HD2 := Lib.hid (at_later S2 HD.out)
  clear HK HD
  refine wp_region_later (by kernel_rfl) (by kernel_rfl) ?_
  repeat (go_big_quiet_step (first | (go_at_call 17; with_reducible exact later_same (HK2.out _)) | (go_at_call 19; with_reducible exact later_of (HD2.out _)) | (go_at_call 12; with_reducible exact later_same (HC.out _)) | (go_at_call 15; with_reducible exact later_same (HL.out _)) | (go_at_call 13; with_reducible exact later_same (HB.out _))))
  refine wpQuiet_nil ?_
  intro _ hw'
  obtain ⟨q, hw''⟩ := hw'
  subst hw''
  have S3 := S2.step q.below
  clear S2 X2 y0 y1 HK2 HD2
  generalize q.val = W3 at *
  go_wp2_with fail
  go_ret
  exact ⟨rfl, S3.b⟩

theorem corrects_row (a i : Int) (w : World) (h : 0 ≤ a ∧ a ≤ 18446744073709551615) (hi : 0 ≤ i ∧ i ≤ 255) (hv : Vars w) :
    Calls Tryd.prog 5 #[.int .u64 a, .int .u8 i] w fun e w' => e = .returned (.bool true) ∧ Below w.heap.size w w' := by
  obtain ⟨d, rfl⟩ := Int.eq_ofNat_of_zero_le h.1
  exact corrects_walk d (i % 64).toNat i w (by omega) (by omega) (by omega) hi.1 hi.2 hv

end Hm
end Go.Proofs.YteikmbcfiabffaaDoor
