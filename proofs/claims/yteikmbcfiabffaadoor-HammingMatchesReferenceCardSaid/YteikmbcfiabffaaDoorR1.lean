/- Statement HammingMatchesReference: the walk. -/
import Derived.Test.YteikmbcfiabffaaDoorR3
import Derived.Test.YteikmbcfiabffaaDoorX3
namespace Go.Proofs.YteikmbcfiabffaaDoor
open Go.RowKit Go.Shelf Fr
namespace Hm
set_option linter.unusedVariables false

theorem bits_u64 (op : BinOp) (a b : Int) : ∃ z : Nat, z < 18446744073709551616 ∧ bits op .u64 a b = (z : Int) := by
  have h : ∃ n : Int, bits op .u64 a b = IntKind.u64.wrap n := ⟨_, rfl⟩
  obtain ⟨n, h⟩ := h
  rw [IntKind.wrap_u64] at h
  exact ⟨(n % 18446744073709551616).toNat, by omega, by omega⟩

theorem renc_cut (r : Nat) (hr : r < 2 ^ 57) (w : World) :
    Calls Tryd.prog 11 #[.int .u64 (r : Int)] w fun e w' => e = .returned (.agg #[.int .u64 (enc r : Int), .int .i64 0]) ∧ Below w.heap.size w w' := rencode_ok r w hr

theorem field_word (a b : Int) (w : World) : (Instr.field 27 (.agg #[.int .u64 a, .int .i64 b]) 0).run Tryd.prog w = .ok (.int .u64 a) w := by kernel_rfl

set_option maxRecDepth 100000 in
set_option maxHeartbeats 4000000 in
theorem matches_walk (d a b : Nat) (i : Int) (w : World) (hd : d < 18446744073709551616) (ha : a < 18446744073709551616) (hb : b < 18446744073709551616) (hv : Vars w) :
    Calls Tryd.prog 3 #[.int .u64 (d : Int), .agg #[.int .u64 (a : Int), .int .u64 (b : Int)], .int .i64 i] w fun e w' => e = .returned (.bool true) ∧ Below w.heap.size w w' := by
  have S0 := (St.start hv).alloc (.cells #[.int .u64 (a : Int), .int .u64 (b : Int)] 23)
  have X0 := Box2.new w (.int .u64 (a : Int)) (.int .u64 (b : Int)) 23
  have HC := Lib.hid (fun W => cut_any d W hd)
  have hr := low57 d
  have HE1 := Lib.hid (fun W h => encoded_any d W hd h)
  have HE2 := Lib.hid (fun W => rencode_any d W hd)
  generalize d % 2 ^ 57 = r at *
  have HE3 := Lib.hid (enc_cut r hr)
  have HE4 := Lib.hid (renc_cut r hr)
  have HF1 := Lib.hid (fun W => flip_any a i W ha)
  have HF2 := Lib.hid (fun W => rflip_any a i W ha)
  have HL1 := Lib.hid (fun W => distance_any a b W ha hb)
  have HL2 := Lib.hid (fun W => rdistance_any a b W ha hb)
  have HF3 := Lib.hid (fun W => rflip_any (enc r) i W (enc_lt hr))
  have ho := flip_lt i (enc_lt hr)
  have hL : ∀ z : Nat, z < 18446744073709551616 → ∀ k : Nat, k < 3 → ∃ v : Nat, v < 18446744073709551616 ∧ ∀ (W : World) (B : Nat), Box3 W B (.int .u64 (a : Int)) (.int .u64 (flip (enc r) i : Int)) (.int .u64 (z : Int)) → W.cell? ⟨B, k, none⟩ = some (.int .u64 (v : Int)) := by
    intro z hz k hk
    rcases (by omega : k = 0 ∨ k = 1 ∨ k = 2) with rfl | rfl | rfl
    · exact ⟨a, ha, fun W B h => h.c0⟩
    · exact ⟨_, ho, fun W B h => h.c1⟩
    · exact ⟨z, hz, fun W B h => h.c2⟩
  have HLL := Lib.hid hL
  clear hd ha hb hv hr hL ho
  generalize flip a i = fa at *
  generalize pop (a ^^^ b) = dist at *
  generalize encD d = ed at *
  generalize encE d = ee at *
  generalize flip (enc r) i = o at *
  generalize enc r = c at *
  obtain ⟨z0, hz0, ez0⟩ := bits_u64 .andNot (b : Int) (IntKind.u64.wrap ((b : Int) - 1))
  obtain ⟨z, hz, ez⟩ := bits_u64 .xor (o : Int) (z0 : Int)
  have HZ := Lib.hid (HLL.out z hz)
  clear hz hz0 HLL
  go_enter Tryd.func3, Tryd.ntmps3
  go_wp2_with fail
  refine (examples_any _ S0.v).mono ?_
  rintro e w1 ⟨rfl, hb⟩
  have S1 := S0.step hb
  have X1 := X0.keep hb
  have hlt := X1.lt
  clear hb S0 X0
  go_wp2_with fail
  obtain ⟨y0, y1⟩ := X1.later
  have HA1 := Lib.hid (at_later S1 HE1.out)
  have HA3 := Lib.hid (at_later S1 HE3.out)
  refine wp_region_later (by kernel_rfl) (by kernel_rfl) ?_
  repeat (go_big_quiet_step (first | (go_at_call 10; first | with_reducible exact later_of (HA1.out _) | with_reducible exact later_of (HA3.out _)) | (go_at_call 11; first | with_reducible exact later_of (HE2.out _) | with_reducible exact later_of (HE4.out _)) | (go_at_call 12; with_reducible exact later_same (HC.out _)) | (go_at_call 13; with_reducible exact later_same (HF1.out _)) | (go_at_call 14; with_reducible exact later_same (HF2.out _)) | (go_at_call 15; with_reducible exact later_same (HL1.out _)) | (go_at_call 16; with_reducible exact later_same (HL2.out _))))
  refine wpQuiet_nil ?_
  intro _ hw'
  obtain ⟨q, hw''⟩ := hw'
  subst hw''
  have S2 := S1.step q.below
  have X2 := X1.keep q.below
  clear S1 X1 y0 y1 HA1 HA3 hlt
  generalize q.val = W2 at *
  go_wp2_with fail
  refine (HC.out _).mono ?_
  rintro e w' ⟨rfl, rfl⟩
  go_wp2_with fail
  refine (HE4.out _).mono ?_
  rintro e W3 ⟨rfl, hb⟩
  have S3 := S2.step hb
  have X3 := X2.keep hb
  clear hb S2 X2
  have hfw := fun W => field_word c 0 W
  go_wp2_with fail
  refine (HF3.out _).mono ?_
  rintro e w' ⟨rfl, rfl⟩
  have x0 := X3.c0
  have x1 := X3.c1
  go_wp2_with fail
  have S4 := S3.alloc (.cells #[.int .u64 (a : Int), .int .u64 (o : Int), .int .u64 (z : Int)] 22)
  have Y4 := Box3.new W3 (.int .u64 (a : Int)) (.int .u64 (o : Int)) (.int .u64 (z : Int)) 22
  clear S3 X3 x0 x1 hfw HC HE1 HE2 HE3 HE4 HF1 HF2 HF3 HL1 HL2 ez ez0
  generalize W3.heap.size = B at *
  generalize W3.alloc (.cells #[.int .u64 (a : Int), .int .u64 (o : Int), .int .u64 (z : Int)] 22) = W4 at *
  go_loopw [10] (fun kv wr => ∃ k : Nat, k ≤ 3 ∧ kv = .int .i64 (k : Int) ∧ Below W4.heap.size W4 wr) (fun kv _ => (3 - intOf kv).toNat)
  case atStart => exact ⟨0, by omega, rfl, Below.refl _ _⟩
  case round =>
    obtain ⟨k, hk, rfl, hbl⟩ := hrel
    have S5 := S4.step hbl
    have Y5 := Y4.keep hbl
    by_cases hlt : k < 3
    · have d1 : decide ((k : Int) < 3) = true := by simp; omega
      obtain ⟨v, hv, hcell⟩ := HZ.out k hlt
      have hc := fun p : Later wr => hcell _ _ (Y5.keep p.below)
      have HK1 := Lib.hid (at_later S5 (fun W => check_any v W hv))
      have HK2 := Lib.hid (fun W => rcheck_any v W hv)
      have HD1 := Lib.hid (at_later S5 (fun W => decoded_any v W hv))
      have HD2 := Lib.hid (fun W => rdecode_any v W hv)
      have hd : ∀ p : Later wr, p.val.cell? ⟨B, k, none⟩ = some (.int .u64 (v : Int)) := hc
      have HB := Lib.hid hbl
      clear hv hcell hc Y5 hbl
      generalize decD v = e1 at *
      generalize decN v = e2 at *
      generalize decE v = e3 at *
      generalize check v = ck at *
      go_wp2_with fail
      refine wp_region_later (by kernel_rfl) (by kernel_rfl) ?_
      repeat (go_big_quiet_step (first | (go_at_call 17; with_reducible exact later_same (HK1.out _)) | (go_at_call 18; with_reducible exact later_same (HK2.out _)) | (go_at_call 19; with_reducible exact later_of (HD1.out _)) | (go_at_call 20; with_reducible exact later_of (HD2.out _))))
      refine wpQuiet_nil ?_
      intro _ hw'
      obtain ⟨q, hw''⟩ := hw'
      subst hw''
      have HB2 := Lib.hid (HB.out.trans (q.below.mono HB.out.size))
      clear HK1 HK2 HD1 HD2 HB hd S5
      generalize q.val = W5 at *
      go_wp2_with fail
      go_roundw
      case rel => exact ⟨k + 1, by omega, by go_num, HB2.out⟩
      case measure => simp [intOf]; omega
    · obtain rfl : k = 3 := by omega
      have d1 : decide (((3 : Nat) : Int) < 3) = false := by decide
      clear Y5 hbl
      go_wp2_with fail
      go_ret
      exact ⟨rfl, S5.b⟩

theorem matches_row (d a b i : Int) (w : World) (hd : 0 ≤ d ∧ d ≤ 18446744073709551615) (hi : -9223372036854775808 ≤ i ∧ i ≤ 9223372036854775807) (ha : 0 ≤ a ∧ a ≤ 18446744073709551615) (hb : 0 ≤ b ∧ b ≤ 18446744073709551615) (hv : Vars w) :
    Calls Tryd.prog 3 #[.int .u64 d, .agg #[.int .u64 a, .int .u64 b], .int .i64 i] w fun e w' => e = .returned (.bool true) ∧ Below w.heap.size w w' := by
  obtain ⟨d, rfl⟩ := Int.eq_ofNat_of_zero_le hd.1
  obtain ⟨a, rfl⟩ := Int.eq_ofNat_of_zero_le ha.1
  obtain ⟨b, rfl⟩ := Int.eq_ofNat_of_zero_le hb.1
  exact matches_walk d a b i w (by omega) (by omega) (by omega) hv

end Hm
end Go.Proofs.YteikmbcfiabffaaDoor
