/- Statement DigestPaths: the walk. -/
import Derived.Test.YtgjmhddekggilaaL0
namespace Go.Proofs.Ytgjmhddekggilaa
open Go.RowKit Go.BigFrame
namespace Dg

theorem pow_wrap : ∀ (m : Nat), m ≤ 9 → wrap64 ((2 : Int) ^ m) = ((2 ^ m : Nat) : Int) := by
  intro m h
  match m, h with
  | 0, _ => decide +kernel
  | 1, _ => decide +kernel
  | 2, _ => decide +kernel
  | 3, _ => decide +kernel
  | 4, _ => decide +kernel
  | 5, _ => decide +kernel
  | 6, _ => decide +kernel
  | 7, _ => decide +kernel
  | 8, _ => decide +kernel
  | 9, _ => decide +kernel
  | n + 10, h => omega

set_option maxHeartbeats 2000000 in
theorem paths_walk (A : Option Addr) (len cap : Nat) (l : List Int) (k0 k1 : Int) (w : World) (hl : RowIs .u64 w A len cap l) (h0 : 0 ≤ k0) (h0' : k0 ≤ 65535) (h1 : 0 ≤ k1) (h1' : k1 ≤ 65535) :
    Calls Try.prog 5 #[.slice A len cap, .agg #[.int .u16 k0, .int .u16 k1]] w fun e w' => e = .returned (.bool true) ∧ Below w.heap.size w w' := by
  go_enter Try.func5, Try.ntmps5
  go_wp2_with fail
  refine (examples_any _).mono ?_
  rintro e w1 ⟨rfl, hb1⟩
  have hB1 := ((Below.refl _ w).alloc (Nat.le_refl _) (.cells #[.int .u16 k0, .int .u16 k1] 49)).trans (hb1.mono (by simp))
  have f0 : w1.cell? ⟨w.heap.size, 0, none⟩ = some (.int .u16 k0) := (hb1.cell (p := ⟨w.heap.size, 0, none⟩) (by simp)).trans (World.cell?_alloc_at _ 49 _ 0 rfl)
  have f1 : w1.cell? ⟨w.heap.size, 1, none⟩ = some (.int .u16 k1) := (hb1.cell (p := ⟨w.heap.size, 1, none⟩) (by simp)).trans (World.cell?_alloc_at _ 49 _ 1 rfl)
  have hw1 : w.heap.size < w1.heap.size := by have := hb1.size; simp at this; omega
  clear hb1
  go_wp2_with fail
  refine (grown_z A l cap len _ _ hl.hlen (by omega) (by omega) hl.hcap (hl.arr.keep hB1) hl.nil hl.range).mono ?_
  rintro e w2 ⟨zs, A2, c2, rfl, hz, hR, hc2, hF2, hb2⟩
  have hs1 := hB1.size
  have f2 := (hb2.cell (p := ⟨w.heap.size, 1, none⟩) hw1).trans f1
  have hz1 : 1 ≤ zs.length := by omega
  have hz2 : zs.length ≤ 300 := by omega
  have hB2 := hB1.trans (hb2.mono hs1)
  clear f0 f1 hz hb2 hl h0 h0' hB1 hs1 hw1
  go_wp2_with fail
  obtain ⟨j, hj⟩ : ∃ j : Nat, k1 % (zs.length : Int) = j := ⟨(k1 % (zs.length : Int)).toNat, (Int.toNat_of_nonneg (Int.emod_nonneg _ (by omega))).symm⟩
  have hjl : j < zs.length := by have := Int.emod_lt_of_pos k1 (b := (zs.length : Int)) (by omega); omega
  simp only [hj]
  clear hj h1 h1' f2
  refine (pathOf_yes A2 zs c2 j w2 hjl (by omega) hc2 hF2.arr).mono ?_
  rintro e w3 ⟨A3, c3, rfl, hc3, hF3, hb3⟩
  have HL := Lib.hid (lead_path zs.length zs j (Nat.le_refl _) hjl)
  have HB : Hid (∀ b, zs.length ≤ 2 ^ b → (pathT zs j).length ≤ b) := Lib.hid (fun b h => path_len b zs j h)
  have hroot := fun (wx : World) (hx : Arr wx A2 (zs.map (Value.int .u64))) => root_some A2 zs c2 wx (by omega) (by omega) hc2 hx
  generalize pathT zs j = P at *
  generalize rootT zs = T at *
  obtain ⟨b, o, rfl, hbl, hcs⟩ := hF2.arr.at_ (by intro h; subst h; simp at hz1)
  have f3 := (hb3.cell (p := ⟨b, o + j, none⟩) hbl).trans (hcs j hjl)
  have hA2 := hF2.arr.keep hb3
  have hA3 := hF3.arr
  have hB3 := hB2.trans (hb3.mono hB2.size)
  have hs3 := hB3.size
  have hbl3 := Nat.lt_of_lt_of_le hbl hb3.size
  clear hF2 hF3 hb3 hcs hB2
  generalize zs[j]?.getD 0 = x at *
  have HC : Hid (chkE zs.length j x P T = 0) := Lib.hid (by unfold chkE; rw [HL.out, if_pos rfl])
  have HR := Lib.hid hroot
  clear hroot
  go_wp2
  go_loop [9] (fun v => ∃ m : Nat, v = .int .i64 m ∧ m ≤ 9 ∧ (m = 0 ∨ 2 ^ (m - 1) < zs.length)) (fun v => 10 - (intOf v).toNat)
  case atStart => exact ⟨0, rfl, by omega, .inl rfl⟩
  case round =>
    obtain ⟨m, rfl, hm, hmm⟩ := hrel
    have HM := Lib.hid hmm
    clear hmm
    have hpw := pow_wrap m hm
    by_cases ht : wrap64 ((2 : Int) ^ m) < (zs.length : Int)
    · have hlt : 2 ^ m < zs.length := by rw [hpw] at ht; omega
      have HT := Lib.hid hlt
      have hm8 : m ≤ 8 := by
        rcases Nat.lt_or_ge 8 m with h | h
        · have : m = 9 := by omega
          subst this
          simp at hlt
          omega
        · exact h
      clear hpw hlt
      go_wp2
      go_round
      case rel => exact ⟨m + 1, by go_num, by omega, .inr HT.out⟩
      case measure => simp [intOf]; omega
    · have hle : zs.length ≤ 2 ^ m := by rw [hpw] at ht; omega
      have hPm : P.length ≤ m := HB.out m hle
      clear hpw hle
      have hcell0 := Later.cell (w := w3.alloc (.cells #[.slice A3 P.length c3, .int .i64 0] 42)) (a := ⟨w3.heap.size, 0, none⟩) (World.cell?_alloc_at _ 42 _ 0 rfl) (by simp)
      have hcell1 := Later.cell (w := w3.alloc (.cells #[.slice A3 P.length c3, .int .i64 0] 42)) (a := ⟨w3.heap.size, 1, none⟩) (World.cell?_alloc_at _ 42 _ 1 rfl) (by simp)
      have hcellx := Later.cell (w := w3.alloc (.cells #[.slice A3 P.length c3, .int .i64 0] 42)) (a := ⟨b, o + j, none⟩) ((World.cell?_alloc_lt _ _ _ hbl3).trans f3) (by simp; omega)
      have HA2 := Lib.hid (hA2.alloc (.cells #[.slice A3 P.length c3, .int .i64 0] 42))
      have HA3 := Lib.hid (hA3.alloc (.cells #[.slice A3 P.length c3, .int .i64 0] 42))
      have HBe := Lib.hid (hB3.alloc hs3 (.cells #[.slice A3 P.length c3, .int .i64 0] 42))
      have HCk : Hid (∀ W : World, Arr W A3 (P.map (Value.int .u64)) → Calls Try.prog 24 #[.int .u64 T, .agg #[.int .i64 zs.length, .slice A3 P.length c3], .agg #[.int .i64 j, .int .u64 x]] W fun e w' => e = .returned (.int .i64 0) ∧ Below W.heap.size W w') :=
        Lib.hid (fun W hW => by have := checkL_run T zs.length j x A3 P c3 W (by omega) hjl hc3 hW; rw [HC.out] at this; exact this)
      clear hA2 hA3 hB3 f3
      have hfld := field_no
      go_wp2
      refine wp_region_later (by kernel_rfl) (by kernel_rfl) ?_
      repeat (go_big_quiet_step ((first
        | (go_at_call 19; exact later_of (HR.out _ (HA2.out.keep (Later.below _))))
        | (go_at_call 24; exact later_of (HCk.out _ (HA3.out.keep (Later.below _))))
        | (go_at_call 21; exact later_of (pathOf_no _ _ _ _ _ (by omega))))))
      refine wpQuiet_nil ?_
      intro _ hw'
      obtain ⟨q, hw''⟩ := hw'
      subst hw''
      go_wp2
      go_ret
      exact ⟨rfl, HBe.out.trans (q.below.mono HBe.out.size)⟩

end Dg
end Go.Proofs.Ytgjmhddekggilaa
