/- The law's examples. -/
import Derived.Test.YtiebhlmjpnhepaaDoorWB
namespace Go.Proofs.YtiebhlmjpnhepaaDoor
open Go.RowKit Sl Fr
namespace Lx
set_option linter.unusedVariables false
set_option linter.unusedSimpArgs false

theorem field_l (A : Option Addr) (k c : Nat) (r q : Int) (w : World) : (Instr.field 29 (.agg #[.slice A k c, .int .i64 r, .int .i64 q]) 0).run Tryd.prog w = .ok (.slice A k c) w := by kernel_rfl
attribute [local go_sem] field_l
/-- lexed at a text whose tokens are known. -/
theorem lexed_at (l : By) (r : List Tk × Nat × Nat) (h : lexR l = r) (hl : l.length ≤ 1000) (w0 : World) (hv : Vars w0) : ∀ W : World, Below w0.heap.size w0 W → Calls Tryd.prog 13 #[.string ⟨l.toArray⟩] W (GiveS r W) := by
  intro W hW
  have := lexed_any ⟨l.toArray⟩ W (by show l.toArray.size ≤ _; simp; omega) (hv.keep hW)
  rwa [show bys ⟨l.toArray⟩ = l by simp [bys], h] at this
theorem bad_at (l : By) (n : Nat) (h : lexR l = ([], n, 5)) (hl : l.length ≤ 1000) (w0 : World) (hv : Vars w0) : ∀ W : World, Below w0.heap.size w0 W → Calls Tryd.prog 24 #[.string ⟨l.toArray⟩, .int .i64 (n : Int)] W fun e w' => e = .returned (.bool true) ∧ Below W.heap.size W w' := by
  intro W hW
  exact bad_any ⟨l.toArray⟩ n W (by show l.toArray.size ≤ _; simp; omega) (hv.keep hW) (by rw [show bys ⟨l.toArray⟩ = l by simp [bys]]; exact h)
theorem kind_at (l : By) (n : Nat) (h : kindOf l = n) (hl : l.length ≤ 1000) (w0 : World) (hv : Vars w0) : ∀ W : World, Below w0.heap.size w0 W → Calls Tryd.prog 16 #[.string ⟨l.toArray⟩] W fun e w' => e = .returned (.int .i64 (n : Int)) ∧ Below W.heap.size W w' := by
  intro W hW
  have := kind_any ⟨l.toArray⟩ W (by show l.toArray.size ≤ _; simp; omega) (hv.keep hW)
  rwa [show bys ⟨l.toArray⟩ = l by simp [bys], h] at this
def exT1 : List Tk := [⟨1, [114, 101, 103], 0⟩, ⟨1, [120], 4⟩, ⟨3, [58], 5⟩, ⟨2, [52], 7⟩, ⟨3, [61], 9⟩, ⟨2, [48], 11⟩, ⟨3, [59], 12⟩, ⟨4, [], 24⟩]
def exT2 : List Tk := [⟨1, [97], 0⟩, ⟨3, [61, 61], 1⟩, ⟨1, [98], 3⟩, ⟨4, [], 4⟩]
def exT3 : List Tk := [⟨1, [97], 0⟩, ⟨3, [61], 1⟩, ⟨3, [61], 3⟩, ⟨1, [98], 4⟩, ⟨4, [], 5⟩]
theorem ex1 : lexR [114, 101, 103, 32, 120, 58, 32, 52, 32, 61, 32, 48, 59, 32, 47, 47, 32, 99, 111, 117, 110, 116, 101, 114] = (exT1, 0, 0) := by kernel_rfl
theorem ex2 : lexR [97, 61, 61, 98] = (exT2, 0, 0) := by kernel_rfl
theorem ex3 : lexR [97, 61, 32, 61, 98] = (exT3, 0, 0) := by kernel_rfl

set_option maxRecDepth 100000 in
set_option maxHeartbeats 4000000 in
theorem examples_any (w : World) (hv : Vars w) : Calls Tryd.prog 10 #[] w fun e w' => e = .returned (.bool true) ∧ Below w.heap.size w w' := by
  have L1 := Lib.hid (lexed_at _ _ ex1 (by decide) w hv)
  have L2 := Lib.hid (lexed_at _ _ ex2 (by decide) w hv)
  have L3 := Lib.hid (lexed_at _ _ ex3 (by decide) w hv)
  have D0 := Lib.hid (bad_at [120, 45, 62, 121, 32, 45, 32, 62, 122] 7 (by kernel_rfl) (by decide) w hv)
  have D1 := Lib.hid (bad_at [48, 49] 0 (by kernel_rfl) (by decide) w hv)
  have D2 := Lib.hid (bad_at [50, 120] 0 (by kernel_rfl) (by decide) w hv)
  have D3 := Lib.hid (bad_at [49, 48, 48, 48, 48, 48, 49] 0 (by kernel_rfl) (by decide) w hv)
  have D4 := Lib.hid (bad_at [65] 0 (by kernel_rfl) (by decide) w hv)
  have D5 := Lib.hid (bad_at [120, 32, 47, 121] 2 (by kernel_rfl) (by decide) w hv)
  have L0 := Lib.hid (lexed_at [] ([endT 0], 0, 0) (by kernel_rfl) (by decide) w hv)
  have K0 := Lib.hid (kind_at [45, 62] 3 (by kernel_rfl) (by decide) w hv)
  have K1 := Lib.hid (kind_at [57] 2 (by kernel_rfl) (by decide) w hv)
  have K2 := Lib.hid (kind_at [97, 32, 98] 0 (by kernel_rfl) (by decide) w hv)
  have K3 := Lib.hid (kind_at [] 0 (by kernel_rfl) (by decide) w hv)
  have N0 := Lib.hid (fun W => lined_any ⟨#[97, 10, 98, 99]⟩ 3 W (by decide))
  have N1 := Lib.hid (fun W => lined_any ⟨#[97]⟩ 2 W (by decide))
  rw [show lnP ⟨#[97, 10, 98, 99]⟩ 3 = (2, 2) by kernel_rfl] at N0
  rw [show lnP ⟨#[97]⟩ 2 = (0, 0) by kernel_rfl] at N1
  have B0 := Lib.hid (Below.refl w.heap.size w)
  clear hv
  go_enter Tryd.func10, Tryd.ntmps10
  go_wp2_with fail
  refine (L1.out _ B0.out).mono ?_
  rintro e W1 ⟨A, c, rfl, _, _, hA, hb⟩
  have B1 := B0.out.trans (hb.mono B0.out.size)
  obtain ⟨m1, bA⟩ := start1 W1 #[.slice A 8 c, .int .i64 0, .int .i64 0] 29
  have hA2 := Lib.hid (TokA.keep hA.arr bA)
  have B2 := Lib.hid (B1.trans (bA.mono B1.size))
  clear hA hb bA B1 L1
  simp only [show exT1.length = 8 from rfl]
  go_upto_region 2 with fail
  generalize W1.alloc (.cells #[.slice A 8 c, .int .i64 0, .int .i64 0] 29) = X1 at *
  generalize W1.heap.size = xb at *
  have mlt := m1.lt
  have hq := start1 X1 #[.int .i64 1, .string ⟨#[114, 101, 103]⟩, .int .i64 0, .int .i64 1, .string ⟨#[120]⟩, .int .i64 4, .int .i64 3, .string ⟨#[58]⟩, .int .i64 5, .int .i64 2, .string ⟨#[52]⟩, .int .i64 7, .int .i64 3, .string ⟨#[61]⟩, .int .i64 9, .int .i64 2, .string ⟨#[48]⟩, .int .i64 11, .int .i64 3, .string ⟨#[59]⟩, .int .i64 12, .int .i64 4, .string ⟨#[]⟩, .int .i64 24] 39
  go_upto_region 3 with fail
  generalize X1.alloc (.cells #[.int .i64 1, .string ⟨#[114, 101, 103]⟩, .int .i64 0, .int .i64 1, .string ⟨#[120]⟩, .int .i64 4, .int .i64 3, .string ⟨#[58]⟩, .int .i64 5, .int .i64 2, .string ⟨#[52]⟩, .int .i64 7, .int .i64 3, .string ⟨#[61]⟩, .int .i64 9, .int .i64 2, .string ⟨#[48]⟩, .int .i64 11, .int .i64 3, .string ⟨#[59]⟩, .int .i64 12, .int .i64 4, .string ⟨#[]⟩, .int .i64 24] 39) = X2 at *
  obtain ⟨m2, bC⟩ := hq
  have m3 := m1.keep bC
  have hA3 := Lib.hid (hA2.out.keep bC)
  have B3 := B2.out.trans (bC.mono B2.out.size)
  have hT2 : Hid (TokA X2 (some ⟨X1.heap.size, 0, none⟩) exT1) := Lib.hid (fun _ => ⟨X1.heap.size, 0, rfl, m2.lt, fun j u hu => by rw [Nat.zero_add]; exact (m2.cells j u (by rw [← Array.getElem?_toList]; exact hu)).1⟩)
  obtain ⟨c0, c1, c2⟩ := m3.c3
  clear m1 m2 m3 bC hA2
  have HAL := Lib.hid (alike_any A (some ⟨X1.heap.size, 0, none⟩) (exT1, 0, 0) c 8 X2 hA3.out hT2.out (by decide) (by decide))
  clear hA3 hT2
  have BB3 := Lib.hid B3
  clear B3
  go_wp2_with fail
  refine (HAL.out).mono ?_
  rintro e W4 ⟨rfl, hb⟩
  have B4 := BB3.out.trans (hb.mono BB3.out.size)
  clear BB3 hb
  have BB4 := Lib.hid B4
  clear B4
  go_wp2_with fail
  refine (L2.out _ BB4.out).mono ?_
  rintro e W5 ⟨A2, c2, rfl, _, _, hA, hb⟩
  have B5 := BB4.out.trans (hb.mono BB4.out.size)
  clear BB4
  clear hA hb
  simp only [show exT2.length = 4 from rfl]
  have BB5 := Lib.hid B5
  clear B5
  go_wp2_with fail
  refine (L3.out _ BB5.out).mono ?_
  rintro e W6 ⟨A3, c3, rfl, _, _, hA, hb⟩
  have B6 := BB5.out.trans (hb.mono BB5.out.size)
  clear BB5
  clear hA hb
  simp only [show exT3.length = 5 from rfl]
  have BB6 := Lib.hid B6
  clear B6
  go_wp2_with fail
  refine (L2.out _ BB6.out).mono ?_
  rintro e W7 ⟨A4, c4, rfl, _, _, hA, hb⟩
  have B7 := BB6.out.trans (hb.mono BB6.out.size)
  clear BB6
  have HJ := Lib.hid (join_any A4 exT2 c4 _ hA.arr (by decide) (by decide))
  rw [show joinL (textsOf exT2) = [97, 32, 61, 61, 32, 98] by rfl, show exT2.length = 4 by rfl] at HJ
  clear hA hb
  simp only [show exT2.length = 4 from rfl]
  have BB7 := Lib.hid B7
  clear B7
  go_wp2_with fail
  refine (HJ.out).mono ?_
  rintro e W8 ⟨rfl, hb⟩
  have B8 := BB7.out.trans (hb.mono BB7.out.size)
  clear BB7 hb
  have BB8 := Lib.hid B8
  clear B8
  go_wp2_with fail
  refine (D0.out _ BB8.out).mono ?_
  rintro e W9 ⟨rfl, hb⟩
  have B9 := BB8.out.trans (hb.mono BB8.out.size)
  clear BB8 hb
  have BB9 := Lib.hid B9
  clear B9
  go_wp2_with fail
  refine (D1.out _ BB9.out).mono ?_
  rintro e W10 ⟨rfl, hb⟩
  have B10 := BB9.out.trans (hb.mono BB9.out.size)
  clear BB9 hb
  have BB10 := Lib.hid B10
  clear B10
  go_wp2_with fail
  refine (D2.out _ BB10.out).mono ?_
  rintro e W11 ⟨rfl, hb⟩
  have B11 := BB10.out.trans (hb.mono BB10.out.size)
  clear BB10 hb
  have BB11 := Lib.hid B11
  clear B11
  go_wp2_with fail
  refine (D3.out _ BB11.out).mono ?_
  rintro e W12 ⟨rfl, hb⟩
  have B12 := BB11.out.trans (hb.mono BB11.out.size)
  clear BB11 hb
  have BB12 := Lib.hid B12
  clear B12
  go_wp2_with fail
  refine (D4.out _ BB12.out).mono ?_
  rintro e W13 ⟨rfl, hb⟩
  have B13 := BB12.out.trans (hb.mono BB12.out.size)
  clear BB12 hb
  have BB13 := Lib.hid B13
  clear B13
  go_wp2_with fail
  refine (D5.out _ BB13.out).mono ?_
  rintro e W14 ⟨rfl, hb⟩
  have B14 := BB13.out.trans (hb.mono BB13.out.size)
  clear BB13 hb
  have BB14 := Lib.hid B14
  clear B14
  go_wp2_with fail
  refine (L0.out _ BB14.out).mono ?_
  rintro e W15 ⟨A5, c5, rfl, _, _, hA, hb⟩
  have B15 := BB14.out.trans (hb.mono BB14.out.size)
  clear BB14
  clear hA hb
  simp only [List.length_cons, List.length_nil]
  have BB15 := Lib.hid B15
  clear B15
  go_wp2_with fail
  refine (K0.out _ BB15.out).mono ?_
  rintro e W16 ⟨rfl, hb⟩
  have B16 := BB15.out.trans (hb.mono BB15.out.size)
  clear BB15 hb
  have BB16 := Lib.hid B16
  clear B16
  go_wp2_with fail
  refine (K1.out _ BB16.out).mono ?_
  rintro e W17 ⟨rfl, hb⟩
  have B17 := BB16.out.trans (hb.mono BB16.out.size)
  clear BB16 hb
  have BB17 := Lib.hid B17
  clear B17
  go_wp2_with fail
  refine (K2.out _ BB17.out).mono ?_
  rintro e W18 ⟨rfl, hb⟩
  have B18 := BB17.out.trans (hb.mono BB17.out.size)
  clear BB17 hb
  have BB18 := Lib.hid B18
  clear B18
  go_wp2_with fail
  refine (K3.out _ BB18.out).mono ?_
  rintro e W19 ⟨rfl, hb⟩
  have B19 := BB18.out.trans (hb.mono BB18.out.size)
  clear BB18 hb
  have BB19 := Lib.hid B19
  clear B19
  go_wp2_with fail
  refine (N0.out _).mono ?_
  rintro e W20 ⟨rfl, hb⟩
  have B20 := BB19.out.trans (hb.mono BB19.out.size)
  clear BB19 hb
  have BB20 := Lib.hid B20
  clear B20
  go_wp2_with fail
  refine (N1.out _).mono ?_
  rintro e W21 ⟨rfl, hb⟩
  have B21 := BB20.out.trans (hb.mono BB20.out.size)
  clear BB20 hb
  have BE := Lib.hid B21
  clear B21
  go_wp2_with fail
  go_ret
  exact ⟨rfl, BE.out⟩


end Lx
end Go.Proofs.YtiebhlmjpnhepaaDoor
