/- What the law's edited returns: some string, at most a byte longer. -/
import Derived.Test.YtcecdmooojkmoaaDoorP10
import Derived.Laws.Concat
import Derived.Laws.IdiomStrings
namespace Go.Proofs.YtcecdmooojkmoaaDoor
open Go.RowKit Go.Shelf Go.Sort
namespace Fr
set_option linter.unusedVariables false

/-- A string that is not long. -/
def RetS (w : World) (n : Nat) (o : Ending) (w' : World) : Prop := ∃ r : ByteArray, o = .returned (.string r) ∧ r.size ≤ n ∧ Below w.heap.size w w'

set_option maxRecDepth 100000 in
set_option maxHeartbeats 1000000 in
theorem edited_any (s : ByteArray) (x y : Nat) (z : UInt8) (w : World) (hs : s.size ≤ 1000) (hx : x ≤ 255) (hy : y ≤ 255) :
    Calls Tryd.prog 25 #[.string s, .agg #[.int .u8 (x : Int), .int .u8 (y : Int), .int .u8 (z.toNat : Int)]] w (RetS w (s.size + 1)) := by
  have hcv : (convert 60 9 (.slice (some ⟨w.heap.size + 1, 0, none⟩) 1 1)).run Tryd.prog ((w.alloc (.cells #[.int .u8 (x : Int), .int .u8 (y : Int), .int .u8 (z.toNat : Int)] 40)).alloc (.cells #[.int .u8 (z.toNat : Int)] 5)) = .ok (.string ⟨#[z]⟩) ((w.alloc (.cells #[.int .u8 (x : Int), .int .u8 (y : Int), .int .u8 (z.toNat : Int)] 40)).alloc (.cells #[.int .u8 (z.toNat : Int)] 5)) :=
    run_convert_bytes_back ((w.alloc (.cells #[.int .u8 (x : Int), .int .u8 (y : Int), .int .u8 (z.toNat : Int)] 40)).alloc (.cells #[.int .u8 (z.toNat : Int)] 5)) 60 9 5 ⟨w.heap.size + 1, 0, none⟩ 1 [z] (by kernel_rfl) (by kernel_rfl) (by kernel_rfl) (by
      intro j hj
      have hj0 : j = 0 := by simp at hj; exact hj
      subst hj0
      have h := World.cell?_alloc_at (w := w.alloc (.cells #[.int .u8 (x : Int), .int .u8 (y : Int), .int .u8 (z.toNat : Int)] 40)) #[.int .u8 (z.toNat : Int)] 5 (w.heap.size + 1) 0 (by simp)
      exact h)
  obtain ⟨i, hi, hil⟩ : ∃ i : Nat, (y : Int) % ((s.size : Int) + 1) = (i : Int) ∧ i ≤ s.size := ⟨y % (s.size + 1), by simp, by have := Nat.mod_lt y (show 0 < s.size + 1 by omega); omega⟩
  have HI := Lib.hid hi
  clear hi
  go_enter Tryd.func25, Tryd.ntmps25
  go_upto_region 3 with fail
  rw [HI.out]
  have X0 := (Box3.new w (.int .u8 (x : Int)) (.int .u8 (y : Int)) (.int .u8 (z.toNat : Int)) 40).alloc (.cells #[.int .u8 (z.toNat : Int)] 5)
  have B0 := ((Below.refl w.heap.size w).alloc (Nat.le_refl _) (.cells #[.int .u8 (x : Int), .int .u8 (y : Int), .int .u8 (z.toNat : Int)] 40)).alloc (by simp) (.cells #[.int .u8 (z.toNat : Int)] 5)
  generalize ((w.alloc (.cells #[.int .u8 (x : Int), .int .u8 (y : Int), .int .u8 (z.toNat : Int)] 40)).alloc (.cells #[.int .u8 (z.toNat : Int)] 5)) = W0 at *
  have a0 := X0.c0
  clear X0 HI
  by_cases h0 : (x : Int) % 3 = 0
  · have e0 : ((x : Int) % 3 == 0) = true := by simpa using h0
    go_upto_region 4 with fail
    refine wp_region_later (by kernel_rfl) (by kernel_rfl) ?_
    repeat (go_big_quiet_step (fail))
    refine wpQuiet_nil ?_
    intro _ hw'
    obtain ⟨q, hw''⟩ := hw'
    subst hw''
    have B1 := B0.trans (q.below.mono B0.size)
    go_wp2_with fail
    go_ret
    exact ⟨_, rfl, by (have hz1 : (ByteArray.mk #[z]).size = 1 := rfl); simp only [ByteArray.size_append, ByteArray.size_extract]; omega, B1⟩
  · have e0 : ((x : Int) % 3 == 0) = false := by simpa using h0
    by_cases h1 : i = s.size
    · have e1 : (i == s.size) = true := by simpa using h1
      go_upto_region 4 with fail
      refine wp_region_later (by kernel_rfl) (by kernel_rfl) ?_
      repeat (go_big_quiet_step (fail))
      refine wpQuiet_nil ?_
      intro _ hw'
      obtain ⟨q, hw''⟩ := hw'
      subst hw''
      have B1 := B0.trans (q.below.mono B0.size)
      go_wp2_with fail
      go_ret
      exact ⟨_, rfl, by (have hz1 : (ByteArray.mk #[z]).size = 1 := rfl); simp only [ByteArray.size_append]; omega, B1⟩
    · have e1 : (i == s.size) = false := by simpa using h1
      have hil2 : i < s.size := by omega
      by_cases h2 : (x : Int) % 3 = 1
      · have e2 : ((x : Int) % 3 == 1) = true := by simpa using h2
        go_upto_region 6 with fail
        refine wp_region_later (by kernel_rfl) (by kernel_rfl) ?_
        repeat (go_big_quiet_step (fail))
        refine wpQuiet_nil ?_
        intro _ hw'
        obtain ⟨q, hw''⟩ := hw'
        subst hw''
        have B1 := B0.trans (q.below.mono B0.size)
        go_wp2_with fail
        go_ret
        exact ⟨_, rfl, by (have hz1 : (ByteArray.mk #[z]).size = 1 := rfl); simp only [ByteArray.size_append, ByteArray.size_extract]; omega, B1⟩
      · have e2 : ((x : Int) % 3 == 1) = false := by simpa using h2
        go_upto_region 7 with fail
        refine wp_region_later (by kernel_rfl) (by kernel_rfl) ?_
        repeat (go_big_quiet_step (fail))
        refine wpQuiet_nil ?_
        intro _ hw'
        obtain ⟨q, hw''⟩ := hw'
        subst hw''
        have B1 := B0.trans (q.below.mono B0.size)
        go_wp2_with fail
        go_ret
        exact ⟨_, rfl, by (have hz1 : (ByteArray.mk #[z]).size = 1 := rfl); simp only [ByteArray.size_append, ByteArray.size_extract]; omega, B1⟩
end Fr
end Go.Proofs.YtcecdmooojkmoaaDoor
