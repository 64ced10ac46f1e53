/- What Text returns. -/
import Derived.Test.YtajpklacaaegcaaGreatDoorP1
import Derived.Laws.Concat
import Derived.Lib.ItoaLen
namespace Go.Proofs.YtajpklacaaegcaaGreatDoor
open Go.RowKit Go.Shelf Go.Sort
namespace Fr
set_option linter.unusedVariables false

/-- The text of a fraction. -/
def textL (n d : Int) : List UInt8 := if d = 1 then Lib.itoa n else Lib.itoa n ++ [47] ++ Lib.itoa d

theorem text_one (n : Int) (w : World) (hn : I64 n) (hv : Vars w) :
    Calls Tryz.prog 24 #[.agg #[.int .i64 n, .int .i64 1]] w fun o w' => o = .returned (.string ⟨(textL n 1).toArray⟩) ∧ Below w.heap.size w w' := by
  have HT := Lib.hid (fun W hW => itoa_any n W hn hW)
  have hV := hv.keep ((Below.refl _ w).alloc (Nat.le_refl _) (.cells #[.int .i64 n, .int .i64 1] 25))
  clear hv
  go_enter Tryz.func24, Tryz.ntmps24
  go_wp2_with fail
  refine (HT.out _ hV).mono ?_
  rintro o w1 ⟨rfl, hb⟩
  go_wp2
  go_ret
  exact ⟨rfl, ((Below.refl _ w).alloc (Nat.le_refl _) _).trans (hb.mono (by simp))⟩

theorem ret_str {a b : ByteArray} (h : a = b) : Ending.returned (.string a) = .returned (.string b) := by rw [h]

theorem text_two (n d : Int) (w : World) (hn : I64 n) (hd : I64 d) (h1 : d ≠ 1) (hv : Vars w) :
    Calls Tryz.prog 24 #[.agg #[.int .i64 n, .int .i64 d]] w fun o w' => o = .returned (.string ⟨(textL n d).toArray⟩) ∧ Below w.heap.size w w' := by
  have hb1 : (d == 1) = false := by simpa using h1
  have a0 := Box2.new w (.int .i64 n) (.int .i64 d) 25
  have B0 := (Below.refl _ w).alloc (Nat.le_refl _) (.cells #[.int .i64 n, .int .i64 d] 25)
  have hV := hv.keep B0
  have HT : Hid (∀ p : Later (w.alloc (.cells #[.int .i64 n, .int .i64 d] 25)), _) := Lib.hid (fun p => itoa_any n p.val hn (hV.keep p.below))
  have HD : Hid (∀ p : Later (w.alloc (.cells #[.int .i64 n, .int .i64 d] 25)), _) := Lib.hid (fun p => itoa_any d p.val hd (hV.keep p.below))
  have HE : Hid (textL n d = Lib.itoa n ++ [47] ++ Lib.itoa d) := Lib.hid (by unfold textL; rw [if_neg h1])
  rw [HE.out]
  have l1 := Lib.itoa_length_le n hn.1 hn.2
  have l2 := Lib.itoa_length_le d hd.1 hd.2
  generalize Lib.itoa n = A at *
  generalize Lib.itoa d = D at *
  have k1 : ∀ w : World, (Op.stringOp .add ⟨A.toArray⟩ ⟨#[47]⟩).run Tryz.prog w = .ok (.string ⟨(A ++ [47]).toArray⟩) w := fun w => run_string_add_lists w A [47] (by omega) (by decide)
  have k2 : ∀ w : World, (Op.stringOp .add ⟨(A ++ [47]).toArray⟩ ⟨D.toArray⟩).run Tryz.prog w = .ok (.string ⟨(A ++ [47] ++ D).toArray⟩) w := fun w => run_string_add_lists w (A ++ [47]) D (by simp; omega) (by omega)
  obtain ⟨B, hB⟩ : ∃ B, A ++ [47] = B := ⟨_, rfl⟩
  rw [hB] at k1 k2 ⊢
  obtain ⟨C, hC⟩ : ∃ C, B ++ D = C := ⟨_, rfl⟩
  rw [hC] at k2 ⊢
  clear hB hC l1 l2 HE
  obtain ⟨x0, x1⟩ := a0.later
  clear hv hV h1 hn hd
  go_enter Tryz.func24, Tryz.ntmps24
  go_wp2_with fail
  refine wp_region_later (by kernel_rfl) (by kernel_rfl) ?_
  repeat (go_big_quiet_step ((first | (go_at_call 51; first | with_reducible exact later_of (HT.out _) | with_reducible exact later_of (HD.out _)))))
  refine wpQuiet_nil ?_
  intro _ hw'
  obtain ⟨q, hw''⟩ := hw'
  subst hw''
  go_wp2_with fail
  go_ret
  exact ⟨rfl, B0.trans (q.below.mono B0.size)⟩

end Fr
end Go.Proofs.YtajpklacaaegcaaGreatDoor
