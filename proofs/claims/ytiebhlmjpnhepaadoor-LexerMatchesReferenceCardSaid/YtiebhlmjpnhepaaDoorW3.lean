/- White space, words, signs; the first piece; Kind. -/
import Derived.Test.YtiebhlmjpnhepaaDoorW2
namespace Go.Proofs.YtiebhlmjpnhepaaDoor
open Go.RowKit Sl Fr
namespace Lx
set_option linter.unusedVariables false

theorem cm_pre (l : By) : ([47, 47] : By).isPrefixOf l = isCm l := by
  cases l with
  | nil => rfl
  | cons c r =>
    rw [Bool.eq_iff_iff, cm_iff]
    cases r with
    | nil => simp [List.isPrefixOf]
    | cons d r =>
      simp only [List.isPrefixOf, Bool.and_true, Bool.and_eq_true, beq_iff_eq, List.head?_cons]
      exact ⟨fun h => ⟨h.1.symm, by rw [h.2]⟩, fun h => ⟨h.1.symm, (Option.some.inj h.2).symm⟩⟩
/-- A piece is given back. -/
def GiveP (p : Nat × Nat) (w : World) (e : Ending) (w' : World) : Prop := e = .returned (.agg #[.int .i64 (p.1 : Int), .int .i64 (p.2 : Int)]) ∧ Below w.heap.size w w'

theorem space_any (s : ByteArray) (w : World) (hs : s.size ≤ 281474976710656) : Calls Tryd.prog 36 #[.string s] w (GiveP (0, sp1 (bys s)) w) := by
  have HP := fun w => prefix_any s ⟨#[47, 47]⟩ w
  rw [show bys (⟨#[47, 47]⟩ : ByteArray) = [47, 47] by rfl, cm_pre] at HP
  unfold sp1
  cases h : isCm (bys s)
  · rw [if_neg (by simp)]
    rw [h] at HP
    have HS := fun w => span_any _ _ set_sp s w hs
    have hle := span_le isSp (bys s)
    rw [bys_len] at hle
    generalize span isSp (bys s) = n at *
    clear h
    go_enter Tryd.func36, Tryd.ntmps36
    go_wp2_with (first | (go_at_call 44; refine (HP _).mono ?_; rintro e w' ⟨rfl, rfl⟩) | (go_at_call 45; refine (HS _).mono ?_; rintro e w' ⟨rfl, rfl⟩))
    exact bodyPost_ret (v := .agg #[.int .i64 0, .int .i64 (n : Int)]) (by simp [results, Tryd.results36, go_sem]) rfl ⟨rfl, (Below.refl _ w).alloc (Nat.le_refl _) _⟩
  · rw [if_pos (by simp)]
    rw [h] at HP
    have HS := fun w => span_any _ _ set_lf s w hs
    have hle := span_le notLf (bys s)
    rw [bys_len] at hle
    generalize span notLf (bys s) = n at *
    clear h
    go_enter Tryd.func36, Tryd.ntmps36
    go_wp2_with (first | (go_at_call 44; refine (HP _).mono ?_; rintro e w' ⟨rfl, rfl⟩) | (go_at_call 45; refine (HS _).mono ?_; rintro e w' ⟨rfl, rfl⟩))
    exact bodyPost_ret (v := .agg #[.int .i64 0, .int .i64 (n : Int)]) (by simp [results, Tryd.results36, go_sem]) rfl ⟨rfl, (Below.refl _ w).alloc (Nat.le_refl _) _⟩

theorem wkind_name {l : By} (h : isName l = true) : wkind l = 1 := by unfold wkind; rw [if_pos h]
theorem wkind_num {l : By} (h : isName l = false) (h2 : isNum l = true) : wkind l = 2 := by unfold wkind; rw [if_neg (by simp [h]), if_pos h2]
theorem wkind_no {l : By} (h : isName l = false) (h2 : isNum l = false) : wkind l = 0 := by unfold wkind; rw [if_neg (by simp [h]), if_neg (by simp [h2])]
theorem bys_take (s : ByteArray) (n : Nat) : bys (s.extract 0 n) = (bys s).take n := by rw [bys_extract, List.drop_zero]
theorem word_any (s : ByteArray) (w : World) (hs : s.size ≤ 281474976710656) : Calls Tryd.prog 37 #[.string s] w (GiveP (wordP (bys s)) w) := by
  have HS := fun w => span_any _ _ set_wd s w hs
  unfold wordP
  have hle := span_le isWd (bys s)
  rw [bys_len] at hle
  generalize span isWd (bys s) = n at *
  have e := bys_take s n
  rw [← e]
  have HN := fun w => isName_any (s.extract 0 n) w
  have HM := fun w => isNumber_any (s.extract 0 n) w (by rw [ByteArray.size_extract]; omega)
  clear e
  have c1 : (0 : Int) ≤ ↑n := by omega
  have c2 : (↑n : Int) ≤ ↑s.size := by omega
  cases h1 : isName (bys (s.extract 0 n))
  · cases h2 : isNum (bys (s.extract 0 n))
    · rw [wkind_no h1 h2, if_neg (by simp)]
      rw [h1] at HN
      rw [h2] at HM
      clear h1 h2
      go_enter Tryd.func37, Tryd.ntmps37
      go_wp2_with (first | (go_at_call 45; refine (HS _).mono ?_; rintro e w' ⟨rfl, rfl⟩) | (go_at_call 51; refine (HN _).mono ?_; rintro e w' ⟨rfl, rfl⟩) | (go_at_call 52; refine (HM _).mono ?_; rintro e w' ⟨rfl, rfl⟩))
      exact bodyPost_ret (v := .agg #[.int .i64 0, .int .i64 0]) (by simp [results, Tryd.results37, go_sem]) rfl ⟨rfl, (Below.refl _ w).alloc (Nat.le_refl _) _⟩
    · rw [wkind_num h1 h2, if_pos (by simp)]
      rw [h1] at HN
      rw [h2] at HM
      clear h1 h2
      go_enter Tryd.func37, Tryd.ntmps37
      go_wp2_with (first | (go_at_call 45; refine (HS _).mono ?_; rintro e w' ⟨rfl, rfl⟩) | (go_at_call 51; refine (HN _).mono ?_; rintro e w' ⟨rfl, rfl⟩) | (go_at_call 52; refine (HM _).mono ?_; rintro e w' ⟨rfl, rfl⟩))
      exact bodyPost_ret (v := .agg #[.int .i64 2, .int .i64 (n : Int)]) (by simp [results, Tryd.results37, go_sem]) rfl ⟨rfl, (Below.refl _ w).alloc (Nat.le_refl _) _⟩
  · rw [wkind_name h1, if_pos (by simp)]
    rw [h1] at HN
    clear h1 HM
    go_enter Tryd.func37, Tryd.ntmps37
    go_wp2_with (first | (go_at_call 45; refine (HS _).mono ?_; rintro e w' ⟨rfl, rfl⟩) | (go_at_call 51; refine (HN _).mono ?_; rintro e w' ⟨rfl, rfl⟩))
    exact bodyPost_ret (v := .agg #[.int .i64 1, .int .i64 (n : Int)]) (by simp [results, Tryd.results37, go_sem]) rfl ⟨rfl, (Below.refl _ w).alloc (Nat.le_refl _) _⟩

/-- The package variable that the functions read holds what it was laid with. -/
def strV (l : By) : Value := .string ⟨l.toArray⟩
def Vars (w : World) : Prop := ∃ t fr, w.heap[0]? = some (.cells (tabS.map strV).toArray t fr)
theorem Vars.keep {w w' : World} (h : Vars w) (hb : Below w.heap.size w w') : Vars w' := by
  obtain ⟨t, fr, h⟩ := h
  refine ⟨t, fr, ?_⟩
  have hlt : 0 < w.heap.size := by
    rcases Nat.lt_or_ge 0 w.heap.size with h' | h'
    · exact h'
    · rw [Array.getElem?_eq_none h'] at h; cases h
  rw [hb.block _ hlt]
  exact h
theorem tab_len : tabS.length = 23 := rfl
theorem tab_ix (k : Nat) (hk : k < 23) (w : World) : (Instr.index 73 (.agg (tabS.map strV).toArray) (.int .i64 (k : Int))).run Tryd.prog w = .ok (.string ⟨(tabS.getD k []).toArray⟩) w := by
  rcases (by omega : k = 0 ∨ k = 1 ∨ k = 2 ∨ k = 3 ∨ k = 4 ∨ k = 5 ∨ k = 6 ∨ k = 7 ∨ k = 8 ∨ k = 9 ∨ k = 10 ∨ k = 11 ∨ k = 12 ∨ k = 13 ∨ k = 14 ∨ k = 15 ∨ k = 16 ∨ k = 17 ∨ k = 18 ∨ k = 19 ∨ k = 20 ∨ k = 21 ∨ k = 22) with rfl | rfl | rfl | rfl | rfl | rfl | rfl | rfl | rfl | rfl | rfl | rfl | rfl | rfl | rfl | rfl | rfl | rfl | rfl | rfl | rfl | rfl | rfl <;> kernel_rfl
theorem from_drop {t : List By} {k : Nat} {s : By} (h : t[k]? = some s) (l : By) : sgnFrom (t.drop k) l = if s.isPrefixOf l then s.length else sgnFrom (t.drop (k + 1)) l := by
  have hk := get_lt h
  have e : t[k] = s := (List.getElem?_eq_some_iff.1 h).2
  rw [List.drop_eq_getElem_cons hk, e]
  rfl

end Lx
end Go.Proofs.YtiebhlmjpnhepaaDoor
