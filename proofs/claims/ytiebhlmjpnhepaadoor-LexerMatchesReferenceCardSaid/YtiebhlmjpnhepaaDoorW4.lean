/- Signs looked up; the first piece; Kind. -/
import Derived.Test.YtiebhlmjpnhepaaDoorW3
namespace Go.Proofs.YtiebhlmjpnhepaaDoor
open Go.RowKit Sl Fr
namespace Lx
set_option linter.unusedVariables false

theorem tab_get {k : Nat} (hk : k < 23) : tabS[k]? = some (tabS.getD k []) := by
  rw [List.getD_eq_getElem?_getD, List.getElem?_eq_getElem (by rw [tab_len]; exact hk)]
  rfl
def sgnR (R : Nat) : Nat × Nat := if R ≠ 0 then (3, R) else (0, 0)
def SgnAt (s : ByteArray) (R : Nat) (i : Value) : Prop := ∃ k : Nat, k ≤ 23 ∧ i = .int .i64 (k : Int) ∧ sgnFrom (tabS.drop k) (bys s) = R
set_option maxHeartbeats 1000000 in
theorem sign_any (s : ByteArray) (w : World) (hv : Vars w) : Calls Tryd.prog 38 #[.string s] w (GiveP (signP (bys s)) w) := by
  obtain ⟨t, fr, hg⟩ := hv.keep ((Below.refl _ w).alloc (Nat.le_refl _) (.cells #[.int .i64 0, .int .i64 0] 52))
  have HG := Lib.hid hg
  clear hg
  rw [show signP (bys s) = sgnR (sgn (bys s)) by rfl, ← sgn_tab]
  have HR : ∀ R, sgnFrom tabS (bys s) = R → Calls Tryd.prog 38 #[.string s] w (GiveP (sgnR R) w) := by
    intro R hR
    have HH : Hid (sgnFrom (tabS.drop 0) (bys s) = R) := Lib.hid hR
    clear hR
    go_enter Tryd.func38, Tryd.ntmps38
    go_wp2_with (refine wpList_load_row rfl 73 _ rfl 0 rfl t _ fr _ HG.out Tryd.underlying73 rfl (by kernel_rfl) ?_)
    clear HG
    go_loop [6] (SgnAt s R) (fun i => (23 - intOf i).toNat)
    case atStart => exact ⟨0, by omega, rfl, HH.out⟩
    case round =>
      obtain ⟨k, hk, rfl, hr⟩ := hrel
      have HK := Lib.hid hr
      clear hr HH
      by_cases h7 : k < 23
      · have HI := fun W => tab_ix k h7 W
        have h1 : decide ((k : Int) < 23) = true := by simp; omega
        have HF : Hid (tabS[k]? = some (tabS.getD k [])) := Lib.hid (tab_get h7)
        have hne : (tabS.getD k []).length ≠ 0 := by
          have : ∀ j, j < 23 → (tabS.getD j []).length ≠ 0 := by decide
          exact this k h7
        generalize tabS.getD k [] = p at *
        have HP := fun w => prefix_any s ⟨p.toArray⟩ w
        rw [show bys (⟨p.toArray⟩ : ByteArray) = p by simp [bys]] at HP
        have hsz : (⟨p.toArray⟩ : ByteArray).size = p.length := by simp [ByteArray.size]
        cases hp : p.isPrefixOf (bys s)
        · rw [hp] at HP
          have HPP := Lib.hid hp
          clear hp hsz hne
          go_wp2_with (go_at_call 44; refine (HP _).mono ?_; rintro e w' ⟨rfl, rfl⟩)
          exact ⟨⟨k + 1, by omega, by go_num, by have := HK.out; rw [from_drop HF.out, if_neg (by simp [HPP.out])] at this; exact this⟩, by simp [intOf]; omega⟩
        · rw [hp] at HP
          have HPP := Lib.hid hp
          have hlen : p.length = R := by have := HK.out; rw [from_drop HF.out, if_pos HPP.out] at this; exact this
          have HN := Lib.hid hne
          have HL := Lib.hid hlen
          have HZ := Lib.hid hsz
          clear hp hsz hne hlen
          go_wp2_with (go_at_call 44; refine (HP _).mono ?_; rintro e w' ⟨rfl, rfl⟩)
          rw [show sgnR R = (3, R) from if_pos (by have := HN.out; have := HL.out; omega)]
          exact bodyPost_ret (v := .agg #[.int .i64 3, .int .i64 (R : Int)]) (by simp [results, Tryd.results38, go_sem, HL.out]) rfl ⟨rfl, (Below.refl _ w).alloc (Nat.le_refl _) _⟩
      · obtain rfl : k = 23 := by omega
        have h1 : decide (((23 : Nat) : Int) < 23) = false := by decide
        have : R = 0 := HK.out.symm.trans rfl
        subst this
        go_wp2_with fail
        rw [show sgnR 0 = (0, 0) from rfl]
        exact bodyPost_ret (v := .agg #[.int .i64 0, .int .i64 0]) (by simp [results, Tryd.results38, go_sem]) rfl ⟨rfl, (Below.refl _ w).alloc (Nat.le_refl _) _⟩
  exact HR _ rfl

end Lx
end Go.Proofs.YtiebhlmjpnhepaaDoor
