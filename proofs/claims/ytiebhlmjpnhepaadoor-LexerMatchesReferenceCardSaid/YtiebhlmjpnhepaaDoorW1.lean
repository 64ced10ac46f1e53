/- Letters, digits, sets of bytes, spans, names. -/
import Derived.Test.YtiebhlmjpnhepaaDoorM3
import Derived.Test.YtiebhlmjpnhepaaDoorK3
import Derived.Test.YtiebhlmjpnhepaaDoorL7
import Derived.Test.YtiebhlmjpnhepaaDoorL8
import Derived.WalkKit
import Derived.WalkSpells
import Derived.WalkLawsBesides
import Derived.WalkSmall
import Derived.Lib.Hide
import Derived.BigQuiet
import Derived.Outline
import Derived.Deep.AppendLies
import Derived.Deep.CutBlock
import Derived.Deep.LoopGhost
import Derived.Lib.ItoaNum
import Derived.Deep.RegionHeld3
import Derived.Deep.DrawnRows
import Derived.Deep.DeepCutAuto
namespace Go.Proofs.YtiebhlmjpnhepaaDoor
open Go.RowKit Sl Fr
namespace Lx
set_option linter.unusedVariables false

theorem ret_bool {a b : Bool} (h : a = b) : Ending.returned (.bool a) = .returned (.bool b) := by rw [h]
theorem ret_num {a b : Int} (h : a = b) : Ending.returned (.int .i64 a) = .returned (.int .i64 b) := by rw [h]
theorem ret_str {a b : ByteArray} (h : a = b) : Ending.returned (.string a) = .returned (.string b) := by rw [h]
theorem get_lt {α : Type} {l : List α} {j : Nat} {v : α} (h : l[j]? = some v) : j < l.length := (List.getElem?_eq_some_iff.1 h).1
theorem get_ex {α : Type} {l : List α} {j : Nat} (h : j < l.length) : ∃ v, l[j]? = some v := ⟨_, List.getElem?_eq_getElem h⟩
theorem take_snoc {α : Type} {l : List α} {j : Nat} {v : α} (h : l[j]? = some v) : l.take (j + 1) = l.take j ++ [v] := by
  rw [List.take_add_one, h]; rfl
/-- The bytes of a string. -/
def bys (s : ByteArray) : By := s.data.toList
theorem bys_len (s : ByteArray) : (bys s).length = s.size := by simp [bys]
theorem bys_drop {s : ByteArray} {j : Nat} (h : j < s.size) : (bys s).drop j = s[j] :: (bys s).drop (j + 1) := by
  unfold bys
  rw [List.drop_eq_getElem_cons (by simpa using h)]; rfl
theorem bys_get {s : ByteArray} {j : Nat} (h : j < s.size) : (bys s)[j]? = some s[j] := by
  unfold bys
  rw [List.getElem?_eq_getElem (by simpa using h)]; rfl
theorem bys_ext {s t : ByteArray} (h : bys s = bys t) : s = t := by
  cases s with | mk a => cases t with | mk b =>
    simp only [bys] at h
    rw [Array.toList_inj.1 h]
theorem bys_extract (s : ByteArray) (i j : Nat) : bys (s.extract i j) = ((bys s).take j).drop i := by
  unfold bys
  simp [ByteArray.data_extract, Array.toList_extract, List.extract_eq_take_drop, List.drop_take]

theorem isLetter_any (c : UInt8) (w : World) : Calls Tryd.prog 49 #[.int .u8 (c.toNat : Int)] w fun e w' => e = .returned (.bool (isL c)) ∧ w = w' := by
  by_cases h0 : 97 ≤ (c.toNat : Int)
  · by_cases h1 : (c.toNat : Int) ≤ 122
    · rw [show isL c = true by simp [isL]; omega]
      go_enter Tryd.func49, Tryd.ntmps49
      go_wp2
      go_ret
      exact ⟨rfl, rfl⟩
    · rw [show isL c = false by simp [isL]; omega]
      go_enter Tryd.func49, Tryd.ntmps49
      go_wp2
      go_ret
      exact ⟨rfl, rfl⟩
  · rw [show isL c = false by simp [isL]; omega]
    go_enter Tryd.func49, Tryd.ntmps49
    go_wp2
    go_ret
    exact ⟨rfl, rfl⟩
theorem isDigit_any (c : UInt8) (w : World) : Calls Tryd.prog 50 #[.int .u8 (c.toNat : Int)] w fun e w' => e = .returned (.bool (isD c)) ∧ w = w' := by
  by_cases h0 : 48 ≤ (c.toNat : Int)
  · by_cases h1 : (c.toNat : Int) ≤ 57
    · rw [show isD c = true by simp [isD]; omega]
      go_enter Tryd.func50, Tryd.ntmps50
      go_wp2
      go_ret
      exact ⟨rfl, rfl⟩
    · rw [show isD c = false by simp [isD]; omega]
      go_enter Tryd.func50, Tryd.ntmps50
      go_wp2
      go_ret
      exact ⟨rfl, rfl⟩
  · rw [show isD c = false by simp [isD]; omega]
    go_enter Tryd.func50, Tryd.ntmps50
    go_wp2
    go_ret
    exact ⟨rfl, rfl⟩
theorem eq_int (c : UInt8) (d : UInt8) : (c == d) = ((c.toNat : Int) == (d.toNat : Int)) := by
  rw [Bool.eq_iff_iff]
  simp only [beq_iff_eq]
  constructor
  · intro h; rw [h]
  · intro h; exact UInt8.toNat_inj.1 (by omega)
theorem notLf_any (c : UInt8) (w : World) : Calls Tryd.prog 46 #[.int .u8 (c.toNat : Int)] w fun e w' => e = .returned (.bool (notLf c)) ∧ w = w' := by
  have h := eq_int c 10
  rw [show notLf c = !(c == 10) by simp [notLf, bne], h]
  clear h
  go_enter Tryd.func46, Tryd.ntmps46
  go_wp2
  go_ret
  exact ⟨rfl, rfl⟩
theorem isSp_any (c : UInt8) (w : World) : Calls Tryd.prog 47 #[.int .u8 (c.toNat : Int)] w fun e w' => e = .returned (.bool (isSp c)) ∧ w = w' := by
  have h := eq_int c 10
  have h' := eq_int c 32
  rw [show isSp c = (c == 32 || c == 10) by rfl, h, h']
  clear h h'
  have e : ((32 : UInt8).toNat : Int) = 32 := rfl
  have e' : ((10 : UInt8).toNat : Int) = 10 := rfl
  rw [e, e']
  clear e e'
  cases h0 : ((c.toNat : Int) == 32)
  · go_enter Tryd.func47, Tryd.ntmps47
    go_wp2
    go_ret
    exact ⟨rfl, rfl⟩
  · go_enter Tryd.func47, Tryd.ntmps47
    go_wp2
    go_ret
    exact ⟨rfl, rfl⟩
theorem isWd_any (c : UInt8) (w : World) : Calls Tryd.prog 48 #[.int .u8 (c.toNat : Int)] w fun e w' => e = .returned (.bool (isWd c)) ∧ w = w' := by
  have hl := fun w => isLetter_any c w
  have hd := fun w => isDigit_any c w
  rw [show isWd c = (isL c || isD c) by rfl]
  cases h0 : isL c
  · rw [h0] at hl
    go_enter Tryd.func48, Tryd.ntmps48
    go_wp2_with (first | (go_at_call 49; refine (hl _).mono ?_; rintro e w' ⟨rfl, rfl⟩) | (go_at_call 50; refine (hd _).mono ?_; rintro e w' ⟨rfl, rfl⟩))
    go_ret
    exact ⟨rfl, rfl⟩
  · rw [h0] at hl
    go_enter Tryd.func48, Tryd.ntmps48
    go_wp2_with (first | (go_at_call 49; refine (hl _).mono ?_; rintro e w' ⟨rfl, rfl⟩) | (go_at_call 50; refine (hd _).mono ?_; rintro e w' ⟨rfl, rfl⟩))
    go_ret
    exact ⟨rfl, rfl⟩

/-- A function of a byte. -/
def SetF (f : FuncId) (p : UInt8 → Bool) : Prop := (∀ args w, (callFunc f args).run Tryd.prog w = .ok (.enter f args) w) ∧ ∀ (c : UInt8) (w : World), Calls Tryd.prog f #[.int .u8 (c.toNat : Int)] w fun e w' => e = .returned (.bool (p c)) ∧ w = w'
theorem span_any (f : FuncId) (p : UInt8 → Bool) (h : SetF f p) (s : ByteArray) (w : World) (hs : s.size ≤ 281474976710656) :
    Calls Tryd.prog 45 #[.string s, .func (.func f) #[] #[]] w fun e w' => e = .returned (.int .i64 (span p (bys s) : Nat)) ∧ w = w' := by
  obtain ⟨hf, hc⟩ := h
  obtain ⟨R, hR⟩ : ∃ R, span p (bys s) = R := ⟨_, rfl⟩
  rw [hR]
  have HR := Lib.hid hR
  clear hR
  go_enter Tryd.func45, Tryd.ntmps45
  go_wp2
  go_loop [5] (fun i => ∃ k : Nat, k ≤ s.size ∧ i = .int .i64 k ∧ k + span p ((bys s).drop k) = R) (fun i => s.size - (intOf i).toNat)
  case atStart => exact ⟨0, Nat.zero_le _, rfl, by rw [List.drop_zero, HR.out]; omega⟩
  case round =>
    obtain ⟨k, hk, rfl, hall⟩ := hrel
    have HG := Lib.hid hall
    clear hall
    by_cases hlt : k < s.size
    · have hd := bys_drop hlt
      have HC := Lib.hid (fun w => hc s[k] w)
      have HD := Lib.hid hd
      clear hd hc
      generalize hcc : s[k] = c at *
      have HCC := Lib.hid hcc
      cases hw : p c
      · rw [hw] at HC
        have HW := Lib.hid hw
        clear hw
        go_wp2_with (refine (HC.out _).mono ?_; rintro e w' ⟨rfl, rfl⟩)
        go_ret
        refine ⟨?_, rfl⟩
        refine ret_num ?_
        have := HG.out
        rw [HD.out, span_no HW.out] at this
        omega
      · rw [hw] at HC
        have HW := Lib.hid hw
        clear hw
        go_wp2_with (refine (HC.out _).mono ?_; rintro e w' ⟨rfl, rfl⟩)
        exact ⟨⟨k + 1, by omega, by go_num, by have := HG.out; rw [HD.out, span_yes HW.out] at this; omega⟩, by simp [intOf]; omega⟩
    · go_wp2
      go_ret
      refine ⟨?_, rfl⟩
      have := HG.out
      rw [List.drop_of_length_le (by rw [bys_len]; omega)] at this
      exact ret_num (by rw [span_nil] at this; omega)
theorem set_lf : SetF 46 notLf := ⟨fun args w => rfl, notLf_any⟩
theorem set_sp : SetF 47 isSp := ⟨fun args w => rfl, isSp_any⟩
theorem set_wd : SetF 48 isWd := ⟨fun args w => rfl, isWd_any⟩

end Lx
end Go.Proofs.YtiebhlmjpnhepaaDoor
