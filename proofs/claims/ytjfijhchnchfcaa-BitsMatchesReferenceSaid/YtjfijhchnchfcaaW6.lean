/- What the functions of the table give; Width. -/
import Derived.Test.YtjfijhchnchfcaaW5
import Derived.Laws.EntriesVeiled
import Derived.Shelf.Abstract
namespace Go.Proofs.Ytjfijhchnchfcaa
open Go.RowKit Sl Fr
namespace Bt
set_option linter.unusedVariables false
set_option linter.unusedSimpArgs false

def wF (op : Nat) : FuncId := match op with
  | 1 => 36
  | 2 => 38
  | 3 => 38
  | 4 => 38
  | 5 => 38
  | 6 => 38
  | 7 => 38
  | 8 => 45
  | 9 => 45
  | 10 => 48
  | 11 => 51
  | 12 => 53
  | _ => 55
def vF (op : Nat) : FuncId := match op with
  | 1 => 37
  | 2 => 39
  | 3 => 40
  | 4 => 41
  | 5 => 42
  | 6 => 43
  | 7 => 44
  | 8 => 46
  | 9 => 47
  | 10 => 49
  | 11 => 52
  | 12 => 54
  | _ => 56
theorem ops13 {op : Nat} (h : 1 ≤ op ∧ op ≤ 13) : op = 1 ∨ op = 2 ∨ op = 3 ∨ op = 4 ∨ op = 5 ∨ op = 6 ∨ op = 7 ∨ op = 8 ∨ op = 9 ∨ op = 10 ∨ op = 11 ∨ op = 12 ∨ op = 13 := by omega
theorem op_ix (op : Nat) (h : 1 ≤ op ∧ op ≤ 13) (w : World) : (Instr.index 59 (.agg opsV) (.int .i64 (op : Int))).run Try.prog w = .ok (.agg #[.int .i64 (arity op : Int), .func (.func (wF op)) #[] #[], .func (.func (vF op)) #[] #[]]) w := by
  rcases ops13 h with rfl | rfl | rfl | rfl | rfl | rfl | rfl | rfl | rfl | rfl | rfl | rfl | rfl <;> kernel_rfl
theorem wF_enters (op : Nat) (h : 1 ≤ op ∧ op ≤ 13) (args : Array Value) (w : World) : (callFunc (wF op) args).run Try.prog w = .ok (.enter (wF op) args) w := by
  rcases ops13 h with rfl | rfl | rfl | rfl | rfl | rfl | rfl | rfl | rfl | rfl | rfl | rfl | rfl
  · exact enters_of Try.func36 (by kernel_rfl) rfl args w
  · exact enters_of Try.func38 (by kernel_rfl) rfl args w
  · exact enters_of Try.func38 (by kernel_rfl) rfl args w
  · exact enters_of Try.func38 (by kernel_rfl) rfl args w
  · exact enters_of Try.func38 (by kernel_rfl) rfl args w
  · exact enters_of Try.func38 (by kernel_rfl) rfl args w
  · exact enters_of Try.func38 (by kernel_rfl) rfl args w
  · exact enters_of Try.func45 (by kernel_rfl) rfl args w
  · exact enters_of Try.func45 (by kernel_rfl) rfl args w
  · exact enters_of Try.func48 (by kernel_rfl) rfl args w
  · exact enters_of Try.func51 (by kernel_rfl) rfl args w
  · exact enters_of Try.func53 (by kernel_rfl) rfl args w
  · exact enters_of Try.func55 (by kernel_rfl) rfl args w
theorem vF_enters (op : Nat) (h : 1 ≤ op ∧ op ≤ 13) (args : Array Value) (w : World) : (callFunc (vF op) args).run Try.prog w = .ok (.enter (vF op) args) w := by
  rcases ops13 h with rfl | rfl | rfl | rfl | rfl | rfl | rfl | rfl | rfl | rfl | rfl | rfl | rfl
  · exact enters_of Try.func37 (by kernel_rfl) rfl args w
  · exact enters_of Try.func39 (by kernel_rfl) rfl args w
  · exact enters_of Try.func40 (by kernel_rfl) rfl args w
  · exact enters_of Try.func41 (by kernel_rfl) rfl args w
  · exact enters_of Try.func42 (by kernel_rfl) rfl args w
  · exact enters_of Try.func43 (by kernel_rfl) rfl args w
  · exact enters_of Try.func44 (by kernel_rfl) rfl args w
  · exact enters_of Try.func46 (by kernel_rfl) rfl args w
  · exact enters_of Try.func47 (by kernel_rfl) rfl args w
  · exact enters_of Try.func49 (by kernel_rfl) rfl args w
  · exact enters_of Try.func52 (by kernel_rfl) rfl args w
  · exact enters_of Try.func54 (by kernel_rfl) rfl args w
  · exact enters_of Try.func56 (by kernel_rfl) rfl args w
theorem isW_in {a : Int} (h : isW a = true) : 1 ≤ a ∧ a ≤ 8 := by simpa [isW] using h
theorem len0 {l : List Int} (h : l.length = 0) : l = [] := List.eq_nil_of_length_eq_zero h
theorem len1 {l : List Int} (h : l.length = 1) : ∃ a, l = [a] := by
  match l, h with
  | [a], _ => exact ⟨a, rfl⟩
theorem len2 {l : List Int} (h : l.length = 2) : ∃ a b, l = [a, b] := by
  match l, h with
  | [a, b], _ => exact ⟨a, b, rfl⟩
theorem len3 {l : List Int} (h : l.length = 3) : ∃ a b c, l = [a, b, c] := by
  match l, h with
  | [a, b, c], _ => exact ⟨a, b, c, rfl⟩
/-- What the table's function for the width does. -/
theorem wF_any (op : Nat) (h : 1 ≤ op ∧ op ≤ 13) (A : Option Addr) (c : Nat) (ws : List Int) (k n : Int) (w : World) (hA : ArrI w A ws) (hl : ws.length = arity op) (hw : ws.all isW = true) (hn : -9223372036854775808 ≤ n ∧ n ≤ 9223372036854775807) :
    ∃ r, Gives op ws k n r ∧ ∀ V, Below w.heap.size w V → Calls Try.prog (wF op) #[.agg #[.slice A ws.length c, .int .i64 k, .int .i64 n]] V fun e w' => e = .returned (.int .i64 r) ∧ Below V.heap.size V w' := by
  rcases ops13 h with rfl | rfl | rfl | rfl | rfl | rfl | rfl | rfl | rfl | rfl | rfl | rfl | rfl
  · obtain rfl := len0 hl
    refine ⟨_, Gives.refl _ _ _ _, fun V hV => ?_⟩
    have := constant_any A 0 c k n V
    have e : (if isV k n then n else 0) = raw 1 [] k n := by
      show _ = (if 0 ≤ k ∧ k ≤ mask n then n else 0)
      simp only [isV, decide_eq_true_eq]
    rw [e] at this
    exact this
  · obtain ⟨a, rfl⟩ := len1 hl
    simp only [List.all_cons, List.all_nil, Bool.and_true, Bool.and_eq_true] at hw
    exact ⟨a, Gives.refl 2 [a] k n, fun V hV => common1 A c a k n V (hA.keep hV)⟩
  · obtain ⟨a, b, rfl⟩ := len2 hl
    simp only [List.all_cons, List.all_nil, Bool.and_true, Bool.and_eq_true] at hw
    exact ⟨_, Gives.refl 3 [a, b] k n, fun V hV => common2 A c a b k n V (hA.keep hV)⟩
  · obtain ⟨a, b, rfl⟩ := len2 hl
    simp only [List.all_cons, List.all_nil, Bool.and_true, Bool.and_eq_true] at hw
    exact ⟨_, Gives.refl 4 [a, b] k n, fun V hV => common2 A c a b k n V (hA.keep hV)⟩
  · obtain ⟨a, b, rfl⟩ := len2 hl
    simp only [List.all_cons, List.all_nil, Bool.and_true, Bool.and_eq_true] at hw
    exact ⟨_, Gives.refl 5 [a, b] k n, fun V hV => common2 A c a b k n V (hA.keep hV)⟩
  · obtain ⟨a, b, rfl⟩ := len2 hl
    simp only [List.all_cons, List.all_nil, Bool.and_true, Bool.and_eq_true] at hw
    exact ⟨_, Gives.refl 6 [a, b] k n, fun V hV => common2 A c a b k n V (hA.keep hV)⟩
  · obtain ⟨a, b, rfl⟩ := len2 hl
    simp only [List.all_cons, List.all_nil, Bool.and_true, Bool.and_eq_true] at hw
    exact ⟨_, Gives.refl 7 [a, b] k n, fun V hV => common2 A c a b k n V (hA.keep hV)⟩
  · obtain ⟨a, b, rfl⟩ := len2 hl
    simp only [List.all_cons, List.all_nil, Bool.and_true, Bool.and_eq_true] at hw
    exact ⟨_, Gives.refl 8 [a, b] k n, fun V hV => compared_any A c a b k n V (hA.keep hV) (isW_in hw.1).1⟩
  · obtain ⟨a, b, rfl⟩ := len2 hl
    simp only [List.all_cons, List.all_nil, Bool.and_true, Bool.and_eq_true] at hw
    exact ⟨_, Gives.refl 9 [a, b] k n, fun V hV => compared_any A c a b k n V (hA.keep hV) (isW_in hw.1).1⟩
  · obtain ⟨a, b, d, rfl⟩ := len3 hl
    simp only [List.all_cons, List.all_nil, Bool.and_true, Bool.and_eq_true] at hw
    exact ⟨_, Gives.refl 10 [a, b, d] k n, fun V hV => chosenW_any A c a b d k n V (hA.keep hV)⟩
  · obtain ⟨a, b, rfl⟩ := len2 hl
    simp only [List.all_cons, List.all_nil, Bool.and_true, Bool.and_eq_true] at hw
    exact ⟨_, Gives.refl 11 [a, b] k n, fun V hV => joined_any A c a b k n V (hA.keep hV) (isW_in hw.1) (isW_in hw.2)⟩
  · obtain ⟨a, rfl⟩ := len1 hl
    simp only [List.all_cons, List.all_nil, Bool.and_true, Bool.and_eq_true] at hw
    exact ⟨_, sliced_gives a k n (isW_in hw) hn, fun V hV => slicedW_any A c a k n V (hA.keep hV) (isW_in hw)⟩
  · obtain ⟨a, rfl⟩ := len1 hl
    simp only [List.all_cons, List.all_nil, Bool.and_true, Bool.and_eq_true] at hw
    exact ⟨_, Gives.refl 13 [a] k n, fun V hV => extendedW_any A c a k n V (hA.keep hV)⟩

theorem wid_bad {op : Nat} {ws : List Int} {k n : Int} (h : ¬ ws.length = arity op) (h1 : 1 ≤ op ∧ op ≤ 13) : wid op ws k n = 0 := by
  have hr : raw op ws k n = 0 := by
    rcases ops13 h1 with rfl | rfl | rfl | rfl | rfl | rfl | rfl | rfl | rfl | rfl | rfl | rfl | rfl <;> rcases ws with _ | ⟨a, _ | ⟨b, _ | ⟨d, _ | ⟨e, ws⟩⟩⟩⟩ <;> first | rfl | exact absurd rfl h
  unfold wid
  rw [Int.toNat_natCast, hr]
  simp
theorem wid_not {op : Int} {ws : List Int} {k n : Int} (h : ws.all isW = false) : wid op ws k n = 0 := by
  unfold wid
  rw [h]; rfl
theorem wid_out {op : Int} {ws : List Int} {k n : Int} (h : ¬ (1 ≤ op ∧ op ≤ 13)) : wid op ws k n = 0 := by
  have hr : raw op.toNat ws k n = 0 := by
    unfold raw
    split <;> first | rfl | (exfalso; omega)
  unfold wid
  rw [hr]
  simp

theorem operator_size : (Try.prog.info? 58).map (·.size) = some 3 := by kernel_rfl
theorem width_out (op : Int) (S : Value) (ws : List Int) (k n : Int) (w : World) (h : ¬ (1 ≤ op ∧ op ≤ 13)) :
    Calls Try.prog 10 #[.int .i64 op, S, .agg #[.int .i64 k, .int .i64 n]] w fun e w' => e = .returned (.tuple #[.int .i64 (wid op ws k n), .int .i64 (err (wid op ws k n))]) ∧ Below w.heap.size w w' := by
  rw [wid_out h]
  have hb := (Below.refl w.heap.size w).alloc (Nat.le_refl _) (.cells #[.int .i64 k, .int .i64 n] 23)
  by_cases h1 : op < 1
  · go_enter Try.func10, Try.ntmps10
    go_wp2
    go_ret2
    exact ⟨rfl, hb⟩
  · have h2 : 13 < op := by omega
    go_enter Try.func10, Try.ntmps10
    go_wp2
    go_ret2
    exact ⟨rfl, hb⟩

set_option maxRecDepth 100000 in
set_option maxHeartbeats 1000000 in
theorem width_op (op : Nat) (h : 1 ≤ op ∧ op ≤ 13) (A : Option Addr) (c : Nat) (ws : List Int) (k n : Int) (w : World) (hA : ArrI w A ws) (hlen : ws.length ≤ maxLen) (hn : -9223372036854775808 ≤ n ∧ n ≤ 9223372036854775807) :
    Calls Try.prog 10 #[.int .i64 (op : Int), .slice A ws.length c, .agg #[.int .i64 k, .int .i64 n]] w fun e w' => e = .returned (.tuple #[.int .i64 (wid op ws k n), .int .i64 (err (wid op ws k n))]) ∧ Below w.heap.size w w' := by
  have HI := fun w => op_ix op h w
  have HE := fun args w => wF_enters op h args w
  have HW := Lib.hid (fun h1 h2 => wF_any op h A c ws k n w hA h1 h2 hn)
  have HA := Lib.hid hA
  have HB := Lib.hid (fun h1 => wid_bad (op := op) (ws := ws) (k := k) (n := n) h1 h)
  have HL := Lib.hid hlen
  have HO := Lib.hid operators_any
  have h2 : ¬ ((op : Int) < 1) := by omega
  have h3 : ¬ (13 < (op : Int)) := by omega
  clear hA hlen h hn
  go_enter Try.func10, Try.ntmps10
  go_upto_region 1 with fail
  have hst := start1 w #[.int .i64 k, .int .i64 n] 23
  generalize w.alloc (.cells #[.int .i64 k, .int .i64 n] 23) = W0 at *
  obtain ⟨m0, B0⟩ := hst
  go_upto_region 3 with fail
  clear h2 h3
  generalize opsV = oz at *
  generalize vF op = vf at *
  generalize hwf : wF op = wf at *
  go_wp2_with fail
  refine (HO.out _).mono ?_
  rintro e W2 ⟨rfl, hb⟩
  have B2 := B0.trans (hb.mono B0.size)
  have m2 := m0.keep hb
  go_upto_region 4 with fail
  have m1 := BoxL.new W2 #[.int .i64 (arity op : Int), .func (.func wf) #[] #[], .func (.func vf) #[] #[]] 58
  have hb3 := (Below.refl W2.heap.size W2).alloc (Nat.le_refl _) (.cells #[.int .i64 (arity op : Int), .func (.func wf) #[] #[], .func (.func vf) #[] #[]] 58)
  have B3 := B2.trans (hb3.mono B2.size)
  have m3 := m2.keep hb3
  have hs3 := B2.size
  clear HI HO B0 m0 B2 m2 hb
  generalize W2.alloc (.cells #[.int .i64 (arity op : Int), .func (.func wf) #[] #[], .func (.func vf) #[] #[]] 58) = W3 at *
  clear hb3
  have HM1 := Lib.hid m1
  obtain ⟨c0, c1, c2⟩ := m1.c3
  obtain ⟨k0, k1⟩ := m3.c2
  have lt1 := m1.lt
  have lt3 := m3.lt
  clear m1
  by_cases hl : ws.length = arity op
  · have e1 : ((ws.length : Int) != (arity op : Int)) = false := by simp; exact_mod_cast hl
    have e2 : ((ws.length : Int) == (arity op : Int)) = true := by simp; exact_mod_cast hl
    have HW2 := Lib.hid (HW.out hl)
    have HQ := Lib.hid (fun W hW => areWidths_any A ws c W (HA.out.keep hW) HL.out)
    clear HB HW HA HL hl
    have HWN := Lib.hid (fun h => wid_not (op := (op : Int)) (ws := ws) (k := k) (n := n) h)
    have HWD : Hid (wid (op : Int) ws k n = if ws.all isW && isW (raw op ws k n) then raw op ws k n else 0) := Lib.hid rfl
    generalize ws.all isW = q at *
    have hq := HQ.out W3 B3
    generalize (arity op : Int) = ar at *
    cases q
    · have HZ := Lib.hid (HWN.out rfl)
      clear HWN HWD HW2 HQ
      go_wp2_with fail
      refine hq.mono ?_
      rintro e w' ⟨rfl, rfl⟩
      go_wp2_with fail
      go_ret2
      refine ⟨?_, B3⟩
      rw [HZ.out]
      rfl
    · obtain ⟨r, hg, hr⟩ := HW2.out rfl
      have HG := Lib.hid hg
      have HR := Lib.hid (hr W3 B3)
      clear HWN HW2 HQ hg hr
      go_wp2_with fail
      refine hq.mono ?_
      rintro e w' ⟨rfl, rfl⟩
      go_wp2_with fail
      refine HR.out.mono ?_
      rintro e W4 ⟨rfl, hb4⟩
      have hm := fun w => isWidth_any r w
      have B4 := B3.trans (hb4.mono B3.size)
      have HF : Hid (wid (op : Int) ws k n = (if isW r then r else 0)) := Lib.hid (by
        rw [HWD.out, HG.out.1]
        cases hx : isW (raw op ws k n) with
        | false => simp
        | true => simpa using (HG.out.2 (HG.out.1.trans hx)).symm)
      clear HWD HR hb4
      generalize hiw : isW r = q at *
      cases q
      · go_wp2_with fail
        refine (hm _).mono ?_
        rintro e w' ⟨rfl, rfl⟩
        go_wp2_with fail
        go_ret2
        refine ⟨?_, B4⟩
        rw [HF.out]
        rfl
      · go_wp2_with fail
        refine (hm _).mono ?_
        rintro e w' ⟨rfl, rfl⟩
        go_wp2_with fail
        go_ret2
        refine ⟨?_, B4⟩
        have hf : wid (op : Int) ws k n = r := HF.out
        have : ¬ r = 0 := by have := isW_in hiw; omega
        rw [hf, show err r = 0 from if_neg this]
        rfl
  · have e1 : ((ws.length : Int) != (arity op : Int)) = true := by simp; exact_mod_cast hl
    have e2 : ((ws.length : Int) == (arity op : Int)) = false := by simp; exact_mod_cast hl
    have HZ := Lib.hid (HB.out hl)
    clear HB HW HA HL hl
    generalize (arity op : Int) = ar at *
    go_wp2_with fail
    go_ret2
    refine ⟨?_, B3⟩
    rw [HZ.out]
    rfl
theorem width_any (op : Int) (A : Option Addr) (c : Nat) (ws : List Int) (k n : Int) (w : World) (hA : ArrI w A ws) (hlen : ws.length ≤ maxLen) (hn : -9223372036854775808 ≤ n ∧ n ≤ 9223372036854775807) :
    Calls Try.prog 10 #[.int .i64 op, .slice A ws.length c, .agg #[.int .i64 k, .int .i64 n]] w fun e w' => e = .returned (.tuple #[.int .i64 (wid op ws k n), .int .i64 (err (wid op ws k n))]) ∧ Below w.heap.size w w' := by
  by_cases h : 1 ≤ op ∧ op ≤ 13
  · obtain ⟨m, rfl⟩ := Int.eq_ofNat_of_zero_le (by omega : 0 ≤ op)
    exact width_op m (by omega) A c ws k n w hA hlen hn
  · exact width_out op _ ws k n w h

end Bt
end Go.Proofs.Ytjfijhchnchfcaa
