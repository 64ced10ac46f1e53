/- The parser in memory; next, skip, accept, refuse, expect. accept, refuse, expect. name, number. What Atoi says of a token's text. Atoi at a token's text; number. -/
import Derived.Test.YtggeepimihhpjaaGreatDoorW4
import Derived.Test.YtggeepimihhpjaaGreatDoorW7
import Derived.WalkSmall
import Derived.WalkLawsBesides
import Derived.Test.YtggeepimihhpjaaGreatDoorP3
import Derived.Lib.AtoiAllCases
import Derived.Lib.AppendIntMem
namespace Go.Proofs.YtggeepimihhpjaaGreatDoor
open Go.RowKit Sl Fr Lx
namespace Sy
set_option linter.unusedVariables false
set_option linter.unusedSimpArgs false

def rsvE : List (By × Value) := reserved.map fun w => (w, .bool true)
def opsE : List (By × Value) := opsT.map fun x => (x.1, .int .i64 x.2)
def itmE : List (By × Value) := [(w_in, .func (.func 86) #[] #[]), (w_out, .func (.func 87) #[] #[]), (w_chan, .func (.func 88) #[] #[]), (w_reg, .func (.func 89) #[] #[]), (w_wire, .func (.func 90) #[] #[]), (w_mem, .func (.func 91) #[] #[]), (w_take, .func (.func 92) #[] #[]), (w_put, .func (.func 93) #[] #[]), (w_inst, .func (.func 94) #[] #[])]
structure PS (w : World) (n pb : Nat) (l : List Tk) : Prop where
  lt : LT l
  txt : ∀ t ∈ l, t.text.length ≤ 8000
  out : ∃ tb o c mR mO mI, BoxL w pb #[.slice (some ⟨tb, o, none⟩) l.length c, .map (some mR), .map (some mO), .map (some mI)] ∧ l.length ≤ c ∧ l.length ≤ 10000 ∧ (tb ≠ pb ∧ mR ≠ pb ∧ mO ≠ pb ∧ mI ≠ pb) ∧ (pb < n ∧ tb < n ∧ mR < n ∧ mO < n ∧ mI < n) ∧ tb < w.heap.size ∧
    (∀ (i : Nat) (t : Tk), l[i]? = some t → w.cell? ⟨tb, o + i * 3, none⟩ = some (.int .i64 (t.kind : Int)) ∧ w.cell? ⟨tb, o + i * 3 + 1, none⟩ = some (.string ⟨t.text.toArray⟩) ∧ w.cell? ⟨tb, o + i * 3 + 2, none⟩ = some (.int .i64 (t.at_ : Int))) ∧
    MapS w mR rsvE ∧ MapS w mO opsE ∧ MapS w mI itmE
theorem PS.grown {w w' : World} {n pb : Nat} {l : List Tk} {row : Option Nat} (h : PS w n pb l) (hg : w.grownBy w' row) (hr : ∀ g, row = some g → n ≤ g) : PS w' n pb l := by
  obtain ⟨h0, hx, tb, o, c, mR, mO, mI, h1, h2, h2', h3, h4, h5, h6, h7, h8, h9⟩ := h
  have ne : ∀ b, b < n → some b ≠ row := fun b hb e => by have := hr b e.symm; omega
  refine ⟨h0, hx, tb, o, c, mR, mO, mI, h1.grown hg (ne _ h4.1), h2, h2', h3, h4, Nat.lt_of_lt_of_le h5 hg.size, fun i t ht => ?_, h7.kept hg (ne _ h4.2.2.1), h8.kept hg (ne _ h4.2.2.2.1), h9.kept hg (ne _ h4.2.2.2.2)⟩
  obtain ⟨a, b, c⟩ := h6 i t ht
  exact ⟨(hg.cell_far ⟨tb, _, none⟩ h5 (ne _ h4.2.1)).trans a, (hg.cell_far ⟨tb, _, none⟩ h5 (ne _ h4.2.1)).trans b, (hg.cell_far ⟨tb, _, none⟩ h5 (ne _ h4.2.1)).trans c⟩
theorem grown_none {w w' : World} {row : Option Nat} (h : w.grownBy w' none) : w.grownBy w' row := ⟨h.os, h.tape, h.output, h.size, fun i hi _ => h.block i hi (by simp)⟩
theorem grown_below {w w' : World} (h : Below w.heap.size w w') : w.grownBy w' none := ⟨h.os, h.tape, h.output, h.size, fun i hi _ => h.block i hi⟩
theorem next_mem {l : List Tk} (h : LT l) : nextT l ∈ l := by rw [h.cons]; exact List.mem_cons_self
theorem next_cons {l : List Tk} (h : LT l) : l[0]? = some (nextT l) := by rw [h.cons]; rfl
def refV (a : Nat) : List PanicEntry := [{ v := .iface 110 (.agg #[.int .i64 (a : Int)]), recovered := false }]
def tkA (t : Tk) : Value := .agg #[.int .i64 (t.kind : Int), .string ⟨t.text.toArray⟩, .int .i64 (t.at_ : Int)]

set_option maxRecDepth 100000 in
theorem next_any (n pb : Nat) (l : List Tk) (w : World) (h : PS w n pb l) :
    Calls Tryz.prog 95 #[.pointer (some ⟨pb, 0, none⟩)] w fun e w' => e = .returned (tkA (nextT l)) ∧ Below w.heap.size w w' := by
  obtain ⟨h0, hx, tb, o, c, mR, mO, mI, h1, h2, h2', h3, h4, h5, h6, h7, h8, h9⟩ := h
  obtain ⟨g0, g1, g2⟩ := h6 0 _ (next_cons h0)
  have hlen : 0 < l.length := List.length_pos_iff.2 h0.ne
  obtain ⟨d0, d1, d2, d3⟩ := h1.c4
  have hlt := h1.lt
  rw [Nat.zero_mul, Nat.add_zero] at g0 g1 g2
  obtain ⟨m0, bA⟩ := start1 w #[.int .i64 0, .string ⟨#[]⟩, .int .i64 0] 49
  have a0 := (bA.cell (p := ⟨tb, o, none⟩) h5).trans g0
  have a1 := (bA.cell (p := ⟨tb, o + 1, none⟩) h5).trans g1
  have a2 := (bA.cell (p := ⟨tb, o + 2, none⟩) h5).trans g2
  have e0 := (bA.cell (p := ⟨pb, 0, none⟩) hlt).trans d0
  have hl0 : (0 : Int) < (l.length : Int) := by omega
  generalize hN : l.length = N at *
  generalize nextT l = t at *
  unfold tkA
  clear h1 h3 h4 h6 h7 h8 h9 h2 h2' h0 d0 d1 d2 d3 g0 g1 g2 hN
  go_enter Tryz.func95, Tryz.ntmps95
  go_upto_region 1 with fail
  generalize w.alloc (.cells #[.int .i64 0, .string ⟨#[]⟩, .int .i64 0] 49) = X at *
  obtain ⟨c0, c1, c2⟩ := m0.c3
  obtain ⟨f0, f1, f2⟩ := m0.f3
  go_wp2_with fail
  have q := m0.s3 (.int .i64 (t.kind : Int)) (.string ⟨t.text.toArray⟩) (.int .i64 (t.at_ : Int))
  obtain ⟨s0, s1, s2⟩ := q.c3
  exact bodyPost_ret (v := .agg #[.int .i64 (t.kind : Int), .string ⟨t.text.toArray⟩, .int .i64 (t.at_ : Int)]) (by simp [results, Tryz.results95, go_sem, s0, s1, s2]) rfl ⟨rfl, below_s3 bA (Nat.le_refl _) _ _ _⟩

theorem grown_set (w : World) (pb i : Nat) (v : Value) : w.grownBy (w.setCell ⟨pb, i, none⟩ v) (some pb) := by
  have h := (Below.refl pb w).setCell (p := ⟨pb, i, none⟩) (Nat.le_refl _) v
  exact ⟨h.os, h.tape, h.output, h.size, fun b hb hne => heap_setCell_other w ⟨pb, i, none⟩ b v (fun e => hne (by rw [e]))⟩
set_option maxRecDepth 100000 in
theorem skip_any (n pb : Nat) (l : List Tk) (w : World) (h : PS w n pb l) (hk : (nextT l).kind ≠ 4) :
    Calls Tryz.prog 163 #[.pointer (some ⟨pb, 0, none⟩)] w fun e w' => e = .returned (.tuple #[]) ∧ PS w' n pb l.tail ∧ w.grownBy w' (some pb) := by
  obtain ⟨h0, hx, tb, o, c, mR, mO, mI, h1, h2, h2', h3, h4, h5, h6, h7, h8, h9⟩ := h
  have hlen : 0 < l.length := List.length_pos_iff.2 h0.ne
  obtain ⟨d0, d1, d2, d3⟩ := h1.c4
  obtain ⟨f0, f1, f2, f3⟩ := h1.f4
  have hlt := h1.lt
  obtain ⟨N, hN⟩ : ∃ N, l.length = N + 1 := ⟨l.length - 1, by omega⟩
  obtain ⟨cc, hcc⟩ : ∃ cc, c = cc + 1 := ⟨c - 1, by omega⟩
  subst hcc
  have hNt : l.tail.length = N := by rw [List.length_tail]; omega
  have hN1 : 1 ≤ N := by have := List.length_pos_iff.2 (taken h0 hk).1.ne; omega
  have hc1 : ¬ cc = 0 := by omega
  have HP : Hid (PS (w.setCell ⟨pb, 0, none⟩ (.slice (some ⟨tb, o + 3, none⟩) N cc)) n pb l.tail) := Lib.hid (by
    have hg := grown_set w pb 0 (.slice (some ⟨tb, o + 3, none⟩) N cc)
    have nb : ∀ b, b ≠ pb → some b ≠ some pb := fun b hb e => hb (Option.some.inj e)
    refine ⟨(taken h0 hk).1, fun t ht => hx t (List.mem_of_mem_tail ht), tb, o + 3, cc, mR, mO, mI, ?_, by omega, by omega, h3, h4, Nat.lt_of_lt_of_le h5 hg.size, fun i t ht => ?_, h7.kept hg (nb _ h3.2.1), h8.kept hg (nb _ h3.2.2.1), h9.kept hg (nb _ h3.2.2.2)⟩
    · have := h1.set1 (i := 0) (by simp) (.slice (some ⟨tb, o + 3, none⟩) N cc)
      rw [hNt]
      simpa using this
    · rw [List.getElem?_tail] at ht
      obtain ⟨a, b, c⟩ := h6 (i + 1) t ht
      rw [show o + (i + 1) * 3 = o + 3 + i * 3 by omega] at a b c
      exact ⟨(hg.cell_far ⟨tb, _, none⟩ h5 (nb _ h3.1)).trans a, (hg.cell_far ⟨tb, _, none⟩ h5 (nb _ h3.1)).trans b, (hg.cell_far ⟨tb, _, none⟩ h5 (nb _ h3.1)).trans c⟩)
  have HG := Lib.hid (grown_set w pb 0 (.slice (some ⟨tb, o + 3, none⟩) N cc))
  rw [hN] at d0
  have hl0 : (1 : Int) ≤ ((N + 1 : Nat) : Int) := by omega
  clear h1 h3 h4 h6 h7 h8 h9 h2 h2' h0 d1 d2 d3 f1 f2 f3 hNt hN hlen
  go_enter Tryz.func163, Tryz.ntmps163
  go_wp2_with fail
  go_end0
  exact ⟨rfl, HP.out, HG.out⟩

end Sy
end Go.Proofs.YtggeepimihhpjaaGreatDoor

namespace Go.Proofs.YtggeepimihhpjaaGreatDoor
open Go.RowKit Sl Fr Lx
namespace Sy
set_option linter.unusedVariables false
set_option linter.unusedSimpArgs false

theorem field_t0 (k a : Int) (x : ByteArray) (w : World) : (Instr.field 49 (.agg #[.int .i64 k, .string x, .int .i64 a]) 0).run Tryz.prog w = .ok (.int .i64 k) w := by kernel_rfl
theorem field_t1 (k a : Int) (x : ByteArray) (w : World) : (Instr.field 49 (.agg #[.int .i64 k, .string x, .int .i64 a]) 1).run Tryz.prog w = .ok (.string x) w := by kernel_rfl
theorem field_t2 (k a : Int) (x : ByteArray) (w : World) : (Instr.field 49 (.agg #[.int .i64 k, .string x, .int .i64 a]) 2).run Tryz.prog w = .ok (.int .i64 a) w := by kernel_rfl
attribute [local go_sem] field_t0 field_t1 field_t2
theorem PS.below {w w' : World} {n pb : Nat} {l : List Tk} (h : PS w n pb l) (hb : Below w.heap.size w w') : PS w' n pb l := h.grown (grown_below hb) (fun g hg => by cases hg)
theorem str_eq (a : By) (z : ByteArray) : ((⟨a.toArray⟩ : ByteArray).toList == z.toList) = decide (a = bys z) := by
  rw [bys_toList, bys_toList]
  show (a == bys z) = _
  by_cases h : a = bys z
  · rw [decide_eq_true h, h]; simp
  · rw [decide_eq_false h]; simpa using h

set_option maxRecDepth 100000 in
theorem accept_any (n pb : Nat) (l : List Tk) (z : ByteArray) (w : World) (h : PS w n pb l) (hz : bys z ≠ []) :
    Calls Tryz.prog 145 #[.pointer (some ⟨pb, 0, none⟩), .string z] w fun e w' => e = .returned (.bool (decide ((nextT l).text = bys z))) ∧ PS w' n pb (if (nextT l).text = bys z then l.tail else l) ∧ w.grownBy w' (some pb) := by
  have HN := Lib.hid (next_any n pb l w h)
  have HS := Lib.hid (fun W (hb : Below w.heap.size w W) hk => skip_any n pb l W (h.below hb) hk)
  have HP := Lib.hid h
  have HK := Lib.hid (fun (he : (nextT l).text = bys z) => h.lt.kind4 (show (nextT l).text ≠ [] by rw [he]; exact hz))
  have hq := str_eq (nextT l).text z
  unfold tkA at HN
  clear h hz
  by_cases he : (nextT l).text = bys z
  · rw [decide_eq_true he] at hq ⊢
    rw [if_pos he]
    have hq2 : ((⟨(nextT l).text.toArray⟩ : ByteArray).toList != z.toList) = false := by unfold bne; rw [hq]; rfl
    have HKK := Lib.hid (HK.out he)
    clear HK he
    generalize (⟨(nextT l).text.toArray⟩ : ByteArray) = tx at *
    go_enter Tryz.func145, Tryz.ntmps145
    go_wp2_with (first
      | (go_at_call 95; with_reducible refine HN.out.mono ?_; rintro e w1 ⟨rfl, hb1⟩)
      | (go_at_call 163; with_reducible refine (HS.out _ hb1 HKK.out).mono ?_; rintro e w2 ⟨rfl, hp2, hg2⟩))
    go_ret
    exact ⟨rfl, hp2, (grown_none (grown_below hb1)).trans hg2⟩
  · rw [decide_eq_false he] at hq ⊢
    rw [if_neg he]
    have hq2 : ((⟨(nextT l).text.toArray⟩ : ByteArray).toList != z.toList) = true := by unfold bne; rw [hq]; rfl
    clear HK he
    generalize (⟨(nextT l).text.toArray⟩ : ByteArray) = tx at *
    go_enter Tryz.func145, Tryz.ntmps145
    go_wp2_with (go_at_call 95; with_reducible refine HN.out.mono ?_; rintro e w1 ⟨rfl, hb1⟩)
    go_ret
    exact ⟨rfl, HP.out.below hb1, grown_none (grown_below hb1)⟩

set_option maxRecDepth 100000 in
theorem refuse_any (n pb : Nat) (l : List Tk) (w : World) (h : PS w n pb l) :
    Calls Tryz.prog 162 #[.pointer (some ⟨pb, 0, none⟩)] w fun e w' => e = .panicked (refV (nextT l).at_) ∧ Below w.heap.size w w' := by
  have HN := Lib.hid (next_any n pb l w h)
  unfold tkA at HN
  clear h
  generalize nextT l = t at *
  go_enter Tryz.func162, Tryz.ntmps162
  go_wp2_with (go_at_call 95; with_reducible refine HN.out.mono ?_; rintro e w1 ⟨rfl, hb1⟩)
  exact ⟨rfl, rfl, hb1⟩

def Gives {α : Type} (n pb : Nat) (l : List Tk) (m : PM α) (V : α → World → Value → Prop) (W : World) (e : Ending) (w' : World) : Prop :=
  W.grownBy w' (some pb) ∧ match m l with
    | .ok x r => ∃ v, e = .returned v ∧ V x w' v ∧ PS w' n pb r
    | .no a => e = .panicked (refV a)
theorem Gives.ok {α : Type} {n pb : Nat} {l r : List Tk} {m : PM α} {V : α → World → Value → Prop} {W w' : World} {e : Ending} {x : α} (h : Gives n pb l m V W e w') (hm : m l = .ok x r) : ∃ v, e = .returned v ∧ V x w' v ∧ PS w' n pb r ∧ W.grownBy w' (some pb) := by
  unfold Gives at h
  rw [hm] at h
  obtain ⟨h1, v, h2, h3, h4⟩ := h
  exact ⟨v, h2, h3, h4, h1⟩
theorem Gives.no {α : Type} {n pb a : Nat} {l : List Tk} {m : PM α} {V : α → World → Value → Prop} {W w' : World} {e : Ending} (h : Gives n pb l m V W e w') (hm : m l = .no a) : e = .panicked (refV a) ∧ W.grownBy w' (some pb) := by
  unfold Gives at h
  rw [hm] at h
  exact ⟨h.2, h.1⟩
theorem Gives.of_ok {α : Type} {n pb : Nat} {l r : List Tk} {m : PM α} {V : α → World → Value → Prop} {W w' : World} {v : Value} {x : α} (hm : m l = .ok x r) (h1 : V x w' v) (h2 : PS w' n pb r) (h3 : W.grownBy w' (some pb)) : Gives n pb l m V W (.returned v) w' := by
  unfold Gives
  rw [hm]
  exact ⟨h3, v, rfl, h1, h2⟩
theorem Gives.of_no {α : Type} {n pb a : Nat} {l : List Tk} {m : PM α} {V : α → World → Value → Prop} {W w' : World} (hm : m l = .no a) (h3 : W.grownBy w' (some pb)) : Gives n pb l m V W (.panicked (refV a)) w' := by
  unfold Gives
  rw [hm]
  exact ⟨h3, rfl⟩
def UnitV : Unit → World → Value → Prop := fun _ _ v => v = .tuple #[]

set_option maxRecDepth 100000 in
theorem expect_any (n pb : Nat) (l : List Tk) (z : ByteArray) (w : World) (h : PS w n pb l) (hz : bys z ≠ []) :
    Calls Tryz.prog 138 #[.pointer (some ⟨pb, 0, none⟩), .string z] w (Gives n pb l (expect (bys z)) UnitV w) := by
  have HA := Lib.hid (accept_any n pb l z w h hz)
  clear hz
  by_cases he : (nextT l).text = bys z
  · rw [decide_eq_true he, if_pos he] at HA
    have HM : Hid (expect (bys z) l = .ok () l.tail) := Lib.hid (by unfold expect; rw [if_pos he])
    clear he h
    go_enter Tryz.func138, Tryz.ntmps138
    go_wp2_with (go_at_call 145; with_reducible refine HA.out.mono ?_; rintro e w1 ⟨rfl, hp, hg⟩)
    go_end0
    exact Gives.of_ok HM.out rfl hp hg
  · rw [decide_eq_false he, if_neg he] at HA
    have HM : Hid (expect (bys z) l = .no (nextT l).at_) := Lib.hid (by unfold expect; rw [if_neg he])
    have HR := Lib.hid (fun W hW => refuse_any n pb l W hW)
    clear he h
    go_enter Tryz.func138, Tryz.ntmps138
    go_wp2_with (first
      | (go_at_call 145; with_reducible refine HA.out.mono ?_; rintro e w1 ⟨rfl, hp, hg⟩)
      | (go_at_call 162; with_reducible refine (HR.out _ hp).mono ?_; rintro e w2 ⟨rfl, hb⟩))
    exact ⟨rfl, Gives.of_no HM.out (hg.trans (grown_none (grown_below hb)))⟩

end Sy
end Go.Proofs.YtggeepimihhpjaaGreatDoor

namespace Go.Proofs.YtggeepimihhpjaaGreatDoor
open Go.RowKit Sl Fr Lx
namespace Sy
set_option linter.unusedVariables false
set_option linter.unusedSimpArgs false
attribute [local go_sem] field_t0 field_t1 field_t2

theorem find_rsv (z : By) : ∀ l : List By, ((findS z (l.map fun w => (w, Value.bool true))).getD (.bool false)) = .bool (decide (z ∈ l))
  | [] => rfl
  | w :: r => by
    rw [List.map_cons, findS]
    by_cases h : w = z
    · rw [if_pos h, decide_eq_true (by rw [h]; simp)]; rfl
    · rw [if_neg h, find_rsv z r]
      congr 1
      rw [decide_eq_decide]
      simp [Ne.symm h]
theorem zero_bool (w : World) : (zeroValue 4).run Tryz.prog w = .ok (.bool false) w := by kernel_rfl
def StrV : By → World → Value → Prop := fun x _ v => v = .string ⟨x.toArray⟩
theorem PS.field1 {w : World} {n pb : Nat} {l : List Tk} (h : PS w n pb l) : ∃ mR, w.cell? ⟨pb, 1, none⟩ = some (.map (some mR)) ∧ MapS w mR rsvE ∧ pb < w.heap.size := by
  obtain ⟨h0, hx, tb, o, c, mR, mO, mI, h1, h2, h2', h3, h4, h5, h6, h7, h8, h9⟩ := h
  exact ⟨mR, h1.c4.2.1, h7, h1.lt⟩
theorem field2_ps {w : World} {n pb : Nat} {l : List Tk} (h : PS w n pb l) : ∃ mO, w.cell? ⟨pb, 2, none⟩ = some (.map (some mO)) ∧ MapS w mO opsE ∧ pb < w.heap.size := by
  obtain ⟨h0, hx, tb, o, c, mR, mO, mI, h1, h2, h2', h3, h4, h5, h6, h7, h8, h9⟩ := h
  exact ⟨mO, h1.c4.2.2.1, h8, h1.lt⟩
theorem field3_ps {w : World} {n pb : Nat} {l : List Tk} (h : PS w n pb l) : ∃ mI, w.cell? ⟨pb, 3, none⟩ = some (.map (some mI)) ∧ MapS w mI itmE ∧ pb < w.heap.size := by
  obtain ⟨h0, hx, tb, o, c, mR, mO, mI, h1, h2, h2', h3, h4, h5, h6, h7, h8, h9⟩ := h
  exact ⟨mI, h1.c4.2.2.2, h9, h1.lt⟩

set_option maxRecDepth 100000 in
set_option maxHeartbeats 1000000 in
theorem name_any (n pb : Nat) (l : List Tk) (w : World) (h : PS w n pb l) :
    Calls Tryz.prog 133 #[.pointer (some ⟨pb, 0, none⟩)] w (Gives n pb l nameP StrV w) := by
  have HN := Lib.hid (next_any n pb l w h)
  have HS := Lib.hid (fun W (hW : PS W n pb l) hk => skip_any n pb l W hW hk)
  have HR := Lib.hid (fun W hW => refuse_any n pb l W hW)
  have HP := Lib.hid h
  have HLT := Lib.hid h.lt
  have HM : Hid (nameP l = if (nextT l).kind ≠ 1 ∨ (nextT l).text ∈ reserved then .no (nextT l).at_ else .ok (nextT l).text l.tail) := Lib.hid rfl
  unfold tkA at HN
  clear h
  generalize nextT l = t at *
  go_enter Tryz.func133, Tryz.ntmps133
  go_wp2_with fail
  refine HN.out.mono ?_
  rintro e w1 ⟨rfl, hb1⟩
  obtain ⟨m0, bA⟩ := start1 w1 #[.int .i64 (t.kind : Int), .string ⟨t.text.toArray⟩, .int .i64 (t.at_ : Int)] 49
  have B1 := hb1.trans (bA.mono hb1.size)
  have hps := HP.out.below B1
  have hpx : pb < w1.heap.size := by obtain ⟨_, _, _, h⟩ := (HP.out.below hb1).field1; exact h
  clear hb1 bA HN
  go_upto_region 2 with fail
  generalize w1.alloc (.cells #[.int .i64 (t.kind : Int), .string ⟨t.text.toArray⟩, .int .i64 (t.at_ : Int)] 49) = X at *
  generalize w1.heap.size = xb at *
  obtain ⟨mR, d1, hmap, hlt⟩ := hps.field1
  obtain ⟨c0, c1, c2⟩ := m0.l3 (Below.refl _ _)
  have e1 := fun q : Later X => (q.below.cell (p := ⟨pb, 1, none⟩) hlt).trans d1
  have hb : ∃ b : Bool, b = decide (t.text ∈ reserved) := ⟨_, rfl⟩
  obtain ⟨b, hb⟩ := hb
  have elk := fun q : Later X => (hmap.kept (grown_below q.below) (by simp)).lookup (P := Tryz.prog) Tryz.underlying162 Tryz.underlying9 ⟨t.text.toArray⟩ _ (zero_bool q.val)
  rw [show bys (⟨t.text.toArray⟩ : ByteArray) = t.text from rfl, show (findS t.text rsvE).getD (.bool false) = .bool b by rw [hb]; exact find_rsv _ _] at elk
  have HB := Lib.hid hb
  have HPX := Lib.hid hps
  have HB1 := Lib.hid B1
  have HM0 := Lib.hid m0
  clear hmap hb hps B1 d1 m0
  by_cases hk : t.kind = 1
  · have hk2 : ((t.kind : Int) != 1) = false := by rw [hk]; rfl
    have hk3 : (t.kind != 1) = false := by rw [hk]; rfl
    cases b with
    | true =>
      refine wp_region_later (by kernel_rfl) (by kernel_rfl) ?_
      repeat (go_big_quiet_step (fail))
      refine wpQuiet_nil ?_
      intro _ hw'
      obtain ⟨z, hw''⟩ := hw'
      subst hw''
      have HPZ := Lib.hid (HPX.out.below z.below)
      have HBZ := Lib.hid (HB1.out.trans (z.below.mono HB1.out.size))
      have HMM : Hid (nameP l = .no t.at_) := Lib.hid (by rw [HM.out, if_pos (.inr (by simpa using HB.out))])
      clear c0 c1 c2 e1 elk hk2 hk3 hk
      go_wp2_with (go_at_call 162; with_reducible refine (HR.out _ HPZ.out).mono ?_; rintro e w2 ⟨rfl, hb2⟩)
      exact ⟨rfl, Gives.of_no HMM.out (grown_none (grown_below (HBZ.out.trans (hb2.mono HBZ.out.size))))⟩
    | false =>
      refine wp_region_later (by kernel_rfl) (by kernel_rfl) ?_
      repeat (go_big_quiet_step (fail))
      refine wpQuiet_nil ?_
      intro _ hw'
      obtain ⟨z, hw''⟩ := hw'
      subst hw''
      have HPZ := Lib.hid (HPX.out.below z.below)
      have HBZ := Lib.hid (HB1.out.trans (z.below.mono HB1.out.size))
      have HMM : Hid (nameP l = .ok t.text l.tail) := Lib.hid (by
        have hno : ¬ (t.kind ≠ 1 ∨ t.text ∈ reserved) := by
          rintro (h | h)
          · exact h hk
          · have := HB.out
            rw [decide_eq_true h] at this
            cases this
        rw [HM.out, if_neg hno])
      have HTT := Lib.hid ((HM0.out.keep z.below))
      have hk4 : t.kind ≠ 4 := by omega
      clear c0 c1 c2 e1 elk hk2 hk3 hk
      go_wp2_with (go_at_call 163; with_reducible refine (HS.out _ HPZ.out hk4).mono ?_; rintro e w2 ⟨rfl, hp2, hg2⟩; obtain ⟨y0, y1, y2⟩ := (HTT.out.grown hg2 (fun h => by injection h with h; omega)).c3)
      go_ret
      exact Gives.of_ok HMM.out rfl hp2 ((grown_none (grown_below HBZ.out)).trans hg2)
  · have hk2 : ((t.kind : Int) != 1) = true := by
      unfold bne
      rw [beq_eq_false_iff_ne.2 (by omega)]; rfl
    have hk3 : (t.kind != 1) = true := by
      unfold bne
      rw [beq_eq_false_iff_ne.2 hk]; rfl
    refine wp_region_later (by kernel_rfl) (by kernel_rfl) ?_
    repeat (go_big_quiet_step (fail))
    refine wpQuiet_nil ?_
    intro _ hw'
    obtain ⟨z, hw''⟩ := hw'
    subst hw''
    have HPZ := Lib.hid (HPX.out.below z.below)
    have HBZ := Lib.hid (HB1.out.trans (z.below.mono HB1.out.size))
    have HMM : Hid (nameP l = .no t.at_) := Lib.hid (by rw [HM.out, if_pos (.inl hk)])
    clear c0 c1 c2 e1 elk hk2 hk3 hk
    go_wp2_with (go_at_call 162; with_reducible refine (HR.out _ HPZ.out).mono ?_; rintro e w2 ⟨rfl, hb2⟩)
    exact ⟨rfl, Gives.of_no HMM.out (grown_none (grown_below (HBZ.out.trans (hb2.mono HBZ.out.size))))⟩

end Sy
end Go.Proofs.YtggeepimihhpjaaGreatDoor

namespace Go.Proofs.YtggeepimihhpjaaGreatDoor
open Lx
namespace Sy
set_option linter.unusedVariables false

theorem pu10 : ∀ (l : By) (acc : Nat), acc ≤ 1000000 → l.all isD = true → numV acc l ≤ 1000000 → Go.Lib.parseUint10 acc l = .ok (numV acc l)
  | [], acc, h, ha, hv => rfl
  | c :: r, acc, h, ha, hv => by
    simp only [List.all_cons, Bool.and_eq_true] at ha
    obtain ⟨hc, hr⟩ := ha
    have hb : 48 ≤ (c.toNat : Int) ∧ (c.toNat : Int) ≤ 57 := by simpa [isD] using hc
    have e : numV acc (c :: r) = numV (min (10 * acc + (c.toNat - 48)) 1000001) r := rfl
    rw [e] at hv ⊢
    have hle : 10 * acc + (c.toNat - 48) ≤ 1000000 := by
      rcases Nat.lt_or_ge 1000000 (10 * acc + (c.toNat - 48)) with h1 | h1
      · have := numV_stuck r (min (10 * acc + (c.toNat - 48)) 1000001) (by omega)
        omega
      · exact h1
    have hm : min (10 * acc + (c.toNat - 48)) 1000001 = 10 * acc + (c.toNat - 48) := by omega
    rw [hm] at hv ⊢
    rw [← pu10 r _ hle hr hv]
    unfold Go.Lib.parseUint10
    rw [if_pos (by omega), if_neg (by omega), if_neg (by omega), show acc * 10 + (c.toNat - 48) = 10 * acc + (c.toNat - 48) by omega]
    cases r <;> rfl
theorem mag_no {c : UInt8} {r : By} (h : ¬ (48 ≤ c.toNat ∧ c.toNat ≤ 57)) : Go.Lib.parseMag (c :: r) = .syntax := by
  unfold Go.Lib.parseMag Go.Lib.parseUint10
  rw [if_neg (by simp), if_neg h]
theorem atoi_num {l : By} (h : isNum l = true) : Go.Lib.atoiAll l = .ok (numV 0 l : Nat) := by
  cases l with
  | nil => cases h
  | cons c r =>
    have hd : isD c = true ∧ (c :: r).all isD = true ∧ numV 0 (c :: r) ≤ 1000000 := by
      by_cases h48 : c = 48
      · subst h48
        rw [isNum_zero] at h
        have : r = [] := by simpa using h
        subst this
        exact ⟨by decide, by decide, by decide⟩
      · rw [isNum_other h48, Bool.and_eq_true, decide_eq_true_eq] at h
        have h1 := h.1
        simp only [List.all_cons, Bool.and_eq_true] at h1
        exact ⟨h1.1, h.1, h.2⟩
    obtain ⟨h1, h2, h3⟩ := hd
    have hb : 48 ≤ (c.toNat : Int) ∧ (c.toNat : Int) ≤ 57 := by simpa [isD] using h1
    rw [Go.Lib.atoiAll_plain c r (by omega) (by omega)]
    have hp : Go.Lib.parseMag (c :: r) = .ok (numV 0 (c :: r)) := by
      unfold Go.Lib.parseMag
      rw [if_neg (by simp)]
      exact pu10 _ _ (by omega) h2 h3
    rw [hp]
    generalize numV 0 (c :: r) = v at *
    unfold Go.Lib.signless
    simp only
    rw [if_neg (by omega)]
theorem atoi_plain_no {c : UInt8} {r : By} (h : ¬ (48 ≤ c.toNat ∧ c.toNat ≤ 57)) (h43 : c.toNat ≠ 43) (h45 : c.toNat ≠ 45) : Go.Lib.atoiAll (c :: r) = .syntax := by
  rw [Go.Lib.atoiAll_plain c r h43 h45, mag_no h]
  rfl
theorem atoi_tok {w : By} {k : Nat} (h : IsTok w k) : if k = 2 then Go.Lib.atoiAll w = .ok (numV 0 w : Nat) else Go.Lib.atoiAll w = .syntax := by
  obtain ⟨hne, ht⟩ := h
  unfold tok at ht
  by_cases hs : span isWd w ≠ 0
  · rw [if_pos hs] at ht
    by_cases hk : wkind (w.take (span isWd w)) ≠ 0
    · rw [if_pos hk] at ht
      injection ht with h1 h2
      rw [h2, List.take_length] at h1
      unfold wkind at h1
      by_cases hn : isName w = true
      · rw [if_pos hn] at h1
        rw [if_neg (by omega)]
        cases w with
        | nil => exact absurd rfl hne
        | cons c r =>
          have hl : isL c = true := hn
          have hb : 97 ≤ (c.toNat : Int) ∧ (c.toNat : Int) ≤ 122 := by simpa [isL] using hl
          exact atoi_plain_no (by omega) (by omega) (by omega)
      · rw [if_neg hn] at h1
        by_cases hm : isNum w = true
        · rw [if_pos hm] at h1
          rw [if_pos (by omega)]
          exact atoi_num hm
        · rw [if_neg hm] at h1
          exfalso
          rw [h2, List.take_length] at hk
          apply hk
          unfold wkind
          rw [if_neg hn, if_neg hm]
    · rw [if_neg hk] at ht
      injection ht with h1 h2
      exact absurd (List.eq_nil_of_length_eq_zero h2.symm) hne
  · rw [if_neg hs] at ht
    by_cases hg : sgn w ≠ 0
    · rw [if_pos hg] at ht
      injection ht with h1 h2
      rw [if_neg (by omega)]
      cases w with
      | nil => exact absurd rfl hne
      | cons c r =>
        rw [sgn_cons] at h2
        split at h2
        · rename_i h3
          cases r with
          | nil => simp at h2
          | cons d r2 =>
            have hr2 : r2 = [] := List.eq_nil_of_length_eq_zero (by simp only [List.length_cons] at h2; omega)
            subst hr2
            rcases h3 with ⟨rfl, h4⟩ | ⟨rfl, h4⟩
            · obtain rfl : d = 62 := by simpa using h4
              rfl
            · obtain rfl : d = 61 := by simpa using h4
              rfl
        · split at h2
          · rename_i h4
            have hr : r = [] := List.eq_nil_of_length_eq_zero (by simp only [List.length_cons] at h2; omega)
            subst hr
            have hall : ∀ x ∈ oneSigns, Go.Lib.atoiAll [x] = .syntax := by decide
            exact hall c h4
          · simp at h2
    · rw [if_neg hg] at ht
      injection ht with h1 h2
      exact absurd (List.eq_nil_of_length_eq_zero h2.symm) hne

end Sy
end Go.Proofs.YtggeepimihhpjaaGreatDoor

namespace Go.Proofs.YtggeepimihhpjaaGreatDoor
open Go.RowKit Go.Shelf Sl Fr Lx
namespace Sy
set_option linter.unusedVariables false
set_option linter.unusedSimpArgs false
attribute [local go_sem] field_t0 field_t1 field_t2

structure VarsC (w : World) : Prop where
  pow : Lib.TabIs Tryz.prog w "internal/strconv.uint64pow10" .u64 Lib.pow10Tab
  range : ∃ tp p, w.var? Tryz.prog "strconv.ErrRange" = some #[.iface tp p]
  syn : ∃ tp p, w.var? Tryz.prog "strconv.ErrSyntax" = some #[.iface tp p]
theorem itoa_any (n : Int) (w : World) (hn : -9223372036854775808 ≤ n ∧ n ≤ 9223372036854775807) (hv : VarsC w) : Calls Tryz.prog 171 #[.int .i64 n] w fun o w' => o = .returned (.string ⟨(Lib.itoa n).toArray⟩) ∧ Below w.heap.size w w' := by
  refine (Tryz.strconv_Itoa n hn.1 hn.2 w hv.pow).mono ?_
  rintro o w' ⟨rfl, k, os, rfl⟩
  exact ⟨rfl, Lib.below_grow _ w (Nat.le_refl _) k os⟩
theorem atoi_yes (s : ByteArray) (w : World) (hs : s.size ≤ 281474976710656) (v : Int) (h : Lib.atoiAll s.data.toList = .ok v) : Calls Tryz.prog 178 #[.string s] w fun e w' => e = .returned (.tuple #[.int .i64 v, .nilIface]) ∧ Below w.heap.size w w' := by
  refine (Tryz.strconv_Atoi_ok s (by omega) v h w).mono ?_
  rintro o w' ⟨rfl, hw⟩
  refine ⟨rfl, ?_⟩
  rcases hw with rfl | ⟨t, rfl⟩
  · exact Below.refl _ _
  · exact Lib.bytesWorld_below _ _ _
theorem atoi_not (s : ByteArray) (w : World) (hs : s.size ≤ 281474976710656) (h : Lib.atoiAll s.data.toList = .syntax) (hv : VarsC w) : Calls Tryz.prog 178 #[.string s] w fun e w' => (∃ (x : Int) (T : TypeId) (N : Value), e = .returned (.tuple #[.int .i64 x, .iface T N])) ∧ Below w.heap.size w w' := by
  obtain ⟨tp, p, hvar⟩ := hv.syn
  refine (Tryz.strconv_Atoi_no_var s hs (by rw [h]; intro v e; cases e) (by rw [h]; intro e; cases e) tp p w hvar).mono ?_
  rintro o w' ⟨N, rfl, _, _, hb⟩
  exact ⟨⟨_, _, _, rfl⟩, hb⟩

def IntV : Nat → World → Value → Prop := fun x _ v => v = .int .i64 (x : Int)
theorem var_keep {P : Program} {w w' : World} {name : String} {cs : Array Value} (h : w.var? P name = some cs) (hb : Below w.heap.size w w') : w'.var? P name = some cs := by
  unfold World.var? at *
  cases hg : P.globalNamed name with
  | none => rw [hg] at h; cases h
  | some g =>
    rw [hg] at h
    simp only [Option.bind_some] at h ⊢
    have hlt : g < w.heap.size := by
      rcases Nat.lt_or_ge g w.heap.size with h' | h'
      · exact h'
      · rw [Array.getElem?_eq_none h'] at h; cases h
    rw [hb.block g hlt]
    exact h
theorem VarsC.keep {w w' : World} (h : VarsC w) (hb : Below w.heap.size w w') : VarsC w' :=
  ⟨var_keep h.pow hb, let ⟨tp, p, hv⟩ := h.range; ⟨tp, p, var_keep hv hb⟩, let ⟨tp, p, hv⟩ := h.syn; ⟨tp, p, var_keep hv hb⟩⟩
theorem numV_small {w : By} (h : isNum w = true) : numV 0 w ≤ 1000000 := by
  have := atoi_num h
  cases w with
  | nil => cases h
  | cons c r =>
    by_cases h48 : c = 48
    · subst h48
      rw [isNum_zero] at h
      have : r = [] := by simpa using h
      subst this
      decide
    · rw [isNum_other h48, Bool.and_eq_true, decide_eq_true_eq] at h
      exact h.2
theorem tok_isNum {w : By} (h : IsTok w 2) : isNum w = true := by
  obtain ⟨hne, ht⟩ := h
  unfold Lx.tok at ht
  split at ht
  · split at ht
    · injection ht with h1 h2
      rw [h2, List.take_length] at h1
      unfold wkind at h1
      split at h1
      · omega
      · split at h1
        · assumption
        · omega
    · injection ht with h1 h2
      omega
  · split at ht
    · injection ht with h1 h2
      omega
    · injection ht with h1 h2
      omega

set_option maxRecDepth 100000 in
set_option maxHeartbeats 1000000 in
theorem number_any (n pb : Nat) (l : List Tk) (least : Nat) (w : World) (h : PS w n pb l) (hv : VarsC w) (hl : least ≤ 1) :
    Calls Tryz.prog 165 #[.pointer (some ⟨pb, 0, none⟩), .int .i64 (least : Int)] w (Gives n pb l (numberP least) IntV w) := by
  have HN := Lib.hid (next_any n pb l w h)
  have HS := Lib.hid (fun W (hW : PS W n pb l) hk => skip_any n pb l W hW hk)
  have HR := Lib.hid (fun W hW => refuse_any n pb l W hW)
  have HP := Lib.hid h
  have HV := Lib.hid hv
  have HM : Hid (numberP least l = if (nextT l).kind ≠ 2 ∨ numV 0 (nextT l).text < least then .no (nextT l).at_ else .ok (numV 0 (nextT l).text) l.tail) := Lib.hid rfl
  have hcase : ((nextT l).kind = 2 ∧ Lib.atoiAll (nextT l).text = .ok (numV 0 (nextT l).text : Nat) ∧ numV 0 (nextT l).text ≤ 1000000) ∨ ((nextT l).kind ≠ 2 ∧ Lib.atoiAll (nextT l).text = .syntax) := by
    rcases h.lt.next with ⟨h1, h2⟩ | ⟨h1, h2, h3⟩
    · have := atoi_tok h1
      by_cases hk : (nextT l).kind = 2
      · rw [if_pos hk] at this
        rw [hk] at h1
        exact .inl ⟨hk, this, numV_small (tok_isNum h1)⟩
      · rw [if_neg hk] at this
        exact .inr ⟨hk, this⟩
    · exact .inr ⟨by omega, by rw [h2]; rfl⟩
  unfold tkA at HN
  have hsz := h.txt _ (next_mem h.lt)
  have hsize : (⟨(nextT l).text.toArray⟩ : ByteArray).size ≤ 281474976710656 := by show (nextT l).text.toArray.size ≤ _; simp; omega
  have hdat : (⟨(nextT l).text.toArray⟩ : ByteArray).data.toList = (nextT l).text := rfl
  clear h hv hsz
  generalize nextT l = t at *
  rcases hcase with ⟨hk, ha, hsm⟩ | ⟨hk, ha⟩
  · have HA := Lib.hid (fun W => atoi_yes ⟨t.text.toArray⟩ W hsize _ (by rw [hdat]; exact ha))
    clear ha hdat hsize
    generalize (⟨t.text.toArray⟩ : ByteArray) = tx at *
    generalize numV 0 t.text = v at *
    by_cases hlv : v < least
    · have hlv2 : (v : Int) < (least : Int) := by omega
      have HMM : Hid (numberP least l = .no t.at_) := Lib.hid (by rw [HM.out, if_pos (.inr hlv)])
      clear hk
      go_enter Tryz.func165, Tryz.ntmps165
      go_wp2_with (first
        | (go_at_call 95; with_reducible refine HN.out.mono ?_; rintro e w1 ⟨rfl, hb1⟩)
        | (go_at_call 178; with_reducible refine (HA.out _).mono ?_; rintro e w2 ⟨rfl, hb2⟩)
        | (go_at_call 162; with_reducible refine (HR.out _ ((HP.out.below hb1).below hb2)).mono ?_; rintro e w3 ⟨rfl, hb3⟩))
      exact ⟨rfl, Gives.of_no HMM.out (((grown_none (grown_below hb1)).trans (grown_none (grown_below hb2))).trans (grown_none (grown_below hb3)))⟩
    · have hlv2 : ¬ (v : Int) < (least : Int) := by omega
      have HMM : Hid (numberP least l = .ok v l.tail) := Lib.hid (by rw [HM.out, if_neg (by omega)])
      have hk4 : t.kind ≠ 4 := by omega
      clear hk
      go_enter Tryz.func165, Tryz.ntmps165
      go_wp2_with (first
        | (go_at_call 95; with_reducible refine HN.out.mono ?_; rintro e w1 ⟨rfl, hb1⟩)
        | (go_at_call 178; with_reducible refine (HA.out _).mono ?_; rintro e w2 ⟨rfl, hb2⟩)
        | (go_at_call 163; with_reducible refine (HS.out _ ((HP.out.below hb1).below hb2) hk4).mono ?_; rintro e w3 ⟨rfl, hp3, hg3⟩))
      go_ret
      exact Gives.of_ok HMM.out rfl hp3 (((grown_none (grown_below hb1)).trans (grown_none (grown_below hb2))).trans hg3)
  · have HA := Lib.hid (fun W (hb : Below w.heap.size w W) => atoi_not ⟨t.text.toArray⟩ W hsize (by rw [hdat]; exact ha) (HV.out.keep hb))
    have HMM : Hid (numberP least l = .no t.at_) := Lib.hid (by rw [HM.out, if_pos (.inl hk)])
    clear ha hdat hsize hk HM
    generalize (⟨t.text.toArray⟩ : ByteArray) = tx at *
    go_enter Tryz.func165, Tryz.ntmps165
    go_wp2_with (first
      | (go_at_call 95; with_reducible refine HN.out.mono ?_; rintro e w1 ⟨rfl, hb1⟩)
      | (go_at_call 178; with_reducible refine (HA.out _ hb1).mono ?_; rintro e w2 ⟨⟨x, T, N, rfl⟩, hb2⟩)
      | (go_at_call 162; with_reducible refine (HR.out _ ((HP.out.below hb1).below hb2)).mono ?_; rintro e w3 ⟨rfl, hb3⟩))
    exact ⟨rfl, Gives.of_no HMM.out (((grown_none (grown_below hb1)).trans (grown_none (grown_below hb2))).trans (grown_none (grown_below hb3)))⟩

end Sy
end Go.Proofs.YtggeepimihhpjaaGreatDoor
