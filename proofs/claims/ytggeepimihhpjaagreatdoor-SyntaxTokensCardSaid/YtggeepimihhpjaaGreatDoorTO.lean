/- sameModule, sameFile. Print. -/
import Derived.Test.YtggeepimihhpjaaGreatDoorTM
import Derived.Test.YtggeepimihhpjaaGreatDoorG8
import Derived.Laws.IdiomStrings
import Derived.Lib.BufferRead
namespace Go.Proofs.YtggeepimihhpjaaGreatDoor
open Go.RowKit Go.Shelf Go.Lib Sl Fr Lx
namespace Sy
set_option linter.unusedVariables false
set_option linter.unusedSimpArgs false
attribute [local go_sem high] eq_str neq_str
def SmM (m : ModT) : Prop := m.params.length ≤ 281474976710656 ∧ m.items.length ≤ 281474976710656 ∧ ∀ i ∈ m.items, SmI i
def SmF (f : FileT) : Prop := f.length ≤ 281474976710656 ∧ ∀ m ∈ f, SmM m
theorem it_at {w : World} {S : Nat → Prop} {l : List ItemT} {vs : List Value} {A : Option Addr} (hl : IL w S l vs) (hf : FR w S A vs) {k : Nat} {x : ItemT} (hx : l[k]? = some x) :
    ∃ b o cs, A = some ⟨b, o, none⟩ ∧ b < w.heap.size ∧ w.rangeAt b (o + k * 35) (cs : Array Value).toList ∧ cs.size = 35 ∧ cs.all (·.oneCell') = true ∧ IR w S x cs := by
  obtain ⟨cs, h1, h2⟩ := hl.get hx
  have hs := h1.size
  obtain ⟨u0, hu0⟩ : ∃ u, cs.toList[0]? = some u := ⟨cs.toList[0]'(by omega), List.getElem?_eq_getElem _⟩
  obtain ⟨b, o, rfl, hb, hc⟩ := hf.get (h2 0 u0 hu0)
  refine ⟨b, o, cs, rfl, hb, fun j v hj => ?_, by simpa using hs, ?_, h1⟩
  · rw [Nat.add_assoc]; exact hc _ _ (h2 j v hj)
  · rw [Array.all_eq_true']; exact fun u hu => h1.one u (Array.mem_toList_iff.2 hu)
theorem mo_at {w : World} {S : Nat → Prop} {l : List ModT} {vs : List Value} {A : Option Addr} (hl : ML w S l vs) (hf : FR w S A vs) {k : Nat} {x : ModT} (hx : l[k]? = some x) :
    ∃ b o cs, A = some ⟨b, o, none⟩ ∧ b < w.heap.size ∧ w.rangeAt b (o + k * 4) (cs : Array Value).toList ∧ cs.size = 4 ∧ cs.all (·.oneCell') = true ∧ MR w S x cs := by
  obtain ⟨cs, h1, h2⟩ := hl.get hx
  have hs := h1.size
  obtain ⟨u0, hu0⟩ : ∃ u, cs.toList[0]? = some u := ⟨cs.toList[0]'(by omega), List.getElem?_eq_getElem _⟩
  obtain ⟨b, o, rfl, hb, hc⟩ := hf.get (h2 0 u0 hu0)
  refine ⟨b, o, cs, rfl, hb, fun j v hj => ?_, by simpa using hs, ?_, h1⟩
  · rw [Nat.add_assoc]; exact hc _ _ (h2 j v hj)
  · rw [Array.all_eq_true']; exact fun u hu => h1.one u (Array.mem_toList_iff.2 hu)

set_option maxRecDepth 100000 in
set_option maxHeartbeats 8000000 in
theorem sM (m m' : ModT) (hsm : SmM m') (w : World) (S S' : Nat → Prop) (cs ds : Array Value) (h : MR w S m cs) (h' : MR w S' m' ds) : Calls Tryz.prog 113 #[.agg cs, .agg ds] w (RetB (eqM m m') w) := by
  obtain ⟨nm, ck, pa, it⟩ := m
  obtain ⟨nm', ck', pa', it'⟩ := m'
  obtain ⟨s1, s2, s3⟩ := hsm
  obtain ⟨Ap, cp, Ai, ci, rfl, hp1, hp2, hi1, vs, hv1, hv2, hv3⟩ := h
  obtain ⟨Ap', cp', Ai', ci', rfl, hp1', hp2', hi1', us, hu1, hu2, hu3⟩ := h'
  dsimp only at *
  have Hp : ∀ W, Below w.heap.size w W → Calls Tryz.prog 156 #[.slice Ap pa.length cp, .slice Ap' pa'.length cp'] W (RetB (eqL eqD pa pa') W) := fun W hb => equal_strs pa pa' Ap Ap' cp cp' W S S' s1 (hp2.grown (grown_below hb) (fun g e => by cases e)) (hp2'.grown (grown_below hb) (fun g e => by cases e))
  have Hi : ∀ W, Below w.heap.size w W → Calls Tryz.prog 157 #[.slice Ai it.length ci, .slice Ai' it'.length ci', .func (.func 158) #[] #[]] W (RetB (eqL eqI it it') W) := fun W hb => by
    refine equalFunc_item eqI it it' Ai Ai' ci ci' W s2 fun k x y hx hy => ?_
    obtain ⟨b1, o1, c1, rfl, hl1, hr1, hs1, ho1, hi1⟩ := it_at (hv2.grown (grown_below hb) (fun g e => by cases e)) (hv3.grown (grown_below hb) (fun g e => by cases e)) hx
    obtain ⟨b2, o2, c2, rfl, hl2, hr2, hs2, ho2, hi2⟩ := it_at (hu2.grown (grown_below hb) (fun g e => by cases e)) (hu3.grown (grown_below hb) (fun g e => by cases e)) hy
    exact ⟨b1, o1, c1, b2, o2, c2, rfl, hl1, hr1, hs1, ho1, rfl, hl2, hr2, hs2, ho2, fun W2 hb2 => sI x y (s3 y (List.mem_of_getElem? hy)) W2 S S' c1 c2 (hi1.grown (grown_below hb2) (fun g e => by cases e)) (hi2.grown (grown_below hb2) (fun g e => by cases e))⟩
  clear hp2 hp2' hv2 hv3 hu2 hu3 s1 s2 s3 hp1 hp1' hi1 hi1' hv1 hu1
  generalize hR : eqM _ _ = R
  have hR' : R = (decide (nm = nm') && (decide (ck = ck') && (eqL eqD pa pa' && eqL eqI it it'))) := by rw [← hR]; rfl
  clear hR
  have HR := Lib.hid hR'
  clear hR'
  obtain ⟨M1, M2, bA⟩ := start2X w #[.string ⟨nm.toArray⟩, .string ⟨ck.toArray⟩, .slice Ap pa.length cp, .slice Ai it.length ci] #[.string ⟨nm'.toArray⟩, .string ⟨ck'.toArray⟩, .slice Ap' pa'.length cp', .slice Ai' it'.length ci'] 46 46
  go_enter Tryz.func113, Tryz.ntmps113
  go_upto_region 1 with fail
  generalize hXe : (w.alloc (.cells #[.string ⟨nm.toArray⟩, .string ⟨ck.toArray⟩, .slice Ap pa.length cp, .slice Ai it.length ci] 46)).alloc (.cells #[.string ⟨nm'.toArray⟩, .string ⟨ck'.toArray⟩, .slice Ap' pa'.length cp', .slice Ai' it'.length ci'] 46) = X at *
  clear hXe
  have HBX := Lib.hid bA
  have HM1 := Lib.hid M1
  have HM2 := Lib.hid M2
  clear M1 M2 bA
  have KHp : Hid (∀ W, Below X.heap.size X W → Calls Tryz.prog 156 #[.slice Ap pa.length cp, .slice Ap' pa'.length cp'] W (RetB (eqL eqD pa pa') W)) := Lib.hid (fun W hb => Hp W (HBX.out.trans (hb.mono HBX.out.size)))
  have KHi : Hid (∀ W, Below X.heap.size X W → Calls Tryz.prog 157 #[.slice Ai it.length ci, .slice Ai' it'.length ci', .func (.func 158) #[] #[]] W (RetB (eqL eqI it it') W)) := Lib.hid (fun W hb => Hi W (HBX.out.trans (hb.mono HBX.out.size)))
  clear Hp Hi
  have cA0 := HM1.out.cell (i := 0) rfl
  have cB0 := HM2.out.cell (i := 0) rfl
  by_cases h1 : nm = nm'
  · subst h1
    have cA1 := HM1.out.cell (i := 1) rfl
    have cB1 := HM2.out.cell (i := 1) rfl
    by_cases h2 : ck = ck'
    · subst h2
      have cA2 := HM1.out.cell (i := 2) rfl
      have cB2 := HM2.out.cell (i := 2) rfl
      cases hp : eqL eqD pa pa' with
      | true =>
        rw [hp] at KHp
        cases hi : eqL eqI it it' with
        | true =>
          rw [hi] at KHi
          have hRv : R = true := by rw [HR.out]; simp_all only [Hid, decide_true, Bool.true_and, Bool.false_and, Bool.and_false, Bool.and_true, Bool.and_self]
          go_wp2_with (first
            | (go_at_call 157; refine (KHi.out _ (hb2)).mono ?_; rintro e v3 ⟨rfl, hc3⟩; have hb3 := hb2.trans (hc3.mono hb2.size))
            | (go_at_call 156; refine (KHp.out _ (Below.refl _ _)).mono ?_; rintro e v2 ⟨rfl, hc2⟩; have hb2 := hc2; have cA3_3 := (HM1.out.keep hb2).cell (i := 3) rfl; have cB3_3 := (HM2.out.keep hb2).cell (i := 3) rfl))
          go_ret
          exact ⟨by first | rfl | (rw [hRv]; rfl), HBX.out.trans (hb3.mono HBX.out.size)⟩
        | false =>
          rw [hi] at KHi
          have hRv : R = false := by rw [HR.out]; simp_all only [Hid, decide_true, Bool.true_and, Bool.false_and, Bool.and_false, Bool.and_true, Bool.and_self]
          go_wp2_with (first
            | (go_at_call 157; refine (KHi.out _ (hb2)).mono ?_; rintro e v3 ⟨rfl, hc3⟩; have hb3 := hb2.trans (hc3.mono hb2.size))
            | (go_at_call 156; refine (KHp.out _ (Below.refl _ _)).mono ?_; rintro e v2 ⟨rfl, hc2⟩; have hb2 := hc2; have cA3_3 := (HM1.out.keep hb2).cell (i := 3) rfl; have cB3_3 := (HM2.out.keep hb2).cell (i := 3) rfl))
          go_ret
          exact ⟨by first | rfl | (rw [hRv]; rfl), HBX.out.trans (hb3.mono HBX.out.size)⟩
      | false =>
        rw [hp] at KHp
        have hRv : R = false := by rw [HR.out]; simp_all only [Hid, decide_true, Bool.true_and, Bool.false_and, Bool.and_false, Bool.and_true, Bool.and_self]
        go_wp2_with (first
          | (go_at_call 156; refine (KHp.out _ (Below.refl _ _)).mono ?_; rintro e v2 ⟨rfl, hc2⟩; have hb2 := hc2))
        go_ret
        exact ⟨by first | rfl | (rw [hRv]; rfl), HBX.out.trans (hb2.mono HBX.out.size)⟩
    · have h2d : decide (ck = ck') = false := decide_eq_false h2
      have hRv : R = false := by rw [HR.out]; simp_all only [Hid, decide_true, Bool.true_and, Bool.false_and, Bool.and_false, Bool.and_true, Bool.and_self]
      go_wp2_with fail
      go_ret
      exact ⟨by first | rfl | (rw [hRv]; rfl), HBX.out⟩
  · have h1d : decide (nm = nm') = false := decide_eq_false h1
    have hRv : R = false := by rw [HR.out]; simp_all only [Hid, decide_true, Bool.true_and, Bool.false_and, Bool.and_false, Bool.and_true, Bool.and_self]
    go_wp2_with fail
    go_ret
    exact ⟨by first | rfl | (rw [hRv]; rfl), HBX.out⟩

set_option maxRecDepth 100000 in
set_option maxHeartbeats 8000000 in
theorem sF (f g : FileT) (hsm : SmF g) (w : World) (S S' : Nat → Prop) (A B : Option Addr) (c d : Nat) (vs us : List Value) (h1 : ML w S f vs) (h2 : FR w S A vs) (h3 : ML w S' g us) (h4 : FR w S' B us) :
    Calls Tryz.prog 62 #[.agg #[.slice A f.length c], .agg #[.slice B g.length d]] w (RetB (eqL eqM f g) w) := by
  obtain ⟨s1, s2⟩ := hsm
  have Hi : ∀ W, Below w.heap.size w W → Calls Tryz.prog 112 #[.slice A f.length c, .slice B g.length d, .func (.func 113) #[] #[]] W (RetB (eqL eqM f g) W) := fun W hb => by
    refine equalFunc_mod eqM f g A B c d W s1 fun k x y hx hy => ?_
    obtain ⟨b1, o1, c1, rfl, hl1, hr1, hs1, ho1, hi1⟩ := mo_at (h1.grown (grown_below hb) (fun g e => by cases e)) (h2.grown (grown_below hb) (fun g e => by cases e)) hx
    obtain ⟨b2, o2, c2, rfl, hl2, hr2, hs2, ho2, hi2⟩ := mo_at (h3.grown (grown_below hb) (fun g e => by cases e)) (h4.grown (grown_below hb) (fun g e => by cases e)) hy
    exact ⟨b1, o1, c1, b2, o2, c2, rfl, hl1, hr1, hs1, ho1, rfl, hl2, hr2, hs2, ho2, fun W2 hb2 => sM x y (s2 y (List.mem_of_getElem? hy)) W2 S S' c1 c2 (hi1.grown (grown_below hb2) (fun g e => by cases e)) (hi2.grown (grown_below hb2) (fun g e => by cases e))⟩
  clear h1 h2 h3 h4 s1 s2
  obtain ⟨M1, M2, bA⟩ := start2X w #[.slice A f.length c] #[.slice B g.length d] 27 27
  go_enter Tryz.func62, Tryz.ntmps62
  go_upto_region 1 with fail
  generalize hXe : (w.alloc (.cells #[.slice A f.length c] 27)).alloc (.cells #[.slice B g.length d] 27) = X at *
  clear hXe
  have cA := M1.cell (i := 0) rfl
  have cB := M2.cell (i := 0) rfl
  have HBX := Lib.hid bA
  have HH := Lib.hid (Hi X bA)
  clear Hi bA M1 M2
  go_wp2_with (first
    | (go_at_call 112; refine (HH.out).mono ?_; rintro e v4 ⟨rfl, hb4⟩))
  go_ret
  exact ⟨rfl, HBX.out.trans (hb4.mono HBX.out.size)⟩
end Sy
end Go.Proofs.YtggeepimihhpjaaGreatDoor

namespace Go.Proofs.YtggeepimihhpjaaGreatDoor
open Go.RowKit Go.Shelf Go.Lib Sl Fr Lx
namespace Sy
set_option linter.unusedVariables false
set_option linter.unusedSimpArgs false

theorem conv_own {W : World} {base : Nat} {v : Value} {t : By} (h : W.ownsRow base 5 1 v t.length (strCells ⟨t.toArray⟩)) : (convert 57 9 v).run Tryz.prog W = .ok (.string ⟨t.toArray⟩) W := by
  obtain ⟨A, c, rfl, hc, hl, hf, _⟩ := row_forms h
  by_cases ht : t = []
  · subst ht
    show (convert 57 9 (.slice A 0 c)).run Tryz.prog W = _
    rw [run_convert_bytes_string W 57 9 5 A 0 c (by kernel_rfl) (by kernel_rfl) (by kernel_rfl)]
    cases A <;> rfl
  · obtain ⟨b, o, rfl, h1, h2, h3⟩ := hf (by simpa [strCells] using ht)
    refine run_convert_bytes_back W 57 9 5 ⟨b, o, none⟩ c t (by kernel_rfl) (by kernel_rfl) (by kernel_rfl) fun j hj => ?_
    have := h3 j (.int .u8 (t[j].toNat : Int)) (by simp [strCells, List.getElem?_map, List.getElem?_eq_getElem hj])
    by_cases hj0 : j = 0
    · subst hj0; simpa [Addr.add] using this
    · simpa [Addr.add, hj0] using this
theorem gp_below {B qb : Nat} {a w w' : World} (h : Below B a w) (hg : GP w w' qb none) (hB : B ≤ w.heap.size) (hq : B ≤ qb) : Below B a w' :=
  h.trans ⟨hg.os, hg.tape, hg.output, hg.size, fun k hk => hg.block k (by omega) (by omega) (by simp)⟩
def printR (f : FileT) : By × Nat := match wr (fileX f) [] with
  | none => ([], 90)
  | some t => if (parseR t).2.2 ≠ 0 then ([], 90) else if eqL eqM (parseR t).1 f then (t, 0) else ([], 90)
def PrG (r : By × Nat) (w : World) (e : Ending) (w' : World) : Prop := e = .returned (.tuple #[.string ⟨r.1.toArray⟩, .int .i64 (r.2 : Int)]) ∧ Below w.heap.size w w'

set_option maxRecDepth 100000 in
set_option maxHeartbeats 8000000 in
theorem print_any (f : FileT) (hok : OkF f) (hsm : SmF f) (A : Option Addr) (c : Nat) (vs : List Value) (w : World) (hml : ML w (fun b => b < w.heap.size) f vs) (hfr : FR w (fun b => b < w.heap.size) A vs) (hv : Vars w) (hc : VarsC w) (hg : ∀ g name, Tryz.prog.globalNamed name = some g → g < w.heap.size) :
    Calls Tryz.prog 32 #[.agg #[.slice A f.length c]] w (PrG (printR f) w) := by
  have hmf : ∀ (fn : Fn) (first cap : Array Value) (w : World), (Instr.makeFunc fn first cap).run Tryz.prog w = .ok (.func fn first cap) w := fun _ _ _ _ => rfl
  obtain ⟨m0, m1, m2, bA⟩ := start3X w #[.slice A f.length c] #[.string ⟨#[]⟩] #[.int .i64 0] 27 9 31
  have HV := Lib.hid hv
  have HC := Lib.hid hc
  have HG := Lib.hid hg
  have HML := Lib.hid hml
  have HFR := Lib.hid hfr
  have HOK := Lib.hid hok
  have HSM := Lib.hid hsm
  clear hv hc hg hml hfr hok hsm
  go_enter_defers Tryz.func32, Tryz.ntmps32
  go_upto_region 1 with fail
  generalize hXe : ((w.alloc (.cells #[.slice A f.length c] 27)).alloc (.cells #[.string ⟨#[]⟩] 9)).alloc (.cells #[.int .i64 0] 31) = X at *
  clear hXe
  have HM0 := Lib.hid m0
  have HM1 := Lib.hid m1
  have HM2 := Lib.hid m2
  have HB := Lib.hid bA
  have hl2 := m2.lt
  clear m0 m1 m2 bA
  have hXs := HB.out.size
  have HNP := Lib.hid (newPrinter_any X)
  go_upto_region 3 with (go_at_call 60; refine (HNP.out).mono ?_; rintro e w1 ⟨qb, mS, rfl, hq1, hq2, hq3, hq4, hq5, hb1⟩)
  have HB1 : Hid (Below w.heap.size w w1) := Lib.hid (HB.out.trans (hb1.mono HB.out.size))
  have HPP : Hid (PP w1 X.heap.size qb none []) := Lib.hid ⟨by simp, HC.out.keep HB1.out, fun g name h => Nat.lt_of_lt_of_le (HG.out g name h) hXs, .slice none 0 0, mS, hq1, rfl, World.ownsRow_nil _ _ _ _, hq2, hq3, hq4, hq5, fun e => (by cases e), fun e => (by cases e)⟩
  have HPF : Hid (Calls Tryz.prog 61 #[.pointer (some ⟨qb, 0, none⟩), .agg #[.slice A f.length c]] w1 (PG X.heap.size qb none [] (fileX f) w1)) := Lib.hid (pfile_any X.heap.size qb none [] f HOK.out A c vs w1 HPP.out ((HML.out.grown (grown_below HB1.out) (fun g e => by cases e)).mono (fun b hb => by show b < X.heap.size; have : b < w.heap.size := hb; omega)) ((HFR.out.grown (grown_below HB1.out) (fun g e => by cases e)).mono (fun b hb => by show b < X.heap.size; have : b < w.heap.size := hb; omega)))
  have c0 := (HM0.out.keep hb1).c1
  have hr : printR f = match wr (fileX f) [] with
    | none => ([], 90)
    | some t => if (parseR t).2.2 ≠ 0 then ([], 90) else if eqL eqM (parseR t).1 f then (t, 0) else ([], 90) := rfl
  have HR := Lib.hid hr
  clear hr
  generalize printR f = R at *
  have HLE : Hid (X.heap.size ≤ qb) := Lib.hid hq3
  have HQB : Hid (Below X.heap.size X w1) := Lib.hid hb1
  clear hq1 hq2 hq3 hq4 hq5 hb1
  cases hw : wr (fileX f) [] with
  | none =>
    rw [hw] at HR
    go_wp2_with (go_at_call 61; refine (HPF.out).mono ?_; rintro e w2 hpg; unfold PG at hpg; rw [hw] at hpg; obtain ⟨hgp, rfl⟩ := hpg)
    have H2 := gp_below HB1.out hgp HB1.out.size (by have := HLE.out; omega)
    have y1 := hgp.box (HM1.out.keep HQB.out) (by have := HLE.out; omega) (by simp)
    have y2 := hgp.box (HM2.out.keep HQB.out) (by have := HLE.out; omega) (by simp)
    refine leaves_cons (f := 59) (args := #[.pointer (some ⟨w.heap.size + 1, 0, none⟩), .pointer (some ⟨w.heap.size + 1 + 1, 0, none⟩)]) (by simp) (by simp [go_sem]) ?_
    refine (qcatch_panicking (w.heap.size + 1) (w.heap.size + 1 + 1) ⟨#[]⟩ 0 0 _ w.heap.size w H2 H2.size y1 y2 (by omega) (by omega) (by omega)).mono ?_
    rintro e u' w9 ⟨rfl, rfl, r1, r2, rb⟩
    have e1 := r1.c1
    have e2 := r2.c1
    simp [Leaves, settle, results, Tryz.results32, go_sem, e1, e2]
    rw [HR.out]
    exact ⟨rfl, rb⟩
  | some t =>
    rw [hw] at HR
    go_upto_region 4 with (go_at_call 61; refine (HPF.out).mono ?_; rintro e w2 hpg; unfold PG at hpg; rw [hw] at hpg; obtain ⟨hgp, rfl, tb', hpp, htb⟩ := hpg)
    have HH2 : Hid (Below w.heap.size w w2) := Lib.hid (gp_below HB1.out hgp HB1.out.size (by have := HLE.out; omega))
    have HY0 := Lib.hid (hgp.box (HM0.out.keep HQB.out) (by have := HLE.out; omega) (by simp))
    have HY1 := Lib.hid (hgp.box (HM1.out.keep HQB.out) (by have := HLE.out; omega) (by simp))
    have HY2 := Lib.hid (hgp.box (HM2.out.keep HQB.out) (by have := HLE.out; omega) (by simp))
    obtain ⟨v, mS, hbx, hvb, hown, hrest⟩ := hpp.out
    have HBX := Lib.hid hbx
    have HOWN := Lib.hid hown
    have k0 := (hbx.cells 0 v rfl).1
    have hcv := conv_own hown
    have hPA := parse_any ⟨t.toArray⟩ w2 (by have := hpp.len; simp [ByteArray.size]; omega) (HV.out.keep HH2.out) (HC.out.keep HH2.out) (fun g name h => by have := HG.out g name h; have := HH2.out.size; omega)
    rw [show bys ⟨t.toArray⟩ = t from by simp [bys]] at hPA
    have HPA := Lib.hid hPA
    clear hPA hown hbx hrest hvb hgp hpp htb
    have HR2 : Hid (R = if (parseR t).2.2 ≠ 0 then ([], 90) else if eqL eqM (parseR t).1 f then (t, 0) else ([], 90)) := Lib.hid HR.out
    clear HR
    generalize parseR t = p at *
    obtain ⟨pf, pa, pe⟩ := p
    go_upto_region 5 with (go_at_call 28; refine (HPA.out).mono ?_; rintro e w3 ⟨A2, c2, vs2, rfl, hcap2, hvl2, hml2, hfr2, hb3⟩; clear k0 hcv)
    obtain ⟨m5, b5⟩ := startO w3 #[.slice A2 pf.length c2] 27
    generalize hYe : w3.alloc (.cells #[.slice A2 pf.length c2] 27) = Y at *
    clear hYe
    have HBY : Hid (Below w.heap.size w Y) := Lib.hid ((HH2.out.trans (hb3.mono HH2.out.size)).trans (b5.mono (Nat.le_trans HH2.out.size hb3.size)))
    have HB5 : Hid (Below w2.heap.size w2 Y) := Lib.hid (hb3.trans (b5.mono hb3.size))
    have HSF : Hid (Calls Tryz.prog 62 #[.agg #[.slice A2 pf.length c2], .agg #[.slice A f.length c]] Y (RetB (eqL eqM pf f) Y)) := Lib.hid (sF pf f HSM.out Y _ _ A2 A c2 c vs2 vs (hml2.grown (grown_below b5) (fun g e => by cases e)) (hfr2.grown (grown_below b5) (fun g e => by cases e)) (HML.out.grown (grown_below HBY.out) (fun g e => by cases e)) (HFR.out.grown (grown_below HBY.out) (fun g e => by cases e)))
    have cY := (HY0.out.keep HB5.out).c1
    have c5 := m5.cell (i := 0) rfl
    have n1 := HY1.out.keep HB5.out
    have n2 := HY2.out.keep HB5.out
    clear m5 b5 hml2 hfr2 hvl2 hcap2
    by_cases hpe : pe = 0
    · subst hpe
      cases heq : eqL eqM pf f with
      | true =>
        rw [heq] at HSF
        have HRv : Hid (R = (t, 0)) := Lib.hid (by rw [HR2.out]; simp [heq])
        go_upto_region 7 with (go_at_call 62; refine (HSF.out).mono ?_; rintro e v4 ⟨rfl, hb4⟩)
        have HB4 : Hid (Below w2.heap.size w2 v4) := Lib.hid (HB5.out.trans (hb4.mono HB5.out.size))
        have hbW : Below w.heap.size w v4 := HBY.out.trans (hb4.mono HBY.out.size)
        replace n1 := n1.keep hb4
        replace n2 := n2.keep hb4
        clear cY c5 hb4
        have k0 := ((HBX.out.keep HB4.out).cells 0 v rfl).1
        have hcv := conv_own (row_keep HOWN.out HB4.out)
        have e1 := n1.c1
        have e2 := n2.c1
        have f1 := n1.f1
        have f2 := n2.f1
        go_wp2_with fail
        have z1 := (n1.set1 (i := 0) (by simp) (.string ⟨t.toArray⟩)).far1 (b := w.heap.size + 1 + 1) (by omega) 0 (.int .i64 0)
        have z2 := (n2.far1 (b := w.heap.size + 1) (by omega) 0 (.string ⟨t.toArray⟩)).set1 (i := 0) (by simp) (.int .i64 0)
        have zb := below_set1 (below_set1 (hbW) (b := w.heap.size + 1) (by omega) 0 (.string ⟨t.toArray⟩)) (b := w.heap.size + 1 + 1) (by omega) 0 (.int .i64 0)
        generalize (v4.setCell ⟨w.heap.size + 1, 0, none⟩ (.string ⟨t.toArray⟩)).setCell ⟨w.heap.size + 1 + 1, 0, none⟩ (.int .i64 0) = Z at *
        refine leaves_cons (f := 59) (args := #[.pointer (some ⟨w.heap.size + 1, 0, none⟩), .pointer (some ⟨w.heap.size + 1 + 1, 0, none⟩)]) (by simp) (by simp [go_sem]) ?_
        refine (qcatch_idle (w.heap.size + 1) (w.heap.size + 1 + 1) _ w.heap.size w zb zb.size).mono ?_
        rintro e u' w9 ⟨rfl, rfl, hb9, hb10⟩
        have x1 := (z1.keep hb9).c1
        have x2 := (z2.keep hb9).c1
        clear e1 e2 f1 f2
        simp [Leaves, settle, results, Tryz.results32, go_sem, x1, x2]
        rw [HRv.out]
        exact ⟨rfl, hb10⟩
      | false =>
        rw [heq] at HSF
        have HRv : Hid (R = ([], 90)) := Lib.hid (by rw [HR2.out]; simp [heq])
        go_upto_region 6 with (go_at_call 62; refine (HSF.out).mono ?_; rintro e v4 ⟨rfl, hb4⟩)
        have hbW : Below w.heap.size w v4 := HBY.out.trans (hb4.mono HBY.out.size)
        replace n1 := n1.keep hb4
        replace n2 := n2.keep hb4
        clear cY c5 hb4
        have e1 := n1.c1
        have e2 := n2.c1
        have f1 := n1.f1
        have f2 := n2.f1
        go_wp2_with fail
        have z1 := (n1.set1 (i := 0) (by simp) (.string ⟨#[]⟩)).far1 (b := w.heap.size + 1 + 1) (by omega) 0 (.int .i64 90)
        have z2 := (n2.far1 (b := w.heap.size + 1) (by omega) 0 (.string ⟨#[]⟩)).set1 (i := 0) (by simp) (.int .i64 90)
        have zb := below_set1 (below_set1 (hbW) (b := w.heap.size + 1) (by omega) 0 (.string ⟨#[]⟩)) (b := w.heap.size + 1 + 1) (by omega) 0 (.int .i64 90)
        generalize (v4.setCell ⟨w.heap.size + 1, 0, none⟩ (.string ⟨#[]⟩)).setCell ⟨w.heap.size + 1 + 1, 0, none⟩ (.int .i64 90) = Z at *
        refine leaves_cons (f := 59) (args := #[.pointer (some ⟨w.heap.size + 1, 0, none⟩), .pointer (some ⟨w.heap.size + 1 + 1, 0, none⟩)]) (by simp) (by simp [go_sem]) ?_
        refine (qcatch_idle (w.heap.size + 1) (w.heap.size + 1 + 1) _ w.heap.size w zb zb.size).mono ?_
        rintro e u' w9 ⟨rfl, rfl, hb9, hb10⟩
        have x1 := (z1.keep hb9).c1
        have x2 := (z2.keep hb9).c1
        clear e1 e2 f1 f2
        simp [Leaves, settle, results, Tryz.results32, go_sem, x1, x2]
        rw [HRv.out]
        exact ⟨rfl, hb10⟩
    · have heb : ((pe : Int) != 0) = true := by simp; omega
      have HRv : Hid (R = ([], 90)) := Lib.hid (by rw [HR2.out]; simp [hpe])
      have e1 := n1.c1
      have e2 := n2.c1
      have f1 := n1.f1
      have f2 := n2.f1
      go_wp2_with fail
      have z1 := (n1.set1 (i := 0) (by simp) (.string ⟨#[]⟩)).far1 (b := w.heap.size + 1 + 1) (by omega) 0 (.int .i64 90)
      have z2 := (n2.far1 (b := w.heap.size + 1) (by omega) 0 (.string ⟨#[]⟩)).set1 (i := 0) (by simp) (.int .i64 90)
      have zb := below_set1 (below_set1 (HBY.out) (b := w.heap.size + 1) (by omega) 0 (.string ⟨#[]⟩)) (b := w.heap.size + 1 + 1) (by omega) 0 (.int .i64 90)
      generalize (Y.setCell ⟨w.heap.size + 1, 0, none⟩ (.string ⟨#[]⟩)).setCell ⟨w.heap.size + 1 + 1, 0, none⟩ (.int .i64 90) = Z at *
      refine leaves_cons (f := 59) (args := #[.pointer (some ⟨w.heap.size + 1, 0, none⟩), .pointer (some ⟨w.heap.size + 1 + 1, 0, none⟩)]) (by simp) (by simp [go_sem]) ?_
      refine (qcatch_idle (w.heap.size + 1) (w.heap.size + 1 + 1) _ w.heap.size w zb zb.size).mono ?_
      rintro e u' w9 ⟨rfl, rfl, hb9, hb10⟩
      have x1 := (z1.keep hb9).c1
      have x2 := (z2.keep hb9).c1
      clear e1 e2 f1 f2
      simp [Leaves, settle, results, Tryz.results32, go_sem, x1, x2]
      rw [HRv.out]
      exact ⟨rfl, hb10⟩

end Sy
end Go.Proofs.YtggeepimihhpjaaGreatDoor
