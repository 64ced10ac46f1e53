/- A statement that leaves the order of its operations open: those that only read are taken first, in worlds that meet a condition; the condition need hold only till the operation number m, for which all that read wait. The parser's state with the library's variables; num. -/
import Derived.Test.YtggeepimihhpjaaGreatDoorW1
import Derived.Deep.RegionHeld
import Derived.Test.YtggeepimihhpjaaGreatDoorP9
namespace Go.Proofs.YtggeepimihhpjaaGreatDoor
open Go.RowKit
namespace Fr
set_option linter.unusedVariables false

section
variable {P : Program} {ops : Array Oper} {Q : Exit → Act → World → Prop} {md : Region.Mode} {S : World → Prop} {m : Nat}

def anyTill (P : Program) (md : Region.Mode) (ops : Array Oper) (Q : Exit → Act → World → Prop) (S : World → Prop) (m : Nat) : Nat → Array Bool → Act → World → Prop
  | 0, listed, a, w => Region.ready md ops listed = [] ∧ Q .normal a w
  | f + 1, listed, a, w => (Region.ready md ops listed = [] → Q .normal a w) ∧ ∀ i ∈ Region.ready md ops listed, wpOp P ops Q i (fun a' w' => (i < m → S w') ∧ anyTill P md ops Q S m f (listed.setIfInBounds i true) a' w') a w

theorem anyTill.any : ∀ (f : Nat) (la : Array Bool) (a : Act) (w : World), anyTill P md ops Q S m f la a w → wpAny P md ops Q f la a w
  | 0, _, _, _, h => h
  | f + 1, _, _, _, h => ⟨h.1, fun i hi => wpOp_mono (fun a' w' h' => anyTill.any f _ a' w' h'.2) (h.2 i hi)⟩

theorem anyTill.first {i : Nat} {oi : Oper} {v : Value} (hi : ops[i]? = some oi) (him : i < m) (hlate : ∀ j oj, ops[j]? = some oj → m ≤ j → ∃ e ∈ oj.after, Region.binds md e = true ∧ e.on = i)
    (hsel : Region.noSelect ops = true) (hQ : ∀ c a w, Q (.panic c) (a.put oi.dst v) w → Q (.panic c) a w) :
    ∀ (f : Nat) (la : Array Bool) (a : Act) (w : World), (∀ j oj, ops[j]? = some oj → j ≠ i → la.getD j true = false → (∀ e ∈ oj.after, Region.binds md e = true → e.on ≠ i) → oi.apart ops oj = true) →
      i ∈ Region.ready md ops la → YieldsIf P ops S oi v a → S w → anyTill P md ops Q S m f (la.setIfInBounds i true) (a.put oi.dst v) w → anyTill P md ops Q S m (f + 1) la a w := by
  have unlisted : ∀ {la : Array Bool}, i ∈ Region.ready md ops la → la.getD i true = false := fun h => (mem_ready.1 h).1
  have early : ∀ {la : Array Bool} {j : Nat} {oj : Oper}, ops[j]? = some oj → j ∈ Region.ready md ops la → i ∈ Region.ready md ops la → ∀ e ∈ oj.after, Region.binds md e = true → e.on ≠ i := fun {la j oj} hoj hj hr e he hb heq => by
    obtain ⟨_, o, ho, hall⟩ := mem_ready.1 hj
    have : o = oj := Option.some.inj (ho.symm.trans hoj)
    subst this
    have h1 := hall e he hb
    have h0 := unlisted hr
    rw [heq] at h1
    rcases Nat.lt_or_ge i la.size with h' | h'
    · simp [h'] at h0 h1; rw [h0] at h1; cases h1
    · simp [Array.getElem?_eq_none h'] at h1
  intro f
  induction f with
  | zero =>
    intro la a w _ hr hy hS H
    refine ⟨fun h => (by rw [h] at hr; cases hr), fun j hj => ?_⟩
    by_cases hji : j = i
    · subst hji; exact hy.wpOp hi hS ⟨fun _ => hS, H⟩
    · have := ready_mono hj hji
      rw [H.1] at this
      cases this
  | succ f ih =>
    intro la a w hfree hr hy hS H
    refine ⟨fun h => (by rw [h] at hr; cases hr), fun j hj => ?_⟩
    by_cases hji : j = i
    · subst hji; exact hy.wpOp hi hS ⟨fun _ => hS, H⟩
    obtain ⟨hun, oj, hoj, _⟩ := mem_ready.1 hj
    have hnot := early hoj hj hr
    have hjm : j < m := by
      rcases Nat.lt_or_ge j m with h | h
      · exact h
      · obtain ⟨e, he, hb, heq⟩ := hlate j oj hoj h
        exact absurd heq (hnot e he hb)
    have h2 := wpOp_putIf hoj (hfree j oj hoj hji hun hnot) (fun cs b => Region.noSelect_spec hsel i oi cs b hi) (fun cs b => Region.noSelect_spec hsel j oj cs b hoj) hQ hy (H.2 j (ready_mono hj hji))
    refine wpOp_mono (fun a' w' h3 => ⟨h3.2.1, ih _ a' w' (fun k ok hk hki hl hno => hfree k ok hk hki ?_ hno) (ready_mono hr (Ne.symm hji)) h3.1 (h3.2.1 hjm) ?_⟩) h2
    · by_cases hjk : j = k
      · subst hjk; exact hun
      · rwa [getD_set_ne true hjk] at hl
    · rw [Array.setIfInBounds_comm _ _ hji]
      exact h3.2.2

def lateB (md : Region.Mode) (ops : Array Oper) (m i : Nat) : Bool := decide (i < m) && (List.range ops.size).all fun j => decide (j < m) || match ops[j]? with
  | some o => o.after.any fun e => Region.binds md e && e.on == i
  | none => true
theorem anyTill.take {i : Nat} {oi : Oper} {v : Value} {f : Nat} {la : Array Bool} {a : Act} {w : World} (hi : ops[i]? = some oi) (hl : lateB md ops m i = true) (hs : Region.noSelect ops = true) (hf : Region.free md ops la i = true) (hr : (Region.ready md ops la).contains i = true)
    (hQ : ∀ c a w, Q (.panic c) (a.put oi.dst v) w → Q (.panic c) a w) (hy : YieldsIf P ops S oi v a) (hS : S w) (h : anyTill P md ops Q S m f (la.setIfInBounds i true) (a.put oi.dst v) w) : anyTill P md ops Q S m (f + 1) la a w := by
  simp only [lateB, Bool.and_eq_true, decide_eq_true_eq] at hl
  refine anyTill.first hi hl.1 (fun j oj hoj hjm => ?_) hs hQ f la a w (Region.free_spec hi hf) (by simpa using hr) hy hS h
  have h1 := List.all_eq_true.1 hl.2 j (List.mem_range.2 (Array.getElem?_eq_some_iff.1 hoj).1)
  simp only [hoj, Bool.or_eq_true, decide_eq_true_eq] at h1
  rcases h1 with h1 | h1
  · omega
  · obtain ⟨e, he, hb⟩ := Array.any_eq_true'.1 h1
    simp only [Bool.and_eq_true, beq_iff_eq] at hb
    exact ⟨e, he, hb.1, hb.2⟩
theorem anyTill.one {i : Nat} {o : Oper} {f : Nat} {la : Array Bool} {a : Act} {w : World} (ho : ops[i]? = some o) (hr : Region.ready md ops la = [i]) (hw : Region.wanted o (yielded ops a.tmps) = true)
    (h : ∀ K : Act → World → Prop, Shut (∀ a' w', (i < m → S w') → ((i < m → S w') → anyTill P md ops Q S m f (la.setIfInBounds i true) a' w') → K a' w') → o.wp P a w K Q) : anyTill P md ops Q S m (f + 1) la a w := by
  refine ⟨fun h0 => (by rw [h0] at hr; cases hr), fun j hj => ?_⟩
  rw [hr, List.mem_singleton] at hj
  subst hj
  unfold wpOp
  simp only [ho, hw, if_true]
  exact .inl (h _ fun a' w' h1 h2 => ⟨h1, h2 h1⟩)
theorem anyTill.done {la : Array Bool} {a : Act} {w : World} (hr : Region.ready md ops la = []) (h : Q .normal a w) : ∀ f, anyTill P md ops Q S m f la a w
  | 0 => ⟨hr, h⟩
  | _ + 1 => ⟨fun _ => h, by rw [hr]; simp⟩
end
section
variable {P : Program} {l : List Oper} {Q : Exit → Act → World → Prop} {md : Region.Mode} {S : World → Prop} {m : Nat}
theorem anyTill.reads {i : Nat} {oi : Oper} {v : Value} {f : Nat} {la : Array Bool} {a : Act} {w : World} (hi : l[i]? = some oi) (hl : lateB md l.toArray m i = true) (hs : Region.noSelect l.toArray = true) (hf : Region.free md l.toArray la i = true) (hr : (Region.ready md l.toArray la).contains i = true)
    (hQ : ∀ c a w, Q (.panic c) (a.put oi.dst v) w → Q (.panic c) a w) (hw : Region.wanted oi (yielded l.toArray a.tmps) = true) (hy : ∀ w, S w → (execOp a.eval oi).run P w = .ok (.value v) w) (hS : S w) (h : anyTill P md l.toArray Q S m f (la.setIfInBounds i true) (a.put oi.dst v) w) : anyTill P md l.toArray Q S m (f + 1) la a w :=
  anyTill.take (by simpa using hi) hl hs hf hr hQ (.inl ⟨hw, hy⟩) hS h
theorem anyTill.alone {i : Nat} {o : Oper} {f : Nat} {la : Array Bool} {a : Act} {w : World} (ho : l[i]? = some o) (hr : Region.ready md l.toArray la = [i]) (hw : Region.wanted o (yielded l.toArray a.tmps) = true)
    (h : ∀ K : Act → World → Prop, Shut (∀ a' w', (i < m → S w') → ((i < m → S w') → anyTill P md l.toArray Q S m f (la.setIfInBounds i true) a' w') → K a' w') → o.wp P a w K Q) : anyTill P md l.toArray Q S m (f + 1) la a w :=
  anyTill.one (by simpa using ho) hr hw h
end
theorem wp_region_till {P : Program} {id : Nat} {ops : Array Oper} {Q : Exit → Act → World → Prop} {a : Act} {w : World} (S : World → Prop) (m : Nat) (hm : P.follows .mixedOrders = true) (hS : S w.drew)
    (h : S w.drew → anyTill P .any ops Q S m ops.size (Array.replicate ops.size false) a w.drew) : (Code.region id ops true).wp P Q a w :=
  wp_region_any hm (anyTill.any _ _ _ _ (h hS))

end Fr
end Go.Proofs.YtggeepimihhpjaaGreatDoor

namespace Go.Proofs.YtggeepimihhpjaaGreatDoor
open Go.RowKit Go.Shelf Sl Fr Lx
namespace Sy
set_option linter.unusedVariables false
set_option linter.unusedSimpArgs false
attribute [local go_sem] field_t0 field_t1 field_t2

theorem VarsC.grown {w w' : World} {row : Option Nat} (h : VarsC w) (hg : w.grownBy w' row) (hb : ∀ g name, Tryz.prog.globalNamed name = some g → some g ≠ row) : VarsC w' := by
  have vk : ∀ {name : String} {cs : Array Value}, w.var? Tryz.prog name = some cs → w'.var? Tryz.prog name = some cs := by
    intro name cs h
    unfold World.var? at *
    cases hgn : Tryz.prog.globalNamed name with
    | none => rw [hgn] at h; cases h
    | some g =>
      rw [hgn] at h
      simp only [Option.bind_some] at h ⊢
      have hlt : g < w.heap.size := by
        rcases Nat.lt_or_ge g w.heap.size with h' | h'
        · exact h'
        · rw [Array.getElem?_eq_none h'] at h; cases h
      rw [hg.block g hlt (hb g name hgn)]
      exact h
  exact ⟨vk h.pow, let ⟨tp, p, hv⟩ := h.range; ⟨tp, p, vk hv⟩, let ⟨tp, p, hv⟩ := h.syn; ⟨tp, p, vk hv⟩⟩
structure PX (n pb : Nat) (l : List Tk) (w : World) : Prop where
  ps : PS w n pb l
  vars : VarsC w
  glob : ∀ g name, Tryz.prog.globalNamed name = some g → g < pb
  room : n ≤ w.heap.size
theorem PX.lt {n pb : Nat} {l : List Tk} {w : World} (h : PX n pb l w) : pb < w.heap.size := by
  obtain ⟨_, _, _, h⟩ := h.ps.field1
  exact h
theorem PX.below {n pb : Nat} {l : List Tk} {w w' : World} (h : PX n pb l w) (hb : Below w.heap.size w w') : PX n pb l w' := ⟨h.ps.below hb, h.vars.keep hb, h.glob, Nat.le_trans h.room hb.size⟩
theorem PX.alloc {n pb : Nat} {l : List Tk} {w : World} (h : PX n pb l w) (o : Obj) : PX n pb l (w.alloc o) := h.below ((Below.refl _ w).alloc (Nat.le_refl _) o)
theorem PX.call {n pb : Nat} {l r : List Tk} {w w' : World} (h : PX n pb l w) (hg : w.grownBy w' (some pb)) (hp : PS w' n pb r) : PX n pb r w' := ⟨hp, h.vars.grown hg (fun g name hgn e => by injection e with e; have := h.glob g name hgn; omega), h.glob, Nat.le_trans h.room hg.size⟩
theorem PX.grown {n pb : Nat} {l : List Tk} {w w' : World} {row : Option Nat} (h : PX n pb l w) (hg : w.grownBy w' row) (hr : ∀ g, row = some g → n ≤ g) : PX n pb l w' := by
  obtain ⟨h0, hx, tb, o, c, mR, mO, mI, h1, h2, h2', h3, h4, _⟩ := h.ps
  exact ⟨h.ps.grown hg hr, h.vars.grown hg (fun g name hgn e => by have := h.glob g name hgn; have := hr g e.symm; have := h4.1; omega), h.glob, Nat.le_trans h.room hg.size⟩
theorem PX.setAll {n pb b : Nat} {l : List Tk} (hb : n ≤ b) : ∀ (vs : List Value) (W : World) (i : Nat), PX n pb l W → PX n pb l (setAll b W i vs)
  | [], W, i, h => h
  | v :: vs, W, i, h => PX.setAll hb vs _ _ (h.grown (grown_set W b i v) (fun g e => by injection e with e; omega))
theorem grown_fresh {w W : World} {row : Option Nat} {b : Nat} (hb : w.heap.size ≤ b) : ∀ (vs : List Value) (W : World) (i : Nat), w.grownBy W row → w.grownBy (Fr.setAll b W i vs) row
  | [], W, i, h => h
  | v :: vs, W, i, h => grown_fresh (W := W) hb vs _ _ (by
    have hg := grown_set W b i v
    exact ⟨hg.os.trans h.os, hg.tape.trans h.tape, hg.output.trans h.output, Nat.le_trans h.size hg.size, fun c hc hne => (hg.block c (Nat.lt_of_lt_of_le hc h.size) (fun e => by injection e with e; omega)).trans (h.block c hc hne)⟩)
section
variable {α : Type} {f : FuncId} {args : Array Value} {n pb a : Nat} {l r : List Tk} {m : PM α} {w : World}
theorem rd_ok {V : α → World → Value → Prop} (h : Calls Tryz.prog f args w (Gives n pb l m V w)) (hx : PX n pb l w) {x : α} (hm : m l = .ok x r) :
    Calls Tryz.prog f args w fun e w' => ∃ v, e = .returned v ∧ V x w' v ∧ PX n pb r w' ∧ w.grownBy w' (some pb) := h.mono fun e w' hg => by
  obtain ⟨v, rfl, hv, hp, hg⟩ := hg.ok hm
  exact ⟨v, rfl, hv, hx.call hg hp, hg⟩
theorem rd_is {g : α → Value} (h : Calls Tryz.prog f args w (Gives n pb l m (fun x _ v => v = g x) w)) (hx : PX n pb l w) {x : α} (hm : m l = .ok x r) :
    Calls Tryz.prog f args w fun e w' => e = .returned (g x) ∧ PX n pb r w' ∧ w.grownBy w' (some pb) := (rd_ok h hx hm).mono fun e w' ⟨v, h1, h2, h3, h4⟩ => ⟨by rw [h1, h2], h3, h4⟩
theorem rd_no {V : α → World → Value → Prop} (h : Calls Tryz.prog f args w (Gives n pb l m V w)) (hm : m l = .no a) :
    Calls Tryz.prog f args w fun e w' => e = .panicked (refV a) ∧ w.grownBy w' (some pb) := h.mono fun e w' hg => hg.no hm
end
theorem gb {w w' : World} {pb : Nat} (h : Below w.heap.size w w') : w.grownBy w' (some pb) := grown_none (grown_below h)
theorem number0 (n pb : Nat) (l : List Tk) (w : World) (h : PX n pb l w) : Calls Tryz.prog 165 #[.pointer (some ⟨pb, 0, none⟩), .int .i64 0] w (Gives n pb l (numberP 0) IntV w) := number_any n pb l 0 w h.ps h.vars (by omega)
theorem number1 (n pb : Nat) (l : List Tk) (w : World) (h : PX n pb l w) : Calls Tryz.prog 165 #[.pointer (some ⟨pb, 0, none⟩), .int .i64 1] w (Gives n pb l (numberP 1) IntV w) := number_any n pb l 1 w h.ps h.vars (by omega)
theorem give_box {α : Type} {n pb b : Nat} {l r : List Tk} {m : PM α} {V : α → World → Value → Prop} {w W : World} {x : α} (vs : List Value) (hm : m l = .ok x r) (hV : V x (Fr.setAll b W 0 vs) (.agg vs.toArray)) (hx : PX n pb r W) (hb : n ≤ b) (hg : w.grownBy W (some pb)) (hw : w.heap.size ≤ b) :
    Gives n pb l m V w (.returned (.agg vs.toArray)) (Fr.setAll b W 0 vs) := Gives.of_ok hm hV (PX.setAll hb vs W 0 hx).ps (grown_fresh (W := W) hw vs W 0 hg)
def numA (x : NumT) : Value := .agg #[.int .i64 x.n, .string ⟨x.p.toArray⟩]
def NumV : NumT → World → Value → Prop := fun x _ v => v = numA x

theorem accept_yes {n pb : Nat} {l : List Tk} {w : World} {z : ByteArray} (h : PX n pb l w) (hz : bys z ≠ []) (he : (nextT l).text = bys z) :
    Calls Tryz.prog 145 #[.pointer (some ⟨pb, 0, none⟩), .string z] w fun e w' => e = .returned (.bool true) ∧ PX n pb l.tail w' ∧ w.grownBy w' (some pb) := by
  refine (accept_any n pb l z w h.ps hz).mono ?_
  rintro e w' ⟨rfl, hp, hg⟩
  rw [if_pos he] at hp
  exact ⟨by rw [decide_eq_true he], h.call hg hp, hg⟩
theorem accept_no {n pb : Nat} {l : List Tk} {w : World} {z : ByteArray} (h : PX n pb l w) (hz : bys z ≠ []) (he : ¬ (nextT l).text = bys z) :
    Calls Tryz.prog 145 #[.pointer (some ⟨pb, 0, none⟩), .string z] w fun e w' => e = .returned (.bool false) ∧ PX n pb l w' ∧ w.grownBy w' (some pb) := by
  refine (accept_any n pb l z w h.ps hz).mono ?_
  rintro e w' ⟨rfl, hp, hg⟩
  rw [if_neg he] at hp
  exact ⟨by rw [decide_eq_false he], h.call hg hp, hg⟩

def ruleA (x : RuleT) : Value := .agg #[.int .i64 x.kind, .string ⟨x.from_.toArray⟩, .int .i64 x.n]
def RuleV : RuleT → World → Value → Prop := fun x _ v => v = ruleA x
def bindA (x : BindT) : Value := .agg #[.string ⟨x.port.toArray⟩, .string ⟨x.chan.toArray⟩]
def BindV : BindT → World → Value → Prop := fun x _ v => v = bindA x
set_option maxRecDepth 100000 in
set_option maxHeartbeats 4000000 in
theorem rule_any (n pb : Nat) (l : List Tk) (w : World) (h : PX n pb l w) :
    Calls Tryz.prog 137 #[.pointer (some ⟨pb, 0, none⟩)] w (Gives n pb l ruleP RuleV w) := by
  have hlt0 := h.lt
  obtain ⟨m0, bA⟩ := start1 w #[.int .i64 0, .string ⟨#[]⟩, .int .i64 0] 65
  have hX := h.below bA
  have hgX : w.grownBy _ (some pb) := gb bA
  have nb0 : some w.heap.size ≠ some pb := fun e => by injection e with e; omega
  have HB0 := Lib.hid (Nat.le_refl w.heap.size)
  have HN0 := Lib.hid h.room
  go_enter Tryz.func137, Tryz.ntmps137
  go_upto_region 1 with fail
  generalize w.alloc (.cells #[.int .i64 0, .string ⟨#[]⟩, .int .i64 0] 65) = X at *
  obtain ⟨b0, hb0⟩ : ∃ b, b = w.heap.size := ⟨_, rfl⟩
  rw [← hb0] at m0 nb0 HN0 ⊢
  have HE0 := Lib.hid hb0
  have HX := Lib.hid hX
  have HM0 := Lib.hid m0
  have HGX := Lib.hid hgX
  have HM := Lib.hid (congrFun ruleP.eq_1 l)
  clear h bA hX m0 hgX hlt0 hb0
  by_cases he1 : (nextT l).text = w_init
  · have HM1 := Lib.hid (by have q := HM.out; rw [bind_ok (show accept w_init l = .ok true (l).tail from if_pos he1)] at q; simp only [↓reduceIte, Bool.false_eq_true] at q; exact q)
    have HC1 := Lib.hid (fun W (hW : PX n pb l W) => accept_yes (z := ⟨#[105, 110, 105, 116]⟩) hW (by decide) he1)
    generalize (l).tail = l1 at *
    clear HM
    go_wp2_with (go_at_call 145; with_reducible refine (HC1.out _ HX.out).mono ?_; rintro e w1 ⟨rfl, hx1, hg1⟩; have mR1 := (HM0.out).grown hg1 nb0; obtain ⟨cR0, cR1, cR2⟩ := (mR1).c3; obtain ⟨fR0, fR1, fR2⟩ := (mR1).f3)
    have q := (mR1).s3 (.int .i64 0) (.string ⟨#[]⟩) (.int .i64 0)
    obtain ⟨s0, s1, s2⟩ := q.c3
    exact bodyPost_ret (v := .agg #[.int .i64 0, .string ⟨#[]⟩, .int .i64 0]) (by simp [results, Tryz.results137, go_sem, s0, s1, s2]) rfl (give_box [.int .i64 0, .string ⟨#[]⟩, .int .i64 0] HM1.out rfl hx1 HN0.out (((HGX.out).trans hg1)) (Nat.le_of_eq HE0.out.symm))
  · have HM1 := Lib.hid (by have q := HM.out; rw [bind_ok (show accept w_init l = .ok false l from if_neg he1)] at q; simp only [↓reduceIte, Bool.false_eq_true] at q; exact q)
    have HC1 := Lib.hid (fun W (hW : PX n pb l W) => accept_no (z := ⟨#[105, 110, 105, 116]⟩) hW (by decide) he1)
    clear HM
    by_cases he2 : (nextT l).text = w_keep
    · have HM2 := Lib.hid (by have q := HM1.out; rw [bind_ok (show accept w_keep l = .ok true (l).tail from if_pos he2)] at q; simp only [↓reduceIte, Bool.false_eq_true] at q; exact q)
      have HC2 := Lib.hid (fun W (hW : PX n pb l W) => accept_yes (z := ⟨#[107, 101, 101, 112]⟩) hW (by decide) he2)
      generalize (l).tail = l2 at *
      clear HM1
      go_wp2_with (first
        | (go_at_call 145; with_reducible refine (HC1.out _ HX.out).mono ?_; rintro e w1 ⟨rfl, hx1, hg1⟩; have mR1 := (HM0.out).grown hg1 nb0)
        | (go_at_call 145; with_reducible refine (HC2.out _ hx1).mono ?_; rintro e w2 ⟨rfl, hx2, hg2⟩; have mR2 := (mR1).grown hg2 nb0; obtain ⟨cR0, cR1, cR2⟩ := (mR2).c3; obtain ⟨fR0, fR1, fR2⟩ := (mR2).f3))
      have q := (mR2).s3 (.int .i64 1) (.string ⟨#[]⟩) (.int .i64 0)
      obtain ⟨s0, s1, s2⟩ := q.c3
      exact bodyPost_ret (v := .agg #[.int .i64 1, .string ⟨#[]⟩, .int .i64 0]) (by simp [results, Tryz.results137, go_sem, s0, s1, s2]) rfl (give_box [.int .i64 1, .string ⟨#[]⟩, .int .i64 0] HM2.out rfl hx2 HN0.out (((((HGX.out).trans hg1)).trans hg2)) (Nat.le_of_eq HE0.out.symm))
    · have HM2 := Lib.hid (by have q := HM1.out; rw [bind_ok (show accept w_keep l = .ok false l from if_neg he2)] at q; simp only [↓reduceIte, Bool.false_eq_true] at q; exact q)
      have HC2 := Lib.hid (fun W (hW : PX n pb l W) => accept_no (z := ⟨#[107, 101, 101, 112]⟩) hW (by decide) he2)
      clear HM1
      by_cases he3 : (nextT l).text = w_copy
      · have HM3 := Lib.hid (by have q := HM2.out; rw [bind_ok (show accept w_copy l = .ok true (l).tail from if_pos he3)] at q; simp only [↓reduceIte, Bool.false_eq_true] at q; exact q)
        have HC3 := Lib.hid (fun W (hW : PX n pb l W) => accept_yes (z := ⟨#[99, 111, 112, 121]⟩) hW (by decide) he3)
        generalize (l).tail = l3 at *
        clear HM2
        cases hm4 : nameP l3 with
        | no a =>
          have HMM := Lib.hid (HM3.out.trans (bind_no hm4))
          have HC4 := Lib.hid (fun W (hW : PX n pb l3 W) => rd_no (name_any n pb l3 W hW.ps) hm4)
          clear hm4
          go_wp2_with (first
            | (go_at_call 145; with_reducible refine (HC1.out _ HX.out).mono ?_; rintro e w1 ⟨rfl, hx1, hg1⟩; have mR1 := (HM0.out).grown hg1 nb0)
            | (go_at_call 145; with_reducible refine (HC2.out _ hx1).mono ?_; rintro e w2 ⟨rfl, hx2, hg2⟩; have mR2 := (mR1).grown hg2 nb0)
            | (go_at_call 145; with_reducible refine (HC3.out _ hx2).mono ?_; rintro e w3 ⟨rfl, hx3, hg3⟩; have mR3 := (mR2).grown hg3 nb0)
            | (go_at_call 133; with_reducible refine (HC4.out _ hx3).mono ?_; rintro e w4 ⟨rfl, hg4⟩))
          exact ⟨rfl, Gives.of_no HMM.out ((((((((HGX.out).trans hg1)).trans hg2)).trans hg3)).trans hg4)⟩
        | ok x4 l4 =>
          have HM4 := Lib.hid (HM3.out.trans (bind_ok hm4))
          have HC4 := Lib.hid (fun W (hW : PX n pb l3 W) => rd_is (g := fun x : By => .string ⟨x.toArray⟩) (name_any n pb l3 W hW.ps) hW hm4)
          clear hm4 HM3
          go_wp2_with (first
            | (go_at_call 145; with_reducible refine (HC1.out _ HX.out).mono ?_; rintro e w1 ⟨rfl, hx1, hg1⟩; have mR1 := (HM0.out).grown hg1 nb0)
            | (go_at_call 145; with_reducible refine (HC2.out _ hx1).mono ?_; rintro e w2 ⟨rfl, hx2, hg2⟩; have mR2 := (mR1).grown hg2 nb0)
            | (go_at_call 145; with_reducible refine (HC3.out _ hx2).mono ?_; rintro e w3 ⟨rfl, hx3, hg3⟩; have mR3 := (mR2).grown hg3 nb0)
            | (go_at_call 133; with_reducible refine (HC4.out _ hx3).mono ?_; rintro e w4 ⟨rfl, hx4, hg4⟩; have mR4 := (mR3).grown hg4 nb0; obtain ⟨cR0, cR1, cR2⟩ := (mR4).c3; obtain ⟨fR0, fR1, fR2⟩ := (mR4).f3))
          have q := (mR4).s3 (.int .i64 2) (.string ⟨x4.toArray⟩) (.int .i64 0)
          obtain ⟨s0, s1, s2⟩ := q.c3
          exact bodyPost_ret (v := .agg #[.int .i64 2, .string ⟨x4.toArray⟩, .int .i64 0]) (by simp [results, Tryz.results137, go_sem, s0, s1, s2]) rfl (give_box [.int .i64 2, .string ⟨x4.toArray⟩, .int .i64 0] HM4.out rfl hx4 HN0.out (((((((((HGX.out).trans hg1)).trans hg2)).trans hg3)).trans hg4)) (Nat.le_of_eq HE0.out.symm))
      · have HM3 := Lib.hid (by have q := HM2.out; rw [bind_ok (show accept w_copy l = .ok false l from if_neg he3)] at q; simp only [↓reduceIte, Bool.false_eq_true] at q; exact q)
        have HC3 := Lib.hid (fun W (hW : PX n pb l W) => accept_no (z := ⟨#[99, 111, 112, 121]⟩) hW (by decide) he3)
        clear HM2
        cases hm5 : expect w_add l with
        | no a =>
          have HMM := Lib.hid (HM3.out.trans (bind_no hm5))
          have HC5 := Lib.hid (fun W (hW : PX n pb l W) => rd_no (expect_any n pb l ⟨#[97, 100, 100]⟩ W hW.ps (by decide)) hm5)
          clear hm5
          go_wp2_with (first
            | (go_at_call 145; with_reducible refine (HC1.out _ HX.out).mono ?_; rintro e w1 ⟨rfl, hx1, hg1⟩; have mR1 := (HM0.out).grown hg1 nb0)
            | (go_at_call 145; with_reducible refine (HC2.out _ hx1).mono ?_; rintro e w2 ⟨rfl, hx2, hg2⟩; have mR2 := (mR1).grown hg2 nb0)
            | (go_at_call 145; with_reducible refine (HC3.out _ hx2).mono ?_; rintro e w3 ⟨rfl, hx3, hg3⟩; have mR3 := (mR2).grown hg3 nb0)
            | (go_at_call 138; with_reducible refine (HC5.out _ hx3).mono ?_; rintro e w5 ⟨rfl, hg5⟩))
          exact ⟨rfl, Gives.of_no HMM.out ((((((((HGX.out).trans hg1)).trans hg2)).trans hg3)).trans hg5)⟩
        | ok u5 l5 =>
          have HM5 := Lib.hid (HM3.out.trans (bind_ok hm5))
          have HC5 := Lib.hid (fun W (hW : PX n pb l W) => rd_is (g := fun _ : Unit => Value.tuple #[]) (expect_any n pb l ⟨#[97, 100, 100]⟩ W hW.ps (by decide)) hW hm5)
          clear hm5 HM3
          cases hm6 : nameP l5 with
          | no a =>
            have HMM := Lib.hid (HM5.out.trans (bind_no hm6))
            have HC6 := Lib.hid (fun W (hW : PX n pb l5 W) => rd_no (name_any n pb l5 W hW.ps) hm6)
            clear hm6
            go_wp2_with (first
              | (go_at_call 145; with_reducible refine (HC1.out _ HX.out).mono ?_; rintro e w1 ⟨rfl, hx1, hg1⟩; have mR1 := (HM0.out).grown hg1 nb0)
              | (go_at_call 145; with_reducible refine (HC2.out _ hx1).mono ?_; rintro e w2 ⟨rfl, hx2, hg2⟩; have mR2 := (mR1).grown hg2 nb0)
              | (go_at_call 145; with_reducible refine (HC3.out _ hx2).mono ?_; rintro e w3 ⟨rfl, hx3, hg3⟩; have mR3 := (mR2).grown hg3 nb0)
              | (go_at_call 138; with_reducible refine (HC5.out _ hx3).mono ?_; rintro e w5 ⟨rfl, hx5, hg5⟩; have mR5 := (mR3).grown hg5 nb0)
              | (go_at_call 133; with_reducible refine (HC6.out _ hx5).mono ?_; rintro e w6 ⟨rfl, hg6⟩))
            exact ⟨rfl, Gives.of_no HMM.out ((((((((((HGX.out).trans hg1)).trans hg2)).trans hg3)).trans hg5)).trans hg6)⟩
          | ok x6 l6 =>
            have HM6 := Lib.hid (HM5.out.trans (bind_ok hm6))
            have HC6 := Lib.hid (fun W (hW : PX n pb l5 W) => rd_is (g := fun x : By => .string ⟨x.toArray⟩) (name_any n pb l5 W hW.ps) hW hm6)
            clear hm6 HM5
            cases hm7 : numberP 0 l6 with
            | no a =>
              have HMM := Lib.hid (HM6.out.trans (bind_no hm7))
              have HC7 := Lib.hid (fun W (hW : PX n pb l6 W) => rd_no (number0 n pb l6 W hW) hm7)
              clear hm7
              go_wp2_with (first
                | (go_at_call 145; with_reducible refine (HC1.out _ HX.out).mono ?_; rintro e w1 ⟨rfl, hx1, hg1⟩; have mR1 := (HM0.out).grown hg1 nb0)
                | (go_at_call 145; with_reducible refine (HC2.out _ hx1).mono ?_; rintro e w2 ⟨rfl, hx2, hg2⟩; have mR2 := (mR1).grown hg2 nb0)
                | (go_at_call 145; with_reducible refine (HC3.out _ hx2).mono ?_; rintro e w3 ⟨rfl, hx3, hg3⟩; have mR3 := (mR2).grown hg3 nb0)
                | (go_at_call 138; with_reducible refine (HC5.out _ hx3).mono ?_; rintro e w5 ⟨rfl, hx5, hg5⟩; have mR5 := (mR3).grown hg5 nb0)
                | (go_at_call 133; with_reducible refine (HC6.out _ hx5).mono ?_; rintro e w6 ⟨rfl, hx6, hg6⟩; have mR6 := (mR5).grown hg6 nb0)
                | (go_at_call 165; with_reducible refine (HC7.out _ hx6).mono ?_; rintro e w7 ⟨rfl, hg7⟩))
              exact ⟨rfl, Gives.of_no HMM.out ((((((((((((HGX.out).trans hg1)).trans hg2)).trans hg3)).trans hg5)).trans hg6)).trans hg7)⟩
            | ok x7 l7 =>
              have HM7 := Lib.hid (HM6.out.trans (bind_ok hm7))
              have HC7 := Lib.hid (fun W (hW : PX n pb l6 W) => rd_is (g := fun x : Nat => .int .i64 (x : Int)) (number0 n pb l6 W hW) hW hm7)
              clear hm7 HM6
              go_wp2_with (first
                | (go_at_call 145; with_reducible refine (HC1.out _ HX.out).mono ?_; rintro e w1 ⟨rfl, hx1, hg1⟩; have mR1 := (HM0.out).grown hg1 nb0)
                | (go_at_call 145; with_reducible refine (HC2.out _ hx1).mono ?_; rintro e w2 ⟨rfl, hx2, hg2⟩; have mR2 := (mR1).grown hg2 nb0)
                | (go_at_call 145; with_reducible refine (HC3.out _ hx2).mono ?_; rintro e w3 ⟨rfl, hx3, hg3⟩; have mR3 := (mR2).grown hg3 nb0)
                | (go_at_call 138; with_reducible refine (HC5.out _ hx3).mono ?_; rintro e w5 ⟨rfl, hx5, hg5⟩; have mR5 := (mR3).grown hg5 nb0)
                | (go_at_call 133; with_reducible refine (HC6.out _ hx5).mono ?_; rintro e w6 ⟨rfl, hx6, hg6⟩; have mR6 := (mR5).grown hg6 nb0)
                | (go_at_call 165; with_reducible refine (HC7.out _ hx6).mono ?_; rintro e w7 ⟨rfl, hx7, hg7⟩; have mR7 := (mR6).grown hg7 nb0; obtain ⟨cR0, cR1, cR2⟩ := (mR7).c3; obtain ⟨fR0, fR1, fR2⟩ := (mR7).f3))
              have q := (mR7).s3 (.int .i64 3) (.string ⟨x6.toArray⟩) (.int .i64 (x7 : Int))
              obtain ⟨s0, s1, s2⟩ := q.c3
              exact bodyPost_ret (v := .agg #[.int .i64 3, .string ⟨x6.toArray⟩, .int .i64 (x7 : Int)]) (by simp [results, Tryz.results137, go_sem, s0, s1, s2]) rfl (give_box [.int .i64 3, .string ⟨x6.toArray⟩, .int .i64 (x7 : Int)] HM7.out rfl hx7 HN0.out (((((((((((((HGX.out).trans hg1)).trans hg2)).trans hg3)).trans hg5)).trans hg6)).trans hg7)) (Nat.le_of_eq HE0.out.symm))

end Sy
end Go.Proofs.YtggeepimihhpjaaGreatDoor
