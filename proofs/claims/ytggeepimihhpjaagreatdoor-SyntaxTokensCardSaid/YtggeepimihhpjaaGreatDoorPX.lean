/- file. operators: a literal map. newParser. -/
import Derived.Test.YtggeepimihhpjaaGreatDoorPU
import Derived.Carry
namespace Go.Proofs.YtggeepimihhpjaaGreatDoor
open Go.RowKit Go.Shelf Sl Fr Lx
namespace Sy
set_option linter.unusedVariables false
set_option linter.unusedSimpArgs false
attribute [local go_sem] field_t0 field_t1 field_t2

section
variable {w w' : World} {S S' : Nat → Prop} {m : ModT} {cs : Array Value}
theorem MR.grown {row : Option Nat} (h : MR w S m cs) (hg : w.grownBy w' row) (hr : ∀ g, row = some g → ¬ S g) : MR w' S m cs := by
  obtain ⟨Ap, cp, Ai, ci, h1, h2, h3, h4, vs, h5, h6, h7⟩ := h
  exact ⟨Ap, cp, Ai, ci, h1, h2, h3.grown hg hr, h4, vs, h5, h6.grown hg hr, h7.grown hg hr⟩
theorem MR.mono (h : MR w S m cs) (hs : ∀ b, S b → S' b) : MR w S' m cs := by
  obtain ⟨Ap, cp, Ai, ci, h1, h2, h3, h4, vs, h5, h6, h7⟩ := h
  exact ⟨Ap, cp, Ai, ci, h1, h2, h3.mono hs, h4, vs, h5, h6.mono hs, h7.mono hs⟩
theorem MR.lt (h : MR w S m cs) : MR w (fun b => S b ∧ b < w.heap.size) m cs := by
  obtain ⟨Ap, cp, Ai, ci, h1, h2, h3, h4, vs, h5, h6, h7⟩ := h
  exact ⟨Ap, cp, Ai, ci, h1, h2, h3.lt, h4, vs, h5, h6.lt, h7.lt⟩
theorem MR.size (h : MR w S m cs) : cs.toList.length = 4 := by
  obtain ⟨Ap, cp, Ai, ci, rfl, _⟩ := h
  rfl
theorem MR.one (h : MR w S m cs) : ∀ u ∈ cs.toList, u.oneCell' = true := by
  obtain ⟨Ap, cp, Ai, ci, rfl, _⟩ := h
  simp [Value.oneCell']
end
def ML (w : World) (S : Nat → Prop) : List ModT → List Value → Prop
  | [], vs => vs = []
  | e :: r, vs => ∃ cs vs', vs = cs.toList ++ vs' ∧ MR w S e cs ∧ ML w S r vs'
section
variable {w w' : World} {S S' : Nat → Prop}
theorem ML.grown {row : Option Nat} (hg : w.grownBy w' row) (hr : ∀ g, row = some g → ¬ S g) : ∀ {l : List ModT} {vs : List Value}, ML w S l vs → ML w' S l vs
  | [], _, h => h
  | _ :: _, _, ⟨cs, vs', h1, h2, h3⟩ => ⟨cs, vs', h1, h2.grown hg hr, h3.grown hg hr⟩
theorem ML.lt : ∀ {l : List ModT} {vs : List Value}, ML w S l vs → ML w (fun b => S b ∧ b < w.heap.size) l vs
  | [], _, h => h
  | _ :: _, _, ⟨cs, vs', h1, h2, h3⟩ => ⟨cs, vs', h1, h2.lt, h3.lt⟩
theorem ML.mono (hs : ∀ b, S b → S' b) : ∀ {l : List ModT} {vs : List Value}, ML w S l vs → ML w S' l vs
  | [], _, h => h
  | _ :: _, _, ⟨cs, vs', h1, h2, h3⟩ => ⟨cs, vs', h1, h2.mono hs, h3.mono hs⟩
theorem ML.snoc {e : ModT} {cs : Array Value} (he : MR w S e cs) : ∀ {l : List ModT} {vs : List Value}, ML w S l vs → ML w S (l ++ [e]) (vs ++ cs.toList)
  | [], _, h => by cases h; exact ⟨cs, [], by simp, he, rfl⟩
  | _ :: _, _, ⟨cs', vs', h1, h2, h3⟩ => ⟨cs', vs' ++ cs.toList, by rw [h1, List.append_assoc], h2, h3.snoc he⟩
end
def AM (W : World) (base L : Nat) (v : Value) (es : List ModT) : Prop := ∃ vs, W.ownsRow base 46 4 v es.length vs ∧ v.ownBlock ≠ some L ∧ ML W (fun b => base ≤ b ∧ b ≠ L ∧ v.ownBlock ≠ some b) es vs
section
variable {W W' : World} {base L : Nat} {v : Value} {es : List ModT}
theorem AM.kept {row : Option Nat} (h : AM W base L v es) (hg : W.grownBy W' row) (hr : ∀ g, row = some g → g < base ∨ g = L) : AM W' base L v es := by
  obtain ⟨vs, h1, h2, h3⟩ := h
  refine ⟨vs, h1.kept hg ?_, h2, h3.grown hg ?_⟩
  · cases hb : v.ownBlock with
    | none => exact .inl rfl
    | some g =>
      refine .inr fun e => ?_
      have h4 := (h1.lt g hb).1
      rw [hb] at h2
      rcases hr g e.symm with h5 | h5
      · omega
      · exact h2 (by rw [h5])
  · intro g e ⟨h4, h5, h6⟩
    rcases hr g e with h7 | h7
    · omega
    · exact h5 h7
theorem AM.grown {pb : Nat} (h : AM W base L v es) (hg : W.grownBy W' (some pb)) (ne : pb < base) : AM W' base L v es := h.kept hg fun g e => .inl (by injection e with e; omega)
theorem AM.set (h : AM W base L v es) (j : Nat) (u : Value) : AM (W.setCell ⟨L, j, none⟩ u) base L v es := h.kept (grown_set W L j u) fun g e => .inr (by injection e with e; omega)
theorem AM.alloc (h : AM W base L v es) (o : Obj) : AM (W.alloc o) base L v es := h.kept (World.grownBy_alloc W o none) fun g e => by cases e
theorem AM.nil (W : World) (base L : Nat) : AM W base L (.slice none 0 0) [] := ⟨[], World.ownsRow_nil _ _ _ _, by simp [Value.ownBlock], rfl⟩
end
theorem infoMod : (Tryz.prog.info? 46).map (fun i => (i.size, i.bytes)) = some (4, 80) := by kernel_rfl
theorem infoModZ : ((Tryz.prog.info? 46).bind (·.zero)).map (fun z => z.cells.size) = some 4 := by kernel_rfl
theorem wp_append_am {W W2 : World} {base L pb : Nat} {v : Value} {es : List ModT} {b : ModT} {cs : Array Value} {o : Oper} {a : Act} {K : Act → World → Prop} {Q : Exit → Act → World → Prop} (s x : Operand)
    (ho : o.op = .call { callee := .builtin .append, args := #[s, x], argTypes := #[25, 25] }) (hs : a.eval s = v) (hx : a.eval x = .slice (some ⟨W2.heap.size, 0, none⟩) 1 1)
    (h : AM W base L v es) (hL : L < W.heap.size) (hb : base ≤ W.heap.size) (hg : W.grownBy W2 (some pb)) (hpb : pb < base) (hv : MR W2 (Fresh W) b cs) (hes : es.length ≤ 10000)
    (hK : ∀ g cap wx, AM wx base L (.slice (some ⟨g, 0, none⟩) (es.length + 1) cap) (es ++ [b]) → (∃ r, (W2.alloc (.cells cs 46)).grownBy wx r ∧ ∀ g, r = some g → base ≤ g ∧ g ≠ L) → K (a.put o.dst (.slice (some ⟨g, 0, none⟩) (es.length + 1) cap)) wx) :
    o.wp Tryz.prog a (W2.alloc (.cells cs 46)) K Q := by
  obtain ⟨i0, hi0, hzz⟩ : ∃ i, Tryz.prog.info? 46 = some i ∧ (i.size, i.bytes) = (4, 80) := by
    have := infoMod
    cases hi : Tryz.prog.info? 46 with
    | none => rw [hi] at this; cases this
    | some i => rw [hi] at this; exact ⟨i, rfl, by simpa using this⟩
  simp only [Prod.mk.injEq] at hzz
  obtain ⟨hz1, hz2⟩ := hzz
  obtain ⟨z, hz0, hzs⟩ : ∃ z, i0.zero = some z ∧ z.cells.size = 4 := by
    have := infoModZ
    rw [hi0] at this
    simp only [Option.bind_some] at this
    cases hq : i0.zero with
    | none => rw [hq] at this; cases this
    | some z => rw [hq] at this; exact ⟨z, rfl, by simpa using this⟩
  have h2 := (h.grown hg hpb).alloc (.cells cs 46)
  have hown0 : ∀ g, v.ownBlock = some g → g < W.heap.size := by
    obtain ⟨vs, h3, _⟩ := h
    exact fun g hg => (h3.lt g hg).2
  obtain ⟨vs, h3, h4, h5⟩ := h2
  have hsz := hg.size
  refine wp_append_lies _ s x _ ho base 46 i0 z 4 80 Tryz.underlying25 hi0 hz0 hz1 hz2 hzs (by decide) v es.length vs hs h3 ⟨W2.heap.size, 0, none⟩ 1 1 cs.toList hx (by rw [hv.size]) (by
    have h9 := World.news_of_block (cs := cs) (t := 46) (fr := (0, 0)) (heap_alloc_new W2 (.cells cs 46))
    simpa using h9) hv.one (by decide) (by unfold maxLen; omega) (by omega) (by simp; omega) _ rfl ?_
  intro g cap wx hown hgrow hat hlt
  refine hK g cap wx ⟨vs ++ cs.toList, by rw [List.length_append]; exact hown, ?_, ML.snoc ?_ ?_⟩ ⟨_, hgrow, fun g hg => ⟨(h3.lt g hg).1, fun e => h4 (by rw [hg, e])⟩⟩
  · intro e
    have e : g = L := by simpa [Value.ownBlock] using e
    rcases hat with hat | hat
    · exact h4 (by rw [hat, e])
    · simp at hat; omega
  · have h6 := ((hv.lt).grown (World.grownBy_alloc W2 (.cells cs 46) none) (fun g e => by cases e)).grown hgrow (fun g hg hf => by have := hown0 g hg; have h7 : W.heap.size ≤ g := hf.1; omega)
    refine h6.mono (fun x hb => ⟨Nat.le_trans ‹base ≤ W.heap.size› hb.1, fun e => ?_, fun e => ?_⟩)
    · have h7 : W.heap.size ≤ x := hb.1; omega
    · have e : g = x := by simpa [Value.ownBlock] using e
      have h7 : W.heap.size ≤ x := hb.1
      have h8 := hb.2
      rcases hat with hat | hat
      · have := hown0 g hat; omega
      · simp at hat; omega
  · refine ML.mono (fun x hb => ⟨hb.1.1, hb.1.2.1, fun e => ?_⟩) (ML.grown hgrow (fun g hg hf => hf.1.2.2 hg) (ML.lt h5))
    have e : g = x := by simpa [Value.ownBlock] using e
    rcases hat with hat | hat
    · exact hb.1.2.2 (by rw [hat, e])
    · have := hb.2; simp at this hat; omega

theorem wp_buildM {o : Oper} {a : Act} {X : World} {K : Act → World → Prop} {Q : Exit → Act → World → Prop} {p : Operand} (ho : o.op = .buildSlice 25 1 #[(0, p)]) {x y : ByteArray} {A B : Option Addr} {j k c e : Nat} (hx : a.eval p = .agg #[.string x, .string y, .slice A j c, .slice B k e]) (h : K (a.put o.dst (.slice (some ⟨X.heap.size, 0, none⟩) 1 1)) (X.alloc (.cells #[.string x, .string y, .slice A j c, .slice B k e] 46))) : o.wp Tryz.prog a X K Q := by
  unfold Oper.wp
  generalize a.eval = ev at hx ⊢
  unfold execOp
  rw [ho]
  go_simp
  exact h
def FileV (w : World) (f : FileT) (w' : World) (v : Value) : Prop := ∃ A c vs, v = .agg #[.slice A f.length c] ∧ f.length ≤ c ∧ vs.length = f.length * 4 ∧ ML w' (Fresh w) f vs ∧ FR w' (Fresh w) A vs
def FGives (n pb : Nat) (l : List Tk) (w : World) (e : Ending) (w' : World) : Prop := w.grownBy w' (some pb) ∧ match fileP l with
  | .ok f _ => ∃ v, e = .returned v ∧ FileV w f w' v
  | .no a => e = .panicked (refV a)
theorem FGives.of_ok {n pb : Nat} {l r : List Tk} {w w' : World} {f : FileT} {v : Value} (hm : fileP l = .ok f r) (hg : w.grownBy w' (some pb)) (hv : FileV w f w' v) : FGives n pb l w (.returned v) w' := by
  unfold FGives; rw [hm]; exact ⟨hg, v, rfl, hv⟩
theorem FGives.of_no {n pb a : Nat} {l : List Tk} {w w' : World} (hm : fileP l = .no a) (hg : w.grownBy w' (some pb)) : FGives n pb l w (.panicked (refV a)) w' := by
  unfold FGives; rw [hm]; exact ⟨hg, rfl⟩
def FiAt (n pb b0 b1 base : Nat) (l0 : List Tk) (w W : World) : Prop := ∃ (lk : List Tk) (acc : FileT) (v : Value), PX n pb lk W ∧ BoxL W b0 #[.slice none 0 0] ∧ BoxL W b1 #[v] ∧ AM W base b1 v acc ∧ base ≤ W.heap.size ∧ w.grownBy W (some pb) ∧ acc.length + lk.length ≤ 10000 ∧ fileP l0 = fileFrom acc lk

set_option maxRecDepth 100000 in
set_option maxHeartbeats 4000000 in
theorem file_any (n pb : Nat) (l : List Tk) (w : World) (h : PX n pb l w) :
    Calls Tryz.prog 49 #[.pointer (some ⟨pb, 0, none⟩)] w (FGives n pb l w) := by
  have hlt0 := h.lt
  have hrm := h.room
  obtain ⟨m0, m1, bA⟩ := start2 w #[.slice none 0 0] #[.slice none 0 0] 27 27
  have hX := h.below bA
  have hgX : w.grownBy _ (some pb) := gb bA
  have hle := h.le
  clear h
  go_enter Tryz.func49, Tryz.ntmps49
  go_wp2_with fail
  generalize (w.alloc (.cells #[.slice none 0 0] 27)).alloc (.cells #[.slice none 0 0] 27) = X at *
  obtain ⟨b0, hb0⟩ : ∃ b, b = w.heap.size := ⟨_, rfl⟩
  rw [← hb0] at m0 m1 ⊢
  have hw0 : w.heap.size ≤ b0 := Nat.le_of_eq hb0.symm
  have h1X := m1.lt
  obtain ⟨base, hbase⟩ : ∃ b, b = X.heap.size := ⟨_, rfl⟩
  rw [← hbase] at h1X
  have n0 : some b0 ≠ some pb := fun e => by injection e; omega
  have n1 : some (b0 + 1) ≠ some pb := fun e => by injection e; omega
  have hpb : pb < base := by omega
  have HS : Hid (FiAt n pb b0 (b0 + 1) base l w X) := Lib.hid ⟨l, [], .slice none 0 0, hX, m0, m1, AM.nil _ _ _, Nat.le_of_eq hbase, hgX, by simpa using hle, congrFun file_from l⟩
  clear m0 m1 bA hX hgX hb0 hbase hle
  go_loopw [7] (fun _ W => FiAt n pb b0 (b0 + 1) base l w W) (fun _ W => leftN W pb)
  case atStart => exact HS.out
  case round =>
    obtain ⟨lk, acc, v, hxk, hrk, hlk, hik, hbk, hgk, hbd, hmk⟩ := hrel
    have HBD := Lib.hid hbd
    have HLE := Lib.hid hxk.left
    have HLT := Lib.hid hxk.ps.lt
    have HSTEP := Lib.hid (file_step hxk.ps.lt (acc := acc))
    have HMK := Lib.hid hmk
    have HN := Lib.hid (next_any n pb lk _ hxk.ps)
    unfold tkA at HN
    have HXK := Lib.hid hxk
    have HLK := Lib.hid hlk
    have HRK := Lib.hid hrk
    have HIK := Lib.hid hik
    have HGK := Lib.hid hgk
    clear hxk hlk hrk hik hgk hbd hmk HS
    by_cases he4 : (nextT lk).kind = 4
    · have HM4 := Lib.hid (HMK.out.trans (HSTEP.out.trans (if_pos he4)))
      rw [he4] at HN
      clear HSTEP HMK he4 HLT HLE
      generalize (⟨(nextT lk).text.toArray⟩ : ByteArray) = tx at *
      generalize (nextT lk).at_ = ta at *
      go_upto_region 4 with (go_at_call 95; with_reducible refine HN.out.mono ?_; rintro e w8 ⟨rfl, hb8⟩)
      have hx8 := HXK.out.below hb8
      have l8 := HLK.out.keep hb8
      have r8 := HRK.out.keep hb8
      have i8 := HIK.out.kept (grown_below hb8) (fun g e => by cases e)
      have g8 := HGK.out.trans (gb hb8)
      have b8 : base ≤ w8.heap.size := Nat.le_trans hbk hb8.size
      obtain ⟨vs7, r7, _, hil⟩ := i8
      obtain ⟨A7, c7, e7, hc7, hf7⟩ := row_form r7
      have hln7 := r7.1
      subst e7
      have q0 := l8.c1
      have q1 := r8.c1
      have q2 := r8.f1
      have gF := grown_set w8 b0 0 (.slice A7 acc.length c7)
      have q := r8.set1 (i := 0) (by simp) (.slice A7 acc.length c7)
      have s0 := q.c1
      go_wp2_with fail
      exact bodyPost_ret (v := .agg #[.slice A7 acc.length c7]) (by simp [results, Tryz.results49, go_sem, s0]) rfl (FGives.of_ok HM4.out (grown_row g8 gF (fun g e => by injection e; omega)) ⟨A7, c7, vs7, rfl, hc7, hln7, (hil.grown gF (fun g e h => by injection e; have := h.1; omega)).mono (fun b h => by show w.heap.size ≤ b; have := h.1; omega), (hf7.grown gF (fun g e h => by injection e; omega)).mono (fun b h => by show w.heap.size ≤ b; omega)⟩)
    · have HM4 := Lib.hid (HMK.out.trans (HSTEP.out.trans (if_neg he4)))
      have e4 : (((nextT lk).kind : Int) != 4) = true := by simp; omega
      have e5 : (((nextT lk).kind : Int) == 4) = false := beq_eq_false_iff_ne.2 (by omega)
      generalize (⟨(nextT lk).text.toArray⟩ : ByteArray) = tx at *
      generalize (nextT lk).kind = kk at *
      generalize (nextT lk).at_ = ta at *
      clear HSTEP HMK
      go_upto_region 3 with (go_at_call 95; with_reducible refine HN.out.mono ?_; rintro e w8 ⟨rfl, hb8⟩)
      have hx8 := HXK.out.below hb8
      have l8 := HLK.out.keep hb8
      have r8 := HRK.out.keep hb8
      have i8 := HIK.out.kept (grown_below hb8) (fun g e => by cases e)
      have g8 := HGK.out.trans (gb hb8)
      have b8 : base ≤ w8.heap.size := Nat.le_trans hbk hb8.size
      clear HXK HLK HRK HIK HGK hb8 HN e4 e5
      cases hm5 : moduleP lk with
      | no a =>
        have HMM := Lib.hid (HM4.out.trans (by rw [hm5]))
        have HC5 := Lib.hid (fun W (hW : PX n pb lk W) => rd_no (module_any n pb lk W hW) hm5)
        clear hm5
        have hD : Below w8.heap.size w8 w8.drew := (Below.refl _ w8).drew
        have hxD := hx8.below hD
        have lD := l8.keep hD
        have rD := r8.keep hD
        have aD := i8.kept (grown_below hD) (fun g e => by cases e)
        have gD := g8.trans (gb hD)
        have bD : base ≤ w8.drew.heap.size := b8
        have c1 := lD.c1
        refine wp_region_till (fun w' => w'.cell? ⟨b0 + 1, 0, none⟩ = some v) 7 (by kernel_rfl) c1 (fun hHeld => ?_)
        clear hD c1 hx8 l8 r8 i8 g8 b8
        generalize w8.drew = D at *
        refine anyTill.reads (i := 0) rfl (by kernel_rfl) (by kernel_rfl) (by kernel_rfl) (by kernel_rfl) (fun _ _ _ h => h) (by rfl) (v := ?_) ?_ (by assumption) ?_
        rotate_left
        · intro wz hz; (try dsimp only at hz); go_split_ands; go_simp; try with_reducible rfl
        simp only [Act.put, List.setIfInBounds_toArray, List.set_cons_zero, List.set_cons_succ]
        refine anyTill.reads (i := 1) rfl (by kernel_rfl) (by kernel_rfl) (by kernel_rfl) (by kernel_rfl) (fun _ _ _ h => h) (by rfl) (v := ?_) ?_ (by assumption) ?_
        rotate_left
        · intro wz hz; (try dsimp only at hz); go_split_ands; go_simp; try with_reducible rfl
        simp only [Act.put, List.setIfInBounds_toArray, List.set_cons_zero, List.set_cons_succ]
        refine anyTill.reads (i := 2) rfl (by kernel_rfl) (by kernel_rfl) (by kernel_rfl) (by kernel_rfl) (fun _ _ _ h => h) (by rfl) (v := ?_) ?_ (by assumption) ?_
        rotate_left
        · intro wz hz; (try dsimp only at hz); go_split_ands; go_simp; try with_reducible rfl
        simp only [Act.put, List.setIfInBounds_toArray, List.set_cons_zero, List.set_cons_succ]
        refine anyTill.alone (i := 3) rfl (by kernel_rfl) (by rfl) (fun K hK => ?_)
        go_wp2_with fail
        go_at_call 96
        refine (HC5.out _ hxD).mono ?_
        rintro e w9 ⟨rfl, hg9⟩
        exact ⟨rfl, FGives.of_no HMM.out (gD.trans hg9)⟩
      | ok x9 l9 =>
        have HMM := Lib.hid (HM4.out.trans (by rw [hm5]))
        have HLEN := Lib.hid (Keeps.module.out lk _ l9 HLT.out hm5).2.1
        have HC5 := Lib.hid (fun W (hW : PX n pb lk W) => rd_ok (module_any n pb lk W hW) hW hm5)
        clear hm5
        have hD : Below w8.heap.size w8 w8.drew := (Below.refl _ w8).drew
        have hxD := hx8.below hD
        have lD := l8.keep hD
        have rD := r8.keep hD
        have aD := i8.kept (grown_below hD) (fun g e => by cases e)
        have gD := g8.trans (gb hD)
        have bD : base ≤ w8.drew.heap.size := b8
        have c1 := lD.c1
        refine wp_region_till (fun w' => w'.cell? ⟨b0 + 1, 0, none⟩ = some v) 7 (by kernel_rfl) c1 (fun hHeld => ?_)
        clear hD c1 hx8 l8 r8 i8 g8 b8
        generalize w8.drew = D at *
        refine anyTill.reads (i := 0) rfl (by kernel_rfl) (by kernel_rfl) (by kernel_rfl) (by kernel_rfl) (fun _ _ _ h => h) (by rfl) (v := ?_) ?_ (by assumption) ?_
        rotate_left
        · intro wz hz; (try dsimp only at hz); go_split_ands; go_simp; try with_reducible rfl
        simp only [Act.put, List.setIfInBounds_toArray, List.set_cons_zero, List.set_cons_succ]
        refine anyTill.reads (i := 1) rfl (by kernel_rfl) (by kernel_rfl) (by kernel_rfl) (by kernel_rfl) (fun _ _ _ h => h) (by rfl) (v := ?_) ?_ (by assumption) ?_
        rotate_left
        · intro wz hz; (try dsimp only at hz); go_split_ands; go_simp; try with_reducible rfl
        simp only [Act.put, List.setIfInBounds_toArray, List.set_cons_zero, List.set_cons_succ]
        refine anyTill.reads (i := 2) rfl (by kernel_rfl) (by kernel_rfl) (by kernel_rfl) (by kernel_rfl) (fun _ _ _ h => h) (by rfl) (v := ?_) ?_ (by assumption) ?_
        rotate_left
        · intro wz hz; (try dsimp only at hz); go_split_ands; go_simp; try with_reducible rfl
        simp only [Act.put, List.setIfInBounds_toArray, List.set_cons_zero, List.set_cons_succ]
        refine anyTill.alone (i := 3) rfl (by kernel_rfl) (by rfl) (fun K hK => ?_)
        go_wp2_with fail
        go_at_call 96
        refine (HC5.out _ hxD).mono ?_
        rintro e w9 ⟨_, rfl, ⟨_, rfl, Ap, cp, Ai, ci, rfl, hir⟩, hx9, hg9⟩
        have y9 := lD.grown hg9 n1
        have hi : MR w9 (Fresh D) x9 #[.string ⟨x9.name.toArray⟩, .string ⟨x9.clock.toArray⟩, .slice Ap x9.params.length cp, .slice Ai x9.items.length ci] := ⟨Ap, cp, Ai, ci, rfl, hir⟩
        refine hK.out _ _ (fun _ => ?_) (fun hHeld0 => ?_)
        · exact y9.c1
        have hHeld := hHeld0 (by decide)
        clear hHeld0
        clear hK K
        try simp only [Act.put, List.setIfInBounds_toArray, List.set_cons_zero, List.set_cons_succ]
        refine anyTill.alone (i := 4) rfl (by kernel_rfl) (by rfl) (fun K hK => ?_)
        refine wp_buildM rfl (by rfl) ?_
        have gA := World.grownBy_alloc w9 (.cells #[.string ⟨x9.name.toArray⟩, .string ⟨x9.clock.toArray⟩, .slice Ap x9.params.length cp, .slice Ai x9.items.length ci] 46) none
        have y10 := y9.grown gA (fun e => by cases e)
        refine hK.out _ _ (fun _ => ?_) (fun hHeld0 => ?_)
        · exact y10.c1
        have hHeld := hHeld0 (by decide)
        clear hHeld0
        clear hK K
        try simp only [Act.put, List.setIfInBounds_toArray, List.set_cons_zero, List.set_cons_succ]
        refine anyTill.alone (i := 5) rfl (by kernel_rfl) (by rfl) (fun K hK => ?_)
        refine wp_append_am _ _ (by rfl) (by rfl) (by rfl) aD lD.lt bD hg9 hpb hi (by have := HBD.out; omega) ?_
        intro g9 cap9 wx mx hq
        obtain ⟨rr, hgx, hrr⟩ := hq
        have y11 := y10.grown hgx (fun e => (hrr _ e.symm).2 rfl)
        refine hK.out _ _ (fun _ => ?_) (fun hHeld0 => ?_)
        · exact y11.c1
        have hHeld := hHeld0 (by decide)
        clear hHeld0
        clear hK K
        try simp only [Act.put, List.setIfInBounds_toArray, List.set_cons_zero, List.set_cons_succ]
        refine anyTill.alone (i := 6) rfl (by kernel_rfl) (by rfl) (fun K hK => ?_)
        go_simp
        refine hK.out _ _ (fun _ => ?_) (fun hHeld0 => ?_)
        · exact y11.c1
        have hHeld := hHeld0 (by decide)
        clear hHeld0
        clear hK K
        try simp only [Act.put, List.setIfInBounds_toArray, List.set_cons_zero, List.set_cons_succ]
        have c1 := y11.c1
        have f1 := y11.f1
        refine anyTill.alone (i := 7) rfl (by kernel_rfl) (by rfl) (fun K hK => ?_)
        go_simp
        refine hK.out _ _ (fun h => absurd h (by decide)) (fun hHeld => ?_)
        clear hK K
        try simp only [Act.put, List.setIfInBounds_toArray, List.set_cons_zero, List.set_cons_succ]
        refine anyTill.done (by kernel_rfl) ?_ _
        clear hHeld c1 f1
        have gS := grown_set wx (b0 + 1) 0 (.slice (some ⟨g9, 0, none⟩) (acc.length + 1) cap9)
        have y12 : BoxL (wx.setCell ⟨b0 + 1, 0, none⟩ (.slice (some ⟨g9, 0, none⟩) (acc.length + 1) cap9)) (b0 + 1) #[(.slice (some ⟨g9, 0, none⟩) (acc.length + 1) cap9)] := by have q := y11.set1 (i := 0) (by simp) (.slice (some ⟨g9, 0, none⟩) (acc.length + 1) cap9); simpa using q
        have r12 := ((((rD.grown hg9 n0).grown gA (fun e => by cases e)).grown hgx (fun e => by have := (hrr _ e.symm).1; omega)).grown gS (fun e => by injection e; omega))
        have a12 := mx.set 0 (.slice (some ⟨g9, 0, none⟩) (acc.length + 1) cap9)
        have b12 : base ≤ (wx.setCell ⟨b0 + 1, 0, none⟩ (.slice (some ⟨g9, 0, none⟩) (acc.length + 1) cap9)).heap.size := by have h1 := hg9.size; have h2 := hgx.size; simp at *; omega
        have x12 := ((hx9.alloc (.cells #[.string ⟨x9.name.toArray⟩, .string ⟨x9.clock.toArray⟩, .slice Ap x9.params.length cp, .slice Ai x9.items.length ci] 46)).grown hgx (fun g e => by have := (hrr g e).1; omega)).grown gS (fun g e => by injection e; omega)
        have g12 := grown_row (grown_row ((gD.trans hg9).trans (World.grownBy_alloc w9 (.cells #[.string ⟨x9.name.toArray⟩, .string ⟨x9.clock.toArray⟩, .slice Ap x9.params.length cp, .slice Ai x9.items.length ci] 46) _)) hgx (fun g e => by have := (hrr g e).1; omega)) gS (fun g e => by injection e; omega)
        have HRE : Hid (FiAt n pb b0 (b0 + 1) base l w (wx.setCell ⟨b0 + 1, 0, none⟩ (.slice (some ⟨g9, 0, none⟩) (acc.length + 1) cap9))) := Lib.hid ⟨l9, acc ++ [x9], (.slice (some ⟨g9, 0, none⟩) (acc.length + 1) cap9), x12, r12, y12, a12, b12, g12, by have h1 := HBD.out; have h2 := HLEN.out; rw [List.length_append]; simp; omega, HMM.out⟩
        have HL13 := Lib.hid x12.left
        clear gS gA hxD lD rD aD gD bD hir hx9 hg9 hi y9 y10 mx hgx hrr y11 y12 r12 a12 b12 x12 g12
        generalize (wx.setCell ⟨b0 + 1, 0, none⟩ (.slice (some ⟨g9, 0, none⟩) (acc.length + 1) cap9)) = Y at *
        go_roundw
        case rel => exact ⟨_, _, _, _, _, _, _, _, _, _, _, HRE.out, rfl⟩
        case measure => have h1 := HLE.out; have h2 := HL13.out; have h3 := HLEN.out; omega

end Sy
end Go.Proofs.YtggeepimihhpjaaGreatDoor

namespace Go.Proofs.YtggeepimihhpjaaGreatDoor
open Go.RowKit Go.Shelf Sl Fr Lx
namespace Sy
set_option linter.unusedVariables false
set_option linter.unusedSimpArgs false

theorem wpList_insertS {P : Program} {ops : Array Oper} {rest : List Oper} {op : Oper} {a : Act} {w : World} {Q : Exit → Act → World → Prop} (hgd : op.guard = none) (t k e : TypeId) (m ko x : Operand) (ho : op.op = .insert t m ko x) (b : Nat) (ps : List (By × Value)) (z : ByteArray) (v : Value)
    (hm : a.eval m = .map (some b)) (hk : a.eval ko = .string z) (hx : a.eval x = v) (h : MapS w b ps) (ht : P.underlying t = some (.map k e)) (hks : P.underlying k = some .string) (hno : findS (bys z) ps = none)
    (hK : ∀ w', MapS w' b (ps ++ [(bys z, v)]) → w.grownBy w' (some b) → wpList P ops Q rest (a.put op.dst undef) w') : wpList P ops Q (op :: rest) a w :=
  wpList_plain hgd fun _ hq => by
    obtain ⟨w', h1, h2, h3⟩ := h.insert ht hks z v hno
    unfold Oper.wp execOp
    simp only [ho, hm, hk, hx, Sem.run_bind, h1, Sem.run_pure, Result.andThen_ok]
    exact hq _ _ (hK w' h2 h3)
theorem new_below {w w' : World} {b : Nat} (hb : w.heap.size ≤ b) {W : World} (h : Below w.heap.size w W) (hg : W.grownBy w' (some b)) : Below w.heap.size w w' := h.grown hg (Nat.le_trans (Nat.le_refl _) h.size) (fun g e => by injection e; omega)
set_option maxRecDepth 100000 in
set_option maxHeartbeats 2000000 in
theorem operators_any (w : World) : Calls Tryz.prog 85 #[] w fun e w' => ∃ b, e = .returned (.map (some b)) ∧ MapS w' b opsE ∧ w.heap.size ≤ b ∧ Below w.heap.size w w' := by
  have hm0 := MapS.made w
  have hb0 : Below w.heap.size w (w.alloc (.map #[] 0)) := (Below.refl _ w).alloc (Nat.le_refl _) _
  have hle : w.heap.size ≤ w.heap.size := Nat.le_refl _
  have hmm := @run_makeMap Tryz.prog
  go_enter Tryz.func85, Tryz.ntmps85
  go_wp2_with (refine wpList_insertS rfl _ _ _ _ _ _ rfl _ _ _ _ rfl rfl rfl (by assumption) Tryz.underlying163 Tryz.underlying9 (by rfl) ?_; intro w' hm' hg'; replace hb0 := new_below hle hb0 hg'; clear hg')
  go_ret
  exact ⟨_, rfl, by assumption, hle, hb0⟩
end Sy
end Go.Proofs.YtggeepimihhpjaaGreatDoor

namespace Go.Proofs.YtggeepimihhpjaaGreatDoor
open Go.RowKit Go.Shelf Sl Fr Lx
namespace Sy
set_option linter.unusedVariables false
set_option linter.unusedSimpArgs false

set_option maxRecDepth 100000 in
set_option maxHeartbeats 4000000 in
theorem newParser_any (w : World) (A : Option Addr) (k c : Nat) : Calls Tryz.prog 48 #[.slice A k c] w fun e w' => ∃ pb mR mO mI, e = .returned (.pointer (some ⟨pb, 0, none⟩)) ∧ BoxL w' pb #[.slice A k c, .map (some mR), .map (some mO), .map (some mI)] ∧
    (mR ≠ pb ∧ mO ≠ pb ∧ mI ≠ pb) ∧ (w.heap.size ≤ pb ∧ w.heap.size ≤ mR ∧ w.heap.size ≤ mO ∧ w.heap.size ≤ mI) ∧ MapS w' mR rsvE ∧ MapS w' mO opsE ∧ MapS w' mI itmE ∧ Below w.heap.size w w' := by
  have hm0 := MapS.made w
  have hb0 : Below w.heap.size w (w.alloc (.map #[] 0)) := (Below.refl _ w).alloc (Nat.le_refl _) _
  have hle : w.heap.size ≤ w.heap.size := Nat.le_refl _
  have HO := Lib.hid operators_any
  have hmm := @run_makeMap Tryz.prog
  go_enter Tryz.func48, Tryz.ntmps48
  go_wp2_with (first
    | (refine wpList_insertS rfl _ _ _ _ _ _ rfl _ _ _ _ rfl rfl rfl hm1 Tryz.underlying167 Tryz.underlying9 (by rfl) ?_; clear hm1; intro w' hm1 hg'; replace hb0 := new_below hleI hb0 hg'; replace hR := hR.kept hg' (fun e => by injection e; omega); replace hO := hO.kept hg' (fun e => by injection e; omega); clear hg')
    | (refine wpList_insertS rfl _ _ _ _ _ _ rfl _ _ _ _ rfl rfl rfl hm0 Tryz.underlying162 Tryz.underlying9 (by rfl) ?_; clear hm0; intro w' hm0 hg'; replace hb0 := new_below hle hb0 hg'; clear hg')
    | (go_at_call 85; refine (HO.out _).mono ?_; rintro e w5 ⟨mO, rfl, hO5, hleO, hbO⟩; have hRl := hm0.lt; have hOl := hO5.lt; have hs5 := hbO.size; have hR := (hm0.kept (grown_below hbO) (fun e => by cases e)).kept (World.grownBy_alloc w5 (.map #[] 0) none) (fun e => by cases e); have hO := hO5.kept (World.grownBy_alloc w5 (.map #[] 0) none) (fun e => by cases e); have hm1 := MapS.made w5; replace hb0 := hb0.trans (hbO.mono hb0.size); have hleI : w.heap.size ≤ w5.heap.size := hb0.size; have hleO2 : w.heap.size ≤ mO := Nat.le_trans (by omega) hleO; replace hb0 := hb0.alloc hb0.size (.map #[] 0); clear hm0 hO5 hbO))
  go_ret
  have l1 := hR.lt
  have l2 := hO.lt
  have l3 := hm1.lt
  have hsz := hb0.size
  exact ⟨w'.heap.size, rfl, w.heap.size, mO, w5.heap.size, BoxL.new _ _ _, ⟨by omega, by omega, by omega⟩, ⟨hsz, hle, hleO2, hleI⟩, hR.kept (World.grownBy_alloc _ _ none) (fun e => by cases e), hO.kept (World.grownBy_alloc _ _ none) (fun e => by cases e), hm1.kept (World.grownBy_alloc _ _ none) (fun e => by cases e), hb0.alloc hsz _⟩
end Sy
end Go.Proofs.YtggeepimihhpjaaGreatDoor
