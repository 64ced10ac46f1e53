/- The list of a module's items as it grows. -/
import Derived.Test.YtggeepimihhpjaaGreatDoorPS
namespace Go.Proofs.YtggeepimihhpjaaGreatDoor
open Go.RowKit Go.Shelf Sl Fr Lx
namespace Sy
set_option linter.unusedVariables false
set_option linter.unusedSimpArgs false

theorem FR.lt {w : World} {S : Nat → Prop} {A : Option Addr} {cs : List Value} (h : FR w S A cs) : FR w (fun b => S b ∧ b < w.heap.size) A cs := fun hne => by
  obtain ⟨b, o, h1, h2, h3, h4⟩ := h hne
  exact ⟨b, o, h1, ⟨h2, h3⟩, h3, h4⟩
theorem IR.lt {w : World} {S : Nat → Prop} {i : ItemT} {cs : Array Value} (h : IR w S i cs) : IR w (fun b => S b ∧ b < w.heap.size) i cs := by
  obtain ⟨Aa, ca, Ab, cb, Ac, cc, An, cn, Ap, cp, h1, h2, h3, h4, h5, h6, h7, h8⟩ := h
  exact ⟨Aa, ca, Ab, cb, Ac, cc, An, cn, Ap, cp, h1, ER.lt _ _ h2, ER.lt _ _ h3, ER.lt _ _ h4, h5, h6.lt, h7, h8.lt⟩
theorem IR.size {w : World} {S : Nat → Prop} {i : ItemT} {cs : Array Value} (h : IR w S i cs) : cs.toList.length = 35 := by
  obtain ⟨Aa, ca, Ab, cb, Ac, cc, An, cn, Ap, cp, rfl, _⟩ := h
  rfl
theorem IR.one {w : World} {S : Nat → Prop} {i : ItemT} {cs : Array Value} (h : IR w S i cs) : ∀ u ∈ cs.toList, u.oneCell' = true := by
  obtain ⟨Aa, ca, Ab, cb, Ac, cc, An, cn, Ap, cp, rfl, _⟩ := h
  simp [iC, Value.oneCell']
def IL (w : World) (S : Nat → Prop) : List ItemT → List Value → Prop
  | [], vs => vs = []
  | e :: r, vs => ∃ cs vs', vs = cs.toList ++ vs' ∧ IR w S e cs ∧ IL w S r vs'
section
variable {w w' : World} {S S' : Nat → Prop}
theorem IL.grown {row : Option Nat} (hg : w.grownBy w' row) (hr : ∀ g, row = some g → ¬ S g) : ∀ {l : List ItemT} {vs : List Value}, IL w S l vs → IL w' S l vs
  | [], _, h => h
  | _ :: _, _, ⟨cs, vs', h1, h2, h3⟩ => ⟨cs, vs', h1, h2.grown hg hr, h3.grown hg hr⟩
theorem IL.lt : ∀ {l : List ItemT} {vs : List Value}, IL w S l vs → IL w (fun b => S b ∧ b < w.heap.size) l vs
  | [], _, h => h
  | _ :: _, _, ⟨cs, vs', h1, h2, h3⟩ => ⟨cs, vs', h1, h2.lt, h3.lt⟩
theorem IL.mono (hs : ∀ b, S b → S' b) : ∀ {l : List ItemT} {vs : List Value}, IL w S l vs → IL w S' l vs
  | [], _, h => h
  | _ :: _, _, ⟨cs, vs', h1, h2, h3⟩ => ⟨cs, vs', h1, h2.mono hs, h3.mono hs⟩
theorem IL.snoc {e : ItemT} {cs : Array Value} (he : IR w S e cs) : ∀ {l : List ItemT} {vs : List Value}, IL w S l vs → IL w S (l ++ [e]) (vs ++ cs.toList)
  | [], _, h => by cases h; exact ⟨cs, [], by simp, he, rfl⟩
  | _ :: _, _, ⟨cs', vs', h1, h2, h3⟩ => ⟨cs', vs' ++ cs.toList, by rw [h1, List.append_assoc], h2, h3.snoc he⟩
end
def AI (W : World) (base L : Nat) (v : Value) (es : List ItemT) : Prop := ∃ vs, W.ownsRow base 69 35 v es.length vs ∧ v.ownBlock ≠ some L ∧ IL W (fun b => base ≤ b ∧ b ≠ L ∧ v.ownBlock ≠ some b) es vs
section
variable {W W' : World} {base L : Nat} {v : Value} {es : List ItemT}
theorem AI.kept {row : Option Nat} (h : AI W base L v es) (hg : W.grownBy W' row) (hr : ∀ g, row = some g → g < base ∨ g = L) : AI W' base L v es := by
  obtain ⟨vs, h1, h2, h3⟩ := h
  refine ⟨vs, h1.kept hg ?_, h2, h3.grown hg ?_⟩
  · cases hb : v.ownBlock with
    | none => exact .inl rfl
    | some g =>
      refine .inr fun e => ?_
      have h4 := (h1.lt g hb).1
      rw [hb] at h2
      rcases hr g e.symm with h5 | h5
      · omega
      · exact h2 (by rw [h5])
  · intro g e ⟨h4, h5, h6⟩
    rcases hr g e with h7 | h7
    · omega
    · exact h5 h7
theorem AI.grown {pb : Nat} (h : AI W base L v es) (hg : W.grownBy W' (some pb)) (ne : pb < base) : AI W' base L v es := h.kept hg fun g e => .inl (by injection e with e; omega)
theorem AI.set (h : AI W base L v es) (j : Nat) (u : Value) : AI (W.setCell ⟨L, j, none⟩ u) base L v es := h.kept (grown_set W L j u) fun g e => .inr (by injection e with e; omega)
theorem AI.alloc (h : AI W base L v es) (o : Obj) : AI (W.alloc o) base L v es := h.kept (World.grownBy_alloc W o none) fun g e => by cases e
theorem AI.nil (W : World) (base L : Nat) : AI W base L (.slice none 0 0) [] := ⟨[], World.ownsRow_nil _ _ _ _, by simp [Value.ownBlock], rfl⟩
end
theorem infoItem : (Tryz.prog.info? 69).map (fun i => (i.size, i.bytes)) = some (35, 480) := by kernel_rfl
theorem infoItemZ : ((Tryz.prog.info? 69).bind (·.zero)).map (fun z => z.cells.size) = some 35 := by kernel_rfl
theorem wp_append_ai {W W2 : World} {base L pb : Nat} {v : Value} {es : List ItemT} {b : ItemT} {cs : Array Value} {o : Oper} {a : Act} {K : Act → World → Prop} {Q : Exit → Act → World → Prop} (s x : Operand)
    (ho : o.op = .call { callee := .builtin .append, args := #[s, x], argTypes := #[44, 44] }) (hs : a.eval s = v) (hx : a.eval x = .slice (some ⟨W2.heap.size, 0, none⟩) 1 1)
    (h : AI W base L v es) (hL : L < W.heap.size) (hb : base ≤ W.heap.size) (hg : W.grownBy W2 (some pb)) (hpb : pb < base) (hv : IR W2 (Fresh W) b cs) (hes : es.length ≤ 10000)
    (hK : ∀ g cap wx, AI wx base L (.slice (some ⟨g, 0, none⟩) (es.length + 1) cap) (es ++ [b]) → (∃ r, (W2.alloc (.cells cs 69)).grownBy wx r ∧ ∀ g, r = some g → base ≤ g ∧ g ≠ L) → K (a.put o.dst (.slice (some ⟨g, 0, none⟩) (es.length + 1) cap)) wx) :
    o.wp Tryz.prog a (W2.alloc (.cells cs 69)) K Q := by
  obtain ⟨i0, hi0, hzz⟩ : ∃ i, Tryz.prog.info? 69 = some i ∧ (i.size, i.bytes) = (35, 480) := by
    have := infoItem
    cases hi : Tryz.prog.info? 69 with
    | none => rw [hi] at this; cases this
    | some i => rw [hi] at this; exact ⟨i, rfl, by simpa using this⟩
  simp only [Prod.mk.injEq] at hzz
  obtain ⟨hz1, hz2⟩ := hzz
  obtain ⟨z, hz0, hzs⟩ : ∃ z, i0.zero = some z ∧ z.cells.size = 35 := by
    have := infoItemZ
    rw [hi0] at this
    simp only [Option.bind_some] at this
    cases hq : i0.zero with
    | none => rw [hq] at this; cases this
    | some z => rw [hq] at this; exact ⟨z, rfl, by simpa using this⟩
  have h2 := (h.grown hg hpb).alloc (.cells cs 69)
  have hown0 : ∀ g, v.ownBlock = some g → g < W.heap.size := by
    obtain ⟨vs, h3, _⟩ := h
    exact fun g hg => (h3.lt g hg).2
  obtain ⟨vs, h3, h4, h5⟩ := h2
  have hsz := hg.size
  refine wp_append_lies _ s x _ ho base 69 i0 z 35 480 Tryz.underlying44 hi0 hz0 hz1 hz2 hzs (by decide) v es.length vs hs h3 ⟨W2.heap.size, 0, none⟩ 1 1 cs.toList hx (by rw [hv.size]) (by
    have h9 := World.news_of_block (cs := cs) (t := 69) (fr := (0, 0)) (heap_alloc_new W2 (.cells cs 69))
    simpa using h9) hv.one (by decide) (by unfold maxLen; omega) (by omega) (by simp; omega) _ rfl ?_
  intro g cap wx hown hgrow hat hlt
  refine hK g cap wx ⟨vs ++ cs.toList, by rw [List.length_append]; exact hown, ?_, IL.snoc ?_ ?_⟩ ⟨_, hgrow, fun g hg => ⟨(h3.lt g hg).1, fun e => h4 (by rw [hg, e])⟩⟩
  · intro e
    have e : g = L := by simpa [Value.ownBlock] using e
    rcases hat with hat | hat
    · exact h4 (by rw [hat, e])
    · simp at hat; omega
  · have h6 := ((hv.lt).grown (World.grownBy_alloc W2 (.cells cs 69) none) (fun g e => by cases e)).grown hgrow (fun g hg hf => by have := hown0 g hg; have h7 : W.heap.size ≤ g := hf.1; omega)
    refine h6.mono (fun x hb => ⟨Nat.le_trans ‹base ≤ W.heap.size› hb.1, fun e => ?_, fun e => ?_⟩)
    · have h7 : W.heap.size ≤ x := hb.1; omega
    · have e : g = x := by simpa [Value.ownBlock] using e
      have h7 : W.heap.size ≤ x := hb.1
      have h8 := hb.2
      rcases hat with hat | hat
      · have := hown0 g hat; omega
      · simp at hat; omega
  · refine IL.mono (fun x hb => ⟨hb.1.1, hb.1.2.1, fun e => ?_⟩) (IL.grown hgrow (fun g hg hf => hf.1.2.2 hg) (IL.lt h5))
    have e : g = x := by simpa [Value.ownBlock] using e
    rcases hat with hat | hat
    · exact hb.1.2.2 (by rw [hat, e])
    · have := hb.2; simp at this hat; omega
theorem wp_buildI {o : Oper} {a : Act} {X : World} {K : Act → World → Prop} {Q : Exit → Act → World → Prop} {p : Operand} (ho : o.op = .buildSlice 44 1 #[(0, p)]) {i : ItemT} {Aa : Option Addr} {ca : Nat} {Ab : Option Addr} {cb : Nat} {Ac : Option Addr} {cc : Nat} {An : Option Addr} {cn : Nat} {Ap : Option Addr} {cp : Nat} (hx : a.eval p = .agg (iC i Aa ca Ab cb Ac cc An cn Ap cp)) (h : K (a.put o.dst (.slice (some ⟨X.heap.size, 0, none⟩) 1 1)) (X.alloc (.cells (iC i Aa ca Ab cb Ac cc An cn Ap cp) 69))) : o.wp Tryz.prog a X K Q := by
  unfold Oper.wp
  generalize a.eval = ev at hx ⊢
  unfold execOp
  rw [ho]
  unfold iC at hx h
  go_simp
  exact h
end Sy
end Go.Proofs.YtggeepimihhpjaaGreatDoor
