/- How texts that are put together are lexed. Slices as lists: that a slice's cells hold a list of values, and that this stays so where nothing below is changed. For every row without listed variables: slices of integers that come in, opened. Arguments that consist of integers alone, however nested: opened as a list of integers. Slices that come in whose elements are structs of integers: their cells, row by row. Slices of slices of integers that come in: their lists. Worlds that come later: all that lay lies unturned; regions whose operations and calls leave such worlds; boxes of two and three cells. -/
import Derived.Test.YtggeepimihhpjaaGreatDoorP3
import Derived.Below
import Derived.Laws.OwnMore
import Derived.Deep.Draws
import Derived.WalkSmall
import Derived.OneCell
import Derived.Deep.AppendLies
import Derived.Deep.RegionHeld
import Derived.Test.YtggeepimihhpjaaGreatDoorRows
import Derived.WalkKit
import Derived.ProofKit
import Derived.OpenShut
import Derived.RowKit3
import Derived.ChangeArms
import Derived.Test.YtggeepimihhpjaaGreatDoorM2
namespace Go.Proofs.YtggeepimihhpjaaGreatDoor
open Lx
namespace Sy
set_option linter.unusedVariables false

abbrev KT := Nat × By
def kt (t : Tk) : KT := (t.kind, t.text)
def Hd (r : By) : Prop := ∀ c, r.head? = some c → isWd c = false
def LexS (T : By) (ts : List KT) : Prop := ∀ (r : By) (a : Nat), ∃ l : List Tk, lex a (T ++ r) = (l ++ (lex (a + T.length) r).1, (lex (a + T.length) r).2) ∧ l.map kt = ts
def LexW (T : By) (ts : List KT) : Prop := ∀ (r : By) (a : Nat), Hd r → ∃ l : List Tk, lex a (T ++ r) = (l ++ (lex (a + T.length) r).1, (lex (a + T.length) r).2) ∧ l.map kt = ts
theorem LexS.w {T : By} {ts : List KT} (h : LexS T ts) : LexW T ts := fun r a _ => h r a
theorem LexS.nil : LexS [] [] := fun r a => ⟨[], by simp, rfl⟩
theorem Hd.app {a b : By} (h : Hd a) (hn : a ≠ []) : Hd (a ++ b) := fun c hc => h c (by cases a with
  | nil => exact absurd rfl hn
  | cons x y => simpa using hc)
theorem LexS.app {T U : By} {ts us : List KT} (h : LexS T ts) (k : LexS U us) : LexS (T ++ U) (ts ++ us) := fun r a => by
  obtain ⟨l, h1, h2⟩ := h (U ++ r) a
  obtain ⟨m, k1, k2⟩ := k r (a + T.length)
  refine ⟨l ++ m, ?_, by rw [List.map_append, h2, k2]⟩
  rw [List.append_assoc, h1, k1, List.append_assoc, List.length_append, ← Nat.add_assoc]
theorem LexS.appW {T U : By} {ts us : List KT} (h : LexS T ts) (k : LexW U us) : LexW (T ++ U) (ts ++ us) := fun r a hr => by
  obtain ⟨l, h1, h2⟩ := h (U ++ r) a
  obtain ⟨m, k1, k2⟩ := k r (a + T.length) hr
  refine ⟨l ++ m, ?_, by rw [List.map_append, h2, k2]⟩
  rw [List.append_assoc, h1, k1, List.append_assoc, List.length_append, ← Nat.add_assoc]
theorem LexW.app {T U : By} {ts us : List KT} (h : LexW T ts) (k : LexS U us) (hn : U ≠ []) (hd : Hd U) : LexS (T ++ U) (ts ++ us) := fun r a => by
  obtain ⟨l, h1, h2⟩ := h (U ++ r) a (hd.app hn)
  obtain ⟨m, k1, k2⟩ := k r (a + T.length)
  refine ⟨l ++ m, ?_, by rw [List.map_append, h2, k2]⟩
  rw [List.append_assoc, h1, k1, List.append_assoc, List.length_append, ← Nat.add_assoc]
theorem LexW.appW {T U : By} {ts us : List KT} (h : LexW T ts) (k : LexW U us) (hn : U ≠ []) (hd : Hd U) : LexW (T ++ U) (ts ++ us) := fun r a hr => by
  obtain ⟨l, h1, h2⟩ := h (U ++ r) a (hd.app hn)
  obtain ⟨m, k1, k2⟩ := k r (a + T.length) hr
  refine ⟨l ++ m, ?_, by rw [List.map_append, h2, k2]⟩
  rw [List.append_assoc, h1, k1, List.append_assoc, List.length_append, ← Nat.add_assoc]
theorem lexS_sep {s : UInt8} (hs : isSep s) : LexS [s] [] := fun r a => ⟨[], by rw [List.singleton_append, lex_sp hs.sp]; simp, rfl⟩
theorem lexS_tok {w : By} {k : Nat} (h : IsTok w k) {s : UInt8} (hs : isSep s) : LexS (w ++ [s]) [(k, w)] := fun r a => ⟨[⟨k, w, a⟩], by
  rw [List.append_assoc, List.singleton_append, lex_then h hs r a]
  simp [Nat.add_assoc], rfl⟩
theorem lexW_word {w : By} {k : Nat} (h : IsTok w k) (hw : ∀ c ∈ w, isWd c = true) : LexW w [(k, w)] := fun r a hr => by
  obtain ⟨h0, h1⟩ := h
  have hsp : span isWd (w ++ r) = w.length := by
    rw [span_app hw]
    cases r with
    | nil => rfl
    | cons c t => rw [span_no (hr c rfl)]; rfl
  have hs0 : span isWd w = w.length := by
    have := span_app (a := []) hw
    rw [List.append_nil] at this
    rw [this]; rfl
  have he : tok (w ++ r) = (k, w.length) := by
    rw [← h1]
    unfold tok
    rw [hsp, hs0, take_app_le (Nat.le_refl _)]
    have hl : w.length ≠ 0 := by intro e; exact h0 (List.eq_nil_of_length_eq_zero e)
    rw [if_pos hl, if_pos hl]
  refine ⟨[⟨k, w, a⟩], ?_, rfl⟩
  cases w with
  | nil => exact absurd rfl h0
  | cons c t =>
    have hz : (tok (c :: (t ++ r))).2 ≠ 0 := by rw [← List.cons_append, he]; simp
    obtain ⟨hs, hc⟩ := tok_sp hz
    rw [List.cons_append, lex_tok hs hc hz, ← List.cons_append, he]
    simp
theorem lexS_sign {c : UInt8} (h : c ∈ oneSigns) (h1 : c ≠ 45) (h2 : c ≠ 61) : LexS [c] [(3, [c])] := fun r a => by
  have hw : isWd c = false := by
    have : ∀ d ∈ oneSigns, isWd d = false := by decide
    exact this c h
  have ht : tok (c :: r) = (3, 1) := by
    unfold tok
    have hs : sgn (c :: r) = 1 := by rw [sgn_cons, if_neg (by rintro (h | h); exact h1 h.1; exact h2 h.1), if_pos h]
    rw [span_no hw, if_neg (by simp), hs]
    rfl
  have hz : (tok (c :: r)).2 ≠ 0 := by rw [ht]; simp
  obtain ⟨hs, hc⟩ := tok_sp hz
  refine ⟨[⟨3, [c], a⟩], ?_, rfl⟩
  rw [List.singleton_append, lex_tok hs hc hz, ht]
  simp
def NameT (w : By) : Prop := IsTok w 1 ∧ w ∉ reserved
theorem tok_words {w : By} {k : Nat} (h : IsTok w k) (hk : k = 1 ∨ k = 2) : ∀ c ∈ w, isWd c = true := by
  obtain ⟨h0, h1⟩ := h
  have hs : span isWd w = w.length := by
    unfold tok at h1
    split at h1
    · split at h1
      · exact congrArg Prod.snd h1
      · rw [show k = 0 from (congrArg Prod.fst h1).symm] at hk; omega
    · split at h1
      · rw [show k = 3 from (congrArg Prod.fst h1).symm] at hk; omega
      · rw [show k = 0 from (congrArg Prod.fst h1).symm] at hk; omega
  have := span_all isWd w
  rw [hs, List.take_length] at this
  exact this
theorem lexW_tok {w : By} {k : Nat} (h : IsTok w k) (hk : k = 1 ∨ k = 2) : LexW w [(k, w)] := lexW_word h (tok_words h hk)
theorem digit_isD (d : Nat) (h : d < 10) : isD (UInt8.ofNat (48 + d)) = true := by
  have : ∀ d : Nat, d < 10 → isD (UInt8.ofNat (48 + d)) = true := by decide
  exact this d h
end Sy
end Go.Proofs.YtggeepimihhpjaaGreatDoor

namespace Go.Proofs.YtggeepimihhpjaaGreatDoor
open Go.RowKit
namespace Sl

def Arr (w : World) (A : Option Addr) (vs : List Value) : Prop :=
  vs ≠ [] → ∃ b o, A = some ⟨b, o, none⟩ ∧ b < w.heap.size ∧ ∀ j u, vs[j]? = some u → w.cell? ⟨b, o + j, none⟩ = some u

theorem Arr.keep {w w' : World} {A : Option Addr} {vs : List Value} (h : Arr w A vs) (hb : Below w.heap.size w w') : Arr w' A vs := fun hne => by
  obtain ⟨b, o, e, hlt, hc⟩ := h hne
  exact ⟨b, o, e, Nat.lt_of_lt_of_le hlt hb.size, fun j u hu => (hb.cell (p := ⟨b, o + j, none⟩) hlt).trans (hc j u hu)⟩

theorem Arr.own {w : World} {base : Nat} {e : TypeId} {A : Option Addr} {n c : Nat} {vs : List Value} (h : w.ownsRow base e 1 (.slice A n c) n vs) : vs.length = n ∧ Arr w A vs := by
  have hl : vs.length = n := by have := h.1; omega
  refine ⟨hl, fun hne => ?_⟩
  have hn : 0 < n := by rw [← hl]; exact List.length_pos_iff.2 hne
  obtain ⟨g, cap, hv, _, hlt⟩ := h.form (by omega)
  have hA : A = some ⟨g, 0, none⟩ := by injection hv
  refine ⟨g, 0, hA, hlt, fun j u hu => ?_⟩
  subst hA
  have := h.cells (g := g) rfl j u hu
  have e0 : (⟨g, 0, none⟩ : Addr).add j = ⟨g, 0 + j, none⟩ := by
    rcases Nat.eq_zero_or_pos j with hj | hj
    · subst hj; rfl
    · simp [Addr.add, Nat.ne_of_gt hj]
  rw [← e0]; exact this

def ArrF (w : World) (base : Nat) (A : Option Addr) (vs : List Value) : Prop :=
  vs ≠ [] → ∃ b o, A = some ⟨b, o, none⟩ ∧ base ≤ b ∧ b < w.heap.size ∧ ∀ j u, vs[j]? = some u → w.cell? ⟨b, o + j, none⟩ = some u

theorem ArrF.arr {w : World} {base : Nat} {A : Option Addr} {vs : List Value} (h : ArrF w base A vs) : Arr w A vs := fun hne => by
  obtain ⟨b, o, e, _, hlt, hc⟩ := h hne; exact ⟨b, o, e, hlt, hc⟩

theorem row_forms {w : World} {base : Nat} {e : TypeId} {v : Value} {n : Nat} {vs : List Value} (h : w.ownsRow base e 1 v n vs) :
    ∃ A c, v = .slice A n c ∧ n ≤ c ∧ vs.length = n ∧ ArrF w base A vs ∧ (∀ g, v.ownBlock = some g → base ≤ g ∧ g < w.heap.size) := by
  have hl : vs.length = n := by have := h.1; omega
  rcases h.2 with ⟨rfl, hn⟩ | ⟨g, cap, cur, hv, hb, hg, hnc, _⟩
  · have hvs : vs = [] := List.eq_nil_of_length_eq_zero (by omega)
    subst hn
    subst hvs
    exact ⟨none, 0, rfl, Nat.le_refl _, rfl, fun h' => absurd rfl h', fun g hg => by simp [Value.ownBlock] at hg⟩
  · have hlt : g < w.heap.size := by
      rcases Nat.lt_or_ge g w.heap.size with hlt | hge
      · exact hlt
      · rw [Array.getElem?_eq_none hge] at hg; cases hg
    refine ⟨some ⟨g, 0, none⟩, cap, hv, hnc, hl, fun _ => ⟨g, 0, rfl, hb, hlt, fun j u hu => ?_⟩, fun g' hg' => ?_⟩
    · subst hv
      have hj : j < n := by have := (List.getElem?_eq_some_iff.1 hu).1; omega
      rw [Nat.zero_add, h.cellAt j (by omega)]
      exact hu
    · subst hv
      have : g = g' := by simpa [Value.ownBlock] using hg'
      subst this
      exact ⟨hb, hlt⟩

end Sl
end Go.Proofs.YtggeepimihhpjaaGreatDoor

namespace Go.Proofs.YtggeepimihhpjaaGreatDoor
open Go.ChangeShapes Go.WideShapes Go.ChangeAt Go.RowKit
namespace Sl
set_option linter.unusedVariables false

theorem own : ownKnob Tryz.prog.godebug = none := by kernel_rfl
theorem laidOut : laidOutB Tryz.prog = true := by kernel_rfl

structure RowIs (k : IntKind) (w : World) (A : Option Addr) (len cap : Nat) (l : List Int) : Prop where
  hlen : l.length = len
  hcap : len ≤ cap
  arr : Arr w A (l.map (Value.int k))
  nil : A = none → cap = 0 ∧ l = []
  wf : ∀ x ∈ l, (Lit.int k x).wf = true
  big : len ≤ maxLen

end Sl
end Go.Proofs.YtggeepimihhpjaaGreatDoor

namespace Go.Proofs.YtggeepimihhpjaaGreatDoor
open Go.ChangeShapes Go.WideShapes Go.ChangeAt Go.RowKit
namespace Sl
set_option linter.unusedVariables false

def AI (cs : List Value) (n : Nat) : Prop := ∃ zs : List Int, zs.length = n ∧ cs = zs.map (Value.int .i64) ∧ ∀ x ∈ zs, -9223372036854775808 ≤ x ∧ x ≤ 9223372036854775807
theorem AI.nil : AI [] 0 := ⟨[], rfl, rfl, by simp⟩
section
variable {H : Type} {enc : TypeId × Value → H} {P : Program} {w : World} {base : Nat} {sp : Nat → Bool} {hd : Bool} {fuel : Nat} {t : TypeId} {cs : List Value} {x : DataW H × List MemPlace}
end

end Sl
end Go.Proofs.YtggeepimihhpjaaGreatDoor

namespace Go.Proofs.YtggeepimihhpjaaGreatDoor
open Go.ChangeShapes Go.WideShapes Go.ChangeAt Go.RowKit
namespace Sl
set_option linter.unusedVariables false

section
variable {H : Type} {enc : TypeId × Value → H} {P : Program} {w : World} {base : Nat} {sp : Nat → Bool} {hd : Bool} {fuel : Nat} {t e : TypeId} {cs : List Value} {x : DataW H × List MemPlace}
structure RowsIs (w : World) (A : Option Addr) (len cap s : Nat) (zs : List Int) : Prop where
  hlen : zs.length = len * s
  hcap : len ≤ cap
  arr : Arr w A (zs.map (Value.int .i64))
  nil : A = none → len = 0 ∧ cap = 0
  wf : ∀ x ∈ zs, -9223372036854775808 ≤ x ∧ x ≤ 9223372036854775807
  big : len ≤ maxLen
end

end Sl
end Go.Proofs.YtggeepimihhpjaaGreatDoor

namespace Go.Proofs.YtggeepimihhpjaaGreatDoor
open Go.ChangeShapes Go.WideShapes Go.ChangeAt Go.RowKit
namespace Sl
set_option linter.unusedVariables false

section
variable {H : Type} {enc : TypeId × Value → H} {P : Program} {w : World} {base : Nat} {sp : Nat → Bool} {hd : Bool} {fuel : Nat} {t e : TypeId} {cs : List Value} {x : DataW H × List MemPlace}
structure ListsIs (w : World) (A : Option Addr) (len cap : Nat) (rs : List (List Int)) : Prop where
  hlen : rs.length = len
  hcap : len ≤ cap
  nil : A = none → len = 0 ∧ cap = 0
  big : len ≤ maxLen
  at_ : rs ≠ [] → ∃ b o, A = some ⟨b, o, none⟩ ∧ b < w.heap.size ∧ ∀ j r, rs[j]? = some r → ∃ A' c, w.cell? ⟨b, o + j, none⟩ = some (.slice A' r.length c) ∧ RowsIs w A' r.length c 1 r
end
end Sl
end Go.Proofs.YtggeepimihhpjaaGreatDoor

namespace Go.Proofs.YtggeepimihhpjaaGreatDoor
open Go.RowKit
namespace Fr
set_option linter.unusedVariables false

structure Later (w : World) where
  val : World
  below : Below w.heap.size w val

instance (w : World) : Inhabited (Later w) := ⟨⟨w, Below.refl _ _⟩⟩

theorem Later.cell {w : World} {a : Addr} {v : Value} (hc : w.cell? a = some v) (hb : a.block < w.heap.size) (p : Later w) : p.val.cell? a = some v := (p.below.cell hb).trans hc

theorem wp_region_later {P : Program} {id : Nat} {Q : Exit → Act → World → Prop} {a : Act} {w : World} {l : List Oper} (hm : P.follows .mixedOrders = true) (hB : Region.lexB .any l.toArray = true)
    (h : wpQuiet P l.toArray (fun w' => ∃ p : Later w, w' = p.val) (fun a' => ∀ w', (∃ p : Later w, w' = p.val) → Q .normal a' w') l a) : (Code.region id l.toArray true).wp P Q a w :=
  wp_region_quiet (C := fun w' => ∃ p : Later w, w' = p.val) hm hB ⟨⟨w.drew, (Below.refl _ w).drew⟩, rfl⟩ (by simpa using h)

theorem wp_region_later_tail {P : Program} {id : Nat} {Q : Exit → Act → World → Prop} {a : Act} {w : World} {l : List Oper} (n : Nat) (hm : P.follows .mixedOrders = true) (hB : classTailB .any l n = true)
    (h : wpQuiet P (l.take n).toArray (fun w' => ∃ p : Later w, w' = p.val) (fun a' => ∀ w', (∃ p : Later w, w' = p.val) → wpList P l.toArray Q (l.drop n) a' w') (l.take n) a) : (Code.region id l.toArray true).wp P Q a w :=
  wp_region_class_tail (C := fun w' => ∃ p : Later w, w' = p.val) n hm hB ⟨⟨w.drew, (Below.refl _ w).drew⟩, rfl⟩ h

theorem later_of {P : Program} {f : FuncId} {args : Array Value} {w : World} {p : Later w} {v : Value} (h : Calls P f args p.val fun e w' => e = .returned v ∧ Below p.val.heap.size p.val w') :
    Calls P f args p.val fun e w'' => e = .returned v ∧ ∃ q : Later w, w'' = q.val :=
  h.mono fun _ w' ⟨he, hb⟩ => ⟨he, ⟨w', p.below.trans (hb.mono p.below.size)⟩, rfl⟩

structure Box2 (W : World) (b : Nat) (u v : Value) : Prop where
  lt : b < W.heap.size
  c0 : W.cell? ⟨b, 0, none⟩ = some u
  c1 : W.cell? ⟨b, 1, none⟩ = some v
  f0 : W.frozen? ⟨b, 0, none⟩ = false
  f1 : W.frozen? ⟨b, 1, none⟩ = false
structure Box3 (W : World) (b : Nat) (u v x : Value) : Prop where
  lt : b < W.heap.size
  c0 : W.cell? ⟨b, 0, none⟩ = some u
  c1 : W.cell? ⟨b, 1, none⟩ = some v
  c2 : W.cell? ⟨b, 2, none⟩ = some x
  f0 : W.frozen? ⟨b, 0, none⟩ = false
  f1 : W.frozen? ⟨b, 1, none⟩ = false
  f2 : W.frozen? ⟨b, 2, none⟩ = false

end Fr
end Go.Proofs.YtggeepimihhpjaaGreatDoor
