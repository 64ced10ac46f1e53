/- Numbers as texts: the digits of a number are its token, and the other way round. The tokens of a tree; two calculi for reading: complete (these tokens are read as this tree) and sound (what is read had these tokens). Numbers, names, lists. The text of a tree, as a function on trees. Complete and sound: numbers and expressions. -/
import Derived.Test.YtggeepimihhpjaaGreatDoorL0
import Derived.Test.YtggeepimihhpjaaGreatDoorP9
import Derived.Test.YtggeepimihhpjaaGreatDoorW4
namespace Go.Proofs.YtggeepimihhpjaaGreatDoor
open Lx Go.Lib
namespace Sy
set_option linter.unusedVariables false

theorem dec_small {u : Nat} (h : u < 10) : decDigits u = [UInt8.ofNat (48 + u)] := decDigits_one h
theorem dec_big {u : Nat} (h : ¬ u < 10) : decDigits u = decDigits (u / 10) ++ [UInt8.ofNat (48 + u % 10)] := by rw [decDigits, dif_neg h]
theorem digit_val {d : Nat} (h : d < 10) : (UInt8.ofNat (48 + d)).toNat = 48 + d := by
  have : ∀ d : Nat, d < 10 → (UInt8.ofNat (48 + d)).toNat = 48 + d := by decide
  exact this d h
theorem dec_ne (u : Nat) : decDigits u ≠ [] := by
  intro h
  have := decDigits_length u
  rw [h] at this
  have := nDigits_pos u
  simp at *
  omega
theorem dec_all : ∀ u : Nat, (decDigits u).all isD = true := by
  intro u
  induction u using Nat.strongRecOn with
  | _ u ih =>
    by_cases h : u < 10
    · rw [dec_small h, List.all_cons, digit_isD u h]; rfl
    · rw [dec_big h, List.all_append, ih (u / 10) (by omega), List.all_cons, digit_isD (u % 10) (by omega)]; rfl
theorem dec_head : ∀ u : Nat, 0 < u → (decDigits u).head? ≠ some 48 := by
  intro u
  induction u using Nat.strongRecOn with
  | _ u ih =>
    intro hu
    by_cases h : u < 10
    · rw [dec_small h]
      have : ∀ d : Nat, d < 10 → 0 < d → ([UInt8.ofNat (48 + d)] : By).head? ≠ some 48 := by decide
      exact this u h hu
    · rw [dec_big h, List.head?_append]
      have := ih (u / 10) (by omega) (by omega)
      cases hq : decDigits (u / 10) with
      | nil => exact absurd hq (dec_ne _)
      | cons c r => rw [hq] at this; simpa using this
theorem dec_val : ∀ u : Nat, u ≤ 1000000 → numV 0 (decDigits u) = u := by
  intro u
  induction u using Nat.strongRecOn with
  | _ u ih =>
    intro hu
    by_cases h : u < 10
    · rw [dec_small h]
      show numV (min (10 * 0 + ((UInt8.ofNat (48 + u)).toNat - 48)) 1000001) [] = u
      rw [digit_val h]
      show min _ _ = u
      omega
    · rw [dec_big h, numV_app, ih (u / 10) (by omega) (by omega)]
      show numV (min (10 * (u / 10) + ((UInt8.ofNat (48 + u % 10)).toNat - 48)) 1000001) [] = u
      rw [digit_val (by omega)]
      show min _ _ = u
      omega
theorem dec_isNum {u : Nat} (h : u ≤ 1000000) : isNum (decDigits u) = true := by
  have h1 := dec_all u
  have h2 := dec_val u h
  cases hd : decDigits u with
  | nil => exact absurd hd (dec_ne u)
  | cons c r =>
    rw [hd] at h1 h2
    refine isNum_yes (fun hc => ?_) h1 (by rw [h2]; exact h)
    rcases Nat.eq_zero_or_pos u with h0 | h0
    · subst h0
      rw [dec_small (by omega)] at hd
      injection hd with _ hd
      exact hd.symm
    · exact absurd (by rw [hd, hc]; rfl) (dec_head u h0)
theorem isD_w {c : UInt8} (h : isD c = true) : isWd c = true := isD_wd h
theorem isNum_all {w : By} (h : isNum w = true) : w.all isD = true := by
  cases w with
  | nil => cases h
  | cons c r =>
    rw [isNum_cons] at h
    split at h
    · rename_i hc
      have : r = [] := by cases r with
        | nil => rfl
        | cons x y => cases h
      subst this; subst hc
      decide
    · simp only [Bool.and_eq_true] at h
      exact h.1
theorem num_tok {w : By} (h : isNum w = true) : IsTok w 2 := by
  have ha := isNum_all h
  have h0 : w ≠ [] := fun e => by subst e; cases h
  have hw : w.all isWd = true := by
    rw [List.all_eq_true] at ha ⊢
    exact fun c hc => isD_w (ha c hc)
  have hs := all_span hw
  refine ⟨h0, ?_⟩
  unfold tok
  have hl : w.length ≠ 0 := fun e => h0 (List.eq_nil_of_length_eq_zero e)
  have hk : wkind w = 2 := by
    unfold wkind
    have hn : isName w = false := by
      cases w with
      | nil => rfl
      | cons c r => exact isD_notL (by simp at ha; exact ha.1)
    rw [if_neg (by simp [hn]), if_pos h]
  rw [hs, if_pos hl, List.take_length, hk, if_pos (by decide)]
theorem dec_tok {u : Nat} (h : u ≤ 1000000) : IsTok (decDigits u) 2 := num_tok (dec_isNum h)
theorem dec_of (l : By) : l.all isD = true → l ≠ [] → l.head? ≠ some 48 → numV 0 l ≤ 1000000 → 0 < numV 0 l ∧ decDigits (numV 0 l) = l := by
  generalize hn : l.length = n
  induction n generalizing l with
  | zero => intro _ h; exact absurd (List.eq_nil_of_length_eq_zero hn) h
  | succ n ih =>
    intro ha h0 hh hv
    obtain ⟨w, d, rfl⟩ : ∃ w d, l = w ++ [d] := ⟨l.dropLast, l.getLast h0, (List.dropLast_concat_getLast h0).symm⟩
    have hwn : w.length = n := by simpa using hn
    rw [List.all_append] at ha
    simp only [List.all_cons, List.all_nil, Bool.and_true, Bool.and_eq_true] at ha
    obtain ⟨ha1, ha2⟩ := ha
    obtain ⟨k, hk, rfl⟩ : ∃ k, k < 10 ∧ d = UInt8.ofNat (48 + k) := by
      have : ∀ d : UInt8, isD d = true → ∃ k, k < 10 ∧ d = UInt8.ofNat (48 + k) := by
        intro d hd
        unfold isD at hd
        rw [decide_eq_true_eq] at hd
        refine ⟨d.toNat - 48, by omega, ?_⟩
        apply UInt8.toNat_inj.1
        rw [digit_val (by omega)]
        omega
      exact this d ha2
    rw [numV_app] at hv ⊢
    have hs : ∀ v, numV v [UInt8.ofNat (48 + k)] = min (10 * v + k) 1000001 := fun v => by
      show numV (min (10 * v + ((UInt8.ofNat (48 + k)).toNat - 48)) 1000001) [] = _
      rw [digit_val hk]
      show min _ _ = _
      omega
    rw [hs] at hv ⊢
    by_cases hw : w = []
    · subst hw
      have hk0 : k ≠ 0 := by rintro rfl; exact hh rfl
      show 0 < min (10 * 0 + k) 1000001 ∧ decDigits (min (10 * 0 + k) 1000001) = _
      rw [show min (10 * 0 + k) 1000001 = k by omega]
      exact ⟨by omega, dec_small hk⟩
    · have hq := numV_le w 0 (by omega)
      obtain ⟨i1, i2⟩ := ih w hwn ha1 hw (by
        cases w with
        | nil => exact absurd rfl hw
        | cons x y => simpa using hh) (by omega)
      rw [show min (10 * numV 0 w + k) 1000001 = 10 * numV 0 w + k by omega]
      refine ⟨by omega, ?_⟩
      rw [dec_big (by omega), show (10 * numV 0 w + k) / 10 = numV 0 w by omega, show (10 * numV 0 w + k) % 10 = k by omega, i2]
theorem dec_num {w : By} (h : isNum w = true) : decDigits (numV 0 w) = w := by
  cases w with
  | nil => cases h
  | cons c r =>
    have ha := isNum_all h
    have hv := numV_small h
    by_cases hc : c = 48
    · subst hc
      rw [isNum_zero] at h
      have : r = [] := by cases r with
        | nil => rfl
        | cons x y => cases h
      subst this
      show decDigits (min (10 * 0 + ((48 : UInt8).toNat - 48)) 1000001) = _
      rw [show min (10 * 0 + ((48 : UInt8).toNat - 48)) 1000001 = 0 by decide]
      rw [dec_small (by omega)]; rfl
    · exact (dec_of (c :: r) ha (by simp) (by simpa using hc) hv).2
theorem itoa_nat (u : Nat) : itoa (u : Int) = decDigits u := by unfold itoa; rw [if_neg (by omega)]; simp
end Sy
end Go.Proofs.YtggeepimihhpjaaGreatDoor

namespace Go.Proofs.YtggeepimihhpjaaGreatDoor
open Lx Go.Lib
namespace Sy
set_option linter.unusedVariables false

def Tks (l : List Tk) (ts : List KT) (r : List Tk) : Prop := ∃ d, l = d ++ r ∧ d.map kt = ts
theorem Tks.nil {l r : List Tk} (h : Tks l [] r) : l = r := by
  obtain ⟨d, h1, h2⟩ := h
  rw [List.map_eq_nil_iff.1 h2] at h1
  exact h1
theorem Tks.refl (l : List Tk) : Tks l [] l := ⟨[], rfl, rfl⟩
theorem Tks.split {l r : List Tk} {a b : List KT} (h : Tks l (a ++ b) r) : ∃ m, Tks l a m ∧ Tks m b r := by
  obtain ⟨d, h1, h2⟩ := h
  obtain ⟨d1, d2, rfl, h3, h4⟩ := List.map_eq_append_iff.1 h2
  exact ⟨d2 ++ r, ⟨d1, by rw [h1, List.append_assoc], h3⟩, d2, rfl, h4⟩
theorem Tks.app {l m r : List Tk} {a b : List KT} (h : Tks l a m) (k : Tks m b r) : Tks l (a ++ b) r := by
  obtain ⟨d, h1, h2⟩ := h
  obtain ⟨e, k1, k2⟩ := k
  exact ⟨d ++ e, by rw [h1, k1, List.append_assoc], by rw [List.map_append, h2, k2]⟩
theorem Tks.cons {l r : List Tk} {k : Nat} {w : By} {b : List KT} (h : Tks l ((k, w) :: b) r) : ∃ t m, l = t :: m ∧ t.kind = k ∧ t.text = w ∧ Tks m b r := by
  obtain ⟨d, h1, h2⟩ := h
  cases d with
  | nil => cases h2
  | cons t d =>
    simp only [List.map_cons, List.cons.injEq] at h2
    have h3 : (t.kind, t.text) = (k, w) := h2.1
    injection h3 with h3 h4
    exact ⟨t, d ++ r, h1, h3, h4, d, rfl, h2.2⟩
theorem Tks.next {l r : List Tk} {k : Nat} {w : By} {b : List KT} (h : Tks l ((k, w) :: b) r) : (nextT l).text = w := by
  obtain ⟨t, m, rfl, _, h3, _⟩ := h.cons
  exact h3
theorem Tks.next_kind {l r : List Tk} {k : Nat} {w : By} {b : List KT} (h : Tks l ((k, w) :: b) r) : (nextT l).kind = k := by
  obtain ⟨t, m, rfl, h3, _, _⟩ := h.cons
  exact h3

theorem LT.suffix {d l : List Tk} (h : LT (d ++ l)) (hl : l ≠ []) : LT l := by
  obtain ⟨ts, n, h1, h2⟩ := h
  obtain ⟨l', e, rfl⟩ : ∃ l' e, l = l' ++ [e] := ⟨l.dropLast, l.getLast hl, (List.dropLast_concat_getLast hl).symm⟩
  rw [← List.append_assoc] at h1
  obtain ⟨h3, h4⟩ := List.append_inj' h1 rfl
  injection h4 with h4
  subst h3; subst h4
  exact ⟨l', n, rfl, fun t ht => h2 t (List.mem_append_right _ ht)⟩
theorem Tks.lt {l m r : List Tk} {a b : List KT} (hl : LT l) (hr : LT r) (h1 : Tks l a m) (h2 : Tks m b r) : LT m := by
  obtain ⟨d, rfl, _⟩ := h1
  refine hl.suffix ?_
  obtain ⟨e, rfl, _⟩ := h2
  intro h
  exact hr.ne (List.append_eq_nil_iff.1 h).2
def Cm {α : Type} (m : PM α) (x : α) (ts : List KT) (st : List By) : Prop := ∀ l r, LT l → LT r → Tks l ts r → (nextT r).text ∉ st → m l = .ok x r
def Nx (ts : List KT) (st st' : List By) : Prop := match ts with
  | [] => ∀ w ∈ st, w ∈ st'
  | t :: _ => t.2 ∉ st
theorem Nx.nil (ts : List KT) (st' : List By) : Nx ts [] st' := by
  cases ts with
  | nil => intro w h; cases h
  | cons t r => intro h; cases h
theorem Nx.self (st : List By) : Nx [] st st := fun w h => h
theorem Cm.bind {α β : Type} {m : PM α} {f : α → PM β} {x : α} {y : β} {a b : List KT} {st st' : List By} (h : Cm m x a st) (hf : Cm (f x) y b st') (hn : Nx b st st') : Cm (m >>= f) y (a ++ b) st' := fun l r hl hlr ht hr => by
  obtain ⟨l1, h1, h2⟩ := ht.split
  have hl1 := Tks.lt hl hlr h1 h2
  have hs : (nextT l1).text ∉ st := by
    cases b with
    | nil => rw [h2.nil]; exact fun hh => hr (hn _ hh)
    | cons t b =>
      obtain ⟨k, w⟩ := t
      rw [h2.next]; exact hn
  rw [bind_ok (h l l1 hl hl1 h1 hs)]
  exact hf l1 r hl1 hlr h2 hr
theorem Cm.pure {α : Type} (x : α) (st : List By) : Cm (Pure.pure x : PM α) x [] st := fun l r hl hlr ht _ => by rw [ht.nil]; rfl
theorem Cm.expect (k : Nat) (w : By) (st : List By) : Cm (expect w) () [(k, w)] st := fun l r hl hlr ht _ => by
  obtain ⟨t, m, rfl, h1, h2, h3⟩ := ht.cons
  rw [h3.nil]
  show (if t.text = w then _ else _) = _
  rw [if_pos h2]; rfl
theorem Cm.yes (k : Nat) (w : By) (st : List By) : Cm (accept w) true [(k, w)] st := fun l r hl hlr ht _ => by
  obtain ⟨t, m, rfl, h1, h2, h3⟩ := ht.cons
  rw [h3.nil]
  show (if t.text = w then _ else _) = _
  rw [if_pos h2]; rfl
theorem Cm.no (w : By) : Cm (accept w) false [] [w] := fun l r hl hlr ht hr => by
  rw [ht.nil]
  show (if (nextT r).text = w then _ else _) = _
  rw [if_neg (fun e => hr (by rw [e]; simp))]
theorem Cm.name {w : By} (h : NameT w) (st : List By) : Cm nameP w [(1, w)] st := fun l r hl hlr ht _ => by
  obtain ⟨t, m, rfl, h1, h2, h3⟩ := ht.cons
  rw [h3.nil]
  show (if t.kind ≠ 1 ∨ t.text ∈ reserved then _ else _) = _
  rw [if_neg (by rw [h1, h2]; rintro (e | e); exact e rfl; exact h.2 e), nextT, h2]; rfl
theorem Cm.number {n least : Nat} (h : n ≤ 1000000) (hl : least ≤ n) (st : List By) : Cm (numberP least) n [(2, itoa (n : Int))] st := fun l r hl hlr ht _ => by
  obtain ⟨t, m, rfl, h1, h2, h3⟩ := ht.cons
  rw [h3.nil]
  rw [itoa_nat] at h2
  show (if t.kind ≠ 2 ∨ numV 0 t.text < least then _ else Res.ok (numV 0 t.text) r) = _
  rw [h1, h2, dec_val n h, if_neg (by omega)]
def Sd {α : Type} (m : PM α) (P : α → List KT → Prop) : Prop := ∀ l x r, LT l → m l = .ok x r → LT r ∧ ∃ ts, Tks l ts r ∧ P x ts
theorem Sd.bind {α β : Type} {m : PM α} {f : α → PM β} {P : α → List KT → Prop} {R : β → List KT → Prop} (h : Sd m P) (hf : ∀ x a, P x a → Sd (f x) (fun y b => R y (a ++ b))) : Sd (m >>= f) R := fun l y r hl he => by
  obtain ⟨x, l1, h1, h2⟩ := bind_eq he
  obtain ⟨k1, a, k2, k3⟩ := h l x l1 hl h1
  obtain ⟨g1, b, g2, g3⟩ := hf x a k3 l1 y r k1 h2
  exact ⟨g1, a ++ b, k2.app g2, g3⟩
theorem Sd.mono {α : Type} {m : PM α} {P Q : α → List KT → Prop} (h : Sd m P) (hq : ∀ x ts, P x ts → Q x ts) : Sd m Q := fun l x r hl he => by
  obtain ⟨h1, ts, h2, h3⟩ := h l x r hl he
  exact ⟨h1, ts, h2, hq x ts h3⟩
theorem Sd.pure {α : Type} {x : α} {P : α → List KT → Prop} (h : P x []) : Sd (Pure.pure x : PM α) P := fun l y r hl he => by
  injection he with h1 h2
  subst h1; subst h2
  exact ⟨hl, [], Tks.refl _, h⟩
theorem Tks.one {l : List Tk} (h : LT l) : Tks l [kt (nextT l)] l.tail := ⟨[nextT l], by rw [List.singleton_append]; exact h.cons, rfl⟩
theorem tok_kind_eq {w : By} {k j n : Nat} (h : IsTok w k) (hk : tok w = (j, n)) : k = j := by
  have := h.2
  rw [hk] at this
  exact (congrArg Prod.fst this).symm
theorem Sd.expect {w : By} {k n : Nat} (hw : tok w = (k, n)) (h0 : w ≠ []) : Sd (expect w) (fun _ ts => ts = [(k, w)]) := fun l x r hl he => by
  unfold Sy.expect at he
  split at he
  · rename_i h
    injection he with h1 h2
    subst h2
    have hne : (nextT l).text ≠ [] := by rw [h]; exact h0
    refine ⟨hl.tail hne, _, Tks.one hl, ?_⟩
    rcases hl.next with q | q
    · show [((nextT l).kind, (nextT l).text)] = _
      have := q.1
      rw [h] at this ⊢
      rw [tok_kind_eq this hw]
    · exact absurd q.2.1 hne
  · cases he
theorem Sd.accept {w : By} {k n : Nat} (hw : tok w = (k, n)) (h0 : w ≠ []) : Sd (accept w) (fun b ts => (b = true ∧ ts = [(k, w)]) ∨ (b = false ∧ ts = [])) := fun l x r hl he => by
  unfold Sy.accept at he
  split at he
  · rename_i h
    injection he with h1 h2
    subst h2
    have hne : (nextT l).text ≠ [] := by rw [h]; exact h0
    refine ⟨hl.tail hne, _, Tks.one hl, .inl ⟨h1.symm, ?_⟩⟩
    rcases hl.next with q | q
    · show [((nextT l).kind, (nextT l).text)] = _
      have := q.1
      rw [h] at this ⊢
      rw [tok_kind_eq this hw]
    · exact absurd q.2.1 hne
  · injection he with h1 h2
    subst h2
    exact ⟨hl, [], Tks.refl _, .inr ⟨h1.symm, rfl⟩⟩
theorem Sd.name : Sd nameP (fun x ts => NameT x ∧ ts = [(1, x)]) := fun l x r hl he => by
  unfold nameP at he
  split at he
  · cases he
  · rename_i h
    injection he with h1 h2
    subst h2
    have hk : (nextT l).kind = 1 := by omega
    rcases hl.next with q | q
    · refine ⟨q.2, _, Tks.one hl, ?_⟩
      rw [← h1]
      refine ⟨⟨hk ▸ q.1, fun e => h (.inr e)⟩, ?_⟩
      show [((nextT l).kind, (nextT l).text)] = _
      rw [hk]
    · omega
theorem Sd.number (least : Nat) : Sd (numberP least) (fun x ts => x ≤ 1000000 ∧ least ≤ x ∧ ts = [(2, itoa (x : Int))]) := fun l x r hl he => by
  unfold numberP at he
  split at he
  · cases he
  · rename_i h
    injection he with h1 h2
    subst h2
    have hk : (nextT l).kind = 2 := by omega
    rcases hl.next with q | q
    · have hn := tok_isNum (hk ▸ q.1)
      refine ⟨q.2, _, Tks.one hl, by rw [← h1]; exact numV_small hn, by omega, ?_⟩
      show [((nextT l).kind, (nextT l).text)] = _
      rw [hk, ← h1, itoa_nat, dec_num hn]
    · omega
theorem Sd.ite {α : Type} {m n : PM α} {b : Bool} {P : α → List KT → Prop} (h1 : b = true → Sd m P) (h2 : b = false → Sd n P) : Sd (if b = true then m else n) P := by
  cases b
  · exact h2 rfl
  · exact h1 rfl
theorem Sd.loop {α : Type} {stop : By} {step : α → PM α} {k n : Nat} (hw : tok stop = (k, n)) (h0 : stop ≠ []) (hk : ∀ a, Keeps (step a) 1) {I : α → List KT → Prop} (hs : ∀ a ts, I a ts → Sd (step a) (fun b us => I b (ts ++ us))) :
    ∀ (a : α) (ts : List KT), I a ts → Sd (loopP stop step a) (fun b us => ∃ vs, us = vs ++ [(k, stop)] ∧ I b (ts ++ vs)) := by
  intro a ts hI l
  generalize hn : l.length = N
  induction N using Nat.strongRecOn generalizing l a ts with
  | _ N ih =>
    subst hn
    intro x r hl he
    rw [loopP_step hk hl] at he
    split at he
    · rename_i h
      injection he with h1 h2
      subst h2; subst h1
      have hne : (nextT l).text ≠ [] := by rw [h]; exact h0
      refine ⟨hl.tail hne, _, Tks.one hl, [], ?_, by rw [List.append_nil]; exact hI⟩
      rcases hl.next with q | q
      · show [((nextT l).kind, (nextT l).text)] = _
        have := q.1
        rw [h] at this ⊢
        rw [tok_kind_eq this hw]; rfl
      · exact absurd q.2.1 hne
    · cases hm : step a l with
      | no e => rw [hm] at he; cases he
      | ok b l1 =>
        rw [hm] at he
        obtain ⟨g1, g2, _⟩ := (hk a).out l b l1 hl hm
        obtain ⟨k1, us, k2, k3⟩ := hs a ts hI l b l1 hl hm
        obtain ⟨j1, vs, j2, ws, j3, j4⟩ := ih l1.length (by omega) b (ts ++ us) k3 l1 rfl x r k1 he
        exact ⟨j1, us ++ vs, k2.app j2, us ++ ws, by rw [j3, List.append_assoc], by rw [← List.append_assoc]; exact j4⟩
end Sy
end Go.Proofs.YtggeepimihhpjaaGreatDoor

namespace Go.Proofs.YtggeepimihhpjaaGreatDoor
open Lx
namespace Sy
set_option linter.unusedVariables false

def catO : Option By → Option By → Option By
  | some a, some b => some (a ++ b)
  | _, _ => none
def seqO : List (Option By) → Option By
  | [] => some []
  | x :: r => catO x (seqO r)
def wr (o : Option By) (t : By) : Option By := match o with
  | some s => if t.length + s.length ≤ 8000 then some (t ++ s) else none
  | none => none
theorem catO_nil (o : Option By) : catO o (some []) = o := by cases o <;> simp [catO]
theorem nil_catO (o : Option By) : catO (some []) o = o := by cases o <;> simp [catO]
theorem catO_assoc (a b c : Option By) : catO (catO a b) c = catO a (catO b c) := by
  cases a <;> cases b <;> cases c <;> simp [catO]
theorem seqO_cons (x : Option By) (r : List (Option By)) : seqO (x :: r) = catO x (seqO r) := rfl
theorem seqO_nil : seqO [] = some [] := rfl
theorem seqO_app (a b : List (Option By)) : seqO (a ++ b) = catO (seqO a) (seqO b) := by
  induction a with
  | nil => rw [List.nil_append, seqO_nil, nil_catO]
  | cons x r ih => rw [List.cons_append, seqO_cons, seqO_cons, ih, catO_assoc]
theorem seqO_snoc (a : List (Option By)) (x : Option By) : seqO (a ++ [x]) = catO (seqO a) x := by rw [seqO_app, seqO_cons, seqO_nil, catO_nil]
theorem wr_some (s t : By) : wr (some s) t = if t.length + s.length ≤ 8000 then some (t ++ s) else none := rfl
theorem wr_nil {t : By} (h : t.length ≤ 8000) : wr (some []) t = some t := by rw [wr_some, if_pos (by simpa using h), List.append_nil]
theorem wr_le {o : Option By} {t t' : By} (h : wr o t = some t') : t'.length ≤ 8000 := by
  cases o with
  | none => cases h
  | some s =>
    rw [wr_some] at h
    split at h
    · injection h with h; subst h; rw [List.length_append]; omega
    · cases h
theorem wr_cat (a b : Option By) (t : By) : wr (catO a b) t = (wr a t).bind (wr b) := by
  cases a with
  | none => rfl
  | some x =>
    cases b with
    | none =>
      show none = _
      rw [wr_some]
      split <;> rfl
    | some y =>
      show wr (some (x ++ y)) t = _
      rw [wr_some, wr_some]
      by_cases h : t.length + x.length ≤ 8000
      · rw [if_pos h]
        show _ = wr (some y) (t ++ x)
        rw [wr_some]
        by_cases h2 : (t ++ x).length + y.length ≤ 8000
        · rw [if_pos h2, if_pos (by rw [List.length_append] at *; omega), List.append_assoc]
        · rw [if_neg h2, if_neg (by rw [List.length_append] at *; omega)]
      · rw [if_neg h, if_neg (by rw [List.length_append]; omega)]
        rfl
theorem wr_ok {a b : Option By} {t t' : By} (h : wr a t = some t') : wr (catO a b) t = wr b t' := by rw [wr_cat, h]; rfl
theorem wr_no {a b : Option By} {t : By} (h : wr a t = none) : wr (catO a b) t = none := by rw [wr_cat, h]; rfl

def negI (n : Int) : Int := if n = -9223372036854775808 then n else -n
def numX (x : NumT) : By := if x.p = [] then Go.Lib.itoa x.n else if 0 < x.n then x.p ++ ([32, 43, 32] ++ Go.Lib.itoa x.n) else if x.n < 0 then x.p ++ ([32, 45, 32] ++ Go.Lib.itoa (negI x.n)) else x.p
def ruleX (r : RuleT) : Option By :=
  if r.kind = 0 then some w_init else if r.kind = 1 then some w_keep else if r.kind = 2 then seqO [some [99, 111, 112, 121, 32], some r.from_]
  else if r.kind = 3 then seqO [some [97, 100, 100, 32], some r.from_, some [32], some (Go.Lib.itoa r.n)] else none
def signX (op : Int) : Option By := (opsT.find? fun x => x.2 == op).map Prod.fst
def formX (op : Int) (nm : By) (k w : NumT) (a0 a1 a2 : Option By) : Option By :=
  if op = 1 then seqO [some [91], some (numX k), some [32, 58, 32], some (numX w), some [93]]
  else if op = 14 then seqO [some nm]
  else if op = 15 then seqO [some nm, some [91], a0, some [93]]
  else if op = 2 then seqO [some [126], a0]
  else if op = 10 then seqO [some [40], a0, some [32, 63, 32], a1, some [32, 58, 32], a2, some [41]]
  else if op = 12 then seqO [some [123], a0, some [32, 64, 32], some (numX k), some [32, 58, 32], some (numX w), some [125]]
  else if op = 13 then seqO [some [123], a0, some [32, 58, 32], some (numX w), some [125]]
  else match signX op with
    | none => none
    | some s => seqO [some [40], a0, some [32], some s, some [32], a1, some [41]]
mutual
def exprX : ExprT → Option By
  | .mk op nm k w args => formX op nm k w ((argsX args)[0]?.getD none) ((argsX args)[1]?.getD none) ((argsX args)[2]?.getD none)
def argsX : List ExprT → List (Option By)
  | [] => []
  | e :: r => exprX e :: argsX r
end
theorem exprX0 : exprX expr0 = none := by decide
theorem argsX_map : ∀ l : List ExprT, argsX l = l.map exprX
  | [] => by unfold argsX; rfl
  | e :: r => by unfold argsX; rw [argsX_map r]; rfl
theorem argsX_get (l : List ExprT) (i : Nat) : (argsX l)[i]?.getD none = exprX (l[i]?.getD expr0) := by
  rw [argsX_map, List.getElem?_map]
  cases l[i]? with
  | none => exact exprX0.symm
  | some e => rfl
def tailX : List (Option By) → Option By
  | [] => some []
  | x :: r => catO (some [44, 32]) (catO x (tailX r))
def commaX : List (Option By) → Option By
  | [] => some []
  | x :: r => catO x (tailX r)
def listX (l : List (Option By)) : Option By := seqO [some [40], commaX l, some [41]]
theorem tailX_snoc (l : List (Option By)) (x : Option By) : tailX (l ++ [x]) = catO (tailX l) (catO (some [44, 32]) x) := by
  induction l with
  | nil => show catO _ (catO x (some [])) = _; rw [catO_nil]; show _ = catO (some []) _; rw [nil_catO]
  | cons y r ih => show catO _ (catO y (tailX (r ++ [x]))) = catO (catO _ (catO y (tailX r))) _; rw [ih]; simp only [catO_assoc]
theorem commaX_snoc {l : List (Option By)} (h : l ≠ []) (x : Option By) : commaX (l ++ [x]) = catO (commaX l) (catO (some [44, 32]) x) := by
  cases l with
  | nil => exact absurd rfl h
  | cons y r => show catO y (tailX (r ++ [x])) = catO (catO y (tailX r)) _; rw [tailX_snoc, catO_assoc]
theorem commaX_one (x : Option By) : commaX [x] = x := catO_nil x
def bindX (b : BindT) : Option By := seqO [some b.port, some [32, 61, 32], some b.chan]
def itemX (i : ItemT) : Option By :=
  if i.kind = 1 then seqO [some [105, 110, 32], some i.name, some [58, 32], some (numX i.width)]
  else if i.kind = 2 then seqO [some [111, 117, 116, 32], some i.name, some [58, 32], some (numX i.width)]
  else if i.kind = 3 then seqO [some [99, 104, 97, 110, 32], some i.name, some [58, 32], some (numX i.width), some [32, 91], some (numX i.depth), some [93]]
  else if i.kind = 4 then seqO [some [114, 101, 103, 32], some i.name, some [58, 32], some (numX i.width), some [32, 61, 32], some (numX i.init), some [32, 45, 62, 32], exprX i.a, some [32], ruleX i.rule]
  else if i.kind = 5 then seqO [some [119, 105, 114, 101, 32], some i.name, some [58, 32], some (numX i.width), some [32, 61, 32], exprX i.a]
  else if i.kind = 6 then seqO [some [109, 101, 109, 32], some i.name, some [58, 32], some (numX i.width), some [32, 91], some (numX i.depth), some [93, 32, 105, 102, 32], exprX i.a, some [32, 97, 116, 32], exprX i.b, some [32, 61, 32], exprX i.c, some [32], ruleX i.rule]
  else if i.kind = 7 then seqO [some [116, 97, 107, 101, 32], some i.name, some [32, 105, 102, 32], exprX i.a]
  else if i.kind = 8 then seqO [some [112, 117, 116, 32], some i.name, some [32, 105, 102, 32], exprX i.a, some [32, 61, 32], exprX i.b]
  else if i.kind = 9 then seqO [seqO [some [105, 110, 115, 116, 32], some i.name, some [58, 32], some i.of_], listX (i.args.map fun x => some (numX x)), seqO [some [32]], listX (i.ports.map bindX)]
  else none
def lineX (i : ItemT) : Option By := seqO [some [32, 32], itemX i, some [59, 10]]
def modX (m : ModT) : Option By := seqO [seqO [some [109, 111, 100, 117, 108, 101, 32], some m.name], listX (m.params.map some), seqO [some [32, 64, 32], some m.clock, some [32, 123, 10]], seqO (m.items.map lineX), seqO [some [125, 10]]]
def fileX (f : FileT) : Option By := seqO (f.map modX)

inductive PartT where
  | s (x : By)
  | i (x : ItemT)
  | r (x : RuleT)
  | n (x : NumT)
  | e (x : ExprT)
def partX : PartT → Option By
  | .s x => some x
  | .i x => itemX x
  | .r x => ruleX x
  | .n x => some (numX x)
  | .e x => exprX x
end Sy
end Go.Proofs.YtggeepimihhpjaaGreatDoor

namespace Go.Proofs.YtggeepimihhpjaaGreatDoor
open Lx Go.Lib
namespace Sy
set_option linter.unusedVariables false

def tkN (x : NumT) : List KT := if x.p = [] then [(2, itoa x.n)] else if 0 < x.n then [(1, x.p), (3, s_plus), (2, itoa x.n)] else if x.n < 0 then [(1, x.p), (3, s_minus), (2, itoa (negI x.n))] else [(1, x.p)]
def NumOK (x : NumT) : Prop := if x.p = [] then 0 ≤ x.n ∧ x.n ≤ 1000000 else NameT x.p ∧ -1000000 ≤ x.n ∧ x.n ≤ 1000000
theorem NameT.ne {w : By} (h : NameT w) : w ≠ [] := h.1.1
theorem negI_small {n : Int} (h : -1000000 ≤ n) : negI n = -n := by unfold negI; rw [if_neg (by omega)]
def pm : List By := [s_plus, s_minus]
theorem tkN_plain {n : Nat} : tkN ⟨(n : Int), []⟩ = [(2, itoa (n : Int))] := if_pos rfl
theorem tkN_plus {n : Nat} {p : By} (hp : p ≠ []) (hn : 1 ≤ n) : tkN ⟨(n : Int), p⟩ = [(1, p), (3, s_plus), (2, itoa (n : Int))] := by
  unfold tkN; rw [if_neg hp, if_pos (by show (0 : Int) < (n : Int); omega)]
theorem tkN_minus {n : Nat} {p : By} (hp : p ≠ []) (hn : 1 ≤ n) (hn2 : n ≤ 1000000) : tkN ⟨-(n : Int), p⟩ = [(1, p), (3, s_minus), (2, itoa (n : Int))] := by
  unfold tkN; rw [if_neg hp, if_neg (by show ¬ (0 : Int) < -(n : Int); omega), if_pos (by show -(n : Int) < 0; omega), negI_small (by show -1000000 ≤ -(n : Int); omega)]
  simp
theorem tkN_name {p : By} (hp : p ≠ []) : tkN ⟨0, p⟩ = [(1, p)] := by
  unfold tkN; rw [if_neg hp]; rfl
theorem Cm.num {x : NumT} (h : NumOK x) : Cm numP x (tkN x) pm := fun l r hl hlr ht hr => by
  obtain ⟨n, p⟩ := x
  unfold NumOK at h
  by_cases hp : p = []
  · subst hp
    rw [if_pos rfl] at h
    replace h : 0 ≤ n ∧ n ≤ 1000000 := h
    obtain ⟨h1, h2⟩ := h
    obtain ⟨k, rfl⟩ : ∃ k : Nat, n = (k : Int) := ⟨n.toNat, by omega⟩
    rw [tkN_plain] at ht
    unfold numP
    rw [if_pos ht.next_kind, show ([(2, itoa (k : Int))] : List KT) = [(2, itoa (k : Int))] ++ [] from rfl] at *
    exact (Cm.number (least := 0) (by omega) (by omega) []).bind (Cm.pure (⟨(k : Int), []⟩ : NumT) pm) (Nx.nil _ _) l r hl hlr ht hr
  · rw [if_neg hp] at h
    replace h : NameT p ∧ -1000000 ≤ n ∧ n ≤ 1000000 := h
    obtain ⟨hN, h1, h2⟩ := h
    have hk : (nextT l).kind = 1 := by
      unfold tkN at ht
      rw [if_neg hp] at ht
      split at ht
      · exact ht.next_kind
      · split at ht
        · exact ht.next_kind
        · exact ht.next_kind
    unfold numP
    rw [if_neg (by omega)]
    by_cases hpos : 0 < n
    · obtain ⟨k, rfl⟩ : ∃ k : Nat, n = (k : Int) := ⟨n.toNat, by omega⟩
      rw [tkN_plus hp (by omega)] at ht
      exact (Cm.name hN []).bind ((Cm.yes 3 s_plus []).bind ((Cm.number (least := 1) (by omega) (by omega) []).bind (Cm.pure (⟨(k : Int), p⟩ : NumT) pm) (Nx.nil _ _)) (Nx.nil _ _)) (Nx.nil _ _) l r hl hlr ht hr
    · by_cases hneg : n < 0
      · obtain ⟨k, rfl⟩ : ∃ k : Nat, n = -(k : Int) := ⟨(-n).toNat, by omega⟩
        rw [tkN_minus hp (by omega) (by omega)] at ht
        exact (Cm.name hN []).bind ((Cm.no s_plus).bind ((Cm.yes 3 s_minus []).bind ((Cm.number (least := 1) (by omega) (by omega) []).bind (Cm.pure (⟨-(k : Int), p⟩ : NumT) pm) (Nx.nil _ _)) (Nx.nil _ _)) (by show s_minus ∉ [s_plus]; decide)) (Nx.nil _ _) l r hl hlr ht hr
      · have : n = 0 := by omega
        subst this
        rw [tkN_name hp] at ht
        exact (Cm.name hN []).bind ((Cm.no s_plus).bind ((Cm.no s_minus).bind (Cm.pure (⟨0, p⟩ : NumT) pm) (by show ∀ w ∈ [s_minus], w ∈ pm; decide)) (by show ∀ w ∈ [s_plus], w ∈ pm; decide)) (Nx.nil _ _) l r hl hlr ht hr
theorem numOK_plain {n : Nat} (h : n ≤ 1000000) : NumOK ⟨(n : Int), []⟩ := by
  unfold NumOK; rw [if_pos rfl]; exact ⟨by show (0 : Int) ≤ (n : Int); omega, by show (n : Int) ≤ 1000000; omega⟩
theorem numOK_name {n : Int} {p : By} (hp : NameT p) (h1 : -1000000 ≤ n) (h2 : n ≤ 1000000) : NumOK ⟨n, p⟩ := by
  unfold NumOK; rw [if_neg hp.ne]; exact ⟨hp, h1, h2⟩
theorem Sd.num1 : Sd (do let n ← numberP 0; Pure.pure ⟨n, []⟩ : PM NumT) (fun x ts => NumOK x ∧ ts = tkN x) := by
  refine (Sd.number 0).bind fun n a h => Sd.pure ?_
  obtain ⟨h1, h2, rfl⟩ := h
  exact ⟨numOK_plain h1, by rw [tkN_plain]; rfl⟩
theorem Sd.num2 : Sd (do
    let p ← nameP
    if ← Sy.accept s_plus then do
      let n ← numberP 1
      Pure.pure ⟨n, p⟩
    else if ← Sy.accept s_minus then do
      let n ← numberP 1
      Pure.pure ⟨-n, p⟩
    else Pure.pure ⟨0, p⟩ : PM NumT) (fun x ts => NumOK x ∧ ts = tkN x) := by
  refine Sd.name.bind fun p a hp => (Sd.accept (k := 3) (n := 1) (by decide) (by decide)).bind fun b c hb => Sd.ite (fun hb1 => (Sd.number 1).bind fun n d hd => Sd.pure ?_) (fun hb1 => (Sd.accept (k := 3) (n := 1) (by decide) (by decide)).bind fun b2 c2 hb2 => Sd.ite (fun hq => (Sd.number 1).bind fun n d hd => Sd.pure ?_) (fun hq => Sd.pure ?_))
  · obtain ⟨hN, rfl⟩ := hp
    rcases hb with ⟨_, rfl⟩ | ⟨hb, _⟩
    · obtain ⟨h1, h2, rfl⟩ := hd
      exact ⟨numOK_name hN (by omega) (by omega), by rw [tkN_plus hN.ne h2]; rfl⟩
    · rw [hb] at hb1; cases hb1
  · obtain ⟨hN, rfl⟩ := hp
    rcases hb with ⟨hb, _⟩ | ⟨_, rfl⟩
    · rw [hb] at hb1; cases hb1
    · rcases hb2 with ⟨_, rfl⟩ | ⟨hb2, _⟩
      · obtain ⟨h1, h2, rfl⟩ := hd
        exact ⟨numOK_name hN (by omega) (by omega), by rw [tkN_minus hN.ne h2 h1]; rfl⟩
      · rw [hb2] at hq; cases hq
  · obtain ⟨hN, rfl⟩ := hp
    rcases hb with ⟨hb, _⟩ | ⟨_, rfl⟩
    · rw [hb] at hb1; cases hb1
    · rcases hb2 with ⟨hb2, _⟩ | ⟨_, rfl⟩
      · rw [hb2] at hq; cases hq
      · exact ⟨numOK_name hN (by omega) (by omega), by rw [tkN_name hN.ne]; rfl⟩
theorem Sd.num : Sd numP (fun x ts => NumOK x ∧ ts = tkN x) := fun l x r hl he => by
  unfold numP at he
  split at he
  · exact Sd.num1 l x r hl he
  · exact Sd.num2 l x r hl he
theorem Cm.behind {α : Type} {m : PM α} {x : α} {ts : List KT} {st : List By} (k : Nat) (w : By) (h : Cm m x ts st) : Cm (behind w m) x ((k, w) :: ts) st := (Cm.expect k w []).bind h (Nx.nil _ _)
theorem Sd.behind {α : Type} {m : PM α} {P : α → List KT → Prop} {w : By} {k n : Nat} (hw : tok w = (k, n)) (h0 : w ≠ []) (h : Sd m (fun x ts => P x ((k, w) :: ts))) : Sd (behind w m) P := (Sd.expect hw h0).bind fun _ a ha => by subst ha; exact h
theorem tkN_first {x : NumT} (h : NumOK x) : ∃ k w us, tkN x = (k, w) :: us ∧ (k = 1 ∨ k = 2) ∧ IsTok w k := by
  unfold NumOK at h
  unfold tkN
  split
  · rename_i hp
    rw [if_pos hp] at h
    obtain ⟨k, hk⟩ : ∃ k : Nat, x.n = (k : Int) := ⟨x.n.toNat, by omega⟩
    refine ⟨2, _, [], rfl, .inr rfl, ?_⟩
    rw [hk, itoa_nat]
    exact dec_tok (by omega)
  · rename_i hp
    rw [if_neg hp] at h
    split
    · exact ⟨1, _, _, rfl, .inl rfl, h.1.1⟩
    · split
      · exact ⟨1, _, _, rfl, .inl rfl, h.1.1⟩
      · exact ⟨1, _, _, rfl, .inl rfl, h.1.1⟩

inductive EOK : Nat → ExprT → List KT → Prop
  | const {m : Nat} {k w : NumT} (hk : NumOK k) (hw : NumOK w) : EOK (m + 1) (.mk 1 [] k w []) ([(3, s_lsq)] ++ (tkN k ++ ((3, s_colon) :: tkN w ++ ([(3, s_rsq)] ++ []))))
  | ref {m : Nat} {nm : By} (h : NameT nm) : EOK (m + 1) (.mk 14 nm num0 num0 []) [(1, nm)]
  | mem {m : Nat} {nm : By} {a : ExprT} {ta : List KT} (h : NameT nm) (ha : EOK (m + 1) a ta) : EOK (m + 2) (.mk 15 nm num0 num0 [a]) ([(1, nm)] ++ ([(3, s_lsq)] ++ (ta ++ ([(3, s_rsq)] ++ []))))
  | not {m : Nat} {a : ExprT} {ta : List KT} (ha : EOK (m + 1) a ta) : EOK (m + 2) (.mk 2 [] num0 num0 [a]) ([(3, s_tilde)] ++ (ta ++ []))
  | two {m : Nat} {op : Int} {s : By} {a b : ExprT} {ta tb : List KT} (ho : (s, op) ∈ opsT) (ha : EOK (m + 1) a ta) (hb : EOK (m + 1) b tb) : EOK (m + 2) (.mk op [] num0 num0 [a, b]) ([(3, s_lpar)] ++ (ta ++ ([(3, s)] ++ (tb ++ ([(3, s_rpar)] ++ [])))))
  | mux {m : Nat} {a b c : ExprT} {ta tb tc : List KT} (ha : EOK (m + 1) a ta) (hb : EOK (m + 1) b tb) (hc : EOK (m + 1) c tc) : EOK (m + 2) (.mk 10 [] num0 num0 [a, b, c]) ([(3, s_lpar)] ++ (ta ++ ([(3, s_quest)] ++ (tb ++ ([(3, s_colon)] ++ (tc ++ ([(3, s_rpar)] ++ [])))))))
  | slice {m : Nat} {k w : NumT} {a : ExprT} {ta : List KT} (ha : EOK (m + 1) a ta) (hk : NumOK k) (hw : NumOK w) : EOK (m + 2) (.mk 12 [] k w [a]) ([(3, s_lbrc)] ++ (ta ++ ([(3, s_ats)] ++ (tkN k ++ ((3, s_colon) :: tkN w ++ ([(3, s_rbrc)] ++ []))))))
  | ext {m : Nat} {w : NumT} {a : ExprT} {ta : List KT} (ha : EOK (m + 1) a ta) (hw : NumOK w) : EOK (m + 2) (.mk 13 [] num0 w [a]) ([(3, s_lbrc)] ++ (ta ++ ([] ++ ((3, s_colon) :: tkN w ++ ([(3, s_rbrc)] ++ [])))))
theorem name_nsign {w : By} (h : NameT w) {c : UInt8} {r : By} (hc : isWd c = false) : w ≠ c :: r := fun e => by
  have := tok_words h.1 (.inl rfl) c (by rw [e]; simp)
  rw [this] at hc; cases hc
end Sy
end Go.Proofs.YtggeepimihhpjaaGreatDoor
