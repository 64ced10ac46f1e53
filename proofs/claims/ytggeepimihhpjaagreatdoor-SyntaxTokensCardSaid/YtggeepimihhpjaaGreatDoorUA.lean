/- The law's same. A tree that was read: its numbers are in range, its lists no longer than its tokens. The law's examples, computed. What the laws share: files in memory, the law's functions over them. -/
import Derived.Test.YtggeepimihhpjaaGreatDoorU5
import Derived.Test.YtggeepimihhpjaaGreatDoorU3
import Derived.Test.YtggeepimihhpjaaGreatDoorU6
import Derived.Test.YtggeepimihhpjaaGreatDoorLB
namespace Go.Proofs.YtggeepimihhpjaaGreatDoor
open Go.RowKit Go.Shelf Go.Lib Sl Fr Lx
namespace Sy
set_option linter.unusedVariables false
set_option linter.unusedSimpArgs false

set_option maxRecDepth 100000 in
set_option maxHeartbeats 8000000 in
theorem same_any (hM : RMo) (f g : FileT) (hsm : SmF g) (a a' e e' : Nat) (w : World) (S S' : Nat → Prop) (A B : Option Addr) (c d : Nat) (vs us : List Value) (h1 : ML w S f vs) (h2 : FR w S A vs) (h3 : ML w S' g us) (h4 : FR w S' B us) :
    Calls Tryz.prog 15 #[.agg #[.slice A f.length c, .int .i64 (a : Int), .int .i64 (e : Int)], .agg #[.slice B g.length d, .int .i64 (a' : Int), .int .i64 (e' : Int)]] w (RetB (decide (e = e') && (decide (a = a') && eqL eqM f g)) w) := by
  have HF := Lib.hid (fun (W : World) (hb : Below w.heap.size w W) => rF hM f g hsm W S S' A B c d vs us (h1.grown (grown_below hb) (fun g e => by cases e)) (h2.grown (grown_below hb) (fun g e => by cases e)) (h3.grown (grown_below hb) (fun g e => by cases e)) (h4.grown (grown_below hb) (fun g e => by cases e)))
  clear hM hsm h1 h2 h3 h4
  generalize hR : (decide (e = e') && (decide (a = a') && eqL eqM f g)) = R
  have HR : Hid (R = (decide (e = e') && (decide (a = a') && eqL eqM f g))) := Lib.hid hR.symm
  clear hR
  obtain ⟨mA, mB, bA⟩ := start2X w #[.slice A f.length c, .int .i64 (a : Int), .int .i64 (e : Int)] #[.slice B g.length d, .int .i64 (a' : Int), .int .i64 (e' : Int)] 41 41
  go_enter Tryz.func15, Tryz.ntmps15
  go_upto_region 1 with fail
  generalize hXe : (w.alloc (.cells #[.slice A f.length c, .int .i64 (a : Int), .int .i64 (e : Int)] 41)).alloc (.cells #[.slice B g.length d, .int .i64 (a' : Int), .int .i64 (e' : Int)] 41) = X at *
  clear hXe
  have cA0 := mA.cell (i := 0) rfl
  have cA1 := mA.cell (i := 1) rfl
  have cA2 := mA.cell (i := 2) rfl
  have cB0 := mB.cell (i := 0) rfl
  have cB1 := mB.cell (i := 1) rfl
  have cB2 := mB.cell (i := 2) rfl
  have HBX := Lib.hid bA
  have HC := Lib.hid (HF.out X bA)
  clear mA mB bA HF
  by_cases h1 : e = e'
  · subst h1
    by_cases h2 : a = a'
    · subst h2
      have HRv : Hid (R = eqL eqM f g) := Lib.hid (by rw [HR.out]; simp only [decide_true, Bool.true_and])
      generalize eqL eqM f g = V at *
      go_wp2_with (go_at_call 27; refine (HC.out).mono ?_; rintro e w4 ⟨rfl, hb4⟩)
      go_ret
      exact ⟨by rw [HRv.out]; rfl, HBX.out.trans (hb4.mono HBX.out.size)⟩
    · have h2b : ((a : Int) == (a' : Int)) = false := by simp; omega
      have hRv : R = false := by rw [HR.out, decide_eq_false h2]; simp only [Bool.false_and, Bool.and_false]
      go_wp2_with fail
      go_ret
      exact ⟨by first | rfl | (rw [hRv]; rfl), HBX.out⟩
  · have h1b : ((e : Int) == (e' : Int)) = false := by simp; omega
    have hRv : R = false := by rw [HR.out, decide_eq_false h1]; simp only [Bool.false_and]
    go_wp2_with fail
    go_ret
    exact ⟨by first | rfl | (rw [hRv]; rfl), HBX.out⟩
end Sy
end Go.Proofs.YtggeepimihhpjaaGreatDoor

namespace Go.Proofs.YtggeepimihhpjaaGreatDoor
open Lx Go.Lib
namespace Sy
set_option linter.unusedVariables false

theorem NumOK.i64 {x : NumT} (h : NumOK x) : I64 x.n := by
  unfold NumOK at h
  unfold I64
  split at h <;> omega
theorem i64_nat {n : Nat} (h : n ≤ 1000000) : I64 (n : Int) := by unfold I64; omega
theorem i64_0 : I64 num0.n := by show -9223372036854775808 ≤ (0 : Int) ∧ (0 : Int) ≤ 9223372036854775807; omega
theorem EOK.small {m : Nat} {e : ExprT} {ts : List KT} (h : EOK m e ts) : OkE e ∧ SmE e := by
  induction h with
  | const hk hw => exact ⟨⟨hk.i64, hw.i64, trivial⟩, by unfold SmE SmA; simp⟩
  | ref h => exact ⟨⟨i64_0, i64_0, trivial⟩, by unfold SmE SmA; simp⟩
  | mem h ha ih => exact ⟨⟨i64_0, i64_0, ih.1, trivial⟩, by unfold SmE SmA SmA; exact ⟨by simp, ih.2, trivial⟩⟩
  | not ha ih => exact ⟨⟨i64_0, i64_0, ih.1, trivial⟩, by unfold SmE SmA SmA; exact ⟨by simp, ih.2, trivial⟩⟩
  | two ho ha hb iha ihb => exact ⟨⟨i64_0, i64_0, iha.1, ihb.1, trivial⟩, by unfold SmE SmA SmA SmA; exact ⟨by simp, iha.2, ihb.2, trivial⟩⟩
  | mux ha hb hc iha ihb ihc => exact ⟨⟨i64_0, i64_0, iha.1, ihb.1, ihc.1, trivial⟩, by unfold SmE SmA SmA SmA SmA; exact ⟨by simp, iha.2, ihb.2, ihc.2, trivial⟩⟩
  | slice ha hk hw ih => exact ⟨⟨hk.i64, hw.i64, ih.1, trivial⟩, by unfold SmE SmA SmA; exact ⟨by simp, ih.2, trivial⟩⟩
  | ext ha hw ih => exact ⟨⟨i64_0, hw.i64, ih.1, trivial⟩, by unfold SmE SmA SmA; exact ⟨by simp, ih.2, trivial⟩⟩
theorem ROK.i64 {r : RuleT} {ts : List KT} (h : ROK r ts) : I64 r.n := by
  cases h with
  | init => exact i64_0
  | keep => exact i64_0
  | copy h => exact i64_0
  | add h hn => exact i64_nat hn
theorem Seq.short {α : Type} {P : α → List KT → Prop} (hP : ∀ x ts, P x ts → 1 ≤ ts.length) {xs : List α} {ts : List KT} (h : Seq P xs ts) : xs.length ≤ ts.length := by
  induction h with
  | nil => exact Nat.le_refl _
  | @cons x xs a b h1 h2 ih => have := hP x a h1; rw [List.length_cons, List.length_append]; omega
theorem Seq.all {α : Type} {P : α → List KT → Prop} {xs : List α} {ts : List KT} (h : Seq P xs ts) : ∀ x ∈ xs, ∃ us, P x us ∧ us.length ≤ ts.length := by
  induction h with
  | nil => intro x hx; cases hx
  | @cons x xs a b h1 h2 ih =>
    intro y hy
    rcases List.mem_cons.1 hy with rfl | hy
    · exact ⟨a, h1, by rw [List.length_append]; omega⟩
    · obtain ⟨us, k1, k2⟩ := ih y hy
      exact ⟨us, k1, by rw [List.length_append]; omega⟩
theorem Lst.short {α : Type} {P : α → List KT → Prop} {xs : List α} {ts : List KT} (h : Lst P xs ts) : xs.length ≤ ts.length ∧ ∀ x ∈ xs, ∃ us, P x us := by
  cases h with
  | nil => exact ⟨by simp, fun x hx => by cases hx⟩
  | @cons x xs a b h1 h2 =>
    have := Seq.short (fun x ts hx => by obtain ⟨b, _, rfl⟩ := hx; simp) h2
    refine ⟨by simp only [List.length_cons, List.length_append, List.length_nil]; omega, fun y hy => ?_⟩
    rcases List.mem_cons.1 hy with rfl | hy
    · exact ⟨a, h1⟩
    · obtain ⟨us, ⟨b, k, _⟩, _⟩ := h2.all y hy
      exact ⟨b, k⟩
theorem okE0 : OkE expr0 ∧ SmE expr0 := ⟨⟨i64_0, i64_0, trivial⟩, by unfold expr0 SmE SmA; simp⟩
theorem IOK.small {x : ItemT} {ts : List KT} (h : IOK x ts) (hl : ts.length ≤ 10000) : OkI x ∧ SmI x := by
  have z := i64_0
  have y := okE0
  cases h with
  | input hn hw => exact ⟨⟨hw.i64, z, z, y.1, y.1, y.1, z, (fun x hx => by cases hx), Nat.zero_le _, Nat.zero_le _⟩, y.2, y.2, y.2, Nat.zero_le _, Nat.zero_le _⟩
  | output hn hw => exact ⟨⟨hw.i64, z, z, y.1, y.1, y.1, z, (fun x hx => by cases hx), Nat.zero_le _, Nat.zero_le _⟩, y.2, y.2, y.2, Nat.zero_le _, Nat.zero_le _⟩
  | channel hn hw hd => exact ⟨⟨hw.i64, hd.i64, z, y.1, y.1, y.1, z, (fun x hx => by cases hx), Nat.zero_le _, Nat.zero_le _⟩, y.2, y.2, y.2, Nat.zero_le _, Nat.zero_le _⟩
  | register hn hw hi ha hru => exact ⟨⟨hw.i64, z, hi.i64, ha.small.1, y.1, y.1, hru.i64, (fun x hx => by cases hx), Nat.zero_le _, Nat.zero_le _⟩, ha.small.2, y.2, y.2, Nat.zero_le _, Nat.zero_le _⟩
  | wire hn hw ha => exact ⟨⟨hw.i64, z, z, ha.small.1, y.1, y.1, z, (fun x hx => by cases hx), Nat.zero_le _, Nat.zero_le _⟩, ha.small.2, y.2, y.2, Nat.zero_le _, Nat.zero_le _⟩
  | memory hn hw hd ha hb hc hru => exact ⟨⟨hw.i64, hd.i64, z, ha.small.1, hb.small.1, hc.small.1, hru.i64, (fun x hx => by cases hx), Nat.zero_le _, Nat.zero_le _⟩, ha.small.2, hb.small.2, hc.small.2, Nat.zero_le _, Nat.zero_le _⟩
  | take hn ha => exact ⟨⟨z, z, z, ha.small.1, y.1, y.1, z, (fun x hx => by cases hx), Nat.zero_le _, Nat.zero_le _⟩, ha.small.2, y.2, y.2, Nat.zero_le _, Nat.zero_le _⟩
  | put hn ha hb => exact ⟨⟨z, z, z, ha.small.1, hb.small.1, y.1, z, (fun x hx => by cases hx), Nat.zero_le _, Nat.zero_le _⟩, ha.small.2, hb.small.2, y.2, Nat.zero_le _, Nat.zero_le _⟩
  | @inst n o ar lar ps lps hn ho har hps =>
    have h1 := har.short
    have h2 := hps.short
    simp only [List.length_cons, List.length_append, List.length_nil] at hl
    have l1 : ar.length ≤ 281474976710656 := by have := h1.1; omega
    have l2 : ps.length ≤ 281474976710656 := by have := h2.1; omega
    exact ⟨⟨z, z, z, y.1, y.1, y.1, z, fun x hx => by obtain ⟨us, k, _⟩ := h1.2 x hx; exact k.i64, l1, l2⟩, y.2, y.2, y.2, l1, l2⟩
theorem MOK.small {x : ModT} {ts : List KT} (h : MOK x ts) (hl : ts.length ≤ 10000) : OkM x ∧ SmM x := by
  cases h with
  | @mk n c ps xs lp ti hn hp hc hi =>
    have h1 := hp.short
    have h2 := hi.short (fun x ts hx => by obtain ⟨b, _, rfl⟩ := hx; simp)
    simp only [List.length_cons, List.length_append, List.length_nil] at hl
    have h3 : ∀ i ∈ xs, OkI i ∧ SmI i := fun i hx => by
      obtain ⟨us, ⟨a, k, e⟩, k2⟩ := hi.all i hx
      refine k.small ?_
      have := congrArg List.length e
      simp only [List.length_cons, List.length_append, List.length_nil] at this
      omega
    have l1 : ps.length ≤ 281474976710656 := by have := h1.1; omega
    have l2 : xs.length ≤ 281474976710656 := by omega
    exact ⟨⟨l1, l2, fun i hx => (h3 i hx).1⟩, l1, l2, fun i hx => (h3 i hx).2⟩
theorem parsed_small {T : By} {f : FileT} (h : parseR T = (f, 0, 0)) : OkF f ∧ SmF f := by
  obtain ⟨h1, h2, h3⟩ := parseR_iff.1 h
  have hl : ((lex 0 T).1.map kt).length ≤ 8000 := by rw [List.length_map]; exact Nat.le_trans (lex_len T 0) h1
  have hs := h3.short (fun x ts hx => by obtain ⟨us, rfl⟩ := hx.first; simp)
  have hm : ∀ m ∈ f, OkM m ∧ SmM m := fun m hx => by
    obtain ⟨us, k, k2⟩ := h3.all m hx
    exact k.small (by omega)
  exact ⟨⟨by omega, fun m hx => (hm m hx).1⟩, by omega, fun m hx => (hm m hx).2⟩
end Sy
end Go.Proofs.YtggeepimihhpjaaGreatDoor

namespace Go.Proofs.YtggeepimihhpjaaGreatDoor
open Lx Go.Lib
namespace Sy
set_option linter.unusedVariables false
theorem parse_by {T : By} {f : FileT} {a e : Nat} (h : (eqL eqM (parseR T).1 f && decide ((parseR T).2 = (a, e))) = true) : parseR T = (f, a, e) := by
  rw [Bool.and_eq_true, eqF_iff, decide_eq_true_eq] at h
  rw [← h.1, ← h.2]
def x1 : By := [109, 111, 100, 117, 108, 101, 32, 109, 40, 41, 32, 64, 32, 99, 32, 123, 32, 105, 110, 32, 97, 32, 58, 32, 51, 32, 59, 32, 125]
def f1 : FileT := [⟨[109], [99], [], [{ item0 with kind := 1, name := [97], width := ⟨3, []⟩ }]⟩]
set_option maxRecDepth 100000 in
theorem parse_x1 : parseR x1 = (f1, 0, 0) := parse_by (by decide +kernel)
def x2 : By := [109, 111, 100, 117, 108, 101, 32, 105, 102]
set_option maxRecDepth 100000 in
theorem parse_x2 : parseR x2 = ([], 7, 90) := parse_by (by decide +kernel)
set_option maxRecDepth 100000 in
theorem parse_x3 : parseR [] = ([], 0, 0) := parse_by (by decide +kernel)
def x4 : By := [109, 111, 100, 117, 108, 101, 32, 109, 40, 41, 32, 64, 32, 99, 32, 123]
set_option maxRecDepth 100000 in
theorem parse_x4 : parseR x4 = ([], 16, 90) := parse_by (by decide +kernel)
def x5 : By := [109, 111, 100, 117, 108, 101, 32, 109, 40, 41, 32, 64, 32, 99, 32, 123, 32, 105, 110, 32, 97, 58, 32, 119, 32, 45, 32, 48, 59, 32, 125]
set_option maxRecDepth 100000 in
theorem parse_x5 : parseR x5 = ([], 27, 90) := parse_by (by decide +kernel)
def t1 : By := [109, 111, 100, 117, 108, 101, 32, 109, 40, 41, 32, 64, 32, 99, 32, 123, 10, 32, 32, 105, 110, 32, 97, 58, 32, 51, 59, 10, 125, 10]
set_option maxRecDepth 100000 in
theorem print_f1 : printR f1 = (t1, 0) := by decide +kernel
set_option maxRecDepth 100000 in
theorem print_f0 : printR [⟨[109], [], [], []⟩] = ([], 90) := by decide +kernel
end Sy
end Go.Proofs.YtggeepimihhpjaaGreatDoor

namespace Go.Proofs.YtggeepimihhpjaaGreatDoor
open Go.RowKit Go.Shelf Go.Lib Sl Fr Lx
namespace Sy
set_option linter.unusedVariables false
set_option linter.unusedSimpArgs false

structure VG (w : World) : Prop where
  v : Vars w
  c : VarsC w
  g : ∀ g name, Tryz.prog.globalNamed name = some g → g < w.heap.size
theorem VG.keep {w w' : World} (h : VG w) (hb : Below w.heap.size w w') : VG w' := ⟨h.v.keep hb, h.c.keep hb, fun g name hn => Nat.lt_of_lt_of_le (h.g g name hn) hb.size⟩
def FileM (w : World) (f : FileT) (A : Option Addr) (c : Nat) : Prop := f.length ≤ c ∧ ∃ vs, vs.length = f.length * 4 ∧ ML w (fun b => b < w.heap.size) f vs ∧ FR w (fun b => b < w.heap.size) A vs
theorem FileM.keep {w w' : World} {f : FileT} {A : Option Addr} {c : Nat} (h : FileM w f A c) (hb : Below w.heap.size w w') : FileM w' f A c := by
  obtain ⟨h1, vs, h2, h3, h4⟩ := h
  exact ⟨h1, vs, h2, (h3.grown (grown_below hb) (fun g e => by cases e)).mono (fun b h => Nat.lt_of_lt_of_le h hb.size), (h4.grown (grown_below hb) (fun g e => by cases e)).mono (fun b h => Nat.lt_of_lt_of_le h hb.size)⟩
theorem FileM.nil (w : World) (A : Option Addr) (c : Nat) : FileM w [] A c := ⟨Nat.zero_le _, [], rfl, rfl, fun h => absurd rfl h⟩
theorem FileM.of {w : World} {S : Nat → Prop} {f : FileT} {A : Option Addr} {c : Nat} {vs : List Value} (h1 : f.length ≤ c) (h2 : vs.length = f.length * 4) (h3 : ML w S f vs) (h4 : FR w S A vs) : FileM w f A c :=
  ⟨h1, vs, h2, h3.lt.mono (fun b h => h.2), h4.lt.mono (fun b h => h.2)⟩
theorem parsed_f (s : ByteArray) (w : World) (hs : s.size ≤ 281474976710656) (hv : VG w) :
    Calls Tryz.prog 16 #[.string s] w fun e w' => ∃ A c, e = .returned (.agg #[.slice A (parseR (bys s)).1.length c, .int .i64 ((parseR (bys s)).2.1 : Int), .int .i64 ((parseR (bys s)).2.2 : Int)]) ∧ FileM w' (parseR (bys s)).1 A c ∧ Below w.heap.size w w' := by
  refine (parsed_any s w hs hv.v hv.c hv.g).mono ?_
  rintro e w' ⟨A, c, vs, rfl, h1, h2, h3, h4, hb⟩
  exact ⟨A, c, rfl, FileM.of h1 h2 h3 h4, hb⟩
theorem printed_f (f : FileT) (hok : OkF f) (hsm : SmF f) (A : Option Addr) (c : Nat) (w : World) (h : FileM w f A c) (hv : VG w) :
    Calls Tryz.prog 18 #[.agg #[.slice A f.length c]] w fun e w' => e = .returned (.agg #[.string ⟨(printR f).1.toArray⟩, .int .i64 ((printR f).2 : Int)]) ∧ Below w.heap.size w w' := by
  obtain ⟨h1, vs, h2, h3, h4⟩ := h
  exact printed_any f hok hsm A c vs w h3 h4 hv.v hv.c hv.g
theorem same_f (f g : FileT) (hsm : SmF g) (a a' e e' : Nat) (w : World) (A B : Option Addr) (c d : Nat) (h : FileM w f A c) (h' : FileM w g B d) :
    Calls Tryz.prog 15 #[.agg #[.slice A f.length c, .int .i64 (a : Int), .int .i64 (e : Int)], .agg #[.slice B g.length d, .int .i64 (a' : Int), .int .i64 (e' : Int)]] w (RetB (decide (e = e') && (decide (a = a') && eqL eqM f g)) w) := by
  obtain ⟨h1, vs, h2, h3, h4⟩ := h
  obtain ⟨k1, us, k2, k3, k4⟩ := h'
  exact same_any (rM rIt) f g hsm a a' e e' w _ _ A B c d vs us h3 h4 k3 k4
theorem same_yes (f : FileT) (hsm : SmF f) (a e : Nat) (w : World) (A B : Option Addr) (c d : Nat) (h : FileM w f A c) (h' : FileM w f B d) :
    Calls Tryz.prog 15 #[.agg #[.slice A f.length c, .int .i64 (a : Int), .int .i64 (e : Int)], .agg #[.slice B f.length d, .int .i64 (a : Int), .int .i64 (e : Int)]] w fun o w' => o = .returned (.bool true) ∧ Below w.heap.size w w' := by
  have := same_f f f hsm a a e e w A B c d h h'
  rwa [decide_eq_true rfl, decide_eq_true rfl, (eqF_iff f f).2 rfl] at this
def pdB (f : FileT) (a e : Nat) : FSpec := ⟨fun v => ∃ B c, v = .agg #[.slice B f.length c, .int .i64 (a : Int), .int .i64 (e : Int)], fun _ v wm => ∀ B c, v = .agg #[.slice B f.length c, .int .i64 (a : Int), .int .i64 (e : Int)] → FileM wm f B c⟩
theorem dep_of {F : Nat → World × World → World → Prop} {l : List Nat} {w : World} (hd : ∀ j ∈ l, ∃ p, F j p w) (j : Nat) (h : l.contains j = true) : ∃ p, F j p w := hd j (List.contains_iff_mem.1 h)
theorem parsed_is {s : ByteArray} {w : World} {f : FileT} {a e : Nat} (hs : s.size ≤ 281474976710656) (hv : VG w) (hp : parseR (bys s) = (f, a, e)) :
    Calls Tryz.prog 16 #[.string s] w fun o w' => ∃ A c, o = .returned (.agg #[.slice A f.length c, .int .i64 (a : Int), .int .i64 (e : Int)]) ∧ FileM w' f A c ∧ Below w.heap.size w w' := by
  have := parsed_f s w hs hv
  rwa [hp] at this
theorem printed_is {f : FileT} {T : By} {n : Nat} (hok : OkF f) (hsm : SmF f) {A : Option Addr} {c : Nat} {w : World} (h : FileM w f A c) (hv : VG w) (hp : printR f = (T, n)) :
    Calls Tryz.prog 18 #[.agg #[.slice A f.length c]] w fun e w' => e = .returned (.agg #[.string ⟨T.toArray⟩, .int .i64 (n : Int)]) ∧ Below w.heap.size w w' := by
  have := printed_f f hok hsm A c w h hv
  rwa [hp] at this
theorem f1_small : OkF f1 ∧ SmF f1 := parsed_small parse_x1
end Sy
end Go.Proofs.YtggeepimihhpjaaGreatDoor
