/- The deferred closures of Parse and Print: what was given up is recovered. Parse. Complete and sound: modules and files; what Parse accepts. -/
import Derived.Test.YtggeepimihhpjaaGreatDoorTF
import Derived.Defers
import Derived.Recover
import Derived.Laws.Pointers
import Derived.Test.YtggeepimihhpjaaGreatDoorG7
namespace Go.Proofs.YtggeepimihhpjaaGreatDoor
open Go.RowKit Go.Shelf Go.Lib Sl Fr Lx
namespace Sy
set_option linter.unusedVariables false
set_option linter.unusedSimpArgs false

theorem as_ref (v : Value) (w : World) : (Instr.typeAssert (.iface 110 v) 20 110 true).run Tryz.prog w = .ok (.tuple #[v, .bool true]) w := by kernel_rfl
theorem as_nil (w : World) : (Instr.typeAssert .nilIface 20 110 true).run Tryz.prog w = .ok (.tuple #[.agg #[.int .i64 0], .bool false]) w := by kernel_rfl
attribute [local go_sem high] as_ref as_nil

set_option maxRecDepth 100000 in
set_option maxHeartbeats 2000000 in
theorem pcatch_idle (b0 b1 b2 : Nat) (w : World) (n : Nat) (w0 : World) (hb : Below n w0 w) (hn : n ≤ w.heap.size) :
    CallsD Tryz.prog 47 #[.pointer (some ⟨b0, 0, none⟩), .pointer (some ⟨b1, 0, none⟩), .pointer (some ⟨b2, 0, none⟩)] .returning w fun e u' w' => e = .returned (.tuple #[]) ∧ u' = .returning ∧ Below w.heap.size w w' ∧ Below n w0 w' := by
  have hA : Below w.heap.size w (w.alloc (.cells #[.int .i64 0] 110)) := (Below.refl _ w).alloc (Nat.le_refl _) _
  refine callsD_of_wpS Tryz.func47 rfl fun c₀ cs hu => ?_
  apply wpS_seq
  apply wpS_region
  simp [wpOpsS, go_sem, recoverD, hu, Tryz.ntmps47, Exit.thenS]
  apply wpS_seq
  apply wpS_region
  simp [wpOpsS, go_sem, Exit.thenS]
  refine wpS_cond (t := false) (by simp [Act.eval, Array.replicate]) ?_
  simp only [Bool.false_eq_true, if_false]
  refine wpS_of_wp (wp_skip ?_)
  cases c₀
  simp_all [bodyPostS, results, Tryz.results47]
  exact hb.alloc hn _

set_option maxRecDepth 100000 in
set_option maxHeartbeats 2000000 in
theorem pcatch_panicking (b0 b1 b2 : Nat) (z0 : Array Value) (x1 x2 : Int) (a : Nat) (w : World) (n : Nat) (w0 : World) (hb : Below n w0 w) (hn : n ≤ w.heap.size) (h0 : BoxL w b0 #[.slice none 0 0]) (h1 : BoxL w b1 #[.int .i64 x1]) (h2 : BoxL w b2 #[.int .i64 x2]) (hb0 : n ≤ b0) (hb1 : n ≤ b1) (hb2 : n ≤ b2) (h01 : b0 ≠ b1) (h02 : b0 ≠ b2) (h12 : b1 ≠ b2) :
    CallsD Tryz.prog 47 #[.pointer (some ⟨b0, 0, none⟩), .pointer (some ⟨b1, 0, none⟩), .pointer (some ⟨b2, 0, none⟩)] (.panicking ({ v := .iface 110 (.agg #[.int .i64 (a : Int)]), recovered := false } :: [])) w fun e u' w' =>
      e = .returned (.tuple #[]) ∧ u' = .panicking ({ v := .iface 110 (.agg #[.int .i64 (a : Int)]), recovered := true } :: []) ∧ BoxL w' b0 #[.slice none 0 0] ∧ BoxL w' b1 #[.int .i64 (a : Int)] ∧ BoxL w' b2 #[.int .i64 90] ∧ Below n w0 w' := by
  obtain ⟨mR, bR⟩ := startO w #[.int .i64 (a : Int)] 110
  refine callsD_of_wpS Tryz.func47 rfl fun c₀ cs hu => ?_
  apply wpS_seq
  apply wpS_region
  simp [wpOpsS, go_sem, recoverD, hu, Tryz.ntmps47, Exit.thenS]
  apply wpS_seq
  apply wpS_region
  simp [wpOpsS, go_sem, Exit.thenS]
  refine wpS_cond (t := true) (by simp [Act.eval, Array.replicate]) ?_
  simp only [if_true]
  refine wpS_of_wp ?_
  have k0 := h0.keep bR
  have k1 := h1.keep bR
  have k2 := h2.keep bR
  have kb := hb.alloc hn (.cells #[.int .i64 (a : Int)] 110)
  have hlR := mR.lt
  have n0 : b0 ≠ w.heap.size := by have := h0.lt; omega
  have n1 : b1 ≠ w.heap.size := by have := h1.lt; omega
  have n2 : b2 ≠ w.heap.size := by have := h2.lt; omega
  have r0 := mR.cell (i := 0) rfl
  have e0 := k0.c1
  have e1 := k1.c1
  have e2 := k2.c1
  have f0 := k0.f1
  have f1 := k1.f1
  have f2 := k2.f1
  generalize w.alloc (.cells #[.int .i64 (a : Int)] 110) = X at *
  simp only [Array.replicate, List.replicate, List.setIfInBounds_toArray, List.set_cons_zero, List.set_cons_succ, List.append_toArray, List.cons_append, List.nil_append]
  go_region
  have q0 := ((k0.set1 (i := 0) (by simp) (.slice none 0 0)).far1 (b := b1) h01.symm 0 (.int .i64 (a : Int))).far1 (b := b2) h02.symm 0 (.int .i64 90)
  have q1 := ((k1.far1 (b := b0) h01 0 (.slice none 0 0)).set1 (i := 0) (by simp) (.int .i64 (a : Int))).far1 (b := b2) h12.symm 0 (.int .i64 90)
  have q2 := ((k2.far1 (b := b0) h02 0 (.slice none 0 0)).far1 (b := b1) h12 0 (.int .i64 (a : Int))).set1 (i := 0) (by simp) (.int .i64 90)
  have qb := below_set1 (below_set1 (below_set1 kb hb0 0 (.slice none 0 0)) hb1 0 (.int .i64 (a : Int))) hb2 0 (.int .i64 90)
  generalize ((X.setCell ⟨b0, 0, none⟩ (.slice none 0 0)).setCell ⟨b1, 0, none⟩ (.int .i64 (a : Int))).setCell ⟨b2, 0, none⟩ (.int .i64 90) = Y at *
  have dr : Below Y.heap.size Y Y.drew := (Below.refl _ Y).drew
  have s0 : BoxL Y.drew b0 #[.slice none 0 0] := q0.keep dr
  have s1 : BoxL Y.drew b1 #[.int .i64 (a : Int)] := q1.keep dr
  have s2 : BoxL Y.drew b2 #[.int .i64 90] := q2.keep dr
  have sb : Below n w0 Y.drew := qb.drew
  cases c₀
  simp [bodyPostS, results, Tryz.results47]
  exact ⟨s0, s1, s2, sb⟩

set_option maxRecDepth 100000 in
set_option maxHeartbeats 2000000 in
theorem qcatch_idle (b0 b1 : Nat) (w : World) (n : Nat) (w0 : World) (hb : Below n w0 w) (hn : n ≤ w.heap.size) :
    CallsD Tryz.prog 59 #[.pointer (some ⟨b0, 0, none⟩), .pointer (some ⟨b1, 0, none⟩)] .returning w fun e u' w' => e = .returned (.tuple #[]) ∧ u' = .returning ∧ Below w.heap.size w w' ∧ Below n w0 w' := by
  have hA : Below w.heap.size w (w.alloc (.cells #[.int .i64 0] 110)) := (Below.refl _ w).alloc (Nat.le_refl _) _
  refine callsD_of_wpS Tryz.func59 rfl fun c₀ cs hu => ?_
  apply wpS_seq
  apply wpS_region
  simp [wpOpsS, go_sem, recoverD, hu, Tryz.ntmps59, Exit.thenS]
  apply wpS_seq
  apply wpS_region
  simp [wpOpsS, go_sem, Exit.thenS]
  refine wpS_cond (t := false) (by simp [Act.eval, Array.replicate]) ?_
  simp only [Bool.false_eq_true, if_false]
  refine wpS_of_wp (wp_skip ?_)
  cases c₀
  simp_all [bodyPostS, results, Tryz.results59]
  exact hb.alloc hn _

set_option maxRecDepth 100000 in
set_option maxHeartbeats 2000000 in
theorem qcatch_panicking (b0 b1 : Nat) (z : ByteArray) (x1 : Int) (a : Nat) (w : World) (n : Nat) (w0 : World) (hb : Below n w0 w) (hn : n ≤ w.heap.size) (h0 : BoxL w b0 #[.string z]) (h1 : BoxL w b1 #[.int .i64 x1]) (hb0 : n ≤ b0) (hb1 : n ≤ b1) (h01 : b0 ≠ b1) :
    CallsD Tryz.prog 59 #[.pointer (some ⟨b0, 0, none⟩), .pointer (some ⟨b1, 0, none⟩)] (.panicking ({ v := .iface 110 (.agg #[.int .i64 (a : Int)]), recovered := false } :: [])) w fun e u' w' =>
      e = .returned (.tuple #[]) ∧ u' = .panicking ({ v := .iface 110 (.agg #[.int .i64 (a : Int)]), recovered := true } :: []) ∧ BoxL w' b0 #[.string ⟨#[]⟩] ∧ BoxL w' b1 #[.int .i64 90] ∧ Below n w0 w' := by
  obtain ⟨mR, bR⟩ := startO w #[.int .i64 (a : Int)] 110
  refine callsD_of_wpS Tryz.func59 rfl fun c₀ cs hu => ?_
  apply wpS_seq
  apply wpS_region
  simp [wpOpsS, go_sem, recoverD, hu, Tryz.ntmps59, Exit.thenS]
  apply wpS_seq
  apply wpS_region
  simp [wpOpsS, go_sem, Exit.thenS]
  refine wpS_cond (t := true) (by simp [Act.eval, Array.replicate]) ?_
  simp only [if_true]
  refine wpS_of_wp ?_
  have k0 := h0.keep bR
  have k1 := h1.keep bR
  have kb := hb.alloc hn (.cells #[.int .i64 (a : Int)] 110)
  have e0 := k0.c1
  have e1 := k1.c1
  have f0 := k0.f1
  have f1 := k1.f1
  generalize w.alloc (.cells #[.int .i64 (a : Int)] 110) = X at *
  simp only [Array.replicate, List.replicate, List.setIfInBounds_toArray, List.set_cons_zero, List.set_cons_succ, List.append_toArray, List.cons_append, List.nil_append]
  have q0 := (k0.set1 (i := 0) (by simp) (.string ⟨#[]⟩)).far1 (b := b1) h01.symm 0 (.int .i64 90)
  have q1 := (k1.far1 (b := b0) h01 0 (.string ⟨#[]⟩)).set1 (i := 0) (by simp) (.int .i64 90)
  have qb := below_set1 (below_set1 kb hb0 0 (.string ⟨#[]⟩)) hb1 0 (.int .i64 90)
  go_wp2_with fail
  cases c₀
  simp [bodyPostS, results, Tryz.results59]
  exact ⟨q0, q1, qb⟩
end Sy
end Go.Proofs.YtggeepimihhpjaaGreatDoor

namespace Go.Proofs.YtggeepimihhpjaaGreatDoor
open Go.RowKit Go.Shelf Go.Lib Sl Fr Lx
namespace Sy
set_option linter.unusedVariables false
set_option linter.unusedSimpArgs false

def parseR (l : By) : FileT × Nat × Nat := if (lexR l).2.2 ≠ 0 then ([], (lexR l).2.1, (lexR l).2.2) else match fileP (lexR l).1 with
  | .ok f _ => (f, 0, 0)
  | .no a => ([], a, 90)
def ParG (r : FileT × Nat × Nat) (w : World) (e : Ending) (w' : World) : Prop := ∃ A c vs, e = .returned (.tuple #[.agg #[.slice A r.1.length c], .int .i64 (r.2.1 : Int), .int .i64 (r.2.2 : Int)]) ∧ r.1.length ≤ c ∧ vs.length = r.1.length * 4 ∧ ML w' (Fresh w) r.1 vs ∧ FR w' (Fresh w) A vs ∧ Below w.heap.size w w'
theorem start3X (w : World) (x y z : Array Value) (T0 T1 T2 : TypeId) : BoxL (((w.alloc (.cells x T0)).alloc (.cells y T1)).alloc (.cells z T2)) w.heap.size x ∧ BoxL (((w.alloc (.cells x T0)).alloc (.cells y T1)).alloc (.cells z T2)) (w.heap.size + 1) y ∧ BoxL (((w.alloc (.cells x T0)).alloc (.cells y T1)).alloc (.cells z T2)) (w.heap.size + 2) z ∧ Below w.heap.size w (((w.alloc (.cells x T0)).alloc (.cells y T1)).alloc (.cells z T2)) := by
  obtain ⟨h1, h2, h3⟩ := start2X w x y T0 T1
  obtain ⟨h4, h5⟩ := startO ((w.alloc (.cells x T0)).alloc (.cells y T1)) z T2
  have e : ((w.alloc (.cells x T0)).alloc (.cells y T1)).heap.size = w.heap.size + 2 := by simp
  rw [e] at h4
  exact ⟨(h1.keep h5).boxL, (h2.keep h5).boxL, h4.boxL, h3.trans (h5.mono h3.size)⟩

theorem grown_cell (W : World) (b : Nat) (v : Value) : W.grownBy (W.setCell ⟨b, 0, none⟩ v) (some b) :=
  ⟨rfl, rfl, rfl, by simp, fun i hi hne => by
    have : b ≠ i := fun e => hne (by rw [e])
    simp only [World.setCell, Array.getElem?_modify]
    rw [if_neg this]⟩
theorem keep3 {w3 W : World} {b0 b1 b2 : Nat} {v0 v1 v2 : Value} {f : FileT} {vs : List Value} {A : Option Addr} (hml : ML W (Fresh w3) f vs) (hfr : FR W (Fresh w3) A vs) (h0 : b0 < w3.heap.size) (h1 : b1 < w3.heap.size) (h2 : b2 < w3.heap.size) :
    ML (((W.setCell ⟨b0, 0, none⟩ v0).setCell ⟨b1, 0, none⟩ v1).setCell ⟨b2, 0, none⟩ v2) (Fresh w3) f vs ∧ FR (((W.setCell ⟨b0, 0, none⟩ v0).setCell ⟨b1, 0, none⟩ v1).setCell ⟨b2, 0, none⟩ v2) (Fresh w3) A vs := by
  have q : ∀ b, b < w3.heap.size → ∀ g, some b = some g → ¬ Fresh w3 g := fun b hb g e hf => by injection e with e; subst e; exact absurd hf (Nat.not_le.2 hb)
  exact ⟨((hml.grown (grown_cell _ b0 v0) (q b0 h0)).grown (grown_cell _ b1 v1) (q b1 h1)).grown (grown_cell _ b2 v2) (q b2 h2), ((hfr.grown (grown_cell _ b0 v0) (q b0 h0)).grown (grown_cell _ b1 v1) (q b1 h1)).grown (grown_cell _ b2 v2) (q b2 h2)⟩
theorem lex_len : ∀ (l : By) (a : Nat), (lex a l).1.length ≤ l.length := by
  intro l
  refine lex_ind (P := fun l => ∀ a, (lex a l).1.length ≤ l.length) ?_ ?_ ?_ ?_ ?_ l
  · intro a; exact Nat.le_refl _
  · intro c r h ih a; rw [lex_sp h]; exact Nat.le_succ_of_le (ih _)
  · intro c r h hc ih a; rw [lex_cm h hc]; exact Nat.le_trans (ih _) (by rw [List.length_drop]; omega)
  · intro c r h hc ht a; rw [lex_bad h hc ht]; exact Nat.zero_le _
  · intro c r h hc ht ih a
    rw [lex_tok h hc ht]
    have h1 := ih (a + (tok (c :: r)).2)
    have h2 := tok_le (c :: r)
    rw [List.length_drop] at h1
    simp only [List.length_cons] at *
    omega
theorem lexR_good {l : By} {ts : List Tk} {a : Nat} (h : lexR l = (ts, a, 0)) : LT ts ∧ (∀ t ∈ ts, t.text.length ≤ 8000) ∧ ts.length ≤ 10000 ∧ a = 0 := by
  by_cases hb : 8000 < l.length
  · rw [lexR_big hb] at h; cases h
  · cases he : (lex 0 l).2 with
    | some e => rw [lexR_bad (by omega) he] at h; cases h
    | none =>
      rw [lexR_ok (by omega) he] at h
      have hl := lex_toks (lex 0 l).1 l 0 (lex 0 l).2 rfl
      have hn := lex_len l 0
      injection h with h1 h2
      injection h2 with h2 h3
      subst h1; subst h2
      refine ⟨⟨(lex 0 l).1, l.length, rfl, fun t ht => (hl t ht).1⟩, fun t ht => ?_, by rw [List.length_append]; simp; omega, rfl⟩
      rcases List.mem_append.1 ht with h | h
      · exact Nat.le_trans (hl t h).2 (by omega)
      · rw [List.mem_singleton] at h; subst h; simp [endT]

theorem parse_px {w W2 w3 : World} {tb o c1 pb mR mO mI base : Nat} {ts : List Tk} (hc : VarsC w) (hg : ∀ g name, Tryz.prog.globalNamed name = some g → g < w.heap.size) (qb : Below w.heap.size w W2) (hb3 : Below W2.heap.size W2 w3)
    (hLT : LT ts) (hTX : ∀ t ∈ ts, t.text.length ≤ 8000) (hTN : ts.length ≤ 10000) (hc1 : ts.length ≤ c1) (ht2 : tb < W2.heap.size) (ht3 : ∀ j u, (tkVs ts)[j]? = some u → W2.cell? ⟨tb, o + j, none⟩ = some u)
    (hpb : BoxL w3 pb #[.slice (some ⟨tb, o, none⟩) ts.length c1, .map (some mR), .map (some mO), .map (some mI)]) (hne : mR ≠ pb ∧ mO ≠ pb ∧ mI ≠ pb) (hle : W2.heap.size ≤ pb ∧ W2.heap.size ≤ mR ∧ W2.heap.size ≤ mO ∧ W2.heap.size ≤ mI)
    (hmR : MapS w3 mR rsvE) (hmO : MapS w3 mO opsE) (hmI : MapS w3 mI itmE) : PX w3.heap.size pb ts w3 := by
  have hs := qb.size
  have hs3 := hb3.size
  obtain ⟨l1, l2, l3, l4⟩ := hle
  refine ⟨⟨hLT, hTX, tb, o, c1, mR, mO, mI, hpb, hc1, hTN, ⟨by omega, hne.1, hne.2.1, hne.2.2⟩, ⟨hpb.lt, by omega, hmR.lt, hmO.lt, hmI.lt⟩, by omega, fun i t hi => ?_, hmR, hmO, hmI⟩, hc.keep (qb.trans (hb3.mono hs)), fun g name h => by have := hg g name h; omega, Nat.le_refl _⟩
  obtain ⟨h1, h2, h3⟩ := tkVs_get hi
  refine ⟨(hb3.cell (p := ⟨tb, o + i * 3, none⟩) ht2).trans (ht3 _ _ h1), ?_, ?_⟩
  · rw [Nat.add_assoc]; exact (hb3.cell (p := ⟨tb, o + (i * 3 + 1), none⟩) ht2).trans (ht3 _ _ h2)
  · rw [Nat.add_assoc]; exact (hb3.cell (p := ⟨tb, o + (i * 3 + 2), none⟩) ht2).trans (ht3 _ _ h3)

set_option maxRecDepth 100000 in
set_option maxHeartbeats 8000000 in
theorem parse_any (s : ByteArray) (w : World) (hs : s.size ≤ 281474976710656) (hv : Vars w) (hc : VarsC w) (hg : ∀ g name, Tryz.prog.globalNamed name = some g → g < w.heap.size) :
    Calls Tryz.prog 28 #[.string s] w (ParG (parseR (bys s)) w) := by
  have hmf : ∀ (fn : Fn) (first cap : Array Value) (w : World), (Instr.makeFunc fn first cap).run Tryz.prog w = .ok (.func fn first cap) w := fun _ _ _ _ => rfl
  obtain ⟨m0, m1, m2, bA⟩ := start3X w #[.slice none 0 0] #[.int .i64 0] #[.int .i64 0] 27 3 31
  have HV := Lib.hid (hv.keep bA)
  have HC0 := Lib.hid hc
  have hlx := fun W (h : Vars W) => lex_any s W hs h
  have HLX := Lib.hid hlx
  have hr : parseR (bys s) = if (lexR (bys s)).2.2 ≠ 0 then ([], (lexR (bys s)).2.1, (lexR (bys s)).2.2) else match fileP (lexR (bys s)).1 with
    | .ok f _ => (f, 0, 0)
    | .no a => ([], a, 90) := rfl
  have HR := Lib.hid hr
  have hgd := fun ts a h => @lexR_good (bys s) ts a h
  generalize parseR (bys s) = R at *
  generalize lexR (bys s) = L at *
  obtain ⟨ts, at_, er⟩ := L
  have HGD : Hid (er = 0 → LT ts ∧ (∀ t ∈ ts, t.text.length ≤ 8000) ∧ ts.length ≤ 10000 ∧ at_ = 0) := Lib.hid (fun e => hgd ts at_ (by rw [e]))
  clear hgd
  clear hlx hv hc hr
  go_enter_defers Tryz.func28, Tryz.ntmps28
  go_upto_region 1 with fail
  generalize hXe : ((w.alloc (.cells #[.slice none 0 0] 27)).alloc (.cells #[.int .i64 0] 3)).alloc (.cells #[.int .i64 0] 31) = X at *
  clear hXe
  have H0 := Lib.hid m0
  have H1 := Lib.hid m1
  have H2 := Lib.hid m2
  have HB := Lib.hid bA
  clear m0 m1 m2 bA
  go_upto_region 2 with (go_at_call 26; refine (HLX.out X HV.out).mono ?_; rintro e w1 ⟨A1, c1, rfl, hc1, hn1, hf1, hb1⟩; have e1 := (H1.out.keep hb1).c1; have e2 := (H2.out.keep hb1).c1; have f1 := (H1.out.keep hb1).f1; have f2 := (H2.out.keep hb1).f1)
  have HK0 := H0.out.keep hb1
  have HK1 := H1.out.keep hb1
  have HK2 := H2.out.keep hb1
  have q0 := (HK0.far1 (b := w.heap.size + 1) (by omega) 0 (.int .i64 (at_ : Int))).far1 (b := w.heap.size + 2) (by omega) 0 (.int .i64 (er : Int))
  have q1 := (HK1.set1 (i := 0) (by simp) (.int .i64 (at_ : Int))).far1 (b := w.heap.size + 2) (by omega) 0 (.int .i64 (er : Int))
  have q2 := (HK2.far1 (b := w.heap.size + 1) (by omega) 0 (.int .i64 (at_ : Int))).set1 (i := 0) (by simp) (.int .i64 (er : Int))
  have qb := below_set1 (below_set1 (HB.out.trans (hb1.mono HB.out.size)) (b := w.heap.size + 1) (by omega) 0 (.int .i64 (at_ : Int))) (b := w.heap.size + 2) (by omega) 0 (.int .i64 (er : Int))
  have hsX := hb1.size
  have hlX := H2.out.lt
  have HF1 : Hid (TokF ((w1.setCell ⟨w.heap.size + 1, 0, none⟩ (.int .i64 (at_ : Int))).setCell ⟨w.heap.size + 2, 0, none⟩ (.int .i64 (er : Int))) X.heap.size A1 ts) := Lib.hid (fun hne => by
    obtain ⟨b, o, h1, h2, h3, h4⟩ := hf1 hne
    refine ⟨b, o, h1, h2, by simpa using h3, fun j u hj => ?_⟩
    have hlt := H2.out.lt
    rw [World.cell?_setCell_other _ _ _ _ (fun e => by injection e with e1 e2; omega), World.cell?_setCell_other _ _ _ _ (fun e => by injection e with e1 e2; omega)]
    exact h4 j u hj)
  clear hf1 HK0 HK1 HK2 e1 e2 f1 f2
  generalize hWe : (w1.setCell ⟨w.heap.size + 1, 0, none⟩ (.int .i64 (at_ : Int))).setCell ⟨w.heap.size + 2, 0, none⟩ (.int .i64 (er : Int)) = W2 at *
  clear hWe
  have e0 := q0.c1
  have e1 := q1.c1
  have e2 := q2.c1
  have f0 := q0.f1
  have f1 := q1.f1
  have f2 := q2.f1
  by_cases her : er = 0
  · subst her
    obtain ⟨hLT, hTX, hTN, hA0⟩ := HGD.out rfl
    subst hA0
    obtain ⟨tb, o, rfl, ht1, ht2, ht3⟩ := HF1.out (by intro e; have := congrArg List.length e; rw [tkVs_length] at this; have := hLT.ne; cases ts with | nil => exact this rfl | cons _ _ => simp at *)
    have HE : Hid (R = match fileP ts with
      | .ok f _ => (f, 0, 0)
      | .no a => ([], a, 90)) := Lib.hid HR.out
    clear HR
    have HNP := Lib.hid (newParser_any W2 (some ⟨tb, o, none⟩) ts.length c1)
    have hbW := qb.size
    have HPX := Lib.hid (fun (w3 : World) (pb mR mO mI : Nat) hb3 => @parse_px w W2 w3 tb o c1 pb mR mO mI 0 ts HC0.out hg qb hb3 hLT hTX hTN hc1 ht2 ht3)
    clear hg ht3 hTX hLT hTN
    have HQ0 := Lib.hid q0
    have HQ1 := Lib.hid q1
    have HQ2 := Lib.hid q2
    have HQB := Lib.hid qb
    clear q0 q1 q2 qb
    go_upto_region 5 with fail
    cases hfp : fileP ts with
    | ok f rr =>
      rw [hfp] at HE
      go_wp2_with (first
        | (go_at_call 49; go_loud (with_reducible refine (file_any w3.heap.size pb ts w3 (HPX.out w3 pb mR mO mI hb3 hpb hne hle hmR hmO hmI)).mono ?_; rintro e w4 hfg; unfold FGives at hfg; rw [hfp] at hfg; obtain ⟨hg4, v, rfl, hfv⟩ := hfg; unfold FileV at hfv; obtain ⟨A, c, vs, rfl, hcap, hvl, hml, hfr⟩ := hfv; have nb0 := hle.1; have y0 := (HQ0.out.keep hb3).grown hg4 (fun e => by injection e; omega); have y1 := (HQ1.out.keep hb3).grown hg4 (fun e => by injection e; omega); have y2 := (HQ2.out.keep hb3).grown hg4 (fun e => by injection e; omega); have hs3 := hb3.size; have yb := (HQB.out.trans (hb3.mono hbW)).grown hg4 (by omega) (fun k e => by injection e; omega); have e0 := y0.c1; have e1 := y1.c1; have e2 := y2.c1; have f0 := y0.f1; have f1 := y1.f1; have f2 := y2.f1))
        | (go_at_call 48; refine (HNP.out).mono ?_; rintro e w3 ⟨pb, mR, mO, mI, rfl, hpb, hne, hle, hmR, hmO, hmI, hb3⟩; clear e0 e1 e2 f0 f1 f2))
      clear e0 e1 e2 f0 f1 f2
      have hq0 := HQ0.out.lt
      have hq1 := HQ1.out.lt
      have hq2 := HQ2.out.lt
      have r0 := ((y0.set1 (i := 0) (by simp) (.slice A f.length c)).far1 (b := w.heap.size + 1) (by omega) 0 (.int .i64 0)).far1 (b := w.heap.size + 1 + 1) (by omega) 0 (.int .i64 0)
      have r1 := ((y1.far1 (b := w.heap.size) (by omega) 0 (.slice A f.length c)).set1 (i := 0) (by simp) (.int .i64 0)).far1 (b := w.heap.size + 1 + 1) (by omega) 0 (.int .i64 0)
      have r2 := ((y2.far1 (b := w.heap.size) (by omega) 0 (.slice A f.length c)).far1 (b := w.heap.size + 1) (by omega) 0 (.int .i64 0)).set1 (i := 0) (by simp) (.int .i64 0)
      have rb := below_set1 (below_set1 (below_set1 yb (b := w.heap.size) (by omega) 0 (.slice A f.length c)) (b := w.heap.size + 1) (by omega) 0 (.int .i64 0)) (b := w.heap.size + 1 + 1) (by omega) 0 (.int .i64 0)
      obtain ⟨hml5, hfr5⟩ := keep3 (b0 := w.heap.size) (b1 := w.heap.size + 1) (b2 := w.heap.size + 1 + 1) (v0 := .slice A f.length c) (v1 := .int .i64 0) (v2 := .int .i64 0) hml hfr (by omega) (by omega) (by omega)
      clear hml hfr
      generalize hYe : ((w4.setCell ⟨w.heap.size, 0, none⟩ (.slice A f.length c)).setCell ⟨w.heap.size + 1, 0, none⟩ (.int .i64 0)).setCell ⟨w.heap.size + 1 + 1, 0, none⟩ (.int .i64 0) = Y at *
      clear hYe
      refine leaves_cons (f := 47) (args := #[.pointer (some ⟨w.heap.size, 0, none⟩), .pointer (some ⟨w.heap.size + 1, 0, none⟩), .pointer (some ⟨w.heap.size + 1 + 1, 0, none⟩)]) (by simp) (by simp [go_sem]) ?_
      refine (pcatch_idle w.heap.size (w.heap.size + 1) (w.heap.size + 1 + 1) _ w.heap.size w rb rb.size).mono ?_
      rintro e u' w9 ⟨rfl, rfl, hb9, hb10⟩
      have e0 := (r0.keep hb9).c1
      have e1 := (r1.keep hb9).c1
      have e2 := (r2.keep hb9).c1
      have hml9 := hml5.grown (grown_below hb9) (fun g e => by cases e)
      have hfr9 := hfr5.grown (grown_below hb9) (fun g e => by cases e)
      have hfs : ∀ b, Fresh w3 b → Fresh w b := fun b hb => by unfold Fresh at *; omega
      simp [Leaves, settle, results, Tryz.results28, go_sem, e0, e1, e2]
      rw [HE.out]
      exact ⟨A, c, vs, rfl, hcap, hvl, hml9.mono hfs, hfr9.mono hfs, hb10⟩
    | no a =>
      rw [hfp] at HE
      go_wp2_with (first
        | (go_at_call 49; with_reducible refine (file_any w3.heap.size pb ts w3 (HPX.out w3 pb mR mO mI hb3 hpb hne hle hmR hmO hmI)).mono ?_; rintro e w4 hfg; unfold FGives at hfg; rw [hfp] at hfg; obtain ⟨hg4, rfl⟩ := hfg; have nb0 := hle.1; have y0 := (HQ0.out.keep hb3).grown hg4 (fun e => by injection e; omega); have y1 := (HQ1.out.keep hb3).grown hg4 (fun e => by injection e; omega); have y2 := (HQ2.out.keep hb3).grown hg4 (fun e => by injection e; omega); have hs3 := hb3.size; have yb := (HQB.out.trans (hb3.mono hbW)).grown hg4 (by omega) (fun k e => by injection e; omega))
        | (go_at_call 48; refine (HNP.out).mono ?_; rintro e w3 ⟨pb, mR, mO, mI, rfl, hpb, hne, hle, hmR, hmO, hmI, hb3⟩; clear e0 e1 e2 f0 f1 f2))
      refine leaves_cons (f := 47) (args := #[.pointer (some ⟨w.heap.size, 0, none⟩), .pointer (some ⟨w.heap.size + 1, 0, none⟩), .pointer (some ⟨w.heap.size + 1 + 1, 0, none⟩)]) (by simp) (by simp [go_sem]) ?_
      have z0 := y0
      refine (pcatch_panicking w.heap.size (w.heap.size + 1) (w.heap.size + 1 + 1) #[] 0 0 a _ w.heap.size w yb (by have := y0.lt; omega) y0 y1 y2 (by omega) (by omega) (by omega) (by omega) (by omega) (by omega)).mono ?_
      rintro e u' w9 ⟨rfl, rfl, r0, r1, r2, rb⟩
      have e0 := r0.c1
      have e1 := r1.c1
      have e2 := r2.c1
      simp [Leaves, settle, results, Tryz.results28, go_sem, e0, e1, e2]
      rw [HE.out]
      exact ⟨none, 0, [], rfl, Nat.le_refl _, rfl, rfl, fun h => absurd rfl h, rb⟩
  · have HE : Hid (R = ([], at_, er)) := Lib.hid (by rw [HR.out]; exact if_pos her)
    have heb : ((er : Int) != 0) = true := by simp; omega
    go_upto_region 3 with fail
    go_region
    have r0 := ((q0.set1 (i := 0) (by simp) (.slice none 0 0)).far1 (b := w.heap.size + 1) (by omega) 0 (.int .i64 (at_ : Int))).far1 (b := w.heap.size + 2) (by omega) 0 (.int .i64 (er : Int))
    have r1 := ((q1.far1 (b := w.heap.size) (by omega) 0 (.slice none 0 0)).set1 (i := 0) (by simp) (.int .i64 (at_ : Int))).far1 (b := w.heap.size + 2) (by omega) 0 (.int .i64 (er : Int))
    have r2 := ((q2.far1 (b := w.heap.size) (by omega) 0 (.slice none 0 0)).far1 (b := w.heap.size + 1) (by omega) 0 (.int .i64 (at_ : Int))).set1 (i := 0) (by simp) (.int .i64 (er : Int))
    have rb := below_set1 (below_set1 (below_set1 qb (b := w.heap.size) (by omega) 0 (.slice none 0 0)) (b := w.heap.size + 1) (by omega) 0 (.int .i64 (at_ : Int))) (b := w.heap.size + 2) (by omega) 0 (.int .i64 (er : Int))
    clear q0 q1 q2 e0 e1 e2 f0 f1 f2 qb
    generalize hYe : ((W2.setCell ⟨w.heap.size, 0, none⟩ (.slice none 0 0)).setCell ⟨w.heap.size + 1, 0, none⟩ (.int .i64 (at_ : Int))).setCell ⟨w.heap.size + 2, 0, none⟩ (.int .i64 (er : Int)) = Y at *
    clear hYe
    have dr : Below Y.heap.size Y Y.drew := (Below.refl _ Y).drew
    have e0 := (r0.keep dr).c1
    have e1 := (r1.keep dr).c1
    have e2 := (r2.keep dr).c1
    go_wp2_with fail
    have hbY := rb.trans (dr.mono rb.size)
    generalize Y.drew = Z at *
    simp [bodyPostD, Leaves, settle, results, Tryz.results28, go_sem, e0, e1, e2]
    rw [HE.out]
    exact ⟨none, 0, [], rfl, Nat.le_refl _, rfl, rfl, fun h => absurd rfl h, hbY⟩
end Sy
end Go.Proofs.YtggeepimihhpjaaGreatDoor

namespace Go.Proofs.YtggeepimihhpjaaGreatDoor
open Lx Go.Lib
namespace Sy
set_option linter.unusedVariables false

def ItR : ItemT → List KT → Prop := fun x ts => ∃ a, IOK x a ∧ ts = a ++ ([(3, s_semi)] ++ [])
theorem IOK.first {x : ItemT} {ts : List KT} (h : IOK x ts) : ∃ w us, ts = (1, w) :: us ∧ w ∈ [w_in, w_out, w_chan, w_reg, w_wire, w_mem, w_take, w_put, w_inst] := by
  cases h <;> exact ⟨_, _, rfl, by decide⟩
theorem itemStep_cm {x : ItemT} {ts : List KT} (h : ItR x ts) : (∀ acc : List ItemT, Cm (do let i ← itemP; expect s_semi; Pure.pure (acc ++ [i]) : PM (List ItemT)) (acc ++ [x]) ts []) ∧ ∃ j w us, ts = (j, w) :: us ∧ w ≠ s_rbrc ∧ w ∉ ([] : List By) := by
  obtain ⟨a, ha, rfl⟩ := h
  refine ⟨fun acc => (Cm.item ha).bind ((Cm.expect 3 s_semi []).bind (Cm.pure _ _) (Nx.nil _ _)) (by show s_semi ∉ ist; decide), ?_⟩
  obtain ⟨w, us, rfl, hw⟩ := ha.first
  refine ⟨1, w, _, rfl, ?_, by simp⟩
  have : ∀ w ∈ [w_in, w_out, w_chan, w_reg, w_wire, w_mem, w_take, w_put, w_inst], w ≠ s_rbrc := by decide
  exact this w hw
inductive MOK : ModT → List KT → Prop
  | mk {n c : By} {ps : List By} {xs : List ItemT} {lp ti : List KT} (hn : NameT n) (hp : Lst NameR ps lp) (hc : NameT c) (hi : Seq ItR xs ti) :
    MOK ⟨n, c, ps, xs⟩ ([(1, w_module)] ++ ([(1, n)] ++ (lp ++ ([(3, s_ats)] ++ ([(1, c)] ++ ([(3, s_lbrc)] ++ ((ti ++ [(3, s_rbrc)]) ++ [])))))))
theorem Cm.module {m : ModT} {ts : List KT} (h : MOK m ts) : Cm moduleP m ts [] := by
  cases h with
  | @mk n c ps xs lp ti hn hp hc hi =>
    exact (Cm.expect 1 w_module []).bind ((Cm.name hn []).bind ((Cm.names hp).bind ((Cm.expect 3 s_ats []).bind ((Cm.name hc []).bind ((Cm.expect 3 s_lbrc []).bind
      ((Cm.loopR (k := 3) (stop := s_rbrc) (st := []) Keeps.itemStep (by simp) (fun x ts hx => itemStep_cm hx) hi []).bind (Cm.pure (⟨n, c, ps, [] ++ xs⟩ : ModT) _) (Nx.nil _ _)) (Nx.nil _ _)) (Nx.nil _ _)) (Nx.nil _ _)) (Nx.nil _ _)) (Nx.nil _ _)) (Nx.nil _ _)
theorem Sd.module : Sd moduleP MOK :=
  (Sd.expect (w := w_module) (k := 1) (n := 6) (by decide) (by decide)).bind fun _ a1 q1 => Sd.name.bind fun n a2 q2 => Sd.names.bind fun ps a3 q3 => (Sd.expect (w := s_ats) (k := 3) (n := 1) (by decide) (by decide)).bind fun _ a4 q4 => Sd.name.bind fun c a5 q5 =>
    (Sd.expect (w := s_lbrc) (k := 3) (n := 1) (by decide) (by decide)).bind fun _ a6 q6 =>
    (Sd.loop (stop := s_rbrc) (k := 3) (n := 1) (by decide) (by decide) Keeps.itemStep (I := Seq ItR) (fun acc ts hI => Sd.item.bind fun x b hb => (Sd.expect (w := s_semi) (k := 3) (n := 1) (by decide) (by decide)).bind fun _ d hd => Sd.pure (by subst hd; exact hI.snoc ⟨b, hb, rfl⟩)) [] [] Seq.nil).bind
      fun xs a7 q7 => Sd.pure (by obtain ⟨h2, rfl⟩ := q2; obtain ⟨h5, rfl⟩ := q5; obtain ⟨vs, rfl, hs⟩ := q7; subst q1; subst q4; subst q6; exact MOK.mk h2 q3 h5 hs)
theorem modStep_cm {x : ModT} {ts : List KT} (h : MOK x ts) (acc : FileT) : Cm (do let m ← moduleP; Pure.pure (acc ++ [m]) : PM FileT) (acc ++ [x]) ts [] := by
  have := Cm.bind (f := fun m => (Pure.pure (acc ++ [m]) : PM FileT)) (st' := []) (Cm.module h) (Cm.pure (acc ++ [x]) []) (Nx.nil _ _)
  rwa [List.append_nil] at this
theorem MOK.first {x : ModT} {ts : List KT} (h : MOK x ts) : ∃ us, ts = (1, w_module) :: us := by cases h; exact ⟨_, rfl⟩
theorem lt_end (n : Nat) : LT [⟨4, [], n⟩] := ⟨[], n, rfl, by simp⟩
theorem file_cm {n : Nat} : ∀ {f : FileT} {ts : List KT}, Seq MOK f ts → ∀ (acc : FileT) (l : List Tk), LT l → Tks l ts [⟨4, [], n⟩] → loopP [] (fun acc => do let m ← moduleP; Pure.pure (acc ++ [m])) acc l = .ok (acc ++ f) [] := by
  intro f ts h
  induction h with
  | nil =>
    intro acc l hl ht
    rw [ht.nil] at hl ⊢
    rw [loopP_step Keeps.moduleStep hl, if_pos (show (nextT [⟨4, [], n⟩]).text = [] from rfl), List.append_nil]; rfl
  | @cons x xs a b hx hxs ih =>
    intro acc l hl ht
    obtain ⟨l1, k1, k2⟩ := ht.split
    have hl1 := Tks.lt hl (lt_end n) k1 k2
    obtain ⟨us, e⟩ := hx.first
    have hn : (nextT l).text = w_module := by rw [e] at k1; exact k1.next
    rw [loopP_step Keeps.moduleStep hl, if_neg (by rw [hn]; decide), modStep_cm hx acc l l1 hl hl1 k1 (by simp)]
    show loopP [] _ (acc ++ [x]) l1 = _
    rw [ih (acc ++ [x]) l1 hl1 k2]
    simp
theorem file_sd : ∀ (N : Nat) (l : List Tk) (acc g : FileT) (ts : List KT) (r : List Tk), l.length = N → LT l → Seq MOK acc ts → loopP [] (fun acc => do let m ← moduleP; Pure.pure (acc ++ [m])) acc l = .ok g r → ∃ us n, Seq MOK g (ts ++ us) ∧ Tks l us [⟨4, [], n⟩] := by
  intro N
  induction N using Nat.strongRecOn with
  | _ N ih =>
    intro l acc g ts r hN hl hI he
    rw [loopP_step Keeps.moduleStep hl] at he
    split at he
    · rename_i h
      injection he with h1 h2
      subst h1
      rcases hl.next with q | q
      · exact absurd h q.1.1
      · cases l with
        | nil => exact absurd rfl hl.ne
        | cons t m =>
          have hm : m = [] := q.2.2
          subst hm
          have hk : t.kind = 4 := q.1
          have ht : t.text = [] := q.2.1
          refine ⟨[], t.at_, by rw [List.append_nil]; exact hI, [], ?_, rfl⟩
          obtain ⟨k, w, a⟩ := t
          subst hk; subst ht
          rfl
    · cases hm : (do let m ← moduleP; Pure.pure (acc ++ [m]) : PM FileT) l with
      | no e => rw [hm] at he; cases he
      | ok b l1 =>
        rw [hm] at he
        obtain ⟨_, g2, _⟩ := (Keeps.moduleStep acc).out l b l1 hl hm
        obtain ⟨m, l2, h1, h2⟩ := bind_eq hm
        injection h2 with h2 h3
        subst h2; subst h3
        obtain ⟨k1, us, k2, k3⟩ := Sd.module l m l2 hl h1
        obtain ⟨vs, n, j1, j2⟩ := ih l2.length (by omega) l2 (acc ++ [m]) g (ts ++ us) r rfl k1 (hI.snoc k3) he
        exact ⟨us ++ vs, n, by rw [← List.append_assoc]; exact j1, k2.app j2⟩
theorem parseR_iff {T : By} {f : FileT} : parseR T = (f, 0, 0) ↔ T.length ≤ 8000 ∧ (lex 0 T).2 = none ∧ Seq MOK f ((lex 0 T).1.map kt) := by
  constructor
  · intro h
    unfold parseR at h
    by_cases hb : 8000 < T.length
    · rw [lexR_big hb] at h; simp at h
    · refine ⟨by omega, ?_⟩
      cases he : (lex 0 T).2 with
      | some e => rw [lexR_bad (by omega) he] at h; simp at h
      | none =>
        refine ⟨rfl, ?_⟩
        obtain ⟨hLT, _⟩ := lexR_good (lexR_ok (by omega) he)
        rw [lexR_ok (by omega) he] at h
        simp only [ne_eq, not_true_eq_false, if_false] at h
        cases hf : fileP ((lex 0 T).1 ++ [endT T.length]) with
        | no a => rw [hf] at h; simp at h
        | ok g r =>
          rw [hf] at h
          injection h with h1 h2
          subst h1
          obtain ⟨us, n, h1, d, h2, h3⟩ := file_sd _ _ [] g [] r rfl hLT Seq.nil hf
          obtain ⟨h4, h5⟩ := List.append_inj' h2 rfl
          rw [h4, h3]
          simpa using h1
  · rintro ⟨h1, h2, h3⟩
    obtain ⟨hLT, _⟩ := lexR_good (lexR_ok h1 h2)
    have := file_cm (n := T.length) h3 [] ((lex 0 T).1 ++ [endT T.length]) hLT ⟨(lex 0 T).1, rfl, rfl⟩
    unfold parseR
    rw [lexR_ok h1 h2]
    simp only [ne_eq, not_true_eq_false, if_false]
    unfold fileP
    rw [this]
    rfl
end Sy
end Go.Proofs.YtggeepimihhpjaaGreatDoor
