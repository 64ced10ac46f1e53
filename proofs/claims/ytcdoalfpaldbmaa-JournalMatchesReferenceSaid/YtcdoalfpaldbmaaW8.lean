/- The records of a cursor, collected by the library's Collect. -/
import Derived.Test.YtcdoalfpaldbmaaW7
import Derived.Maps.OwnIn
namespace Go.Proofs.Ytcdoalfpaldbmaa
open Go.RowKit Go.Shelf Go.BigFrame Sl Fr Dg
namespace Jn
set_option linter.unusedVariables false
attribute [local go_sem] Oper.semAt_some

theorem infoSl : (Try.prog.info? 29).map (fun i => (i.zero, i.size, i.bytes)) = some (some (.slice none 0 0), 1, 24) := by kernel_rfl
/-- A record's slice, its cells in another block than B and than X. -/
def RowX (base B : Nat) (X : Option Nat) (W : World) (x : Rec) : Prop :=
  ∃ A c, x.1 = .slice A x.2.length c ∧ x.2.length ≤ c ∧ (i64s x.2 ≠ [] → ∃ b o, A = some ⟨b, o, none⟩ ∧ base ≤ b ∧ b ≠ B ∧ some b ≠ X ∧ b < W.heap.size ∧ ∀ j u, (i64s x.2)[j]? = some u → W.cell? ⟨b, o + j, none⟩ = some u)
theorem RowX.row {base B : Nat} {X : Option Nat} {W : World} {x : Rec} (h : RowX base B X W x) : RowY base W x := by
  obtain ⟨A, c, h1, h2, h3⟩ := h
  exact ⟨A, c, h1, h2, fun hne => by obtain ⟨b, o, e, h4, _, _, h5, h6⟩ := h3 hne; exact ⟨b, o, e, h4, h5, h6⟩⟩
theorem RowX.stp {base B C : Nat} {X : Option Nat} {W W' : World} {x : Rec} (h : RowX base B X W x) (hC : C < base) (hs : Stp C W W') : RowX base B X W' x := by
  obtain ⟨A, c, h1, h2, h3⟩ := h
  exact ⟨A, c, h1, h2, fun hne => by
    obtain ⟨b, o, e, h4, h7, h8, h5, h6⟩ := h3 hne
    exact ⟨b, o, e, h4, h7, h8, Nat.lt_of_lt_of_le h5 hs.size, fun j u hu => (World.cell?_of_block (hs.block b h5 (by omega))).trans (h6 j u hu)⟩⟩
theorem RowX.putObj {base B : Nat} {X : Option Nat} {W : World} {x : Rec} (h : RowX base B X W x) {l : Nat} {o : Obj} (o' : Obj) (hl : W.heap[l]? = some o) (ho : o.isCells = false) : RowX base B X (W.putObj l o') x := by
  obtain ⟨A, c, h1, h2, h3⟩ := h
  exact ⟨A, c, h1, h2, fun hne => by
    obtain ⟨b, o1, e, h4, h7, h8, h5, h6⟩ := h3 hne
    refine ⟨b, o1, e, h4, h7, h8, by simpa [World.putObj] using h5, fun j u hu => ?_⟩
    have hc := h6 j u hu
    obtain ⟨o2, q1, q2⟩ := cells_of_cell hc
    have : b ≠ l := by
      intro e; subst e
      simp only at q1
      rw [hl] at q1; cases q1; rw [ho] at q2; cases q2
    exact (World.cell?_of_block (World.putObj_heap_other this)).trans hc⟩
/-- One block beside: what is appended to is another block, and so is what is made now. -/
theorem RowX.grown {base B : Nat} {X Y : Option Nat} {W V W' : World} {x : Rec} (h : RowX base B X W x) (hV : Below W.heap.size W V) (hg : V.grownBy W' X) (hY : Y = X ∨ ∀ g, Y = some g → W.heap.size ≤ g) (v : Value) : RowX base B Y (W'.setCell ⟨B, 0, none⟩ v) x := by
  obtain ⟨A, c, h1, h2, h3⟩ := h
  exact ⟨A, c, h1, h2, fun hne => by
    obtain ⟨b, o, e, h4, h7, h8, h5, h6⟩ := h3 hne
    have h5' : b < V.heap.size := Nat.lt_of_lt_of_le h5 hV.size
    refine ⟨b, o, e, h4, h7, ?_, by simpa using Nat.lt_of_lt_of_le h5' hg.size, fun j u hu => ?_⟩
    · rcases hY with rfl | hY
      · exact h8
      · intro h'; have := hY b h'.symm; omega
    · rw [World.cell?_setCell_far _ _ _ _ (by simpa using Ne.symm h7)]
      exact (World.cell?_of_block (hg.block b h5' h8)).trans ((hV.cell (p := ⟨b, o + j, none⟩) h5).trans (h6 j u hu))⟩
theorem ownsRow_block {W W' : World} {base : Nat} {e : TypeId} {size : Nat} {v : Value} {n : Nat} {xs : List Value} (h : W.ownsRow base e size v n xs) (hb : ∀ g, v.ownBlock = some g → g < W.heap.size → W'.heap[g]? = W.heap[g]?) : W'.ownsRow base e size v n xs := by
  refine ⟨h.1, ?_⟩
  rcases h.2 with h2 | ⟨g, cap, cur, h1, h2, h3, h4⟩
  · exact .inl h2
  · refine .inr ⟨g, cap, cur, h1, h2, ?_, h4⟩
    rw [hb g (by rw [h1]; rfl) (Array.getElem?_eq_some_iff.1 h3).1]
    exact h3
theorem ownsRow_lt {W : World} {base : Nat} {e : TypeId} {size : Nat} {v : Value} {n : Nat} {xs : List Value} (h : W.ownsRow base e size v n xs) : ∀ g, v.ownBlock = some g → base ≤ g ∧ g < W.heap.size := by
  rcases h.2 with ⟨rfl, _⟩ | ⟨g, cap, cur, rfl, h2, h3, _⟩
  · intro g hg; cases hg
  · intro g' hg; cases hg; exact ⟨h2, (Array.getElem?_eq_some_iff.1 h3).1⟩

theorem ownsRow_form {W : World} {base : Nat} {e : TypeId} {size : Nat} {v : Value} {n : Nat} {xs : List Value} (h : W.ownsRow base e size v (n + 1) xs) : ∃ g cap, v = .slice (some ⟨g, 0, none⟩) (n + 1) cap := by
  rcases h.2 with ⟨_, h0⟩ | ⟨g, cap, cur, h1, _⟩
  · exact absurd h0 (by omega)
  · exact ⟨g, cap, h1⟩
theorem Stp.up {C : Nat} {a b c : World} (h : Stp C a b) (k : Below a.heap.size b c) : Stp C a c := ⟨Nat.le_trans h.size k.size, fun i hi hc => (k.block i hi).trans (h.block i hi hc), k.os.trans h.os, k.tape.trans h.tape, k.output.trans h.output⟩

/-- What has been collected: the box B holds a slice of its own. -/
def ColAt (w0 : World) (C : Nat) (pre : List Rec) (W : World) : Prop :=
  ∃ sv, Boxed W w0.heap.size 23 sv ∧ W.ownsRow w0.heap.size 29 1 sv pre.length (pre.map Prod.fst) ∧ (∀ x ∈ pre, RowX w0.heap.size w0.heap.size sv.ownBlock W x) ∧ Stp C w0 W
theorem ColAt.stp {w0 : World} {C : Nat} {pre : List Rec} {W W' : World} (h : ColAt w0 C pre W) (hC : C < w0.heap.size) (hs : Stp C W W') : ColAt w0 C pre W' := by
  obtain ⟨sv, h1, h2, h3, h4⟩ := h
  exact ⟨sv, Boxed.stp h1 (by omega) hs, ownsRow_block h2 (fun g hg hlt => hs.block g hlt (by have := (ownsRow_lt h2 g hg).1; omega)), fun x hx => (h3 x hx).stp hC hs, h4.trans hs⟩
theorem ColAt.putObj {w0 : World} {C : Nat} {pre : List Rec} {W : World} (h : ColAt w0 C pre W) {l : Nat} (hl0 : w0.heap.size ≤ l) {o : Obj} (o' : Obj) (hl : W.heap[l]? = some o) (ho : o.isCells = false) : ColAt w0 C pre (W.putObj l o') := by
  obtain ⟨sv, h1, h2, h3, h4⟩ := h
  have hne : w0.heap.size ≠ l := by
    intro e; subst e
    have h1' : W.heap[w0.heap.size]? = _ := h1
    rw [hl] at h1'; cases h1'; cases ho
  exact ⟨sv, (World.putObj_heap_other hne).trans h1, ownsRow_putObj h2 o' hl ho, fun x hx => (h3 x hx).putObj o' hl ho, h4.putObj hl0 o'⟩

def GiveCo (n₀ : Nat) (w : World) (C : Nat) (rest : List Int) (key : Int) (rs : List (List Int)) (e : Ending) (w' : World) : Prop :=
  ∃ (v : Value) (xs : List Rec), e = .returned v ∧ xs.map Prod.snd = rs ∧ w'.ownsRow w.heap.size 29 1 v xs.length (xs.map Prod.fst) ∧ (∀ x ∈ xs, RowY w.heap.size w' x) ∧ Cur n₀ w' C rest key ∧ Stp C w w'

set_option maxRecDepth 100000 in
set_option maxHeartbeats 2000000 in
theorem append_in (F : Fence) (hF : Hid (F = Fence.wide)) (h41 : F.fn 41) (h42 : F.fn 42) (h43 : F.fn 43) (hro : F.round = none) (n : Nat) (hn : 4 ≤ n)
    (C Bp n₀ : Nat) (bs rest : List Int) (key : Int) (rs : List (List Int)) (w : World) (hcur : Cur n₀ w C bs key) (hbp : Boxed w Bp 77 (.pointer (some ⟨C, 0, none⟩))) (hCn : C < n₀) (hBn : Bp < n₀) (hne : Bp ≠ C) (hn₀ : n₀ ≤ w.heap.size) (hp : Hid (Parses key bs rs rest)) (hrs : rs.length ≤ 100000) :
    CallsIn F n Try.prog 41 #[.slice none 0 0, .func (.func 42) #[] #[.pointer (some ⟨Bp, 0, none⟩)]] w (GiveCo n₀ w C rest (sealK key rs) rs) := by
  have h1 : 1 ≤ n := by omega
  have HCU := Lib.hid hcur
  have HBP := Lib.hid hbp
  clear hcur hbp
  refine callsIn_of_wp_marks Try.func41 rfl h41 ?_ hro
  simp only [Try.ntmps41, List.size_toArray, List.length_cons, List.length_nil, Nat.reduceAdd, Nat.reduceSub, Array.replicate_succ, Array.replicate_zero, List.push_toArray, List.append_toArray, List.nil_append, List.cons_append]
  gi_wp2
  have hbA := (Below.refl _ w).alloc (Nat.le_refl _) (.cells #[.slice none 0 0] 23)
  have hcol : ColAt w C [] (w.alloc (.cells #[.slice none 0 0] 23)) := ⟨.slice none 0 0, Boxed.new _ _ _, World.ownsRow_nil _ _ _ _, by simp, Stp.of hbA⟩
  have hcur2 := HCU.out.keep hbA
  have hbp2 : Boxed (w.alloc (.cells #[.slice none 0 0] 23)) Bp 77 (.pointer (some ⟨C, 0, none⟩)) := (hbA.block Bp (by omega)).trans HBP.out
  have hUs : (w.alloc (.cells #[.slice none 0 0] 23)).heap.size = w.heap.size + 1 := World.size_alloc _ _
  have hbwU : Below w.heap.size w (w.alloc (.cells #[.slice none 0 0] 23)) := hbA
  have HCU2 := Lib.hid hcur2
  have HBP2 := Lib.hid hbp2
  have HCOL := Lib.hid hcol
  clear hbA hcol hcur2 hbp2 HCU HBP
  generalize w.alloc (.cells #[.slice none 0 0] 23) = U at *
  refine wpIn_rangeFunc_st (α := Rec) (m := n - 1 - 1) hro h1 (gf := 42) (lb := #[.pointer (some ⟨Bp, 0, none⟩)]) rfl h42 (enters_of Try.func42 (by kernel_rfl) rfl)
    (encs := fun x : Rec => #[x.1]) (C := C) (n₀ := w.heap.size) (by omega) (by omega) (Y := fun pre x W0 W1 => RowY W0.heap.size W1 x ∧ pre.length < rs.length) (E := fun xs W' => xs.map Prod.snd = rs ∧ Cur n₀ W' C rest (sealK key rs))
    (fun J W hs hb hJ hY hJ0 => records1_in F hF h42 h43 hro (n - 1) (by omega) _ C Bp n₀ bs rest key rs hp W (HCU2.out.keep hb) ((hb.block _ (by omega)).trans HBP2.out) (by omega) (by omega) (by omega) (by have := hb.size; omega) J hJ (fun pre x W0 W1 hj hst hy => (hY pre x W0 W1 hj hst hy).mono fun e W' h => ⟨h.1, h.2.1, h.2.2.mono hn₀⟩) hJ0)
    (fun xs W l o o' hl ho h => ⟨h.1, h.2.putObj o' hl ho⟩) (fun _ => rfl)
    (ColAt w C) (fun s A B h k => h.stp (by omega) k) (fun s A l o hl ⟨o', ho', hc'⟩ h => h.putObj (by omega) o ho' hc') HCOL.out
    (fun x => { tmps := #[.slice none 0 0, .func (.func 42) #[] #[.pointer (some ⟨Bp, 0, none⟩)], .pointer (some ⟨w.heap.size, 0, none⟩), undef, .slice none 0 0, x.1,
      .func (.func 42) #[] #[.pointer (some ⟨Bp, 0, none⟩)], x.1, undef, undef, undef, undef, undef], defers := [] }) ?assign ?body ?done
  case assign =>
    intro l x W K hK
    gi_wp2
    simpa using hK
  case body =>
    intro l pre x W0 W1 W hl hl0 hlo hI0 hst ⟨hY, hlen⟩ hsz hsame hI
    obtain ⟨sv, hbx, hown, hrows, hstp⟩ := hI
    obtain ⟨sv0, hbx0, hown0, _, hstp0⟩ := id hI0
    have hbW : W.heap[w.heap.size]? = W0.heap[w.heap.size]? := (hsame _ (by omega)).trans (hst.block _ (by omega) (by omega))
    have hsv : sv0 = sv := by
      have e : W.heap[w.heap.size]? = _ := hbx
      have e0 : W0.heap[w.heap.size]? = _ := hbx0
      rw [hbW, e0] at e
      simpa using e
    subst hsv
    have hX : RowX w.heap.size w.heap.size sv0.ownBlock W x := by
      obtain ⟨A, c, g1, g2, g3⟩ := hY
      refine ⟨A, c, g1, g2, fun hne => ?_⟩
      obtain ⟨b, o, e, g4, g5, g6⟩ := g3 hne
      refine ⟨b, o, e, by omega, by omega, fun h => ?_, by omega, fun j u hu => (World.cell?_of_block (hsame _ (by show b ≠ l; omega))).trans (g6 j u hu)⟩
      have := (ownsRow_lt hown0 b h.symm).2
      omega
    obtain ⟨i0, hi, hz0, hz1, hz2⟩ := info_parts infoSl
    obtain ⟨xv, xr⟩ := x
    obtain ⟨A, c, g1, g2, g3⟩ := id hX
    dsimp only at g1 g2
    subst g1
    have HX := Lib.hid hX
    clear g2
    have HR := Lib.hid hrows
    have hc0 := hbx.cell
    have hf0 := hbx.frozen
    have hsW : w.heap.size < W.heap.size := by have := hst.size; omega
    have HB := Lib.hid hbx
    have HO := Lib.hid hown
    clear hX hrows g3 hY hst hbx hbx0 hown0 hsame hbW hstp0
    have hnew : ∀ j u, [Value.slice A xr.length c][j]? = some u → (W.alloc (.cells #[.slice A xr.length c] 29)).cell? ((⟨W.heap.size, 0, none⟩ : Addr).add j) = some u := cell_one_new _ _ _
    have hownA := hown.alloc (.cells #[.slice A xr.length c] 29)
    gi_wp2_with (gi_at_builtin; refine wpListIn_append_own_at _ rfl _ _ 23 rfl w.heap.size 29 i0 (.slice none 0 0) 1 24 Try.underlying23 hi hz0 hz1 hz2 rfl (by decide) sv0 pre.length _ rfl hownA ⟨W.heap.size, 0, none⟩ 1 1 [.slice A xr.length c] rfl rfl hnew (by simp [Value.oneCell']) (by unfold maxLen; omega) (by omega) (by simp; omega) ?_; intro v' w3 hown' hg3 hnil3 hob3; obtain ⟨g', cap', hv'⟩ := ownsRow_form hown'; subst hv'; obtain ⟨hb1, hb2, hb3, hb4, hb5⟩ := HB.out.appended (by decide) HO.out (by omega) (by omega) hown' hg3; have hc3 := hb1.cell; have hf3 := hb1.frozen; go_frame)
    have hY : some g' = sv0.ownBlock ∨ ∀ g, some g' = some g → W.heap.size ≤ g := by
      rcases hob3 with h | h
      · exact .inl h
      · refine .inr fun g hg => ?_
        simp [Value.ownBlock] at h hg
        omega
    have hbA : Below W.heap.size W (W.alloc (.cells #[.slice A xr.length c] 29)) := (Below.refl _ W).alloc (Nat.le_refl _) _
    have hX := HX.out.grown (Y := some g') hbA hg3 hY (.slice (some ⟨g', 0, none⟩) (pre.length + 1) cap')
    have hR : ∀ y ∈ pre, RowX w.heap.size w.heap.size (some g') (w3.setCell ⟨w.heap.size, 0, none⟩ (.slice (some ⟨g', 0, none⟩) (pre.length + 1) cap')) y := fun y hy => (HR.out y hy).grown hbA hg3 hY (.slice (some ⟨g', 0, none⟩) (pre.length + 1) cap')
    refine ⟨hb4.from _, hb5, (.slice (some ⟨g', 0, none⟩) (pre.length + 1) cap'), hb2, by simpa using hb3, fun y hy => ?_, hstp.up hb5⟩
    rcases List.mem_append.1 hy with hy | hy
    · exact hR y hy
    · rw [List.mem_singleton] at hy; subst hy; exact hX
  case done =>
    rintro D xs W hD ⟨hxs, hcu⟩ ⟨sv, hbx, hown, hrows, hstp⟩ hK
    have hc0 := hbx.cell
    have HX := Lib.hid hxs
    clear hxs
    gi_wp2
    refine ⟨by simp, .inl ⟨_, _, rfl, run_takeDeferred hK, ?_⟩⟩
    have hDn : w.heap.size ≠ D := by omega
    have s0 : (W.putObj D (.deferred none)).cell? ⟨w.heap.size, 0, none⟩ = some sv := (World.cell?_of_block (World.putObj_heap_other hDn)).trans hc0
    have hown5 := ownsRow_putObj hown (.deferred none) hK rfl
    have hrows5 : ∀ x ∈ xs, RowY w.heap.size (W.putObj D (.deferred none)) x := fun x hx => ((hrows x hx).putObj (.deferred none) hK rfl).row
    have hcu5 := hcu.putObj (.deferred none) hK rfl
    have hst5 : Stp C w (W.putObj D (.deferred none)) := hstp.putObj (by omega) _
    clear hK hcu hstp hrows hown hbx hc0
    generalize W.putObj D (.deferred none) = W5 at *
    refine ⟨sv, ?_, ⟨_, xs, rfl, HX.out, hown5, hrows5, hcu5, hst5⟩⟩
    have hres : Try.f41.results = #[.tmp 4] := rfl
    simp only [results, hres]
    go_simp

set_option maxRecDepth 100000 in
theorem collect_in (F : Fence) (hF : Hid (F = Fence.wide)) (h34 : F.fn 34) (h41 : F.fn 41) (h42 : F.fn 42) (h43 : F.fn 43) (hro : F.round = none) (n : Nat) (hn : 5 ≤ n)
    (C Bp n₀ : Nat) (bs rest : List Int) (key : Int) (rs : List (List Int)) (w : World) (hcur : Cur n₀ w C bs key) (hbp : Boxed w Bp 77 (.pointer (some ⟨C, 0, none⟩))) (hCn : C < n₀) (hBn : Bp < n₀) (hne : Bp ≠ C) (hn₀ : n₀ ≤ w.heap.size) (hp : Hid (Parses key bs rs rest)) (hrs : rs.length ≤ 100000) :
    CallsIn F n Try.prog 34 #[.func (.func 42) #[] #[.pointer (some ⟨Bp, 0, none⟩)]] w (GiveCo n₀ w C rest (sealK key rs) rs) := by
  have h1 : 1 ≤ n := by omega
  have hap := append_in F hF h41 h42 h43 hro (n - 1) (by omega) C Bp n₀ bs rest key rs w hcur hbp hCn hBn hne hn₀ hp hrs
  refine callsIn_of_wp Try.func34 rfl h34 ?_ hro
  simp only [Try.ntmps34, List.size_toArray, List.length_cons, List.length_nil, Nat.reduceAdd, Nat.reduceSub, Array.replicate_succ, Array.replicate_zero, List.push_toArray, List.append_toArray, List.nil_append, List.cons_append]
  gi_wp2_with (gi_at_call 41; refine hap.mono ?_; rintro e w1 ⟨v, xs, rfl, hg⟩)
  go_ret
  exact ⟨v, xs, rfl, hg⟩
end Jn
end Go.Proofs.Ytcdoalfpaldbmaa
