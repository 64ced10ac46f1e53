/- What is left behind the complete part of a byte sequence, as package journal finds it. -/
import Derived.Test.YtcdoalfpaldbmaaW6
namespace Go.Proofs.Ytcdoalfpaldbmaa
open Go.RowKit Go.Shelf Go.BigFrame Sl Fr Dg
namespace Jn
set_option linter.unusedVariables false
attribute [local go_sem] Oper.semAt_some

theorem records_any (C : Nat) (w : World) : Calls Try.prog 35 #[.pointer (some ⟨C, 0, none⟩)] w fun e w' => e = .returned (.func (.func 42) #[] #[.pointer (some ⟨w.heap.size, 0, none⟩)]) ∧ w.alloc (.cells #[.pointer (some ⟨C, 0, none⟩)] 77) = w' := by
  go_enter Try.func35, Try.ntmps35
  go_wp2
  go_ret
  exact ⟨rfl, rfl⟩

theorem Stp.putObj {C l : Nat} {w A : World} (h : Stp C w A) (hl : w.heap.size ≤ l) (o : Obj) : Stp C w (A.putObj l o) :=
  ⟨by have := h.size; simpa [World.putObj] using this, fun k hk hc => (World.putObj_heap_other (by omega)).trans (h.block k hk hc), h.os, h.tape, h.output⟩
theorem Cur.putObj {n₀ : Nat} {w : World} {C : Nat} {bs : List Int} {key : Int} (h : Cur n₀ w C bs key) {l : Nat} {o : Obj} (o' : Obj) (hl : w.heap[l]? = some o) (ho : o.isCells = false) : Cur n₀ (w.putObj l o') C bs key := by
  have far : ∀ (a : Addr) (v : Value), w.cell? a = some v → a.block ≠ l := fun a v hv e => by
    obtain ⟨o1, h1, h2⟩ := cells_of_cell hv
    rw [e, hl] at h1
    cases h1
    rw [ho] at h2
    cases h2
  have keepc : ∀ (a : Addr) (v : Value), w.cell? a = some v → (w.putObj l o').cell? a = some v ∧ (w.putObj l o').frozen? a = w.frozen? a := fun a v hv =>
    ⟨(World.cell?_of_block (World.putObj_heap_other (far a v hv))).trans hv, World.frozen?_of_block (World.putObj_heap_other (far a v hv))⟩
  obtain ⟨⟨A, cap, h1, h2, h3, h6⟩, h4, h5⟩ := h
  refine ⟨⟨A, cap, ⟨by simpa [World.putObj] using h1.lt, fun i v hv => ⟨(keepc _ _ (h1.cells i v hv).1).1, (keepc _ _ (h1.cells i v hv).1).2.trans (h1.cells i v hv).2⟩⟩, fun hne => ?_, h3, h6⟩, h4, h5⟩
  obtain ⟨b, o1, e, hX, hlt, hc⟩ := h2 hne
  exact ⟨b, o1, e, hX, by simpa [World.putObj] using hlt, fun j u hu => (keepc _ _ (hc j u hu)).1⟩

def GiveBh (w : World) (rest : List Int) (key : Int) (e : Ending) (w' : World) : Prop :=
  ∃ A cap, e = .returned (.agg #[.slice A rest.length cap, .int .u64 key]) ∧ rest.length ≤ cap ∧ Below w.heap.size w w'

set_option maxRecDepth 100000 in
set_option maxHeartbeats 2000000 in
theorem behind_in (F : Fence) (hF : Hid (F = Fence.wide)) (h30 : F.fn 30) (h35 : F.fn 35) (h42 : F.fn 42) (h43 : F.fn 43) (hro : F.round = none) (n : Nat) (hn : 4 ≤ n)
    (A : Option Addr) (bs rest : List Int) (rs : List (List Int)) (cap : Nat) (w : World) (hA : Byt w A bs) (hcap : bs.length ≤ cap) (hb8 : B8 bs) (hbig : bs.length ≤ 100000) (hp : Hid (Parses 0 bs rs rest)) :
    CallsIn F n Try.prog 30 #[.slice A bs.length cap] w (GiveBh w rest (sealK 0 rs)) := by
  have h1 : 1 ≤ n := by omega
  have HA := Lib.hid hA
  clear hA
  refine callsIn_of_wp_marks Try.func30 rfl h30 ?_ hro
  simp only [Try.ntmps30, List.size_toArray, List.length_cons, List.length_nil, Nat.reduceAdd, Nat.reduceSub, Array.replicate_succ, Array.replicate_zero, List.push_toArray, List.append_toArray, List.nil_append, List.cons_append]
  gi_wp2_with (gi_at_call 35; refine (inWide hF (records_any _ _)).mono ?_; rintro e w' ⟨rfl, rfl⟩)
  obtain ⟨V, hV⟩ : ∃ V, V = ((w.alloc (.cells #[.slice none 0 0, .int .u64 0] 62)).alloc (.cells #[.slice A bs.length cap, .int .u64 0] 62)) := ⟨_, rfl⟩
  have hVs : V.heap.size = w.heap.size + 1 + 1 := by rw [hV]; simp
  have hbV : Below w.heap.size w V := by rw [hV]; exact ((Below.refl _ w).alloc (Nat.le_refl _) _).alloc (by simp) _
  have hR : BoxL V w.heap.size #[.slice none 0 0, .int .u64 0] := by rw [hV]; exact (BoxL.new w _ _).keep ((Below.refl _ _).alloc (Nat.le_refl _) _)
  have hCb : BoxL V (w.heap.size + 1) #[.slice A bs.length cap, .int .u64 0] := by
    rw [hV]
    have := BoxL.new (w.alloc (.cells #[.slice none 0 0, .int .u64 0] 62)) #[.slice A bs.length cap, .int .u64 0] 62
    rwa [World.size_alloc] at this
  rw [← hV]
  have hAV : Byt V A bs := HA.out.keep hbV
  have hAX : ArrX V (some (w.heap.size + 1)) A (u8s bs) := fun hne => by
    obtain ⟨b, o, e, hlt, hc⟩ := HA.out hne
    obtain ⟨b', o', e', hlt', hc'⟩ := hAV hne
    rw [e] at e'
    simp only [Option.some.injEq, Addr.mk.injEq] at e'
    obtain ⟨rfl, rfl, _⟩ := e'
    exact ⟨b, o, e, by intro h; injection h with h; omega, hlt', hc'⟩
  have hcur : Cur (V.heap.size + 1) V (w.heap.size + 1) bs 0 := ⟨⟨A, cap, hCb, hAX, hcap, fun b o q e hne => by
    obtain ⟨b', o', e', hlt', _⟩ := HA.out (by intro h; exact hne (by simpa [u8s] using h))
    rw [e] at e'
    simp only [Option.some.injEq, Addr.mk.injEq] at e'
    omega⟩, hb8, hbig⟩
  rw [← hVs]
  have hbx := Boxed.new V 77 (.pointer (some ⟨w.heap.size + 1, 0, none⟩))
  have hbA := (Below.refl _ V).alloc (Nat.le_refl _) (.cells #[.pointer (some ⟨w.heap.size + 1, 0, none⟩)] 77)
  have hcur2 := Lib.hid (hcur.keep hbA)
  have hR2 := Lib.hid (hR.keep hbA)
  have hbw := Lib.hid (hbV.trans (hbA.mono hbV.size))
  have hbx' := Lib.hid hbx
  clear hAX hAV hcur hCb hR hbV hV hbx hbA
  have hUs : (V.alloc (.cells #[.pointer (some ⟨w.heap.size + 1, 0, none⟩)] 77)).heap.size = V.heap.size + 1 := World.size_alloc _ _
  generalize V.alloc (.cells #[.pointer (some ⟨w.heap.size + 1, 0, none⟩)] 77) = U at *
  refine wpIn_rangeFunc_st (α := Rec) (m := n - 1 - 1) hro h1 (gf := 42) (lb := #[.pointer (some ⟨V.heap.size, 0, none⟩)]) rfl h42 (enters_of Try.func42 (by kernel_rfl) rfl)
    (encs := fun x : Rec => #[x.1]) (C := w.heap.size + 1) (n₀ := U.heap.size) (by omega) (Nat.le_refl _) (Y := fun pre x W0 W1 => RowY W0.heap.size W1 x ∧ pre.length < rs.length) (E := fun xs W' => xs.map Prod.snd = rs ∧ Cur U.heap.size W' (w.heap.size + 1) rest (sealK 0 rs))
    (fun J W hs hb hJ hY hJ0 => records1_in F hF h42 h43 hro (n - 1) (by omega) _ (w.heap.size + 1) V.heap.size U.heap.size bs rest 0 rs hp W (by rw [hUs]; exact hcur2.out.keep hb) ((hb.block _ (by omega)).trans hbx'.out) (by omega) (by omega) (by omega) hb.size J hJ hY hJ0)
    (fun xs W l o o' hl ho h => ⟨h.1, h.2.putObj o' hl ho⟩) (fun _ => rfl)
    (fun _ W => Stp (w.heap.size + 1) U W) (fun s A B h k => h.trans k) (fun s A l o hl _ h => h.putObj hl o) (Stp.of (Below.refl _ _))
    (fun x => { tmps := #[.slice A bs.length cap, undef, .pointer (some ⟨w.heap.size, 0, none⟩), .pointer (some ⟨w.heap.size + 1, 0, none⟩), .slice A bs.length cap, .agg #[.slice A bs.length cap, .int .u64 0],
      .func (.func 42) #[] #[.pointer (some ⟨V.heap.size, 0, none⟩)], x.1, undef], defers := [] }) ?assign ?body ?done
  case assign =>
    intro l x W K hK
    gi_wp2
    simpa using hK
  case body =>
    intro l pre x W0 W1 W hl _ _ _ _ _ _ _ hI
    gi_wp2
    exact ⟨KeepsFrom.refl _ _, Below.refl _ _, hI⟩
  case done =>
    rintro D xs W hD ⟨_, hcu⟩ hI hK
    have hR3 : BoxL W w.heap.size #[.slice none 0 0, .int .u64 0] := by
      have e := hI.block w.heap.size (by omega) (by omega)
      exact ⟨Nat.lt_of_lt_of_le hR2.out.lt hI.size, fun i v hv => ⟨(World.cell?_of_block e).trans (hR2.out.cells i v hv).1, (World.frozen?_of_block e).trans (hR2.out.cells i v hv).2⟩⟩
    obtain ⟨⟨A9, cap9, g1, g2, g3, g4⟩, g5, g6⟩ := hcu
    obtain ⟨c0, c1⟩ := g1.c2
    obtain ⟨r0, r1⟩ := hR3.c2
    obtain ⟨f0, f1⟩ := hR3.f2
    clear g1 g2 hR3 g4
    gi_wp2
    obtain ⟨W4, hW4⟩ : ∃ W4, W4 = ((W.setCell ⟨w.heap.size, 0, none⟩ (.slice A9 rest.length cap9)).setCell ⟨w.heap.size, 1, none⟩ (.int .u64 (sealK 0 rs))) := ⟨_, rfl⟩
    have hD4 : W4.heap[D]? = some (.deferred (some [])) := by rw [hW4]; exact (Below.heap_setCell _ _ _ D (by simp; omega)).trans ((Below.heap_setCell _ _ _ D (by simp; omega)).trans hK)
    rw [← hW4]
    refine ⟨by simp, .inl ⟨_, _, rfl, run_takeDeferred hD4, ?_⟩⟩
    have hDn : w.heap.size ≠ D := by omega
    have q0 : W4.cell? ⟨w.heap.size, 0, none⟩ = some (.slice A9 rest.length cap9) := by rw [hW4]; exact (World.cell?_setCell_other _ _ _ _ (by simp)).trans (World.cell?_setCell_same _ _ _ r0)
    have q1 : W4.cell? ⟨w.heap.size, 1, none⟩ = some (.int .u64 (sealK 0 rs)) := by rw [hW4]; exact World.cell?_setCell_same _ _ _ ((World.cell?_setCell_other _ _ _ _ (by simp)).trans r1)
    have hb4 : Below w.heap.size w W4 := by rw [hW4]; exact ((hbw.out.trans ((hI.below (n := w.heap.size) (by omega) (by omega)))).setCell (p := ⟨w.heap.size, 0, none⟩) (Nat.le_refl _) _).setCell (p := ⟨w.heap.size, 1, none⟩) (Nat.le_refl _) _
    have hb5 : Below w.heap.size w (W4.putObj D (.deferred none)) := hb4.trans (belowK_b (w := w) (Nat.le_refl _) W4 D _ _ (by omega) hD4 rfl rfl)
    have s0 : (W4.putObj D (.deferred none)).cell? ⟨w.heap.size, 0, none⟩ = some (.slice A9 rest.length cap9) := (World.cell?_of_block (World.putObj_heap_other hDn)).trans q0
    have s1 : (W4.putObj D (.deferred none)).cell? ⟨w.heap.size, 1, none⟩ = some (.int .u64 (sealK 0 rs)) := (World.cell?_of_block (World.putObj_heap_other hDn)).trans q1
    clear hW4 hD4 q0 q1 hK hb4 c0 c1 r0 r1 f0 f1
    generalize W4.putObj D (.deferred none) = W5 at *
    refine ⟨.agg #[.slice A9 rest.length cap9, .int .u64 (sealK 0 rs)], ?_, ⟨A9, cap9, rfl, g3, hb5⟩⟩
    have hres : Try.f30.results = #[.cell 2 62] := rfl
    simp only [results, hres]
    go_simp

theorem behind_any (A : Option Addr) (bs rest : List Int) (rs : List (List Int)) (cap : Nat) (w : World) (hA : Byt w A bs) (hcap : bs.length ≤ cap) (hb8 : B8 bs) (hbig : bs.length ≤ 100000) (hp : Parses 0 bs rs rest) :
    Calls Try.prog 30 #[.slice A bs.length cap] w (GiveBh w rest (sealK 0 rs)) :=
  (callsIn_wide (n := 4)).1 (behind_in Fence.wide (Lib.hid rfl) trivial trivial trivial trivial rfl 4 (Nat.le_refl _) A bs rest rs cap w hA hcap hb8 hbig (Lib.hid hp))
end Jn
end Go.Proofs.Ytcdoalfpaldbmaa
