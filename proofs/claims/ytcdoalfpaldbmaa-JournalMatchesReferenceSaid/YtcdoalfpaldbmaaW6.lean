/- The iterator over the records that a cursor reads: which slices it hands to a loop's body, in which order. -/
import Derived.Test.YtcdoalfpaldbmaaW5
import Derived.Sort.LoopGhostIn
namespace Go.Proofs.Ytcdoalfpaldbmaa
open Go.RowKit Go.Shelf Go.BigFrame Sl Fr Dg
namespace Jn
set_option linter.unusedVariables false
attribute [local go_sem] Oper.semAt_some

theorem inWide {F : Fence} {m : Nat} {f : FuncId} {args : Array Value} {w : World} {R : Ending → World → Prop} (hF : Hid (F = Fence.wide)) (h : Calls Try.prog f args w R) : CallsIn F m Try.prog f args w R := by
  rw [hF.out]; exact callsIn_wide.2 h

/-- A record that was handed out: its slice, its elements. -/
abbrev Rec := Value × List Int
def RowY (base : Nat) (W : World) (x : Rec) : Prop := ∃ A c, x.1 = .slice A x.2.length c ∧ x.2.length ≤ c ∧ ArrF W base A (i64s x.2)
theorem Cur.below {n₀ : Nat} {w w' : World} {C : Nat} {bs : List Int} {key : Int} (h : Cur n₀ w C bs key) (hC : C < n₀) (hb : Below n₀ w w') : Cur n₀ w' C bs key := by
  obtain ⟨⟨A, cap, h1, h2, h3, h6⟩, h4, h5⟩ := h
  refine ⟨⟨A, cap, ⟨Nat.lt_of_lt_of_le h1.lt hb.size, fun i v hv => ⟨(hb.cell (p := ⟨C, i, none⟩) hC).trans (h1.cells i v hv).1, (hb.frozen (p := ⟨C, i, none⟩) hC).trans (h1.cells i v hv).2⟩⟩, fun hne => ?_, h3, h6⟩, h4, h5⟩
  obtain ⟨b, o, e, hX, hlt, hc⟩ := h2 hne
  have hb0 : b < n₀ := h6 b o none e (by intro e'; subst e'; exact hne rfl)
  exact ⟨b, o, e, hX, Nat.lt_of_lt_of_le hlt hb.size, fun j u hu => (hb.cell (p := ⟨b, o + j, none⟩) hb0).trans (hc j u hu)⟩
theorem Boxed.below {n₀ : Nat} {w w' : World} {B : Nat} {t : TypeId} {v : Value} (h : Boxed w B t v) (hB : B < n₀) (hb : Below n₀ w w') : Boxed w' B t v := (hb.block B hB).trans h
theorem Boxed.stp {C : Nat} {w w' : World} {B : Nat} {t : TypeId} {v : Value} (h : Boxed w B t v) (hB : B ≠ C) (hs : Stp C w w') : Boxed w' B t v := (hs.block B h.lt hB).trans h

def RecAt (n₀ C Bp : Nat) (rs : List (List Int)) (rest : List Int) (key : Int) (J : List Rec → World → Prop) (g : Nat) (r ok : Value) (wr : World) : Prop :=
  ∃ pre : List Rec, Boxed wr Bp 77 (.pointer (some ⟨C, 0, none⟩)) ∧ n₀ ≤ wr.heap.size ∧
   ((∃ (x : Rec) (l' : List (List Int)) (W0 : World), rs = pre.map Prod.snd ++ x.2 :: l' ∧ r = x.1 ∧ ok = .bool true ∧ g = l'.length + 1 ∧ J pre W0 ∧ Stp C W0 wr ∧ RowY W0.heap.size wr x ∧ Cur n₀ wr C (jour (sealK key (pre.map Prod.snd ++ [x.2])) l' ++ rest) (sealK key (pre.map Prod.snd ++ [x.2])))
    ∨ (rs = pre.map Prod.snd ∧ ok = .bool false ∧ r = .slice none 0 0 ∧ g = 0 ∧ J pre wr ∧ Cur n₀ wr C rest (sealK key rs)))

theorem recAt_of_next {n₀ C Bp : Nat} {rs : List (List Int)} {bs rest : List Int} {key : Int} {J : List Rec → World → Prop} (hp : Parses key bs rs rest) (hne : Bp ≠ C) (hJ : ∀ s A B, J s A → Stp C A B → J s B)
    {pre : List Rec} {l' : List (List Int)} {W : World} (hrs : rs = pre.map Prod.snd ++ l') (hbx : Boxed W Bp 77 (.pointer (some ⟨C, 0, none⟩))) (hn : n₀ ≤ W.heap.size) (hj : J pre W) (hcu : Cur n₀ W C (jour (sealK key (pre.map Prod.snd)) l' ++ rest) (sealK key (pre.map Prod.snd)))
    {e : Ending} {w' : World} (h : GiveNx n₀ W C (jour (sealK key (pre.map Prod.snd)) l' ++ rest) (sealK key (pre.map Prod.snd)) e w') :
    ∃ r ok, e = .returned (.tuple #[r, ok]) ∧ RecAt n₀ C Bp rs rest key J l'.length r ok w' := by
  cases l' with
  | nil =>
    rw [List.append_nil] at hrs
    have hno : nxt (sealK key (pre.map Prod.snd)) (jour (sealK key (pre.map Prod.snd)) [] ++ rest) = none := by
      have := hp.no
      rw [hrs] at this
      simpa [jour] using this
    rcases h with ⟨r, A, c, h1, _⟩ | ⟨_, rfl, hb⟩
    · rw [hno] at h1; cases h1
    · have hcu' := hcu.keep hb
      simp only [jour, List.nil_append] at hcu'
      rw [← hrs] at hcu'
      exact ⟨_, _, rfl, pre, Boxed.stp hbx hne (Stp.of hb), Nat.le_trans hn hb.size, .inr ⟨hrs, rfl, rfl, rfl, hJ _ _ _ hj (Stp.of hb), hcu'⟩⟩
  | cons r0 l' =>
    have hr0 : OkR r0 := hp.ok r0 (by rw [hrs]; simp)
    have hso : nxt (sealK key (pre.map Prod.snd)) (jour (sealK key (pre.map Prod.snd)) (r0 :: l') ++ rest) = some r0 := by
      rw [jour, List.append_assoc]; exact nxt_enc _ hr0 _
    rcases h with ⟨r, A, c, h1, rfl, hle, hrow, hcur, hst⟩ | ⟨h1, _⟩
    · rw [hso] at h1
      obtain rfl : r0 = r := by injection h1
      have hd : (jour (sealK key (pre.map Prod.snd)) (r0 :: l') ++ rest).drop (8 * (r0.length + 3)) = jour (tagI (sealK key (pre.map Prod.snd)) r0) l' ++ rest := by
        rw [jour, List.append_assoc, List.drop_left' (enc_length _ _)]
      rw [hd] at hcur
      refine ⟨_, _, rfl, pre, Boxed.stp hbx hne hst, Nat.le_trans hn hst.size, .inl ⟨(.slice A r0.length c, r0), l', W, hrs, rfl, rfl, rfl, hj, hst, ⟨A, c, rfl, hle, hrow⟩, ?_⟩⟩
      simp only [sealK_snoc]
      exact hcur
    · rw [hso] at h1; cases h1

set_option maxRecDepth 100000 in
set_option maxHeartbeats 1000000 in
theorem records1_in (F : Fence) (hF : Hid (F = Fence.wide)) (h42 : F.fn 42) (h43 : F.fn 43) (hro : F.round = none) (n : Nat) (hn : 1 ≤ n) (l C Bp n₀ : Nat) (bs rest : List Int) (key : Int) (rs : List (List Int)) (hp : Hid (Parses key bs rs rest)) (W : World)
    (hcur : Cur n₀ W C bs key) (hbp : Boxed W Bp 77 (.pointer (some ⟨C, 0, none⟩))) (hCn : C < n₀) (hBn : Bp < n₀) (hne : Bp ≠ C) (hn₀ : n₀ ≤ W.heap.size)
    (J : List Rec → World → Prop) (hJ : ∀ s A B, J s A → Stp C A B → J s B)
    (hY : ∀ (pre : List Rec) x W0 W1, J pre W0 → Stp C W0 W1 → RowY W0.heap.size W1 x ∧ pre.length < rs.length → YieldAt F (n - 1) Try.prog l #[x.1] W1 fun e W' => e = .returned (.bool true) ∧ J (pre ++ [x]) W' ∧ Below n₀ W1 W') (h0 : J [] W) :
    CallsIn F n Try.prog 42 #[.func (.yield l) #[] #[], .pointer (some ⟨Bp, 0, none⟩)] W fun e W' => (∃ v, e = .returned v) ∧ ∃ xs : List Rec, (xs.map Prod.snd = rs ∧ Cur n₀ W' C rest (sealK key rs)) ∧ J xs W' := by
  have hcu0 : Cur n₀ W C (jour (sealK key (([] : List Rec).map Prod.snd)) rs ++ rest) (sealK key (([] : List Rec).map Prod.snd)) := by
    simp only [List.map_nil, sealK]
    rw [← hp.out.eq]
    exact hcur
  have hnx := next_any C _ _ W hcu0
  have hst0 : Hid (∀ e w', GiveNx n₀ W C (jour (sealK key (([] : List Rec).map Prod.snd)) rs ++ rest) (sealK key (([] : List Rec).map Prod.snd)) e w' → ∃ r ok, e = .returned (.tuple #[r, ok]) ∧ RecAt n₀ C Bp rs rest key J rs.length r ok w') :=
    Lib.hid fun e w' h => recAt_of_next hp.out hne hJ rfl hbp hn₀ h0 hcu0 h
  have hcb := hbp.cell
  clear hcu0
  refine callsIn_of_wp Try.func42 rfl h42 ?_ hro
  simp only [Try.ntmps42, List.size_toArray, List.length_cons, List.length_nil, Nat.reduceAdd, Nat.reduceSub, Array.replicate_succ, Array.replicate_zero, List.push_toArray, List.append_toArray, List.nil_append, List.cons_append]
  gi_wp2_with (gi_at_call 43; refine (inWide hF hnx).mono ?_; rintro e w1 h1; obtain ⟨r1, ok1, rfl, hR1⟩ := hst0.out e w1 h1)
  gi_loopg [3, 4] rs.length (fun g r ok wr => RecAt n₀ C Bp rs rest key J g r ok wr)
  case atStart => exact hR1
  case round =>
    clear hR1 hnx hst0 hcb
    obtain ⟨pre, hb2, hn2, (⟨x, l', W0, hrs, rfl, rfl, rfl, hj, hst, hrow, hcu⟩ | ⟨hrs, rfl, rfl, rfl, hj, hcu⟩)⟩ := hrel
    · obtain ⟨fn, tmps, assign, body, hy, hR⟩ := hY pre x W0 wr hj hst ⟨hrow, by rw [hrs]; simp⟩
      have HRS := Lib.hid hrs
      have HCU := Lib.hid hcu
      have HB2 := Lib.hid hb2
      clear hrs hrow hst hj hY h0 hcur hbp hcu hb2
      gi_wp2
      refine hR.mono ?_
      rintro e W3 ⟨rfl, hJ3, hb3⟩
      have hbx3 := Boxed.below HB2.out hBn hb3
      have hc3 := hbx3.cell
      have hcu3' : Cur n₀ W3 C (jour (sealK key ((pre ++ [x]).map Prod.snd)) l' ++ rest) (sealK key ((pre ++ [x]).map Prod.snd)) := by
        rw [List.map_append]
        exact HCU.out.below hCn hb3
      have hnx := next_any C _ _ W3 hcu3'
      have HST : Hid (∀ e w', GiveNx n₀ W3 C (jour (sealK key ((pre ++ [x]).map Prod.snd)) l' ++ rest) (sealK key ((pre ++ [x]).map Prod.snd)) e w' → ∃ r ok, e = .returned (.tuple #[r, ok]) ∧ RecAt n₀ C Bp rs rest key J l'.length r ok w') :=
        Lib.hid (fun e w' h => recAt_of_next hp.out hne hJ (by rw [HRS.out, List.map_append, List.append_assoc]; rfl) hbx3 (Nat.le_trans hn2 hb3.size) hJ3 hcu3' h)
      clear hcu3' hbx3 hJ3 HCU hR hy
      gi_wp2_with (gi_at_call 43; refine (inWide hF hnx).mono ?_; rintro e w1 h1; obtain ⟨r1, ok1, rfl, hR1⟩ := HST.out e w1 h1)
      gi_roundg l'.length
      case measure => omega
      case rel => exact hR1
    · have HRS := Lib.hid hrs
      have HCU := Lib.hid hcu
      clear hrs hY h0 hcur hbp hcu hb2
      gi_wp2
      refine ⟨(fun f h => by cases h), ?_⟩
      gi_wp2
      go_end0
      exact ⟨⟨_, rfl⟩, pre, ⟨HRS.out.symm, HCU.out⟩, hj⟩
end Jn
end Go.Proofs.Ytcdoalfpaldbmaa
