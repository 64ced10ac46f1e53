/- The fixed calls of the chapter's examples: that they answer as the chapter says. -/
import Derived.Test.YtgjmhddekggilaaD4
import Derived.Test.YtgjmhddekggilaaM5
import Derived.Outline
namespace Go.Proofs.Ytgjmhddekggilaa
open Go.RowKit
namespace Dg

def RetP (w : World) (P : List Int) (n : Nat) (e : Ending) (w' : World) : Prop :=
  ∃ A c, e = .returned (.agg #[.slice A n c, .int .i64 0]) ∧ n ≤ c ∧ ArrF w' w.heap.size A (P.map (Value.int .u64)) ∧ Below w.heap.size w w'

theorem ex_p (A : Option Addr) (c : Nat) (j : Nat) (P : List Int) (n : Nat) (w : World) (hj : j < 3) (hc : 3 ≤ c) (hA : Arr w A ([5, 6, 7].map (Value.int .u64))) (hP : pathT [5, 6, 7] j = P) (hn : P.length = n) :
    Calls Try.prog 21 #[.slice A 3 c, .int .i64 j] w (RetP w P n) := by
  subst hn
  subst hP
  exact pathOf_yes A [5, 6, 7] c j w hj (by simp) hc hA

theorem ex_3 (w : World) : Arr (w.alloc (.cells #[.int .u64 5, .int .u64 6, .int .u64 7] 24)) (some ⟨w.heap.size, 0, none⟩) ([5, 6, 7].map (Value.int .u64)) := fun _ => by
  refine ⟨_, _, rfl, by simp, fun j u hu => ?_⟩
  rw [Nat.zero_add]
  exact (World.cell?_alloc_at _ 24 _ j rfl).trans (by simpa using hu)

/-- What the calls have left so far. -/
def ExAt (w : World) (J : Int) (B : Nat) (A1 A2 : Option Addr) (c1 c2 : Nat) (W : World) : Prop :=
  B + 2 < W.heap.size ∧ (W.cell? ⟨B, 0, none⟩ = some (.slice A1 1 c1) ∧ W.cell? ⟨B, 1, none⟩ = some (.int .i64 0)) ∧ (W.cell? ⟨B + 1, 0, none⟩ = some (.slice A2 2 c2) ∧ W.cell? ⟨B + 1, 1, none⟩ = some (.int .i64 0)) ∧
    W.cell? ⟨B + 1 + 1, 1, none⟩ = some (.int .i64 1) ∧ Arr W (some ⟨w.heap.size, 0, none⟩) ([5, 6, 7].map (Value.int .u64)) ∧ Arr W A1 ([J].map (Value.int .u64)) ∧ Arr W A2 ([6, 7].map (Value.int .u64)) ∧ Below w.heap.size w W

theorem ExAt.keep {w W W' : World} {J : Int} {B : Nat} {A1 A2 : Option Addr} {c1 c2 : Nat} (h : ExAt w J B A1 A2 c1 c2 W) (hb : Below W.heap.size W W') : ExAt w J B A1 A2 c1 c2 W' := by
  obtain ⟨h1, ⟨h2, h3⟩, ⟨h4, h5⟩, h6, h7, h8, h9, h10⟩ := h
  have hs := hb.size
  exact ⟨by omega, ⟨(hb.cell (p := ⟨B, 0, none⟩) (by simp; omega)).trans h2, (hb.cell (p := ⟨B, 1, none⟩) (by simp; omega)).trans h3⟩, ⟨(hb.cell (p := ⟨B + 1, 0, none⟩) (by simp; omega)).trans h4, (hb.cell (p := ⟨B + 1, 1, none⟩) (by simp; omega)).trans h5⟩,
    (hb.cell (p := ⟨B + 1 + 1, 1, none⟩) (by simp; omega)).trans h6, h7.keep hb, h8.keep hb, h9.keep hb, h10.trans (hb.mono h10.size)⟩

theorem ex_start {w w3 : World} {J : Int} {A1 A2 : Option Addr} {c1 c2 : Nat} (h7 : Arr w3 (some ⟨w.heap.size, 0, none⟩) ([5, 6, 7].map (Value.int .u64))) (h8 : Arr w3 A1 ([J].map (Value.int .u64))) (h9 : Arr w3 A2 ([6, 7].map (Value.int .u64))) (hb : Below w.heap.size w w3) :
    ExAt w J w3.heap.size A1 A2 c1 c2 (((w3.alloc (.cells #[.slice A1 1 c1, .int .i64 0] 42)).alloc (.cells #[.slice A2 2 c2, .int .i64 0] 42)).alloc (.cells #[.slice none 0 0, .int .i64 1] 42)) := by
  have hs := hb.size
  refine ⟨by simp, ⟨?_, ?_⟩, ⟨?_, ?_⟩, ?_, ((h7.alloc _).alloc _).alloc _, ((h8.alloc _).alloc _).alloc _, ((h9.alloc _).alloc _).alloc _, ((hb.alloc hs _).alloc (by simp; omega) _).alloc (by simp; omega) _⟩
  · exact (World.cell?_alloc_lt _ _ _ (by simp; omega)).trans ((World.cell?_alloc_lt _ _ _ (by simp)).trans (World.cell?_alloc_at _ 42 _ 0 rfl))
  · exact (World.cell?_alloc_lt _ _ _ (by simp; omega)).trans ((World.cell?_alloc_lt _ _ _ (by simp)).trans (World.cell?_alloc_at _ 42 _ 1 rfl))
  · exact (World.cell?_alloc_lt _ _ _ (by simp)).trans (World.cell?_alloc_at _ 42 _ 0 (by simp))
  · exact (World.cell?_alloc_lt _ _ _ (by simp)).trans (World.cell?_alloc_at _ 42 _ 1 (by simp))
  · exact World.cell?_alloc_at _ 42 _ 1 (by simp)

theorem Arr.take {w : World} {A : Option Addr} {vs : List Value} (h : Arr w A vs) (k : Nat) : Arr w A (vs.take k) := fun hne => by
  obtain ⟨b, o, e, hlt, hc⟩ := h (by intro h; rw [h] at hne; simp at hne)
  refine ⟨b, o, e, hlt, fun j u hu => hc j u ?_⟩
  have hj : j < k := by have h1 := (List.getElem?_eq_some_iff.1 hu).1; simp at h1; omega
  rw [List.getElem?_take_of_lt hj] at hu
  exact hu

theorem same_eq (A B : Option Addr) (xs : List Int) (n c c' : Nat) (w : World) (hn : xs.length = n) (hlen : n ≤ 10) (hA : Arr w A (xs.map (Value.int .u64))) (hB : Arr w B (xs.map (Value.int .u64))) :
    Calls Try.prog 23 #[.slice A n c, .slice B n c'] w fun e w' => e = .returned (.bool true) ∧ Below w.heap.size w w' := by
  subst hn
  refine (same_any A B xs xs c c' w (by omega) hA hB).mono ?_
  rintro e w' ⟨rfl, hb⟩
  exact ⟨by simp, hb⟩

theorem ex_rootc (A : Option Addr) (xs : List Int) (n c : Nat) (r : Int) (w : World) (hn : xs.length = n) (hlen : n ≤ 10) (hc : n ≤ c) (hr : rootI xs = r) (hA : Arr w A (xs.map (Value.int .u64))) :
    Calls Try.prog 19 #[.slice A n c] w fun e w' => e = .returned (.int .u64 r) ∧ Below w.heap.size w w' := by
  subst hn
  subst hr
  exact root_any A xs c w (by omega) hc hA

theorem ex_joinc (a b j : Int) (w : World) (hj : Hid (joinI a b = j)) : Calls Try.prog 15 #[.int .u64 a, .int .u64 b] w fun e w' => e = .returned (.int .u64 j) ∧ Below w.heap.size w w' := by
  have e := hj.out
  subst e
  exact join_any a b w
theorem ex_rjoinc (a b j : Int) (w : World) (hj : Hid (joinI a b = j)) : Calls Try.prog 16 #[.int .u64 a, .int .u64 b] w fun e w' => e = .returned (.int .u64 j) ∧ w = w' := by
  have e := hj.out
  subst e
  exact rjoin_any a b w

theorem ex_checkc (root : Int) (A : Option Addr) (P : List Int) (n c : Nat) (r : Int) (w : World) (hn : P.length = n) (hc : n ≤ c) (hr : Hid (chkE 3 2 7 P root = r)) (hA : Arr w A (P.map (Value.int .u64))) :
    Calls Try.prog 24 #[.int .u64 root, .agg #[.int .i64 3, .slice A n c], .agg #[.int .i64 2, .int .u64 7]] w fun e w' => e = .returned (.int .i64 r) ∧ Below w.heap.size w w' := by
  have e := hr.out
  subst e
  subst hn
  exact checkL_run root 3 2 7 A P c w (by omega) (by omega) hc hA

theorem ex_small (w : World) (vs : Array Value) (e : TypeId) : Arr (w.alloc (.cells vs e)) (some ⟨w.heap.size, 0, none⟩) vs.toList := fun _ => by
  refine ⟨_, _, rfl, by simp, fun j u hu => ?_⟩
  rw [Nat.zero_add]
  exact (World.cell?_alloc_at _ e _ j rfl).trans (by simpa using hu)

set_option maxHeartbeats 2000000 in
theorem examples_any (w : World) : Calls Try.prog 9 #[] w fun e w' => e = .returned (.bool true) ∧ Below w.heap.size w w' := by
  have H3 := Lib.hid (ex_3 w)
  obtain ⟨J, hJ⟩ : ∃ J, joinI 5 6 = J := ⟨_, rfl⟩
  obtain ⟨T, hT⟩ : ∃ T, joinI J 7 = T := ⟨_, rfl⟩
  have HJ := Lib.hid hJ
  have HT := Lib.hid hT
  have HP : Hid (pathT [5, 6, 7] 2 = [J]) := by rw [← hJ]; exact ex_path2
  have HR : Hid (rootI [5, 6, 7] = T) := by rw [← hT, ← hJ]; exact ex_root
  have HC1 : Hid (chkE 3 2 7 [J] T = 0) := by show _ = _; unfold chkE; rw [ex_lead, ← hT]; simp
  have HC2 : Hid (chkE 3 2 7 [6, 7] T = 6) := by show _ = _; unfold chkE; rw [ex_lead]; simp
  clear hJ hT
  go_enter Try.func9, Try.ntmps9
  go_wp2_with fail
  refine (ex_p (some ⟨w.heap.size, 0, none⟩) 3 2 [J] 1 _ (by omega) (Nat.le_refl _) H3.out HP.out rfl).mono ?_
  rintro e w1 ⟨A1, c1, rfl, hc1, hF1, hb1⟩
  go_wp2_with fail
  refine (ex_p (some ⟨w.heap.size, 0, none⟩) 3 0 [6, 7] 2 _ (by omega) (Nat.le_refl _) (H3.out.keep hb1) ex_path0 rfl).mono ?_
  rintro e w2 ⟨A2, c2, rfl, hc2, hF2, hb2⟩
  go_wp2_with fail
  refine (pathOf_no (some ⟨w.heap.size, 0, none⟩) 3 3 3 _ (by omega)).mono ?_
  rintro e w3 ⟨rfl, hb3⟩
  go_wp2_with fail
  have hE := ex_start (c1 := c1) (c2 := c2) (((H3.out.keep hb1).keep hb2).keep hb3) ((hF1.arr.keep hb2).keep hb3) (hF2.arr.keep hb3)
    ((((Below.refl _ w).alloc (Nat.le_refl _) _).trans (hb1.mono (by simp))).trans ((hb2.mono (by have := hb1.size; simp at this; omega)).trans (hb3.mono (by have h1 := hb1.size; have h2 := hb2.size; simp at h1; omega))))
  generalize hB : w3.heap.size = B at hE ⊢
  generalize ((w3.alloc (.cells #[.slice A1 1 c1, .int .i64 0] 42)).alloc (.cells #[.slice A2 2 c2, .int .i64 0] 42)).alloc (.cells #[.slice none 0 0, .int .i64 1] 42) = W4 at hE ⊢
  clear hb1 hb2 hb3 hF1 hF2 H3 hB
  refine (ex_joinc 5 6 J W4 HJ).mono ?_
  rintro e W5 ⟨rfl, hb⟩
  have hE5 := hE.keep hb
  clear hb
  obtain ⟨_, ⟨f1, f2⟩, ⟨f3, f4⟩, f5, f6, f7, f8, _⟩ := id hE5
  go_wp2_with fail
  refine (ex_rootc (some ⟨w.heap.size, 0, none⟩) [5, 6, 7] 3 3 T W5 rfl (by omega) (by omega) HR.out f6).mono ?_
  rintro e W6 ⟨rfl, hb⟩
  have hE6 := hE5.keep hb
  clear f1 f2 f3 f4 f5 f6 f7 f8
  clear hb
  obtain ⟨_, ⟨f1, f2⟩, ⟨f3, f4⟩, f5, f6, f7, f8, _⟩ := id hE6
  go_wp2_with fail
  refine (same_eq A1 (some ⟨W6.heap.size, 0, none⟩) [J] 1 c1 1 _ rfl (by omega) (f7.alloc _) (ex_small W6 #[.int .u64 J] 24)).mono ?_
  rintro e W7 ⟨rfl, hb⟩
  have hE7 := (hE6.keep ((Below.refl _ W6).alloc (Nat.le_refl _) _)).keep hb
  clear f1 f2 f3 f4 f5 f6 f7 f8
  clear hb
  obtain ⟨_, ⟨f1, f2⟩, ⟨f3, f4⟩, f5, f6, f7, f8, _⟩ := id hE7
  go_wp2_with fail
  refine (same_eq A2 (some ⟨W7.heap.size, 0, none⟩) [6, 7] 2 c2 2 _ rfl (by omega) (f8.alloc _) (ex_small W7 #[.int .u64 6, .int .u64 7] 24)).mono ?_
  rintro e W8 ⟨rfl, hb⟩
  have hE8 := (hE7.keep ((Below.refl _ W7).alloc (Nat.le_refl _) _)).keep hb
  clear f1 f2 f3 f4 f5 f6 f7 f8
  clear hb
  obtain ⟨_, ⟨f1, f2⟩, ⟨f3, f4⟩, f5, f6, f7, f8, _⟩ := id hE8
  go_wp2_with fail
  refine (ex_joinc J 7 T W8 HT).mono ?_
  rintro e W9 ⟨rfl, hb⟩
  have hE9 := hE8.keep hb
  clear f1 f2 f3 f4 f5 f6 f7 f8
  clear hb
  obtain ⟨_, ⟨f1, f2⟩, ⟨f3, f4⟩, f5, f6, f7, f8, _⟩ := id hE9
  go_wp2_with fail
  refine (ex_rootc (some ⟨w.heap.size, 0, none⟩) [5] 1 3 5 W9 rfl (by omega) (by omega) ex_root1 (f6.take 1)).mono ?_
  rintro e W10 ⟨rfl, hb⟩
  have hE10 := hE9.keep hb
  clear f1 f2 f3 f4 f5 f6 f7 f8
  clear hb
  obtain ⟨_, ⟨f1, f2⟩, ⟨f3, f4⟩, f5, f6, f7, f8, _⟩ := id hE10
  go_wp2_with fail
  refine (ex_rjoinc 5 6 J W10 HJ).mono ?_
  rintro e w' ⟨rfl, rfl⟩
  go_wp2_with fail
  refine (root_nil none 0 W10).mono ?_
  rintro e W11 ⟨rfl, hb⟩
  have hE11 := hE10.keep hb
  clear f1 f2 f3 f4 f5 f6 f7 f8
  clear hb
  obtain ⟨_, ⟨f1, f2⟩, ⟨f3, f4⟩, f5, f6, f7, f8, _⟩ := id hE11
  go_wp2_with fail
  refine (words_any none [] 0 W11 (by simp) (Arr.nil _ _)).mono ?_
  rintro e W12 ⟨rfl, hb⟩
  have hE12 := hE11.keep hb
  clear f1 f2 f3 f4 f5 f6 f7 f8
  clear hb
  obtain ⟨_, ⟨f1, f2⟩, ⟨f3, f4⟩, f5, f6, f7, f8, _⟩ := id hE12
  go_wp2_with fail
  refine (ex_checkc T A1 [J] 1 c1 0 W12 rfl hc1 HC1 f7).mono ?_
  rintro e W13 ⟨rfl, hb⟩
  have hE13 := hE12.keep hb
  clear f1 f2 f3 f4 f5 f6 f7 f8
  clear hb
  obtain ⟨_, ⟨f1, f2⟩, ⟨f3, f4⟩, f5, f6, f7, f8, _⟩ := id hE13
  go_wp2_with fail
  refine (ex_checkc T A2 [6, 7] 2 c2 6 W13 rfl hc2 HC2 f8).mono ?_
  rintro e W14 ⟨rfl, hb⟩
  have hE14 := hE13.keep hb
  clear f1 f2 f3 f4 f5 f6 f7 f8
  clear hb
  obtain ⟨_, ⟨f1, f2⟩, ⟨f3, f4⟩, f5, f6, f7, f8, _⟩ := id hE14
  go_wp2_with fail
  refine (checkL_arg T 0 0 0 none 0 0 W14 (by omega)).mono ?_
  rintro e W15 ⟨rfl, hb⟩
  have hE15 := hE14.keep hb
  clear f1 f2 f3 f4 f5 f6 f7 f8
  clear hb
  obtain ⟨_, ⟨f1, f2⟩, ⟨f3, f4⟩, f5, f6, f7, f8, _⟩ := id hE15
  go_wp2_with fail
  go_ret
  exact ⟨rfl, hE15.2.2.2.2.2.2.2⟩

end Dg
end Go.Proofs.Ytgjmhddekggilaa
