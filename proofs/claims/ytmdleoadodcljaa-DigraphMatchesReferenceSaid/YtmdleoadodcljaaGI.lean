/- What the law's order, cycle and depth return. -/
import Derived.Test.YtmdleoadodcljaaGH
namespace Go.Proofs.Ytmdleoadodcljaa
open Go.RowKit Sl Fr
namespace Gp
set_option linter.unusedVariables false

theorem field_e (A : Option Addr) (k c : Nat) (x : Int) (w : World) : (Instr.field 37 (.agg #[.slice A k c, .int .i64 x]) 1).run Try.prog w = .ok (.int .i64 x) w := by kernel_rfl
/-- A slice and an error: of a list, or of none. -/
def ResE (w : World) (base : Nat) (b : Option (List Nat)) (err : Int) (A : Option Addr) (m c : Nat) (x : Int) : Prop :=
  (b = none → A = none ∧ m = 0 ∧ c = 0 ∧ x = err) ∧ ∀ l, b = some l → m = l.length ∧ l.length ≤ c ∧ Row w base A l ∧ x = 0
theorem ResE.of_give {W w' : World} {b : Option (List Nat)} {err : Int} {e : Ending} (h : GiveE W b err e w') : ∃ A m c x, e = .returned (.tuple #[.slice A m c, .int .i64 x]) ∧ ResE w' W.heap.size b err A m c x ∧ Below W.heap.size W w' := by
  cases b with
  | none => exact ⟨_, _, _, _, h.1, ⟨fun _ => ⟨rfl, rfl, rfl, rfl⟩, fun l hl => (by cases hl)⟩, h.2⟩
  | some l =>
    obtain ⟨⟨A, c, h1, h2, h3⟩, h4⟩ := h
    exact ⟨_, _, _, _, h1, ⟨fun h => (by cases h), fun m hm => (by cases hm; exact ⟨rfl, h2, h3, rfl⟩)⟩, h4⟩
section
variable {w w' : World} {base : Nat} {b : Option (List Nat)} {err : Int} {A : Option Addr} {m c : Nat} {x : Int}
theorem ResE.keep (h : ResE w base b err A m c x) (hb : Below w.heap.size w w') : ResE w' base b err A m c x :=
  ⟨h.1, fun l hl => by obtain ⟨h1, h2, h3, h4⟩ := h.2 l hl; exact ⟨h1, h2, h3.keep hb, h4⟩⟩
theorem ResE.mono {base' : Nat} (h : ResE w base b err A m c x) (hb : base' ≤ base) : ResE w base' b err A m c x :=
  ⟨h.1, fun l hl => by obtain ⟨h1, h2, h3, h4⟩ := h.2 l hl; exact ⟨h1, h2, h3.mono hb, h4⟩⟩
/-- What is listed is not changed by a store below. -/
theorem Row.setB {l : List Nat} (h : Row w base A l) {p : Addr} (hp : p.block < base) (u : Value) : Row (w.setCell p u) base A l := ArrF.set h hp u
theorem ResE.setB (h : ResE w base b err A m c x) {p : Addr} (hp : p.block < base) (u : Value) : ResE (w.setCell p u) base b err A m c x :=
  ⟨h.1, fun l hl => by obtain ⟨h1, h2, h3, h4⟩ := h.2 l hl; exact ⟨h1, h2, h3.setB hp u, h4⟩⟩
end
/-- The same as one value. -/
def GiveL (W : World) (b : Option (List Nat)) (err : Int) (e : Ending) (w' : World) : Prop := ∃ A m c x, e = .returned (.agg #[.slice A m c, .int .i64 x]) ∧ ResE w' W.heap.size b err A m c x ∧ Below W.heap.size W w'

set_option maxRecDepth 100000 in
set_option maxHeartbeats 2000000 in
theorem orderL_any (n : Nat) (A : Option Addr) (es : Dgr.Edges) (c : Nat) (w : World) (hA : EdgesA w A es) (ok : Dgr.Ok n es) (hn : n ≤ 200) (hl : es.length ≤ 2000) :
    Calls Try.prog 9 #[.agg #[.int .i64 n, .slice A es.length c]] w (GiveL w (Dgr.orderF n es) 50) := by
  have HO := Lib.hid ok
  have HA := Lib.hid hA
  have HST := Lib.hid (start2 w #[.int .i64 n, .slice A es.length c] #[.slice none 0 0, .int .i64 0] 31 37)
  clear ok hA
  go_enter Try.func9, Try.ntmps9
  go_wp2_with (go_at_call 25; refine (order_any n _ es _ _ (HA.out.keep HST.out.2.2) HO.out hn hl).mono ?_; rintro e w1 hg; obtain ⟨A2, m2, c2, x, rfl, hr, hb1⟩ := ResE.of_give hg; have hx := HST.out.2.1.keep hb1; obtain ⟨hc0, hc1⟩ := hx.c2; obtain ⟨hf0, hf1⟩ := hx.f2)
  have hs := (HST.out.2.1.keep hb1).s2 (.slice A2 m2 c2) (.int .i64 x)
  obtain ⟨s0, s1⟩ := hs.c2
  have hwb := HST.out.2.2
  refine bodyPost_ret (v := .agg #[.slice A2 m2 c2, .int .i64 x]) (by simp [results, Try.results9, go_sem, s0, s1]) rfl ⟨A2, m2, c2, x, rfl, (((hr.setB (p := ⟨w.heap.size + 1, 0, none⟩) (by simp) _).setB (p := ⟨w.heap.size + 1, 1, none⟩) (by simp) _).mono (by simp; omega)), ?_⟩
  exact ((hwb.trans (hb1.mono hwb.size)).setCell (p := ⟨w.heap.size + 1, 0, none⟩) (by simp) _).setCell (p := ⟨w.heap.size + 1, 1, none⟩) (by simp) _

set_option maxRecDepth 100000 in
set_option maxHeartbeats 2000000 in
theorem cycleL_any (n : Nat) (A : Option Addr) (es : Dgr.Edges) (c : Nat) (w : World) (hA : EdgesA w A es) (ok : Dgr.Ok n es) (hn : n ≤ 200) (hl : es.length ≤ 2000) :
    Calls Try.prog 11 #[.agg #[.int .i64 n, .slice A es.length c]] w fun e w' => ∃ b, Dgr.CycIs es b ∧ GiveL w b 4 e w' := by
  have HO := Lib.hid ok
  have HA := Lib.hid hA
  have HST := Lib.hid (start2 w #[.int .i64 n, .slice A es.length c] #[.slice none 0 0, .int .i64 0] 31 37)
  clear ok hA
  go_enter Try.func11, Try.ntmps11
  go_wp2_with (go_at_call 27; refine (cyc_any n _ es _ _ (HA.out.keep HST.out.2.2) HO.out hn hl).mono ?_; rintro e w1 ⟨b, hd, hg⟩; obtain ⟨A2, m2, c2, x, rfl, hr, hb1⟩ := ResE.of_give hg; have hx := HST.out.2.1.keep hb1; obtain ⟨hc0, hc1⟩ := hx.c2; obtain ⟨hf0, hf1⟩ := hx.f2)
  have hs := (HST.out.2.1.keep hb1).s2 (.slice A2 m2 c2) (.int .i64 x)
  obtain ⟨s0, s1⟩ := hs.c2
  have hwb := HST.out.2.2
  refine bodyPost_ret (v := .agg #[.slice A2 m2 c2, .int .i64 x]) (by simp [results, Try.results11, go_sem, s0, s1]) rfl ⟨b, hd, ⟨A2, m2, c2, x, rfl, (((hr.setB (p := ⟨w.heap.size + 1, 0, none⟩) (by simp) _).setB (p := ⟨w.heap.size + 1, 1, none⟩) (by simp) _).mono (by simp; omega)), ?_⟩⟩
  exact ((hwb.trans (hb1.mono hwb.size)).setCell (p := ⟨w.heap.size + 1, 0, none⟩) (by simp) _).setCell (p := ⟨w.heap.size + 1, 1, none⟩) (by simp) _

set_option maxRecDepth 100000 in
set_option maxHeartbeats 2000000 in
theorem depthL_any (n : Nat) (A : Option Addr) (es : Dgr.Edges) (c : Nat) (w : World) (hA : EdgesA w A es) (ok : Dgr.Ok n es) (hn : n ≤ 200) (hl : es.length ≤ 2000) :
    Calls Try.prog 13 #[.agg #[.int .i64 n, .slice A es.length c]] w fun e w' => ∃ b, DepIs n es b ∧ GiveL w b 50 e w' := by
  have HO := Lib.hid ok
  have HA := Lib.hid hA
  have HST := Lib.hid (start2 w #[.int .i64 n, .slice A es.length c] #[.slice none 0 0, .int .i64 0] 31 37)
  clear ok hA
  go_enter Try.func13, Try.ntmps13
  go_wp2_with (go_at_call 31; refine (depth_any n _ es _ _ (HA.out.keep HST.out.2.2) HO.out hn hl).mono ?_; rintro e w1 ⟨b, hd, hg⟩; obtain ⟨A2, m2, c2, x, rfl, hr, hb1⟩ := ResE.of_give hg; have hx := HST.out.2.1.keep hb1; obtain ⟨hc0, hc1⟩ := hx.c2; obtain ⟨hf0, hf1⟩ := hx.f2)
  have hs := (HST.out.2.1.keep hb1).s2 (.slice A2 m2 c2) (.int .i64 x)
  obtain ⟨s0, s1⟩ := hs.c2
  have hwb := HST.out.2.2
  refine bodyPost_ret (v := .agg #[.slice A2 m2 c2, .int .i64 x]) (by simp [results, Try.results13, go_sem, s0, s1]) rfl ⟨b, hd, ⟨A2, m2, c2, x, rfl, (((hr.setB (p := ⟨w.heap.size + 1, 0, none⟩) (by simp) _).setB (p := ⟨w.heap.size + 1, 1, none⟩) (by simp) _).mono (by simp; omega)), ?_⟩⟩
  exact ((hwb.trans (hb1.mono hwb.size)).setCell (p := ⟨w.heap.size + 1, 0, none⟩) (by simp) _).setCell (p := ⟨w.heap.size + 1, 1, none⟩) (by simp) _

end Gp
end Go.Proofs.Ytmdleoadodcljaa
