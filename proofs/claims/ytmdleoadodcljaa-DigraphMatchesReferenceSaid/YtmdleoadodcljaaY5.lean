/- The reference's through: the length of the shortest cycle through a node. -/
import Derived.Test.YtmdleoadodcljaaY4
namespace Go.Proofs.Ytmdleoadodcljaa
open Go.RowKit Sl Fr
namespace Gp
set_option linter.unusedVariables false

/-- Of the edges seen so far. -/
def ThrI (es : Dgr.Edges) (v : Nat) (ps : Dgr.Edges) (b : Nat) : Prop :=
  (b = 0 ∧ ∀ u, (v, u) ∈ ps → ∀ k, ¬ Dgr.Walk es k u v) ∨ (0 < b ∧ (∃ u d, (v, u) ∈ ps ∧ Dgr.Dist es u v d ∧ b = d + 1) ∧ ∀ u d, (v, u) ∈ ps → Dgr.Dist es u v d → b ≤ d + 1)
/-- The length of the shortest cycle through v; 0 if there is none. -/
def Thr (es : Dgr.Edges) (v b : Nat) : Prop := (b = 0 ∧ ∀ k, ¬ Dgr.Walk es (k + 1) v v) ∨ (0 < b ∧ Dgr.Walk es b v v ∧ ∀ k, k + 1 < b → ¬ Dgr.Walk es (k + 1) v v)
theorem ThrI.start (es : Dgr.Edges) (v : Nat) : ThrI es v [] 0 := .inl ⟨rfl, fun u hu => by cases hu⟩
theorem ThrI.skip {es ps : Dgr.Edges} {v b p q : Nat} (h : ThrI es v ps b) (hk : p = v → (∀ k, ¬ Dgr.Walk es k q v) ∨ (0 < b ∧ ∀ d, Dgr.Dist es q v d → b ≤ d + 1)) : ThrI es v (ps ++ [(p, q)]) b := by
  rcases h with ⟨h1, h2⟩ | ⟨h1, ⟨u, d, h2, h3, h4⟩, h5⟩
  · refine .inl ⟨h1, fun u hu => ?_⟩
    rcases List.mem_append.1 hu with hu | hu
    · exact h2 u hu
    · simp only [List.mem_singleton, Prod.mk.injEq] at hu
      obtain ⟨rfl, rfl⟩ := hu
      rcases hk rfl with h | ⟨h, _⟩
      · exact h
      · omega
  · refine .inr ⟨h1, ⟨u, d, List.mem_append_left _ h2, h3, h4⟩, fun x e hx he => ?_⟩
    rcases List.mem_append.1 hx with hx | hx
    · exact h5 x e hx he
    · simp only [List.mem_singleton, Prod.mk.injEq] at hx
      obtain ⟨rfl, rfl⟩ := hx
      rcases hk rfl with h | ⟨_, h⟩
      · exact absurd he.1 (h e)
      · exact h e he
theorem ThrI.take {es ps : Dgr.Edges} {v b q k : Nat} (h : ThrI es v ps b) (hd : Dgr.Dist es q v k) (hb : b = 0 ∨ k + 1 < b) : ThrI es v (ps ++ [(v, q)]) (k + 1) := by
  refine .inr ⟨by omega, ⟨q, k, by simp, hd, rfl⟩, fun x e hx he => ?_⟩
  rcases List.mem_append.1 hx with hx | hx
  · rcases h with ⟨h1, h2⟩ | ⟨h1, _, h5⟩
    · exact absurd he.1 (h2 x hx e)
    · have := h5 x e hx he; omega
  · simp only [List.mem_singleton, Prod.mk.injEq] at hx
    obtain ⟨_, rfl⟩ := hx
    rw [Dgr.Dist.unique hd he]
    exact Nat.le_refl _
theorem ThrI.done {es : Dgr.Edges} {v b : Nat} (h : ThrI es v es b) : Thr es v b := by
  rcases h with ⟨h1, h2⟩ | ⟨h1, ⟨u, d, h2, h3, h4⟩, h5⟩
  · refine .inl ⟨h1, fun k hw => ?_⟩
    obtain ⟨u, hu, hw'⟩ := Dgr.Walk.uncons hw
    exact h2 u hu k hw'
  · refine .inr ⟨h1, h4 ▸ Dgr.Walk.cons h2 h3.1, fun k hk hw => ?_⟩
    obtain ⟨x, hx, hw'⟩ := Dgr.Walk.uncons hw
    obtain ⟨e, he, hde⟩ := Dgr.dist_of_walk hw'
    have := h5 x e hx hde
    omega

set_option maxRecDepth 100000 in
set_option maxHeartbeats 6400000 in
theorem rthrough_any (n : Nat) (A : Option Addr) (es : Dgr.Edges) (c v : Nat) (w : World) (hA : EdgesA w A es) (ok : Dgr.Ok n es) (hn : n ≤ 200) (hl : es.length ≤ 2000) (hv : v < n) :
    Calls Try.prog 28 #[.int .i64 n, .slice A es.length c, .int .i64 v] w fun e w' => ∃ b : Nat, e = .returned (.int .i64 b) ∧ Thr es v b ∧ b ≤ n ∧ Below w.heap.size w w' := by
  have hbk := rback_any n A es c v w hA ok hn hl hv
  obtain ⟨b, o, hb⟩ := hA.open
  have HB := Lib.hid hb
  have HO := Lib.hid ok
  have HT0 := Lib.hid (ThrI.start es v)
  clear hb hA ok
  go_enter Try.func28, Try.ntmps28
  go_wp2_with (go_at_call 29; refine hbk.mono ?_; rintro e w1 ⟨M, f, rfl, hC, hF, hb1⟩)
  have HC := Lib.hid hC
  have HF := Lib.hid hF
  have hMlt := hC.lt
  clear hbk hC hF
  go_loopg [8, 9] es.length (fun g bv i wr => wr = w1 ∧ ∃ j best : Nat, bv = .int .i64 best ∧ i = .int .i64 j ∧ j ≤ es.length ∧ g = es.length - j ∧ best ≤ n ∧ ThrI es v (es.take j) best)
  case atStart => exact ⟨rfl, 0, 0, rfl, rfl, Nat.zero_le _, rfl, Nat.zero_le _, HT0.out⟩
  case round =>
    clear HT0
    obtain ⟨rfl, j, best, rfl, rfl, hj, rfl, hbn, hT⟩ := hrel
    have HT := Lib.hid hT
    clear hT
    have hj1 : (0 : Int) ≤ (j : Int) := Int.natCast_nonneg _
    by_cases hltj : j < es.length
    · obtain ⟨⟨p, q⟩, hpq⟩ := get_ex hltj
      obtain ⟨rfl, hblt, hc⟩ := HB.out (by intro h; subst h; simp at hltj)
      obtain ⟨hp, hq⟩ := hc j p q hpq
      have hcp := (hb1.cell (p := ⟨b, o + j * 2, none⟩) hblt).trans hp
      have hcq := (hb1.cell (p := ⟨b, o + j * 2 + 1, none⟩) hblt).trans hq
      have hqn : q < n := (HO.out _ (List.mem_of_getElem? hpq)).2
      have hq1 : (0 : Int) ≤ (q : Int) := Int.natCast_nonneg _
      have hq2 : (q : Int) < (n : Int) := by omega
      have hE := Lib.hid hpq
      have hmq : wr.cell? ⟨M, q, none⟩ = some (.int .i64 (f q)) := HC.out.cell q hqn
      have hfq := HF.out q hqn
      clear hc hp hq hpq HB
      by_cases hpv : p = v
      · subst hpv
        have hpd : ((p : Int) == (p : Int)) = true := by rw [beq_iff_eq]
        rcases hfq with ⟨k, hk, hd⟩ | ⟨hk, hno⟩
        · rw [hk] at hmq
          have hkn : k < n := Dgr.Dist.lt HO.out hqn hd
          have HD := Lib.hid hd
          clear hk hd
          by_cases hb0 : best = 0
          · subst hb0
            have HT2 := Lib.hid (show ThrI es p (es.take (j + 1)) (k + 1) by rw [take_snoc hE.out]; exact HT.out.take HD.out (.inl rfl))
            go_wp2
            go_roundg (es.length - (j + 1))
            case measure => omega
            case rel => exact ⟨rfl, j + 1, k + 1, by go_num, by go_num, by omega, rfl, by omega, HT2.out⟩
          · have hbd : ((best : Int) == 0) = false := by rw [beq_eq_false_iff_ne]; omega
            by_cases hlt : k + 1 < best
            · have HT2 := Lib.hid (show ThrI es p (es.take (j + 1)) (k + 1) by rw [take_snoc hE.out]; exact HT.out.take HD.out (.inr hlt))
              have hlt' : (k : Int) + 1 < (best : Int) := by omega
              go_wp2
              go_roundg (es.length - (j + 1))
              case measure => omega
              case rel => exact ⟨rfl, j + 1, k + 1, by go_num, by go_num, by omega, rfl, by omega, HT2.out⟩
            · have HT2 := Lib.hid (show ThrI es p (es.take (j + 1)) best by
                rw [take_snoc hE.out]
                exact HT.out.skip fun _ => .inr ⟨by omega, fun d hd => by rw [← Dgr.Dist.unique HD.out hd]; omega⟩)
              have hlt' : ¬ (k : Int) + 1 < (best : Int) := by omega
              go_wp2
              go_roundg (es.length - (j + 1))
              case measure => omega
              case rel => exact ⟨rfl, j + 1, best, rfl, by go_num, by omega, rfl, hbn, HT2.out⟩
        · rw [hk] at hmq
          have HT2 := Lib.hid (show ThrI es p (es.take (j + 1)) best by rw [take_snoc hE.out]; exact HT.out.skip fun _ => .inl hno)
          clear hk hno
          go_wp2
          go_roundg (es.length - (j + 1))
          case measure => omega
          case rel => exact ⟨rfl, j + 1, best, rfl, by go_num, by omega, rfl, hbn, HT2.out⟩
      · have hpd : ((p : Int) == (v : Int)) = false := by rw [beq_eq_false_iff_ne]; omega
        have HT2 := Lib.hid (show ThrI es v (es.take (j + 1)) best by rw [take_snoc hE.out]; exact HT.out.skip fun h => absurd h hpv)
        clear hfq
        go_wp2
        go_roundg (es.length - (j + 1))
        case measure => omega
        case rel => exact ⟨rfl, j + 1, best, rfl, by go_num, by omega, rfl, hbn, HT2.out⟩
    · have HT2 := Lib.hid (show Thr es v best by
        have := HT.out
        rw [show j = es.length by omega, List.take_length] at this
        exact this.done)
      go_wp2
      go_ret
      exact ⟨best, rfl, HT2.out, hbn, hb1⟩
end Gp
end Go.Proofs.Ytmdleoadodcljaa
