/- What Reach and component return. -/
import Derived.Test.YtmdleoadodcljaaG1
import Derived.Test.YtmdleoadodcljaaG5
namespace Go.Proofs.Ytmdleoadodcljaa
open Go.RowKit Sl Fr
namespace Gp
set_option linter.unusedVariables false

theorem those_succ_yes {k : Nat} {p : Nat → Prop} (h : p k) : Dgr.those (k + 1) p = Dgr.those k p ++ [k] := by
  classical
  simp [Dgr.those, List.range_succ, List.filter_append, h]
theorem those_succ_no {k : Nat} {p : Nat → Prop} (h : ¬ p k) : Dgr.those (k + 1) p = Dgr.those k p := by
  classical
  simp [Dgr.those, List.range_succ, List.filter_append, h]
theorem those_zero (p : Nat → Prop) : Dgr.those 0 p = [] := rfl
theorem those_len (k : Nat) (p : Nat → Prop) : (Dgr.those k p).length ≤ k := by
  have := List.length_filter_le (fun w => @decide (p w) (Classical.propDecidable _)) (List.range k)
  rw [List.length_range] at this
  exact this
/-- .. successors as a call's contract. -/
theorem suc_call (n : Nat) (A : Option Addr) (es : Dgr.Edges) (c : Nat) (w : World) (hA : EdgesA w A es) (ok : Dgr.Ok n es) (hn : n ≤ 200) (hl : es.length ≤ 2000) :
    Calls Try.prog 34 #[.int .i64 n, .slice A es.length c] w fun e w' => ∃ A' c', e = .returned (.slice A' n c') ∧ Rows w' w.heap.size A' (sucL n es) ∧ Below w.heap.size w w' :=
  (suc_any n A es c w hA ok hn hl).mono fun e w' ⟨A', c', h1, _, h3, h4⟩ => ⟨A', c', by rwa [sucL_length] at h1, h3, h4⟩
theorem pre_call (n : Nat) (A : Option Addr) (es : Dgr.Edges) (c : Nat) (w : World) (hA : EdgesA w A es) (ok : Dgr.Ok n es) (hn : n ≤ 200) (hl : es.length ≤ 2000) :
    Calls Try.prog 35 #[.int .i64 n, .slice A es.length c] w fun e w' => ∃ A' c', e = .returned (.slice A' n c') ∧ Rows w' w.heap.size A' (preL n es) ∧ Below w.heap.size w w' :=
  (pre_any n A es c w hA ok hn hl).mono fun e w' ⟨A', c', h1, _, h3, h4⟩ => ⟨A', c', by rwa [preL_length] at h1, h3, h4⟩

set_option maxRecDepth 100000 in
set_option maxHeartbeats 3200000 in
theorem reach_none (n : Nat) (A : Option Addr) (es : Dgr.Edges) (c : Nat) (s : Int) (w : World) (hA : EdgesA w A es) (ok : Dgr.Ok n es) (hn : n ≤ 200) (hl : es.length ≤ 2000) (hs : ¬ (0 ≤ s ∧ s < n)) :
    Calls Try.prog 18 #[.int .i64 n, .slice A es.length c, .int .i64 s] w fun e w' => e = .returned (.slice none 0 0) ∧ Below w.heap.size w w' := by
  have hd : decide (0 ≤ s ∧ s < (n : Int)) = false := decide_eq_false hs
  go_enter Try.func18, Try.ntmps18
  go_wp2_with (first
    | (go_at_call 6; refine (valid_ok ok hn hl _ _ _ hA).mono ?_; rintro e w1 ⟨rfl, hb1⟩)
    | (go_at_call 24; refine (isNode_any _ _ _).mono ?_; rintro e w' ⟨rfl, rfl⟩))
  go_ret
  exact ⟨rfl, hb1⟩

set_option maxRecDepth 100000 in
set_option maxHeartbeats 3200000 in
theorem reach_any (n : Nat) (A : Option Addr) (es : Dgr.Edges) (c s : Nat) (w : World) (hA : EdgesA w A es) (ok : Dgr.Ok n es) (hn : n ≤ 200) (hl : es.length ≤ 2000) (hs : s < n) :
    Calls Try.prog 18 #[.int .i64 n, .slice A es.length c, .int .i64 s] w (GiveN w (Dgr.reachL n es s)) := by
  have hd : decide ((0 : Int) ≤ (s : Int) ∧ (s : Int) < (n : Int)) = true := decide_eq_true ⟨by omega, by omega⟩
  obtain ⟨i0, hi0, hz0, hz1, hz2⟩ := parts_of infoInt
  have HO := Lib.hid ok
  have HA := Lib.hid hA
  clear ok hA
  go_enter Try.func18, Try.ntmps18
  go_wp2_with (first
    | (go_at_call 6; refine (valid_ok HO.out hn hl _ _ _ HA.out).mono ?_; rintro e w1 ⟨rfl, hb1⟩)
    | (go_at_call 24; refine (isNode_any _ _ _).mono ?_; rintro e w' ⟨rfl, rfl⟩)
    | (go_at_call 34; refine (suc_call n _ es _ _ (HA.out.keep hb1) HO.out hn hl).mono ?_; rintro e w2 ⟨A2, c2, rfl, hR2, hb2⟩)
    | (go_at_call 33; refine (dist_any n s _ _ es _ _ (hR2.mono (Nat.zero_le _)) (sucL_adj HO.out) HO.out hs hn hl).mono ?_; rintro e w3 ⟨N, f, rfl, hN, hC, hD, hb3⟩))
  have hb : Below w.heap.size w w3 := (hb1.trans (hb2.mono hb1.size)).trans (hb3.mono (by have := hb1.size; have := hb2.size; omega))
  have HC := Lib.hid hC
  have HD := Lib.hid hD
  have hNlt := hC.lt
  clear hR2 hb1 hb2 hb3 hC hD hN
  go_loopg [7, 26] n (fun g v i wr => ∃ k : Nat, i = .int .i64 k ∧ k ≤ n ∧ g = n - k ∧ wr.ownsRow w3.heap.size 3 1 v (Dgr.those k (Dgr.Rch es s)).length (nv (Dgr.those k (Dgr.Rch es s))) ∧ Below w3.heap.size w3 wr)
  case atStart => exact ⟨0, rfl, Nat.zero_le _, rfl, World.ownsRow_nil _ _ _ _, Below.refl _ _⟩
  case round =>
    obtain ⟨k, rfl, hk, rfl, hrow, hbl⟩ := hrel
    have HROW := Lib.hid hrow
    have hbs := hbl.size
    have hown := row_own hrow
    have hlen := those_len k (Dgr.Rch es s)
    clear hrow
    by_cases hlt : k < n
    · have hck : wr.cell? ⟨N, k, none⟩ = some (.int .i64 (f k)) := (hbl.cell (p := ⟨N, k, none⟩) hNlt).trans (HC.out.cell k hlt)
      have hiff := HD.out.iff hlt
      by_cases hf : f k = -1
      · have hno : ¬ Dgr.Rch es s k := fun h => hiff.2 h hf
        have HF := Lib.hid hno
        rw [hf] at hck
        clear hf hno hiff
        go_wp2
        go_roundg (n - (k + 1))
        case measure => omega
        case rel => exact ⟨k + 1, by go_num, by omega, rfl, by rw [those_succ_no HF.out]; exact HROW.out, hbl⟩
      · have HF := Lib.hid (hiff.1 hf)
        have hfd : (f k != -1) = true := by simpa using hf
        clear hf hiff
        go_wp2_with (at_builtin; refine wpList_append_lies _ rfl _ _ 26 rfl w3.heap.size 3 i0 (.int .i64 0) 1 8 Try.underlying26 hi0 hz0 hz1 hz2 rfl (by decide) _ _ _ rfl (HROW.out.alloc _) ⟨wr.heap.size, 0, none⟩ 1 1 [.int .i64 (k : Int)] rfl rfl (cell_one_new _ _ _) (by simp [Value.oneCell']) (by decide) (by unfold maxLen; omega) (by omega) (by simp; omega) _ rfl ?_; intro g cap' w1 hown1 hgrow1 hor1 hlt1)
        go_roundg (n - (k + 1))
        case measure => omega
        case rel => exact ⟨k + 1, by go_num, by omega, rfl, by rw [those_succ_yes HF.out, nv_append, List.length_append]; exact hown1, (hbl.alloc hbs _).grown hgrow1 (by simp; omega) (fun g' hg' => hown g' hg')⟩
    · go_wp2
      go_ret
      obtain rfl : k = n := by omega
      obtain ⟨A', c', rfl, hc', _, hF'⟩ := Row.own HROW.out
      exact ⟨A', c', rfl, hc', hF'.mono hb.size, hb.trans (hbl.mono hb.size)⟩

end Gp
end Go.Proofs.Ytmdleoadodcljaa
