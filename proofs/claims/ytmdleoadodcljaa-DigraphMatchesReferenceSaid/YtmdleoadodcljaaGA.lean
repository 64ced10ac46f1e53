/- What cycleFrom returns. -/
import Derived.Test.YtmdleoadodcljaaZC
import Derived.Test.YtmdleoadodcljaaG9
namespace Go.Proofs.Ytmdleoadodcljaa
open Go.RowKit Sl Fr
namespace Gp
set_option linter.unusedVariables false

theorem near_none {n : Nat} {es : Dgr.Edges} {v u : Nat} {f : Nat → Int} {l : List Nat} (hD : Dgr.DistF n (Dgr.rev es) v f) (ok : Dgr.Ok n es) (hl : ∀ w, w ∈ l ↔ (u, w) ∈ es) (h : near f l = none) : ∀ w, (u, w) ∈ es → ¬ Dgr.Rch es w v := fun w he hr => by
  have h1 := near_is f l
  rw [h] at h1
  have h2 : f w = -1 := h1 w ((hl w).2 he)
  have hwn : w < n := (ok _ he).2
  rcases hD.to hwn with ⟨k, h3, _⟩ | ⟨_, h3⟩
  · omega
  · exact h3 hr
theorem near_next {n : Nat} {es : Dgr.Edges} {v u x : Nat} {f : Nat → Int} {l : List Nat} (hD : Dgr.DistF n (Dgr.rev es) v f) (ok : Dgr.Ok n es) (hl : ∀ w, w ∈ l ↔ (u, w) ∈ es) (h : near f l = some x) : ∃ d : Nat, f x = d ∧ Dgr.Next es v u x d := by
  have h1 := near_is f l
  rw [h] at h1
  have h2 : x ∈ l := h1.1
  have h3 : f x ≠ -1 := h1.2.1
  have h4 : ∀ v ∈ l, f v ≠ -1 → f x < f v ∨ (f x = f v ∧ x ≤ v) := h1.2.2
  have he := (hl x).1 h2
  have hxn : x < n := (ok _ he).2
  rcases hD.to hxn with ⟨d, h5, h6⟩ | ⟨h5, _⟩
  · refine ⟨d, h5, he, h6, fun y e hy hdy => ?_⟩
    have hyn : y < n := (ok _ hy).2
    have h7 := hD.eq hyn hdy
    have := h4 y ((hl y).2 hy) (by omega)
    omega
  · exact absurd h5 h3
/-- From a node that leads to v there is a next one. -/
theorem near_some {n : Nat} {es : Dgr.Edges} {v u k : Nat} {f : Nat → Int} {l : List Nat} (hD : Dgr.DistF n (Dgr.rev es) v f) (ok : Dgr.Ok n es) (hl : ∀ w, w ∈ l ↔ (u, w) ∈ es) (hu : Dgr.Dist es u v (k + 1)) : ∃ x, near f l = some x ∧ f x = k ∧ Dgr.Next es v u x k := by
  cases h : near f l with
  | none =>
    obtain ⟨y, hy, hw⟩ := Dgr.Walk.uncons hu.1
    exact absurd hw.rch (near_none hD ok hl h y hy)
  | some x =>
    obtain ⟨d, h1, h2⟩ := near_next hD ok hl h
    have := h2.of_dist hu
    subst this
    exact ⟨x, rfl, h1, h2⟩

/-- A list of nodes or nil is given back. -/
def GiveO (W : World) (b : Option (List Nat)) (e : Ending) (w' : World) : Prop :=
  (match b with
    | none => e = .returned (.slice none 0 0)
    | some l => ∃ g o c, e = .returned (.slice (some ⟨g, o, none⟩) l.length c) ∧ l.length ≤ c ∧ Row w' W.heap.size (some ⟨g, o, none⟩) l) ∧ Below W.heap.size W w'
def CfAt (es : Dgr.Edges) (v L : Nat) (f : Nat → Int) (n : Nat) (w : World) (g : Nat) (xv cv : Value) (wr : World) : Prop :=
  ∃ (x j : Nat) (l : List Nat), xv = .int .i64 x ∧ x < n ∧ f x = (j : Int) ∧ Dgr.Dist es x v j ∧ g = j ∧ 0 < l.length ∧ l.length + j = L ∧ Dgr.Trail es v L (l ++ [x]) ∧ wr.ownsRow w.heap.size 3 1 cv l.length (nv l) ∧ Below w.heap.size w wr

set_option maxRecDepth 100000 in
set_option maxHeartbeats 3200000 in
theorem cf_any (n N v c : Nat) (A : Option Addr) (es : Dgr.Edges) (f : Nat → Int) (w : World) (hA : Rows w 0 A (sucL n es)) (hC : CellsV w N n (iF f)) (hD : Dgr.DistF n (Dgr.rev es) v f) (ok : Dgr.Ok n es) (hv : v < n) (hn : n ≤ 200) (hel : es.length ≤ 2000) :
    Calls Try.prog 39 #[.slice A n c, .slice (some ⟨N, 0, none⟩) n n, .int .i64 v] w fun e w' => ∃ b, Dgr.Found es v b ∧ GiveO w b e w' := by
  obtain ⟨b, o, hb⟩ := hA.open
  have hadj := sucL_adj ok
  obtain ⟨rfl, _, hbs, hrow⟩ := hb (by intro h; have := hadj.len; rw [h] at this; simp at this; omega)
  obtain ⟨i0, hi0, hz0, hz1, hz2⟩ := parts_of infoInt
  have HR := Lib.hid hrow
  have HJ := Lib.hid hadj
  have HO := Lib.hid ok
  have HC := Lib.hid hC
  have HD := Lib.hid hD
  obtain ⟨l, hl1, hl2, hl3⟩ := hadj.mem v hv
  obtain ⟨A', c', hc1, hc2, hc3⟩ := hrow v l hl1
  have HL2 := Lib.hid hl2
  have hN1 := near_any n N c' A' l f w hc3 (fun x hx => (ok _ ((hl2 x).1 hx)).2) hC hn (by omega)
  have HN1 := Lib.hid hN1
  have hv1 : (0 : Int) ≤ (v : Int) := Int.natCast_nonneg _
  have hv2 : (v : Int) < (n : Int) := by omega
  clear hb hA hadj ok hrow hC hD hl1 hl2 hl3 hc2 hc3 hN1
  cases hx : near f l with
  | none =>
    have HX := Lib.hid hx
    rw [hx] at HN1
    clear hx
    go_enter Try.func39, Try.ntmps39
    go_wp2_with (go_at_call 40; refine (HN1.out).mono ?_; rintro e w1 ⟨rfl, hb1⟩)
    go_ret
    exact ⟨none, Dgr.found_none (near_none HD.out HO.out HL2.out HX.out), rfl, hb1⟩
  | some x =>
    have HX := Lib.hid hx
    rw [hx] at HN1
    obtain ⟨d, hfx, hnx⟩ := near_next HD.out HO.out HL2.out hx
    have HNX := Lib.hid hnx
    have hxn : x < n := (HO.out _ hnx.edge).2
    have hdn := hnx.dist.lt HO.out hxn
    have hs : ((some x : Option Nat).getD 0) = x := rfl
    have hs2 : (some x : Option Nat).isSome = true := rfl
    rw [hs, hs2] at HN1
    clear hx hnx hs hs2
    go_enter Try.func39, Try.ntmps39
    go_wp2_with (go_at_call 40; refine (HN1.out).mono ?_; rintro e w1 ⟨rfl, hb1⟩)
    have hb1s := hb1.size
    have HS : Hid (CfAt es v (d + 1) f n w d (.int .i64 (x : Int)) (.slice (some ⟨w1.heap.size, 0, none⟩) 1 1) (w1.alloc (.cells #[.int .i64 (v : Int)] 3))) := Lib.hid
      ⟨x, d, [v], rfl, hxn, hfx, HNX.out.dist, rfl, by simp, by simp; omega, (Dgr.Trail.one es v (d + 1)).snoc (l := []) HNX.out (by simp), World.ownsRow_lit w1 _ 1 (by omega) (by unfold maxLen; omega) rfl, hb1.alloc hb1s _⟩
    go_loopg [7, 9] d (fun g xv cv wr => CfAt es v (d + 1) f n w g xv cv wr)
    case atStart => exact HS.out
    case round =>
      obtain ⟨y, j, l2, rfl, hyn, hfy, hdy, hgj, hl0, hlen, htr, hrw, hbl⟩ := hrel
      obtain rfl : j = gk := hgj.symm
      have HTR := Lib.hid htr
      have HROW := Lib.hid hrw
      have HDY := Lib.hid hdy
      have hbls := hbl.size
      have hown := row_own hrw
      clear HS htr hrw hdy
      by_cases hyv : y = v
      · subst hyv
        have hj0 : j = 0 := HDY.out.unique ⟨rfl, fun e he => by omega⟩
        subst hj0
        go_wp2
        go_ret
        obtain ⟨g', cap', rfl, hbx, hbb⟩ := row_box HROW.out hl0
        obtain ⟨A', c2, he, hc', _, hF'⟩ := Row.own HROW.out
        cases he
        exact ⟨some l2, Dgr.found_some HNX.out (HTR.out.greedy (by omega) (by omega)), ⟨g', 0, cap', rfl, hc', hF'⟩, hbl⟩
      · have hyvd : ((y : Int) != (v : Int)) = true := by simp; omega
        have hj : 0 < j := by
          rcases Nat.eq_zero_or_pos j with h0 | h0
          · subst h0
            exact absurd HDY.out.1 hyv
          · exact h0
        obtain ⟨l', hl1, hl2, hl3⟩ := HJ.out.mem y hyn
        obtain ⟨A2, c2, hcr, hcr2, hcr3⟩ := HR.out y l' hl1
        have hcry := (hbl.cell (p := ⟨b, o + y, none⟩) hbs).trans hcr
        have hy1 : (0 : Int) ≤ (y : Int) := Int.natCast_nonneg _
        have hy2 : (y : Int) < (n : Int) := by omega
        obtain ⟨k, rfl⟩ : ∃ k, j = k + 1 := ⟨j - 1, by omega⟩
        obtain ⟨z, hz, hfz, hnz⟩ := near_some HD.out HO.out hl2 HDY.out
        have HNZ := Lib.hid hnz
        have HL3 : Hid (∀ x ∈ l', x < n) := Lib.hid fun x hx => (HO.out _ ((hl2 x).1 hx)).2
        have HR3 := Lib.hid hcr3
        have HZ := Lib.hid hz
        have hll : l'.length ≤ 2000 := by omega
        have hzn : z < n := (HO.out _ hnz.edge).2
        have hs : ((some z : Option Nat).getD 0) = z := rfl
        have hs2 : (some z : Option Nat).isSome = true := rfl
        clear hl1 hl2 hl3 hcr hcr2 hcr3 hnz hz hyv
        go_wp2_with (first
          | (at_builtin; refine wpList_append_lies _ rfl _ _ 26 rfl w.heap.size 3 i0 (.int .i64 0) 1 8 Try.underlying26 hi0 hz0 hz1 hz2 rfl (by decide) _ _ _ rfl (HROW.out.alloc _) ⟨wr.heap.size, 0, none⟩ 1 1 [.int .i64 (y : Int)] rfl rfl (cell_one_new _ _ _) (by simp [Value.oneCell']) (by decide) (by unfold maxLen; omega) (by omega) (by simp; omega) _ rfl ?_; intro g' cap' w4 hown4 hgrow4 hor4 hlt4; have hb4 : Below w.heap.size w w4 := (hbl.alloc hbls _).grown hgrow4 (by simp; omega) (fun g'' hg'' => hown g'' hg''); have hcry4 := (hb4.cell (p := ⟨b, o + y, none⟩) hbs).trans ((hbl.cell (p := ⟨b, o + y, none⟩) hbs).symm.trans hcry))
          | (go_at_call 40; refine (near_any n N _ _ l' f _ (HR3.out.keep hb4) HL3.out (HC.out.keep hb4) hn hll).mono ?_; rw [HZ.out, hs, hs2]; rintro e w5 ⟨rfl, hb5⟩))
        go_roundg k
        case measure => omega
        case rel =>
          refine ⟨z, k, l2 ++ [y], rfl, hzn, hfz, HNZ.out.dist, rfl, by simp, by simp; omega, HTR.out.snoc HNZ.out (by omega), ?_, hb4.trans (hb5.mono hb4.size)⟩
          rw [nv_append, List.length_append]
          exact row_keep hown4 hb5

end Gp
end Go.Proofs.Ytmdleoadodcljaa
