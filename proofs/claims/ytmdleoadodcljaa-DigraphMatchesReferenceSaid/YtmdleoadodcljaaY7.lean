/- The reference's CycleIn. -/
import Derived.Test.YtmdleoadodcljaaY6
import Derived.Test.YtmdleoadodcljaaZC
namespace Go.Proofs.Ytmdleoadodcljaa
open Go.RowKit Sl Fr
namespace Gp
set_option linter.unusedVariables false

/-- The best of the nodes ahead of v. -/
def CycI (es : Dgr.Edges) (v best : Nat) (first : Int) : Prop :=
  (best = 0 ∧ first = -1 ∧ ∀ x, x < v → ∀ k, ¬ Dgr.Walk es (k + 1) x x) ∨
  ∃ u : Nat, 0 < best ∧ first = u ∧ u < v ∧ Dgr.Walk es best u u ∧ (∀ x, x < v → ∀ k, k + 1 < best → ¬ Dgr.Walk es (k + 1) x x) ∧ ∀ x, x < u → ¬ Dgr.Walk es best x x
theorem CycI.keep {es : Dgr.Edges} {v best b : Nat} {first : Int} (h : CycI es v best first) (ht : Thr es v b) (hb : b = 0 ∨ (0 < best ∧ best ≤ b)) : CycI es (v + 1) best first := by
  have hno : ∀ k, (b = 0 ∨ k + 1 < b) → ¬ Dgr.Walk es (k + 1) v v := fun k hk => by
    rcases ht with ⟨_, h2⟩ | ⟨h1, _, h3⟩
    · exact h2 k
    · rcases hk with hk | hk
      · omega
      · exact h3 k hk
  rcases h with ⟨h1, h2, h3⟩ | ⟨u, h1, h2, h3, h4, h5, h6⟩
  · refine .inl ⟨h1, h2, fun x hx k => ?_⟩
    by_cases hxv : x = v
    · subst hxv; exact hno k (by omega)
    · exact h3 x (by omega) k
  · refine .inr ⟨u, h1, h2, by omega, h4, fun x hx k hk => ?_, h6⟩
    by_cases hxv : x = v
    · subst hxv; exact hno k (by omega)
    · exact h5 x (by omega) k hk
theorem CycI.take {es : Dgr.Edges} {v best b : Nat} {first : Int} (h : CycI es v best first) (ht : Thr es v b) (hb0 : 0 < b) (hb : best = 0 ∨ b < best) : CycI es (v + 1) b (v : Int) := by
  rcases ht with ⟨h1, _⟩ | ⟨_, hw, hm⟩
  · omega
  have hold : ∀ x, x < v → ∀ k, k + 1 ≤ b → ¬ Dgr.Walk es (k + 1) x x := fun x hx k hk => by
    rcases h with ⟨h1, h2, h3⟩ | ⟨u, h1, h2, h3, h4, h5, h6⟩
    · exact h3 x hx k
    · exact h5 x hx k (by omega)
  refine .inr ⟨v, hb0, rfl, by omega, hw, fun x hx k hk => ?_, fun x hx => ?_⟩
  · by_cases hxv : x = v
    · subst hxv; exact hm k hk
    · exact hold x (by omega) k (by omega)
  · obtain ⟨k, rfl⟩ : ∃ k, b = k + 1 := ⟨b - 1, by omega⟩
    exact hold x hx k (Nat.le_refl _)

/-- The steps so far; what is left. -/
structure GrdI (es : Dgr.Edges) (u best i : Nat) (l : List Nat) : Prop where
  len : i + l.length = best
  pos : 0 < l.length
  head : l[0]? = some u
  next : ∀ (k a b : Nat), l[k]? = some a → l[k + 1]? = some b → (a, b) ∈ es ∧ Dgr.Dist es b u (best - (k + 1)) ∧ ∀ w, (a, w) ∈ es → Dgr.Dist es w u (best - (k + 1)) → b ≤ w
  more : ∀ a, l[l.length - 1]? = some a → ∃ x, (a, x) ∈ es ∧ Dgr.Dist es x u i
theorem dist_tail {es : Dgr.Edges} {a u i : Nat} (h : Dgr.Walk es (i + 1) a u) (hm : ∀ e, e < i → ¬ Dgr.Walk es (e + 1) a u) : ∃ x, (a, x) ∈ es ∧ Dgr.Dist es x u i := by
  obtain ⟨x, hx, hw⟩ := Dgr.Walk.uncons h
  exact ⟨x, hx, hw, fun e he hw' => hm e he (Dgr.Walk.cons hx hw')⟩
theorem GrdI.start {es : Dgr.Edges} {u d : Nat} (hw : Dgr.Walk es (d + 1) u u) (hm : ∀ e, e < d → ¬ Dgr.Walk es (e + 1) u u) : GrdI es u (d + 1) d [u] :=
  ⟨rfl, by simp, rfl, fun k a b ha hb => by simp at hb, fun a ha => by
    have : a = u := by simpa using ha.symm
    subst this
    exact dist_tail hw hm⟩
theorem GrdI.step {es : Dgr.Edges} {u best i y a : Nat} {l : List Nat} (h : GrdI es u best (i + 1) l) (ha : l[l.length - 1]? = some a) (hy : (a, y) ∈ es) (hd : Dgr.Dist es y u (i + 1)) (hl : ∀ w, (a, w) ∈ es → Dgr.Dist es w u (i + 1) → y ≤ w) : GrdI es u best i (l ++ [y]) := by
  have hp := h.pos
  have hle := h.len
  refine ⟨by simp; omega, by simp, by rw [List.getElem?_append_left hp]; exact h.head, fun k b z hb hz => ?_, fun b hb => ?_⟩
  · by_cases hk : k + 1 < l.length
    · rw [List.getElem?_append_left (by omega)] at hb
      rw [List.getElem?_append_left hk] at hz
      exact h.next k b z hb hz
    · have hkl : k + 1 = l.length := by
        have := (List.getElem?_eq_some_iff.1 hz).1
        simp at this
        omega
      rw [List.getElem?_append_left (by omega), show k = l.length - 1 by omega, ha] at hb
      rw [List.getElem?_append_right (by omega), show k + 1 - l.length = 0 by omega] at hz
      simp only [List.getElem?_cons_zero, Option.some.injEq] at hb hz
      subst hb hz
      rw [show best - (k + 1) = i + 1 by omega]
      exact ⟨hy, hd, hl⟩
  · have : b = y := by simpa using hb.symm
    subst this
    exact dist_tail hd.1 fun e he => hd.2 (e + 1) (by omega)
theorem GrdI.greedy {es : Dgr.Edges} {u best : Nat} {l : List Nat} (h : GrdI es u best 0 l) : Dgr.Greedy es u best l :=
  ⟨by have := h.len; omega, h.head, fun k a b _ ha hb => h.next k a b ha hb⟩
theorem backF_iff {n : Nat} {es : Dgr.Edges} {u : Nat} {f : Nat → Int} (h : BackF n es u f) {w : Nat} (hw : w < n) (d : Nat) : f w = d ↔ Dgr.Dist es w u d := by
  rcases h w hw with ⟨k, hk, hd⟩ | ⟨hk, hno⟩
  · constructor
    · intro e
      obtain rfl : k = d := by omega
      exact hd
    · intro hd'
      rw [hk, Dgr.Dist.unique hd hd']
  · constructor
    · intro e; omega
    · intro hd; exact absurd hd.1 (hno d)

set_option maxRecDepth 100000 in
set_option maxHeartbeats 12800000 in
theorem rcycle_any (n : Nat) (A : Option Addr) (es : Dgr.Edges) (c : Nat) (w : World) (hA : EdgesA w A es) (ok : Dgr.Ok n es) (hn : n ≤ 200) (hl : es.length ≤ 2000) :
    Calls Try.prog 12 #[.int .i64 n, .slice A es.length c] w fun e w' => ∃ b, Dgr.CycIs es b ∧ GiveL w b 4 e w' := by
  obtain ⟨i0, hi0, hz0, hz1, hz2⟩ := parts_of infoInt
  have hst := start1 w #[.slice none 0 0, .int .i64 0] 37
  have hsz : (w.alloc (.cells #[.slice none 0 0, .int .i64 0] 37)).heap.size = w.heap.size + 1 := World.size_alloc _ _
  go_enter Try.func12, Try.ntmps12
  go_upto_region 1 with fail
  generalize w.alloc (.cells #[.slice none 0 0, .int .i64 0] 37) = X at *
  obtain ⟨hNB, hbX⟩ := hst
  have HSZ := Lib.hid hsz
  have HA := Lib.hid (hA.keep hbX)
  have HO := Lib.hid ok
  have HNB := Lib.hid hNB
  have HI0 : Hid (CycI es 0 0 (-1)) := Lib.hid (.inl ⟨rfl, rfl, fun x hx => by omega⟩)
  clear hsz hA ok hNB
  go_wp2
  go_loopg [5, 6, 7] n (fun g bv fv i wr => ∃ (v best : Nat) (first : Int), bv = .int .i64 best ∧ fv = .int .i64 first ∧ i = .int .i64 v ∧ v ≤ n ∧ g = n - v ∧ best ≤ n ∧ CycI es v best first ∧ Below X.heap.size X wr)
  case atStart => exact ⟨0, 0, -1, rfl, rfl, rfl, Nat.zero_le _, rfl, Nat.zero_le _, HI0.out, Below.refl _ _⟩
  case round =>
    clear HI0
    obtain ⟨v, best, first, rfl, rfl, rfl, hv, rfl, hbn, hI, hbl⟩ := hrel
    have HI := Lib.hid hI
    clear hI
    by_cases hlt : v < n
    · have hth := rthrough_any n A es c v wr (HA.out.keep hbl) HO.out hn hl hlt
      go_wp2_with fail
      go_at_call 28
      refine hth.mono ?_
      rintro e w5 ⟨b, rfl, ht, hbn2, hb5⟩
      have HT := Lib.hid ht
      have hbl5 := hbl.trans (hb5.mono hbl.size)
      clear hth ht
      by_cases hb0 : b = 0
      · have hI2 := Lib.hid (HI.out.keep HT.out (.inl hb0))
        have hd : ¬ (0 : Int) < (b : Int) := by omega
        clear hb0
        go_wp2
        go_roundg (n - (v + 1))
        case measure => omega
        case rel => exact ⟨v + 1, best, first, rfl, rfl, by go_num, by omega, rfl, hbn, hI2.out, hbl5⟩
      · have hd : (0 : Int) < (b : Int) := by omega
        by_cases hbe : best = 0
        · subst hbe
          have hI2 := Lib.hid (HI.out.take HT.out (by omega) (.inl rfl))
          clear hb0
          go_wp2
          go_roundg (n - (v + 1))
          case measure => omega
          case rel => exact ⟨v + 1, b, (v : Int), rfl, rfl, by go_num, by omega, rfl, hbn2, hI2.out, hbl5⟩
        · have hbed : ((best : Int) == 0) = false := by rw [beq_eq_false_iff_ne]; omega
          by_cases hbb : b < best
          · have hI2 := Lib.hid (HI.out.take HT.out (by omega) (.inr hbb))
            have hbd : (b : Int) < (best : Int) := by omega
            clear hb0
            go_wp2
            go_roundg (n - (v + 1))
            case measure => omega
            case rel => exact ⟨v + 1, b, (v : Int), rfl, rfl, by go_num, by omega, rfl, hbn2, hI2.out, hbl5⟩
          · have hI2 := Lib.hid (HI.out.keep HT.out (.inr ⟨by omega, by omega⟩))
            have hbd : ¬ (b : Int) < (best : Int) := by omega
            clear hb0
            go_wp2
            go_roundg (n - (v + 1))
            case measure => omega
            case rel => exact ⟨v + 1, best, first, rfl, rfl, by go_num, by omega, rfl, hbn, hI2.out, hbl5⟩
    · obtain rfl : n = v := by omega
      have hbw := hbX.trans (hbl.mono hbX.size)
      have hNBw := HNB.out.keep hbl
      rcases HI.out with ⟨hb0, hf, hno⟩ | ⟨u, hb0, hf, hun, hw, hm, hfi⟩
      · subst hb0 hf
        have hac : Dgr.Acyclic es := fun x hx => by
          obtain ⟨d, hd⟩ := hx.walk
          exact hno x (Dgr.Way.lt HO.out hx).1 d hd
        have HAC := Lib.hid hac
        obtain ⟨f0, f1⟩ := hNBw.f2
        obtain ⟨k0, k1⟩ := hNBw.c2
        have hs := Lib.hid (hNBw.s2 (.slice none 0 0) (.int .i64 4))
        have HBB := Lib.hid (below_s2 hbw (Nat.le_refl _) (.slice none 0 0) (.int .i64 4))
        clear hac hno hNBw
        go_wp2
        generalize (wr.setCell ⟨w.heap.size, 0, none⟩ (.slice none 0 0)).setCell ⟨w.heap.size, 1, none⟩ (.int .i64 4) = R at *
        obtain ⟨s0, s1⟩ := hs.out.c2
        refine bodyPost_ret (v := .agg #[.slice none 0 0, .int .i64 4]) (by simp [results, Try.results12, go_sem, s0, s1]) rfl ?_
        exact ⟨none, HAC.out, none, 0, 0, 4, rfl, ⟨fun _ => ⟨rfl, rfl, rfl, rfl⟩, fun l hl => by cases hl⟩, HBB.out⟩
      · subst hf
        obtain ⟨d, rfl⟩ : ∃ d, best = d + 1 := ⟨best - 1, by omega⟩
        have hmin : ∀ e y, e < d → ¬ Dgr.Walk es (e + 1) y y := fun e y he hy => hm y (Dgr.Way.lt HO.out hy.way).1 e (by omega) hy
        have HMIN := Lib.hid hmin
        have HG0 := Lib.hid (GrdI.start hw fun e he => hmin e u he)
        have HW := Lib.hid hw
        have HFI := Lib.hid hfi
        have hu1 : ¬ (u : Int) < 0 := by omega
        have hbk := rback_any n A es c u wr (HA.out.keep hbl) HO.out hn hl hun
        clear hmin hw hfi hm hNBw
        go_wp2_with fail
        go_at_call 29
        refine hbk.mono ?_
        rintro e Y ⟨M, f, rfl, hC, hF, hbY⟩
        have HC := Lib.hid hC
        have HF := Lib.hid hF
        have hblY := hbl.trans (hbY.mono hbl.size)
        have hMlt := hC.lt
        clear hbk hC hF
        have hown0 := World.ownsRow_lit (e := 3) (size := 1) (base := Y.heap.size) Y #[.int .i64 (u : Int)] 1 (Nat.le_refl _) (by unfold maxLen; omega) rfl
        have HOWN := Lib.hid (show (Y.alloc (.cells #[.int .i64 (u : Int)] 3)).ownsRow Y.heap.size 3 1 (.slice (some ⟨Y.heap.size, 0, none⟩) 1 1) 1 (nv [u]) by simpa [nv] using hown0)
        have HBA := Lib.hid ((Below.refl _ Y).alloc (Nat.le_refl _) (.cells #[.int .i64 (u : Int)] 3))
        clear hown0
        have hdi : ((d + 1 : Nat) : Int) - 1 = (d : Int) := by omega
        go_wp2
        try simp only [Int.add_sub_cancel]
        go_loopg [10, 11] d (fun g ov i wr => ∃ (k : Nat) (l : List Nat) (B : Option Addr) (dd : Nat), ov = .slice B l.length dd ∧ i = .int .i64 k ∧ k = g ∧ GrdI es u (d + 1) k l ∧ (∀ x ∈ l, x < n) ∧ wr.ownsRow Y.heap.size 3 1 (.slice B l.length dd) l.length (nv l) ∧ Below Y.heap.size Y wr)
        case atStart => exact ⟨d, [u], some ⟨Y.heap.size, 0, none⟩, 1, rfl, rfl, rfl, HG0.out, by simpa using hun, HOWN.out, HBA.out⟩
        case round =>
          clear HG0 HOWN HBA
          obtain ⟨k, l, B, dd, rfl, rfl, rfl, hG, hln, hrow, hbq⟩ := hrel
          have HG := Lib.hid hG
          have HLN := Lib.hid hln
          have HROW := Lib.hid hrow
          have hgl := hG.len
          have hgp := hG.pos
          clear hG hln hrow
          have hbs := hbq.size
          by_cases hk0 : 0 < k
          · obtain ⟨i, rfl⟩ : ∃ i, k = i + 1 := ⟨k - 1, by omega⟩
            obtain ⟨a, ha⟩ := get_ex (l := l) (j := l.length - 1) (by omega)
            obtain ⟨x, hx1, hx2⟩ := HG.out.more a ha
            have hxn : x < n := (HO.out _ hx1).2
            have hfx : f x = ((i + 1 : Nat) : Int) := (backF_iff HF.out hxn (i + 1)).2 hx2
            obtain ⟨g2, cap2, hv2, hbx, hg2⟩ := row_box HROW.out (by omega)
            injection hv2 with hv3 _ hv4
            subst hv3 hv4
            have hca : wr.cell? ⟨g2, l.length - 1, none⟩ = some (.int .i64 (a : Int)) := hbx.get (by simpa using nv_get ha)
            have hii : (l.length : Int) - 1 = ((l.length - 1 : Nat) : Int) := by omega
            have hi1 : ((l.length - 1 : Nat) : Int) < (l.length : Int) := by omega
            have hi2 : (0 : Int) ≤ ((l.length - 1 : Nat) : Int) := Int.natCast_nonneg _
            have hle := rleast_any n M A es c a (i + 1) f wr ((HA.out.keep hblY).keep hbq) HO.out (HC.out.keep hbq) hn hl
            have HXX := Lib.hid hx1
            have HFX := Lib.hid hfx
            have HAA := Lib.hid ha
            clear hx1 hx2 hfx ha hbx
            go_wp2_with fail
            go_at_call 30
            refine hle.mono ?_
            rintro e w6 ⟨y0, rfl, hL, hb6⟩
            obtain ⟨y, rfl, hy1, hy2, hy3⟩ : ∃ y : Nat, y0 = y ∧ (a, y) ∈ es ∧ f y = ((i + 1 : Nat) : Int) ∧ ∀ z, (a, z) ∈ es → f z = ((i + 1 : Nat) : Int) → y ≤ z := by
              rcases hL with ⟨_, h2⟩ | h
              · exact absurd HFX.out (h2 x HXX.out)
              · exact h
            have hyn : y < n := (HO.out _ hy1).2
            have HG2 := Lib.hid (HG.out.step HAA.out hy1 ((backF_iff HF.out hyn (i + 1)).1 hy2) fun z hz hd => hy3 z hz ((backF_iff HF.out (HO.out _ hz).2 (i + 1)).2 hd))
            have HLN2 := Lib.hid (show ∀ z ∈ l ++ [y], z < n from fun z hz => by
              rcases List.mem_append.1 hz with h | h
              · exact HLN.out z h
              · rw [List.mem_singleton] at h; subst h; exact hyn)
            have hbq6 := hbq.trans (hb6.mono hbq.size)
            have hownA := (row_keep HROW.out hb6).alloc (.cells #[.int .i64 (y : Int)] 3)
            have hb6s := hbq6.size
            clear hy1 hy2 hy3 hL hle
            go_wp2_with (at_builtin; go_loud (refine wpList_append_own_at _ rfl _ _ 26 rfl Y.heap.size 3 i0 (.int .i64 0) 1 8 Try.underlying26 hi0 hz0 hz1 hz2 rfl (by decide) (.slice (some ⟨g2, 0, none⟩) l.length dd) l.length (nv l) rfl hownA ⟨w6.heap.size, 0, none⟩ 1 1 [.int .i64 (y : Int)] rfl rfl (cell_one_new _ _ _) (by simp [Value.oneCell']) (by unfold maxLen; omega) (by omega) (by simp; omega) ?_; intro v' w7 hown' hg3 hnil3 hob3; obtain ⟨g', cap', hv', _⟩ := row_box hown' (by omega); subst hv'; go_frame))
            have hlt' := HROW.out.lt
            have hb7 : Below Y.heap.size Y w7 := (hbq6.alloc hb6s _).grown hg3 (by simp; omega) (fun g3 e => (hlt' g3 e).1)
            go_roundg i
            case measure => omega
            case rel => exact ⟨i, l ++ [y], some ⟨g', 0, none⟩, cap', by rw [List.length_append]; rfl, by go_num, rfl, HG2.out, HLN2.out, by rw [List.length_append, nv_append]; exact hown', hb7⟩
          · obtain rfl : k = 0 := by omega
            have hlc : Hid (Dgr.IsLeast es l) := Lib.hid (Dgr.greedy_least HG.out.greedy HW.out HMIN.out HFI.out)
            have hbwY := hbw.trans ((hbY.trans (hbq.mono hbY.size)).mono hbw.size)
            have hNBz := (HNB.out.keep hblY).keep hbq
            have hwY : w.heap.size < Y.heap.size := Nat.lt_of_lt_of_le HNB.out.lt hblY.size
            obtain ⟨f0, f1⟩ := hNBz.f2
            obtain ⟨k0, k1⟩ := hNBz.c2
            have hs := Lib.hid (hNBz.s2 (.slice B l.length dd) (.int .i64 0))
            have HBB := Lib.hid (below_s2 hbwY (Nat.le_refl _) (.slice B l.length dd) (.int .i64 0))
            have hr2 := ownsRow_setCell_below (ownsRow_setCell_below HROW.out (a := ⟨w.heap.size, 0, none⟩) (by show w.heap.size < _; omega) (.slice B l.length dd)) (a := ⟨w.heap.size, 1, none⟩) (by show w.heap.size < _; omega) (.int .i64 0)
            have HR2 := Lib.hid hr2
            clear hNBz hr2
            go_wp2
            generalize (wr.setCell ⟨w.heap.size, 0, none⟩ (.slice B l.length dd)).setCell ⟨w.heap.size, 1, none⟩ (.int .i64 0) = R at *
            obtain ⟨s0, s1⟩ := hs.out.c2
            refine bodyPost_ret (v := .agg #[.slice B l.length dd, .int .i64 0]) (by simp [results, Try.results12, go_sem, s0, s1]) rfl ?_
            obtain ⟨B2, d2, e2, h2, _, h3, _⟩ := row_forms HR2.out
            injection e2 with e3 e4 e5
            subst e3 e5
            refine ⟨some l, hlc.out, B, l.length, dd, 0, rfl, ⟨(fun h => by cases h), fun m hm => ?_⟩, HBB.out⟩
            cases hm
            exact ⟨rfl, h2, h3.mono (by omega), rfl⟩
end Gp
end Go.Proofs.Ytmdleoadodcljaa
