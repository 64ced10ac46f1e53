/- The level above a level of a tree, as the program computes it. -/
import Derived.Test.YtgjmhddekggilaaC0
import Derived.Test.YtgjmhddekggilaaC1
import Derived.Test.YtgjmhddekggilaaW3
import Derived.Maps.AppendAt
import Derived.Deep.RegionHeld3
namespace Go.Proofs.Ytgjmhddekggilaa
open Go.RowKit Go.Shelf Go.BigFrame
namespace Dg
attribute [local go_sem] Oper.semAt_some

theorem info24 : (Try.prog.info? 24).map (fun i => (i.zero, i.size, i.bytes)) = some (some (.int .u64 0), 1, 8) := by kernel_rfl

theorem join_exact (a b : Int) (w : World) : Calls Try.prog 15 #[.int .u64 a, .int .u64 b] w fun e w' => e = .returned (.int .u64 (joinI a b)) ∧ w.alloc (.cells #[.int .u64 a, .int .u64 b] 24) = w' := by
  go_enter Try.func15, Try.ntmps15
  go_wp2_with (go_at_call 29; refine (steps_two _ _ _ _).mono ?_; rintro e w' ⟨rfl, rfl⟩)
  go_ret
  exact ⟨rfl, rfl⟩

/-- What an append to the boxed row leaves. -/
theorem appended_all {W w1 : World} {n₀ B Bs Bn : Nat} {v v' sv : Value} {tmp : Obj} {k m : Nat} {xs ys : List Value} (hv : Boxed W B 25 v) (hs : Boxed W Bs 25 sv) (hn : Boxed W Bn 3 (.int .i64 2)) (hBs : Bs ≠ B) (hBn : Bn ≠ B)
    (hrow : W.ownsRow n₀ 24 1 v k xs) (hn₀ : n₀ ≤ W.heap.size) (hB : n₀ ≤ B) (hown' : w1.ownsRow n₀ 24 1 v' m ys) (hgrow : (W.alloc tmp).grownBy w1 v.ownBlock) :
    Boxed w1 B 25 v ∧ Boxed (w1.setCell ⟨B, 0, none⟩ v') B 25 v' ∧ (w1.setCell ⟨B, 0, none⟩ v').ownsRow n₀ 24 1 v' m ys ∧ KeepsOthers W (w1.setCell ⟨B, 0, none⟩ v') ∧ Below n₀ W (w1.setCell ⟨B, 0, none⟩ v') ∧
      Boxed (w1.setCell ⟨B, 0, none⟩ v') Bs 25 sv ∧ Boxed (w1.setCell ⟨B, 0, none⟩ v') Bn 3 (.int .i64 2) := by
  obtain ⟨h1, h2, h3, h4, h5⟩ := hv.appended (by decide) hrow hn₀ hB hown' hgrow
  exact ⟨h1, h2, h3, h4, h5, ((hs.alloc tmp).kept hgrow (hs.not_row (by decide) hrow)).other hBs v', ((hn.alloc tmp).kept hgrow (hn.not_row (by decide) hrow)).other hBn v'⟩

theorem inWide {F : Fence} {m : Nat} {f : FuncId} {args : Array Value} {w : World} {R : Ending → World → Prop} (hF : Hid (F = Fence.wide)) (h : Calls Try.prog f args w R) : CallsIn F m Try.prog f args w R := by
  have e := hF.out
  subst e
  exact callsIn_wide.2 h

set_option maxRecDepth 100000 in
set_option maxHeartbeats 2000000 in
theorem next_in (F : Fence) (hF : Hid (F = Fence.wide)) (h31 : F.fn 31) (h37 : F.fn 37) (h38 : F.fn 38) (h42 : F.fn 42) (hro : F.round = none) (n : Nat) (hn : 3 ≤ n)
    (A : Option Addr) (zs : List Int) (cap : Nat) (w : World) (hlen : zs.length ≤ 17592186044416) (hcap : zs.length ≤ cap) (hA : Arr w A (zs.map (Value.int .u64))) (b o : Nat) (hbo : Hid (zs ≠ [] → A = some ⟨b, o, none⟩)) :
    CallsIn F n Try.prog 31 #[.slice A zs.length cap] w fun e W' => ∃ v, e = .returned v ∧ W'.ownsRow w.heap.size 24 1 v (levelI zs).length ((levelI zs).map (Value.int .u64)) ∧ Below w.heap.size w W' := by
  have h1 : 1 ≤ n := by omega
  obtain ⟨i0, hi, hz0, hz1, hz2⟩ := info_parts info24
  refine callsIn_of_wp_marks Try.func31 rfl h31 ?_ hro
  simp only [Try.ntmps31, List.size_toArray, List.length_cons, List.length_nil, Nat.reduceAdd, Nat.reduceSub, Array.replicate_succ, Array.replicate_zero, List.push_toArray, List.append_toArray, List.nil_append, List.cons_append]
  gi_wp2_with (first
    | (gi_at_call 37; refine (inWide hF (width_any _ _ (by omega))).mono ?_; rintro e w' ⟨rfl, rfl⟩)
    | (gi_at_make; refine wpListIn_make_own _ rfl _ _ 25 rfl w.heap.size 24 i0 (.int .u64 0) 1 Try.underlying25 hi hz0 hz1 .i64 .i64 _ ((zs.length + 1) / 2) rfl rfl (by omega) (by rw [hz2]; omega) (by unfold maxLen; omega) (Nat.le_refl _) ?_; intro w0 hown0 hgrow0)
    | (gi_at_call 38; refine (inWide hF (chunk_any _ _ _ _)).mono ?_; rintro e w' ⟨rfl, rfl⟩))
  have hw0 : w.heap.size < w0.heap.size := by
    rcases hown0.2 with ⟨h, _⟩ | ⟨g, cap', cur, h, _, hg, _⟩
    · cases h
    · injection h with h; injection h with h; injection h with h
      subst h
      rcases Nat.lt_or_ge w.heap.size w0.heap.size with hlt | hge
      · exact hlt
      · rw [Array.getElem?_eq_none hge] at hg; cases hg
  have bX := Boxed.new w0 25 (.slice (some ⟨w.heap.size, 0, none⟩) 0 ((zs.length + 1) / 2))
  have bS := Boxed.new (w0.alloc (.cells #[.slice (some ⟨w.heap.size, 0, none⟩) 0 ((zs.length + 1) / 2)] 25)) 25 (.slice A zs.length cap)
  have bN := Boxed.new ((w0.alloc (.cells #[.slice (some ⟨w.heap.size, 0, none⟩) 0 ((zs.length + 1) / 2)] 25)).alloc (.cells #[.slice A zs.length cap] 25)) 3 (.int .i64 2)
  have bX' := (bX.alloc (.cells #[.slice A zs.length cap] 25)).alloc (.cells #[.int .i64 2] 3)
  have bS' := bS.alloc (.cells #[.int .i64 2] 3)
  rw [World.size_alloc] at bS'
  rw [World.size_alloc, World.size_alloc] at bN
  have hB0 : Below w.heap.size w (((w0.alloc (.cells #[.slice (some ⟨w.heap.size, 0, none⟩) 0 ((zs.length + 1) / 2)] 25)).alloc (.cells #[.slice A zs.length cap] 25)).alloc (.cells #[.int .i64 2] 3)) :=
    ((((Below.refl _ w).grown hgrow0 (Nat.le_refl _) (fun k e => by cases e)).alloc (by omega) _).alloc (by simp; omega) _).alloc (by simp; omega) _
  have hrow0 := ((hown0.alloc (.cells #[.slice (some ⟨w.heap.size, 0, none⟩) 0 ((zs.length + 1) / 2)] 25)).alloc (.cells #[.slice A zs.length cap] 25)).alloc (.cells #[.int .i64 2] 3)
  refine wpIn_rangeFunc_ownG hro h1 (gf := 42) (lb := #[.pointer (some ⟨w0.heap.size + 1, 0, none⟩), .pointer (some ⟨w0.heap.size + 1 + 1, 0, none⟩)]) rfl h42 (enters_of Try.func42 (by kernel_rfl) rfl)
    (chunk_stops F (n - 1) h42 hro (by omega) (w0.heap.size + 1) (w0.heap.size + 1 + 1) w.heap.size A zs.length cap (zs.map (Value.int .u64)) (by omega) hcap _ (by simp) (by simp) (by simp) bS'.cell bN.cell b o (fun h => hbo.out (by simpa using h)))
    Kc.trans (Kc.putObj (by simp; omega) (by simp) (by simp)) (Below.refl _ _) (fun _ => rfl)
    (fun pre W => ((∃ v, Boxed W w0.heap.size 25 v ∧ W.ownsRow w.heap.size 24 1 v pre.length (pre.map fun x => Value.int .u64 (levelAt zs x.1)) ∧ True) ∧ (Boxed W (w0.heap.size + 1) 25 (.slice A zs.length cap) ∧ Boxed W (w0.heap.size + 1 + 1) 3 (.int .i64 2))) ∧ Below w.heap.size w W)
    (fun _ _ _ => False)
    (OwnFrom.and (OwnFrom.and (Own.from (holdsRow_own w.heap.size w0.heap.size 25 24 1 (fun pre : List (Ck zs.length) => pre.length) (fun pre => pre.map fun x => Value.int .u64 (levelAt zs x.1)) (fun _ _ => True)) _) (OwnFrom.and (Own.from (boxed_own _ _ _) _) (Own.from (boxed_own _ _ _) _))) (ownFrom_below (Nat.le_refl _) (by simp; omega)))
    (fun _ _ _ _ _ hs _ _ => hs)
    ⟨⟨⟨_, bX', hrow0, trivial⟩, bS', bN⟩, hB0⟩
    (fun x => { tmps := #[.slice A zs.length cap, undef, .slice none 0 0, .pointer (some ⟨w0.heap.size, 0, none⟩), ckv b o zs.length x.1, .slice A zs.length cap, .int .i64 zs.length, .int .i64 (((zs.length : Int) + 1) / 2),
      .slice (some ⟨w.heap.size, 0, none⟩) 0 ((zs.length + 1) / 2), .slice A zs.length cap, .func (.func 42) #[] #[.pointer (some ⟨w0.heap.size + 1, 0, none⟩), .pointer (some ⟨w0.heap.size + 1 + 1, 0, none⟩)], ckv b o zs.length x.1,
      undef, undef, undef, undef, undef, undef, undef, undef, undef, undef, undef, undef, undef, undef, undef, undef, undef, undef, undef, undef], defers := [] }) ?assign ?body ?done ?stop
  case assign =>
    intro l x W K hK
    gi_wp2
    exact hK
  case body =>
    clear bX bS bN bX' bS' hB0 hrow0 hown0 hgrow0
    rintro l pre ⟨k, hk⟩ W ⟨⟨⟨v, hv, hrow, _⟩, hS, hN⟩, hB⟩ hlt
    obtain ⟨b', o', ebo, hbs, hcs⟩ := hA.at_ (by intro h; subst h; simp at hk)
    have ebo' := (hbo.out (by intro h; subst h; simp at hk)).symm.trans ebo
    simp only [Option.some.injEq, Addr.mk.injEq, and_true] at ebo'
    obtain ⟨rfl, rfl⟩ := ebo'
    have hc1 := (hB.cell (p := ⟨b, o + 2 * k, none⟩) hbs).trans (hcs (2 * k) hk)
    have hcx := hv.cell
    have hfx := hv.frozen
    by_cases hlt2 : 2 * k + 1 < zs.length
    · have hck : ckv b o zs.length k = .slice (some ⟨b, o + 2 * k, none⟩) 2 2 := if_pos hlt2
      have hla : levelAt zs k = joinI (zs[2 * k]?.getD 0) (zs[2 * k + 1]?.getD 0) := if_pos hlt2
      have hc2 := (hB.cell (p := ⟨b, o + 2 * k + 1, none⟩) hbs).trans (hcs (2 * k + 1) hlt2)
      simp only [hck]
      generalize zs[2 * k]?.getD 0 = z at hc1 hla
      generalize zs[2 * k + 1]?.getD 0 = y at hc2 hla
      have HL := Lib.hid hla
      clear hla hck hcs hbo
      gi_wp2
      refine wpIn_round_held (S := fun w' => w'.cell? ⟨b, o + 2 * k, none⟩ = some (.int .u64 z) ∧ w'.cell? ⟨b, o + 2 * k + 1, none⟩ = some (.int .u64 y)) hF (by kernel_rfl) (by kernel_rfl) ?hlo2 ?hS2 (fun hHeld => ?_)
      case hlo2 =>
        rintro ⟨a', w', h⟩
        exact h
      case hS2 => exact ⟨hc1, hc2⟩
      refine wpAnyH_take (i := 1) (v := .slice (some ⟨b, o + 2 * k, none⟩) 2 2) rfl (by kernel_rfl) (by kernel_rfl) (by kernel_rfl) (fun _ _ _ h => h) (Or.inl ⟨by rfl, fun w' hSw => ?hy1p⟩) hHeld ?_
      case hy1p => obtain ⟨hSw1, hSw2⟩ := hSw; go_simp
      simp only [Act.put]
      refine wpAnyH_take (i := 2) (v := .pointer (some ⟨b, o + 2 * k, none⟩)) rfl (by kernel_rfl) (by kernel_rfl) (by kernel_rfl) (fun _ _ _ h => h) (Or.inl ⟨by rfl, fun w' hSw => ?hy2p⟩) hHeld ?_
      case hy2p => obtain ⟨hSw1, hSw2⟩ := hSw; go_simp
      simp only [Act.put]
      refine wpAnyH_take (i := 3) (v := .int .u64 z) rfl (by kernel_rfl) (by kernel_rfl) (by kernel_rfl) (fun _ _ _ h => h) (Or.inl ⟨by rfl, fun w' hSw => ?hy3p⟩) hHeld ?_
      case hy3p => obtain ⟨hSw1, hSw2⟩ := hSw; go_simp
      simp only [Act.put]
      refine wpAnyH_take (i := 4) (v := .slice (some ⟨b, o + 2 * k, none⟩) 2 2) rfl (by kernel_rfl) (by kernel_rfl) (by kernel_rfl) (fun _ _ _ h => h) (Or.inl ⟨by rfl, fun w' hSw => ?hy4p⟩) hHeld ?_
      case hy4p => obtain ⟨hSw1, hSw2⟩ := hSw; go_simp
      simp only [Act.put]
      refine wpAnyH_take (i := 5) (v := .pointer (some ⟨b, o + 2 * k + 1, none⟩)) rfl (by kernel_rfl) (by kernel_rfl) (by kernel_rfl) (fun _ _ _ h => h) (Or.inl ⟨by rfl, fun w' hSw => ?hy5p⟩) hHeld ?_
      case hy5p => obtain ⟨hSw1, hSw2⟩ := hSw; go_simp
      simp only [Act.put]
      refine wpAnyH_take (i := 6) (v := .int .u64 y) rfl (by kernel_rfl) (by kernel_rfl) (by kernel_rfl) (fun _ _ _ h => h) (Or.inl ⟨by rfl, fun w' hSw => ?hy6p⟩) hHeld ?_
      case hy6p => obtain ⟨hSw1, hSw2⟩ := hSw; go_simp
      simp only [Act.put]
      have hrow9 : ((W.drew.alloc (.cells #[.int .u64 z, .int .u64 y] 24)).alloc (.cells #[.int .u64 (joinI z y)] 24)).ownsRow w.heap.size 24 1 v pre.length (pre.map fun x => Value.int .u64 (levelAt zs x.1)) := (hrow.drew.alloc _).alloc _
      have hcell9 : ∀ j u, [Value.int .u64 (joinI z y)][j]? = some u → ((W.drew.alloc (.cells #[.int .u64 z, .int .u64 y] 24)).alloc (.cells #[.int .u64 (joinI z y)] 24)).cell? ((⟨W.heap.size + 1, 0, none⟩ : Addr).add j) = some u := by
        have h9 := cell_one_new (W.drew.alloc (.cells #[.int .u64 z, .int .u64 y] 24)) (.int .u64 (joinI z y)) 24
        rw [World.size_alloc] at h9
        exact h9
      have hx7 : ((W.alloc (.cells #[.int .u64 z, .int .u64 y] 24)).drew).cell? ⟨w0.heap.size, 0, none⟩ = some v := (hv.alloc (.cells #[.int .u64 z, .int .u64 y] 24)).cell
      have hx8 : (((W.alloc (.cells #[.int .u64 z, .int .u64 y] 24)).alloc (.cells #[.int .u64 (joinI z y)] 24)).drew).cell? ⟨w0.heap.size, 0, none⟩ = some v := ((hv.alloc (.cells #[.int .u64 z, .int .u64 y] 24)).alloc (.cells #[.int .u64 (joinI z y)] 24)).cell
      refine wpAnyH_ready (rs := [0, 7]) (by kernel_rfl) (by simp) (AllReadyH.cons rfl (fun K hK => ?_) (AllReadyH.cons rfl (fun K hK => ?_) AllReadyH.nil))
      · clear hx7 hx8
        go_simp
        refine hK.out _ _ ?h0a (fun _ => ?_)
        case h0a => exact hHeld
        clear hK K
        refine wpAnyH_ready (rs := [7]) (by kernel_rfl) (by simp) (AllReadyH.cons rfl (fun K hK => ?_) AllReadyH.nil)
        go_simp
        refine (join_exact z y _).mono ?_
        rintro e w' ⟨rfl, rfl⟩
        go_simp
        refine hK.out _ _ ?h7a (fun _ => ?_)
        case h7a => exact ⟨(World.cell?_alloc_lt _ _ _ (by have := hB.size; simp; omega)).trans hc1, (World.cell?_alloc_lt _ _ _ (by have := hB.size; simp; omega)).trans hc2⟩
        clear hK K
        refine wpAnyH_ready (rs := [8]) (by kernel_rfl) (by simp) (AllReadyH.cons rfl (fun K hK => ?_) AllReadyH.nil)
        go_simp
        refine hK.out _ _ ?h8a (fun _ => ?_)
        case h8a => exact ⟨(World.cell?_alloc_lt _ _ _ (by have := hB.size; simp; omega)).trans ((World.cell?_alloc_lt _ _ _ (by have := hB.size; simp; omega)).trans hc1), (World.cell?_alloc_lt _ _ _ (by have := hB.size; simp; omega)).trans ((World.cell?_alloc_lt _ _ _ (by have := hB.size; simp; omega)).trans hc2)⟩
        clear hK K
        refine wpAnyH_ready (rs := [9]) (by kernel_rfl) (by simp) (AllReadyH.cons rfl (fun K hK => ?_) AllReadyH.nil)
        rw [if_pos (by rfl)]
        refine wp_append_lies (w := _) (.tmp 21) (.tmp 29) 25 rfl w.heap.size 24 i0 (.int .u64 0) 1 8 Try.underlying25 hi hz0 hz1 hz2 rfl (by decide) v pre.length _ rfl hrow9 ⟨W.heap.size + 1, 0, none⟩ 1 1 [.int .u64 (joinI z y)] rfl rfl hcell9 (by simp [Value.oneCell']) (by decide) (by unfold maxLen; omega) (by omega) (by have := hB.size; simp; omega) _ rfl ?_
        intro g cap' w1 hown1 hgrow1 _ _
        obtain ⟨hv1, hv2, hr2, hk2, hb2, hs2, hn2⟩ := appended_all (W := W.drew.alloc (.cells #[.int .u64 z, .int .u64 y] 24)) (hv.alloc _) (hS.alloc _) (hN.alloc _) (by omega) (by omega) (hrow.drew.alloc _) (by have := hB.size; simp; omega) (Nat.le_of_lt hw0) hown1 hgrow1
        have hb3 := (((Below.refl w.heap.size W).drew).alloc hB.size (.cells #[.int .u64 z, .int .u64 y] 24)).trans hb2
        have hk3 := (KeepsOthers.drew W).trans ((KeepsOthers.alloc _ _).trans hk2)
        have hcA := hv1.cell
        have hfA := hv1.frozen
        have far : ∀ q : Nat, w1.cell? ⟨b, q, none⟩ = W.cell? ⟨b, q, none⟩ := fun q => by
          have e1 := World.cell?_setCell_far w1 ⟨w0.heap.size, 0, none⟩ ⟨b, q, none⟩ (.slice (some ⟨g, 0, none⟩) (pre.length + 1) cap') (by simp; omega)
          have e2 := hb3.cell (p := ⟨b, q, none⟩) hbs
          exact e1.symm.trans e2
        refine hK.out _ _ ?hAa (fun _ => ?_)
        case hAa => exact ⟨(far _).trans hc1, (far _).trans hc2⟩
        clear hK K
        refine wpAnyH_ready (rs := [10]) (by kernel_rfl) (by simp) (AllReadyH.cons rfl (fun K hK => ?_) AllReadyH.nil)
        rw [if_pos (by rfl)]
        go_simp
        refine hK.out _ _ ?hBa (fun _ => ?_)
        case hBa => exact ⟨(hb3.cell (p := ⟨b, o + 2 * k, none⟩) hbs).trans hc1, (hb3.cell (p := ⟨b, o + 2 * k + 1, none⟩) hbs).trans hc2⟩
        refine wpAnyH_done (by kernel_rfl) ?_ _
        exact ⟨hk3.from _, ⟨hb3, hs2.trans hS.symm, hn2.trans hN.symm⟩, ⟨⟨_, hv2, by simpa [HL.out] using hr2, trivial⟩, hs2, hn2⟩, hB.trans hb3⟩
      · skip
        go_simp
        refine (join_exact z y _).mono ?_
        rintro e w' ⟨rfl, rfl⟩
        go_simp
        refine hK.out _ _ ?h7b (fun _ => ?_)
        case h7b => exact ⟨(World.cell?_alloc_lt _ _ _ (by have := hB.size; simp; omega)).trans hc1, (World.cell?_alloc_lt _ _ _ (by have := hB.size; simp; omega)).trans hc2⟩
        clear hK K
        refine wpAnyH_ready (rs := [0, 8]) (by kernel_rfl) (by simp) (AllReadyH.cons rfl (fun K hK => ?_) (AllReadyH.cons rfl (fun K hK => ?_) AllReadyH.nil))
        · clear hx8
          go_simp
          refine hK.out _ _ ?h0b (fun _ => ?_)
          case h0b => exact ⟨(World.cell?_alloc_lt _ _ _ (by have := hB.size; simp; omega)).trans hc1, (World.cell?_alloc_lt _ _ _ (by have := hB.size; simp; omega)).trans hc2⟩
          clear hK K
          refine wpAnyH_ready (rs := [8]) (by kernel_rfl) (by simp) (AllReadyH.cons rfl (fun K hK => ?_) AllReadyH.nil)
          go_simp
          refine hK.out _ _ ?h8b (fun _ => ?_)
          case h8b => exact ⟨(World.cell?_alloc_lt _ _ _ (by have := hB.size; simp; omega)).trans ((World.cell?_alloc_lt _ _ _ (by have := hB.size; simp; omega)).trans hc1), (World.cell?_alloc_lt _ _ _ (by have := hB.size; simp; omega)).trans ((World.cell?_alloc_lt _ _ _ (by have := hB.size; simp; omega)).trans hc2)⟩
          clear hK K
          refine wpAnyH_ready (rs := [9]) (by kernel_rfl) (by simp) (AllReadyH.cons rfl (fun K hK => ?_) AllReadyH.nil)
          rw [if_pos (by rfl)]
          refine wp_append_lies (w := _) (.tmp 21) (.tmp 29) 25 rfl w.heap.size 24 i0 (.int .u64 0) 1 8 Try.underlying25 hi hz0 hz1 hz2 rfl (by decide) v pre.length _ rfl hrow9 ⟨W.heap.size + 1, 0, none⟩ 1 1 [.int .u64 (joinI z y)] rfl rfl hcell9 (by simp [Value.oneCell']) (by decide) (by unfold maxLen; omega) (by omega) (by have := hB.size; simp; omega) _ rfl ?_
          intro g cap' w1 hown1 hgrow1 _ _
          obtain ⟨hv1, hv2, hr2, hk2, hb2, hs2, hn2⟩ := appended_all (W := W.drew.alloc (.cells #[.int .u64 z, .int .u64 y] 24)) (hv.alloc _) (hS.alloc _) (hN.alloc _) (by omega) (by omega) (hrow.drew.alloc _) (by have := hB.size; simp; omega) (Nat.le_of_lt hw0) hown1 hgrow1
          have hb3 := (((Below.refl w.heap.size W).drew).alloc hB.size (.cells #[.int .u64 z, .int .u64 y] 24)).trans hb2
          have hk3 := (KeepsOthers.drew W).trans ((KeepsOthers.alloc _ _).trans hk2)
          have hcA := hv1.cell
          have hfA := hv1.frozen
          have far : ∀ q : Nat, w1.cell? ⟨b, q, none⟩ = W.cell? ⟨b, q, none⟩ := fun q => by
            have e1 := World.cell?_setCell_far w1 ⟨w0.heap.size, 0, none⟩ ⟨b, q, none⟩ (.slice (some ⟨g, 0, none⟩) (pre.length + 1) cap') (by simp; omega)
            have e2 := hb3.cell (p := ⟨b, q, none⟩) hbs
            exact e1.symm.trans e2
          refine hK.out _ _ ?hAb (fun _ => ?_)
          case hAb => exact ⟨(far _).trans hc1, (far _).trans hc2⟩
          clear hK K
          refine wpAnyH_ready (rs := [10]) (by kernel_rfl) (by simp) (AllReadyH.cons rfl (fun K hK => ?_) AllReadyH.nil)
          rw [if_pos (by rfl)]
          go_simp
          refine hK.out _ _ ?hBb (fun _ => ?_)
          case hBb => exact ⟨(hb3.cell (p := ⟨b, o + 2 * k, none⟩) hbs).trans hc1, (hb3.cell (p := ⟨b, o + 2 * k + 1, none⟩) hbs).trans hc2⟩
          refine wpAnyH_done (by kernel_rfl) ?_ _
          exact ⟨hk3.from _, ⟨hb3, hs2.trans hS.symm, hn2.trans hN.symm⟩, ⟨⟨_, hv2, by simpa [HL.out] using hr2, trivial⟩, hs2, hn2⟩, hB.trans hb3⟩
        · clear hx7
          go_simp
          refine hK.out _ _ ?h8c (fun _ => ?_)
          case h8c => exact ⟨(World.cell?_alloc_lt _ _ _ (by have := hB.size; simp; omega)).trans ((World.cell?_alloc_lt _ _ _ (by have := hB.size; simp; omega)).trans hc1), (World.cell?_alloc_lt _ _ _ (by have := hB.size; simp; omega)).trans ((World.cell?_alloc_lt _ _ _ (by have := hB.size; simp; omega)).trans hc2)⟩
          clear hK K
          refine wpAnyH_ready (rs := [0]) (by kernel_rfl) (by simp) (AllReadyH.cons rfl (fun K hK => ?_) AllReadyH.nil)
          go_simp
          refine hK.out _ _ ?h0c (fun _ => ?_)
          case h0c => exact ⟨(World.cell?_alloc_lt _ _ _ (by have := hB.size; simp; omega)).trans ((World.cell?_alloc_lt _ _ _ (by have := hB.size; simp; omega)).trans hc1), (World.cell?_alloc_lt _ _ _ (by have := hB.size; simp; omega)).trans ((World.cell?_alloc_lt _ _ _ (by have := hB.size; simp; omega)).trans hc2)⟩
          clear hK K
          refine wpAnyH_ready (rs := [9]) (by kernel_rfl) (by simp) (AllReadyH.cons rfl (fun K hK => ?_) AllReadyH.nil)
          rw [if_pos (by rfl)]
          refine wp_append_lies (w := _) (.tmp 21) (.tmp 29) 25 rfl w.heap.size 24 i0 (.int .u64 0) 1 8 Try.underlying25 hi hz0 hz1 hz2 rfl (by decide) v pre.length _ rfl hrow9 ⟨W.heap.size + 1, 0, none⟩ 1 1 [.int .u64 (joinI z y)] rfl rfl hcell9 (by simp [Value.oneCell']) (by decide) (by unfold maxLen; omega) (by omega) (by have := hB.size; simp; omega) _ rfl ?_
          intro g cap' w1 hown1 hgrow1 _ _
          obtain ⟨hv1, hv2, hr2, hk2, hb2, hs2, hn2⟩ := appended_all (W := W.drew.alloc (.cells #[.int .u64 z, .int .u64 y] 24)) (hv.alloc _) (hS.alloc _) (hN.alloc _) (by omega) (by omega) (hrow.drew.alloc _) (by have := hB.size; simp; omega) (Nat.le_of_lt hw0) hown1 hgrow1
          have hb3 := (((Below.refl w.heap.size W).drew).alloc hB.size (.cells #[.int .u64 z, .int .u64 y] 24)).trans hb2
          have hk3 := (KeepsOthers.drew W).trans ((KeepsOthers.alloc _ _).trans hk2)
          have hcA := hv1.cell
          have hfA := hv1.frozen
          have far : ∀ q : Nat, w1.cell? ⟨b, q, none⟩ = W.cell? ⟨b, q, none⟩ := fun q => by
            have e1 := World.cell?_setCell_far w1 ⟨w0.heap.size, 0, none⟩ ⟨b, q, none⟩ (.slice (some ⟨g, 0, none⟩) (pre.length + 1) cap') (by simp; omega)
            have e2 := hb3.cell (p := ⟨b, q, none⟩) hbs
            exact e1.symm.trans e2
          refine hK.out _ _ ?hAc (fun _ => ?_)
          case hAc => exact ⟨(far _).trans hc1, (far _).trans hc2⟩
          clear hK K
          refine wpAnyH_ready (rs := [10]) (by kernel_rfl) (by simp) (AllReadyH.cons rfl (fun K hK => ?_) AllReadyH.nil)
          rw [if_pos (by rfl)]
          go_simp
          refine hK.out _ _ ?hBc (fun _ => ?_)
          case hBc => exact ⟨(hb3.cell (p := ⟨b, o + 2 * k, none⟩) hbs).trans hc1, (hb3.cell (p := ⟨b, o + 2 * k + 1, none⟩) hbs).trans hc2⟩
          refine wpAnyH_done (by kernel_rfl) ?_ _
          exact ⟨hk3.from _, ⟨hb3, hs2.trans hS.symm, hn2.trans hN.symm⟩, ⟨⟨_, hv2, by simpa [HL.out] using hr2, trivial⟩, hs2, hn2⟩, hB.trans hb3⟩
    · have hck : ckv b o zs.length k = .slice (some ⟨b, o + 2 * k, none⟩) 1 1 := if_neg hlt2
      have hla : levelAt zs k = zs[2 * k]?.getD 0 := if_neg hlt2
      simp only [hck]
      generalize zs[2 * k]?.getD 0 = z at hc1 hla
      have HL := Lib.hid hla
      clear hla hck hcs hbo
      gi_wp2
      refine wpIn_round_held (S := fun w' => w'.cell? ⟨b, o + 2 * k, none⟩ = some (.int .u64 z)) hF (by kernel_rfl) (by kernel_rfl) ?hlo ?hS (fun hHeld => ?_)
      case hlo =>
        rintro ⟨a', w', h⟩
        exact h
      case hS => exact hc1
      refine wpAnyH_take (i := 1) (v := .slice (some ⟨b, o + 2 * k, none⟩) 1 1) rfl (by kernel_rfl) (by kernel_rfl) (by kernel_rfl) (fun _ _ _ h => h) (Or.inl ⟨by rfl, fun w' hSw => ?hy1s⟩) hHeld ?_
      case hy1s => go_simp
      simp only [Act.put]
      refine wpAnyH_take (i := 2) (v := .pointer (some ⟨b, o + 2 * k, none⟩)) rfl (by kernel_rfl) (by kernel_rfl) (by kernel_rfl) (fun _ _ _ h => h) (Or.inl ⟨by rfl, fun w' hSw => ?hy2s⟩) hHeld ?_
      case hy2s => go_simp
      simp only [Act.put]
      refine wpAnyH_take (i := 3) (v := .int .u64 z) rfl (by kernel_rfl) (by kernel_rfl) (by kernel_rfl) (fun _ _ _ h => h) (Or.inl ⟨by rfl, fun w' hSw => ?hy3s⟩) hHeld ?_
      case hy3s => go_simp
      simp only [Act.put]
      have hrow9 : (W.drew.alloc (.cells #[.int .u64 z] 24)).ownsRow w.heap.size 24 1 v pre.length (pre.map fun x => Value.int .u64 (levelAt zs x.1)) := hrow.drew.alloc _
      refine wpAnyH_ready (rs := [0, 4]) (by kernel_rfl) (by simp) (AllReadyH.cons rfl (fun K hK => ?_) (AllReadyH.cons rfl (fun K hK => ?_) AllReadyH.nil))
      · go_simp
        refine hK.out _ _ hHeld (fun _ => ?_)
        clear hK K
        refine wpAnyH_ready (rs := [4]) (by kernel_rfl) (by simp) (AllReadyH.cons rfl (fun K hK => ?_) AllReadyH.nil)
        go_simp
        refine hK.out _ _ ?hAlloc1 (fun _ => ?_)
        case hAlloc1 => exact (World.cell?_alloc_lt _ _ _ (by have := hB.size; simp; omega)).trans hc1
        clear hK K
        refine wpAnyH_ready (rs := [5]) (by kernel_rfl) (by simp) (AllReadyH.cons rfl (fun K hK => ?_) AllReadyH.nil)
        rw [if_pos (by rfl)]
        refine wp_append_lies (w := _) (.tmp 15) (.tmp 19) 25 rfl w.heap.size 24 i0 (.int .u64 0) 1 8 Try.underlying25 hi hz0 hz1 hz2 rfl (by decide) v pre.length _ rfl hrow9 ⟨W.heap.size, 0, none⟩ 1 1 [.int .u64 z] rfl rfl (cell_one_new _ _ _) (by simp [Value.oneCell']) (by decide) (by unfold maxLen; omega) (by omega) (by have := hB.size; simp; omega) _ rfl ?_
        intro g cap' w1 hown1 hgrow1 _ _
        obtain ⟨hv1, hv2, hr2, hk2, hb2, hs2, hn2⟩ := appended_all (W := W.drew) hv hS hN (by omega) (by omega) hrow (by have := hB.size; simp; omega) (Nat.le_of_lt hw0) hown1 hgrow1
        have hb3 := ((Below.refl w.heap.size W).drew).trans hb2
        have hk3 := (KeepsOthers.drew W).trans hk2
        have hcA := hv1.cell
        have hfA := hv1.frozen
        have far : ∀ q : Nat, w1.cell? ⟨b, q, none⟩ = W.cell? ⟨b, q, none⟩ := fun q => by
          have e1 := World.cell?_setCell_far w1 ⟨w0.heap.size, 0, none⟩ ⟨b, q, none⟩ (.slice (some ⟨g, 0, none⟩) (pre.length + 1) cap') (by simp; omega)
          have e2 := hb2.cell (p := ⟨b, q, none⟩) hbs
          exact e1.symm.trans e2
        refine hK.out _ _ ?hA1 (fun _ => ?_)
        case hA1 => exact (far _).trans hc1
        clear hK K
        refine wpAnyH_ready (rs := [6]) (by kernel_rfl) (by simp) (AllReadyH.cons rfl (fun K hK => ?_) AllReadyH.nil)
        rw [if_pos (by rfl)]
        go_simp
        refine hK.out _ _ ?hB1 (fun _ => ?_)
        case hB1 => exact (hb2.cell (p := ⟨b, o + 2 * k, none⟩) hbs).trans hc1
        refine wpAnyH_done (by kernel_rfl) ?_ _
        exact ⟨hk3.from _, ⟨hb3, hs2.trans hS.symm, hn2.trans hN.symm⟩, ⟨⟨_, hv2, by simpa [HL.out] using hr2, trivial⟩, hs2, hn2⟩, hB.trans hb3⟩
      · go_simp
        refine hK.out _ _ ?hAlloc2 (fun _ => ?_)
        case hAlloc2 => exact (World.cell?_alloc_lt _ _ _ (by have := hB.size; simp; omega)).trans hc1
        clear hK K
        have hcx' : ((W.alloc (.cells #[.int .u64 z] 24)).drew).cell? ⟨w0.heap.size, 0, none⟩ = some v := (hv.alloc (.cells #[.int .u64 z] 24)).cell
        refine wpAnyH_ready (rs := [0]) (by kernel_rfl) (by simp) (AllReadyH.cons rfl (fun K hK => ?_) AllReadyH.nil)
        go_simp
        refine hK.out _ _ ?hAlloc3 (fun _ => ?_)
        case hAlloc3 => exact (World.cell?_alloc_lt _ _ _ (by have := hB.size; simp; omega)).trans hc1
        clear hK K
        refine wpAnyH_ready (rs := [5]) (by kernel_rfl) (by simp) (AllReadyH.cons rfl (fun K hK => ?_) AllReadyH.nil)
        rw [if_pos (by rfl)]
        refine wp_append_lies (w := _) (.tmp 15) (.tmp 19) 25 rfl w.heap.size 24 i0 (.int .u64 0) 1 8 Try.underlying25 hi hz0 hz1 hz2 rfl (by decide) v pre.length _ rfl hrow9 ⟨W.heap.size, 0, none⟩ 1 1 [.int .u64 z] rfl rfl (cell_one_new _ _ _) (by simp [Value.oneCell']) (by decide) (by unfold maxLen; omega) (by omega) (by have := hB.size; simp; omega) _ rfl ?_
        intro g cap' w1 hown1 hgrow1 _ _
        obtain ⟨hv1, hv2, hr2, hk2, hb2, hs2, hn2⟩ := appended_all (W := W.drew) hv hS hN (by omega) (by omega) hrow (by have := hB.size; simp; omega) (Nat.le_of_lt hw0) hown1 hgrow1
        have hb3 := ((Below.refl w.heap.size W).drew).trans hb2
        have hk3 := (KeepsOthers.drew W).trans hk2
        have hcA := hv1.cell
        have hfA := hv1.frozen
        have far : ∀ q : Nat, w1.cell? ⟨b, q, none⟩ = W.cell? ⟨b, q, none⟩ := fun q => by
          have e1 := World.cell?_setCell_far w1 ⟨w0.heap.size, 0, none⟩ ⟨b, q, none⟩ (.slice (some ⟨g, 0, none⟩) (pre.length + 1) cap') (by simp; omega)
          have e2 := hb2.cell (p := ⟨b, q, none⟩) hbs
          exact e1.symm.trans e2
        refine hK.out _ _ ?hA2 (fun _ => ?_)
        case hA2 => exact (far _).trans hc1
        clear hK K
        refine wpAnyH_ready (rs := [6]) (by kernel_rfl) (by simp) (AllReadyH.cons rfl (fun K hK => ?_) AllReadyH.nil)
        rw [if_pos (by rfl)]
        go_simp
        refine hK.out _ _ ?hB2 (fun _ => ?_)
        case hB2 => exact (hb2.cell (p := ⟨b, o + 2 * k, none⟩) hbs).trans hc1
        refine wpAnyH_done (by kernel_rfl) ?_ _
        exact ⟨hk3.from _, ⟨hb3, hs2.trans hS.symm, hn2.trans hN.symm⟩, ⟨⟨_, hv2, by simpa [HL.out] using hr2, trivial⟩, hs2, hn2⟩, hB.trans hb3⟩
  case done =>
    rintro D ys W hD hys ⟨⟨⟨v, hv, hrow, _⟩, _⟩, hB⟩ hK
    have hc := hv.cell
    gi_wp2
    refine ⟨by simp, .inl ⟨_, _, rfl, run_takeDeferred hK, ?_⟩⟩
    have e1 : ys.length = (levelI zs).length := by rw [isUpto_length hys, levelI_length]
    have e2 : (ys.map fun x => Value.int .u64 (levelAt zs x.1)) = (levelI zs).map (Value.int .u64) := by
      have := congrArg (List.map fun j => Value.int .u64 (levelAt zs j)) hys
      simpa [levelI, List.map_map, Function.comp_def] using this
    rw [e1, e2] at hrow
    exact ⟨_, results_tmp rfl _ _ _, v, rfl, ownsRow_putObj hrow _ hK rfl, hB.trans (belowK_b (w := w) (Nat.le_refl _) W D _ _ (by simp at hD; omega) hK rfl rfl)⟩
  case stop =>
    rintro D c pre W _ _ h _
    exact h.elim

theorem next_any (A : Option Addr) (zs : List Int) (cap : Nat) (w : World) (hlen : zs.length ≤ 17592186044416) (hcap : zs.length ≤ cap) (hA : Arr w A (zs.map (Value.int .u64))) :
    Calls Try.prog 31 #[.slice A zs.length cap] w (RetU w (levelI zs)) := by
  obtain ⟨b, o, hb⟩ : ∃ b o, zs ≠ [] → A = some ⟨b, o, none⟩ := by
    by_cases hz : zs = []
    · exact ⟨0, 0, fun h => absurd hz h⟩
    · obtain ⟨b, o, e, _⟩ := hA (by simpa using hz)
      exact ⟨b, o, fun _ => e⟩
  refine ((callsIn_wide (n := 3)).1 (next_in Fence.wide rfl trivial trivial trivial trivial rfl 3 (Nat.le_refl _) A zs cap w hlen hcap hA b o (Lib.hid hb))).mono ?_
  rintro e W' ⟨v, rfl, hrow, hB⟩
  obtain ⟨A', c', rfl, hc', _, hF, _⟩ := row_forms hrow
  exact ⟨A', c', rfl, hc', hF, hB⟩

end Dg
end Go.Proofs.Ytgjmhddekggilaa
