/- What the reference's Root and PathIn return. -/
import Derived.Test.YtgjmhddekggilaaX1
import Derived.Test.YtgjmhddekggilaaX2
import Derived.Test.YtgjmhddekggilaaD4
namespace Go.Proofs.Ytgjmhddekggilaa
open Go.RowKit
namespace Dg

set_option maxHeartbeats 400000 in
theorem rroot_some (A : Option Addr) (zs : List Int) (cap : Nat) (w : World) (hne : 0 < zs.length) (hlen : zs.length ≤ 17592186044416) (hcap : zs.length ≤ cap) (hA : Arr w A (zs.map (Value.int .u64))) :
    Calls Try.prog 20 #[.slice A zs.length cap] w fun e w' => e = .returned (.int .u64 (rootT zs)) ∧ Below w.heap.size w w' := by
  have h0 : RootAt zs w (.slice A zs.length cap) w := ⟨zs, ⟨A, cap, rfl, hcap, hA⟩, by intro h; subst h; simp at hne, Nat.le_refl _, rfl, Below.refl _ _⟩
  clear hA
  have hc0 : ((zs.length : Int) == 0) = false := beq_eq_false_iff_ne.2 (by omega)
  go_enter Try.func20, Try.ntmps20
  go_wp2
  go_loopw [0] (fun v wr => RootAt zs w v wr) (fun v _ => lenOf v)
  case atStart => exact h0
  case round =>
    obtain ⟨l, hl, hl0, hle, hr, hb⟩ := hrel
    have HR := Lib.hid hr
    clear hr h0
    by_cases hlt : 1 < l.length
    · obtain ⟨A1, c1, rfl, hc1, hA1⟩ := hl
      go_wp2_with (go_at_call 32; refine (rlevel_any _ _ _ _ (by omega) hA1).mono ?_; rintro e w1 ⟨A2, c2, rfl, hc2, hF2, hb2⟩)
      go_roundw
      case rel => exact ⟨levelI l, ⟨A2, c2, rfl, hc2, hF2.arr⟩, by intro h; have := levelI_length l; rw [h] at this; simp at this; omega, by rw [levelI_length]; omega, by rw [← rootT_step l hlt]; exact HR.out, hb.trans (hb2.mono hb.size)⟩
      case measure => simp only [lenOf, levelI_length]; omega
    · obtain ⟨x, b, o, c, rfl, rfl, hc⟩ := hl.one hl0 hlt
      clear hl
      go_wp2
      go_ret
      exact ⟨ret_int (by rw [← HR.out, rootT_one _ (by simp)]; rfl), hb⟩

theorem rroot_nil (A : Option Addr) (cap : Nat) (w : World) :
    Calls Try.prog 20 #[.slice A 0 cap] w fun e w' => e = .returned (.int .u64 (wordsI [])) ∧ Below w.heap.size w w' := by
  go_enter Try.func20, Try.ntmps20
  go_wp2_with (go_at_call 12; refine (rwords_any _ [] 0 _ (by simp) (Arr.nil _ _)).mono ?_; rintro e w1 ⟨rfl, rfl⟩)
  go_ret
  exact ⟨rfl, (Below.refl _ _).alloc (Nat.le_refl _) _⟩

theorem rroot_any (A : Option Addr) (zs : List Int) (cap : Nat) (w : World) (hlen : zs.length ≤ 17592186044416) (hcap : zs.length ≤ cap) (hA : Arr w A (zs.map (Value.int .u64))) :
    Calls Try.prog 20 #[.slice A zs.length cap] w fun e w' => e = .returned (.int .u64 (rootI zs)) ∧ Below w.heap.size w w' := by
  unfold rootI
  by_cases h : zs = []
  · rw [if_pos h]
    subst h
    exact rroot_nil A cap w
  · rw [if_neg h]
    exact rroot_some A zs cap w (List.length_pos_iff.2 h) hlen hcap hA

theorem pathIn_no (A : Option Addr) (n c : Nat) (i : Int) (w : World) (h : i < 0 ∨ (n : Int) ≤ i) :
    Calls Try.prog 22 #[.slice A n c, .int .i64 i] w fun e w' => e = .returned (.agg #[.slice none 0 0, .int .i64 1]) ∧ Below w.heap.size w w' := by
  by_cases h0 : i < 0
  · go_enter Try.func22, Try.ntmps22
    go_wp2
    refine bodyPost_ret (v := .agg #[.slice none 0 0, .int .i64 1]) (by simp [results, Try.results22, go_sem]) rfl ⟨rfl, ?_⟩
    exact (Below.refl _ _).alloc (Nat.le_refl _) _
  · have h1 : (n : Int) ≤ i := by omega
    go_enter Try.func22, Try.ntmps22
    go_wp2
    refine bodyPost_ret (v := .agg #[.slice none 0 0, .int .i64 1]) (by simp [results, Try.results22, go_sem]) rfl ⟨rfl, ?_⟩
    exact (Below.refl _ _).alloc (Nat.le_refl _) _

theorem beside_odd (l : List Int) (k : Nat) (hk : k < l.length) (h : k % 2 = 1) : beside l k = [l[k - 1]?.getD 0] := by
  have e : partnerN k = k - 1 := by unfold partnerN; rw [if_neg (by omega)]
  unfold beside
  rw [e, if_pos (by omega)]
theorem beside_even (l : List Int) (k : Nat) (h : ¬ k % 2 = 1) (hk : k + 1 < l.length) : beside l k = [l[k + 1]?.getD 0] := by
  have e : partnerN k = k + 1 := by unfold partnerN; rw [if_pos (by omega)]
  unfold beside
  rw [e, if_pos hk]
theorem beside_none (l : List Int) (k : Nat) (h : ¬ k % 2 = 1) (hk : ¬ k + 1 < l.length) : beside l k = [] := by
  have e : partnerN k = k + 1 := by unfold partnerN; rw [if_pos (by omega)]
  unfold beside
  rw [e, if_neg hk]

set_option maxRecDepth 100000 in
set_option maxHeartbeats 2000000 in
theorem pathIn_yes (A : Option Addr) (zs : List Int) (cap : Nat) (j : Nat) (w : World) (hj : j < zs.length) (hlen : zs.length ≤ 17592186044416) (hcap : zs.length ≤ cap) (hA : Arr w A (zs.map (Value.int .u64))) :
    Calls Try.prog 22 #[.slice A zs.length cap, .int .i64 j] w (PathsRet zs j w) := by
  obtain ⟨i0, hi, hz0, hz1, hz2⟩ := info_parts info24
  obtain ⟨W0, hW0⟩ : ∃ W0, W0 = w.alloc (.cells #[.slice none 0 0, .int .i64 0] 42) := ⟨_, rfl⟩
  have hs0 : W0.heap.size = w.heap.size + 1 := by rw [hW0]; simp
  have HO := Lib.hid (World.ownsRow_lit (base := W0.heap.size) (e := 24) (size := 1) W0 #[] 0 (Nat.le_refl _) (by unfold maxLen; omega) rfl)
  have h0 : Hid (PathAt zs j W0 (.int .i64 j) (.slice (some ⟨w.heap.size + 1, 0, none⟩) 0 0) (.slice A zs.length cap) (W0.alloc (.cells #[] 24))) := by
    refine Lib.hid ⟨zs, j, [], rfl, hj, ⟨A, cap, rfl, hcap, ?_⟩, by rw [← hs0]; simpa using HO.out, by simp, by simp, (Below.refl _ W0).alloc (Nat.le_refl _) _⟩
    have hA0 : Arr W0 A (zs.map (Value.int .u64)) := by rw [hW0]; exact hA.alloc _
    exact (hA0.apart (X := some (w.heap.size + 1)) (fun g h => by cases h; omega)).keep ((Below.refl _ W0).alloc (Nat.le_refl _) _)
  have f0 : W0.cell? ⟨w.heap.size, 0, none⟩ = some (.slice none 0 0) := by rw [hW0]; exact World.cell?_alloc_at _ 42 _ 0 rfl
  have f1 : W0.cell? ⟨w.heap.size, 1, none⟩ = some (.int .i64 0) := by rw [hW0]; exact World.cell?_alloc_at _ 42 _ 1 rfl
  have g0 : W0.frozen? ⟨w.heap.size, 0, none⟩ = false := by rw [hW0]; simp
  have g1 : W0.frozen? ⟨w.heap.size, 1, none⟩ = false := by rw [hW0]; simp
  have hbw : Below w.heap.size w W0 := by rw [hW0]; exact (Below.refl _ w).alloc (Nat.le_refl _) _
  rw [hW0] at h0
  clear hA HO
  have hd0 : decide ((j : Int) < 0) = false := decide_eq_false (by omega)
  have hd1 : decide (zs.length ≤ j) = false := decide_eq_false (by omega)
  have HW := Lib.hid hW0
  clear hW0
  go_enter Try.func22, Try.ntmps22
  go_wp2
  go_loopw [0, 1, 5] (fun v i p wr => PathAt zs j W0 i p v wr) (fun v _ _ _ => lenOf v)
  case atStart => rw [HW.out]; exact h0.out
  case round =>
    obtain ⟨l, k, P, rfl, hk, ⟨A1, c1, rfl, hc1, hX⟩, hrow, hsum, hp, hb⟩ := hrel
    have HP := Lib.hid hp
    clear hp h0
    have hbs := hb.size
    by_cases hlt : 1 < l.length
    · have HS := Lib.hid (pathT_step l k hlt)
      obtain ⟨b, o, rfl, hbl, hcs⟩ := hX.arr.at_ (by intro h; subst h; simp at hlt)
      by_cases hodd : k % 2 = 1
      · have hk2 : (k : Int) % 2 = 1 := by omega
        have HB := Lib.hid (beside_odd l k hk hodd)
        have hcp := hcs (k - 1) (by omega)
        obtain ⟨m, rfl⟩ : ∃ m, k = m + 1 := ⟨k - 1, by omega⟩
        rw [Nat.add_sub_cancel] at hcp HB
        clear hcs
        generalize l[m]?.getD 0 = x at hcp HB
        go_wp2_with (first
          | (at_builtin; refine wpList_append_lies _ rfl _ _ 25 rfl W0.heap.size 24 i0 (.int .u64 0) 1 8 Try.underlying25 hi hz0 hz1 hz2 rfl (by decide) _ _ _ rfl (hrow.alloc _) ⟨wr.heap.size, 0, none⟩ 1 1 [.int .u64 x] rfl rfl (cell_one_new _ _ _) (by simp [Value.oneCell']) (by decide) (by unfold maxLen; omega) (by omega) (by simp; omega) _ rfl ?_; intro g cap' w1 hown1 hgrow1 hor1 hlt1)
          | (go_at_call 32; refine (rlevel_any _ _ _ _ (by omega) ((hX.keep ((Below.refl _ _).alloc (Nat.le_refl _) _)).grown hgrow1 (Y := some g) (by rcases hor1 with h | h; exact .inl h.symm; exact .inr (fun g' hg' => by cases hg'; omega))).arr).mono ?_; rintro e w2 ⟨A2, c2, rfl, hc2, hF2, hb2⟩))
        go_roundw
        case rel =>
          refine ⟨levelI l, (m + 1) / 2, P ++ [x], by go_num, by rw [levelI_length]; omega, ⟨A2, c2, rfl, hc2, hF2.apart (fun g' hg' => by cases hg'; exact hlt1)⟩, by simpa using row_below hown1 hb2, by simp [levelI_length]; omega, by rw [HP.out, HS.out, HB.out]; simp, ?_⟩
          exact ((hb.alloc hbs _).grown hgrow1 (by simp; omega) (fun g' hg' => ((row_forms hrow).choose_spec.choose_spec.2.2.2.2 g' hg').1)).trans (hb2.mono (by have := hgrow1.size; simp at this; omega))
        case measure => simp only [lenOf, levelI_length]; omega
      · have hk2 : ((k : Int) % 2 == 1) = false := beq_eq_false_iff_ne.2 (by omega)
        by_cases hnx : k + 1 < l.length
        · have HB := Lib.hid (beside_even l k hodd hnx)
          have hcp := hcs (k + 1) hnx
          clear hcs
          generalize l[k + 1]?.getD 0 = x at hcp HB
          go_wp2_with (first
            | (at_builtin; refine wpList_append_lies _ rfl _ _ 25 rfl W0.heap.size 24 i0 (.int .u64 0) 1 8 Try.underlying25 hi hz0 hz1 hz2 rfl (by decide) _ _ _ rfl (hrow.alloc _) ⟨wr.heap.size, 0, none⟩ 1 1 [.int .u64 x] rfl rfl (cell_one_new _ _ _) (by simp [Value.oneCell']) (by decide) (by unfold maxLen; omega) (by omega) (by simp; omega) _ rfl ?_; intro g cap' w1 hown1 hgrow1 hor1 hlt1)
            | (go_at_call 32; refine (rlevel_any _ _ _ _ (by omega) ((hX.keep ((Below.refl _ _).alloc (Nat.le_refl _) _)).grown hgrow1 (Y := some g) (by rcases hor1 with h | h; exact .inl h.symm; exact .inr (fun g' hg' => by cases hg'; omega))).arr).mono ?_; rintro e w2 ⟨A2, c2, rfl, hc2, hF2, hb2⟩))
          go_roundw
          case rel =>
            refine ⟨levelI l, k / 2, P ++ [x], by go_num, by rw [levelI_length]; omega, ⟨A2, c2, rfl, hc2, hF2.apart (fun g' hg' => by cases hg'; exact hlt1)⟩, by simpa using row_below hown1 hb2, by simp [levelI_length]; omega, by rw [HP.out, HS.out, HB.out]; simp, ?_⟩
            exact ((hb.alloc hbs _).grown hgrow1 (by simp; omega) (fun g' hg' => ((row_forms hrow).choose_spec.choose_spec.2.2.2.2 g' hg').1)).trans (hb2.mono (by have := hgrow1.size; simp at this; omega))
          case measure => simp only [lenOf, levelI_length]; omega
        · have HB := Lib.hid (beside_none l k hodd hnx)
          clear hcs
          go_wp2_with (go_at_call 32; refine (rlevel_any _ _ _ _ (by omega) hX.arr).mono ?_; rintro e w2 ⟨A2, c2, rfl, hc2, hF2, hb2⟩)
          go_roundw
          case rel =>
            exact ⟨levelI l, k / 2, P, by go_num, by rw [levelI_length]; omega, ⟨A2, c2, rfl, hc2, hF2.apart (fun g' hg' => ((row_forms hrow).choose_spec.choose_spec.2.2.2.2 g' hg').2)⟩, row_below hrow hb2, by rw [levelI_length]; omega, by rw [HP.out, HS.out, HB.out]; rfl, hb.trans (hb2.mono hbs)⟩
          case measure => simp only [lenOf, levelI_length]; omega
    · obtain ⟨A', c', rfl, hc', _, hF', _⟩ := row_forms hrow
      have hlt0 : w.heap.size < W0.heap.size := by omega
      have h0 := (hb.cell (p := ⟨w.heap.size, 0, none⟩) hlt0).trans f0
      have h1 := (hb.cell (p := ⟨w.heap.size, 1, none⟩) hlt0).trans f1
      have h2 := (hb.frozen (p := ⟨w.heap.size, 0, none⟩) hlt0).trans g0
      have h3 := (hb.frozen (p := ⟨w.heap.size, 1, none⟩) hlt0).trans g1
      clear hX hrow f0 f1 g0 g1
      go_wp2
      have e : pathT zs j = P := by rw [HP.out, pathT_one _ _ (by omega), List.append_nil]
      unfold PathsRet
      rw [e]
      refine bodyPost_ret (v := .agg #[.slice A' P.length c', .int .i64 0]) (by simp [results, Try.results22, go_sem, h0, h1]) rfl ⟨A', c', rfl, hc', ?_, ?_⟩
      · exact ((hF'.set (p := ⟨w.heap.size, 0, none⟩) hlt0 _).set (p := ⟨w.heap.size, 1, none⟩) hlt0 _).mono (by omega)
      · exact ((hbw.trans (hb.mono (by omega))).setCell (p := ⟨w.heap.size, 0, none⟩) (Nat.le_refl _) _).setCell (p := ⟨w.heap.size, 1, none⟩) (Nat.le_refl _) _

end Dg
end Go.Proofs.Ytgjmhddekggilaa
