/- What Reversed and With return. -/
import Derived.Test.YtmagfkpnlkhofaaGL
import Derived.Test.YtmagfkpnlkhofaaL9
namespace Go.Proofs.Ytmagfkpnlkhofaa
open Go.RowKit Sl Fr
namespace Gp
set_option linter.unusedVariables false

def GiveGr (W : World) (n : Nat) (es : Dgr.Edges) (e : Ending) (w' : World) : Prop := ∃ (A : Option Addr) (m c : Nat), e = .returned (.agg #[.int .i64 (n : Int), .slice A m c]) ∧ IsG w' n es A m c ∧ Below W.heap.size W w'
theorem rev_take {es : Dgr.Edges} {k u v : Nat} (h : es[k]? = some (u, v)) : Dgr.rev (es.take (k + 1)) = Dgr.rev (es.take k) ++ [(v, u)] := by rw [take_snoc h]; simp [Dgr.rev]
theorem rev_len (es : Dgr.Edges) : (Dgr.rev es).length = es.length := by simp [Dgr.rev]
def RevAt (n : Nat) (es : Dgr.Edges) (A : Option Addr) (d : Nat) (w : World) (g : Nat) (i : Value) (wr : World) : Prop :=
  ∃ (k : Nat) (B : Option Addr) (c : Nat), i = .int .i64 (k : Int) ∧ k ≤ es.length ∧ g = es.length - k ∧ wr.ownsRow (w.heap.size + 1 + 1 + 1) 55 2 (.slice B k c) k (fl (Dgr.rev (es.take k))) ∧
    BoxL wr (w.heap.size + 1 + 1) #[.int .i64 (n : Int), .slice B k c] ∧ BoxL wr (w.heap.size + 1) #[.int .i64 0, .slice none 0 0] ∧ BoxL wr w.heap.size #[.int .i64 (n : Int), .slice A es.length d] ∧ (k = 0 → B = none ∧ c = 0) ∧ Below w.heap.size w wr

set_option maxRecDepth 100000 in
set_option maxHeartbeats 3200000 in
theorem rev_any (n m d : Nat) (A : Option Addr) (es : Dgr.Edges) (w : World) (hG : IsG w n es A m d) :
    Calls Try.prog 33 #[.agg #[.int .i64 n, .slice A m d]] w (GiveGr w n (Dgr.rev es)) := by
  have hn := hG.n12
  have hbig := hG.big
  have hlen := hG.len
  subst hlen
  obtain ⟨b, o, hb⟩ := hG.arr.open
  have HB := Lib.hid hb
  have HO := Lib.hid hG.ok
  obtain ⟨i0, hi0, hz0, hz1, hz2⟩ := parts_of infoEdge
  have hst := start3 w #[.int .i64 n, .slice A es.length d] #[.int .i64 0, .slice none 0 0] #[.int .i64 n, .slice none 0 0] 31 31 31
  have HS : Hid (RevAt n es A d w es.length (.int .i64 ((0 : Nat) : Int)) (((w.alloc (.cells #[.int .i64 n, .slice A es.length d] 31)).alloc (.cells #[.int .i64 0, .slice none 0 0] 31)).alloc (.cells #[.int .i64 n, .slice none 0 0] 31))) := Lib.hid
    ⟨0, none, 0, rfl, Nat.zero_le _, rfl, World.ownsRow_nil _ _ _ _, hst.2.2.1, hst.2.1, hst.1, fun _ => ⟨rfl, rfl⟩, hst.2.2.2⟩
  clear hb hG hst
  go_enter Try.func33, Try.ntmps33
  go_wp2
  go_loopg [4] es.length (fun g i wr => RevAt n es A d w g i wr)
  case atStart => exact HS.out
  case round =>
    obtain ⟨k, B, c, rfl, hk, rfl, hrow, hM2, hM1, hM0, hnil, hbl⟩ := hrel
    clear HS
    have HROW := Lib.hid hrow
    have HNIL := Lib.hid hnil
    have hrl := hrow.lt
    have hbs := hbl.size
    have hM2lt := hM2.lt
    obtain ⟨a0, a1⟩ := hM0.c2
    obtain ⟨c0, c1⟩ := hM1.c2
    obtain ⟨f0, f1⟩ := hM1.f2
    obtain ⟨b0, b1⟩ := hM2.c2
    have HM2 := Lib.hid hM2
    have HM1 := Lib.hid hM1
    have HM0 := Lib.hid hM0
    clear hrow hnil hM2 hM1 hM0
    by_cases hlt : k < es.length
    · obtain ⟨⟨u, v⟩, huv⟩ := get_ex hlt
      obtain ⟨rfl, hblt, hc⟩ := HB.out (by intro h; subst h; simp at hlt)
      obtain ⟨hu, hv⟩ := hc k u v huv
      have hcu := (hbl.cell (p := ⟨b, o + k * 2, none⟩) hblt).trans hu
      have hcv := (hbl.cell (p := ⟨b, o + k * 2 + 1, none⟩) hblt).trans hv
      have hk1 : (0 : Int) ≤ (k : Int) := Int.natCast_nonneg _
      have hk2 : (k : Int) < (es.length : Int) := by omega
      have HE := Lib.hid huv
      clear hc hu hv huv HB
      go_upto_region 5 with fail
      refine wp_region_till (fun w' => w'.cell? ⟨w.heap.size + 1 + 1, 1, none⟩ = some (.slice B k c) ∧ w'.cell? ⟨w.heap.size, 1, none⟩ = some (.slice (some ⟨b, o, none⟩) es.length d) ∧ w'.cell? ⟨b, o + k * 2, none⟩ = some (.int .i64 (u : Int)) ∧ w'.cell? ⟨b, o + k * 2 + 1, none⟩ = some (.int .i64 (v : Int))) 17 (by kernel_rfl) ?_ (fun hHeld => ?_)
      · exact ⟨b1, a1, hcu, hcv⟩
      refine anyTill.reads (i := 0) rfl (by kernel_rfl) (by kernel_rfl) (by kernel_rfl) (by kernel_rfl) (fun _ _ _ h => h) (by rfl) (v := ?_) ?_ (by assumption) ?_
      rotate_left
      · intro wz hz; (try dsimp only at hz); go_split_ands; go_simp; try with_reducible rfl
      simp only [Act.put, List.setIfInBounds_toArray, List.set_cons_zero, List.set_cons_succ]
      refine anyTill.reads (i := 1) rfl (by kernel_rfl) (by kernel_rfl) (by kernel_rfl) (by kernel_rfl) (fun _ _ _ h => h) (by rfl) (v := ?_) ?_ (by assumption) ?_
      rotate_left
      · intro wz hz; (try dsimp only at hz); go_split_ands; go_simp; try with_reducible rfl
      simp only [Act.put, List.setIfInBounds_toArray, List.set_cons_zero, List.set_cons_succ]
      refine anyTill.reads (i := 2) rfl (by kernel_rfl) (by kernel_rfl) (by kernel_rfl) (by kernel_rfl) (fun _ _ _ h => h) (by rfl) (v := ?_) ?_ (by assumption) ?_
      rotate_left
      · intro wz hz; (try dsimp only at hz); go_split_ands; go_simp; try with_reducible rfl
      simp only [Act.put, List.setIfInBounds_toArray, List.set_cons_zero, List.set_cons_succ]
      refine anyTill.reads (i := 3) rfl (by kernel_rfl) (by kernel_rfl) (by kernel_rfl) (by kernel_rfl) (fun _ _ _ h => h) (by rfl) (v := ?_) ?_ (by assumption) ?_
      rotate_left
      · intro wz hz; (try dsimp only at hz); go_split_ands; go_simp; try with_reducible rfl
      simp only [Act.put, List.setIfInBounds_toArray, List.set_cons_zero, List.set_cons_succ]
      refine anyTill.reads (i := 4) rfl (by kernel_rfl) (by kernel_rfl) (by kernel_rfl) (by kernel_rfl) (fun _ _ _ h => h) (by rfl) (v := ?_) ?_ (by assumption) ?_
      rotate_left
      · intro wz hz; (try dsimp only at hz); go_split_ands; go_simp; try with_reducible rfl
      simp only [Act.put, List.setIfInBounds_toArray, List.set_cons_zero, List.set_cons_succ]
      refine anyTill.reads (i := 5) rfl (by kernel_rfl) (by kernel_rfl) (by kernel_rfl) (by kernel_rfl) (fun _ _ _ h => h) (by rfl) (v := ?_) ?_ (by assumption) ?_
      rotate_left
      · intro wz hz; (try dsimp only at hz); go_split_ands; go_simp; try with_reducible rfl
      simp only [Act.put, List.setIfInBounds_toArray, List.set_cons_zero, List.set_cons_succ]
      refine anyTill.reads (i := 6) rfl (by kernel_rfl) (by kernel_rfl) (by kernel_rfl) (by kernel_rfl) (fun _ _ _ h => h) (by rfl) (v := ?_) ?_ (by assumption) ?_
      rotate_left
      · intro wz hz; (try dsimp only at hz); go_split_ands; go_simp; try with_reducible rfl
      simp only [Act.put, List.setIfInBounds_toArray, List.set_cons_zero, List.set_cons_succ]
      refine anyTill.reads (i := 7) rfl (by kernel_rfl) (by kernel_rfl) (by kernel_rfl) (by kernel_rfl) (fun _ _ _ h => h) (by rfl) (v := ?_) ?_ (by assumption) ?_
      rotate_left
      · intro wz hz; (try dsimp only at hz); go_split_ands; go_simp; try with_reducible rfl
      simp only [Act.put, List.setIfInBounds_toArray, List.set_cons_zero, List.set_cons_succ]
      refine anyTill.reads (i := 8) rfl (by kernel_rfl) (by kernel_rfl) (by kernel_rfl) (by kernel_rfl) (fun _ _ _ h => h) (by rfl) (v := ?_) ?_ (by assumption) ?_
      rotate_left
      · intro wz hz; (try dsimp only at hz); go_split_ands; go_simp; try with_reducible rfl
      simp only [Act.put, List.setIfInBounds_toArray, List.set_cons_zero, List.set_cons_succ]
      refine anyTill.reads (i := 9) rfl (by kernel_rfl) (by kernel_rfl) (by kernel_rfl) (by kernel_rfl) (fun _ _ _ h => h) (by rfl) (v := ?_) ?_ (by assumption) ?_
      rotate_left
      · intro wz hz; (try dsimp only at hz); go_split_ands; go_simp; try with_reducible rfl
      simp only [Act.put, List.setIfInBounds_toArray, List.set_cons_zero, List.set_cons_succ]
      refine anyTill.reads (i := 10) rfl (by kernel_rfl) (by kernel_rfl) (by kernel_rfl) (by kernel_rfl) (fun _ _ _ h => h) (by rfl) (v := ?_) ?_ (by assumption) ?_
      rotate_left
      · intro wz hz; (try dsimp only at hz); go_split_ands; go_simp; try with_reducible rfl
      simp only [Act.put, List.setIfInBounds_toArray, List.set_cons_zero, List.set_cons_succ]
      refine anyTill.reads (i := 11) rfl (by kernel_rfl) (by kernel_rfl) (by kernel_rfl) (by kernel_rfl) (fun _ _ _ h => h) (by rfl) (v := ?_) ?_ (by assumption) ?_
      rotate_left
      · intro wz hz; (try dsimp only at hz); go_split_ands; go_simp; try with_reducible rfl
      simp only [Act.put, List.setIfInBounds_toArray, List.set_cons_zero, List.set_cons_succ]
      refine anyTill.reads (i := 12) rfl (by kernel_rfl) (by kernel_rfl) (by kernel_rfl) (by kernel_rfl) (fun _ _ _ h => h) (by rfl) (v := ?_) ?_ (by assumption) ?_
      rotate_left
      · intro wz hz; (try dsimp only at hz); go_split_ands; go_simp; try with_reducible rfl
      simp only [Act.put, List.setIfInBounds_toArray, List.set_cons_zero, List.set_cons_succ]
      refine anyTill.reads (i := 13) rfl (by kernel_rfl) (by kernel_rfl) (by kernel_rfl) (by kernel_rfl) (fun _ _ _ h => h) (by rfl) (v := ?_) ?_ (by assumption) ?_
      rotate_left
      · intro wz hz; (try dsimp only at hz); go_split_ands; go_simp; try with_reducible rfl
      simp only [Act.put, List.setIfInBounds_toArray, List.set_cons_zero, List.set_cons_succ]
      refine anyTill.reads (i := 14) rfl (by kernel_rfl) (by kernel_rfl) (by kernel_rfl) (by kernel_rfl) (fun _ _ _ h => h) (by rfl) (v := ?_) ?_ (by assumption) ?_
      rotate_left
      · intro wz hz; (try dsimp only at hz); go_split_ands; go_simp; try with_reducible rfl
      simp only [Act.put, List.setIfInBounds_toArray, List.set_cons_zero, List.set_cons_succ]
      refine anyTill.alone (i := 15) rfl (by kernel_rfl) (by rfl) (fun K hK => ?_)
      go_simp
      refine hK.out _ _ (fun _ => ?_) (fun hHeld0 => ?_)
      · (try dsimp only)
        simp [*, World.cell?_alloc_some]
      have hHeld := hHeld0 (by decide)
      clear hHeld0
      clear hK K
      try simp only [Act.put, List.setIfInBounds_toArray, List.set_cons_zero, List.set_cons_succ]
      refine anyTill.alone (i := 16) rfl (by kernel_rfl) (by rfl) (fun K hK => ?_)
      refine wp_append_lies _ _ _ _ (by rfl) (w.heap.size + 1 + 1 + 1) 55 i0 _ 2 16 Try.underlying25 hi0 hz0 hz1 hz2 rfl (by omega) (.slice B k c) k (fl (Dgr.rev (es.take k))) (by rfl) ((HROW.out.drew).alloc _) ⟨wr.heap.size, 0, none⟩ 1 1 [.int .i64 (v : Int), .int .i64 (u : Int)] (by rfl) (by rfl) (World.news_of_block (cs := #[.int .i64 (v : Int), .int .i64 (u : Int)]) (t := 55) (fr := (0, 0)) (heap_new_at' (w := wr.drew) (by simp))) (by simp [Value.oneCell']) (by omega) (by unfold maxLen; omega) (by omega) (by simp; omega) (wr.heap.size + 1) (by simp) ?_
      intro g' cap' w1 hown1 hgrow hat hlt1
      have hbA : Below wr.heap.size wr ((wr.drew).alloc (.cells #[.int .i64 (v : Int), .int .i64 (u : Int)] 55)) := ((Below.refl _ wr).drew).alloc (Nat.le_refl _) (.cells #[.int .i64 (v : Int), .int .i64 (u : Int)] 55)
      have hM2' := (HM2.out.keep hbA).grown hgrow (fun e => by have := hrl _ e.symm; omega)
      have hM1' := (HM1.out.keep hbA).grown hgrow (fun e => by have := hrl _ e.symm; omega)
      have hM0' := (HM0.out.keep hbA).grown hgrow (fun e => by have := hrl _ e.symm; omega)
      obtain ⟨z0, z1⟩ := hM2'.c2
      obtain ⟨y0, y1⟩ := hM2'.f2
      refine hK.out _ _ (fun _ => ?_) (fun hHeld0 => ?_)
      · refine ⟨z1, hM0'.c2.2, ?_, ?_⟩
        · exact (hgrow.cell_far ⟨b, o + k * 2, none⟩ (by show b < _; simp; omega) (fun e => by have := hrl _ e.symm; simp at this; omega)).trans ((hbA.cell (p := ⟨b, o + k * 2, none⟩) (by show b < _; omega)).trans hcu)
        · exact (hgrow.cell_far ⟨b, o + k * 2 + 1, none⟩ (by show b < _; simp; omega) (fun e => by have := hrl _ e.symm; simp at this; omega)).trans ((hbA.cell (p := ⟨b, o + k * 2 + 1, none⟩) (by show b < _; omega)).trans hcv)
      have hHeld := hHeld0 (by decide)
      clear hHeld0
      clear hK K
      try simp only [Act.put, List.setIfInBounds_toArray, List.set_cons_zero, List.set_cons_succ]
      refine anyTill.alone (i := 17) rfl (by kernel_rfl) (by rfl) (fun K hK => ?_)
      go_simp
      refine hK.out _ _ (fun h => absurd h (by decide)) (fun hHeld => ?_)
      clear hK K
      try simp only [Act.put, List.setIfInBounds_toArray, List.set_cons_zero, List.set_cons_succ]
      refine anyTill.alone (i := 18) rfl (by kernel_rfl) (by rfl) (fun K hK => ?_)
      go_simp
      refine hK.out _ _ (fun h => absurd h (by decide)) (fun hHeld => ?_)
      clear hK K
      try simp only [Act.put, List.setIfInBounds_toArray, List.set_cons_zero, List.set_cons_succ]
      refine anyTill.done (by kernel_rfl) ?_ _
      have HROW2 : Hid ((w1.setCell ⟨w.heap.size + 1 + 1, 1, none⟩ (.slice (some ⟨g', 0, none⟩) (k + 1) cap')).ownsRow (w.heap.size + 1 + 1 + 1) 55 2 (.slice (some ⟨g', 0, none⟩) (k + 1) cap') (k + 1) (fl (Dgr.rev (es.take (k + 1))))) := Lib.hid (by
        rw [rev_take HE.out, fl_snoc]; exact ownsRow_setCell_below hown1 (by show w.heap.size + 1 + 1 < _; omega) _)
      have hbz := Below.setCell ((hbl.trans (hbA.mono hbs)).grown hgrow (by simp; omega) (fun g2 hg2 => by have := hrl g2 hg2; omega)) (p := ⟨w.heap.size + 1 + 1, 1, none⟩) (by show _ ≤ w.heap.size + 1 + 1; omega) (.slice (some ⟨g', 0, none⟩) (k + 1) cap')
      have HM2' := Lib.hid hM2'
      have HM1' := Lib.hid hM1'
      have HM0' := Lib.hid hM0'
      clear hHeld z0 z1 y0 y1 hM2' hM1' hM0' hown1 hgrow hat
      go_wp2
      go_roundg (es.length - (k + 1))
      case measure => omega
      case rel => exact ⟨k + 1, some ⟨g', 0, none⟩, cap', by go_num, by omega, rfl, HROW2.out, box_set1 HM2'.out, HM1'.out.far1 (by omega) _ _, HM0'.out.far1 (by omega) _ _, fun h => absurd h (by omega), hbz⟩
    · go_wp2
      have hs := HM1.out.s2 (.int .i64 (n : Int)) (.slice B k c)
      obtain ⟨s0, s1⟩ := hs.c2
      have hkl : k = es.length := by omega
      have hrow := HROW.out
      rw [List.take_of_length_le (by omega)] at hrow
      have hrow2 := ownsRow_setCell_below (ownsRow_setCell_below hrow (a := ⟨w.heap.size + 1, 0, none⟩) (by show w.heap.size + 1 < _; omega) (.int .i64 (n : Int))) (a := ⟨w.heap.size + 1, 1, none⟩) (by show w.heap.size + 1 < _; omega) (.slice B k c)
      obtain ⟨A9, c9, he9, hc9, hl9, hE9⟩ := own_edges hrow2
      cases he9
      exact bodyPost_ret (v := .agg #[.int .i64 (n : Int), .slice B k c]) (by simp [results, Try.results33, go_sem, s0, s1]) rfl ⟨B, k, c, rfl, ⟨ok_rev HO.out, hn, hl9, hc9, by omega, hE9, fun h => HNIL.out (by rw [← hl9, h]; rfl)⟩, ((hbl.setCell (p := ⟨w.heap.size + 1, 0, none⟩) (by show _ ≤ w.heap.size + 1; omega) _).setCell (p := ⟨w.heap.size + 1, 1, none⟩) (by show _ ≤ w.heap.size + 1; omega) _)⟩

end Gp
end Go.Proofs.Ytmagfkpnlkhofaa
