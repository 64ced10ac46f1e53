/- What With returns. -/
import Derived.Test.YtmdleoadodcljaaGM
namespace Go.Proofs.Ytmdleoadodcljaa
open Go.RowKit Sl Fr
namespace Gp
set_option linter.unusedVariables false

theorem news_keep {X X' : World} {b : Nat} {ns : List Value} (h : ∀ j u, ns[j]? = some u → X.cell? ((⟨b, 0, none⟩ : Addr).add j) = some u) (hlt : b < X.heap.size) (hb : Below X.heap.size X X') : ∀ j u, ns[j]? = some u → X'.cell? ((⟨b, 0, none⟩ : Addr).add j) = some u := fun j u hu => by
  rw [Addr.add_lit]
  have := h j u hu
  rw [Addr.add_lit] at this
  exact (hb.cell (p := ⟨b, 0 + j, none⟩) hlt).trans this
theorem news_grown {X X' : World} {b : Nat} {ns : List Value} {row : Option Nat} (h : ∀ j u, ns[j]? = some u → X.cell? ((⟨b, 0, none⟩ : Addr).add j) = some u) (hlt : b < X.heap.size) (hg : X.grownBy X' row) (hne : ¬ some b = row) : ∀ j u, ns[j]? = some u → X'.cell? ((⟨b, 0, none⟩ : Addr).add j) = some u := fun j u hu => by
  rw [Addr.add_lit]
  have := h j u hu
  rw [Addr.add_lit] at this
  exact (hg.cell_far ⟨b, 0 + j, none⟩ hlt hne).trans this
theorem with_fin {w W w9 : World} {n v u m g c : Nat} {es : Dgr.Edges} (hR : BoxL w9 (w.heap.size + 1) #[.int .i64 0, .slice none 0 0]) (hown : w9.ownsRow W.heap.size 48 2 (.slice (some ⟨g, 0, none⟩) (m + 1) c) (m + 1) (fl [] ++ fl es ++ [.int .i64 (v : Int), .int .i64 (u : Int)])) (hb9 : Below W.heap.size W w9) (hbW : Below w.heap.size w W) (ok : Dgr.Ok n es) (hn : n ≤ 12) (hl : es.length = m) (hv : v < n) (hu : u < n) (hm : m ≤ 39) (hWs : W.heap.size = w.heap.size + 1 + 1) :
    GiveGr w n (es ++ [(v, u)]) (.returned (.agg #[.int .i64 (n : Int), .slice (some ⟨g, 0, none⟩) (m + 1) c])) ((w9.setCell ⟨w.heap.size + 1, 0, none⟩ (.int .i64 (n : Int))).setCell ⟨w.heap.size + 1, 1, none⟩ (.slice (some ⟨g, 0, none⟩) (m + 1) c)) := by
  have h1 : w9.ownsRow W.heap.size 48 2 (.slice (some ⟨g, 0, none⟩) (m + 1) c) (m + 1) (fl (es ++ [(v, u)])) := by rw [fl_snoc]; simpa [fl, flat2, natE] using hown
  have h2 := ownsRow_setCell_below (ownsRow_setCell_below h1 (a := ⟨w.heap.size + 1, 0, none⟩) (by show w.heap.size + 1 < _; omega) (.int .i64 (n : Int))) (a := ⟨w.heap.size + 1, 1, none⟩) (by show w.heap.size + 1 < _; omega) (.slice (some ⟨g, 0, none⟩) (m + 1) c)
  obtain ⟨A9, c9, he9, hc9, hl9, hE9⟩ := own_edges h2
  cases he9
  refine ⟨some ⟨g, 0, none⟩, m + 1, c, rfl, ⟨ok_snoc ok hv hu, hn, hl9, hc9, by omega, hE9, fun h => absurd h (by simp)⟩, ?_⟩
  have hb := hbW.trans (hb9.mono (by omega))
  exact (hb.setCell (p := ⟨w.heap.size + 1, 0, none⟩) (by show _ ≤ w.heap.size + 1; omega) _).setCell (p := ⟨w.heap.size + 1, 1, none⟩) (by show _ ≤ w.heap.size + 1; omega) _

set_option maxRecDepth 100000 in
set_option maxHeartbeats 6400000 in
theorem with_any (n m d v u : Nat) (A : Option Addr) (es : Dgr.Edges) (w : World) (hG : IsG w n es A m d) (hv : v < n) (hu : u < n) (hm39 : m ≤ 39) :
    Calls Try.prog 23 #[.agg #[.int .i64 n, .slice A m d], .int .i64 v, .int .i64 u] w (GiveGr w n (es ++ [(v, u)])) := by
  have hn12 := hG.n12
  have hlen := hG.len
  have ok := hG.ok
  have hnil := hG.nil
  have hst := start2 w #[.int .i64 n, .slice A m d] #[.int .i64 0, .slice none 0 0] 31 31
  have hWs : ((w.alloc (.cells #[.int .i64 n, .slice A m d] 31)).alloc (.cells #[.int .i64 0, .slice none 0 0] 31)).heap.size = w.heap.size + 1 + 1 := by simp
  obtain ⟨i0, hi0, hz0, hz1, hz2⟩ := parts_of infoEdge
  go_enter Try.func23, Try.ntmps23
  go_upto_region 1 with fail
  generalize ((w.alloc (.cells #[.int .i64 n, .slice A m d] 31)).alloc (.cells #[.int .i64 0, .slice none 0 0] 31)) = W at *
  obtain ⟨hP, hR, hbW⟩ := hst
  have hE := hG.arr.keep hbW
  obtain ⟨a0, a1⟩ := hP.c2
  have hg0 : w.heap.size < W.heap.size := by omega
  have hB0 : Below W.heap.size W W.drew := (Below.refl _ W).drew
  clear hP hG
  refine wp_region_till (fun w' => w'.cell? ⟨w.heap.size, 0, none⟩ = some (.int .i64 (n : Int)) ∧ w'.cell? ⟨w.heap.size, 1, none⟩ = some (.slice A m d)) 12 (by kernel_rfl) ⟨a0, a1⟩ (fun hHeld => ?_)
  refine anyTill.reads (i := 0) rfl (by kernel_rfl) (by kernel_rfl) (by kernel_rfl) (by kernel_rfl) (fun _ _ _ h => h) (by rfl) (v := ?_) ?_ (by assumption) ?_
  rotate_left
  · intro wz hz; (try dsimp only at hz); go_split_ands; go_simp; try with_reducible rfl
  simp only [Act.put, List.setIfInBounds_toArray, List.set_cons_zero, List.set_cons_succ]
  refine anyTill.reads (i := 1) rfl (by kernel_rfl) (by kernel_rfl) (by kernel_rfl) (by kernel_rfl) (fun _ _ _ h => h) (by rfl) (v := ?_) ?_ (by assumption) ?_
  rotate_left
  · intro wz hz; (try dsimp only at hz); go_split_ands; go_simp; try with_reducible rfl
  simp only [Act.put, List.setIfInBounds_toArray, List.set_cons_zero, List.set_cons_succ]
  refine anyTill.reads (i := 3) rfl (by kernel_rfl) (by kernel_rfl) (by kernel_rfl) (by kernel_rfl) (fun _ _ _ h => h) (by rfl) (v := ?_) ?_ (by assumption) ?_
  rotate_left
  · intro wz hz; (try dsimp only at hz); go_split_ands; go_simp; try with_reducible rfl
  simp only [Act.put, List.setIfInBounds_toArray, List.set_cons_zero, List.set_cons_succ]
  refine anyTill.reads (i := 4) rfl (by kernel_rfl) (by kernel_rfl) (by kernel_rfl) (by kernel_rfl) (fun _ _ _ h => h) (by rfl) (v := ?_) ?_ (by assumption) ?_
  rotate_left
  · intro wz hz; (try dsimp only at hz); go_split_ands; go_simp; try with_reducible rfl
  simp only [Act.put, List.setIfInBounds_toArray, List.set_cons_zero, List.set_cons_succ]
  refine anyTill.reads (i := 6) rfl (by kernel_rfl) (by kernel_rfl) (by kernel_rfl) (by kernel_rfl) (fun _ _ _ h => h) (by rfl) (v := ?_) ?_ (by assumption) ?_
  rotate_left
  · intro wz hz; (try dsimp only at hz); go_split_ands; go_simp; try with_reducible rfl
  simp only [Act.put, List.setIfInBounds_toArray, List.set_cons_zero, List.set_cons_succ]
  refine anyTill.reads (i := 7) rfl (by kernel_rfl) (by kernel_rfl) (by kernel_rfl) (by kernel_rfl) (fun _ _ _ h => h) (by rfl) (v := ?_) ?_ (by assumption) ?_
  rotate_left
  · intro wz hz; (try dsimp only at hz); go_split_ands; go_simp; try with_reducible rfl
  simp only [Act.put, List.setIfInBounds_toArray, List.set_cons_zero, List.set_cons_succ]
  refine anyTill.reads (i := 8) rfl (by kernel_rfl) (by kernel_rfl) (by kernel_rfl) (by kernel_rfl) (fun _ _ _ h => h) (by rfl) (v := ?_) ?_ (by assumption) ?_
  rotate_left
  · intro wz hz; (try dsimp only at hz); go_split_ands; go_simp; try with_reducible rfl
  simp only [Act.put, List.setIfInBounds_toArray, List.set_cons_zero, List.set_cons_succ]
  refine anyTill.pair (i := 2) (j := 9) (by kernel_rfl) ?_ ?_
  · refine anyTill.step (i := 2) rfl (by rfl) (fun K hK => ?_)
    refine wp_build0 rfl W.heap.size hB0.size ?_
    intro b2 W2 hb2 hr2 he2 hl2
    have hB2 := hB0.trans (hb2.mono hB0.size)
    refine hK.out _ _ (fun _ => ?_) (fun hHeld0 => ?_)
    · exact ⟨(hB2.cell (p := ⟨w.heap.size, 0, none⟩) hg0).trans a0, (hB2.cell (p := ⟨w.heap.size, 1, none⟩) hg0).trans a1⟩
    have hHeld := hHeld0 (by decide)
    clear hHeld0
    clear hK K
    try simp only [Act.put, List.setIfInBounds_toArray, List.set_cons_zero, List.set_cons_succ]
    refine anyTill.pair (i := 5) (j := 9) (by kernel_rfl) ?_ ?_
    · refine anyTill.step (i := 5) rfl (by rfl) (fun K hK => ?_)
      refine wp_append_fl _ _ (by rfl) W.heap.size (by rfl) hr2 (by rfl) hlen (hE.keep hB2) hnil hB2.size (by omega) ?_
      intro v5 W5 hown5 hgrow5 hat5
      have hB5 := hB2.grown hgrow5 hB2.size (fun g2 hg2 => (hr2.lt g2 hg2).1)
      simp only [Nat.zero_add] at hown5
      refine hK.out _ _ (fun _ => ?_) (fun hHeld0 => ?_)
      · exact ⟨(hB5.cell (p := ⟨w.heap.size, 0, none⟩) hg0).trans a0, (hB5.cell (p := ⟨w.heap.size, 1, none⟩) hg0).trans a1⟩
      have hHeld := hHeld0 (by decide)
      clear hHeld0
      clear hK K
      try simp only [Act.put, List.setIfInBounds_toArray, List.set_cons_zero, List.set_cons_succ]
      refine anyTill.alone (i := 9) rfl (by kernel_rfl) (by rfl) (fun K hK => ?_)
      refine wp_build1 (p := (v : Int)) (q := (u : Int)) rfl (by rfl) ?_
      intro b9 W9 hb9 hn9 he9 hl9
      have hB9 := hB5.trans (hb9.mono hB5.size)
      have hown5k := row_keep hown5 hb9
      refine hK.out _ _ (fun _ => ?_) (fun hHeld0 => ?_)
      · exact ⟨(hB9.cell (p := ⟨w.heap.size, 0, none⟩) hg0).trans a0, (hB9.cell (p := ⟨w.heap.size, 1, none⟩) hg0).trans a1⟩
      have hHeld := hHeld0 (by decide)
      clear hHeld0
      clear hK K
      try simp only [Act.put, List.setIfInBounds_toArray, List.set_cons_zero, List.set_cons_succ]
      refine anyTill.alone (i := 10) rfl (by kernel_rfl) (by rfl) (fun K hK => ?_)
      refine wp_append_lies _ _ _ _ (by rfl) W.heap.size 48 i0 _ 2 16 Try.underlying25 hi0 hz0 hz1 hz2 rfl (by omega) v5 m (fl [] ++ fl es) (by rfl) hown5k ⟨b9, 0, none⟩ 1 1 [.int .i64 (v : Int), .int .i64 (u : Int)] (by rfl) (by rfl) hn9 (by simp [Value.oneCell']) (by omega) (by unfold maxLen; omega) (by omega) hB9.size _ rfl ?_
      intro g' cap' w9 hown9 hgrow9 hat9 hlt9
      have hb10 := hB9.grown hgrow9 hB9.size (fun g2 hg2 => (hown5k.lt g2 hg2).1)
      refine hK.out _ _ (fun _ => ?_) (fun hHeld0 => ?_)
      · exact ⟨(hb10.cell (p := ⟨w.heap.size, 0, none⟩) hg0).trans a0, (hb10.cell (p := ⟨w.heap.size, 1, none⟩) hg0).trans a1⟩
      have hHeld := hHeld0 (by decide)
      clear hHeld0
      clear hK K
      try simp only [Act.put, List.setIfInBounds_toArray, List.set_cons_zero, List.set_cons_succ]
      refine anyTill.alone (i := 11) rfl (by kernel_rfl) (by rfl) (fun K hK => ?_)
      go_simp
      refine hK.out _ _ (fun _ => ?_) (fun hHeld0 => ?_)
      · exact ⟨(hb10.cell (p := ⟨w.heap.size, 0, none⟩) hg0).trans a0, (hb10.cell (p := ⟨w.heap.size, 1, none⟩) hg0).trans a1⟩
      have hHeld := hHeld0 (by decide)
      clear hHeld0
      clear hK K
      try simp only [Act.put, List.setIfInBounds_toArray, List.set_cons_zero, List.set_cons_succ]
      have hR9 := hR.keep hb10
      obtain ⟨q0, q1⟩ := hR9.c2
      obtain ⟨q2, q3⟩ := hR9.f2
      refine anyTill.alone (i := 12) rfl (by kernel_rfl) (by rfl) (fun K hK => ?_)
      go_simp
      refine hK.out _ _ (fun h => absurd h (by decide)) (fun hHeld => ?_)
      clear hK K
      try simp only [Act.put, List.setIfInBounds_toArray, List.set_cons_zero, List.set_cons_succ]
      refine anyTill.done (by kernel_rfl) ?_ _
      have hfin := with_fin hR9 hown9 hb10 hbW ok hn12 hlen hv hu hm39 hWs
      obtain ⟨s0, s1⟩ := (hR9.s2 (.int .i64 (n : Int)) (.slice (some ⟨g', 0, none⟩) (m + 1) cap')).c2
      have HF := Lib.hid hfin
      clear hHeld q0 q1 q2 q3 hown9 hgrow9 hat9 hR9 hb10 hfin a0 a1
      go_wp2
      exact bodyPost_ret (v := .agg #[.int .i64 (n : Int), .slice (some ⟨g', 0, none⟩) (m + 1) cap']) (by simp [results, Try.results23, go_sem, s0, s1]) rfl HF.out
    · refine anyTill.step (i := 9) rfl (by rfl) (fun K hK => ?_)
      refine wp_build1 (p := (v : Int)) (q := (u : Int)) rfl (by rfl) ?_
      intro b9 W9 hb9 hn9 he9 hl9
      have hB9 := hB2.trans (hb9.mono hB2.size)
      have hr2k := row_keep hr2 hb9
      refine hK.out _ _ (fun _ => ?_) (fun hHeld0 => ?_)
      · exact ⟨(hB9.cell (p := ⟨w.heap.size, 0, none⟩) hg0).trans a0, (hB9.cell (p := ⟨w.heap.size, 1, none⟩) hg0).trans a1⟩
      have hHeld := hHeld0 (by decide)
      clear hHeld0
      clear hK K
      try simp only [Act.put, List.setIfInBounds_toArray, List.set_cons_zero, List.set_cons_succ]
      refine anyTill.alone (i := 5) rfl (by kernel_rfl) (by rfl) (fun K hK => ?_)
      refine wp_append_fl _ _ (by rfl) W.heap.size (by rfl) hr2k (by rfl) hlen (hE.keep hB9) hnil hB9.size (by omega) ?_
      intro v5 W5 hown5 hgrow5 hat5
      have hB5 := hB9.grown hgrow5 hB9.size (fun g2 hg2 => (hr2k.lt g2 hg2).1)
      simp only [Nat.zero_add] at hown5
      have hn9c := news_grown hn9 (by omega) hgrow5 (by intro e; have e2 : b9 = b2 := Option.some.inj e; omega)
      have hl9c := Nat.lt_of_lt_of_le (show b9 < _ by first | exact hl9 | exact Nat.lt_of_lt_of_le hl9 hb2.size) hgrow5.size
      refine hK.out _ _ (fun _ => ?_) (fun hHeld0 => ?_)
      · exact ⟨(hB5.cell (p := ⟨w.heap.size, 0, none⟩) hg0).trans a0, (hB5.cell (p := ⟨w.heap.size, 1, none⟩) hg0).trans a1⟩
      have hHeld := hHeld0 (by decide)
      clear hHeld0
      clear hK K
      try simp only [Act.put, List.setIfInBounds_toArray, List.set_cons_zero, List.set_cons_succ]
      refine anyTill.alone (i := 10) rfl (by kernel_rfl) (by rfl) (fun K hK => ?_)
      refine wp_append_lies _ _ _ _ (by rfl) W.heap.size 48 i0 _ 2 16 Try.underlying25 hi0 hz0 hz1 hz2 rfl (by omega) v5 m (fl [] ++ fl es) (by rfl) hown5 ⟨b9, 0, none⟩ 1 1 [.int .i64 (v : Int), .int .i64 (u : Int)] (by rfl) (by rfl) hn9c (by simp [Value.oneCell']) (by omega) (by unfold maxLen; omega) (by omega) hB5.size _ rfl ?_
      intro g' cap' w9 hown9 hgrow9 hat9 hlt9
      have hb10 := hB5.grown hgrow9 hB5.size (fun g2 hg2 => (hown5.lt g2 hg2).1)
      refine hK.out _ _ (fun _ => ?_) (fun hHeld0 => ?_)
      · exact ⟨(hb10.cell (p := ⟨w.heap.size, 0, none⟩) hg0).trans a0, (hb10.cell (p := ⟨w.heap.size, 1, none⟩) hg0).trans a1⟩
      have hHeld := hHeld0 (by decide)
      clear hHeld0
      clear hK K
      try simp only [Act.put, List.setIfInBounds_toArray, List.set_cons_zero, List.set_cons_succ]
      refine anyTill.alone (i := 11) rfl (by kernel_rfl) (by rfl) (fun K hK => ?_)
      go_simp
      refine hK.out _ _ (fun _ => ?_) (fun hHeld0 => ?_)
      · exact ⟨(hb10.cell (p := ⟨w.heap.size, 0, none⟩) hg0).trans a0, (hb10.cell (p := ⟨w.heap.size, 1, none⟩) hg0).trans a1⟩
      have hHeld := hHeld0 (by decide)
      clear hHeld0
      clear hK K
      try simp only [Act.put, List.setIfInBounds_toArray, List.set_cons_zero, List.set_cons_succ]
      have hR9 := hR.keep hb10
      obtain ⟨q0, q1⟩ := hR9.c2
      obtain ⟨q2, q3⟩ := hR9.f2
      refine anyTill.alone (i := 12) rfl (by kernel_rfl) (by rfl) (fun K hK => ?_)
      go_simp
      refine hK.out _ _ (fun h => absurd h (by decide)) (fun hHeld => ?_)
      clear hK K
      try simp only [Act.put, List.setIfInBounds_toArray, List.set_cons_zero, List.set_cons_succ]
      refine anyTill.done (by kernel_rfl) ?_ _
      have hfin := with_fin hR9 hown9 hb10 hbW ok hn12 hlen hv hu hm39 hWs
      obtain ⟨s0, s1⟩ := (hR9.s2 (.int .i64 (n : Int)) (.slice (some ⟨g', 0, none⟩) (m + 1) cap')).c2
      have HF := Lib.hid hfin
      clear hHeld q0 q1 q2 q3 hown9 hgrow9 hat9 hR9 hb10 hfin a0 a1
      go_wp2
      exact bodyPost_ret (v := .agg #[.int .i64 (n : Int), .slice (some ⟨g', 0, none⟩) (m + 1) cap']) (by simp [results, Try.results23, go_sem, s0, s1]) rfl HF.out
  · refine anyTill.step (i := 9) rfl (by rfl) (fun K hK => ?_)
    refine wp_build1 (p := (v : Int)) (q := (u : Int)) rfl (by rfl) ?_
    intro b9 W9 hb9 hn9 he9 hl9
    have hB9 := hB0.trans (hb9.mono hB0.size)
    refine hK.out _ _ (fun _ => ?_) (fun hHeld0 => ?_)
    · exact ⟨(hB9.cell (p := ⟨w.heap.size, 0, none⟩) hg0).trans a0, (hB9.cell (p := ⟨w.heap.size, 1, none⟩) hg0).trans a1⟩
    have hHeld := hHeld0 (by decide)
    clear hHeld0
    clear hK K
    try simp only [Act.put, List.setIfInBounds_toArray, List.set_cons_zero, List.set_cons_succ]
    refine anyTill.alone (i := 2) rfl (by kernel_rfl) (by rfl) (fun K hK => ?_)
    refine wp_build0 rfl W.heap.size hB9.size ?_
    intro b2 W2 hb2 hr2 he2 hl2
    have hB2 := hB9.trans (hb2.mono hB9.size)
    have hn9b := news_keep hn9 hl9 hb2
    refine hK.out _ _ (fun _ => ?_) (fun hHeld0 => ?_)
    · exact ⟨(hB2.cell (p := ⟨w.heap.size, 0, none⟩) hg0).trans a0, (hB2.cell (p := ⟨w.heap.size, 1, none⟩) hg0).trans a1⟩
    have hHeld := hHeld0 (by decide)
    clear hHeld0
    clear hK K
    try simp only [Act.put, List.setIfInBounds_toArray, List.set_cons_zero, List.set_cons_succ]
    refine anyTill.alone (i := 5) rfl (by kernel_rfl) (by rfl) (fun K hK => ?_)
    refine wp_append_fl _ _ (by rfl) W.heap.size (by rfl) hr2 (by rfl) hlen (hE.keep hB2) hnil hB2.size (by omega) ?_
    intro v5 W5 hown5 hgrow5 hat5
    have hB5 := hB2.grown hgrow5 hB2.size (fun g2 hg2 => (hr2.lt g2 hg2).1)
    simp only [Nat.zero_add] at hown5
    have hn9c := news_grown hn9b (by omega) hgrow5 (by intro e; have e2 : b9 = b2 := Option.some.inj e; omega)
    have hl9c := Nat.lt_of_lt_of_le (show b9 < _ by first | exact hl9 | exact Nat.lt_of_lt_of_le hl9 hb2.size) hgrow5.size
    refine hK.out _ _ (fun _ => ?_) (fun hHeld0 => ?_)
    · exact ⟨(hB5.cell (p := ⟨w.heap.size, 0, none⟩) hg0).trans a0, (hB5.cell (p := ⟨w.heap.size, 1, none⟩) hg0).trans a1⟩
    have hHeld := hHeld0 (by decide)
    clear hHeld0
    clear hK K
    try simp only [Act.put, List.setIfInBounds_toArray, List.set_cons_zero, List.set_cons_succ]
    refine anyTill.alone (i := 10) rfl (by kernel_rfl) (by rfl) (fun K hK => ?_)
    refine wp_append_lies _ _ _ _ (by rfl) W.heap.size 48 i0 _ 2 16 Try.underlying25 hi0 hz0 hz1 hz2 rfl (by omega) v5 m (fl [] ++ fl es) (by rfl) hown5 ⟨b9, 0, none⟩ 1 1 [.int .i64 (v : Int), .int .i64 (u : Int)] (by rfl) (by rfl) hn9c (by simp [Value.oneCell']) (by omega) (by unfold maxLen; omega) (by omega) hB5.size _ rfl ?_
    intro g' cap' w9 hown9 hgrow9 hat9 hlt9
    have hb10 := hB5.grown hgrow9 hB5.size (fun g2 hg2 => (hown5.lt g2 hg2).1)
    refine hK.out _ _ (fun _ => ?_) (fun hHeld0 => ?_)
    · exact ⟨(hb10.cell (p := ⟨w.heap.size, 0, none⟩) hg0).trans a0, (hb10.cell (p := ⟨w.heap.size, 1, none⟩) hg0).trans a1⟩
    have hHeld := hHeld0 (by decide)
    clear hHeld0
    clear hK K
    try simp only [Act.put, List.setIfInBounds_toArray, List.set_cons_zero, List.set_cons_succ]
    refine anyTill.alone (i := 11) rfl (by kernel_rfl) (by rfl) (fun K hK => ?_)
    go_simp
    refine hK.out _ _ (fun _ => ?_) (fun hHeld0 => ?_)
    · exact ⟨(hb10.cell (p := ⟨w.heap.size, 0, none⟩) hg0).trans a0, (hb10.cell (p := ⟨w.heap.size, 1, none⟩) hg0).trans a1⟩
    have hHeld := hHeld0 (by decide)
    clear hHeld0
    clear hK K
    try simp only [Act.put, List.setIfInBounds_toArray, List.set_cons_zero, List.set_cons_succ]
    have hR9 := hR.keep hb10
    obtain ⟨q0, q1⟩ := hR9.c2
    obtain ⟨q2, q3⟩ := hR9.f2
    refine anyTill.alone (i := 12) rfl (by kernel_rfl) (by rfl) (fun K hK => ?_)
    go_simp
    refine hK.out _ _ (fun h => absurd h (by decide)) (fun hHeld => ?_)
    clear hK K
    try simp only [Act.put, List.setIfInBounds_toArray, List.set_cons_zero, List.set_cons_succ]
    refine anyTill.done (by kernel_rfl) ?_ _
    have hfin := with_fin hR9 hown9 hb10 hbW ok hn12 hlen hv hu hm39 hWs
    obtain ⟨s0, s1⟩ := (hR9.s2 (.int .i64 (n : Int)) (.slice (some ⟨g', 0, none⟩) (m + 1) cap')).c2
    have HF := Lib.hid hfin
    clear hHeld q0 q1 q2 q3 hown9 hgrow9 hat9 hR9 hb10 hfin a0 a1
    go_wp2
    exact bodyPost_ret (v := .agg #[.int .i64 (n : Int), .slice (some ⟨g', 0, none⟩) (m + 1) cap']) (by simp [results, Try.results23, go_sem, s0, s1]) rfl HF.out

end Gp
end Go.Proofs.Ytmdleoadodcljaa
