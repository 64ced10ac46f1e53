/- What successors and predecessors return. -/
import Derived.Test.YtmdleoadodcljaaG2
import Derived.Test.YtmdleoadodcljaaL9
namespace Go.Proofs.Ytmdleoadodcljaa
open Go.RowKit Sl Fr
namespace Gp
set_option linter.unusedVariables false

def rowStep (rows : List (List Nat)) (u v : Nat) : List (List Nat) := rows.set u ((rows[u]?.getD []) ++ [v])
def sucL (n : Nat) (es : Dgr.Edges) : List (List Nat) := es.foldl (fun rows e => rowStep rows e.1 e.2) (List.replicate n [])
theorem sucL_snoc (n : Nat) (es : Dgr.Edges) (e : Nat × Nat) : sucL n (es ++ [e]) = rowStep (sucL n es) e.1 e.2 := by simp [sucL]
theorem foldl_rowStep_length (es : Dgr.Edges) : ∀ rows : List (List Nat), (es.foldl (fun rows e => rowStep rows e.1 e.2) rows).length = rows.length := by
  induction es with
  | nil => intro rows; rfl
  | cons e es ih => intro rows; rw [List.foldl_cons, ih]; simp [rowStep]
theorem sucL_length (n : Nat) (es : Dgr.Edges) : (sucL n es).length = n := by rw [sucL, foldl_rowStep_length]; simp
/-- The node w stands in the row of u exactly if an edge leads from u to w. -/
structure Adj (n : Nat) (es : Dgr.Edges) (rows : List (List Nat)) : Prop where
  len : rows.length = n
  mem : ∀ u, u < n → ∃ l, rows[u]? = some l ∧ (∀ w, w ∈ l ↔ (u, w) ∈ es) ∧ l.length ≤ es.length
theorem Adj.snoc {n : Nat} {es : Dgr.Edges} {rows : List (List Nat)} (h : Adj n es rows) {a b : Nat} (ha : a < n) : Adj n (es ++ [(a, b)]) (rowStep rows a b) := by
  refine ⟨by simp [rowStep, h.len], fun u hu => ?_⟩
  obtain ⟨l, h1, h2, h3⟩ := h.mem u hu
  by_cases hua : u = a
  · subst hua
    refine ⟨l ++ [b], by rw [rowStep, h1]; simp [h.len, hu], fun w => by simp [h2], by simp; omega⟩
  · refine ⟨l, by rw [rowStep, List.getElem?_set_ne (Ne.symm hua), h1], fun w => by simp [h2, hua], by simp; omega⟩
theorem adj_nil (n : Nat) : Adj n [] (List.replicate n []) := ⟨by simp, fun u hu => ⟨[], by simp [hu], by simp, by simp⟩⟩
theorem sucL_adj {n : Nat} : ∀ {es : Dgr.Edges}, Dgr.Ok n es → Adj n es (sucL n es) := by
  intro es
  generalize hr : es.reverse = r
  induction r generalizing es with
  | nil =>
    intro _
    obtain rfl : es = [] := by simpa using hr
    exact adj_nil n
  | cons e r ih =>
    intro ok
    obtain rfl : es = r.reverse ++ [e] := by rw [← List.reverse_reverse es, hr]; simp
    have := ih (es := r.reverse) (by simp) (fun x hx => ok x (by simp at *; exact .inl hx))
    rw [sucL_snoc]
    exact this.snoc (ok e (by simp)).1

def preL (n : Nat) (es : Dgr.Edges) : List (List Nat) := sucL n (Dgr.rev es)
theorem preL_snoc (n : Nat) (es : Dgr.Edges) (e : Nat × Nat) : preL n (es ++ [e]) = rowStep (preL n es) e.2 e.1 := by
  unfold preL
  rw [show Dgr.rev (es ++ [e]) = Dgr.rev es ++ [(e.2, e.1)] by simp [Dgr.rev], sucL_snoc]
theorem preL_length (n : Nat) (es : Dgr.Edges) : (preL n es).length = n := sucL_length _ _
theorem ok_rev {n : Nat} {es : Dgr.Edges} (ok : Dgr.Ok n es) : Dgr.Ok n (Dgr.rev es) := fun e he => by
  obtain ⟨a, b⟩ := e
  have := ok _ (Dgr.mem_rev.1 he)
  exact ⟨this.2, this.1⟩
theorem preL_adj {n : Nat} {es : Dgr.Edges} (ok : Dgr.Ok n es) : Adj n (Dgr.rev es) (preL n es) := sucL_adj (ok_rev ok)

set_option maxRecDepth 100000 in
set_option maxHeartbeats 3200000 in
theorem suc_any (n : Nat) (A : Option Addr) (es : Dgr.Edges) (c : Nat) (w : World) (hA : EdgesA w A es) (ok : Dgr.Ok n es) (hn : n ≤ 200) (hl : es.length ≤ 2000) :
    Calls Try.prog 34 #[.int .i64 n, .slice A es.length c] w (GiveR w (sucL n es)) := by
  obtain ⟨b, o, hb⟩ := hA.open
  have HB := Lib.hid hb
  have HO := Lib.hid ok
  clear hb hA ok
  obtain ⟨i0, hi0, hz0, hz1, hz2⟩ := parts_of infoInt
  have hmk := run_make_row' (P := Try.prog) 44 26 (.slice none 0 0) 24 Try.underlying44 infoRow rfl .i64 .i64 n (by omega) (by omega)
  have HS : Hid (Nest (w.alloc (.cells (madeCells #[.slice none 0 0] n) 26)) w.heap.size (w.heap.size + 1) (fun _ => .slice none 0 0) (sucL n (es.take 0))) := Lib.hid (Nest.start w n _ _ (by omega))
  go_enter Try.func34, Try.ntmps34
  go_wp2
  go_loopg [12] es.length (fun g i wr => ∃ (k : Nat) (hs : Nat → Value), k ≤ es.length ∧ i = .int .i64 k ∧ g = es.length - k ∧ Nest wr w.heap.size (w.heap.size + 1) hs (sucL n (es.take k)) ∧ Below w.heap.size w wr)
  case atStart => exact ⟨0, _, Nat.zero_le _, rfl, rfl, HS.out, (Below.refl _ _).alloc (Nat.le_refl _) _⟩
  case round =>
    obtain ⟨k, hs, hk, rfl, rfl, hnest, hbl⟩ := hrel
    clear HS hmk
    have HN := Lib.hid hnest
    clear hnest
    by_cases hlt : k < es.length
    · obtain ⟨⟨u, v⟩, huv⟩ := get_ex hlt
      obtain ⟨rfl, hbs, hc⟩ := HB.out (by intro h; subst h; simp at hlt)
      obtain ⟨hu, hv⟩ := hc k u v huv
      have hcu := (hbl.cell (p := ⟨b, o + k * 2, none⟩) hbs).trans hu
      have hcv := (hbl.cell (p := ⟨b, o + k * 2 + 1, none⟩) hbs).trans hv
      obtain ⟨hun, hvn⟩ := HO.out _ (List.mem_of_getElem? huv)
      simp only at hun hvn
      have HE := Lib.hid huv
      clear hc hu hv huv HB
      have hbs' := hbl.size
      have hNlt := HN.out.box.lt
      have hlen : (sucL n (es.take k)).length = n := sucL_length _ _
      have hcell := HN.out.box.cell u (by omega)
      obtain ⟨l, hl1, hl3⟩ : ∃ l, (sucL n (es.take k))[u]? = some l ∧ l.length ≤ (es.take k).length := by
        obtain ⟨l, h1, _, h3⟩ := (sucL_adj (n := n) (es := es.take k) (fun x hx => HO.out x (List.mem_of_mem_take hx))).mem u hun
        exact ⟨l, h1, by simpa [Dgr.rev] using h3⟩
      have HL := Lib.hid hl1
      have hl4 : l.length ≤ 2000 := by simp at hl3; omega
      have hrow := HN.out.row u l hl1
      have HR := Lib.hid hrow
      have hfar : some w.heap.size ≠ (hs u).ownBlock := fun e => by have := hrow.lt _ e.symm; omega
      have hfar2 : some wr.heap.size ≠ (hs u).ownBlock := fun e => by have := hrow.lt _ e.symm; omega
      have hE : wr.heap.size ≠ w.heap.size := by omega
      have hi1 : (0 : Int) ≤ (u : Int) := Int.natCast_nonneg _
      have hi2 : (u : Int) < (n : Int) := by omega
      clear hl1 hl3 hrow
      have hmark := HN.out.box.mark u (by omega)
      generalize hh : hs u = h0 at hcell hfar hfar2 HR
      have HH := Lib.hid hh
      clear hh
      go_upto_region 5 with fail
      refine wp_region_till (fun w' => w'.cell? ⟨wr.heap.size, 0, none⟩ = some (.int .i64 (u : Int)) ∧ w'.cell? ⟨wr.heap.size, 1, none⟩ = some (.int .i64 (v : Int)) ∧ w'.cell? ⟨w.heap.size, u, none⟩ = some h0) 12 (by kernel_rfl) ?_ (fun hHeld => ?_)
      · (try dsimp only)
        simp [*, World.cell?_alloc_some]
      refine anyTill.reads (i := 0) rfl (by kernel_rfl) (by kernel_rfl) (by kernel_rfl) (by kernel_rfl) (fun _ _ _ h => h) (by rfl) (v := ?_) ?_ (by assumption) ?_
      rotate_left
      · intro wz hz; (try dsimp only at hz); go_split_ands; go_simp; try with_reducible rfl
      simp only [Act.put, List.setIfInBounds_toArray, List.set_cons_zero, List.set_cons_succ]
      refine anyTill.reads (i := 1) rfl (by kernel_rfl) (by kernel_rfl) (by kernel_rfl) (by kernel_rfl) (fun _ _ _ h => h) (by rfl) (v := ?_) ?_ (by assumption) ?_
      rotate_left
      · intro wz hz; (try dsimp only at hz); go_split_ands; go_simp; try with_reducible rfl
      simp only [Act.put, List.setIfInBounds_toArray, List.set_cons_zero, List.set_cons_succ]
      refine anyTill.reads (i := 2) rfl (by kernel_rfl) (by kernel_rfl) (by kernel_rfl) (by kernel_rfl) (fun _ _ _ h => h) (by rfl) (v := ?_) ?_ (by assumption) ?_
      rotate_left
      · intro wz hz; (try dsimp only at hz); go_split_ands; go_simp; try with_reducible rfl
      simp only [Act.put, List.setIfInBounds_toArray, List.set_cons_zero, List.set_cons_succ]
      refine anyTill.reads (i := 3) rfl (by kernel_rfl) (by kernel_rfl) (by kernel_rfl) (by kernel_rfl) (fun _ _ _ h => h) (by rfl) (v := ?_) ?_ (by assumption) ?_
      rotate_left
      · intro wz hz; (try dsimp only at hz); go_split_ands; go_simp; try with_reducible rfl
      simp only [Act.put, List.setIfInBounds_toArray, List.set_cons_zero, List.set_cons_succ]
      refine anyTill.reads (i := 4) rfl (by kernel_rfl) (by kernel_rfl) (by kernel_rfl) (by kernel_rfl) (fun _ _ _ h => h) (by rfl) (v := ?_) ?_ (by assumption) ?_
      rotate_left
      · intro wz hz; (try dsimp only at hz); go_split_ands; go_simp; try with_reducible rfl
      simp only [Act.put, List.setIfInBounds_toArray, List.set_cons_zero, List.set_cons_succ]
      refine anyTill.reads (i := 5) rfl (by kernel_rfl) (by kernel_rfl) (by kernel_rfl) (by kernel_rfl) (fun _ _ _ h => h) (by rfl) (v := ?_) ?_ (by assumption) ?_
      rotate_left
      · intro wz hz; (try dsimp only at hz); go_split_ands; go_simp; try with_reducible rfl
      simp only [Act.put, List.setIfInBounds_toArray, List.set_cons_zero, List.set_cons_succ]
      refine anyTill.reads (i := 6) rfl (by kernel_rfl) (by kernel_rfl) (by kernel_rfl) (by kernel_rfl) (fun _ _ _ h => h) (by rfl) (v := ?_) ?_ (by assumption) ?_
      rotate_left
      · intro wz hz; (try dsimp only at hz); go_split_ands; go_simp; try with_reducible rfl
      simp only [Act.put, List.setIfInBounds_toArray, List.set_cons_zero, List.set_cons_succ]
      refine anyTill.reads (i := 7) rfl (by kernel_rfl) (by kernel_rfl) (by kernel_rfl) (by kernel_rfl) (fun _ _ _ h => h) (by rfl) (v := ?_) ?_ (by assumption) ?_
      rotate_left
      · intro wz hz; (try dsimp only at hz); go_split_ands; go_simp; try with_reducible rfl
      simp only [Act.put, List.setIfInBounds_toArray, List.set_cons_zero, List.set_cons_succ]
      refine anyTill.reads (i := 8) rfl (by kernel_rfl) (by kernel_rfl) (by kernel_rfl) (by kernel_rfl) (fun _ _ _ h => h) (by rfl) (v := ?_) ?_ (by assumption) ?_
      rotate_left
      · intro wz hz; (try dsimp only at hz); go_split_ands; go_simp; try with_reducible rfl
      simp only [Act.put, List.setIfInBounds_toArray, List.set_cons_zero, List.set_cons_succ]
      refine anyTill.reads (i := 9) rfl (by kernel_rfl) (by kernel_rfl) (by kernel_rfl) (by kernel_rfl) (fun _ _ _ h => h) (by rfl) (v := ?_) ?_ (by assumption) ?_
      rotate_left
      · intro wz hz; (try dsimp only at hz); go_split_ands; go_simp; try with_reducible rfl
      simp only [Act.put, List.setIfInBounds_toArray, List.set_cons_zero, List.set_cons_succ]
      refine anyTill.alone (i := 10) rfl (by kernel_rfl) (by rfl) (fun K hK => ?_)
      go_simp
      refine hK.out _ _ (fun _ => ?_) (fun hHeld0 => ?_)
      · (try dsimp only)
        simp [*, World.cell?_alloc_some]
      have hHeld := hHeld0 (by decide)
      clear hHeld0
      clear hK K
      try simp only [Act.put, List.setIfInBounds_toArray, List.set_cons_zero, List.set_cons_succ]
      refine anyTill.alone (i := 11) rfl (by kernel_rfl) (by rfl) (fun K hK => ?_)
      refine wp_append_lies _ _ _ _ (by rfl) (w.heap.size + 1) 3 i0 _ 1 8 Try.underlying26 hi0 hz0 hz1 hz2 rfl (by omega) h0 l.length (nv l) (by rfl) (((HR.out.alloc _).drew).alloc _) ⟨wr.heap.size + 1, 0, none⟩ 1 1 [.int .i64 (v : Int)] (by rfl) (by rfl) (World.news_of_block (cs := #[.int .i64 (v : Int)]) (t := 3) (fr := (0, 0)) (heap_new_at' (w := (wr.alloc _).drew) (by simp))) (by simp [Value.oneCell']) (by omega) (by unfold maxLen; omega) (by omega) (by simp; omega) (wr.heap.size + 1 + 1) (by simp) ?_
      intro g cap' w1 hown1 hgrow hat hlt1
      have hc1 : w1.cell? ⟨w.heap.size, u, none⟩ = some h0 := (hgrow.cell_far ⟨w.heap.size, u, none⟩ (by simp; omega) hfar).trans (by simp [hcell, World.cell?_alloc_some])
      have hm1 : w1.frozen? ⟨w.heap.size, u, none⟩ = false := (hgrow.frozen_far ⟨w.heap.size, u, none⟩ (by simp; omega) hfar).trans (by simp [hmark, frozen?_alloc_cells])
      refine hK.out _ _ (fun _ => ?_) (fun hHeld0 => ?_)
      · refine ⟨?_, ?_, hc1⟩
        · exact (hgrow.cell_far _ (by simp; omega) hfar2).trans (by simp [World.cell?_alloc_some])
        · exact (hgrow.cell_far _ (by simp; omega) hfar2).trans (by simp [World.cell?_alloc_some])
      have hHeld := hHeld0 (by decide)
      clear hHeld0
      clear hK K
      try simp only [Act.put, List.setIfInBounds_toArray, List.set_cons_zero, List.set_cons_succ]
      refine anyTill.alone (i := 12) rfl (by kernel_rfl) (by rfl) (fun K hK => ?_)
      go_simp
      refine hK.out _ _ (fun h => absurd h (by decide)) (fun hHeld => ?_)
      clear hK K
      try simp only [Act.put, List.setIfInBounds_toArray, List.set_cons_zero, List.set_cons_succ]
      refine anyTill.alone (i := 13) rfl (by kernel_rfl) (by rfl) (fun K hK => ?_)
      go_simp
      refine hK.out _ _ (fun h => absurd h (by decide)) (fun hHeld => ?_)
      clear hK K
      try simp only [Act.put, List.setIfInBounds_toArray, List.set_cons_zero, List.set_cons_succ]
      refine anyTill.done (by kernel_rfl) ?_ _
      have HN2 : Hid (Nest (w1.setCell ⟨w.heap.size, u, none⟩ (.slice (some ⟨g, 0, none⟩) (l.length + 1) cap')) w.heap.size (w.heap.size + 1) (up hs u (.slice (some ⟨g, 0, none⟩) (l.length + 1) cap')) (sucL n (es.take (k + 1)))) := by
        have hb0 : Below wr.heap.size wr (((wr.alloc (.cells #[.int .i64 (u : Int), .int .i64 (v : Int)] 48)).drew).alloc (.cells #[.int .i64 (v : Int)] 3)) := (((Below.refl _ wr).alloc (Nat.le_refl _) _).drew).alloc (by simp) _
        have := (HN.out.keep hb0).append HL.out hown1 (by rw [HH.out]; exact hgrow) (by rw [HH.out]; exact hat.imp id (fun h => by simp; omega)) hlt1
        rw [take_snoc HE.out, sucL_snoc]
        simp only [rowStep, HL.out, Option.getD_some]
        exact this
      have hb2 : Below w.heap.size w (w1.setCell ⟨w.heap.size, u, none⟩ (.slice (some ⟨g, 0, none⟩) (l.length + 1) cap')) :=
        Below.setCell ((((hbl.alloc hbs' _).drew).alloc (by simp; omega) _).grown hgrow (by simp; omega) (fun g' hg' => by have := HR.out.lt g' hg'; omega)) (p := ⟨w.heap.size, u, none⟩) (Nat.le_refl _) _
      clear hc1 hm1 hHeld hcell hmark
      go_wp2
      go_roundg (es.length - (k + 1))
      case measure => omega
      case rel => exact ⟨k + 1, _, by omega, by go_num, rfl, HN2.out, hb2⟩
    · go_wp2
      go_ret
      have hk' : k = es.length := by omega
      have hnest := HN.out
      rw [hk', List.take_length] at hnest
      refine ⟨some ⟨w.heap.size, 0, none⟩, n, ?_, by rw [sucL_length]; exact Nat.le_refl _, hnest.reads (Nat.le_refl _), hbl⟩
      rw [sucL_length]
      rfl

set_option maxRecDepth 100000 in
set_option maxHeartbeats 3200000 in
theorem pre_any (n : Nat) (A : Option Addr) (es : Dgr.Edges) (c : Nat) (w : World) (hA : EdgesA w A es) (ok : Dgr.Ok n es) (hn : n ≤ 200) (hl : es.length ≤ 2000) :
    Calls Try.prog 35 #[.int .i64 n, .slice A es.length c] w (GiveR w (preL n es)) := by
  obtain ⟨b, o, hb⟩ := hA.open
  have HB := Lib.hid hb
  have HO := Lib.hid ok
  clear hb hA ok
  obtain ⟨i0, hi0, hz0, hz1, hz2⟩ := parts_of infoInt
  have hmk := run_make_row' (P := Try.prog) 44 26 (.slice none 0 0) 24 Try.underlying44 infoRow rfl .i64 .i64 n (by omega) (by omega)
  have HS : Hid (Nest (w.alloc (.cells (madeCells #[.slice none 0 0] n) 26)) w.heap.size (w.heap.size + 1) (fun _ => .slice none 0 0) (preL n (es.take 0))) := Lib.hid (Nest.start w n _ _ (by omega))
  go_enter Try.func35, Try.ntmps35
  go_wp2
  go_loopg [12] es.length (fun g i wr => ∃ (k : Nat) (hs : Nat → Value), k ≤ es.length ∧ i = .int .i64 k ∧ g = es.length - k ∧ Nest wr w.heap.size (w.heap.size + 1) hs (preL n (es.take k)) ∧ Below w.heap.size w wr)
  case atStart => exact ⟨0, _, Nat.zero_le _, rfl, rfl, HS.out, (Below.refl _ _).alloc (Nat.le_refl _) _⟩
  case round =>
    obtain ⟨k, hs, hk, rfl, rfl, hnest, hbl⟩ := hrel
    clear HS hmk
    have HN := Lib.hid hnest
    clear hnest
    by_cases hlt : k < es.length
    · obtain ⟨⟨u, v⟩, huv⟩ := get_ex hlt
      obtain ⟨rfl, hbs, hc⟩ := HB.out (by intro h; subst h; simp at hlt)
      obtain ⟨hu, hv⟩ := hc k u v huv
      have hcu := (hbl.cell (p := ⟨b, o + k * 2, none⟩) hbs).trans hu
      have hcv := (hbl.cell (p := ⟨b, o + k * 2 + 1, none⟩) hbs).trans hv
      obtain ⟨hun, hvn⟩ := HO.out _ (List.mem_of_getElem? huv)
      simp only at hun hvn
      have HE := Lib.hid huv
      clear hc hu hv huv HB
      have hbs' := hbl.size
      have hNlt := HN.out.box.lt
      have hlen : (preL n (es.take k)).length = n := preL_length _ _
      have hcell := HN.out.box.cell v (by omega)
      obtain ⟨l, hl1, hl3⟩ : ∃ l, (preL n (es.take k))[v]? = some l ∧ l.length ≤ (es.take k).length := by
        obtain ⟨l, h1, _, h3⟩ := (preL_adj (n := n) (es := es.take k) (fun x hx => HO.out x (List.mem_of_mem_take hx))).mem v hvn
        exact ⟨l, h1, by simpa [Dgr.rev] using h3⟩
      have HL := Lib.hid hl1
      have hl4 : l.length ≤ 2000 := by simp at hl3; omega
      have hrow := HN.out.row v l hl1
      have HR := Lib.hid hrow
      have hfar : some w.heap.size ≠ (hs v).ownBlock := fun e => by have := hrow.lt _ e.symm; omega
      have hfar2 : some wr.heap.size ≠ (hs v).ownBlock := fun e => by have := hrow.lt _ e.symm; omega
      have hE : wr.heap.size ≠ w.heap.size := by omega
      have hi1 : (0 : Int) ≤ (v : Int) := Int.natCast_nonneg _
      have hi2 : (v : Int) < (n : Int) := by omega
      clear hl1 hl3 hrow
      have hmark := HN.out.box.mark v (by omega)
      generalize hh : hs v = h0 at hcell hfar hfar2 HR
      have HH := Lib.hid hh
      clear hh
      go_upto_region 5 with fail
      refine wp_region_till (fun w' => w'.cell? ⟨wr.heap.size, 0, none⟩ = some (.int .i64 (u : Int)) ∧ w'.cell? ⟨wr.heap.size, 1, none⟩ = some (.int .i64 (v : Int)) ∧ w'.cell? ⟨w.heap.size, v, none⟩ = some h0) 12 (by kernel_rfl) ?_ (fun hHeld => ?_)
      · (try dsimp only)
        simp [*, World.cell?_alloc_some]
      refine anyTill.reads (i := 0) rfl (by kernel_rfl) (by kernel_rfl) (by kernel_rfl) (by kernel_rfl) (fun _ _ _ h => h) (by rfl) (v := ?_) ?_ (by assumption) ?_
      rotate_left
      · intro wz hz; (try dsimp only at hz); go_split_ands; go_simp; try with_reducible rfl
      simp only [Act.put, List.setIfInBounds_toArray, List.set_cons_zero, List.set_cons_succ]
      refine anyTill.reads (i := 1) rfl (by kernel_rfl) (by kernel_rfl) (by kernel_rfl) (by kernel_rfl) (fun _ _ _ h => h) (by rfl) (v := ?_) ?_ (by assumption) ?_
      rotate_left
      · intro wz hz; (try dsimp only at hz); go_split_ands; go_simp; try with_reducible rfl
      simp only [Act.put, List.setIfInBounds_toArray, List.set_cons_zero, List.set_cons_succ]
      refine anyTill.reads (i := 2) rfl (by kernel_rfl) (by kernel_rfl) (by kernel_rfl) (by kernel_rfl) (fun _ _ _ h => h) (by rfl) (v := ?_) ?_ (by assumption) ?_
      rotate_left
      · intro wz hz; (try dsimp only at hz); go_split_ands; go_simp; try with_reducible rfl
      simp only [Act.put, List.setIfInBounds_toArray, List.set_cons_zero, List.set_cons_succ]
      refine anyTill.reads (i := 3) rfl (by kernel_rfl) (by kernel_rfl) (by kernel_rfl) (by kernel_rfl) (fun _ _ _ h => h) (by rfl) (v := ?_) ?_ (by assumption) ?_
      rotate_left
      · intro wz hz; (try dsimp only at hz); go_split_ands; go_simp; try with_reducible rfl
      simp only [Act.put, List.setIfInBounds_toArray, List.set_cons_zero, List.set_cons_succ]
      refine anyTill.reads (i := 4) rfl (by kernel_rfl) (by kernel_rfl) (by kernel_rfl) (by kernel_rfl) (fun _ _ _ h => h) (by rfl) (v := ?_) ?_ (by assumption) ?_
      rotate_left
      · intro wz hz; (try dsimp only at hz); go_split_ands; go_simp; try with_reducible rfl
      simp only [Act.put, List.setIfInBounds_toArray, List.set_cons_zero, List.set_cons_succ]
      refine anyTill.reads (i := 5) rfl (by kernel_rfl) (by kernel_rfl) (by kernel_rfl) (by kernel_rfl) (fun _ _ _ h => h) (by rfl) (v := ?_) ?_ (by assumption) ?_
      rotate_left
      · intro wz hz; (try dsimp only at hz); go_split_ands; go_simp; try with_reducible rfl
      simp only [Act.put, List.setIfInBounds_toArray, List.set_cons_zero, List.set_cons_succ]
      refine anyTill.reads (i := 6) rfl (by kernel_rfl) (by kernel_rfl) (by kernel_rfl) (by kernel_rfl) (fun _ _ _ h => h) (by rfl) (v := ?_) ?_ (by assumption) ?_
      rotate_left
      · intro wz hz; (try dsimp only at hz); go_split_ands; go_simp; try with_reducible rfl
      simp only [Act.put, List.setIfInBounds_toArray, List.set_cons_zero, List.set_cons_succ]
      refine anyTill.reads (i := 7) rfl (by kernel_rfl) (by kernel_rfl) (by kernel_rfl) (by kernel_rfl) (fun _ _ _ h => h) (by rfl) (v := ?_) ?_ (by assumption) ?_
      rotate_left
      · intro wz hz; (try dsimp only at hz); go_split_ands; go_simp; try with_reducible rfl
      simp only [Act.put, List.setIfInBounds_toArray, List.set_cons_zero, List.set_cons_succ]
      refine anyTill.reads (i := 8) rfl (by kernel_rfl) (by kernel_rfl) (by kernel_rfl) (by kernel_rfl) (fun _ _ _ h => h) (by rfl) (v := ?_) ?_ (by assumption) ?_
      rotate_left
      · intro wz hz; (try dsimp only at hz); go_split_ands; go_simp; try with_reducible rfl
      simp only [Act.put, List.setIfInBounds_toArray, List.set_cons_zero, List.set_cons_succ]
      refine anyTill.reads (i := 9) rfl (by kernel_rfl) (by kernel_rfl) (by kernel_rfl) (by kernel_rfl) (fun _ _ _ h => h) (by rfl) (v := ?_) ?_ (by assumption) ?_
      rotate_left
      · intro wz hz; (try dsimp only at hz); go_split_ands; go_simp; try with_reducible rfl
      simp only [Act.put, List.setIfInBounds_toArray, List.set_cons_zero, List.set_cons_succ]
      refine anyTill.alone (i := 10) rfl (by kernel_rfl) (by rfl) (fun K hK => ?_)
      go_simp
      refine hK.out _ _ (fun _ => ?_) (fun hHeld0 => ?_)
      · (try dsimp only)
        simp [*, World.cell?_alloc_some]
      have hHeld := hHeld0 (by decide)
      clear hHeld0
      clear hK K
      try simp only [Act.put, List.setIfInBounds_toArray, List.set_cons_zero, List.set_cons_succ]
      refine anyTill.alone (i := 11) rfl (by kernel_rfl) (by rfl) (fun K hK => ?_)
      refine wp_append_lies _ _ _ _ (by rfl) (w.heap.size + 1) 3 i0 _ 1 8 Try.underlying26 hi0 hz0 hz1 hz2 rfl (by omega) h0 l.length (nv l) (by rfl) (((HR.out.alloc _).drew).alloc _) ⟨wr.heap.size + 1, 0, none⟩ 1 1 [.int .i64 (u : Int)] (by rfl) (by rfl) (World.news_of_block (cs := #[.int .i64 (u : Int)]) (t := 3) (fr := (0, 0)) (heap_new_at' (w := (wr.alloc _).drew) (by simp))) (by simp [Value.oneCell']) (by omega) (by unfold maxLen; omega) (by omega) (by simp; omega) (wr.heap.size + 1 + 1) (by simp) ?_
      intro g cap' w1 hown1 hgrow hat hlt1
      have hc1 : w1.cell? ⟨w.heap.size, v, none⟩ = some h0 := (hgrow.cell_far ⟨w.heap.size, v, none⟩ (by simp; omega) hfar).trans (by simp [hcell, World.cell?_alloc_some])
      have hm1 : w1.frozen? ⟨w.heap.size, v, none⟩ = false := (hgrow.frozen_far ⟨w.heap.size, v, none⟩ (by simp; omega) hfar).trans (by simp [hmark, frozen?_alloc_cells])
      refine hK.out _ _ (fun _ => ?_) (fun hHeld0 => ?_)
      · refine ⟨?_, ?_, hc1⟩
        · exact (hgrow.cell_far _ (by simp; omega) hfar2).trans (by simp [World.cell?_alloc_some])
        · exact (hgrow.cell_far _ (by simp; omega) hfar2).trans (by simp [World.cell?_alloc_some])
      have hHeld := hHeld0 (by decide)
      clear hHeld0
      clear hK K
      try simp only [Act.put, List.setIfInBounds_toArray, List.set_cons_zero, List.set_cons_succ]
      refine anyTill.alone (i := 12) rfl (by kernel_rfl) (by rfl) (fun K hK => ?_)
      go_simp
      refine hK.out _ _ (fun h => absurd h (by decide)) (fun hHeld => ?_)
      clear hK K
      try simp only [Act.put, List.setIfInBounds_toArray, List.set_cons_zero, List.set_cons_succ]
      refine anyTill.alone (i := 13) rfl (by kernel_rfl) (by rfl) (fun K hK => ?_)
      go_simp
      refine hK.out _ _ (fun h => absurd h (by decide)) (fun hHeld => ?_)
      clear hK K
      try simp only [Act.put, List.setIfInBounds_toArray, List.set_cons_zero, List.set_cons_succ]
      refine anyTill.done (by kernel_rfl) ?_ _
      have HN2 : Hid (Nest (w1.setCell ⟨w.heap.size, v, none⟩ (.slice (some ⟨g, 0, none⟩) (l.length + 1) cap')) w.heap.size (w.heap.size + 1) (up hs v (.slice (some ⟨g, 0, none⟩) (l.length + 1) cap')) (preL n (es.take (k + 1)))) := by
        have hb0 : Below wr.heap.size wr (((wr.alloc (.cells #[.int .i64 (u : Int), .int .i64 (v : Int)] 48)).drew).alloc (.cells #[.int .i64 (u : Int)] 3)) := (((Below.refl _ wr).alloc (Nat.le_refl _) _).drew).alloc (by simp) _
        have := (HN.out.keep hb0).append HL.out hown1 (by rw [HH.out]; exact hgrow) (by rw [HH.out]; exact hat.imp id (fun h => by simp; omega)) hlt1
        rw [take_snoc HE.out, preL_snoc]
        simp only [rowStep, HL.out, Option.getD_some]
        exact this
      have hb2 : Below w.heap.size w (w1.setCell ⟨w.heap.size, v, none⟩ (.slice (some ⟨g, 0, none⟩) (l.length + 1) cap')) :=
        Below.setCell ((((hbl.alloc hbs' _).drew).alloc (by simp; omega) _).grown hgrow (by simp; omega) (fun g' hg' => by have := HR.out.lt g' hg'; omega)) (p := ⟨w.heap.size, v, none⟩) (Nat.le_refl _) _
      clear hc1 hm1 hHeld hcell hmark
      go_wp2
      go_roundg (es.length - (k + 1))
      case measure => omega
      case rel => exact ⟨k + 1, _, by omega, by go_num, rfl, HN2.out, hb2⟩
    · go_wp2
      go_ret
      have hk' : k = es.length := by omega
      have hnest := HN.out
      rw [hk', List.take_length] at hnest
      refine ⟨some ⟨w.heap.size, 0, none⟩, n, ?_, by rw [preL_length]; exact Nat.le_refl _, hnest.reads (Nat.le_refl _), hbl⟩
      rw [preL_length]
      rfl

end Gp
end Go.Proofs.Ytmdleoadodcljaa
