/- The closures that list calls. -/
import Derived.Test.YtggeepimihhpjaaGreatDoorPO
namespace Go.Proofs.YtggeepimihhpjaaGreatDoor
open Go.RowKit Go.Shelf Sl Fr Lx
namespace Sy
set_option linter.unusedVariables false
set_option linter.unusedSimpArgs false

section
variable {W W' : World} {b : Nat} {z : Array Value} {T : TypeId}
theorem BoxO.cell (h : BoxO W b z T) {i : Nat} {u : Value} (hi : z[i]? = some u) : W.cell? ⟨b, i, none⟩ = some u := by rw [cell_of_row W b i z T (0, 0) h.h]; exact hi
theorem BoxO.frozen (h : BoxO W b z T) (i : Nat) : W.frozen? ⟨b, i, none⟩ = false := by
  unfold World.frozen?
  simp [h.h]
theorem BoxO.put (h : BoxO W b z T) (i : Nat) (u : Value) : BoxO (W.setCell ⟨b, i, none⟩ u) b (z.setIfInBounds i u) T := ⟨by
  rw [setCell_eq_setRow W b i z T (0, 0) u h.h]
  exact setRow_heap W b z _ T (0, 0) h.h⟩
end
structure LS (w0 : World) (n pb a1 a2 base : Nat) : Prop where
  h1 : a1 < base
  h2 : a2 < base
  h3 : pb < base
  h4 : a1 ≠ pb
  h5 : a2 ≠ pb
  h6 : a1 ≠ a2
  h7 : n ≤ a1
  h8 : n ≤ base
  h9 : w0.heap.size ≤ a1
def LJ (pb a1 a2 base off : Nat) (z : Array Value) (T e : TypeId) (k : Nat) (X : World → Prop) (m : Nat) (vs : List Value) (W : World) : Prop :=
  ∃ v, BoxO W a1 (z.setIfInBounds off v) T ∧ BoxL W a2 #[.pointer (some ⟨pb, 0, none⟩)] ∧ W.ownsRow base e k v m vs ∧ base ≤ W.heap.size ∧ X W
def XK (pb a1 base : Nat) (X : World → Prop) : Prop := ∀ W W' row, X W → W.grownBy W' row → (∀ g, row = some g → g = pb ∨ g = a1 ∨ base ≤ g) → X W'
theorem LJ.grown {w0 W W' : World} {n pb a1 a2 base off : Nat} {z : Array Value} {T e : TypeId} {k : Nat} {X : World → Prop} {m : Nat} {vs : List Value} (hs : LS w0 n pb a1 a2 base) (hX : XK pb a1 base X) (h : LJ pb a1 a2 base off z T e k X m vs W) (hg : W.grownBy W' (some pb)) : LJ pb a1 a2 base off z T e k X m vs W' := by
  obtain ⟨v, h1, h2, h3, h4, h5⟩ := h
  exact ⟨v, h1.grown hg (fun e => hs.h4 (by injection e)), h2.grown hg (fun e => hs.h5 (by injection e)), h3.kept hg (.inr fun e => by have := (h3.lt _ e).1; have := hs.h3; omega), Nat.le_trans h4 hg.size, hX _ _ _ h5 hg (fun g e => .inl (by injection e with e; exact e.symm))⟩
theorem numsC_app (l : List NumT) (x : NumT) : numsC (l ++ [x]) = numsC l ++ [.int .i64 x.n, .string ⟨x.p.toArray⟩] := by simp [numsC]
theorem bindsC_app (l : List BindT) (x : BindT) : bindsC (l ++ [x]) = bindsC l ++ [.string ⟨x.port.toArray⟩, .string ⟨x.chan.toArray⟩] := by simp [bindsC]
theorem strsC_app (l : List By) (x : By) : strsC (l ++ [x]) = strsC l ++ [.string ⟨x.toArray⟩] := by simp [strsC]

theorem info_inst1 : (Tryz.prog.info? 60).map (fun i => (i.zero, i.size, i.bytes)) = some (some (.agg #[.int .i64 0, .string ⟨#[]⟩]), 2, 24) := by kernel_rfl
theorem wp_build_inst1 {o : Oper} {a : Act} {X : World} {K : Act → World → Prop} {Q : Exit → Act → World → Prop} {p : Operand} (ho : o.op = .buildSlice 66 1 #[(0, p)]) {x : NumT} (hx : a.eval p = .agg #[.int .i64 x.n, .string ⟨x.p.toArray⟩]) (h : K (a.put o.dst (.slice (some ⟨X.heap.size, 0, none⟩) 1 1)) (X.alloc (.cells #[.int .i64 x.n, .string ⟨x.p.toArray⟩] 60))) : o.wp Tryz.prog a X K Q := by
  unfold Oper.wp
  generalize a.eval = ev at hx ⊢
  unfold execOp
  rw [ho]
  go_simp
  exact h
set_option maxRecDepth 100000 in
set_option maxHeartbeats 2000000 in
theorem cl_inst1 (n pb a1 a2 base : Nat) (z : Array Value) (hz : 33 < z.size) (w0 : World) (X : World → Prop) (hX : XK pb a1 base X) (hs : LS w0 n pb a1 a2 base) (l : List Tk) (acc : List NumT) (W : World) (hx : PX n pb l W) (hj : LJ pb a1 a2 base 33 z 69 60 2 X acc.length (numsC acc) W) (hg : w0.grownBy W (some pb)) (hb : acc.length ≤ 10000) :
    Calls Tryz.prog 140 #[.pointer (some ⟨a1, 0, none⟩), .pointer (some ⟨a2, 0, none⟩)] W (LGives n pb l (numP >>= fun x => pure (acc ++ [x])) (fun acc => LJ pb a1 a2 base 33 z 69 60 2 X acc.length (numsC acc)) w0) := by
  obtain ⟨v, m1, m2, hrow, hbs, hxx⟩ := hj
  obtain ⟨i0, hi0, hz0, hz1, hz2⟩ := Fr.parts_of info_inst1
  obtain ⟨hs1, hs2, hs3, hs4, hs5, hs6, hs7, hs8, hs9⟩ := hs
  have HZ := Lib.hid hz
  have hD : Below W.heap.size W W.drew := (Below.refl _ W).drew
  have hxD := hx.below hD
  have m1D := m1.keep hD
  have m2D := m2.keep hD
  have rD := row_keep hrow hD
  have hgD := hg.trans (gb hD)
  have xD := hX _ _ none hxx (grown_below hD) (fun g e => by cases e)
  have bD : base ≤ W.drew.heap.size := hbs
  have c1 : W.drew.cell? ⟨a1, 33, none⟩ = some v := m1D.cell (by rw [Array.getElem?_setIfInBounds_self_of_lt hz])
  have c2 := m2D.c1
  clear hx hg m1 m2 hrow hbs hxx hz
  go_enter Tryz.func140, Tryz.ntmps140
  go_upto_region 0 with fail
  cases hm : numP l with
  | no a =>
    have HMM := Lib.hid (bind_no (f := fun x => (pure (acc ++ [x]) : PM (List NumT))) hm)
    have HC := Lib.hid (fun W (hW : PX n pb l W) => rd_no (num_any n pb l W hW) hm)
    clear hm
    refine wp_region_till (fun w' => w'.cell? ⟨a1, 33, none⟩ = some v ∧ w'.cell? ⟨a2, 0, none⟩ = some (.pointer (some ⟨pb, 0, none⟩))) 7 (by kernel_rfl) ⟨c1, c2⟩ (fun hHeld => ?_)
    clear hD c1 c2
    generalize W.drew = D at *
    refine anyTill.reads (i := 0) rfl (by kernel_rfl) (by kernel_rfl) (by kernel_rfl) (by kernel_rfl) (fun _ _ _ h => h) (by rfl) (v := ?_) ?_ (by assumption) ?_
    rotate_left
    · intro wz hz; (try dsimp only at hz); go_split_ands; go_simp; try with_reducible rfl
    simp only [Act.put, List.setIfInBounds_toArray, List.set_cons_zero, List.set_cons_succ]
    refine anyTill.reads (i := 1) rfl (by kernel_rfl) (by kernel_rfl) (by kernel_rfl) (by kernel_rfl) (fun _ _ _ h => h) (by rfl) (v := ?_) ?_ (by assumption) ?_
    rotate_left
    · intro wz hz; (try dsimp only at hz); go_split_ands; go_simp; try with_reducible rfl
    simp only [Act.put, List.setIfInBounds_toArray, List.set_cons_zero, List.set_cons_succ]
    refine anyTill.reads (i := 2) rfl (by kernel_rfl) (by kernel_rfl) (by kernel_rfl) (by kernel_rfl) (fun _ _ _ h => h) (by rfl) (v := ?_) ?_ (by assumption) ?_
    rotate_left
    · intro wz hz; (try dsimp only at hz); go_split_ands; go_simp; try with_reducible rfl
    simp only [Act.put, List.setIfInBounds_toArray, List.set_cons_zero, List.set_cons_succ]
    refine anyTill.alone (i := 3) rfl (by kernel_rfl) (by rfl) (fun K hK => ?_)
    go_wp2_with fail
    go_at_call 141
    refine (HC.out _ hxD).mono ?_
    rintro e w3 ⟨rfl, hg3⟩
    exact ⟨rfl, LGives.of_no HMM.out (hgD.trans hg3)⟩
  | ok x r =>
    have HMM := Lib.hid ((bind_ok (f := fun x => (pure (acc ++ [x]) : PM (List NumT))) hm).trans (pure_eq _ _))
    have HC := Lib.hid (fun W (hW : PX n pb l W) => rd_is (g := fun x : NumT => .agg #[.int .i64 x.n, .string ⟨x.p.toArray⟩]) (num_any n pb l W hW) hW hm)
    clear hm
    refine wp_region_till (fun w' => w'.cell? ⟨a1, 33, none⟩ = some v ∧ w'.cell? ⟨a2, 0, none⟩ = some (.pointer (some ⟨pb, 0, none⟩))) 7 (by kernel_rfl) ⟨c1, c2⟩ (fun hHeld => ?_)
    clear hD c1 c2
    generalize W.drew = D at *
    refine anyTill.reads (i := 0) rfl (by kernel_rfl) (by kernel_rfl) (by kernel_rfl) (by kernel_rfl) (fun _ _ _ h => h) (by rfl) (v := ?_) ?_ (by assumption) ?_
    rotate_left
    · intro wz hz; (try dsimp only at hz); go_split_ands; go_simp; try with_reducible rfl
    simp only [Act.put, List.setIfInBounds_toArray, List.set_cons_zero, List.set_cons_succ]
    refine anyTill.reads (i := 1) rfl (by kernel_rfl) (by kernel_rfl) (by kernel_rfl) (by kernel_rfl) (fun _ _ _ h => h) (by rfl) (v := ?_) ?_ (by assumption) ?_
    rotate_left
    · intro wz hz; (try dsimp only at hz); go_split_ands; go_simp; try with_reducible rfl
    simp only [Act.put, List.setIfInBounds_toArray, List.set_cons_zero, List.set_cons_succ]
    refine anyTill.reads (i := 2) rfl (by kernel_rfl) (by kernel_rfl) (by kernel_rfl) (by kernel_rfl) (fun _ _ _ h => h) (by rfl) (v := ?_) ?_ (by assumption) ?_
    rotate_left
    · intro wz hz; (try dsimp only at hz); go_split_ands; go_simp; try with_reducible rfl
    simp only [Act.put, List.setIfInBounds_toArray, List.set_cons_zero, List.set_cons_succ]
    refine anyTill.alone (i := 3) rfl (by kernel_rfl) (by rfl) (fun K hK => ?_)
    go_wp2_with fail
    go_at_call 141
    refine (HC.out _ hxD).mono ?_
    rintro e w3 ⟨rfl, hx3, hg3⟩
    have m13 := m1D.grown hg3 (fun e => hs4 (by injection e))
    have m23 := m2D.grown hg3 (fun e => hs5 (by injection e))
    have r3 := rD.kept hg3 (.inr fun e => by have := (rD.lt _ e).1; omega)
    have x3 := hX _ _ _ xD hg3 (fun g e => .inl (by injection e with e; exact e.symm))
    refine hK.out _ _ (fun _ => ?_) (fun hHeld0 => ?_)
    · exact ⟨m13.cell (by rw [Array.getElem?_setIfInBounds_self_of_lt HZ.out]), m23.c1⟩
    have hHeld := hHeld0 (by decide)
    clear hHeld0
    clear hK K
    try simp only [Act.put, List.setIfInBounds_toArray, List.set_cons_zero, List.set_cons_succ]
    refine anyTill.alone (i := 4) rfl (by kernel_rfl) (by rfl) (fun K hK => ?_)
    refine wp_build_inst1 rfl (by rfl) ?_
    have gA := World.grownBy_alloc w3 (.cells #[.int .i64 x.n, .string ⟨x.p.toArray⟩] 60) none
    have m14 := m13.grown gA (fun e => by cases e)
    have m24 := m23.grown gA (fun e => by cases e)
    have r4 := r3.alloc (.cells #[.int .i64 x.n, .string ⟨x.p.toArray⟩] 60)
    have x4 := hX _ _ _ x3 gA (fun g e => by cases e)
    refine hK.out _ _ (fun _ => ?_) (fun hHeld0 => ?_)
    · exact ⟨m14.cell (by rw [Array.getElem?_setIfInBounds_self_of_lt HZ.out]), m24.c1⟩
    have hHeld := hHeld0 (by decide)
    clear hHeld0
    clear hK K
    try simp only [Act.put, List.setIfInBounds_toArray, List.set_cons_zero, List.set_cons_succ]
    refine anyTill.alone (i := 5) rfl (by kernel_rfl) (by rfl) (fun K hK => ?_)
    refine wp_append_lies _ _ _ _ (by rfl) base 60 i0 _ 2 24 Tryz.underlying66 hi0 hz0 hz1 hz2 rfl (by decide) v acc.length (numsC acc) (by rfl) r4 ⟨w3.heap.size, 0, none⟩ 1 1 [.int .i64 x.n, .string ⟨x.p.toArray⟩] (by rfl) (by rfl) (World.news_of_block (cs := #[.int .i64 x.n, .string ⟨x.p.toArray⟩]) (t := 60) (fr := (0, 0)) (heap_alloc_new w3 _)) (by simp [Value.oneCell']) (by decide) (by unfold maxLen; omega) (by omega) (by have := hg3.size; simp; omega) _ rfl ?_
    intro g' cap' wx hown hgrow hat hlt
    have hro : ∀ g, v.ownBlock = some g → base ≤ g := fun g e => (r4.lt g e).1
    have m15 := m14.grown hgrow (fun e => by have := hro _ e.symm; omega)
    have m25 := m24.grown hgrow (fun e => by have := hro _ e.symm; omega)
    have x5 := hX _ _ _ x4 hgrow (fun g e => .inr (.inr (hro g e)))
    have hx5 := (hx3.alloc (.cells #[.int .i64 x.n, .string ⟨x.p.toArray⟩] 60)).grown hgrow (fun g e => by have := hro g e; omega)
    have hg5 := grown_row ((hgD.trans hg3).trans (World.grownBy_alloc w3 (.cells #[.int .i64 x.n, .string ⟨x.p.toArray⟩] 60) _)) hgrow (fun g e => by have := hro g e; omega)
    have b5 : base ≤ wx.heap.size := by have := hgrow.size; have := hg3.size; simp at *; omega
    refine hK.out _ _ (fun _ => ?_) (fun hHeld0 => ?_)
    · exact ⟨m15.cell (by rw [Array.getElem?_setIfInBounds_self_of_lt HZ.out]), m25.c1⟩
    have hHeld := hHeld0 (by decide)
    clear hHeld0
    clear hK K
    try simp only [Act.put, List.setIfInBounds_toArray, List.set_cons_zero, List.set_cons_succ]
    refine anyTill.alone (i := 6) rfl (by kernel_rfl) (by rfl) (fun K hK => ?_)
    go_simp
    refine hK.out _ _ (fun _ => ?_) (fun hHeld0 => ?_)
    · exact ⟨m15.cell (by rw [Array.getElem?_setIfInBounds_self_of_lt HZ.out]), m25.c1⟩
    have hHeld := hHeld0 (by decide)
    clear hHeld0
    clear hK K
    try simp only [Act.put, List.setIfInBounds_toArray, List.set_cons_zero, List.set_cons_succ]
    have c1 := m15.cell (by rw [Array.getElem?_setIfInBounds_self_of_lt HZ.out])
    have f1 := m15.frozen 33
    refine anyTill.alone (i := 7) rfl (by kernel_rfl) (by rfl) (fun K hK => ?_)
    go_simp
    refine hK.out _ _ (fun h => absurd h (by decide)) (fun hHeld => ?_)
    clear hK K
    try simp only [Act.put, List.setIfInBounds_toArray, List.set_cons_zero, List.set_cons_succ]
    refine anyTill.done (by kernel_rfl) ?_ _
    have gS := grown_set wx a1 33 (.slice (some ⟨g', 0, none⟩) (acc.length + 1) cap')
    have m16 := m15.put 33 (.slice (some ⟨g', 0, none⟩) (acc.length + 1) cap')
    rw [Array.setIfInBounds_setIfInBounds] at m16
    have m26 := m25.grown gS (fun e => by injection e; omega)
    have r6 : (wx.setCell ⟨a1, 33, none⟩ (.slice (some ⟨g', 0, none⟩) (acc.length + 1) cap')).ownsRow base 60 2 (.slice (some ⟨g', 0, none⟩) (acc.length + 1) cap') (acc ++ [x]).length (numsC (acc ++ [x])) := by rw [numsC_app, List.length_append]; exact ownsRow_setCell_below hown (a := ⟨a1, 33, none⟩) (by show a1 < base; omega) _
    have x6 := hX _ _ _ x5 gS (fun g e => .inr (.inl (by injection e with e; exact e.symm)))
    have hx6 := hx5.grown gS (fun g e => by injection e; omega)
    have hg6 := grown_row hg5 gS (fun g e => by injection e; omega)
    have HF := Lib.hid (LGives.of_ok (n := n) (pb := pb) (w0 := w0) (J := fun acc => LJ pb a1 a2 base 33 z 69 60 2 X acc.length (numsC acc)) HMM.out hg6 ⟨_, m16, m26, r6, by simpa using b5, x6⟩ hx6)
    clear hHeld c1 f1
    go_wp2_with fail
    go_end0
    exact HF.out
theorem info_inst2 : (Tryz.prog.info? 146).map (fun i => (i.zero, i.size, i.bytes)) = some (some (.agg #[.string ⟨#[]⟩, .string ⟨#[]⟩]), 2, 32) := by kernel_rfl
theorem wp_build_inst2 {o : Oper} {a : Act} {X : World} {K : Act → World → Prop} {Q : Exit → Act → World → Prop} {p : Operand} (ho : o.op = .buildSlice 67 1 #[(0, p)]) {x : BindT} (hx : a.eval p = .agg #[.string ⟨x.port.toArray⟩, .string ⟨x.chan.toArray⟩]) (h : K (a.put o.dst (.slice (some ⟨X.heap.size, 0, none⟩) 1 1)) (X.alloc (.cells #[.string ⟨x.port.toArray⟩, .string ⟨x.chan.toArray⟩] 146))) : o.wp Tryz.prog a X K Q := by
  unfold Oper.wp
  generalize a.eval = ev at hx ⊢
  unfold execOp
  rw [ho]
  go_simp
  exact h
set_option maxRecDepth 100000 in
set_option maxHeartbeats 2000000 in
theorem cl_inst2 (n pb a1 a2 base : Nat) (z : Array Value) (hz : 34 < z.size) (w0 : World) (X : World → Prop) (hX : XK pb a1 base X) (hs : LS w0 n pb a1 a2 base) (l : List Tk) (acc : List BindT) (W : World) (hx : PX n pb l W) (hj : LJ pb a1 a2 base 34 z 69 146 2 X acc.length (bindsC acc) W) (hg : w0.grownBy W (some pb)) (hb : acc.length ≤ 10000) :
    Calls Tryz.prog 142 #[.pointer (some ⟨a1, 0, none⟩), .pointer (some ⟨a2, 0, none⟩)] W (LGives n pb l (bindP >>= fun x => pure (acc ++ [x])) (fun acc => LJ pb a1 a2 base 34 z 69 146 2 X acc.length (bindsC acc)) w0) := by
  obtain ⟨v, m1, m2, hrow, hbs, hxx⟩ := hj
  obtain ⟨i0, hi0, hz0, hz1, hz2⟩ := Fr.parts_of info_inst2
  obtain ⟨hs1, hs2, hs3, hs4, hs5, hs6, hs7, hs8, hs9⟩ := hs
  have HZ := Lib.hid hz
  have hD : Below W.heap.size W W.drew := (Below.refl _ W).drew
  have hxD := hx.below hD
  have m1D := m1.keep hD
  have m2D := m2.keep hD
  have rD := row_keep hrow hD
  have hgD := hg.trans (gb hD)
  have xD := hX _ _ none hxx (grown_below hD) (fun g e => by cases e)
  have bD : base ≤ W.drew.heap.size := hbs
  have c1 : W.drew.cell? ⟨a1, 34, none⟩ = some v := m1D.cell (by rw [Array.getElem?_setIfInBounds_self_of_lt hz])
  have c2 := m2D.c1
  clear hx hg m1 m2 hrow hbs hxx hz
  go_enter Tryz.func142, Tryz.ntmps142
  go_upto_region 0 with fail
  cases hm : bindP l with
  | no a =>
    have HMM := Lib.hid (bind_no (f := fun x => (pure (acc ++ [x]) : PM (List BindT))) hm)
    have HC := Lib.hid (fun W (hW : PX n pb l W) => rd_no (binding_any n pb l W hW) hm)
    clear hm
    refine wp_region_till (fun w' => w'.cell? ⟨a1, 34, none⟩ = some v ∧ w'.cell? ⟨a2, 0, none⟩ = some (.pointer (some ⟨pb, 0, none⟩))) 7 (by kernel_rfl) ⟨c1, c2⟩ (fun hHeld => ?_)
    clear hD c1 c2
    generalize W.drew = D at *
    refine anyTill.reads (i := 0) rfl (by kernel_rfl) (by kernel_rfl) (by kernel_rfl) (by kernel_rfl) (fun _ _ _ h => h) (by rfl) (v := ?_) ?_ (by assumption) ?_
    rotate_left
    · intro wz hz; (try dsimp only at hz); go_split_ands; go_simp; try with_reducible rfl
    simp only [Act.put, List.setIfInBounds_toArray, List.set_cons_zero, List.set_cons_succ]
    refine anyTill.reads (i := 1) rfl (by kernel_rfl) (by kernel_rfl) (by kernel_rfl) (by kernel_rfl) (fun _ _ _ h => h) (by rfl) (v := ?_) ?_ (by assumption) ?_
    rotate_left
    · intro wz hz; (try dsimp only at hz); go_split_ands; go_simp; try with_reducible rfl
    simp only [Act.put, List.setIfInBounds_toArray, List.set_cons_zero, List.set_cons_succ]
    refine anyTill.reads (i := 2) rfl (by kernel_rfl) (by kernel_rfl) (by kernel_rfl) (by kernel_rfl) (fun _ _ _ h => h) (by rfl) (v := ?_) ?_ (by assumption) ?_
    rotate_left
    · intro wz hz; (try dsimp only at hz); go_split_ands; go_simp; try with_reducible rfl
    simp only [Act.put, List.setIfInBounds_toArray, List.set_cons_zero, List.set_cons_succ]
    refine anyTill.alone (i := 3) rfl (by kernel_rfl) (by rfl) (fun K hK => ?_)
    go_wp2_with fail
    go_at_call 143
    refine (HC.out _ hxD).mono ?_
    rintro e w3 ⟨rfl, hg3⟩
    exact ⟨rfl, LGives.of_no HMM.out (hgD.trans hg3)⟩
  | ok x r =>
    have HMM := Lib.hid ((bind_ok (f := fun x => (pure (acc ++ [x]) : PM (List BindT))) hm).trans (pure_eq _ _))
    have HC := Lib.hid (fun W (hW : PX n pb l W) => rd_is (g := fun x : BindT => .agg #[.string ⟨x.port.toArray⟩, .string ⟨x.chan.toArray⟩]) (binding_any n pb l W hW) hW hm)
    clear hm
    refine wp_region_till (fun w' => w'.cell? ⟨a1, 34, none⟩ = some v ∧ w'.cell? ⟨a2, 0, none⟩ = some (.pointer (some ⟨pb, 0, none⟩))) 7 (by kernel_rfl) ⟨c1, c2⟩ (fun hHeld => ?_)
    clear hD c1 c2
    generalize W.drew = D at *
    refine anyTill.reads (i := 0) rfl (by kernel_rfl) (by kernel_rfl) (by kernel_rfl) (by kernel_rfl) (fun _ _ _ h => h) (by rfl) (v := ?_) ?_ (by assumption) ?_
    rotate_left
    · intro wz hz; (try dsimp only at hz); go_split_ands; go_simp; try with_reducible rfl
    simp only [Act.put, List.setIfInBounds_toArray, List.set_cons_zero, List.set_cons_succ]
    refine anyTill.reads (i := 1) rfl (by kernel_rfl) (by kernel_rfl) (by kernel_rfl) (by kernel_rfl) (fun _ _ _ h => h) (by rfl) (v := ?_) ?_ (by assumption) ?_
    rotate_left
    · intro wz hz; (try dsimp only at hz); go_split_ands; go_simp; try with_reducible rfl
    simp only [Act.put, List.setIfInBounds_toArray, List.set_cons_zero, List.set_cons_succ]
    refine anyTill.reads (i := 2) rfl (by kernel_rfl) (by kernel_rfl) (by kernel_rfl) (by kernel_rfl) (fun _ _ _ h => h) (by rfl) (v := ?_) ?_ (by assumption) ?_
    rotate_left
    · intro wz hz; (try dsimp only at hz); go_split_ands; go_simp; try with_reducible rfl
    simp only [Act.put, List.setIfInBounds_toArray, List.set_cons_zero, List.set_cons_succ]
    refine anyTill.alone (i := 3) rfl (by kernel_rfl) (by rfl) (fun K hK => ?_)
    go_wp2_with fail
    go_at_call 143
    refine (HC.out _ hxD).mono ?_
    rintro e w3 ⟨rfl, hx3, hg3⟩
    have m13 := m1D.grown hg3 (fun e => hs4 (by injection e))
    have m23 := m2D.grown hg3 (fun e => hs5 (by injection e))
    have r3 := rD.kept hg3 (.inr fun e => by have := (rD.lt _ e).1; omega)
    have x3 := hX _ _ _ xD hg3 (fun g e => .inl (by injection e with e; exact e.symm))
    refine hK.out _ _ (fun _ => ?_) (fun hHeld0 => ?_)
    · exact ⟨m13.cell (by rw [Array.getElem?_setIfInBounds_self_of_lt HZ.out]), m23.c1⟩
    have hHeld := hHeld0 (by decide)
    clear hHeld0
    clear hK K
    try simp only [Act.put, List.setIfInBounds_toArray, List.set_cons_zero, List.set_cons_succ]
    refine anyTill.alone (i := 4) rfl (by kernel_rfl) (by rfl) (fun K hK => ?_)
    refine wp_build_inst2 rfl (by rfl) ?_
    have gA := World.grownBy_alloc w3 (.cells #[.string ⟨x.port.toArray⟩, .string ⟨x.chan.toArray⟩] 146) none
    have m14 := m13.grown gA (fun e => by cases e)
    have m24 := m23.grown gA (fun e => by cases e)
    have r4 := r3.alloc (.cells #[.string ⟨x.port.toArray⟩, .string ⟨x.chan.toArray⟩] 146)
    have x4 := hX _ _ _ x3 gA (fun g e => by cases e)
    refine hK.out _ _ (fun _ => ?_) (fun hHeld0 => ?_)
    · exact ⟨m14.cell (by rw [Array.getElem?_setIfInBounds_self_of_lt HZ.out]), m24.c1⟩
    have hHeld := hHeld0 (by decide)
    clear hHeld0
    clear hK K
    try simp only [Act.put, List.setIfInBounds_toArray, List.set_cons_zero, List.set_cons_succ]
    refine anyTill.alone (i := 5) rfl (by kernel_rfl) (by rfl) (fun K hK => ?_)
    refine wp_append_lies _ _ _ _ (by rfl) base 146 i0 _ 2 32 Tryz.underlying67 hi0 hz0 hz1 hz2 rfl (by decide) v acc.length (bindsC acc) (by rfl) r4 ⟨w3.heap.size, 0, none⟩ 1 1 [.string ⟨x.port.toArray⟩, .string ⟨x.chan.toArray⟩] (by rfl) (by rfl) (World.news_of_block (cs := #[.string ⟨x.port.toArray⟩, .string ⟨x.chan.toArray⟩]) (t := 146) (fr := (0, 0)) (heap_alloc_new w3 _)) (by simp [Value.oneCell']) (by decide) (by unfold maxLen; omega) (by omega) (by have := hg3.size; simp; omega) _ rfl ?_
    intro g' cap' wx hown hgrow hat hlt
    have hro : ∀ g, v.ownBlock = some g → base ≤ g := fun g e => (r4.lt g e).1
    have m15 := m14.grown hgrow (fun e => by have := hro _ e.symm; omega)
    have m25 := m24.grown hgrow (fun e => by have := hro _ e.symm; omega)
    have x5 := hX _ _ _ x4 hgrow (fun g e => .inr (.inr (hro g e)))
    have hx5 := (hx3.alloc (.cells #[.string ⟨x.port.toArray⟩, .string ⟨x.chan.toArray⟩] 146)).grown hgrow (fun g e => by have := hro g e; omega)
    have hg5 := grown_row ((hgD.trans hg3).trans (World.grownBy_alloc w3 (.cells #[.string ⟨x.port.toArray⟩, .string ⟨x.chan.toArray⟩] 146) _)) hgrow (fun g e => by have := hro g e; omega)
    have b5 : base ≤ wx.heap.size := by have := hgrow.size; have := hg3.size; simp at *; omega
    refine hK.out _ _ (fun _ => ?_) (fun hHeld0 => ?_)
    · exact ⟨m15.cell (by rw [Array.getElem?_setIfInBounds_self_of_lt HZ.out]), m25.c1⟩
    have hHeld := hHeld0 (by decide)
    clear hHeld0
    clear hK K
    try simp only [Act.put, List.setIfInBounds_toArray, List.set_cons_zero, List.set_cons_succ]
    refine anyTill.alone (i := 6) rfl (by kernel_rfl) (by rfl) (fun K hK => ?_)
    go_simp
    refine hK.out _ _ (fun _ => ?_) (fun hHeld0 => ?_)
    · exact ⟨m15.cell (by rw [Array.getElem?_setIfInBounds_self_of_lt HZ.out]), m25.c1⟩
    have hHeld := hHeld0 (by decide)
    clear hHeld0
    clear hK K
    try simp only [Act.put, List.setIfInBounds_toArray, List.set_cons_zero, List.set_cons_succ]
    have c1 := m15.cell (by rw [Array.getElem?_setIfInBounds_self_of_lt HZ.out])
    have f1 := m15.frozen 34
    refine anyTill.alone (i := 7) rfl (by kernel_rfl) (by rfl) (fun K hK => ?_)
    go_simp
    refine hK.out _ _ (fun h => absurd h (by decide)) (fun hHeld => ?_)
    clear hK K
    try simp only [Act.put, List.setIfInBounds_toArray, List.set_cons_zero, List.set_cons_succ]
    refine anyTill.done (by kernel_rfl) ?_ _
    have gS := grown_set wx a1 34 (.slice (some ⟨g', 0, none⟩) (acc.length + 1) cap')
    have m16 := m15.put 34 (.slice (some ⟨g', 0, none⟩) (acc.length + 1) cap')
    rw [Array.setIfInBounds_setIfInBounds] at m16
    have m26 := m25.grown gS (fun e => by injection e; omega)
    have r6 : (wx.setCell ⟨a1, 34, none⟩ (.slice (some ⟨g', 0, none⟩) (acc.length + 1) cap')).ownsRow base 146 2 (.slice (some ⟨g', 0, none⟩) (acc.length + 1) cap') (acc ++ [x]).length (bindsC (acc ++ [x])) := by rw [bindsC_app, List.length_append]; exact ownsRow_setCell_below hown (a := ⟨a1, 34, none⟩) (by show a1 < base; omega) _
    have x6 := hX _ _ _ x5 gS (fun g e => .inr (.inl (by injection e with e; exact e.symm)))
    have hx6 := hx5.grown gS (fun g e => by injection e; omega)
    have hg6 := grown_row hg5 gS (fun g e => by injection e; omega)
    have HF := Lib.hid (LGives.of_ok (n := n) (pb := pb) (w0 := w0) (J := fun acc => LJ pb a1 a2 base 34 z 69 146 2 X acc.length (bindsC acc)) HMM.out hg6 ⟨_, m16, m26, r6, by simpa using b5, x6⟩ hx6)
    clear hHeld c1 f1
    go_wp2_with fail
    go_end0
    exact HF.out
theorem info_module : (Tryz.prog.info? 9).map (fun i => (i.zero, i.size, i.bytes)) = some (some (.string ⟨#[]⟩), 1, 16) := by kernel_rfl
theorem wp_build_module {o : Oper} {a : Act} {X : World} {K : Act → World → Prop} {Q : Exit → Act → World → Prop} {p : Operand} (ho : o.op = .buildSlice 38 1 #[(0, p)]) {x : By} (hx : a.eval p = .string ⟨x.toArray⟩) (h : K (a.put o.dst (.slice (some ⟨X.heap.size, 0, none⟩) 1 1)) (X.alloc (.cells #[.string ⟨x.toArray⟩] 9))) : o.wp Tryz.prog a X K Q := by
  unfold Oper.wp
  generalize a.eval = ev at hx ⊢
  unfold execOp
  rw [ho]
  go_simp
  exact h
set_option maxRecDepth 100000 in
set_option maxHeartbeats 2000000 in
theorem cl_module (n pb a1 a2 base : Nat) (z : Array Value) (hz : 2 < z.size) (w0 : World) (X : World → Prop) (hX : XK pb a1 base X) (hs : LS w0 n pb a1 a2 base) (l : List Tk) (acc : List By) (W : World) (hx : PX n pb l W) (hj : LJ pb a1 a2 base 2 z 46 9 1 X acc.length (strsC acc) W) (hg : w0.grownBy W (some pb)) (hb : acc.length ≤ 10000) :
    Calls Tryz.prog 144 #[.pointer (some ⟨a1, 0, none⟩), .pointer (some ⟨a2, 0, none⟩)] W (LGives n pb l (nameP >>= fun x => pure (acc ++ [x])) (fun acc => LJ pb a1 a2 base 2 z 46 9 1 X acc.length (strsC acc)) w0) := by
  obtain ⟨v, m1, m2, hrow, hbs, hxx⟩ := hj
  obtain ⟨i0, hi0, hz0, hz1, hz2⟩ := Fr.parts_of info_module
  obtain ⟨hs1, hs2, hs3, hs4, hs5, hs6, hs7, hs8, hs9⟩ := hs
  have HZ := Lib.hid hz
  have hD : Below W.heap.size W W.drew := (Below.refl _ W).drew
  have hxD := hx.below hD
  have m1D := m1.keep hD
  have m2D := m2.keep hD
  have rD := row_keep hrow hD
  have hgD := hg.trans (gb hD)
  have xD := hX _ _ none hxx (grown_below hD) (fun g e => by cases e)
  have bD : base ≤ W.drew.heap.size := hbs
  have c1 : W.drew.cell? ⟨a1, 2, none⟩ = some v := m1D.cell (by rw [Array.getElem?_setIfInBounds_self_of_lt hz])
  have c2 := m2D.c1
  clear hx hg m1 m2 hrow hbs hxx hz
  go_enter Tryz.func144, Tryz.ntmps144
  go_upto_region 0 with fail
  cases hm : nameP l with
  | no a =>
    have HMM := Lib.hid (bind_no (f := fun x => (pure (acc ++ [x]) : PM (List By))) hm)
    have HC := Lib.hid (fun W (hW : PX n pb l W) => rd_no (name_any n pb l W hW.ps) hm)
    clear hm
    refine wp_region_till (fun w' => w'.cell? ⟨a1, 2, none⟩ = some v ∧ w'.cell? ⟨a2, 0, none⟩ = some (.pointer (some ⟨pb, 0, none⟩))) 7 (by kernel_rfl) ⟨c1, c2⟩ (fun hHeld => ?_)
    clear hD c1 c2
    generalize W.drew = D at *
    refine anyTill.reads (i := 0) rfl (by kernel_rfl) (by kernel_rfl) (by kernel_rfl) (by kernel_rfl) (fun _ _ _ h => h) (by rfl) (v := ?_) ?_ (by assumption) ?_
    rotate_left
    · intro wz hz; (try dsimp only at hz); go_split_ands; go_simp; try with_reducible rfl
    simp only [Act.put, List.setIfInBounds_toArray, List.set_cons_zero, List.set_cons_succ]
    refine anyTill.reads (i := 1) rfl (by kernel_rfl) (by kernel_rfl) (by kernel_rfl) (by kernel_rfl) (fun _ _ _ h => h) (by rfl) (v := ?_) ?_ (by assumption) ?_
    rotate_left
    · intro wz hz; (try dsimp only at hz); go_split_ands; go_simp; try with_reducible rfl
    simp only [Act.put, List.setIfInBounds_toArray, List.set_cons_zero, List.set_cons_succ]
    refine anyTill.reads (i := 2) rfl (by kernel_rfl) (by kernel_rfl) (by kernel_rfl) (by kernel_rfl) (fun _ _ _ h => h) (by rfl) (v := ?_) ?_ (by assumption) ?_
    rotate_left
    · intro wz hz; (try dsimp only at hz); go_split_ands; go_simp; try with_reducible rfl
    simp only [Act.put, List.setIfInBounds_toArray, List.set_cons_zero, List.set_cons_succ]
    refine anyTill.alone (i := 3) rfl (by kernel_rfl) (by rfl) (fun K hK => ?_)
    go_wp2_with fail
    go_at_call 133
    refine (HC.out _ hxD).mono ?_
    rintro e w3 ⟨rfl, hg3⟩
    exact ⟨rfl, LGives.of_no HMM.out (hgD.trans hg3)⟩
  | ok x r =>
    have HMM := Lib.hid ((bind_ok (f := fun x => (pure (acc ++ [x]) : PM (List By))) hm).trans (pure_eq _ _))
    have HC := Lib.hid (fun W (hW : PX n pb l W) => rd_is (g := fun x : By => .string ⟨x.toArray⟩) (name_any n pb l W hW.ps) hW hm)
    clear hm
    refine wp_region_till (fun w' => w'.cell? ⟨a1, 2, none⟩ = some v ∧ w'.cell? ⟨a2, 0, none⟩ = some (.pointer (some ⟨pb, 0, none⟩))) 7 (by kernel_rfl) ⟨c1, c2⟩ (fun hHeld => ?_)
    clear hD c1 c2
    generalize W.drew = D at *
    refine anyTill.reads (i := 0) rfl (by kernel_rfl) (by kernel_rfl) (by kernel_rfl) (by kernel_rfl) (fun _ _ _ h => h) (by rfl) (v := ?_) ?_ (by assumption) ?_
    rotate_left
    · intro wz hz; (try dsimp only at hz); go_split_ands; go_simp; try with_reducible rfl
    simp only [Act.put, List.setIfInBounds_toArray, List.set_cons_zero, List.set_cons_succ]
    refine anyTill.reads (i := 1) rfl (by kernel_rfl) (by kernel_rfl) (by kernel_rfl) (by kernel_rfl) (fun _ _ _ h => h) (by rfl) (v := ?_) ?_ (by assumption) ?_
    rotate_left
    · intro wz hz; (try dsimp only at hz); go_split_ands; go_simp; try with_reducible rfl
    simp only [Act.put, List.setIfInBounds_toArray, List.set_cons_zero, List.set_cons_succ]
    refine anyTill.reads (i := 2) rfl (by kernel_rfl) (by kernel_rfl) (by kernel_rfl) (by kernel_rfl) (fun _ _ _ h => h) (by rfl) (v := ?_) ?_ (by assumption) ?_
    rotate_left
    · intro wz hz; (try dsimp only at hz); go_split_ands; go_simp; try with_reducible rfl
    simp only [Act.put, List.setIfInBounds_toArray, List.set_cons_zero, List.set_cons_succ]
    refine anyTill.alone (i := 3) rfl (by kernel_rfl) (by rfl) (fun K hK => ?_)
    go_wp2_with fail
    go_at_call 133
    refine (HC.out _ hxD).mono ?_
    rintro e w3 ⟨rfl, hx3, hg3⟩
    have m13 := m1D.grown hg3 (fun e => hs4 (by injection e))
    have m23 := m2D.grown hg3 (fun e => hs5 (by injection e))
    have r3 := rD.kept hg3 (.inr fun e => by have := (rD.lt _ e).1; omega)
    have x3 := hX _ _ _ xD hg3 (fun g e => .inl (by injection e with e; exact e.symm))
    refine hK.out _ _ (fun _ => ?_) (fun hHeld0 => ?_)
    · exact ⟨m13.cell (by rw [Array.getElem?_setIfInBounds_self_of_lt HZ.out]), m23.c1⟩
    have hHeld := hHeld0 (by decide)
    clear hHeld0
    clear hK K
    try simp only [Act.put, List.setIfInBounds_toArray, List.set_cons_zero, List.set_cons_succ]
    refine anyTill.alone (i := 4) rfl (by kernel_rfl) (by rfl) (fun K hK => ?_)
    refine wp_build_module rfl (by rfl) ?_
    have gA := World.grownBy_alloc w3 (.cells #[.string ⟨x.toArray⟩] 9) none
    have m14 := m13.grown gA (fun e => by cases e)
    have m24 := m23.grown gA (fun e => by cases e)
    have r4 := r3.alloc (.cells #[.string ⟨x.toArray⟩] 9)
    have x4 := hX _ _ _ x3 gA (fun g e => by cases e)
    refine hK.out _ _ (fun _ => ?_) (fun hHeld0 => ?_)
    · exact ⟨m14.cell (by rw [Array.getElem?_setIfInBounds_self_of_lt HZ.out]), m24.c1⟩
    have hHeld := hHeld0 (by decide)
    clear hHeld0
    clear hK K
    try simp only [Act.put, List.setIfInBounds_toArray, List.set_cons_zero, List.set_cons_succ]
    refine anyTill.alone (i := 5) rfl (by kernel_rfl) (by rfl) (fun K hK => ?_)
    refine wp_append_lies _ _ _ _ (by rfl) base 9 i0 _ 1 16 Tryz.underlying38 hi0 hz0 hz1 hz2 rfl (by decide) v acc.length (strsC acc) (by rfl) r4 ⟨w3.heap.size, 0, none⟩ 1 1 [.string ⟨x.toArray⟩] (by rfl) (by rfl) (World.news_of_block (cs := #[.string ⟨x.toArray⟩]) (t := 9) (fr := (0, 0)) (heap_alloc_new w3 _)) (by simp [Value.oneCell']) (by decide) (by unfold maxLen; omega) (by omega) (by have := hg3.size; simp; omega) _ rfl ?_
    intro g' cap' wx hown hgrow hat hlt
    have hro : ∀ g, v.ownBlock = some g → base ≤ g := fun g e => (r4.lt g e).1
    have m15 := m14.grown hgrow (fun e => by have := hro _ e.symm; omega)
    have m25 := m24.grown hgrow (fun e => by have := hro _ e.symm; omega)
    have x5 := hX _ _ _ x4 hgrow (fun g e => .inr (.inr (hro g e)))
    have hx5 := (hx3.alloc (.cells #[.string ⟨x.toArray⟩] 9)).grown hgrow (fun g e => by have := hro g e; omega)
    have hg5 := grown_row ((hgD.trans hg3).trans (World.grownBy_alloc w3 (.cells #[.string ⟨x.toArray⟩] 9) _)) hgrow (fun g e => by have := hro g e; omega)
    have b5 : base ≤ wx.heap.size := by have := hgrow.size; have := hg3.size; simp at *; omega
    refine hK.out _ _ (fun _ => ?_) (fun hHeld0 => ?_)
    · exact ⟨m15.cell (by rw [Array.getElem?_setIfInBounds_self_of_lt HZ.out]), m25.c1⟩
    have hHeld := hHeld0 (by decide)
    clear hHeld0
    clear hK K
    try simp only [Act.put, List.setIfInBounds_toArray, List.set_cons_zero, List.set_cons_succ]
    refine anyTill.alone (i := 6) rfl (by kernel_rfl) (by rfl) (fun K hK => ?_)
    go_simp
    refine hK.out _ _ (fun _ => ?_) (fun hHeld0 => ?_)
    · exact ⟨m15.cell (by rw [Array.getElem?_setIfInBounds_self_of_lt HZ.out]), m25.c1⟩
    have hHeld := hHeld0 (by decide)
    clear hHeld0
    clear hK K
    try simp only [Act.put, List.setIfInBounds_toArray, List.set_cons_zero, List.set_cons_succ]
    have c1 := m15.cell (by rw [Array.getElem?_setIfInBounds_self_of_lt HZ.out])
    have f1 := m15.frozen 2
    refine anyTill.alone (i := 7) rfl (by kernel_rfl) (by rfl) (fun K hK => ?_)
    go_simp
    refine hK.out _ _ (fun h => absurd h (by decide)) (fun hHeld => ?_)
    clear hK K
    try simp only [Act.put, List.setIfInBounds_toArray, List.set_cons_zero, List.set_cons_succ]
    refine anyTill.done (by kernel_rfl) ?_ _
    have gS := grown_set wx a1 2 (.slice (some ⟨g', 0, none⟩) (acc.length + 1) cap')
    have m16 := m15.put 2 (.slice (some ⟨g', 0, none⟩) (acc.length + 1) cap')
    rw [Array.setIfInBounds_setIfInBounds] at m16
    have m26 := m25.grown gS (fun e => by injection e; omega)
    have r6 : (wx.setCell ⟨a1, 2, none⟩ (.slice (some ⟨g', 0, none⟩) (acc.length + 1) cap')).ownsRow base 9 1 (.slice (some ⟨g', 0, none⟩) (acc.length + 1) cap') (acc ++ [x]).length (strsC (acc ++ [x])) := by rw [strsC_app, List.length_append]; exact ownsRow_setCell_below hown (a := ⟨a1, 2, none⟩) (by show a1 < base; omega) _
    have x6 := hX _ _ _ x5 gS (fun g e => .inr (.inl (by injection e with e; exact e.symm)))
    have hx6 := hx5.grown gS (fun g e => by injection e; omega)
    have hg6 := grown_row hg5 gS (fun g e => by injection e; omega)
    have HF := Lib.hid (LGives.of_ok (n := n) (pb := pb) (w0 := w0) (J := fun acc => LJ pb a1 a2 base 2 z 46 9 1 X acc.length (strsC acc)) HMM.out hg6 ⟨_, m16, m26, r6, by simpa using b5, x6⟩ hx6)
    clear hHeld c1 f1
    go_wp2_with fail
    go_end0
    exact HF.out

end Sy
end Go.Proofs.YtggeepimihhpjaaGreatDoor
