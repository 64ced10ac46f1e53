/- The next record, as the cursor of package journal reads it. -/
import Derived.Test.YtcdoalfpaldbmaaW3
import Derived.Deep.OwnRows
import Derived.ArgAppend
import Derived.Test.YtcdoalfpaldbmaaLA
namespace Go.Proofs.Ytcdoalfpaldbmaa
open Go.RowKit Sl Fr Dg
namespace Jn
set_option linter.unusedVariables false

theorem infoInt : (Try.prog.info? 3).map (fun i => (i.zero, i.size, i.bytes)) = some (some (.int .i64 0), 1, 8) := by kernel_rfl
theorem infoByte : (Try.prog.info? 5).map (fun i => (i.zero, i.size, i.bytes)) = some (some (.int .u8 0), 1, 1) := by kernel_rfl
/-- Block N has n cells, none frozen, cell i holding F i. -/
structure CellsV (w : World) (N n : Nat) (F : Nat → Value) : Prop where
  lt : N < w.heap.size
  cell : ∀ i, i < n → w.cell? ⟨N, i, none⟩ = some (F i)
  mark : ∀ i, i < n → w.frozen? ⟨N, i, none⟩ = false
section
variable {w w' : World} {N n : Nat} {F G : Nat → Value}
theorem CellsV.keep (h : CellsV w N n F) (hb : Below w.heap.size w w') : CellsV w' N n F :=
  ⟨Nat.lt_of_lt_of_le h.lt hb.size, fun i hi => (hb.cell (p := ⟨N, i, none⟩) h.lt).trans (h.cell i hi), fun i hi => (hb.frozen (p := ⟨N, i, none⟩) h.lt).trans (h.mark i hi)⟩
theorem CellsV.congr (h : CellsV w N n F) (e : ∀ i, i < n → F i = G i) : CellsV w N n G := ⟨h.lt, fun i hi => (h.cell i hi).trans (congrArg some (e i hi)), h.mark⟩
theorem CellsV.set (h : CellsV w N n F) {i : Nat} (hi : i < n) {v : Value} (e : G i = v) (e' : ∀ j, j ≠ i → G j = F j) : CellsV (w.setCell ⟨N, i, none⟩ v) N n G :=
  ⟨by simpa using h.lt, fun j hj => by
    by_cases hij : j = i
    · subst hij; rw [e]; exact World.cell?_setCell_same _ _ _ (h.cell j hj)
    · rw [e' j hij]
      exact (World.cell?_setCell_other _ _ _ _ (by intro e; have := congrArg Addr.off e; simp at this; omega)).trans (h.cell j hj), fun j hj => by rw [World.frozen?_setCell]; exact h.mark j hj⟩
end
theorem CellsV.made (w : World) (z : Value) (n : Nat) (t : TypeId) : CellsV (w.alloc (.cells (madeCells #[z] n) t)) w.heap.size n (fun _ => z) :=
  have h := World.rowIs_made w z n t
  ⟨by simp, fun i hi => h.cell hi, fun i _ => h.frozen i⟩
theorem CellsV.row {w : World} {N n base : Nat} {F : Nat → Value} (vs : List Value) (h : CellsV w N n F) (hb : base ≤ N) (hl : vs.length ≤ n) (e : ∀ i v, vs[i]? = some v → F i = v) : ArrF w base (some ⟨N, 0, none⟩) vs := fun _ =>
  ⟨N, 0, rfl, hb, h.lt, fun j u hu => by
    rw [Nat.zero_add, h.cell j (by have := (List.getElem?_eq_some_iff.1 hu).1; omega), e j u hu]⟩

/-- Every block but one lies as it lay. -/
structure Stp (C : Nat) (w w' : World) : Prop where
  size : w.heap.size ≤ w'.heap.size
  block : ∀ k, k < w.heap.size → k ≠ C → w'.heap[k]? = w.heap[k]?
  os : w'.os = w.os
  tape : w'.tape = w.tape
  output : w'.output = w.output
theorem Stp.of {C : Nat} {w w' : World} (h : Below w.heap.size w w') : Stp C w w' := ⟨h.size, fun k hk _ => h.block k hk, h.os, h.tape, h.output⟩
theorem Stp.trans {C : Nat} {a b c : World} (h : Stp C a b) (k : Stp C b c) : Stp C a c :=
  ⟨Nat.le_trans h.size k.size, fun i hi hc => (k.block i (Nat.lt_of_lt_of_le hi h.size) hc).trans (h.block i hi hc), k.os.trans h.os, k.tape.trans h.tape, k.output.trans h.output⟩
theorem Stp.set {C : Nat} (w : World) (i : Nat) (v : Value) : Stp C w (w.setCell ⟨C, i, none⟩ v) :=
  ⟨by simp, fun k hk hc => Below.heap_setCell _ _ _ k (by simpa using hc), rfl, rfl, rfl⟩
theorem Stp.below {C n : Nat} {w w' : World} (h : Stp C w w') (hC : n ≤ C) (hn : n ≤ w.heap.size) : Below n w w' := ⟨h.os, h.tape, h.output, h.size, fun k hk => h.block k (by omega) (by omega)⟩

def GiveNx (n₀ : Nat) (w : World) (C : Nat) (bs : List Int) (key : Int) (e : Ending) (w' : World) : Prop :=
  (∃ r A c, nxt key bs = some r ∧ e = .returned (.tuple #[.slice A r.length c, .bool true]) ∧ r.length ≤ c ∧ ArrF w' w.heap.size A (i64s r) ∧ Cur n₀ w' C (bs.drop (8 * (r.length + 3))) (tagI key r) ∧ Stp C w w') ∨
  (nxt key bs = none ∧ e = .returned (.tuple #[.slice none 0 0, .bool false]) ∧ Below w.heap.size w w')

/-- The elements as far as they are read. -/
def fillR (bs : List Int) (k : Nat) : Nat → Value := fun i => if i < k then .int .i64 (IntKind.i64.wrap (wordAt bs (i + 2))) else .int .i64 0

theorem wrap64_i64 (n : Int) : wrap64 n = IntKind.i64.wrap n := by unfold wrap64; exact (IntKind.wrap_i64 n).symm
set_option maxRecDepth 100000 in
set_option maxHeartbeats 2000000 in
theorem next_any {n₀ : Nat} (C : Nat) (bs : List Int) (key : Int) (w : World) (h : Cur n₀ w C bs key) :
    Calls Try.prog 43 #[.pointer (some ⟨C, 0, none⟩)] w (GiveNx n₀ w C bs key) := by
  have hel := elements_any C bs key w h
  have HC := Lib.hid h
  have hlt := h.lt
  go_enter Try.func43, Try.ntmps43
  go_upto_region 2 with (go_at_call 47; refine hel.mono ?_; rintro e w1 ⟨n, ok, rfl, hok, hno, hb1⟩)
  clear hel h
  have HC1 := Lib.hid (HC.out.keep hb1)
  have HOK := Lib.hid hok
  have HNO := Lib.hid hno
  clear hok hno HC
  have h5 := HC1.out.big
  obtain ⟨⟨A, cap, h1, h2, h3⟩, h4, _⟩ := HC1.out
  cases ok with
  | false =>
    go_wp2
    refine wp_region_later (by kernel_rfl) (by kernel_rfl) ?_
    repeat (go_big_quiet_step (fail))
    refine wpQuiet_nil ?_
    intro _ hw'
    obtain ⟨z, hw''⟩ := hw'
    subst hw''
    go_wp2
    go_ret2
    exact .inr ⟨if_neg (HNO.out (by simp)), rfl, hb1.trans (z.below.mono hb1.size)⟩
  | true =>
    obtain ⟨hn0, hn1, hn2, hn3, hn4⟩ := HOK.out (by simp)
    obtain ⟨m, rfl⟩ := Int.eq_ofNat_of_zero_le hn2
    have HN0 := Lib.hid hn0
    have HN3 := Lib.hid hn4
    clear hn0 hn4
    have hk : ∀ p : Later w1, p.val.cell? ⟨C, 0, none⟩ = some (.slice A bs.length cap) := fun p => (h1.keep p.below).get (i := 0) rfl
    have HE : Hid (∀ p : Later w1, Calls Try.prog 38 #[.int .i64 m] p.val fun e w' => e = .returned (.int .i64 (8 * ((m : Int) + 3))) ∧ p.val = w') := Lib.hid fun p => encodedBytes_any m p.val (by omega) (by omega)
    by_cases hsh : (bs.length : Int) < 8 * ((m : Int) + 3)
    · go_wp2
      refine wp_region_later (by kernel_rfl) (by kernel_rfl) ?_
      repeat (go_big_quiet_step ((go_at_call 38; with_reducible exact later_same (HE.out _))))
      refine wpQuiet_nil ?_
      intro _ hw'
      obtain ⟨z, hw''⟩ := hw'
      subst hw''
      go_wp2
      go_ret2
      exact .inr ⟨if_neg (fun hg => by have := hg.2.2.2.2.1; rw [← HN0.out] at this; omega), rfl, hb1.trans (z.below.mono hb1.size)⟩
    · go_wp2
      refine wp_region_later (by kernel_rfl) (by kernel_rfl) ?_
      repeat (go_big_quiet_step ((go_at_call 38; with_reducible exact later_same (HE.out _))))
      refine wpQuiet_nil ?_
      intro _ hw'
      obtain ⟨z, hw''⟩ := hw'
      subst hw''
      have hbz := hb1.trans (z.below.mono hb1.size)
      have HCz := Lib.hid (HC1.out.keep z.below)
      have hl8 : 8 * (m + 3) ≤ bs.length := by omega
      clear hk HE HC1 h1 h2 h3 h4 hb1 HNO HOK hsh
      generalize z.val = Z at *
      have hmk := run_make_row' (P := Try.prog) 29 3 (.int .i64 0) 8 Try.underlying29 infoInt rfl .i64 .i64 m (by omega) (by omega)
      have HM : Hid (CellsV (Z.alloc (.cells (madeCells #[.int .i64 0] m) 3)) Z.heap.size m (fillR bs 0)) := Lib.hid (CellsV.made Z _ m _)
      have HBM : Hid (Below Z.heap.size Z (Z.alloc (.cells (madeCells #[.int .i64 0] m) 3))) := Lib.hid ((Below.refl Z.heap.size Z).alloc (Nat.le_refl _) _)
      go_wp2
      go_loopg [30] m (fun g i wr => ∃ k : Nat, k ≤ m ∧ i = .int .i64 k ∧ g = m - k ∧ CellsV wr Z.heap.size m (fillR bs k) ∧ Below Z.heap.size Z wr)
      case atStart => exact ⟨0, Nat.zero_le _, rfl, rfl, HM.out, HBM.out⟩
      case round =>
        obtain ⟨k, hk, rfl, rfl, hC, hbl⟩ := hrel
        clear HM hmk HBM
        have HCk := Lib.hid hC
        have hcu := HCz.out.keep hbl
        clear hC
        by_cases hlt : k < m
        · have hm0 := HCk.out.mark k hlt
          have hc0 := HCk.out.cell k hlt
          have hwd := word_any C (k + 2) bs key wr hcu (by omega)
          rw [show ((k + 2 : Nat) : Int) = (k : Int) + 2 by omega] at hwd
          have hf : fillR bs (k + 1) k = .int .i64 (IntKind.i64.wrap (wordAt bs (k + 2))) := by unfold fillR; rw [if_pos (by omega)]
          have HF := Lib.hid hf
          generalize fillR bs k k = x at hc0
          generalize wordAt bs (k + 2) = wv at *
          clear hf hcu
          go_wp2_with (go_at_call 48; refine hwd.mono ?_; rintro e w' ⟨rfl, rfl⟩)
          go_roundg (m - (k + 1))
          case measure => omega
          case rel => exact ⟨k + 1, by omega, by go_num, rfl, HCk.out.set hlt (HF.out.trans (congrArg (Value.int .i64) (wrap64_i64 _).symm)) (fun j hj => by
              unfold fillR
              by_cases h1 : j < k
              · rw [if_pos h1, if_pos (by omega)]
              · rw [if_neg h1, if_neg (by omega)]), hbl.setCell (p := ⟨Z.heap.size, k, none⟩) (Nat.le_refl _) _⟩
        · obtain rfl : k = m := by omega
          have hrow : ArrF wr Z.heap.size (some ⟨Z.heap.size, 0, none⟩) (i64s (recAt bs k)) := HCk.out.row _ (Nat.le_refl _) (by rw [i64s_length, recAt_length]; exact Nat.le_refl _) (fun i v hv => by
            unfold i64s recAt at hv
            simp only [List.getElem?_map, Option.map_eq_some_iff] at hv
            obtain ⟨a, ⟨b, hb, rfl⟩, rfl⟩ := hv
            have hb' := List.getElem?_eq_some_iff.1 hb
            obtain ⟨h1, h2⟩ := hb'
            simp at h1 h2
            subst h2
            unfold fillR
            rw [if_pos h1])
          have hwd := word_any C (k + 2) bs key wr hcu (by omega)
          rw [show ((k + 2 : Nat) : Int) = (k : Int) + 2 by omega] at hwd
          have htg := tag_any key (some ⟨Z.heap.size, 0, none⟩) (recAt bs k) k wr (by rw [recAt_length]; omega) hrow.arr
          rw [recAt_length] at htg
          have HR := Lib.hid hrow
          have HW := Lib.hid (rfl : wordAt bs (k + 2) = wordAt bs (k + 2))
          generalize hsv : wordAt bs (k + 2) = sv at *
          have hk1 : wr.cell? ⟨C, 1, none⟩ = some (.int .u64 key) := by
            obtain ⟨⟨A', cap', g1, _, _⟩, _, _⟩ := hcu
            exact g1.get (i := 1) rfl
          have HU := Lib.hid hcu
          clear hrow HCk hcu
          go_upto_region 11 with (go_at_call 48; refine hwd.mono ?_; rintro e w' ⟨rfl, rfl⟩)
          clear hwd
          generalize htv : tagI key (recAt bs k) = tv at *
          have HSV := Lib.hid hsv
          have HTV := Lib.hid htv
          clear hsv htv
          by_cases heq : sv = tv
          · subst heq
            go_upto_region 13 with (go_at_call 24; refine htg.mono ?_; rintro e w2 ⟨rfl, hb2⟩)
            have hbw2 := hbz.trans ((hbl.trans (hb2.mono hbl.size)).mono hbz.size)
            have HU2 := Lib.hid (HU.out.keep hb2)
            have HR2 := Lib.hid (HR.out.keep hb2)
            clear htg hb2 HU HR hk1
            generalize w2 = Y at *
            obtain ⟨⟨A2, cap2, g1, g2, g3, g4⟩, _, _⟩ := HU2.out
            have G4 := Lib.hid g4
            clear g4
            have G1 := Lib.hid g1
            have G2 := Lib.hid g2
            obtain ⟨b2, o2, rfl, _, _⟩ := Byt.at (ArrX.arr g2) (by intro e; rw [e] at hl8; simp at hl8)
            have hl8i : 8 * ((k : Int) + 3) ≤ (bs.length : Int) := by omega
            have hl8c : 8 * ((k : Int) + 3) ≤ (cap2 : Int) := by omega
            have hl8z : 0 ≤ 8 * ((k : Int) + 3) := by omega
            have hl8t : (8 * ((k : Int) + 3)).toNat = 8 * (k + 3) := by omega
            have c0 := g1.get (i := 0) rfl
            have c1 := g1.get (i := 1) rfl
            have f0 := g1.mark (i := 0) (by simp)
            have f1 := g1.mark (i := 1) (by simp)
            have hEn : ∀ W : World, Calls Try.prog 38 #[.int .i64 k] W fun e w' => e = .returned (.int .i64 (8 * ((k : Int) + 3))) ∧ W = w' := fun W => encodedBytes_any k W (by omega) (by omega)
            have HE := Lib.hid hEn
            clear hEn g1 g2
            refine wp_region_when (fun w' => w'.cell? ⟨C, 0, none⟩ = some (.slice (some ⟨b2, o2, none⟩) bs.length cap2)) (fun i => i != 1 && i != 9 && Nat.blt i 9) (by kernel_rfl) ?_ (fun hHeld => ?_)
            · exact c0
            refine anyWhen.pure (i := 1) rfl (by rfl) (by kernel_rfl) (by kernel_rfl) (by kernel_rfl) (fun _ _ _ h => h) (by rfl) (v := ?_) ?_ ?_
            rotate_left
            · intro wz; go_simp; try with_reducible rfl
            simp only [Act.put, List.setIfInBounds_toArray, List.set_cons_zero, List.set_cons_succ]
            refine anyWhen.pure (i := 9) rfl (by rfl) (by kernel_rfl) (by kernel_rfl) (by kernel_rfl) (fun _ _ _ h => h) (by rfl) (v := ?_) ?_ ?_
            rotate_left
            · intro wz; go_simp; try with_reducible rfl
            simp only [Act.put, List.setIfInBounds_toArray, List.set_cons_zero, List.set_cons_succ]
            refine anyWhen.reads (i := 0) rfl (by kernel_rfl) (by kernel_rfl) (by kernel_rfl) (by kernel_rfl) (fun _ _ _ h => h) (by rfl) (v := ?_) ?_ (by assumption) ?_
            rotate_left
            · intro wz hz; (try dsimp only at hz); go_split_ands; go_simp; try with_reducible rfl
            simp only [Act.put, List.setIfInBounds_toArray, List.set_cons_zero, List.set_cons_succ]
            refine anyWhen.reads (i := 2) rfl (by kernel_rfl) (by kernel_rfl) (by kernel_rfl) (by kernel_rfl) (fun _ _ _ h => h) (by rfl) (v := ?_) ?_ (by assumption) ?_
            rotate_left
            · intro wz hz; (try dsimp only at hz); go_split_ands; go_simp; try with_reducible rfl
            simp only [Act.put, List.setIfInBounds_toArray, List.set_cons_zero, List.set_cons_succ]
            refine anyWhen.reads (i := 3) rfl (by kernel_rfl) (by kernel_rfl) (by kernel_rfl) (by kernel_rfl) (fun _ _ _ h => h) (by rfl) (v := ?_) ?_ (by assumption) ?_
            rotate_left
            · intro wz hz; (try dsimp only at hz); go_split_ands; go_simp; try with_reducible rfl
            simp only [Act.put, List.setIfInBounds_toArray, List.set_cons_zero, List.set_cons_succ]
            refine anyWhen.reads (i := 4) rfl (by kernel_rfl) (by kernel_rfl) (by kernel_rfl) (by kernel_rfl) (fun _ _ _ h => h) (by rfl) (v := ?_) ?_ (by assumption) ?_
            rotate_left
            · intro wz hz; (try dsimp only at hz); go_split_ands; go_simp; try with_reducible rfl
            simp only [Act.put, List.setIfInBounds_toArray, List.set_cons_zero, List.set_cons_succ]
            refine anyWhen.reads (i := 5) rfl (by kernel_rfl) (by kernel_rfl) (by kernel_rfl) (by kernel_rfl) (fun _ _ _ h => h) (by rfl) (v := ?_) ?_ (by assumption) ?_
            rotate_left
            · intro wz hz; (try dsimp only at hz); go_split_ands; go_simp; try with_reducible rfl
            simp only [Act.put, List.setIfInBounds_toArray, List.set_cons_zero, List.set_cons_succ]
            refine anyWhen.reads (i := 6) rfl (by kernel_rfl) (by kernel_rfl) (by kernel_rfl) (by kernel_rfl) (fun _ _ _ h => h) (by rfl) (v := ?_) ?_ (by assumption) ?_
            rotate_left
            · intro wz hz; (try dsimp only at hz); go_split_ands; go_simp; try with_reducible rfl
            simp only [Act.put, List.setIfInBounds_toArray, List.set_cons_zero, List.set_cons_succ]
            refine anyWhen.alone (i := 7) rfl (by kernel_rfl) (by rfl) (fun K hK => ?_)
            go_wp2_with fail
            go_at_call 38
            refine (HE.out _).mono ?_
            rintro e w' ⟨rfl, rfl⟩
            refine hK.out _ _ (fun _ => ?_) (fun hHeld0 => ?_)
            · exact c0
            have hHeld := hHeld0 (by decide)
            clear hHeld0
            clear hK K
            try simp only [Act.put, List.setIfInBounds_toArray, List.set_cons_zero, List.set_cons_succ]
            refine anyWhen.reads (i := 8) rfl (by kernel_rfl) (by kernel_rfl) (by kernel_rfl) (by kernel_rfl) (fun _ _ _ h => h) (by rfl) (v := ?_) ?_ (by assumption) ?_
            rotate_left
            · intro wz hz; (try dsimp only at hz); go_split_ands; go_simp; try with_reducible rfl
            simp only [Act.put, List.setIfInBounds_toArray, List.set_cons_zero, List.set_cons_succ]
            refine anyWhen.pure (i := 10) rfl (by rfl) (by kernel_rfl) (by kernel_rfl) (by kernel_rfl) (fun _ _ _ h => h) (by rfl) (v := ?_) ?_ ?_
            rotate_left
            · intro wz; go_simp; try with_reducible rfl
            simp only [Act.put, List.setIfInBounds_toArray, List.set_cons_zero, List.set_cons_succ]
            refine anyWhen.pure (i := 11) rfl (by rfl) (by kernel_rfl) (by kernel_rfl) (by kernel_rfl) (fun _ _ _ h => h) (by rfl) (v := ?_) ?_ ?_
            rotate_left
            · intro wz; go_simp; try with_reducible rfl
            simp only [Act.put, List.setIfInBounds_toArray, List.set_cons_zero, List.set_cons_succ]
            refine anyWhen.alone (i := 12) rfl (by kernel_rfl) (by rfl) (fun K hK => ?_)
            go_simp
            refine hK.out _ _ (fun h => absurd h (by decide)) (fun hHeld => ?_)
            clear hK K
            try simp only [Act.put, List.setIfInBounds_toArray, List.set_cons_zero, List.set_cons_succ]
            refine anyWhen.pure (i := 13) rfl (by rfl) (by kernel_rfl) (by kernel_rfl) (by kernel_rfl) (fun _ _ _ h => h) (by rfl) (v := ?_) ?_ ?_
            rotate_left
            · intro wz; go_simp; try with_reducible rfl
            simp only [Act.put, List.setIfInBounds_toArray, List.set_cons_zero, List.set_cons_succ]
            refine anyWhen.pure (i := 14) rfl (by rfl) (by kernel_rfl) (by kernel_rfl) (by kernel_rfl) (fun _ _ _ h => h) (by rfl) (v := ?_) ?_ ?_
            rotate_left
            · intro wz; go_simp; try with_reducible rfl
            simp only [Act.put, List.setIfInBounds_toArray, List.set_cons_zero, List.set_cons_succ]
            refine anyWhen.alone (i := 15) rfl (by kernel_rfl) (by rfl) (fun K hK => ?_)
            go_simp
            refine hK.out _ _ (fun h => absurd h (by decide)) (fun hHeld => ?_)
            clear hK K
            try simp only [Act.put, List.setIfInBounds_toArray, List.set_cons_zero, List.set_cons_succ]
            refine anyWhen.done (by kernel_rfl) ?_ _
            clear hHeld
            generalize hA3 : (if cap2 = 8 * (k + 3) then some (⟨b2, o2, none⟩ : Addr) else some ⟨b2, o2 + 8 * (k + 3), none⟩) = A3 at *
            go_wp2
            have hfin : GiveNx n₀ w C bs key (.returned (.tuple #[.slice (some ⟨Z.heap.size, 0, none⟩) k k, .bool true])) ((Y.setCell ⟨C, 0, none⟩ (.slice A3 (bs.length - 8 * (k + 3)) (cap2 - 8 * (k + 3)))).setCell ⟨C, 1, none⟩ (.int .u64 sv)).drew := by
              have hg : Good key bs (k : Int) := ⟨hn1, by omega, hn3, HN3.out, by rw [Int.toNat_natCast]; omega, by rw [Int.toNat_natCast, HSV.out, HTV.out]⟩
              have hlZ : w.heap.size ≤ Z.heap.size := hbz.size
              have hCZ : C < Z.heap.size := by omega
              have hdl : (bs.drop (8 * ((recAt bs k).length + 3))).length = bs.length - 8 * (k + 3) := by rw [List.length_drop, recAt_length]
              refine .inl ⟨recAt bs k, some ⟨Z.heap.size, 0, none⟩, k, by unfold nxt; rw [← HN0.out, if_pos hg, Int.toNat_natCast], by rw [recAt_length], by rw [recAt_length]; exact Nat.le_refl _, ?_, ⟨⟨A3, cap2 - 8 * (k + 3), ?_, ?_, ?_, ?_⟩, fun x hx => HU2.out.b8 x (List.mem_of_mem_drop hx), by have := HU2.out.big; omega⟩, ?_⟩
              · exact (((HR2.out.set (p := ⟨C, 0, none⟩) hCZ _).set (p := ⟨C, 1, none⟩) hCZ _).mono hlZ).keep (Below.refl _ _).drew
              · rw [hdl, HTV.out]
                exact (G1.out.s2 _ _).keep (Below.refl _ _).drew
              · refine ArrX.keep ?_ (Below.refl _ _).drew
                intro hne
                rw [recAt_length] at hne ⊢
                by_cases hcc : cap2 = 8 * (k + 3)
                · exact absurd (by rw [List.drop_of_length_le (by omega)]; rfl) hne
                · rw [if_neg hcc] at hA3
                  obtain ⟨b, o, e, hX, hlt, hc⟩ := G2.out (by intro e; have := congrArg List.length e; rw [u8s_length] at this; simp at this; rw [this] at hl8; simp at hl8)
                  simp only [Option.some.injEq, Addr.mk.injEq] at e
                  obtain ⟨rfl, rfl, _⟩ := e
                  have hbC : b2 ≠ C := fun e => hX (by rw [e])
                  refine ⟨b2, o2 + 8 * (k + 3), hA3.symm, hX, by simpa using hlt, fun j u hu => ?_⟩
                  rw [World.cell?_setCell_far _ _ _ _ (by simpa using Ne.symm hbC), World.cell?_setCell_far _ _ _ _ (by simpa using Ne.symm hbC), Nat.add_assoc]
                  refine hc _ _ ?_
                  unfold u8s at hu ⊢
                  rw [List.getElem?_map, List.getElem?_drop] at hu
                  rw [List.getElem?_map]
                  exact hu
              · rw [hdl]; omega
              · intro b o q e hne
                refine G4.out b2 o2 none rfl (by intro e; rw [e] at hl8; simp at hl8) |> fun h => ?_
                have : b = b2 := by
                  rw [← hA3] at e
                  split at e <;> (injection e with e; injection e with e1 _ _; exact e1.symm)
                rw [this]; exact h
              · exact (Stp.of hbw2).trans (((Stp.set Y 0 _).trans (Stp.set _ 1 _)).trans (Stp.of (Below.refl _ _).drew))
            go_ret2
            exact hfin
          · have hne : (sv == tv) = false := by simpa using heq
            go_wp2_with (go_at_call 24; refine htg.mono ?_; rintro e w2 ⟨rfl, hb2⟩)
            go_ret2
            exact .inr ⟨if_neg (fun hg => by have h6 := hg.2.2.2.2.2; rw [← HN0.out, Int.toNat_natCast, HSV.out, HTV.out] at h6; exact heq h6), rfl, hbz.trans ((hbl.trans (hb2.mono hbl.size)).mono hbz.size)⟩
end Jn
end Go.Proofs.Ytcdoalfpaldbmaa
