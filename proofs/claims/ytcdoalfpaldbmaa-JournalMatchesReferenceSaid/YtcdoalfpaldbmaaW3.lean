/- How many elements the record that follows has, as the cursor of package journal reads it. -/
import Derived.Test.YtcdoalfpaldbmaaW2
namespace Go.Proofs.Ytcdoalfpaldbmaa
open Go.RowKit Sl Fr Dg
namespace Jn
set_option linter.unusedVariables false

def GiveEl (w : World) (bs : List Int) (key : Int) (e : Ending) (w' : World) : Prop :=
  ∃ (n : Int) (ok : Bool), e = .returned (.tuple #[.int .i64 n, .bool ok]) ∧ (ok = true → n = nOf bs ∧ 24 ≤ bs.length ∧ 0 ≤ n ∧ n ≤ 256 ∧ wordAt bs 1 = tagI key [n]) ∧ (ok = false → ¬ Good key bs (nOf bs)) ∧ Below w.heap.size w w'

theorem tag_one (key n : Int) (w : World) : Calls Try.prog 24 #[.int .u64 key, .slice (some ⟨w.heap.size, 0, none⟩) 1 1] (w.alloc (.cells #[.int .i64 n] 3)) fun e w' => e = .returned (.int .u64 (tagI key [n])) ∧ Below (w.heap.size + 1) (w.alloc (.cells #[.int .i64 n] 3)) w' := by
  have h := tag_any key (some ⟨w.heap.size, 0, none⟩) [n] 1 (w.alloc (.cells #[.int .i64 n] 3)) (by simp) (fun _ => ⟨w.heap.size, 0, rfl, by simp, fun j u hu => by
    have : j = 0 := by
      have := (List.getElem?_eq_some_iff.1 hu).1
      simpa using this
    subst this
    exact (World.cell?_alloc_at _ 3 _ 0 rfl).trans (by simpa using hu)⟩)
  simpa using h

set_option maxHeartbeats 1000000 in
theorem elements_any {n₀ : Nat} (C : Nat) (bs : List Int) (key : Int) (w : World) (h : Cur n₀ w C bs key) :
    Calls Try.prog 47 #[.pointer (some ⟨C, 0, none⟩)] w (GiveEl w bs key) := by
  have hlt := h.lt
  have HC := Lib.hid h
  obtain ⟨⟨A, cap, h1, h2, h3⟩, h4, h5⟩ := h
  have hk : ∀ p : Later w, p.val.cell? ⟨C, 0, none⟩ = some (.slice A bs.length cap) := fun p => (h1.keep p.below).get (i := 0) rfl
  have he : ∀ p : Later w, Calls Try.prog 38 #[.int .i64 0] p.val fun e w' => e = .returned (.int .i64 24) ∧ p.val = w' := fun p => encodedBytes_any 0 p.val (by omega) (by omega)
  have HE := Lib.hid he
  clear he
  go_enter Try.func47, Try.ntmps47
  by_cases hl : bs.length < 24
  · go_wp2
    refine wp_region_later (by kernel_rfl) (by kernel_rfl) ?_
    repeat (go_big_quiet_step ((go_at_call 38; with_reducible exact later_same (HE.out _))))
    refine wpQuiet_nil ?_
    intro _ hw'
    obtain ⟨z, hw''⟩ := hw'
    subst hw''
    go_wp2
    go_ret2
    exact ⟨0, false, rfl, nofun, (fun _ hg => by have := hg.1; omega), z.below⟩
  · go_wp2
    refine wp_region_later (by kernel_rfl) (by kernel_rfl) ?_
    repeat (go_big_quiet_step ((go_at_call 38; with_reducible exact later_same (HE.out _))))
    refine wpQuiet_nil ?_
    intro _ hw'
    obtain ⟨z, hw''⟩ := hw'
    subst hw''
    have hCz := HC.out.keep z.below
    have hw0 := word_any C 0 bs key z.val hCz (by omega)
    have hn : IntKind.i64.wrap (wordAt bs 0) = nOf bs := rfl
    generalize wordAt bs 0 = v0 at *
    go_upto_region 4 with (go_at_call 48; refine hw0.mono ?_; rintro e w' ⟨rfl, rfl⟩)
    generalize hnn : nOf bs = n at *
    have hbz := z.below
    have hN := Lib.hid hnn
    clear hw0 hn hnn
    by_cases ha : n < 0
    · go_wp2
      go_ret2
      exact ⟨0, false, rfl, nofun, (fun _ hg => by have := hg.2.1; have := hN.out; omega), hbz⟩
    · by_cases hb : 256 < n
      · go_wp2
        go_ret2
        exact ⟨0, false, rfl, nofun, (fun _ hg => by have := hg.2.2.1; have := hN.out; omega), hbz⟩
      · go_wp2
        have hz1 : ∀ w', Below z.val.heap.size z.val w' → Calls Try.prog 48 #[.pointer (some ⟨C, 0, none⟩), .int .i64 1] w' fun e w'' => e = .returned (.int .u64 (wordAt bs 1)) ∧ w' = w'' := fun w' hb => word_any C 1 bs key w' (hCz.keep hb) (by omega)
        have HZ := Lib.hid hz1
        have hbzz := Lib.hid ((Below.refl z.val.heap.size z.val).drew)
        generalize hv1 : wordAt bs 1 = v1 at *
        generalize hz : z.val = Z at *
        have hltz := hbz.size
        have hck := (Below.refl _ Z).cell (p := ⟨C, 1, none⟩) (by omega)
        obtain ⟨⟨A', cap', g1, g2, g3⟩, _, _⟩ := hCz
        have hk1 := g1.get (i := 1) rfl
        clear hz1 hk HE HC h1 h2 g1 g2
        have hltC : C < Z.heap.size := by omega
        have hbD : Below Z.heap.size Z Z.drew := (Below.refl _ Z).drew
        refine wp_region_till (fun w' => w'.cell? ⟨C, 1, none⟩ = some (.int .u64 key)) 13 (by kernel_rfl) ?_ (fun hHeld => ?_)
        · exact hk1
        refine anyTill.reads (i := 0) rfl (by kernel_rfl) (by kernel_rfl) (by kernel_rfl) (by kernel_rfl) (fun _ _ _ h => h) (by rfl) (v := ?_) ?_ (by assumption) ?_
        rotate_left
        · intro wz hz; (try dsimp only at hz); go_split_ands; go_simp; try with_reducible rfl
        simp only [Act.put, List.setIfInBounds_toArray, List.set_cons_zero, List.set_cons_succ]
        refine anyTill.reads (i := 1) rfl (by kernel_rfl) (by kernel_rfl) (by kernel_rfl) (by kernel_rfl) (fun _ _ _ h => h) (by rfl) (v := ?_) ?_ (by assumption) ?_
        rotate_left
        · intro wz hz; (try dsimp only at hz); go_split_ands; go_simp; try with_reducible rfl
        simp only [Act.put, List.setIfInBounds_toArray, List.set_cons_zero, List.set_cons_succ]
        refine anyTill.reads (i := 3) rfl (by kernel_rfl) (by kernel_rfl) (by kernel_rfl) (by kernel_rfl) (fun _ _ _ h => h) (by rfl) (v := ?_) ?_ (by assumption) ?_
        rotate_left
        · intro wz hz; (try dsimp only at hz); go_split_ands; go_simp; try with_reducible rfl
        simp only [Act.put, List.setIfInBounds_toArray, List.set_cons_zero, List.set_cons_succ]
        refine anyTill.reads (i := 4) rfl (by kernel_rfl) (by kernel_rfl) (by kernel_rfl) (by kernel_rfl) (fun _ _ _ h => h) (by rfl) (v := ?_) ?_ (by assumption) ?_
        rotate_left
        · intro wz hz; (try dsimp only at hz); go_split_ands; go_simp; try with_reducible rfl
        simp only [Act.put, List.setIfInBounds_toArray, List.set_cons_zero, List.set_cons_succ]
        refine anyTill.reads (i := 5) rfl (by kernel_rfl) (by kernel_rfl) (by kernel_rfl) (by kernel_rfl) (fun _ _ _ h => h) (by rfl) (v := ?_) ?_ (by assumption) ?_
        rotate_left
        · intro wz hz; (try dsimp only at hz); go_split_ands; go_simp; try with_reducible rfl
        simp only [Act.put, List.setIfInBounds_toArray, List.set_cons_zero, List.set_cons_succ]
        refine anyTill.reads (i := 6) rfl (by kernel_rfl) (by kernel_rfl) (by kernel_rfl) (by kernel_rfl) (fun _ _ _ h => h) (by rfl) (v := ?_) ?_ (by assumption) ?_
        rotate_left
        · intro wz hz; (try dsimp only at hz); go_split_ands; go_simp; try with_reducible rfl
        simp only [Act.put, List.setIfInBounds_toArray, List.set_cons_zero, List.set_cons_succ]
        refine anyTill.reads (i := 7) rfl (by kernel_rfl) (by kernel_rfl) (by kernel_rfl) (by kernel_rfl) (fun _ _ _ h => h) (by rfl) (v := ?_) ?_ (by assumption) ?_
        rotate_left
        · intro wz hz; (try dsimp only at hz); go_split_ands; go_simp; try with_reducible rfl
        simp only [Act.put, List.setIfInBounds_toArray, List.set_cons_zero, List.set_cons_succ]
        refine anyTill.pair (i := 2) (j := 8) (by kernel_rfl) ?_ ?_
        · refine anyTill.step (i := 2) rfl (by rfl) (fun K hK => ?_)
          go_wp2_with fail
          go_at_call 48
          refine (HZ.out _ hbD).mono ?_
          rintro e w' ⟨rfl, rfl⟩
          refine hK.out _ _ (fun _ => ?_) (fun hHeld0 => ?_)
          · exact (hbD.cell (p := ⟨C, 1, none⟩) hltC).trans hk1
          have hHeld := hHeld0 (by decide)
          clear hHeld0
          clear hK K
          try simp only [Act.put, List.setIfInBounds_toArray, List.set_cons_zero, List.set_cons_succ]
          refine anyTill.alone (i := 8) rfl (by kernel_rfl) (by rfl) (fun K hK => ?_)
          go_simp
          have hbA : Below Z.heap.size Z (Z.drew.alloc (.cells #[.int .i64 n] 3)) := hbD.alloc (Nat.le_refl _) _
          refine hK.out _ _ (fun _ => ?_) (fun hHeld0 => ?_)
          · exact (hbA.cell (p := ⟨C, 1, none⟩) hltC).trans hk1
          have hHeld := hHeld0 (by decide)
          clear hHeld0
          clear hK K
          try simp only [Act.put, List.setIfInBounds_toArray, List.set_cons_zero, List.set_cons_succ]
          refine anyTill.alone (i := 9) rfl (by kernel_rfl) (by rfl) (fun K hK => ?_)
          have htag := tag_one key n Z.drew
          go_wp2_with fail
          go_at_call 24
          refine htag.mono ?_
          rintro e w5 ⟨rfl, hb5q⟩
          have hb5 : Below Z.heap.size Z w5 := hbA.trans (hb5q.mono (by simp))
          refine hK.out _ _ (fun _ => ?_) (fun hHeld0 => ?_)
          · exact (hb5.cell (p := ⟨C, 1, none⟩) hltC).trans hk1
          have hHeld := hHeld0 (by decide)
          clear hHeld0
          clear hK K
          try simp only [Act.put, List.setIfInBounds_toArray, List.set_cons_zero, List.set_cons_succ]
          refine anyTill.reads (i := 10) rfl (by kernel_rfl) (by kernel_rfl) (by kernel_rfl) (by kernel_rfl) (fun _ _ _ h => h) (by rfl) (v := ?_) ?_ (by assumption) ?_
          rotate_left
          · intro wz hz; (try dsimp only at hz); go_split_ands; go_simp; try with_reducible rfl
          simp only [Act.put, List.setIfInBounds_toArray, List.set_cons_zero, List.set_cons_succ]
          refine anyTill.reads (i := 11) rfl (by kernel_rfl) (by kernel_rfl) (by kernel_rfl) (by kernel_rfl) (fun _ _ _ h => h) (by rfl) (v := ?_) ?_ (by assumption) ?_
          rotate_left
          · intro wz hz; (try dsimp only at hz); go_split_ands; go_simp; try with_reducible rfl
          simp only [Act.put, List.setIfInBounds_toArray, List.set_cons_zero, List.set_cons_succ]
          refine anyTill.reads (i := 12) rfl (by kernel_rfl) (by kernel_rfl) (by kernel_rfl) (by kernel_rfl) (fun _ _ _ h => h) (by rfl) (v := ?_) ?_ (by assumption) ?_
          rotate_left
          · intro wz hz; (try dsimp only at hz); go_split_ands; go_simp; try with_reducible rfl
          simp only [Act.put, List.setIfInBounds_toArray, List.set_cons_zero, List.set_cons_succ]
          refine anyTill.done (by kernel_rfl) ?_ _
          go_wp2
          go_ret2
          exact ⟨n, v1 == tagI key [n], rfl, (fun h => ⟨hN.out.symm, by omega, by omega, by omega, hv1.trans (by simpa using h)⟩), (fun h hg => by have h3 := hg.2.2.2.1; rw [hN.out, hv1] at h3; rw [h3] at h; simp at h), hbz.trans (hb5.mono hbz.size)⟩
        · refine anyTill.step (i := 8) rfl (by rfl) (fun K hK => ?_)
          go_simp
          have hbA : Below Z.heap.size Z (Z.drew.alloc (.cells #[.int .i64 n] 3)) := hbD.alloc (Nat.le_refl _) _
          refine hK.out _ _ (fun _ => ?_) (fun hHeld0 => ?_)
          · exact (hbA.cell (p := ⟨C, 1, none⟩) hltC).trans hk1
          have hHeld := hHeld0 (by decide)
          clear hHeld0
          clear hK K
          try simp only [Act.put, List.setIfInBounds_toArray, List.set_cons_zero, List.set_cons_succ]
          refine anyTill.alone (i := 2) rfl (by kernel_rfl) (by rfl) (fun K hK => ?_)
          go_wp2_with fail
          go_at_call 48
          refine (HZ.out _ hbA).mono ?_
          rintro e w' ⟨rfl, rfl⟩
          refine hK.out _ _ (fun _ => ?_) (fun hHeld0 => ?_)
          · exact (hbA.cell (p := ⟨C, 1, none⟩) hltC).trans hk1
          have hHeld := hHeld0 (by decide)
          clear hHeld0
          clear hK K
          try simp only [Act.put, List.setIfInBounds_toArray, List.set_cons_zero, List.set_cons_succ]
          refine anyTill.alone (i := 9) rfl (by kernel_rfl) (by rfl) (fun K hK => ?_)
          have htag := tag_one key n Z.drew
          go_wp2_with fail
          go_at_call 24
          refine htag.mono ?_
          rintro e w5 ⟨rfl, hb5q⟩
          have hb5 : Below Z.heap.size Z w5 := hbA.trans (hb5q.mono (by simp))
          refine hK.out _ _ (fun _ => ?_) (fun hHeld0 => ?_)
          · exact (hb5.cell (p := ⟨C, 1, none⟩) hltC).trans hk1
          have hHeld := hHeld0 (by decide)
          clear hHeld0
          clear hK K
          try simp only [Act.put, List.setIfInBounds_toArray, List.set_cons_zero, List.set_cons_succ]
          refine anyTill.reads (i := 10) rfl (by kernel_rfl) (by kernel_rfl) (by kernel_rfl) (by kernel_rfl) (fun _ _ _ h => h) (by rfl) (v := ?_) ?_ (by assumption) ?_
          rotate_left
          · intro wz hz; (try dsimp only at hz); go_split_ands; go_simp; try with_reducible rfl
          simp only [Act.put, List.setIfInBounds_toArray, List.set_cons_zero, List.set_cons_succ]
          refine anyTill.reads (i := 11) rfl (by kernel_rfl) (by kernel_rfl) (by kernel_rfl) (by kernel_rfl) (fun _ _ _ h => h) (by rfl) (v := ?_) ?_ (by assumption) ?_
          rotate_left
          · intro wz hz; (try dsimp only at hz); go_split_ands; go_simp; try with_reducible rfl
          simp only [Act.put, List.setIfInBounds_toArray, List.set_cons_zero, List.set_cons_succ]
          refine anyTill.reads (i := 12) rfl (by kernel_rfl) (by kernel_rfl) (by kernel_rfl) (by kernel_rfl) (fun _ _ _ h => h) (by rfl) (v := ?_) ?_ (by assumption) ?_
          rotate_left
          · intro wz hz; (try dsimp only at hz); go_split_ands; go_simp; try with_reducible rfl
          simp only [Act.put, List.setIfInBounds_toArray, List.set_cons_zero, List.set_cons_succ]
          refine anyTill.done (by kernel_rfl) ?_ _
          go_wp2
          go_ret2
          exact ⟨n, v1 == tagI key [n], rfl, (fun h => ⟨hN.out.symm, by omega, by omega, by omega, hv1.trans (by simpa using h)⟩), (fun h hg => by have h3 := hg.2.2.2.1; rw [hN.out, hv1] at h3; rw [h3] at h; simp at h), hbz.trans (hb5.mono hbz.size)⟩
end Jn
end Go.Proofs.Ytcdoalfpaldbmaa
