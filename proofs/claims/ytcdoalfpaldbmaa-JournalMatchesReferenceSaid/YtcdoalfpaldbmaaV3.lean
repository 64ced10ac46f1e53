/- The record that the reference reads. -/
import Derived.Test.YtcdoalfpaldbmaaV2
namespace Go.Proofs.Ytcdoalfpaldbmaa
open Go.RowKit Sl Fr Dg
namespace Jn
set_option linter.unusedVariables false

theorem rword_at (A : Option Addr) (bs : List Int) (x : Int) (E i c : Nat) (w : World) (hx : x = (E : Int) + 8 * (i : Int)) (hA : Byt w A bs) (hb : B8 bs) (hi : E + 8 * i + 8 ≤ bs.length) (hl : bs.length ≤ 100000) :
    Calls Try.prog 36 #[.slice A bs.length c, .int .i64 x] w fun e w' => e = .returned (.int .u64 (wordAt (bs.drop E) i)) ∧ w = w' := by
  have := rword_any A bs x (E + 8 * i) c w (by omega) hA hb (by omega) (by omega)
  rwa [word_drop] at this

set_option maxRecDepth 20000 in
set_option maxHeartbeats 4000000 in
theorem rnext_any (A : Option Addr) (bs : List Int) (E : Nat) (key : Int) (c : Nat) (w : World) (hA : Byt w A bs) (hb8 : B8 bs) (hl : bs.length ≤ 100000) (hE : E ≤ bs.length) :
    Calls Try.prog 26 #[.slice A bs.length c, .int .i64 E, .int .u64 key] w (GiveP w E key (nxt key (bs.drop E))) := by
  obtain ⟨i0, hi, hz0, hz1, hz2⟩ := info_parts infoInt
  have hst := start1 w #[.slice none 0 0, .int .u64 0, .int .i64 0, .bool false] 55
  have hsz : (w.alloc (.cells #[.slice none 0 0, .int .u64 0, .int .i64 0, .bool false] 55)).heap.size = w.heap.size + 1 := World.size_alloc _ _
  have hD : (bs.drop E).length = bs.length - E := List.length_drop
  have hbD : B8 (bs.drop E) := fun x hx => hb8 x (List.mem_of_mem_drop hx)
  go_enter Try.func26, Try.ntmps26
  go_upto_region 1 with fail
  generalize w.alloc (.cells #[.slice none 0 0, .int .u64 0, .int .i64 0, .bool false] 55) = X at *
  obtain ⟨hbx, hbX⟩ := hst
  have HSZ := Lib.hid hsz
  clear hsz
  have HA := Lib.hid (hA.keep hbX)
  have H8 := Lib.hid hb8
  clear hA hb8
  by_cases h24 : bs.length - E < 24
  · have h24' : (bs.length : Int) - (E : Int) < 24 := by omega
    have HN := Lib.hid (nxt_not (key := key) (bs := bs.drop E) (fun h => by have := h.1; omega))
    clear h24
    obtain ⟨f0, f1, f2, f3⟩ := hbx.f4
    obtain ⟨k0, k1, k2, k3⟩ := hbx.c4
    have hs := Lib.hid (hbx.s4 (.slice none 0 0) (.int .u64 0) (.int .i64 0) (.bool false))
    have HBB := Lib.hid (below_s4 hbX (Nat.le_refl _) (.slice none 0 0) (.int .u64 0) (.int .i64 0) (.bool false))
    go_wp2
    generalize ((((X.setCell ⟨w.heap.size, 0, none⟩ (.slice none 0 0)).setCell ⟨w.heap.size, 1, none⟩ (.int .u64 0)).setCell ⟨w.heap.size, 2, none⟩ (.int .i64 0)).setCell ⟨w.heap.size, 3, none⟩ (.bool false)) = Y at *
    obtain ⟨s0, s1, s2, s3⟩ := hs.out.c4
    refine bodyPost_ret (v := .agg #[.slice none 0 0, .int .u64 0, .int .i64 0, .bool false]) (by simp [results, Try.results26, go_sem, s0, s1, s2, s3]) rfl ?_
    rw [HN.out]
    exact ⟨_, rfl, rfl, HBB.out⟩
  have h24' : ¬ (bs.length : Int) - (E : Int) < 24 := by omega
  go_upto_region 3 with fail
  clear h24'
  have hw0 := rword_at A bs (E : Int) E 0 c X (by omega) HA.out H8.out (by omega) hl
  have hw1 := rword_at A bs ((E : Int) + 8) E 1 c X (by omega) HA.out H8.out (by omega) hl
  have hu0 := wordAt_R hbD 0
  have HNB := Lib.hid (nOf_big hbD)
  have HNS := Lib.hid (fun n => nOf_small (bs := bs.drop E) (n := n))
  obtain ⟨u, hu⟩ : ∃ u, u = wordAt (bs.drop E) 0 := ⟨_, rfl⟩
  rw [← hu] at hw0 hu0 HNB HNS
  have hu1 : 0 ≤ u := hu0.1
  clear hu0 hu
  go_upto_region 4 with (go_at_call 36; refine hw0.mono ?_; rintro e w1 ⟨rfl, rfl⟩)
  clear hw0
  by_cases h256 : 256 < u
  · have HN := Lib.hid (nxt_not (key := key) (bs := bs.drop E) (fun h => HNB.out h256 ⟨h.2.1, h.2.2.1⟩))
    clear hw1
    obtain ⟨f0, f1, f2, f3⟩ := hbx.f4
    obtain ⟨k0, k1, k2, k3⟩ := hbx.c4
    have hs := Lib.hid (hbx.s4 (.slice none 0 0) (.int .u64 0) (.int .i64 0) (.bool false))
    have HBB := Lib.hid (below_s4 hbX (Nat.le_refl _) (.slice none 0 0) (.int .u64 0) (.int .i64 0) (.bool false))
    go_wp2
    generalize ((((X.setCell ⟨w.heap.size, 0, none⟩ (.slice none 0 0)).setCell ⟨w.heap.size, 1, none⟩ (.int .u64 0)).setCell ⟨w.heap.size, 2, none⟩ (.int .i64 0)).setCell ⟨w.heap.size, 3, none⟩ (.bool false)) = Y at *
    obtain ⟨s0, s1, s2, s3⟩ := hs.out.c4
    refine bodyPost_ret (v := .agg #[.slice none 0 0, .int .u64 0, .int .i64 0, .bool false]) (by simp [results, Try.results26, go_sem, s0, s1, s2, s3]) rfl ?_
    rw [HN.out]
    exact ⟨_, rfl, rfl, HBB.out⟩
  obtain ⟨n, rfl⟩ := Int.eq_ofNat_of_zero_le hu1
  have hn : n ≤ 256 := by omega
  have hno := HNS.out n rfl hn
  have HNO := Lib.hid hno
  clear hno HNB HNS hu1
  have hcv : IntKind.i64.wrap (n : Int) = (n : Int) := by rw [IntKind.wrap_i64]; omega
  have h256' : ¬ (256 : Int) < (n : Int) := by omega
  clear h256
  by_cases h3 : bs.length - E < 24 + 8 * n
  · have h3' : (bs.length : Int) - (E : Int) < 24 + 8 * (n : Int) := by omega
    have HN := Lib.hid (nxt_not (key := key) (bs := bs.drop E) (fun h => by have := h.2.2.2.2.1; rw [HNO.out] at this; omega))
    clear hw1
    obtain ⟨f0, f1, f2, f3⟩ := hbx.f4
    obtain ⟨k0, k1, k2, k3⟩ := hbx.c4
    have hs := Lib.hid (hbx.s4 (.slice none 0 0) (.int .u64 0) (.int .i64 0) (.bool false))
    have HBB := Lib.hid (below_s4 hbX (Nat.le_refl _) (.slice none 0 0) (.int .u64 0) (.int .i64 0) (.bool false))
    go_wp2
    generalize ((((X.setCell ⟨w.heap.size, 0, none⟩ (.slice none 0 0)).setCell ⟨w.heap.size, 1, none⟩ (.int .u64 0)).setCell ⟨w.heap.size, 2, none⟩ (.int .i64 0)).setCell ⟨w.heap.size, 3, none⟩ (.bool false)) = Y at *
    obtain ⟨s0, s1, s2, s3⟩ := hs.out.c4
    refine bodyPost_ret (v := .agg #[.slice none 0 0, .int .u64 0, .int .i64 0, .bool false]) (by simp [results, Try.results26, go_sem, s0, s1, s2, s3]) rfl ?_
    rw [HN.out]
    exact ⟨_, rfl, rfl, HBB.out⟩
  have h3' : ¬ (bs.length : Int) - (E : Int) < 24 + 8 * (n : Int) := by omega
  have htag := rtag_one key (n : Int) X
  have hbA := (Below.refl _ X).alloc (Nat.le_refl _) (.cells #[.int .i64 (n : Int)] 3)
  have hsA : (X.alloc (.cells #[.int .i64 (n : Int)] 3)).heap.size = X.heap.size + 1 := World.size_alloc _ _
  obtain ⟨t1, ht1⟩ : ∃ t, t = wordAt (bs.drop E) 1 := ⟨_, rfl⟩
  obtain ⟨t2, ht2⟩ : ∃ t, t = tagI key [(n : Int)] := ⟨_, rfl⟩
  rw [← ht1] at hw1
  rw [← ht2] at htag
  have HT1 := Lib.hid ht1
  have HT2 := Lib.hid ht2
  clear ht1 ht2
  by_cases h4 : t1 = t2
  case neg =>
    have h4' : (t1 != t2) = true := by rw [bne_iff_ne]; exact h4
    have HN := Lib.hid (nxt_not (key := key) (bs := bs.drop E) (fun h => by have := h.2.2.2.1; rw [HNO.out, ← HT1.out, ← HT2.out] at this; exact h4 this))
    clear h4
    go_upto_region 5 with (first
      | (go_at_call 36; refine hw1.mono ?_; rintro e w1 ⟨rfl, rfl⟩)
      | (go_at_call 37; refine htag.mono ?_; rintro e w1 ⟨rfl, rfl⟩))
    have hbx1 := hbx.keep hbA
    have hbX1 := hbX.trans (hbA.mono hbX.size)
    clear hw1 htag
    generalize X.alloc (.cells #[.int .i64 (n : Int)] 3) = X1 at *
    obtain ⟨f0, f1, f2, f3⟩ := hbx1.f4
    obtain ⟨k0, k1, k2, k3⟩ := hbx1.c4
    have hs := Lib.hid (hbx1.s4 (.slice none 0 0) (.int .u64 0) (.int .i64 0) (.bool false))
    have HBB := Lib.hid (below_s4 hbX1 (Nat.le_refl _) (.slice none 0 0) (.int .u64 0) (.int .i64 0) (.bool false))
    go_wp2
    generalize ((((X1.setCell ⟨w.heap.size, 0, none⟩ (.slice none 0 0)).setCell ⟨w.heap.size, 1, none⟩ (.int .u64 0)).setCell ⟨w.heap.size, 2, none⟩ (.int .i64 0)).setCell ⟨w.heap.size, 3, none⟩ (.bool false)) = Y at *
    obtain ⟨s0, s1, s2, s3⟩ := hs.out.c4
    refine bodyPost_ret (v := .agg #[.slice none 0 0, .int .u64 0, .int .i64 0, .bool false]) (by simp [results, Try.results26, go_sem, s0, s1, s2, s3]) rfl ?_
    rw [HN.out]
    exact ⟨_, rfl, rfl, HBB.out⟩
  have h4' : (t1 != t2) = false := by rw [bne_eq_false_iff_eq]; exact h4
  have H4 := Lib.hid h4
  clear h4
  go_upto_region 6 with (first
    | (go_at_call 36; refine hw1.mono ?_; rintro e w1 ⟨rfl, rfl⟩)
    | (go_at_call 37; refine htag.mono ?_; rintro e w1 ⟨rfl, rfl⟩))
  have hbx1 := hbx.keep hbA
  have hbX1 := hbX.trans (hbA.mono hbX.size)
  have HA1 := Lib.hid (HA.out.keep hbA)
  clear hw1 htag hbx HA h4'
  have hX1e : (X.alloc (.cells #[.int .i64 (n : Int)] 3)).heap.size = X.heap.size + 1 := by simp
  generalize X.alloc (.cells #[.int .i64 (n : Int)] 3) = X1 at *
  have hown0 : (X1.alloc (.cells #[] 3)).ownsRow (X.heap.size + 1) 3 1 (.slice (some ⟨X1.heap.size, 0, none⟩) 0 0) 0 (i64s (recAt (bs.drop E) 0)) :=
    ⟨rfl, .inr ⟨X1.heap.size, 0, #[], rfl, by rw [hX1e]; omega, World.alloc_heap_new X1 _, Nat.le_refl _, Nat.zero_le _, rfl, rfl⟩⟩
  skip
  have HO0 := Lib.hid hown0
  have HX1E := Lib.hid hX1e
  clear hsA
  have hbS := (Below.refl X1.heap.size X1).alloc (Nat.le_refl _) (.cells #[] 3)
  rw [hX1e] at hbS
  have HS := Lib.hid hbS
  have HX1 := Lib.hid hbX1
  clear hown0 hbS hbX hbX1 hX1e
  go_wp2
  go_loopw [8, 9] (fun v i wr => ∃ k : Nat, k ≤ n ∧ i = .int .i64 k ∧ wr.ownsRow (X.heap.size + 1) 3 1 v k (i64s (recAt (bs.drop E) k)) ∧ Below (X.heap.size + 1) X1 wr) (fun _ i _ => n - (intOf i).toNat)
  case atStart => exact ⟨0, Nat.zero_le _, rfl, HO0.out, HS.out⟩
  case round =>
    clear HO0 HS
    obtain ⟨k, hk, rfl, hown, hbl⟩ := hrel
    by_cases hlt : k < n
    · have hwx := rword_at A bs ((E : Int) + 16 + 8 * (k : Int)) E (k + 2) c wr (by omega) (HA1.out.keep (HX1E.out ▸ hbl)) H8.out (by omega) hl
      have hrs := recAt_succ (bs.drop E) k
      generalize wordAt (bs.drop E) (k + 2) = x at *
      have HRS := Lib.hid hrs
      clear hrs
      generalize hy : IntKind.i64.wrap x = y at *
      have hownA := ownsRow_block (W' := wr.alloc (.cells #[.int .i64 y] 3)) hown (fun g _ hlt => (Below.heap_alloc _ _ _ hlt))
      have hob := Lib.hid (row_own hown)
      have HBL := Lib.hid hbl
      have hsz := hbl.size
      clear hown
      go_wp2_with (first
        | (go_at_call 36; refine hwx.mono ?_; rintro e w1 ⟨rfl, rfl⟩)
        | (at_builtin; go_loud (refine wpList_append_own_at _ rfl _ _ 29 rfl (X.heap.size + 1) 3 i0 (.int .i64 0) 1 8 Try.underlying29 hi hz0 hz1 hz2 rfl (by decide) u8 k (i64s (recAt (bs.drop E) k)) rfl hownA ⟨wr.heap.size, 0, none⟩ 1 1 [.int .i64 y] rfl rfl (cell_one_new _ _ _) (by simp [Value.oneCell']) (by unfold maxLen; omega) (by omega) (by have := HX1E.out; simp; omega) ?_; intro v' w3 hown' hg3' hnil3 hob3; go_frame)))
      have hb3 : Below (X.heap.size + 1) X1 w3 := (HBL.out.alloc (by have := HX1E.out; omega) (.cells #[.int .i64 y] 3)).grown hg3' (by have := HX1E.out; simp; omega) hob.out
      rw [i64s_snoc, ← HRS.out] at hown'
      go_roundw
      case rel => exact ⟨k + 1, by omega, by go_num, hown', hb3⟩
      case measure => simp [intOf]; omega
    · obtain rfl : k = n := by omega
      have hblX : Below X1.heap.size X1 wr := by rw [HX1E.out]; exact hbl
      obtain ⟨A1, c1, hv1, r2, _, r4, _⟩ := row_forms hown
      subst hv1
      have htg := rtag_any key A1 (recAt (bs.drop E) k) c1 wr (by rw [recAt_length]; omega) (ArrF.arr r4)
      rw [recAt_length] at htg
      have hwe := rword_at A bs ((E : Int) + 16 + 8 * (k : Int)) E (k + 2) c wr (by omega) (HA1.out.keep hblX) H8.out (by omega) hl
      have hbxw := hbx1.keep hblX
      have hbw := HX1.out.trans (hblX.mono HX1.out.size)
      have R4 := Lib.hid r4
      obtain ⟨s1, hs1⟩ : ∃ t, t = wordAt (bs.drop E) (k + 2) := ⟨_, rfl⟩
      obtain ⟨s2, hs2⟩ : ∃ t, t = tagI key (recAt (bs.drop E) k) := ⟨_, rfl⟩
      rw [← hs1] at hwe
      rw [← hs2] at htg
      have HS1 := Lib.hid hs1
      have HS2 := Lib.hid hs2
      have hkn : ((k : Int)).toNat = k := by omega
      have HKN := Lib.hid hkn
      have hDl : 8 * (k + 3) ≤ (bs.drop E).length := by omega
      have HDL := Lib.hid hDl
      clear hs1 hs2 hown r4 hbx1 hkn hbl hblX HX1 HA1 hDl
      have hsz : w.heap.size < X.heap.size + 1 := by have := HSZ.out; omega
      by_cases h6 : s1 = s2
      case neg =>
        have h6' : (s1 != s2) = true := by rw [bne_iff_ne]; exact h6
        have HN := Lib.hid (nxt_not (key := key) (bs := bs.drop E) (fun h => by
          have := h.2.2.2.2.2
          rw [HNO.out, HKN.out, ← HS1.out, ← HS2.out] at this
          exact h6 this))
        clear h6
        go_upto_region 13 with (first
          | (go_at_call 36; refine hwe.mono ?_; rintro e w1 ⟨rfl, rfl⟩)
          | (go_at_call 37; refine htg.mono ?_; rintro e w1 ⟨rfl, rfl⟩))
        clear hwe htg
        obtain ⟨f0, f1, f2, f3⟩ := hbxw.f4
        obtain ⟨k0, k1, k2, k3⟩ := hbxw.c4
        have hs := Lib.hid (hbxw.s4 (.slice none 0 0) (.int .u64 0) (.int .i64 0) (.bool false))
        have HBB := Lib.hid (below_s4 hbw (Nat.le_refl _) (.slice none 0 0) (.int .u64 0) (.int .i64 0) (.bool false))
        go_wp2
        generalize ((((wr.setCell ⟨w.heap.size, 0, none⟩ (.slice none 0 0)).setCell ⟨w.heap.size, 1, none⟩ (.int .u64 0)).setCell ⟨w.heap.size, 2, none⟩ (.int .i64 0)).setCell ⟨w.heap.size, 3, none⟩ (.bool false)) = Y at *
        obtain ⟨s0, s1, s2, s3⟩ := hs.out.c4
        refine bodyPost_ret (v := .agg #[.slice none 0 0, .int .u64 0, .int .i64 0, .bool false]) (by simp [results, Try.results26, go_sem, s0, s1, s2, s3]) rfl ?_
        rw [HN.out]
        exact ⟨_, rfl, rfl, HBB.out⟩
      have h6' : (s1 != s2) = false := by rw [bne_eq_false_iff_eq]; exact h6
      have HG : Hid (nxt key (bs.drop E) = some (recAt (bs.drop E) k)) := Lib.hid (by
        have hg : Good key (bs.drop E) (nOf (bs.drop E)) := by
          rw [HNO.out]
          refine ⟨by omega, by omega, by omega, ?_, ?_, ?_⟩
          · rw [← HT1.out, ← HT2.out]; exact H4.out
          · rw [HKN.out]; exact HDL.out
          · rw [HKN.out, ← HS1.out, ← HS2.out]; exact h6
        unfold nxt
        rw [if_pos hg, HNO.out, HKN.out])
      have H6 := Lib.hid h6
      clear h6
      go_upto_region 14 with (first
        | (go_at_call 36; refine hwe.mono ?_; rintro e w1 ⟨rfl, rfl⟩)
        | (go_at_call 37; refine htg.mono ?_; rintro e w1 ⟨rfl, rfl⟩))
      clear htg h6'
      obtain ⟨f0, f1, f2, f3⟩ := hbxw.f4
      obtain ⟨k0, k1, k2, k3⟩ := hbxw.c4
      generalize hen : ((E : Int) + 16 + 8 * (k : Int) + 8) = en
      have HEN := Lib.hid hen
      have hs := Lib.hid (hbxw.s4 (.slice A1 k c1) (.int .u64 s1) (.int .i64 en) (.bool true))
      have HBB := Lib.hid (below_s4 hbw (Nat.le_refl _) (.slice A1 k c1) (.int .u64 s1) (.int .i64 en) (.bool true))
      have R5 := Lib.hid ((((ArrF.set R4.out (p := ⟨w.heap.size, 0, none⟩) hsz (.slice A1 k c1)).set (p := ⟨w.heap.size, 1, none⟩) hsz (.int .u64 s1)).set (p := ⟨w.heap.size, 2, none⟩) hsz (.int .i64 en)).set (p := ⟨w.heap.size, 3, none⟩) hsz (.bool true))
      go_wp2_with (go_at_call 36; refine hwe.mono ?_; rintro e w1 ⟨rfl, rfl⟩)
      try rw [hen]
      clear hen
      generalize (((wr.setCell ⟨w.heap.size, 0, none⟩ (.slice A1 k c1)).setCell ⟨w.heap.size, 1, none⟩ (.int .u64 s1)).setCell ⟨w.heap.size, 2, none⟩ (.int .i64 en)).setCell ⟨w.heap.size, 3, none⟩ (.bool true) = Y at *
      obtain ⟨s0, s1', s2', s3⟩ := hs.out.c4
      refine bodyPost_ret (v := .agg #[.slice A1 k c1, .int .u64 s1, .int .i64 en, .bool true]) (by simp [results, Try.results26, go_sem, s0, s1', s2', s3]) rfl ?_
      rw [HG.out]
      exact ⟨_, rfl, ⟨A1, c1, by rw [recAt_length, H6.out, HS2.out, show (E : Int) + 8 * ((k : Int) + 3) = en by have := HEN.out; omega], by rw [recAt_length]; exact r2, R5.out.mono (by omega)⟩, HBB.out⟩
end Jn
end Go.Proofs.Ytcdoalfpaldbmaa
