/- Statement DigestRefuses: the walk over trees of two leaves and more. -/
import Derived.Test.YtgjmhddekggilaaL6
namespace Go.Proofs.Ytgjmhddekggilaa
open Go.RowKit Go.BigFrame
namespace Dg

theorem below_row {w : World} {base n : Nat} {v : Value} {vs : List Value} (h : w.ownsRow base 24 1 v n vs) {g : Nat} (hg : v.ownBlock = some g) : base ≤ g := by
  obtain ⟨_, _, _, _, _, _, h5⟩ := row_forms h
  exact (h5 g hg).1

set_option maxRecDepth 100000 in
set_option maxHeartbeats 4000000 in
theorem refuses_more (A : Option Addr) (len cap : Nat) (l : List Int) (k0 k1 k2 v : Int) (w : World) (hl : RowIs .u64 w A len cap l) (h0 : 0 ≤ k0) (h0' : k0 ≤ 65535) (h1 : 0 ≤ k1) (h1' : k1 ≤ 65535) (h2 : 0 ≤ k2) (h2' : k2 ≤ 65535) (hv : R v) (hk : k0 % 300 ≠ 0) :
    Calls Try.prog 6 #[.slice A len cap, .agg #[.int .u16 k0, .int .u16 k1, .int .u16 k2], .int .u64 v] w fun e w' => e = .returned (.bool true) ∧ Below w.heap.size w w' := by
  go_enter Try.func6, Try.ntmps6
  go_wp2_with fail
  refine (examples_any _).mono ?_
  rintro e w1 ⟨rfl, hb1⟩
  have hB1 := ((Below.refl _ w).alloc (Nat.le_refl _) (.cells #[.int .u16 k0, .int .u16 k1, .int .u16 k2] 52)).trans (hb1.mono (by simp))
  have f0 : w1.cell? ⟨w.heap.size, 0, none⟩ = some (.int .u16 k0) := (hb1.cell (p := ⟨w.heap.size, 0, none⟩) (by simp)).trans (World.cell?_alloc_at _ 52 _ 0 rfl)
  have g1 : w1.cell? ⟨w.heap.size, 2, none⟩ = some (.int .u16 k2) := (hb1.cell (p := ⟨w.heap.size, 2, none⟩) (by simp)).trans (World.cell?_alloc_at _ 52 _ 2 rfl)
  have f1 : w1.cell? ⟨w.heap.size, 1, none⟩ = some (.int .u16 k1) := (hb1.cell (p := ⟨w.heap.size, 1, none⟩) (by simp)).trans (World.cell?_alloc_at _ 52 _ 1 rfl)
  have hw1 : w.heap.size < w1.heap.size := by have := hb1.size; simp at this; omega
  clear hb1
  go_wp2_with fail
  refine (grown_z A l cap len _ _ hl.hlen (by omega) (by omega) hl.hcap (hl.arr.keep hB1) hl.nil hl.range).mono ?_
  rintro e w2 ⟨zs, A2, c2, rfl, hz, hR, hc2, hF2, hb2⟩
  have hs1 := hB1.size
  have f2 := (hb2.cell (p := ⟨w.heap.size, 1, none⟩) hw1).trans f1
  have g2 := (hb2.cell (p := ⟨w.heap.size, 2, none⟩) hw1).trans g1
  have hw2 : w.heap.size < w2.heap.size := Nat.lt_of_lt_of_le hw1 hb2.size
  have hz1 : 2 ≤ zs.length := by omega
  have hz2 : zs.length ≤ 300 := by omega
  have hB2 := hB1.trans (hb2.mono hs1)
  clear f0 f1 g1 hz hb2 hl h0 h0' hB1 hs1 hw1 hk
  go_wp2_with fail
  have hm2 := Int.emod_lt_of_pos k1 (b := (zs.length : Int)) (by omega)
  have hm1 := Int.emod_nonneg k1 (b := (zs.length : Int)) (by omega)
  obtain ⟨j, hj⟩ : ∃ j : Nat, k1 % (zs.length : Int) = j := ⟨(k1 % (zs.length : Int)).toNat, (Int.toNat_of_nonneg hm1).symm⟩
  rw [hj] at hm2
  have hjl : j < zs.length := by omega
  simp only [hj]
  clear hj h1 h1' f2 hm1 hm2
  have hlead := lead_path zs.length zs j (Nat.le_refl _) hjl
  have hlen := path_len 9 zs j (by omega)
  have hpos := path_pos zs j hz1 hjl _ (Nat.le_refl _)
  have hPR := path_range zs.length zs j (Nat.le_refl _) hR
  have hxR : R (zs[j]?.getD 0) := by rw [List.getElem?_eq_getElem hjl]; exact hR _ (List.getElem_mem hjl)
  obtain ⟨b, o, rfl, hbl, hcs⟩ := hF2.arr.at_ (by intro h; subst h; simp at hz1)
  have hcx := hcs j hjl
  obtain ⟨P, hP⟩ : ∃ P, pathT zs j = P := ⟨_, rfl⟩
  obtain ⟨T, hT⟩ : ∃ T, rootT zs = T := ⟨_, rfl⟩
  generalize zs[j]?.getD 0 = x at *
  rw [hP] at hlead hlen hpos hPR
  rw [hT] at hlead
  have HP := Lib.hid hP
  have HT := Lib.hid hT
  have HLd := Lib.hid hlead
  have HPR := Lib.hid hPR
  clear hP hT hlead hPR hcs hR
  refine (root_T (some ⟨b, o, none⟩) zs zs.length c2 T w2 rfl HT (by omega) (by omega) hc2 hF2.arr).mono ?_
  rintro e w3 ⟨rfl, hb3⟩
  go_wp2_with fail
  refine (pathOf_P (some ⟨b, o, none⟩) zs zs.length c2 j P w3 rfl HP hjl (by omega) hc2 (hF2.arr.keep hb3)).mono ?_
  rintro e w4 ⟨A5, c5, rfl, hc5, hF5, hb4⟩
  have hs3 := hb3.size
  have hs4 := hb4.size
  have hcx4 := (hb4.cell (p := ⟨b, o + j, none⟩) (by simp; omega)).trans ((hb3.cell (p := ⟨b, o + j, none⟩) hbl).trans hcx)
  have g4 := (hb4.cell (p := ⟨w.heap.size, 2, none⟩) (by simp; omega)).trans ((hb3.cell (p := ⟨w.heap.size, 2, none⟩) hw2).trans g2)
  have hE := refAt_start (c5 := c5) (j := j) (x := x) (by omega) g4 hF5.arr ((hB2.trans (hb3.mono hB2.size)).trans (hb4.mono (by have := hB2.size; omega)))
  have hbl4 : b < w4.heap.size := by omega
  clear hb3 hb4 hF2 hcx g2 hB2 hbl hw2 hs3 hs4 g4
  have hcx5 := (World.cell?_alloc_lt (w := w4.alloc (.cells #[.slice A5 P.length c5, .int .i64 0] 42)) (.cells #[.int .i64 j, .int .u64 x] 29) ⟨b, o + j, none⟩ (by simp; omega)).trans ((World.cell?_alloc_lt (w := w4) (.cells #[.slice A5 P.length c5, .int .i64 0] 42) ⟨b, o + j, none⟩ hbl4).trans hcx4)
  have hw45 : w4.heap.size < ((w4.alloc (.cells #[.slice A5 P.length c5, .int .i64 0] 42)).alloc (.cells #[.int .i64 j, .int .u64 x] 29)).heap.size := by simp; omega
  obtain ⟨r, hr⟩ : ∃ r, chkE zs.length j v P T = r := ⟨_, rfl⟩
  obtain ⟨Q, hQ⟩ : ∃ Q, (v == x) = Q := ⟨_, rfl⟩
  have hrQ : (r == 0) = Q := by rw [← hr, chk_leaf zs.length j x v P T HLd.out hxR hv, hQ]
  have HCr := Lib.hid hr
  clear hr
  go_wp2
  clear hcx4
  generalize ((w4.alloc (.cells #[.slice A5 P.length c5, .int .i64 0] 42)).alloc (.cells #[.int .i64 j, .int .u64 x] 29)) = w5 at hE hcx5 hw45 ⊢
  obtain ⟨e1, e2, ⟨fa, fb⟩, ⟨fc, fd⟩, fe, ff, fg⟩ := id hE
  have la := Later.cell (w := w5) (a := ⟨w4.heap.size, 0, none⟩) fa (by simp; omega)
  have lb := Later.cell (w := w5) (a := ⟨w4.heap.size, 1, none⟩) fb (by simp; omega)
  have lc := Later.cell (w := w5) (a := ⟨w4.heap.size + 1, 0, none⟩) fc (by simp; omega)
  have ld := Later.cell (w := w5) (a := ⟨w4.heap.size + 1, 1, none⟩) fd (by simp; omega)
  have lx := Later.cell (w := w5) (a := ⟨b, o + j, none⟩) hcx5 (by simp; omega)
  have HF := Lib.hid ff
  clear fa fb fc fd fe ff fg hcx5
  refine wp_region_later (by kernel_rfl) (by kernel_rfl) ?_
  repeat (go_big_quiet_step ((first
    | (go_at_call 24; exact later_of (check_E T zs.length j v A5 P P.length c5 r _ rfl HCr (by omega) hjl hc5 (HF.out.keep (Later.below _)))))))
  refine wpQuiet_nil ?_
  intro _ hw'
  obtain ⟨q, hw''⟩ := hw'
  subst hw''
  have hE6 := hE.keep q.below
  generalize q.val = w6 at hE6 ⊢
  clear q la lb lc ld lx HF hE HCr hrQ hQ e1 e2 hw45 hbl4 hxR
  obtain ⟨i0, hi, hz0, hz1', hz2'⟩ := info_parts info24
  obtain ⟨e1, e2, ⟨fa, fb⟩, ⟨fc, fd⟩, fe, ff, fg⟩ := id hE6
  obtain ⟨b5, o5, rfl, hb5l, _⟩ := ff.at_ (by intro h; rw [h] at hpos; simp at hpos)
  have HO1 := Lib.hid (World.ownsRow_lit (base := w6.heap.size) (e := 24) (size := 1) w6 #[] 0 (Nat.le_refl _) (by unfold maxLen; omega) rfl)
  have HNP : Hid ((P.map (Value.int .u64)).length = P.length * 1) := Lib.hid (by simp)
  have HS1 := Lib.hid (Arr.src (ff.alloc (.cells #[] 24)))
  have HF6 := Lib.hid ff
  have fa0 := (World.cell?_alloc_lt w6 (.cells #[] 24) ⟨w4.heap.size, 0, none⟩ (by simp; omega)).trans fa
  clear fb fc fd fe ff fg
  go_wp2_with (first
    | (at_builtin; refine wpList_append_lies _ rfl (.tmp 67) (.tmp 69) 25 rfl w6.heap.size 24 i0 (.int .u64 0) 1 8 Try.underlying25 hi hz0 hz1' hz2' rfl (by decide) _ _ _ rfl HO1.out ⟨b5, o5, none⟩ P.length c5 (P.map (Value.int .u64)) rfl HNP.out HS1.out (by intro u hu; rw [List.mem_map] at hu; obtain ⟨y, _, rfl⟩ := hu; rfl) (by omega) (by unfold maxLen; omega) (by omega) (by simp; try omega) _ rfl ?_; intro g7 cap7 w7 hown7 hgrow7 _ _; simp only [Nat.zero_add, List.nil_append] at hown7; have hs7 : w6.heap.size < w7.heap.size := (by have := hgrow7.size; simp at this; omega))
    | (at_builtin; refine wpList_append_lies _ rfl (.tmp 70) (.tmp 72) 25 rfl w6.heap.size 24 i0 (.int .u64 0) 1 8 Try.underlying25 hi hz0 hz1' hz2' rfl (by decide) _ _ _ rfl (hown7.alloc _) ⟨w7.heap.size, 0, none⟩ 1 1 [.int .u64 v] rfl rfl (cell_one_new _ _ _) (by simp [Value.oneCell']) (by omega) (by unfold maxLen; omega) (by omega) (by simp; try omega) _ rfl ?_; intro g8 cap8 w8 hown8 hgrow8 _ _; have hb8 : Below w6.heap.size w6 w8 := ((((Below.refl _ w6).alloc (Nat.le_refl _) (.cells #[] 24)).grown hgrow7 (by simp) (fun g hg => below_row HO1.out hg)).alloc (Nat.le_of_lt hs7) (.cells #[.int .u64 v] 24)).grown hgrow8 (by simp; omega) (fun g hg => below_row (hown7.alloc (.cells #[.int .u64 v] 24)) hg); have hs8 := hb8.size; have fa8 := (World.cell?_alloc_lt w8 (.cells #[.int .u64 v] 24) ⟨w4.heap.size, 0, none⟩ (by simp; omega)).trans ((hb8.cell (p := ⟨w4.heap.size, 0, none⟩) (by simp; omega)).trans fa))
    | (at_builtin; refine wpList_append_lies _ rfl (.tmp 75) (.tmp 77) 25 rfl w8.heap.size 24 i0 (.int .u64 0) 1 8 Try.underlying25 hi hz0 hz1' hz2' rfl (by decide) _ _ _ rfl (World.ownsRow_lit (base := w8.heap.size) (e := 24) (size := 1) w8 #[.int .u64 v] 1 (Nat.le_refl _) (by unfold maxLen; omega) rfl) ⟨b5, o5, none⟩ P.length c5 (P.map (Value.int .u64)) rfl HNP.out (Arr.src ((HF6.out.keep hb8).alloc _)) (by intro u hu; rw [List.mem_map] at hu; obtain ⟨y, _, rfl⟩ := hu; rfl) (by omega) (by unfold maxLen; omega) (by omega) (by simp; try omega) _ rfl ?_; intro g9 cap9 w9 hown9 hgrow9 _ _; have hb9 : Below w8.heap.size w8 w9 := (((Below.refl _ w8).alloc (Nat.le_refl _) (.cells #[.int .u64 v] 24)).grown hgrow9 (by simp) (fun g hg => below_row (World.ownsRow_lit (base := w8.heap.size) (e := 24) (size := 1) w8 #[.int .u64 v] 1 (Nat.le_refl _) (by unfold maxLen; omega) rfl) hg)); have hE9 := (hE6.keep hb8).keep hb9; obtain ⟨_, _, ⟨ga, gb⟩, ⟨gc, gd⟩, ge, gf, _⟩ := id hE9))
  obtain ⟨hg8a, hg8b, hg8c⟩ := row_base hown8
  obtain ⟨hg9a, hg9b, hg9c⟩ := row_base hown9
  have hAl := (Arr.own hown8).2.keep hb9
  have hAf := (Arr.own hown9).2
  have HK1 : Hid (chkE zs.length j x (P ++ [v]) T = 6) := Lib.hid (chk_other_len _ _ _ P _ _ HLd.out (by simp))
  have HK2 : Hid (chkE zs.length j x ([v] ++ P) T = 6) := Lib.hid (chk_other_len _ _ _ P _ _ HLd.out (by simp))
  refine (check_E T zs.length j x (some ⟨g8, 0, none⟩) (P ++ [v]) (P.length + 1) cap8 6 w9 (by simp) HK1 (by omega) hjl hg8c (by simpa using hAl)).mono ?_
  rintro e w10 ⟨rfl, hb10⟩
  have hE10 := hE9.keep hb10
  have hAf10 := hAf.keep hb10
  clear ga gb gc gd ge gf hown7 hown8 hown9 hgrow7 hgrow8 hgrow9 hb8 hb9 hE9 hE6 HO1 HS1 HF6 fa0 fa8 hAl hAf hb10 hb5l e1 e2 hs7 hs8
  obtain ⟨_, _, ⟨ga, gb⟩, ⟨gc, gd⟩, ge, gf, _⟩ := id hE10
  go_wp2_with fail
  refine (check_E T zs.length j x (some ⟨g9, 0, none⟩) ([v] ++ P) (1 + P.length) cap9 6 w10 (by simp; omega) HK2 (by omega) hjl hg9c (by simpa using hAf10)).mono ?_
  rintro e w11 ⟨rfl, hb11⟩
  have hE11 := hE10.keep hb11
  clear ga gb gc gd ge gf hE10 hAf10 hb11 HK1 HK2
  obtain ⟨e1, e2, ⟨ga, gb⟩, ⟨gc, gd⟩, ge, gf, _⟩ := id hE11
  have hp0 : ((P.length : Int) == 0) = false := beq_eq_false_iff_ne.2 (by omega)
  have ht1 := Int.emod_nonneg k2 (b := (P.length : Int)) (by omega)
  have ht2 := Int.emod_lt_of_pos k2 (b := (P.length : Int)) (by omega)
  have hJl : (k2 % (P.length : Int)).toNat < P.length := by omega
  have HO4 := Lib.hid (World.ownsRow_lit (base := w11.heap.size) (e := 24) (size := 1) w11 #[] 0 (Nat.le_refl _) (by unfold maxLen; omega) rfl)
  have HS4 := Lib.hid (Arr.src (gf.alloc (.cells #[] 24)))
  have HG := Lib.hid gf
  have ga0 := (World.cell?_alloc_lt w11 (.cells #[] 24) ⟨w4.heap.size, 0, none⟩ (by simp; omega)).trans ga
  clear gf gc gd gb
  go_wp2_with (at_builtin; refine wpList_append_lies _ rfl (.tmp 114) (.tmp 116) 25 rfl w11.heap.size 24 i0 (.int .u64 0) 1 8 Try.underlying25 hi hz0 hz1' hz2' rfl (by decide) _ _ _ rfl HO4.out ⟨b5, o5, none⟩ P.length c5 (P.map (Value.int .u64)) rfl HNP.out HS4.out (by intro u hu; rw [List.mem_map] at hu; obtain ⟨y, _, rfl⟩ := hu; rfl) (by omega) (by unfold maxLen; omega) (by omega) (by simp; try omega) _ rfl ?_; intro g cap' w12 hown hgrow _ _; simp only [Nat.zero_add, List.nil_append] at hown; have hcg := row_cell hown hJl; have hfg := hown.frozenAt (k2 % (P.length : Int)).toNat)
  obtain ⟨t, ht⟩ : ∃ t : Nat, k2 % (P.length : Int) = t := ⟨(k2 % (P.length : Int)).toNat, (Int.toNat_of_nonneg ht1).symm⟩
  rw [ht, Int.toNat_natCast] at hJl
  simp only [ht, Int.toNat_natCast]
  clear hcg hfg HO4 HS4 ht1 ht2 h2 h2' ht ga ge ga0
  have hrow4 := row_store (j := t) hown v
  obtain ⟨hg1, hg2, hgc⟩ := row_base hrow4
  have hb13 : Below w11.heap.size w11 (w12.setCell ⟨g, t, none⟩ (.int .u64 v)) := (((Below.refl _ w11).alloc (Nat.le_refl _) _).grown hgrow (by simp) (fun g' hg' => by have h5 : some w11.heap.size = some g' := hg'; injection h5 with h5; omega)).setCell (p := ⟨g, t, none⟩) hg1 _
  have hE13 := hE11.keep hb13
  have hAo := (Arr.own hrow4).2
  generalize w12.setCell ⟨g, t, none⟩ (.int .u64 v) = w13 at *
  clear hrow4 hown hgrow hb13 hE11 HG e1 e2
  obtain ⟨e1, e2, ⟨fa, fb⟩, ⟨fc, fd⟩, fe, ff, fg⟩ := id hE13
  obtain ⟨b6, o6, e6, hbl6, hcs6⟩ := ff.at_ (by intro h; rw [h] at hpos; simp at hpos)
  simp only [Option.some.injEq, Addr.mk.injEq, and_true] at e6
  obtain ⟨rfl, rfl⟩ := e6
  have hcy := hcs6 t hJl
  have hyy := chk_other zs.length j x v P t T HLd.out hJl hv HPR.out
  generalize P[t]?.getD 0 = y at hcy hyy
  obtain ⟨r, hr⟩ : ∃ r, chkE zs.length j x (P.set t v) T = r := ⟨_, rfl⟩
  obtain ⟨Q, hQ⟩ : ∃ Q, (v == y) = Q := ⟨_, rfl⟩
  have hrQ : (r == 0) = Q := by rw [← hr, hyy, hQ]
  have HCr := Lib.hid hr
  have HK3 : Hid (chkE zs.length j x (P.take (P.length - 1)) T = 6) := Lib.hid (chk_other_len _ _ _ P _ _ HLd.out (by simp; omega))
  have HLs : Hid ((P.set t v).length = P.length) := Lib.hid (by simp)
  have HLt : Hid ((P.take (P.length - 1)).length = P.length - 1) := Lib.hid (by simp)
  have la := Later.cell (w := w13) (a := ⟨w4.heap.size, 0, none⟩) fa (by simp; omega)
  have lb := Later.cell (w := w13) (a := ⟨w4.heap.size, 1, none⟩) fb (by simp; omega)
  have lc := Later.cell (w := w13) (a := ⟨w4.heap.size + 1, 0, none⟩) fc (by simp; omega)
  have ld := Later.cell (w := w13) (a := ⟨w4.heap.size + 1, 1, none⟩) fd (by simp; omega)
  have lx := Later.cell (w := w13) (a := ⟨b5, o5 + t, none⟩) hcy hbl6
  have HF := Lib.hid ff
  have HFt : Hid (Arr w13 (some ⟨b5, o5, none⟩) ((P.take (P.length - 1)).map (Value.int .u64))) := Lib.hid (by rw [List.map_take]; exact ff.take _)
  have HAo := Lib.hid hAo
  have HBe := Lib.hid fg
  clear fa fb fc fd fe ff fg hcs6 hcy hyy hr hAo hE13
  refine wp_region_later (by kernel_rfl) (by kernel_rfl) ?_
  repeat (go_big_quiet_step ((first
    | (go_at_call 24; ((with_reducible refine later_of (check_E T zs.length j x (some ⟨g, 0, none⟩) (P.set t v) P.length cap' r _ HLs.out HCr (by omega) hjl hgc ?_)); exact HAo.out.keep (Later.below _)))
    | (go_at_call 24; ((with_reducible refine later_of (check_E T zs.length j x (some ⟨b5, o5, none⟩) (P.take (P.length - 1)) (P.length - 1) c5 6 _ HLt.out HK3 (by omega) hjl (by omega) ?_)); exact HFt.out.keep (Later.below _))))))
  refine wpQuiet_nil ?_
  intro _ hw'
  obtain ⟨q, hw''⟩ := hw'
  subst hw''
  go_wp2
  go_ret
  exact ⟨rfl, HBe.out.trans (q.below.mono HBe.out.size)⟩

end Dg
end Go.Proofs.Ytgjmhddekggilaa
