/- Statement DigestChanges: the walk. -/
import Derived.Test.YtgjmhddekggilaaL0
namespace Go.Proofs.Ytgjmhddekggilaa
open Go.RowKit Go.BigFrame
namespace Dg

theorem Arr.src {w : World} {b o : Nat} {vs : List Value} (h : Arr w (some ⟨b, o, none⟩) vs) : ∀ j u, vs[j]? = some u → w.cell? ((⟨b, o, none⟩ : Addr).add j) = some u := fun j u hu => by
  obtain ⟨b', o', e, _, hc⟩ := h (by intro h0; rw [h0] at hu; simp at hu)
  simp only [Option.some.injEq, Addr.mk.injEq, and_true] at e
  obtain ⟨rfl, rfl⟩ := e
  have e0 : (⟨b, o, none⟩ : Addr).add j = ⟨b, o + j, none⟩ := by
    rcases Nat.eq_zero_or_pos j with hj0 | hj0
    · subst hj0; rfl
    · simp [Addr.add, Nat.ne_of_gt hj0]
  rw [e0]
  exact hc j u hu

/-- A row that the call itself made, one digest of it stored. -/
theorem row_store {w : World} {base g c n j : Nat} {zs : List Int} (h : w.ownsRow base 24 1 (.slice (some ⟨g, 0, none⟩) n c) n (zs.map (Value.int .u64))) (v : Int) :
    (w.setCell ⟨g, j, none⟩ (.int .u64 v)).ownsRow base 24 1 (.slice (some ⟨g, 0, none⟩) n c) n ((zs.set j v).map (Value.int .u64)) := by
  have h2 := h.stored j (.int .u64 v)
  rw [List.map_set]
  exact h2.1

theorem row_cell {w : World} {base g c n j : Nat} {zs : List Int} (h : w.ownsRow base 24 1 (.slice (some ⟨g, 0, none⟩) n c) n (zs.map (Value.int .u64))) (hj : j < zs.length) :
    w.cell? ⟨g, j, none⟩ = some (.int .u64 (zs[j]?.getD 0)) := by
  have hn : zs.length = n := by have := h.1; simpa using this
  rw [h.cellAt j (by omega), List.getElem?_map, List.getElem?_eq_getElem hj]
  rfl

theorem row_base {w : World} {base g c n : Nat} {vs : List Value} (h : w.ownsRow base 24 1 (.slice (some ⟨g, 0, none⟩) n c) n vs) : base ≤ g ∧ g < w.heap.size ∧ n ≤ c := by
  rcases h.2 with ⟨h', _⟩ | ⟨g', cap', cur, h', hb, hg, hnc, _⟩
  · cases h'
  · injection h' with h1 h2 h3
    injection h1 with h1
    injection h1 with h1
    subst h1
    subst h3
    refine ⟨hb, ?_, hnc⟩
    rcases Nat.lt_or_ge g w.heap.size with hlt | hge
    · exact hlt
    · rw [Array.getElem?_eq_none hge] at hg; cases hg

theorem pathOf_P (A : Option Addr) (zs : List Int) (n cap : Nat) (j : Nat) (P : List Int) (w : World) (hn : zs.length = n) (hP : Hid (pathT zs j = P)) (hj : j < n) (hlen : n ≤ 4096) (hcap : n ≤ cap) (hA : Arr w A (zs.map (Value.int .u64))) :
    Calls Try.prog 21 #[.slice A n cap, .int .i64 j] w (RetP w P P.length) := by
  have e := hP.out
  subst e
  subst hn
  exact pathOf_yes A zs cap j w hj (by omega) hcap hA

theorem root_T (A : Option Addr) (zs : List Int) (n cap : Nat) (T : Int) (w : World) (hn : zs.length = n) (hT : Hid (rootT zs = T)) (h0 : 0 < n) (hlen : n ≤ 4096) (hcap : n ≤ cap) (hA : Arr w A (zs.map (Value.int .u64))) :
    Calls Try.prog 19 #[.slice A n cap] w fun e w' => e = .returned (.int .u64 T) ∧ Below w.heap.size w w' := by
  have e := hT.out
  subst e
  subst hn
  exact root_some A zs cap w h0 (by omega) hcap hA

theorem check_E (root : Int) (n i : Nat) (d : Int) (A : Option Addr) (P : List Int) (m c : Nat) (r : Int) (w : World) (hm : P.length = m) (hr : Hid (chkE n i d P root = r)) (hn : n ≤ 4096) (hi : i < n) (hcap : m ≤ c) (hA : Arr w A (P.map (Value.int .u64))) :
    Calls Try.prog 24 #[.int .u64 root, .agg #[.int .i64 n, .slice A m c], .agg #[.int .i64 i, .int .u64 d]] w fun e w' => e = .returned (.int .i64 r) ∧ Below w.heap.size w w' := by
  have e := hr.out
  subst e
  subst hm
  exact checkL_run root n i d A P c w hn hi hcap hA

theorem same_P (A B : Option Addr) (P : List Int) (n c c' : Nat) (w : World) (hn : P.length = n) (hlen : n ≤ 4096) (hA : Arr w A (P.map (Value.int .u64))) (hB : Arr w B (P.map (Value.int .u64))) :
    Calls Try.prog 23 #[.slice A n c, .slice B n c'] w fun e w' => e = .returned (.bool true) ∧ Below w.heap.size w w' := by
  subst hn
  refine (same_any A B P P c c' w (by omega) hA hB).mono ?_
  rintro e w' ⟨rfl, hb⟩
  exact ⟨by simp, hb⟩

set_option maxHeartbeats 2000000 in
theorem changes_walk (A : Option Addr) (len cap : Nat) (l : List Int) (k0 k1 v : Int) (w : World) (hl : RowIs .u64 w A len cap l) (h0 : 0 ≤ k0) (h0' : k0 ≤ 65535) (h1 : 0 ≤ k1) (h1' : k1 ≤ 65535) (hv : R v) :
    Calls Try.prog 7 #[.slice A len cap, .agg #[.int .u16 k0, .int .u16 k1], .int .u64 v] w fun e w' => e = .returned (.bool true) ∧ Below w.heap.size w w' := by
  go_enter Try.func7, Try.ntmps7
  go_wp2_with fail
  refine (examples_any _).mono ?_
  rintro e w1 ⟨rfl, hb1⟩
  have hB1 := ((Below.refl _ w).alloc (Nat.le_refl _) (.cells #[.int .u16 k0, .int .u16 k1] 49)).trans (hb1.mono (by simp))
  have f0 : w1.cell? ⟨w.heap.size, 0, none⟩ = some (.int .u16 k0) := (hb1.cell (p := ⟨w.heap.size, 0, none⟩) (by simp)).trans (World.cell?_alloc_at _ 49 _ 0 rfl)
  have f1 : w1.cell? ⟨w.heap.size, 1, none⟩ = some (.int .u16 k1) := (hb1.cell (p := ⟨w.heap.size, 1, none⟩) (by simp)).trans (World.cell?_alloc_at _ 49 _ 1 rfl)
  have hw1 : w.heap.size < w1.heap.size := by have := hb1.size; simp at this; omega
  clear hb1
  go_wp2_with fail
  refine (grown_z A l cap len _ _ hl.hlen (by omega) (by omega) hl.hcap (hl.arr.keep hB1) hl.nil hl.range).mono ?_
  rintro e w2 ⟨zs, A2, c2, rfl, hz, hR, hc2, hF2, hb2⟩
  have hs1 := hB1.size
  have f2 := (hb2.cell (p := ⟨w.heap.size, 1, none⟩) hw1).trans f1
  have hz1 : 1 ≤ zs.length := by omega
  have hz2 : zs.length ≤ 300 := by omega
  have hB2 := hB1.trans (hb2.mono hs1)
  clear f0 f1 hz hb2 hl h0 h0' hB1 hs1 hw1
  obtain ⟨i0, hi, hz0, hz1', hz2'⟩ := info_parts info24
  obtain ⟨b, o, rfl, hbl, hcs⟩ := hF2.arr.at_ (by intro h; subst h; simp at hz1)
  have HO := Lib.hid (World.ownsRow_lit (base := w2.heap.size) (e := 24) (size := 1) w2 #[] 0 (Nat.le_refl _) (by unfold maxLen; omega) rfl)
  have HN : Hid ((zs.map (Value.int .u64)).length = zs.length * 1) := Lib.hid (by simp)
  have HC : Hid (∀ j u, (zs.map (Value.int .u64))[j]? = some u → (w2.alloc (.cells #[] 24)).cell? ((⟨b, o, none⟩ : Addr).add j) = some u) := Lib.hid (Arr.src (hF2.arr.alloc _))
  have hm2 := Int.emod_lt_of_pos k1 (b := (zs.length : Int)) (by omega)
  have hm1 := Int.emod_nonneg k1 (b := (zs.length : Int)) (by omega)
  have hJl : (k1 % (zs.length : Int)).toNat < zs.length := by omega
  go_wp2_with (at_builtin; refine wpList_append_lies _ rfl _ _ 25 rfl w2.heap.size 24 i0 (.int .u64 0) 1 8 Try.underlying25 hi hz0 hz1' hz2' rfl (by decide) _ _ _ rfl HO.out ⟨b, o, none⟩ zs.length c2 (zs.map (Value.int .u64)) rfl HN.out HC.out (by intro u hu; rw [List.mem_map] at hu; obtain ⟨x, _, rfl⟩ := hu; rfl) (by omega) (by unfold maxLen; omega) (by omega) (by simp) _ rfl ?_; intro g cap' w3 hown hgrow _ _; simp only [Nat.zero_add, List.nil_append] at hown; have hcg := row_cell hown hJl; have hfg := hown.frozenAt (k1 % (zs.length : Int)).toNat)
  obtain ⟨j, hj⟩ : ∃ j : Nat, k1 % (zs.length : Int) = j := ⟨(k1 % (zs.length : Int)).toNat, (Int.toNat_of_nonneg (Int.emod_nonneg _ (by omega))).symm⟩
  rw [hj, Int.toNat_natCast] at hJl
  simp only [hj, Int.toNat_natCast]
  clear hcg hfg HO HN HC h1 h1' f2 hj hm1 hm2
  have hrow4 := row_store (j := j) hown v
  obtain ⟨hg1, hg2, hgc⟩ := row_base hrow4
  have hb4 : Below w2.heap.size w2 (w3.setCell ⟨g, j, none⟩ (.int .u64 v)) := (((Below.refl _ w2).alloc (Nat.le_refl _) _).grown hgrow (by simp) (fun g' hg' => by have h5 : some w2.heap.size = some g' := hg'; injection h5 with h5; omega)).setCell (p := ⟨g, j, none⟩) hg1 _
  have hA2 := hF2.arr.keep hb4
  have hA4 := (Arr.own hrow4).2
  have hB4 := hB2.trans (hb4.mono hB2.size)
  have hcx := (hb4.cell (p := ⟨b, o + j, none⟩) hbl).trans (hcs j hJl)
  have hbl4 := Nat.lt_of_lt_of_le hbl hb4.size
  generalize w3.setCell ⟨g, j, none⟩ (.int .u64 v) = w4 at *
  clear hrow4 hown hgrow hb4 hB2 hF2
  have hset := path_set zs.length zs j v (Nat.le_refl _) hJl
  have hlead := lead_path zs.length (zs.set j v) j (by simp) (by simpa using hJl)
  rw [List.length_set, hset, List.getElem?_set_self hJl] at hlead
  have hrs := root_set zs j v hJl hv hR
  obtain ⟨P, hP⟩ : ∃ P, pathT zs j = P := ⟨_, rfl⟩
  obtain ⟨T, hT⟩ : ∃ T, rootT zs = T := ⟨_, rfl⟩
  obtain ⟨T', hT'⟩ : ∃ T', rootT (zs.set j v) = T' := ⟨_, rfl⟩
  obtain ⟨x, hx⟩ : ∃ x, zs[j]?.getD 0 = x := ⟨_, rfl⟩
  rw [hP, hT'] at hlead
  rw [hT, hT', hx] at hrs
  rw [hx] at hcx
  rw [hP] at hset
  have HP := Lib.hid hP
  have HP' := Lib.hid hset
  have HT := Lib.hid hT
  have HT' := Lib.hid hT'
  have HRS := Lib.hid hrs
  have HCk : Hid (chkE zs.length j v P T' = 0) := Lib.hid (by unfold chkE; have h : leadT zs.length j v P = some T' := hlead; rw [h, if_pos rfl])
  clear hP hset hT hT' hrs hlead hx hcs
  refine (pathOf_P (some ⟨b, o, none⟩) zs zs.length c2 j P w4 rfl HP hJl (by omega) hc2 hA2).mono ?_
  rintro e w5 ⟨A5, c5, rfl, hc5, hF5, hb5⟩
  go_wp2_with fail
  refine (pathOf_P (some ⟨g, 0, none⟩) (zs.set j v) zs.length cap' j P w5 (by simp) HP' hJl (by omega) hgc (hA4.keep hb5)).mono ?_
  rintro e w6 ⟨A6, c6, rfl, hc6, hF6, hb6⟩
  have hbs5 := hb5.size
  have hbs6 := hb6.size
  have hB6 := (hB4.trans (hb5.mono hB4.size)).trans (hb6.mono (Nat.le_trans hB4.size hbs5))
  have hA6 := (hA2.keep hb5).keep hb6
  have hO6 := (hA4.keep hb5).keep hb6
  have hP5 := hF5.arr.keep hb6
  have hP6 := hF6.arr
  have hcx6 := (hb6.cell (p := ⟨b, o + j, none⟩) (by simp; omega)).trans ((hb5.cell (p := ⟨b, o + j, none⟩) (by simp; omega)).trans hcx)
  have hbl6 : b < w6.heap.size := by omega
  clear hb5 hb6 hF5 hF6 hA2 hA4 hB4 hcx hbl hbl4 hbs5 hbs6
  have HLn : Hid ((zs.set j v).length = zs.length) := Lib.hid (by simp)
  have hs6 := hB6.size
  have hcell0 := Later.cell (w := ((w6.alloc (.cells #[.slice A5 P.length c5, .int .i64 0] 42)).alloc (.cells #[.slice A6 P.length c6, .int .i64 0] 42))) (a := ⟨w6.heap.size, 0, none⟩) ((World.cell?_alloc_lt _ _ _ (by simp)).trans (World.cell?_alloc_at _ 42 _ 0 rfl)) (by simp; omega)
  have hcell1 := Later.cell (w := ((w6.alloc (.cells #[.slice A5 P.length c5, .int .i64 0] 42)).alloc (.cells #[.slice A6 P.length c6, .int .i64 0] 42))) (a := ⟨w6.heap.size, 1, none⟩) ((World.cell?_alloc_lt _ _ _ (by simp)).trans (World.cell?_alloc_at _ 42 _ 1 rfl)) (by simp; omega)
  have hcell2 := Later.cell (w := ((w6.alloc (.cells #[.slice A5 P.length c5, .int .i64 0] 42)).alloc (.cells #[.slice A6 P.length c6, .int .i64 0] 42))) (a := ⟨w6.heap.size + 1, 0, none⟩) (World.cell?_alloc_at _ 42 _ 0 (by simp)) (by simp)
  have hcell3 := Later.cell (w := ((w6.alloc (.cells #[.slice A5 P.length c5, .int .i64 0] 42)).alloc (.cells #[.slice A6 P.length c6, .int .i64 0] 42))) (a := ⟨w6.heap.size + 1, 1, none⟩) (World.cell?_alloc_at _ 42 _ 1 (by simp)) (by simp)
  have hcellx := Later.cell (w := ((w6.alloc (.cells #[.slice A5 P.length c5, .int .i64 0] 42)).alloc (.cells #[.slice A6 P.length c6, .int .i64 0] 42))) (a := ⟨b, o + j, none⟩) ((World.cell?_alloc_lt _ _ _ (by simp; omega)).trans ((World.cell?_alloc_lt _ _ _ hbl6).trans hcx6)) (by simp; omega)
  have HD := Lib.hid ((hA6.alloc (.cells #[.slice A5 P.length c5, .int .i64 0] 42)).alloc (.cells #[.slice A6 P.length c6, .int .i64 0] 42))
  have HOd := Lib.hid ((hO6.alloc (.cells #[.slice A5 P.length c5, .int .i64 0] 42)).alloc (.cells #[.slice A6 P.length c6, .int .i64 0] 42))
  have H5 := Lib.hid ((hP5.alloc (.cells #[.slice A5 P.length c5, .int .i64 0] 42)).alloc (.cells #[.slice A6 P.length c6, .int .i64 0] 42))
  have H6 := Lib.hid ((hP6.alloc (.cells #[.slice A5 P.length c5, .int .i64 0] 42)).alloc (.cells #[.slice A6 P.length c6, .int .i64 0] 42))
  have HBe := Lib.hid ((hB6.alloc hs6 (.cells #[.slice A5 P.length c5, .int .i64 0] 42)).alloc (by simp; omega) (.cells #[.slice A6 P.length c6, .int .i64 0] 42))
  have hPl : P.length ≤ 4096 := by rw [← HP.out]; have := path_len 9 zs j (by omega); omega
  clear hA6 hO6 hP5 hP6 hB6 hcx6
  by_cases hvx : v = x
  · have hTT := HRS.out.2 hvx
    subst hvx
    subst hTT
    clear HRS
    · skip
      go_wp2
      refine wp_region_later (by kernel_rfl) (by kernel_rfl) ?_
      repeat (go_big_quiet_step ((first
        | (go_at_call 23; exact later_of (same_P A5 A6 P _ c5 c6 _ rfl (by omega) (H5.out.keep (Later.below _)) (H6.out.keep (Later.below _))))
        | (go_at_call 19; ((with_reducible refine later_of (root_T (some ⟨b, o, none⟩) zs zs.length c2 T _ rfl HT (by omega) (by omega) hc2 ?_)); exact HD.out.keep (Later.below _)))
        | (go_at_call 19; ((with_reducible refine later_of (root_T (some ⟨g, 0, none⟩) (zs.set j v) zs.length cap' T _ HLn.out HT' (by omega) (by omega) hgc ?_)); exact HOd.out.keep (Later.below _)))
        | (go_at_call 24; exact later_of (check_E T zs.length j v A5 P P.length c5 0 _ rfl HCk (by omega) hJl hc5 (H5.out.keep (Later.below _)))))))
      refine wpQuiet_nil ?_
      intro _ hw'
      obtain ⟨q, hw''⟩ := hw'
      subst hw''
      go_wp2
      go_ret
      exact ⟨rfl, HBe.out.trans (q.below.mono HBe.out.size)⟩
  · have h1x : (v == x) = false := beq_eq_false_iff_ne.2 hvx
    have h2x : (T == T') = false := beq_eq_false_iff_ne.2 (fun h => hvx (HRS.out.1 h))
    clear HRS
    · skip
      go_wp2
      refine wp_region_later (by kernel_rfl) (by kernel_rfl) ?_
      repeat (go_big_quiet_step ((first
        | (go_at_call 23; exact later_of (same_P A5 A6 P _ c5 c6 _ rfl (by omega) (H5.out.keep (Later.below _)) (H6.out.keep (Later.below _))))
        | (go_at_call 19; ((with_reducible refine later_of (root_T (some ⟨b, o, none⟩) zs zs.length c2 T _ rfl HT (by omega) (by omega) hc2 ?_)); exact HD.out.keep (Later.below _)))
        | (go_at_call 19; ((with_reducible refine later_of (root_T (some ⟨g, 0, none⟩) (zs.set j v) zs.length cap' T' _ HLn.out HT' (by omega) (by omega) hgc ?_)); exact HOd.out.keep (Later.below _)))
        | (go_at_call 24; exact later_of (check_E T' zs.length j v A5 P P.length c5 0 _ rfl HCk (by omega) hJl hc5 (H5.out.keep (Later.below _)))))))
      refine wpQuiet_nil ?_
      intro _ hw'
      obtain ⟨q, hw''⟩ := hw'
      subst hw''
      go_wp2
      go_ret
      exact ⟨rfl, HBe.out.trans (q.below.mono HBe.out.size)⟩

end Dg
end Go.Proofs.Ytgjmhddekggilaa
