/- Statement DigestRefuses: the walk over trees of one leaf. -/
import Derived.Test.YtgjmhddekggilaaL6b
namespace Go.Proofs.Ytgjmhddekggilaa
open Go.RowKit Go.BigFrame
namespace Dg

theorem path_one (A : Option Addr) (c : Nat) (w : World) : Calls Try.prog 33 #[.slice A 1 c, .int .i64 0] w fun e w' => e = .returned (.tuple #[.slice none 0 0, .int .i64 0]) ∧ w = w' := by
  go_enter Try.func33, Try.ntmps33
  go_wp2
  refine wp_loop_rounds 1 ?_
  rw [rounds_succ]
  go_wp2
  go_ret2
  exact ⟨rfl, rfl⟩

theorem pathOf_one (A : Option Addr) (c : Nat) (w : World) : Calls Try.prog 21 #[.slice A 1 c, .int .i64 0] w fun e w' => e = .returned (.agg #[.slice none 0 0, .int .i64 0]) ∧ Below w.heap.size w w' := by
  go_enter Try.func21, Try.ntmps21
  go_wp2_with (go_at_call 33; refine (path_one A c _).mono ?_; rintro e w' ⟨rfl, rfl⟩)
  refine bodyPost_ret (v := .agg #[.slice none 0 0, .int .i64 0]) (by simp [results, Try.results21, go_sem]) rfl ⟨rfl, ?_⟩
  exact (Below.refl _ _).alloc (Nat.le_refl _) _

theorem root_one (A : Option Addr) (x : Int) (c : Nat) (w : World) (hc : 1 ≤ c) (hA : Arr w A ([x].map (Value.int .u64))) : Calls Try.prog 19 #[.slice A 1 c] w fun e w' => e = .returned (.int .u64 x) ∧ Below w.heap.size w w' :=
  root_T A [x] 1 c x w rfl (Lib.hid (rootT_one [x] (by simp))) (by omega) (by omega) hc hA

theorem check_one (x d : Int) (A : Option Addr) (P : List Int) (m c : Nat) (r : Int) (w : World) (hm : P.length = m) (hr : Hid (chkE 1 0 d P x = r)) (hcap : m ≤ c) (hA : Arr w A (P.map (Value.int .u64))) :
    Calls Try.prog 24 #[.int .u64 x, .agg #[.int .i64 1, .slice A m c], .agg #[.int .i64 0, .int .u64 d]] w fun e w' => e = .returned (.int .i64 r) ∧ Below w.heap.size w w' :=
  check_E x 1 0 d A P m c r w hm hr (by omega) (by omega) hcap hA

set_option maxRecDepth 100000 in
set_option maxHeartbeats 4000000 in
theorem refuses_one (A : Option Addr) (len cap : Nat) (l : List Int) (k0 k1 k2 v : Int) (w : World) (hl : RowIs .u64 w A len cap l) (h0 : 0 ≤ k0) (h0' : k0 ≤ 65535) (h1 : 0 ≤ k1) (h1' : k1 ≤ 65535) (hv : R v) (hk : k0 % 300 = 0) :
    Calls Try.prog 6 #[.slice A len cap, .agg #[.int .u16 k0, .int .u16 k1, .int .u16 k2], .int .u64 v] w fun e w' => e = .returned (.bool true) ∧ Below w.heap.size w w' := by
  go_enter Try.func6, Try.ntmps6
  go_wp2_with fail
  refine (examples_any _).mono ?_
  rintro e w1 ⟨rfl, hb1⟩
  have hB1 := ((Below.refl _ w).alloc (Nat.le_refl _) (.cells #[.int .u16 k0, .int .u16 k1, .int .u16 k2] 52)).trans (hb1.mono (by simp))
  have f0 : w1.cell? ⟨w.heap.size, 0, none⟩ = some (.int .u16 k0) := (hb1.cell (p := ⟨w.heap.size, 0, none⟩) (by simp)).trans (World.cell?_alloc_at _ 52 _ 0 rfl)
  have g1 : w1.cell? ⟨w.heap.size, 2, none⟩ = some (.int .u16 k2) := (hb1.cell (p := ⟨w.heap.size, 2, none⟩) (by simp)).trans (World.cell?_alloc_at _ 52 _ 2 rfl)
  have f1 : w1.cell? ⟨w.heap.size, 1, none⟩ = some (.int .u16 k1) := (hb1.cell (p := ⟨w.heap.size, 1, none⟩) (by simp)).trans (World.cell?_alloc_at _ 52 _ 1 rfl)
  have hw1 : w.heap.size < w1.heap.size := by have := hb1.size; simp at this; omega
  clear hb1
  go_wp2_with fail
  refine (grown_z A l cap len _ _ hl.hlen (by omega) (by omega) hl.hcap (hl.arr.keep hB1) hl.nil hl.range).mono ?_
  rintro e w2 ⟨zs, A2, c2, rfl, hz, hR, hc2, hF2, hb2⟩
  have hs1 := hB1.size
  have f2 := (hb2.cell (p := ⟨w.heap.size, 1, none⟩) hw1).trans f1
  have g2 := (hb2.cell (p := ⟨w.heap.size, 2, none⟩) hw1).trans g1
  have hz1 : zs.length = 1 := by omega
  have hw2 : w.heap.size < w2.heap.size := Nat.lt_of_lt_of_le hw1 hb2.size
  obtain ⟨x, rfl⟩ : ∃ x, zs = [x] := by
    match zs, hz1 with
    | [x], _ => exact ⟨x, rfl⟩
  have hxR : R x := hR x (by simp)
  have hc2' : 1 ≤ c2 := hc2
  have hB2 := hB1.trans (hb2.mono hs1)
  clear f0 f1 g1 hz hz1 hR hb2 hl h0 h0' hB1 hs1 hw1 hk hc2
  go_wp2_with fail
  obtain ⟨b, o, rfl, hbl, hcs⟩ := hF2.arr.at_ (by simp)
  have hcx : w2.cell? ⟨b, o, none⟩ = some (.int .u64 x) := hcs 0 (by simp)
  clear hcs
  go_wp2_with fail
  refine (root_one (some ⟨b, o, none⟩) x c2 w2 hc2' hF2.arr).mono ?_
  rintro e w3 ⟨rfl, hb3⟩
  go_wp2_with fail
  refine (pathOf_one (some ⟨b, o, none⟩) c2 w3).mono ?_
  rintro e w4 ⟨rfl, hb4⟩
  have hs3 := hb3.size
  have hs4 := hb4.size
  have hcx4 := (hb4.cell (p := ⟨b, o, none⟩) (by simp; omega)).trans ((hb3.cell (p := ⟨b, o, none⟩) hbl).trans hcx)
  have hbl4 : b < w4.heap.size := by omega
  have hBB := (hB2.trans (hb3.mono hB2.size)).trans (hb4.mono (by have := hB2.size; omega))
  have hE : RefAt w w4.heap.size none 0 [] 0 x k2 ((w4.alloc (.cells #[.slice none 0 0, .int .i64 0] 42)).alloc (.cells #[.int .i64 0, .int .u64 x] 29)) := refAt_start (by omega) ((hb4.cell (p := ⟨w.heap.size, 2, none⟩) (by simp; omega)).trans ((hb3.cell (p := ⟨w.heap.size, 2, none⟩) hw2).trans g2)) (Arr.nil _ _) hBB
  have hcx5 := (World.cell?_alloc_lt (w := w4.alloc (.cells #[.slice none 0 0, .int .i64 0] 42)) (.cells #[.int .i64 0, .int .u64 x] 29) ⟨b, o, none⟩ (by simp; omega)).trans ((World.cell?_alloc_lt (w := w4) (.cells #[.slice none 0 0, .int .i64 0] 42) ⟨b, o, none⟩ hbl4).trans hcx4)
  have hlead : leadT 1 0 x [] = some x := by rw [leadT_one _ _ _ _ (by omega), if_pos rfl]
  obtain ⟨r, hr⟩ : ∃ r, chkE 1 0 v [] x = r := ⟨_, rfl⟩
  obtain ⟨Q, hQ⟩ : ∃ Q, (v == x) = Q := ⟨_, rfl⟩
  have hrQ : (r == 0) = Q := by rw [← hr, chk_leaf 1 0 x v [] x hlead hxR hv, hQ]
  have HCr := Lib.hid hr
  have HLd := Lib.hid hlead
  clear hr hlead hb3 hb4 hF2 hcx hB2 hBB hw2 hs3 hs4 g2 f2 h1 h1' hbl
  go_wp2
  clear hcx4
  generalize ((w4.alloc (.cells #[.slice none 0 0, .int .i64 0] 42)).alloc (.cells #[.int .i64 0, .int .u64 x] 29)) = w5 at hE hcx5 ⊢
  obtain ⟨e1, e2, ⟨fa, fb⟩, ⟨fc, fd⟩, fe, ff, fg⟩ := id hE
  have la : ∀ p : Later w5, p.val.cell? ⟨w4.heap.size, 0, none⟩ = some (.slice none 0 0) := Later.cell (w := w5) (a := ⟨w4.heap.size, 0, none⟩) fa (by simp; omega)
  have lb := Later.cell (w := w5) (a := ⟨w4.heap.size, 1, none⟩) fb (by simp; omega)
  have lx := Later.cell (w := w5) (a := ⟨b, o, none⟩) hcx5 (by simp; omega)
  clear fa fb fc fd fe ff fg hcx5
  refine wp_region_later (by kernel_rfl) (by kernel_rfl) ?_
  repeat (go_big_quiet_step ((go_at_call 24; exact later_of (check_one x v none [] 0 0 r _ rfl HCr (Nat.le_refl _) (Arr.nil _ _)))))
  refine wpQuiet_nil ?_
  intro _ hw'
  obtain ⟨q, hw''⟩ := hw'
  subst hw''
  have hE6 := hE.keep q.below
  generalize q.val = w6 at hE6 ⊢
  clear q la lb lx hE HCr hrQ hQ e1 e2 hxR hbl4
  obtain ⟨i0, hi, hz0, hz1', hz2'⟩ := info_parts info24
  obtain ⟨e1, e2, ⟨fa, fb⟩, ⟨fc, fd⟩, fe, ff, fg⟩ := id hE6
  have HO1 := Lib.hid (World.ownsRow_lit (base := w6.heap.size) (e := 24) (size := 1) w6 #[] 0 (Nat.le_refl _) (by unfold maxLen; omega) rfl)
  have HV : Hid (∀ j u, [Value.int .u64 v][j]? = some u → ((w6.alloc (.cells #[] 24)).alloc (.cells #[.int .u64 v] 24)).cell? ((⟨w6.heap.size + 1, 0, none⟩ : Addr).add j) = some u) := Lib.hid (by
    have h9 := cell_one_new (w6.alloc (.cells #[] 24)) (.int .u64 v) 24
    rw [World.size_alloc] at h9
    exact h9)
  have fa' : w6.cell? ⟨w4.heap.size, 0, none⟩ = some (.slice none 0 0) := fa
  have fa0 : (w6.alloc (.cells #[] 24)).cell? ⟨w4.heap.size, 0, none⟩ = some (.slice none 0 0) := (World.cell?_alloc_lt w6 (.cells #[] 24) ⟨w4.heap.size, 0, none⟩ (by simp; omega)).trans fa
  clear fb fc fd fe ff fg
  go_wp2_with (first
    | (at_builtin; refine wpList_append_own_none rfl (.tmp 67) (.tmp 69) 25 rfl w6.heap.size 24 i0 1 Try.underlying25 hi _ _ _ rfl HO1.out rfl ?_)
    | (at_builtin; refine wpList_append_lies _ rfl (.tmp 70) (.tmp 72) 25 rfl w6.heap.size 24 i0 (.int .u64 0) 1 8 Try.underlying25 hi hz0 hz1' hz2' rfl (by decide) _ _ _ rfl (HO1.out.alloc _) ⟨w6.heap.size + 1, 0, none⟩ 1 1 [.int .u64 v] rfl rfl HV.out (by simp [Value.oneCell']) (by omega) (by unfold maxLen; omega) (by omega) (by simp; try omega) _ rfl ?_; intro g8 cap8 w8 hown8 hgrow8 _ _; simp only [Nat.zero_add, List.nil_append] at hown8; have hb8 : Below w6.heap.size w6 w8 := (((Below.refl _ w6).alloc (Nat.le_refl _) (.cells #[] 24)).alloc (by simp) (.cells #[.int .u64 v] 24)).grown hgrow8 (by simp; omega) (fun g hg => below_row (HO1.out.alloc (.cells #[.int .u64 v] 24)) hg); have hs8 := hb8.size; have fa8 := (World.cell?_alloc_lt w8 (.cells #[.int .u64 v] 24) ⟨w4.heap.size, 0, none⟩ (by simp; omega)).trans ((hb8.cell (p := ⟨w4.heap.size, 0, none⟩) (by simp; omega)).trans fa); have hE9 := (hE6.keep hb8).keep ((Below.refl _ w8).alloc (Nat.le_refl _) (.cells #[.int .u64 v] 24)); obtain ⟨_, _, ⟨ga, gb⟩, ⟨gc, gd⟩, ge, gf, _⟩ := id hE9)
    | (at_builtin; refine wpList_append_own_none rfl (.tmp 75) (.tmp 77) 25 rfl w8.heap.size 24 i0 1 Try.underlying25 hi _ _ _ rfl (World.ownsRow_lit (base := w8.heap.size) (e := 24) (size := 1) w8 #[.int .u64 v] 1 (Nat.le_refl _) (by unfold maxLen; omega) rfl) rfl ?_))
  have hg8 := (row_base hown8).2.2
  have hAl := (Arr.own hown8).2.alloc (.cells #[.int .u64 v] 24)
  have HK1 : Hid (chkE 1 0 x [v] x = 6) := Lib.hid (chk_other_len 1 0 x [] [v] x HLd.out (by simp))
  refine (check_one x x (some ⟨g8, 0, none⟩) [v] 1 cap8 6 _ rfl HK1 hg8 hAl).mono ?_
  rintro e w10 ⟨rfl, hb10⟩
  have hE10 := hE9.keep hb10
  have hA9 := (ex_small w8 #[.int .u64 v] 24).keep hb10
  clear ga gb gc gd ge gf hown8 hgrow8 hb8 hE9 hE6 HO1 fa0 fa8 fa' hAl hb10 HV fa e1 e2 hs8
  obtain ⟨_, _, ⟨ga, gb⟩, ⟨gc, gd⟩, ge, gf, _⟩ := id hE10
  go_wp2_with fail
  refine (check_one x x (some ⟨w8.heap.size, 0, none⟩) [v] 1 1 6 w10 rfl HK1 (Nat.le_refl _) hA9).mono ?_
  rintro e w11 ⟨rfl, hb11⟩
  have hE11 := hE10.keep hb11
  clear ga gb gc gd ge gf hE10 hA9 hb11 HK1
  obtain ⟨e1, e2, ⟨ga, gb⟩, ⟨gc, gd⟩, ge, gf, gg⟩ := id hE11
  have ga' : w11.cell? ⟨w4.heap.size, 0, none⟩ = some (.slice none 0 0) := ga
  clear ga gf
  go_wp2
  go_ret
  exact ⟨rfl, gg⟩

end Dg
end Go.Proofs.Ytgjmhddekggilaa
