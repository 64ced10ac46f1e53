/- Statement DigestOneChange: the walk. -/
import Derived.Test.YtgjmhddekggilaaL7
import Derived.Test.YtgjmhddekggilaaB3
import Derived.Test.YtgjmhddekggilaaM9
namespace Go.Proofs.Ytgjmhddekggilaa
open Go.RowKit Go.BigFrame
namespace Dg

/-- A row that the call itself made, one element of it stored. -/
theorem rowk_store {k : IntKind} {e : TypeId} {w : World} {base g c n j : Nat} {zs : List Int} (h : w.ownsRow base e 1 (.slice (some ⟨g, 0, none⟩) n c) n (zs.map (Value.int k))) (v : Int) :
    (w.setCell ⟨g, j, none⟩ (.int k v)).ownsRow base e 1 (.slice (some ⟨g, 0, none⟩) n c) n ((zs.set j v).map (Value.int k)) := by
  have h2 := h.stored j (.int k v)
  rw [List.map_set]
  exact h2.1

theorem rowk_cell {k : IntKind} {e : TypeId} {w : World} {base g c n j : Nat} {zs : List Int} (h : w.ownsRow base e 1 (.slice (some ⟨g, 0, none⟩) n c) n (zs.map (Value.int k))) (hj : j < zs.length) :
    w.cell? ⟨g, j, none⟩ = some (.int k (zs[j]?.getD 0)) := by
  have hn : zs.length = n := by have := h.1; simpa using this
  rw [h.cellAt j (by omega), List.getElem?_map, List.getElem?_eq_getElem hj]
  rfl

theorem rowk_base {e : TypeId} {w : World} {base g c n : Nat} {vs : List Value} (h : w.ownsRow base e 1 (.slice (some ⟨g, 0, none⟩) n c) n vs) : base ≤ g ∧ g < w.heap.size ∧ n ≤ c := by
  rcases h.2 with ⟨h', _⟩ | ⟨g', cap', cur, h', hb, hg, hnc, _⟩
  · cases h'
  · injection h' with h1 h2 h3
    injection h1 with h1
    injection h1 with h1
    subst h1
    subst h3
    refine ⟨hb, ?_, hnc⟩
    rcases Nat.lt_or_ge g w.heap.size with hlt | hge
    · exact hlt
    · rw [Array.getElem?_eq_none hge] at hg; cases hg

theorem words_L (A : Option Addr) (xs : List Int) (n c : Nat) (w : World) (hn : xs.length = n) (hlen : n ≤ 4096) (hA : Arr w A (xs.map (Value.int .i64))) :
    Calls Try.prog 11 #[.slice A n c] w fun e w' => e = .returned (.int .u64 (wordsI xs)) ∧ Below w.heap.size w w' := by
  subst hn
  exact words_any A xs c w (by omega) hA

theorem tag_L (key : Int) (A : Option Addr) (xs : List Int) (n c : Nat) (w : World) (hn : xs.length = n) (hlen : n ≤ 4096) (hA : Arr w A (xs.map (Value.int .i64))) :
    Calls Try.prog 17 #[.int .u64 key, .slice A n c] w fun e w' => e = .returned (.int .u64 (tagI key xs)) ∧ Below w.heap.size w w' := by
  subst hn
  exact tag_any key A xs c w (by omega) hA

theorem bytes_L (A : Option Addr) (xs : List Int) (n c : Nat) (w : World) (hn : xs.length = n) (hlen : n ≤ 4096) (hcap : n ≤ c) (hB : B8 xs) (hA : Arr w A (xs.map (Value.int .u8))) :
    Calls Try.prog 13 #[.slice A n c] w fun e w' => e = .returned (.int .u64 (bytesI xs)) ∧ Below w.heap.size w w' := by
  subst hn
  exact bytes_any A xs c w (by omega) hcap hB hA

theorem info3 : (Try.prog.info? 3).map (fun i => (i.zero, i.size, i.bytes)) = some (some (.int .i64 0), 1, 8) := by kernel_rfl
theorem info5 : (Try.prog.info? 5).map (fun i => (i.zero, i.size, i.bytes)) = some (some (.int .u8 0), 1, 1) := by kernel_rfl

theorem index_at (z : Int) (n : Nat) (hz : R z) (hn : 0 < n) (hb : n ≤ 200) : ∃ j : Nat, wrap64 (z.tmod (n : Int)) = (j : Int) ∧ j < n := by
  unfold R at hz
  have h1 : z.tmod (n : Int) = z % (n : Int) := Int.tmod_eq_emod_of_nonneg hz.1
  have h2 := Int.emod_nonneg z (b := (n : Int)) (by omega)
  have h3 := Int.emod_lt_of_pos z (b := (n : Int)) (by omega)
  refine ⟨(z % (n : Int)).toNat, ?_, by omega⟩
  rw [h1, Int.toNat_of_nonneg h2]
  unfold wrap64
  omega

/-- What lay lies on behind an append to a new row. -/
theorem cell_grown {w w3 : World} {o : Obj} {a : Addr} {v : Value} (h : w.cell? a = some v) (ha : a.block < w.heap.size) (hg : (w.alloc o).grownBy w3 (some w.heap.size)) : w3.cell? a = some v :=
  (World.cell?_of_block (hg.block a.block (by simp; omega) (by intro h; injection h; omega))).trans ((World.cell?_alloc_lt _ _ _ ha).trans h)

set_option maxRecDepth 100000 in
set_option maxHeartbeats 200000000 in
theorem one_walk (A : Option Addr) (lenl capl : Nat) (l : List Int) (B : Option Addr) (lenb capb : Nat) (xb : List Int) (z0 z1 z2 z3 : Int) (w : World) (hl : RowIs .i64 w A lenl capl l) (hb : RowIs .u8 w B lenb capb xb)
    (h0 : R z0) (h1 : R z1) (h2 : R z2) (h3 : R z3) :
    Calls Try.prog 4 #[.slice A lenl capl, .slice B lenb capb, .agg #[.int .u64 z0, .int .u64 z1, .int .u64 z2, .int .u64 z3]] w fun e w' => e = .returned (.bool true) ∧ Below w.heap.size w w' := by
  go_enter Try.func4, Try.ntmps4
  go_wp2_with fail
  refine (examples_any _).mono ?_
  rintro e w1 ⟨rfl, hb1⟩
  have hB1 := ((Below.refl _ w).alloc (Nat.le_refl _) (.cells #[.int .u64 z0, .int .u64 z1, .int .u64 z2, .int .u64 z3] 47)).trans (hb1.mono (by simp))
  have f0 : w1.cell? ⟨w.heap.size, 0, none⟩ = some (.int .u64 z0) := (hb1.cell (p := ⟨w.heap.size, 0, none⟩) (by simp)).trans (World.cell?_alloc_at _ 47 _ 0 rfl)
  have f1 : w1.cell? ⟨w.heap.size, 1, none⟩ = some (.int .u64 z1) := (hb1.cell (p := ⟨w.heap.size, 1, none⟩) (by simp)).trans (World.cell?_alloc_at _ 47 _ 1 rfl)
  have f2 : w1.cell? ⟨w.heap.size, 2, none⟩ = some (.int .u64 z2) := (hb1.cell (p := ⟨w.heap.size, 2, none⟩) (by simp)).trans (World.cell?_alloc_at _ 47 _ 2 rfl)
  have f3 : w1.cell? ⟨w.heap.size, 3, none⟩ = some (.int .u64 z3) := (hb1.cell (p := ⟨w.heap.size, 3, none⟩) (by simp)).trans (World.cell?_alloc_at _ 47 _ 3 rfl)
  have hw1 : w.heap.size < w1.heap.size := by have := hb1.size; simp at this; omega
  have hs1 := hB1.size
  clear hb1
  by_cases hbig : 200 < lenl
  · go_wp2_with fail
    go_ret
    exact ⟨rfl, hB1⟩
  by_cases hbig2 : 200 < lenb
  · go_wp2_with fail
    go_ret
    exact ⟨rfl, hB1⟩
  have hl1 : lenl ≤ 200 := by omega
  have hb1 : lenb ≤ 200 := by omega
  have c0 := Later.cell (w := w1) (a := ⟨w.heap.size, 0, none⟩) f0 hw1
  have c1 := Later.cell (w := w1) (a := ⟨w.heap.size, 1, none⟩) f1 hw1
  have c2 := Later.cell (w := w1) (a := ⟨w.heap.size, 2, none⟩) f2 hw1
  obtain ⟨q1, hq1, hq1'⟩ : ∃ q, (tagI z0 l == tagI z1 l) = q ∧ (z0 == z1) = q := ⟨_, tag_keys z0 z1 l h0 h1, rfl⟩
  obtain ⟨q2, hq2, hq2'⟩ : ∃ q, (joinI z0 z1 == joinI z2 z1) = q ∧ (z0 == z2) = q := ⟨_, join_l z0 z1 z2 h0 h2, rfl⟩
  obtain ⟨q3, hq3, hq3'⟩ : ∃ q, (joinI z0 z1 == joinI z0 z2) = q ∧ (z1 == z2) = q := ⟨_, join_r z0 z1 z2 h1 h2, rfl⟩
  have HAl := Lib.hid (hl.arr.keep hB1)
  have HAb := Lib.hid (hb.arr.keep hB1)
  have hll := hl.hlen
  subst hll
  go_wp2_with fail
  refine wp_region_later (by kernel_rfl) (by kernel_rfl) ?_
  repeat (go_big_quiet_step ((first
    | (go_at_call 17; exact later_of (tag_any _ A l capl _ (by omega) (HAl.out.keep (Later.below _))))
    | (go_at_call 15; exact later_of (join_any _ _ _)))))
  refine wpQuiet_nil ?_
  intro _ hw'
  obtain ⟨q, hw''⟩ := hw'
  subst hw''
  have hb2 := q.below
  generalize q.val = w2 at *
  have hB2 := hB1.trans (hb2.mono hs1)
  have g0 := (hb2.cell (p := ⟨w.heap.size, 0, none⟩) hw1).trans f0
  have g1 := (hb2.cell (p := ⟨w.heap.size, 1, none⟩) hw1).trans f1
  have g3 := (hb2.cell (p := ⟨w.heap.size, 3, none⟩) hw1).trans f3
  have hAl := HAl.out.keep hb2
  have hAb := HAb.out.keep hb2
  have hw2 : w.heap.size < w2.heap.size := by have := hb2.size; omega
  clear c0 c1 c2 f0 f1 f2 f3 hq1 hq1' hq2 hq2' hq3 hq3' hb2 hB1 HAl HAb hw1 hs1 hbig hbig2
  by_cases hne : l.length = 0
  · have hne0 := hne
    clear hAl hl
    by_cases hnb : lenb = 0
    · have hnb0 := hnb
      clear g1
      go_wp2_with fail
      go_ret
      exact ⟨rfl, hB2⟩
    · have hlb := hb.hlen
      subst hlb
      have hb8 : B8 xb := fun x hx => by have := bounds_u8 (hb.wf x hx); omega
      have hcapb := hb.hcap
      obtain ⟨bb, ob, rfl, hbl, hcs⟩ := hAb.at_ (by intro h; subst h; simp at hnb)
      have hpos : 0 < xb.length := by omega
      obtain ⟨i0, hi, hz0, hz1', hz2'⟩ := info_parts info5
      obtain ⟨j, hj, hjl⟩ := index_at z3 xb.length h3 hpos hb1
      have HO := Lib.hid (World.ownsRow_lit (base := w2.heap.size) (e := 5) (size := 1) w2 #[] 0 (Nat.le_refl _) (by unfold maxLen; omega) rfl)
      have HN : Hid ((xb.map (Value.int .u8)).length = xb.length * 1) := Lib.hid (by simp)
      have HC : Hid (∀ j u, (xb.map (Value.int .u8))[j]? = some u → (w2.alloc (.cells #[] 5)).cell? ((⟨bb, ob, none⟩ : Addr).add j) = some u) := Lib.hid (Arr.src (hAb.alloc _))
      have HJ := Lib.hid hj
      clear hb g1
      go_wp2_with (at_builtin; refine wpList_append_lies _ rfl _ _ 23 rfl w2.heap.size 5 i0 (.int .u8 0) 1 1 Try.underlying23 hi hz0 hz1' hz2' rfl (by decide) _ _ _ rfl HO.out ⟨bb, ob, none⟩ xb.length capb (xb.map (Value.int .u8)) rfl HN.out HC.out (by intro u hu; rw [List.mem_map] at hu; obtain ⟨x, _, rfl⟩ := hu; rfl) (by omega) (by unfold maxLen; omega) (by omega) (by simp) _ rfl ?_; intro g cap' w6 hown hgrow _ _; simp only [Nat.zero_add, List.nil_append] at hown; have hcg := rowk_cell hown hjl; have hfg := hown.frozenAt j; have g06 := cell_grown g0 hw2 hgrow)
      have hv8 : 0 ≤ z0 % 256 ∧ z0 % 256 < 256 := by omega
      obtain ⟨v, hv⟩ : ∃ v, v = z0 % 256 := ⟨_, rfl⟩
      rw [← hv] at hv8
      simp only [← hv]
      clear hv
      have hrow4 := rowk_store (j := j) hown v
      obtain ⟨hg1, hg2, hgc⟩ := rowk_base hrow4
      have hb4 : Below w2.heap.size w2 (w6.setCell ⟨g, j, none⟩ (.int .u8 v)) := (((Below.refl _ w2).alloc (Nat.le_refl _) _).grown hgrow (by simp) (fun g' hg' => by have h5 : some w2.heap.size = some g' := hg'; injection h5 with h5; omega)).setCell (p := ⟨g, j, none⟩) hg1 _
      have hA6 := hAb.keep hb4
      have hO6 := (Arr.own hrow4).2
      have hB6 := hB2.trans (hb4.mono hB2.size)
      have hcx := (hb4.cell (p := ⟨bb, ob + j, none⟩) hbl).trans (hcs j hjl)
      have hcy := rowk_cell (j := j) hrow4 (by simpa using hjl)
      rw [List.getElem?_set_self hjl, Option.getD_some] at hcy
      have hbl6 := Nat.lt_of_lt_of_le hbl hb4.size
      generalize w6.setCell ⟨g, j, none⟩ (.int .u8 v) = w7 at *
      clear hrow4 hown hgrow hb4 HO HN HC hcs g06
      obtain ⟨q4, hq4, hq4'⟩ : ∃ q, (bytesI xb == bytesI (xb.set j v)) = q ∧ (xb[j]?.getD 0 == v) = q := ⟨_, bytes_set xb j v hb8 hjl hv8, rfl⟩
      have HB8 := Lib.hid hb8
      have HB8' : Hid (B8 (xb.set j v)) := Lib.hid (fun x hx => by
        rcases List.mem_or_eq_of_mem_set hx with h | h
        · exact hb8 x h
        · rw [h]; exact hv8)
      have HLn : Hid ((xb.set j v).length = xb.length) := Lib.hid (by simp)
      generalize xb[j]?.getD 0 = x at hcx hq4'
      have k1 := Later.cell (w := w7) (a := ⟨bb, ob + j, none⟩) hcx hbl6
      have k2 := Later.cell (w := w7) (a := ⟨g, j, none⟩) hcy hg2
      have H6 := Lib.hid hA6
      have HO6 := Lib.hid hO6
      have HB6 := Lib.hid hB6
      clear hb8 hA6 hO6 hB6 hcx hcy
      go_wp2_with fail
      refine wp_region_later (by kernel_rfl) (by kernel_rfl) ?_
      repeat (go_big_quiet_step ((first
        | (go_at_call 13; ((with_reducible refine later_of (bytes_L (some ⟨bb, ob, none⟩) xb xb.length capb _ rfl (by omega) hcapb HB8.out ?_)); exact H6.out.keep (Later.below _)))
        | (go_at_call 13; ((with_reducible refine later_of (bytes_L (some ⟨g, 0, none⟩) (xb.set j v) xb.length cap' _ HLn.out (by omega) hgc HB8'.out ?_)); exact HO6.out.keep (Later.below _))))))
      refine wpQuiet_nil ?_
      intro _ hw'
      obtain ⟨r, hw''⟩ := hw'
      subst hw''
      go_wp2_with fail
      go_ret
      exact ⟨rfl, HB6.out.trans (r.below.mono HB6.out.size)⟩
  · obtain ⟨b, o, rfl, hbl, hcs⟩ := hAl.at_ (by intro h; subst h; simp at hne)
    have hpos : 0 < l.length := by omega
    obtain ⟨i0, hi, hz0, hz1', hz2'⟩ := info_parts info3
    obtain ⟨j, hj, hjl⟩ := index_at z3 l.length h3 hpos hl1
    have HO := Lib.hid (World.ownsRow_lit (base := w2.heap.size) (e := 3) (size := 1) w2 #[] 0 (Nat.le_refl _) (by unfold maxLen; omega) rfl)
    have HN : Hid ((l.map (Value.int .i64)).length = l.length * 1) := Lib.hid (by simp)
    have HC : Hid (∀ j u, (l.map (Value.int .i64))[j]? = some u → (w2.alloc (.cells #[] 3)).cell? ((⟨b, o, none⟩ : Addr).add j) = some u) := Lib.hid (Arr.src (hAl.alloc _))
    go_wp2_with (at_builtin; refine wpList_append_lies _ rfl _ _ 22 rfl w2.heap.size 3 i0 (.int .i64 0) 1 8 Try.underlying22 hi hz0 hz1' hz2' rfl (by decide) _ _ _ rfl HO.out ⟨b, o, none⟩ l.length capl (l.map (Value.int .i64)) rfl HN.out HC.out (by intro u hu; rw [List.mem_map] at hu; obtain ⟨x, _, rfl⟩ := hu; rfl) (by omega) (by unfold maxLen; omega) (by omega) (by simp) _ rfl ?_; intro g cap' w3 hown hgrow _ _; simp only [Nat.zero_add, List.nil_append] at hown; have hcg := rowk_cell hown hjl; have hfg := hown.frozenAt j; have g03 := cell_grown g0 hw2 hgrow)
    have hvI : I64 (wrap64 z0) := by unfold I64 wrap64; omega
    have hxI : ∀ x ∈ l, I64 x := fun x hx => by have := bounds_i64 (hl.wf x hx); unfold I64; omega
    obtain ⟨v, hv⟩ : ∃ v, v = wrap64 z0 := ⟨_, rfl⟩
    rw [← hv] at hvI
    simp only [← hv]
    clear hv
    have hrow4 := rowk_store (j := j) hown v
    obtain ⟨hg1, hg2, hgc⟩ := rowk_base hrow4
    have hb4 : Below w2.heap.size w2 (w3.setCell ⟨g, j, none⟩ (.int .i64 v)) := (((Below.refl _ w2).alloc (Nat.le_refl _) _).grown hgrow (by simp) (fun g' hg' => by have h5 : some w2.heap.size = some g' := hg'; injection h5 with h5; omega)).setCell (p := ⟨g, j, none⟩) hg1 _
    have hA4 := hAl.keep hb4
    have hO4 := (Arr.own hrow4).2
    have hAb4 := hAb.keep hb4
    have hB4 := hB2.trans (hb4.mono hB2.size)
    have m0 := (hb4.cell (p := ⟨w.heap.size, 0, none⟩) hw2).trans g0
    have m1 := (hb4.cell (p := ⟨w.heap.size, 1, none⟩) hw2).trans g1
    have m3 := (hb4.cell (p := ⟨w.heap.size, 3, none⟩) hw2).trans g3
    have hw4 := Nat.lt_of_lt_of_le hw2 hb4.size
    have hcx := (hb4.cell (p := ⟨b, o + j, none⟩) hbl).trans (hcs j hjl)
    have hcy := rowk_cell (j := j) hrow4 (by simpa using hjl)
    rw [List.getElem?_set_self hjl, Option.getD_some] at hcy
    have hbl4 := Nat.lt_of_lt_of_le hbl hb4.size
    generalize w3.setCell ⟨g, j, none⟩ (.int .i64 v) = w4 at *
    clear hrow4 hown hgrow hb4 HO HN HC hcs g03 hAb g0 g1 g3 hw2 hAl hB2
    obtain ⟨q4, hq4, hq4'⟩ : ∃ q, (wordsI l == wordsI (l.set j v)) = q ∧ (l[j]?.getD 0 == v) = q := ⟨_, words_set l j v hxI hvI hjl, rfl⟩
    have hq4'' : (tagI z1 l == tagI z1 (l.set j v)) = q4 := by rw [tag_set z1 l j v hxI hvI hjl, hq4']
    have HLn : Hid ((l.set j v).length = l.length) := Lib.hid (by simp)
    generalize l[j]?.getD 0 = x at hcx hq4'
    have k1 := Later.cell (w := w4) (a := ⟨b, o + j, none⟩) hcx hbl4
    have k2 := Later.cell (w := w4) (a := ⟨g, j, none⟩) hcy hg2
    have k3 := Later.cell (w := w4) (a := ⟨w.heap.size, 1, none⟩) m1 hw4
    have H4 := Lib.hid hA4
    have HO4 := Lib.hid hO4
    have HB4 := Lib.hid hB4
    have HAb4 := Lib.hid hAb4
    have M0 := Lib.hid m0
    have M3 := Lib.hid m3
    clear hA4 hO4 hB4 hcx hcy hxI hvI hAb4 hl m0 m1 m3
    go_wp2_with fail
    refine wp_region_later (by kernel_rfl) (by kernel_rfl) ?_
    repeat (go_big_quiet_step ((first
      | (go_at_call 11; ((with_reducible refine later_of (words_L (some ⟨b, o, none⟩) l l.length capl _ rfl (by omega) ?_)); exact H4.out.keep (Later.below _)))
      | (go_at_call 11; ((with_reducible refine later_of (words_L (some ⟨g, 0, none⟩) (l.set j v) l.length cap' _ HLn.out (by omega) ?_)); exact HO4.out.keep (Later.below _)))
      | (go_at_call 17; ((with_reducible refine later_of (tag_L z1 (some ⟨b, o, none⟩) l l.length capl _ rfl (by omega) ?_)); exact H4.out.keep (Later.below _)))
      | (go_at_call 17; ((with_reducible refine later_of (tag_L z1 (some ⟨g, 0, none⟩) (l.set j v) l.length cap' _ HLn.out (by omega) ?_)); exact HO4.out.keep (Later.below _))))))
    refine wpQuiet_nil ?_
    intro _ hw'
    obtain ⟨q5, hw''⟩ := hw'
    subst hw''
    have hb5 := q5.below
    generalize q5.val = w5 at *
    have hB5 := HB4.out.trans (hb5.mono HB4.out.size)
    have n0 := (hb5.cell (p := ⟨w.heap.size, 0, none⟩) hw4).trans M0.out
    have n3 := (hb5.cell (p := ⟨w.heap.size, 3, none⟩) hw4).trans M3.out
    have hAb5 := HAb4.out.keep hb5
    have hw5 := Nat.lt_of_lt_of_le hw4 hb5.size
    clear k1 k2 k3 hb5 H4 HO4 HB4 HAb4 M0 M3 HLn hq4 hq4' hq4'' hj hjl hi hz0 hz1' hz2' hbl hbl4 hg1 hg2 hgc hw4 hcg hfg
    by_cases hnb : lenb = 0
    · have hnb0 := hnb
      clear hpos hne
      go_wp2_with fail
      go_ret
      exact ⟨rfl, hB5⟩
    · have hlb := hb.hlen
      subst hlb
      have hb8 : B8 xb := fun x hx => by have := bounds_u8 (hb.wf x hx); omega
      have hcapb := hb.hcap
      obtain ⟨bb, ob, rfl, hbl, hcs⟩ := hAb5.at_ (by intro h; subst h; simp at hnb)
      have hpos : 0 < xb.length := by omega
      obtain ⟨i0, hi, hz0, hz1', hz2'⟩ := info_parts info5
      obtain ⟨j, hj, hjl⟩ := index_at z3 xb.length h3 hpos hb1
      have HO := Lib.hid (World.ownsRow_lit (base := w5.heap.size) (e := 5) (size := 1) w5 #[] 0 (Nat.le_refl _) (by unfold maxLen; omega) rfl)
      have HN : Hid ((xb.map (Value.int .u8)).length = xb.length * 1) := Lib.hid (by simp)
      have HC : Hid (∀ j u, (xb.map (Value.int .u8))[j]? = some u → (w5.alloc (.cells #[] 5)).cell? ((⟨bb, ob, none⟩ : Addr).add j) = some u) := Lib.hid (Arr.src (hAb5.alloc _))
      have HJ := Lib.hid hj
      clear hb hpos hne
      go_wp2_with (at_builtin; refine wpList_append_lies _ rfl _ _ 23 rfl w5.heap.size 5 i0 (.int .u8 0) 1 1 Try.underlying23 hi hz0 hz1' hz2' rfl (by decide) _ _ _ rfl HO.out ⟨bb, ob, none⟩ xb.length capb (xb.map (Value.int .u8)) rfl HN.out HC.out (by intro u hu; rw [List.mem_map] at hu; obtain ⟨x, _, rfl⟩ := hu; rfl) (by omega) (by unfold maxLen; omega) (by omega) (by simp) _ rfl ?_; intro g cap' w6 hown hgrow _ _; simp only [Nat.zero_add, List.nil_append] at hown; have hcg := rowk_cell hown hjl; have hfg := hown.frozenAt j; have g06 := cell_grown n0 hw5 hgrow)
      have hv8 : 0 ≤ z0 % 256 ∧ z0 % 256 < 256 := by omega
      obtain ⟨v, hv⟩ : ∃ v, v = z0 % 256 := ⟨_, rfl⟩
      rw [← hv] at hv8
      simp only [← hv]
      clear hv
      have hrow4 := rowk_store (j := j) hown v
      obtain ⟨hg1, hg2, hgc⟩ := rowk_base hrow4
      have hb4 : Below w5.heap.size w5 (w6.setCell ⟨g, j, none⟩ (.int .u8 v)) := (((Below.refl _ w5).alloc (Nat.le_refl _) _).grown hgrow (by simp) (fun g' hg' => by have h5 : some w5.heap.size = some g' := hg'; injection h5 with h5; omega)).setCell (p := ⟨g, j, none⟩) hg1 _
      have hA6 := hAb5.keep hb4
      have hO6 := (Arr.own hrow4).2
      have hB6 := hB5.trans (hb4.mono hB5.size)
      have hcx := (hb4.cell (p := ⟨bb, ob + j, none⟩) hbl).trans (hcs j hjl)
      have hcy := rowk_cell (j := j) hrow4 (by simpa using hjl)
      rw [List.getElem?_set_self hjl, Option.getD_some] at hcy
      have hbl6 := Nat.lt_of_lt_of_le hbl hb4.size
      generalize w6.setCell ⟨g, j, none⟩ (.int .u8 v) = w7 at *
      clear hrow4 hown hgrow hb4 HO HN HC hcs g06
      obtain ⟨q4, hq4, hq4'⟩ : ∃ q, (bytesI xb == bytesI (xb.set j v)) = q ∧ (xb[j]?.getD 0 == v) = q := ⟨_, bytes_set xb j v hb8 hjl hv8, rfl⟩
      have HB8 := Lib.hid hb8
      have HB8' : Hid (B8 (xb.set j v)) := Lib.hid (fun x hx => by
        rcases List.mem_or_eq_of_mem_set hx with h | h
        · exact hb8 x h
        · rw [h]; exact hv8)
      have HLn : Hid ((xb.set j v).length = xb.length) := Lib.hid (by simp)
      generalize xb[j]?.getD 0 = x at hcx hq4'
      have k1 := Later.cell (w := w7) (a := ⟨bb, ob + j, none⟩) hcx hbl6
      have k2 := Later.cell (w := w7) (a := ⟨g, j, none⟩) hcy hg2
      have H6 := Lib.hid hA6
      have HO6 := Lib.hid hO6
      have HB6 := Lib.hid hB6
      clear hb8 hA6 hO6 hB6 hcx hcy
      go_wp2_with fail
      refine wp_region_later (by kernel_rfl) (by kernel_rfl) ?_
      repeat (go_big_quiet_step ((first
        | (go_at_call 13; ((with_reducible refine later_of (bytes_L (some ⟨bb, ob, none⟩) xb xb.length capb _ rfl (by omega) hcapb HB8.out ?_)); exact H6.out.keep (Later.below _)))
        | (go_at_call 13; ((with_reducible refine later_of (bytes_L (some ⟨g, 0, none⟩) (xb.set j v) xb.length cap' _ HLn.out (by omega) hgc HB8'.out ?_)); exact HO6.out.keep (Later.below _))))))
      refine wpQuiet_nil ?_
      intro _ hw'
      obtain ⟨r, hw''⟩ := hw'
      subst hw''
      go_wp2_with fail
      go_ret
      exact ⟨rfl, HB6.out.trans (r.below.mono HB6.out.size)⟩

end Dg
end Go.Proofs.Ytgjmhddekggilaa
