/- Statement FractionTexts: the walk. -/
import Derived.Test.YtcecdmooojkmoaaDoorP12
import Derived.Test.YtcecdmooojkmoaaDoorF10
import Derived.Laws.AppendOwn
import Derived.Deep.DeepCutAuto
import Derived.ProofKit
namespace Go.Proofs.YtcecdmooojkmoaaDoor
open Go.RowKit Go.Shelf Go.Sort
namespace Fr
set_option linter.unusedVariables false

/-- What the law asks of one string. -/
theorem txt_case (r : ByteArray) (hr : r.size ≤ 1000) : ∃ N D E : Int,
    (∀ W : World, Vars W → Calls Tryd.prog 24 #[.string r] W fun o w' => o = .returned (.agg #[.int .i64 N, .int .i64 D, .int .i64 E]) ∧ Below W.heap.size W w') ∧
    (∀ W : World, Calls Tryd.prog 26 #[.string r] W fun o w' => o = .returned (.agg #[.int .i64 N, .int .i64 D, .int .i64 E]) ∧ Below W.heap.size W w') ∧
    (E = 0 ∧ (∀ W : World, Vars W → Calls Tryd.prog 23 #[.agg #[.int .i64 N, .int .i64 D]] W fun o w' => o = .returned (.string r) ∧ Below W.heap.size W w') ∨ E = 5) := by
  have e : (⟨r.data.toList.toArray⟩ : ByteArray) = r := by cases r; simp
  have hl : r.data.toList.length ≤ 1000 := by simpa using hr
  refine ⟨pN r.data.toList, pD r.data.toList, pE r.data.toList, fun W hW => ?_, fun W => rparse_any r W (by omega), ?_⟩
  · have := parsed_any r.data.toList W (by omega) hW
    rwa [e] at this
  · by_cases h : parOk r.data.toList = true
    · left
      obtain ⟨q, hq, ht⟩ := par_ok h
      refine ⟨by unfold pE; rw [if_pos h], fun W hW => ?_⟩
      have h1 : pN r.data.toList = parn r.data.toList := by unfold pN; rw [if_pos h]
      have h2 : pD r.data.toList = pard r.data.toList := by unfold pD; rw [if_pos h]
      have := text_any (parn r.data.toList) (pard r.data.toList) W hq.n62.i64 hq.d62.i64 hW
      rw [ht, e] at this
      rw [h1, h2]
      exact this
    · right
      unfold pE; rw [if_neg h]

/-- The text of a fraction, parsed. -/
theorem txt_own {q : Rat} {n d : Int} (h : IsF q n d) : ∃ t : ByteArray, t.size ≤ 100 ∧
    (∀ W : World, Vars W → Calls Tryd.prog 23 #[.agg #[.int .i64 n, .int .i64 d]] W fun o w' => o = .returned (.string t) ∧ Below W.heap.size W w') ∧
    (∀ W : World, Vars W → Calls Tryd.prog 24 #[.string t] W fun o w' => o = .returned (.agg #[.int .i64 n, .int .i64 d, .int .i64 0]) ∧ Below W.heap.size W w') := by
  have hn := h.n62.i64
  have hd := h.d62.i64
  have l1 := Lib.itoa_length_le n hn.1 hn.2
  have l2 := Lib.itoa_length_le d hd.1 hd.2
  have hl : (textL n d).length ≤ 100 := by
    unfold textL
    split
    · omega
    · simp; omega
  refine ⟨⟨(textL n d).toArray⟩, by show (textL n d).toArray.size ≤ 100; simpa using hl, fun W hW => text_any n d W hn hd hW, fun W hW => ?_⟩
  have := parsed_any (textL n d) W (by omega) hW
  have h1 : pN (textL n d) = n := by unfold pN; rw [if_pos (par_yes h)]; exact (par_text h).1
  have h2 : pD (textL n d) = d := by unfold pD; rw [if_pos (par_yes h)]; exact (par_text h).2
  have h3 : pE (textL n d) = 0 := by unfold pE; rw [if_pos (par_yes h)]
  rwa [h1, h2, h3] at this

/-- A row of strings. -/
def RowS (W : World) (v : Value) (wx : World) : Prop := ∃ (g cap : Nat) (rs : List ByteArray), v = .slice (some ⟨g, 0, none⟩) rs.length cap ∧ rs.length ≤ 3 ∧ (∀ r ∈ rs, r.size ≤ 1000) ∧ g < wx.heap.size ∧ (∀ (j : Nat) (h : j < rs.length), wx.cell? ⟨g, j, none⟩ = some (.string rs[j])) ∧ Below W.heap.size W wx
theorem row_own {W w : World} {base : Nat} {e : TypeId} {v : Value} {rs : List ByteArray} (h : w.ownsRow base e 1 v rs.length (rs.map Value.string)) (h0 : 0 < rs.length) (h3 : rs.length ≤ 3) (hr : ∀ r ∈ rs, r.size ≤ 1000) (hb : Below W.heap.size W w) : RowS W v w := by
  rcases h.2 with ⟨rfl, hn⟩ | ⟨g, cap, cur, hv, hb2, hg, hnc, _, _, ht⟩
  · omega
  · refine ⟨g, cap, rs, hv, h3, hr, (Array.getElem?_eq_some_iff.1 hg).1, fun j hj => ?_, hb⟩
    have h1 : (rs.map Value.string)[j]? = some (.string rs[j]) := by simp [hj]
    rw [← ht, List.getElem?_take, if_pos (by omega)] at h1
    simpa [World.cell?, hg] using h1

theorem info9 : (Tryd.prog.info? 9).map (fun i => (i.zero, i.size, i.bytes)) = some (some (.string ⟨#[]⟩), 1, 16) := by kernel_rfl

set_option maxRecDepth 100000 in
set_option maxHeartbeats 4000000 in
theorem texts_walk (x0 x1 z0 z1 z2 : Int) (s : ByteArray) (w : World) (hx0 : I64 x0) (hx1 : I64 x1) (hz0 : 0 ≤ z0 ∧ z0 ≤ 255) (hz1 : 0 ≤ z1 ∧ z1 ≤ 255) (hz2 : 0 ≤ z2 ∧ z2 ≤ 255) (hs : s.size ≤ 9223372036854775807) (hv : Vars w) :
    Calls Tryd.prog 7 #[.agg #[.int .i64 x0, .int .i64 x1], .agg #[.int .u8 z0, .int .u8 z1, .int .u8 z2], .string s] w fun o w' => o = .returned (.bool true) ∧ Below w.heap.size w w' := by
  have HX := Lib.hid (fun W : World => made_any x0 x1 W hx0 hx1)
  have HE1 := Lib.hid (fun (t : ByteArray) (h : t.size ≤ 1000) (W : World) => edited_int t z0 z1 z2 W h hz0 hz1 hz2)
  have HE2 := Lib.hid (fun (t : ByteArray) (h : t.size ≤ 1000) (W : World) => edited_int t z1 z2 z0 W h hz1 hz2 hz0)
  clear hx0 hx1 hz0 hz1 hz2
  go_enter Tryd.func7, Tryd.ntmps7
  go_wp2_with fail
  have X0 := (Box2.new w (.int .i64 x0) (.int .i64 x1) 22).alloc (.cells #[.int .u8 z0, .int .u8 z1, .int .u8 z2] 40)
  have Z0 := Box3.newAt (W := w.alloc (.cells #[.int .i64 x0, .int .i64 x1] 22)) (B := w.heap.size + 1) (by simp) (.int .u8 z0) (.int .u8 z1) (.int .u8 z2) 40
  have B0 := ((Below.refl w.heap.size w).alloc (Nat.le_refl _) (.cells #[.int .i64 x0, .int .i64 x1] 22)).alloc (by simp) (.cells #[.int .u8 z0, .int .u8 z1, .int .u8 z2] 40)
  have V0 := hv.keep B0
  generalize (w.alloc (.cells #[.int .i64 x0, .int .i64 x1] 22)).alloc (.cells #[.int .u8 z0, .int .u8 z1, .int .u8 z2] 40) = W0 at *
  refine (examples_any _ V0).mono ?_
  rintro o w1 ⟨rfl, hb⟩
  have X1 := X0.keep hb
  have Z1 := Z0.keep hb
  have V1 := V0.keep hb
  have B1 := B0.trans (hb.mono B0.size)
  clear X0 Z0 V0 B0 hb hv
  have c0 := X1.c0
  have c1 := X1.c1
  go_wp2_with fail
  refine (HX.out _).mono ?_
  rintro o w2 ⟨A, an, ad, HA0, rfl, hb⟩
  obtain ⟨t, ht1, ht2, ht3⟩ := txt_own HA0
  have HT := Lib.hid ht2
  have HP := Lib.hid ht3
  have Ht := Lib.hid ht1
  clear HA0 ht1 ht2 ht3
  have A2 := Box2.new w2 (.int .i64 an) (.int .i64 ad) 25
  have Z2 := (Z1.keep hb).alloc (.cells #[.int .i64 an, .int .i64 ad] 25)
  have B2 := (B1.trans (hb.mono B1.size)).alloc (B1.trans (hb.mono B1.size)).size (.cells #[.int .i64 an, .int .i64 ad] 25)
  have V2 := (V1.keep hb).keep ((Below.refl _ w2).alloc (Nat.le_refl _) (.cells #[.int .i64 an, .int .i64 ad] 25))
  clear X1 Z1 V1 B1 hb c0 c1 HX
  go_upto_region 5 with fail
  generalize w2.alloc (.cells #[.int .i64 an, .int .i64 ad] 25) = W1 at *
  have a0 := A2.c0
  have a1 := A2.c1
  go_wp2_with fail
  refine (HT.out _ V2).mono ?_
  rintro o w3 ⟨rfl, hb⟩
  have A3 := A2.keep hb
  have Z3 := Z2.keep hb
  have B3 := B2.trans (hb.mono B2.size)
  have V3 := V2.keep hb
  clear A2 Z2 B2 V2 hb a0 a1 HT
  go_upto_region 6 with fail
  go_cut [31] (fun v wx => v = .bool false ∧ ∃ z : Later w3, wx = z.val)
  case first => as_aux_lemma =>
    have HP3 : Hid (∀ p : Later w3, _) := Lib.hid (fun p => HP.out p.val (V3.keep p.below))
    obtain ⟨a0, a1⟩ := A3.later
    have q7 : (an == an) = true := by simp
    have q8 : (ad == ad) = true := by simp
    clear A3 Z3 B3 V3 HP
    refine wp_region_later (by kernel_rfl) (by kernel_rfl) ?_
    repeat (go_big_quiet_step (((first | (go_at_call 24; with_reducible exact later_of (HP3.out _)) | (go_at_call 13; with_reducible exact later_of (is_any _ _ _))))))
    refine wpQuiet_nil ?_
    intro _ hw'
    obtain ⟨z, hw''⟩ := hw'
    subst hw''
    go_wp2_with fail
    go_meet
    case rel => exact ⟨rfl, z, rfl⟩
  case rest => as_aux_lemma =>
    obtain ⟨rfl, z, rfl⟩ := hcut
    have Z4 := Z3.keep z.below
    have B4 := B3.trans (z.below.mono B3.size)
    have V4 := V3.keep z.below
    generalize z.val = W2 at *
    clear A3 Z3 B3 V3 z HP
    have c0 := Z4.c0
    have c1 := Z4.c1
    have c2 := Z4.c2
    have HE := Lib.hid (fun W : World => HE1.out t (by have := Ht.out; omega) W)
    go_wp2_with fail
    refine (HE.out _).mono ?_
    rintro o w4 ⟨odd, rfl, ho, hb⟩
    have Ho : Hid (odd.size ≤ 101) := Lib.hid (by have := Ht.out; omega)
    clear ho HE HE1 Ht
    have Z5 := Z4.keep hb
    have B5 := B4.trans (hb.mono B4.size)
    have V5 := V4.keep hb
    clear Z4 B4 V4 hb c0 c1 c2
    have c0 := Z5.c0
    have c1 := Z5.c1
    have c2 := Z5.c2
    have HE := Lib.hid (fun W : World => HE2.out odd (by have := Ho.out; omega) W)
    go_wp2_with fail
    refine (HE.out _).mono ?_
    rintro o w5 ⟨od2, rfl, ho, hb⟩
    have Ho2 : Hid (od2.size ≤ 102) := Lib.hid (by have := Ho.out; omega)
    clear ho HE HE2
    have B6 := B5.trans (hb.mono B5.size)
    have V6 := V5.keep hb
    clear Z5 B5 V5 hb c0 c1 c2
    go_upto_if 48 with fail
    have HO := World.ownsRow_lit (base := w5.heap.size) (e := 9) (size := 1) w5 #[.string odd, .string od2] 2 (Nat.le_refl _) (by unfold maxLen; omega) rfl
    have BW := (Below.refl w5.heap.size w5).alloc (Nat.le_refl _) (.cells #[.string odd, .string od2] 9)
    have hlt : w5.heap.size < (w5.alloc (.cells #[.string odd, .string od2] 9)).heap.size := by simp
    generalize w5.alloc (.cells #[.string odd, .string od2] 9) = W3 at *
    go_cut [11] (fun v wx => RowS w5 v wx)
    case first => as_aux_lemma =>
      obtain ⟨i0, hi, hy0, hy1, hy2⟩ := info_parts info9
      have hsz : (s.size : Int) ≤ 9223372036854775807 := by omega
      clear B6 V6
      by_cases h100 : (s.size : Int) ≤ 100
      · have hd : decide ((s.size : Int) ≤ 100) = true := by simpa using h100
        go_wp2_with (at_builtin; refine wpList_append_own _ rfl _ _ 44 rfl w5.heap.size 9 i0 (.string ⟨#[]⟩) 1 16 (by kernel_rfl) hi hy0 hy1 hy2 rfl (by decide) _ _ _ rfl (HO.alloc _) ⟨W3.heap.size, 0, none⟩ 1 1 [.string s] rfl rfl (cell_one_new _ _ _) (by simp [Value.oneCell']) (by unfold maxLen; omega) (by omega) (by simp; omega) ?_; intro v' w6 hown hgrow _)
        go_meet
        case rel =>
          have hb := (BW.alloc (by omega) (.cells #[.string s] 9)).grown hgrow (by simp; omega) (fun k hk => by have h5 : some w5.heap.size = some k := hk; injection h5 with h5; omega)
          exact row_own (rs := [odd, od2, s]) (by first | exact hown | simpa using hown) (by simp) (by simp) (by
            intro r hr
            have h1 := Ho.out
            have h2 := Ho2.out
            simp at hr
            rcases hr with rfl | rfl | rfl <;> omega) hb
      · have hd : decide ((s.size : Int) ≤ 100) = false := by simpa using h100
        go_wp2_with fail
        go_meet
        case rel =>
          exact row_own (rs := [odd, od2]) (by first | exact HO | simpa using HO) (by simp) (by simp) (by
            intro r hr
            have h1 := Ho.out
            have h2 := Ho2.out
            simp at hr
            rcases hr with rfl | rfl <;> omega) BW
    case rest => as_aux_lemma =>
      obtain ⟨g, cap, rs, rfl, hn, hr, hg, hcells, hbl⟩ := hcut
      clear HO BW hlt Ho Ho2
      have B8 := B6.trans (hbl.mono B6.size)
      have V8 := V6.keep hbl
      clear B6 V6 hbl
      have HR := Lib.hid hr
      have HL := Lib.hid hcells
      clear hr hcells
      obtain ⟨n, hnn⟩ : ∃ n, rs.length = n := ⟨_, rfl⟩
      have HN := Lib.hid hnn
      rw [hnn] at hn ⊢
      clear hnn
      go_wp2_with fail
      go_loopw [12] (fun i wr => ∃ j : Nat, j ≤ n ∧ i = .int .i64 j ∧ Below wc.heap.size wc wr) (fun i _ => n - (intOf i).toNat)
      case atStart => exact ⟨0, by omega, rfl, Below.refl _ _⟩
      case round => as_aux_lemma =>
        obtain ⟨j, hj, rfl, hbl⟩ := hrel
        have B9 := B8.trans (hbl.mono B8.size)
        have V9 := V8.keep hbl
        by_cases hlt : j < n
        · obtain ⟨r, hrd, hr0⟩ : ∃ r, rs[j]? = some r ∧ r.size ≤ 1000 := ⟨rs[j]'(by have := HN.out; omega), by simp, HR.out _ (List.getElem_mem _)⟩
          have hcell : wr.cell? ⟨g, j, none⟩ = some (.string r) := by
            obtain ⟨hj', e⟩ := List.getElem?_eq_some_iff.1 hrd
            have h := HL.out j hj'
            rw [e] at h
            exact (hbl.cell (p := ⟨g, j, none⟩) hg).trans h
          have hgr : g < wr.heap.size := Nat.lt_of_lt_of_le hg hbl.size
          obtain ⟨N, D, E, k1, k2, k3⟩ := txt_case r hr0
          have K1 := Lib.hid k1
          have K2 := Lib.hid k2
          have K3 := Lib.hid k3
          clear k1 k2 k3 hrd hr0 HR HL HN V8 B8 hg
          go_wp2_with fail
          refine (K1.out _ V9).mono ?_
          rintro o w7 ⟨rfl, hb⟩
          have hc0 : ∀ p : Later (w7.alloc (.cells #[.int .i64 N, .int .i64 D, .int .i64 E] 29)), p.val.cell? ⟨g, j, none⟩ = some (.string r) := fun p => (((hb.trans (((Below.refl w7.heap.size w7).alloc (Nat.le_refl _) (.cells #[.int .i64 N, .int .i64 D, .int .i64 E] 29)).mono hb.size)).trans (p.below.mono (by have := hb.size; simp; omega))).cell (p := ⟨g, j, none⟩) hgr).trans hcell
          have P9 := Box3.new w7 (.int .i64 N) (.int .i64 D) (.int .i64 E) 29
          have B10 := (B9.trans (hb.mono B9.size)).alloc (B9.trans (hb.mono B9.size)).size (.cells #[.int .i64 N, .int .i64 D, .int .i64 E] 29)
          have bl10 := (hbl.trans (hb.mono hbl.size)).alloc (hbl.trans (hb.mono hbl.size)).size (.cells #[.int .i64 N, .int .i64 D, .int .i64 E] 29)
          have V10 := (V9.keep hb).keep ((Below.refl _ w7).alloc (Nat.le_refl _) (.cells #[.int .i64 N, .int .i64 D, .int .i64 E] 29))
          clear B9 V9 hb hcell hgr hbl K1
          go_upto_region 16 with fail
          generalize w7.alloc (.cells #[.int .i64 N, .int .i64 D, .int .i64 E] 29) = W5 at *
          obtain ⟨p0, p1, p2⟩ := P9.later
          clear P9
          have hff := field_fr
          have hfe := field_err
          have q1 : (N == N) = true := by simp
          have q2 : (D == D) = true := by simp
          have q3 : (r.toList == r.toList) = true := by simp
          rcases K3.out with ⟨rfl, k3⟩ | rfl
          · have K4 : Hid (∀ p : Later W5, _) := Lib.hid (fun p => k3 p.val (V10.keep p.below))
            clear k3 K3 V10
            refine wp_region_later (by kernel_rfl) (by kernel_rfl) ?_
            repeat (go_big_quiet_step (((first | (go_at_call 26; with_reducible exact later_of (K2.out _)) | (go_at_call 23; with_reducible exact later_of (K4.out _))))))
            refine wpQuiet_nil ?_
            intro _ hw'
            obtain ⟨z, hw''⟩ := hw'
            subst hw''
            go_wp2_with fail
            go_roundw
            case rel => exact ⟨j + 1, by omega, by go_num, bl10.trans (z.below.mono bl10.size)⟩
            case measure => simp [intOf]; omega
          · clear K3 V10
            refine wp_region_later (by kernel_rfl) (by kernel_rfl) ?_
            repeat (go_big_quiet_step (((go_at_call 26; with_reducible exact later_of (K2.out _)))))
            refine wpQuiet_nil ?_
            intro _ hw'
            obtain ⟨z, hw''⟩ := hw'
            subst hw''
            go_wp2_with fail
            go_roundw
            case rel => exact ⟨j + 1, by omega, by go_num, bl10.trans (z.below.mono bl10.size)⟩
            case measure => simp [intOf]; omega
        · clear HR HL HN V8 V9 B8
          go_wp2_with fail
          go_ret
          exact ⟨rfl, B9⟩
end Fr
end Go.Proofs.YtcecdmooojkmoaaDoor
