/- The law that the program and the reference return the same. -/
import Derived.Test.YtcdoalfpaldbmaaV7
import Derived.Test.YtcdoalfpaldbmaaM4
import Derived.Test.YtcdoalfpaldbmaaWK
namespace Go.Proofs.Ytcdoalfpaldbmaa
open Go.RowKit Sl Fr Dg
namespace Jn
set_option linter.unusedVariables false
attribute [local go_sem] field_b0 field_b1 field_r0 field_r3

/-- The record that the law puts. -/
def lawR (x : Int) (n : Nat) : List Int := (List.range n).map fun (i : Nat) => 7 * (i : Int) - x
theorem lawR_succ (x : Int) (n : Nat) : lawR x (n + 1) = lawR x n ++ [7 * (n : Int) - x] := by simp [lawR, List.range_succ]
theorem lawR_length (x : Int) (n : Nat) : (lawR x n).length = n := by simp [lawR]
theorem lawR_I64 (x : Int) (n : Nat) (hx : 0 ≤ x ∧ x < 65536) (hn : n ≤ 300) : ∀ y ∈ lawR x n, I64 y := fun y hy => by
  simp only [lawR, List.mem_map, List.mem_range] at hy
  obtain ⟨i, hi, rfl⟩ := hy
  unfold I64; omega
theorem riN {w w' : World} {A : Option Addr} {c : Nat} {rs : List (List Int)} {rest : List Int} {e : Ending} (h : GiveRI w A c rs rest e w') {E : Nat} {key x : Int} {S : Option Addr} (hE : E = (jour 0 rs).length) (hk : key = sealK 0 rs) (hx : x = errR rest) (hS : S = subA A E c) :
    ∃ A' c', e = .returned (.agg #[.slice A' rs.length c', .slice S rest.length (c - E), .int .i64 x, .int .i64 (E : Int), .int .u64 key]) ∧ LLF w' w.heap.size A' rs ∧ Below w.heap.size w w' := by
  obtain ⟨A', c', h1, _, h3, h4⟩ := h
  subst hE hk hx hS
  exact ⟨A', c', h1, h3, h4⟩
theorem xor_range (x y : Int) (hx : 0 ≤ x ∧ x < 256) (hy : 0 ≤ y ∧ y < 256) : 0 ≤ bits .xor .u8 x y ∧ bits .xor .u8 x y < 256 := by
  obtain ⟨a, rfl⟩ := Int.eq_ofNat_of_zero_le hx.1
  obtain ⟨b, rfl⟩ := Int.eq_ofNat_of_zero_le hy.1
  have hxx : a ^^^ b < 2 ^ 8 := Nat.xor_lt_two_pow (by omega) (by omega)
  have e : bits .xor .u8 (a : Int) (b : Int) = ((a ^^^ b : Nat) : Int) := by
    show IntKind.u8.wrap ((BitVec.ofInt 8 (a : Int) ^^^ BitVec.ofInt 8 (b : Int)).toNat : Int) = _
    rw [BitVec.toNat_xor, BitVec.ofInt_natCast, BitVec.ofInt_natCast, BitVec.toNat_ofNat, BitVec.toNat_ofNat, Nat.mod_eq_of_lt (by omega), Nat.mod_eq_of_lt (by omega), IntKind.wrap_u8]
    omega
  rw [e]; omega

set_option maxRecDepth 100000 in
set_option maxHeartbeats 12800000 in
theorem matches_law (A B : Option Addr) (bs : List Int) (rs : List (List Int)) (c d : Nat) (x0 x1 x2 x3 : Int) (w : World) (hA : Byt w A bs) (hb8 : B8 bs) (hbn : A = none → bs = [] ∧ c = 0) (hbc : bs.length ≤ c) (hbl : bs.length ≤ 9223372036854775807)
    (hB : LL w B rs) (hi : ∀ r ∈ rs, ∀ x ∈ r, I64 x) (hlen : rs.length ≤ 9223372036854775807) (hx0 : 0 ≤ x0 ∧ x0 < 65536) (hx1 : 0 ≤ x1 ∧ x1 < 65536) (hx2 : 0 ≤ x2 ∧ x2 < 65536) (hx3 : 0 ≤ x3 ∧ x3 < 65536) :
    Calls Try.prog 3 #[.slice A bs.length c, .slice B rs.length d, .agg #[.int .u16 x0, .int .u16 x1, .int .u16 x2, .int .u16 x3]] w fun e w' => e = .returned (.bool true) ∧ Below w.heap.size w w' := by
  have hst := start1 w #[.int .u16 x0, .int .u16 x1, .int .u16 x2, .int .u16 x3] 25
  go_enter Try.func3, Try.ntmps3
  go_upto_region 1 with fail
  generalize w.alloc (.cells #[.int .u16 x0, .int .u16 x1, .int .u16 x2, .int .u16 x3] 25) = W0 at *
  obtain ⟨hkb, hb0⟩ := hst
  have hA0 := hA.keep hb0
  have hB0 := hB.keep hb0
  clear hA hB
  go_upto_region 4 with (go_at_call 9; refine (examples_any _).mono ?_; rintro e X ⟨rfl, hbX⟩)
  have hsm := small_any B rs d X (hB0.keep hbX) hlen
  by_cases hbig : 2000 < bs.length
  · go_wp2
    go_ret
    exact ⟨rfl, hb0.trans (hbX.mono hb0.size)⟩
  by_cases h1 : smallB rs = true
  case neg =>
    have h1' : smallB rs = false := by simpa using h1
    rw [h1'] at hsm
    go_wp2_with (go_at_call 10; refine hsm.mono ?_; rintro e w2 ⟨rfl, rfl⟩)
    go_ret
    exact ⟨rfl, hb0.trans (hbX.mono hb0.size)⟩
  rw [h1] at hsm
  have hok := small_ok h1 hi
  have hjl := small_len h1
  have hrl := (small_iff h1).1
  have hjo := rjournal_any B rs d X (hB0.keep hbX) hok (by omega) (by omega)
  have HJB := Lib.hid (jour_B8 0 rs)
  generalize jour 0 rs = js at *
  clear hok h1 hi hlen hbl
  go_upto_region 6 with (go_at_call 10; refine hsm.mono ?_; rintro e w2 ⟨rfl, rfl⟩)
  clear hsm
  go_upto_region 7 with (go_at_call 11; refine hjo.mono ?_; rintro e Y ⟨v8, rfl, how, hbY⟩; obtain ⟨Aj, cj, hv8, j1, j2, j3⟩ := own_form how; subst hv8)
  have hbw := hb0.trans (hbX.mono hb0.size)
  have HAX := Lib.hid (hA0.keep hbX)
  have HKX := Lib.hid (hkb.keep hbX)
  have hkY := (hkb.keep hbX).keep hbY
  have HJ := Lib.hid how
  have HJ3 := Lib.hid (ArrF.arr j3)
  have HJ2 := Lib.hid j2
  have HBN := Lib.hid hbn
  have HB8 := Lib.hid hb8
  clear hjo hA0 hB0 hb0 hkb j2 hbn hb8 how j3
  obtain ⟨L, hL⟩ : ∃ L, js.length = L := ⟨_, rfl⟩
  rw [hL] at j1 hjl
  have HL := Lib.hid hL
  simp only [hL]
  have HY := Lib.hid hbY
  clear hL hbY
  go_upto_if 33 with fail
  go_cut [8] (fun v wx => ∃ Ao os co, v = .slice Ao os.length co ∧ Arr wx Ao (u8s os) ∧ (Ao = none → os = [] ∧ co = 0) ∧ os.length ≤ co ∧ B8 os ∧ os.length ≤ 1440 ∧ Below X.heap.size X wx)
  case first =>
    by_cases hz : L = 0
    · have hz' : ¬ (0 : Int) < (L : Int) := by omega
      clear hz
      go_wp2
      go_meet
      case rel => exact ⟨Aj, js, cj, by rw [HL.out], HJ3.out, HJ2.out, by rw [HL.out]; exact j1, HJB.out, by rw [HL.out]; exact hjl, HY.out⟩
    have hz' : (0 : Int) < (L : Int) := by omega
    have hrow := row_box HJ.out (by rw [HL.out]; omega)
    rw [HL.out] at hrow
    obtain ⟨g, cap, hv, hbx, hgb⟩ := hrow
    injection hv with hv1 _ hv3
    subst hv1 hv3
    obtain ⟨p, hp, hpL⟩ : ∃ p : Nat, x0.tmod (L : Int) = (p : Int) ∧ p < L := by
      refine ⟨(x0 % (L : Int)).toNat, ?_, ?_⟩
      · rw [Int.tmod_eq_emod_of_nonneg hx0.1, Int.toNat_of_nonneg (Int.emod_nonneg _ (by omega))]
      · have := Int.emod_lt_of_pos x0 (show (0 : Int) < (L : Int) by omega)
        omega
    obtain ⟨q, hq, hqL⟩ : ∃ q : Nat, x2.tmod (L : Int) = (q : Int) ∧ q < L := by
      refine ⟨(x2 % (L : Int)).toNat, ?_, ?_⟩
      · rw [Int.tmod_eq_emod_of_nonneg hx2.1, Int.toNat_of_nonneg (Int.emod_nonneg _ (by omega))]
      · have := Int.emod_lt_of_pos x2 (show (0 : Int) < (L : Int) by omega)
        omega
    obtain ⟨x, hx⟩ := get_ex (l := js) (j := p) (by rw [HL.out]; exact hpL)
    have hxb : 0 ≤ x ∧ x < 256 := HJB.out x (List.mem_of_getElem? hx)
    have hcx : ∀ z : Later Y, z.val.cell? ⟨g, p, none⟩ = some (.int .u8 x) := fun z => (hbx.keep z.below).get (by unfold u8s; simp [hx])
    have hck0 : ∀ z : Later Y, z.val.cell? ⟨w.heap.size, 0, none⟩ = some (.int .u16 x0) := fun z => (hkY.keep z.below).get (i := 0) rfl
    have hck1 : ∀ z : Later Y, z.val.cell? ⟨w.heap.size, 1, none⟩ = some (.int .u16 x1) := fun z => (hkY.keep z.below).get (i := 1) rfl
    go_upto_region 8 with fail
    refine wp_region_later_tail 21 (by kernel_rfl) (by kernel_rfl) ?_
    simp only [List.take_succ_cons, List.take_zero, List.drop_succ_cons, List.drop_zero]
    repeat (go_big_quiet_step (fail))
    refine wpQuiet_nil ?_
    intro _ hw'
    obtain ⟨z, hw''⟩ := hw'
    subst hw''
    have hbz := hbx.keep z.below
    have hcz : z.val.cell? ⟨g, p, none⟩ = some (.int .u8 x) := hcx z
    have hfz : z.val.frozen? ⟨g, p, none⟩ = false := hbz.mark (by simp [u8s]; rw [HL.out]; omega)
    have hk2 := (hkY.keep z.below).get (i := 2) rfl
    have hyb : 0 ≤ x1 % 256 ∧ x1 % 256 < 256 := by omega
    have hvr := xor_range x (x1 % 256) hxb hyb
    have hs1 := hbz.set1 (i := p) (by simp [u8s]; rw [HL.out]; omega) (.int .u8 (bits .xor .u8 x (x1 % 256)))
    have hod := arr_of_box hs1 (u8s_set js p _)
    have hyz := HY.out.trans (z.below.mono HY.out.size)
    have hb4 := hyz.setCell (p := ⟨g, p, none⟩) hgb (.int .u8 (bits .xor .u8 x (x1 % 256)))
    have hb8' : B8 (js.set p (bits .xor .u8 x (x1 % 256))) := fun a ha => by
      rcases List.mem_or_eq_of_mem_set ha with h | rfl
      · exact HJB.out a h
      · exact hvr
    have hNk : w.heap.size < X.heap.size := by have := HKX.out.lt; exact this
    have hk3 : ∀ v, (z.val.setCell ⟨g, p, none⟩ v).cell? ⟨w.heap.size, 2, none⟩ = some (.int .u16 x2) := fun v => (World.cell?_setCell_far _ _ _ _ (by simp; omega)).trans hk2
    have HOD := Lib.hid hod
    have HOL := Lib.hid (show (js.set p (bits .xor .u8 x (x1 % 256))).length = L by rw [List.length_set, HL.out])
    have HB4 := Lib.hid hb4
    have HB8' := Lib.hid hb8'
    clear hod hb4 hb8' hs1 hvr hyb hbz hck0 hck1 hcx hbx hx hxb hyz
    have hk3 := hk3 (.int .u8 (bits .xor .u8 x (x1 % 256)))
    go_upto_region 9 with fail
    generalize z.val.setCell ⟨g, p, none⟩ (.int .u8 (bits .xor .u8 x (x1 % 256))) = Y1 at *
    generalize js.set p (bits .xor .u8 x (x1 % 256)) = od at *
    obtain ⟨m, hm, hmL⟩ : ∃ m : Nat, (L : Int) - (q : Int) = (m : Int) ∧ m ≤ L := ⟨L - q, by omega, by omega⟩
    have hol : od.length = L := HOL.out
    have hml : (od.take m).length = m := by rw [List.length_take, hol]; omega
    have HML := Lib.hid hml
    clear hol hml hcz hfz hk2
    go_wp2
    go_meet
    case rel => exact ⟨some ⟨g, 0, none⟩, od.take m, cj, by rw [HML.out], Byt.take HOD.out m, (fun e => by cases e), by rw [HML.out]; omega, fun a ha => HB8'.out a (List.mem_of_mem_take ha), by rw [HML.out]; omega, HB4.out⟩
  case rest =>
    obtain ⟨Ao, os, co, rfl, ho1, ho2, ho3, ho4, ho5, hbc1⟩ := hcut
    clear HJ HJ3 HJ2 HJB HL hjl hrl j1 hkY HY
    have HO1 := Lib.hid ho1
    have HO2 := Lib.hid ho2
    have HO4 := Lib.hid ho4
    have hkc := HKX.out.keep hbc1
    have HKC := Lib.hid hkc
    have hAc := HAX.out.keep hbc1
    have HAC := Lib.hid hAc
    have hbwc := hbw.trans (hbc1.mono hbw.size)
    clear ho1 ho2 ho4 hkc hAc HAX HKX hbX hbw hbc1
    obtain ⟨i0, hi0, hz0, hz1, hz2⟩ := info_parts infoInt
    obtain ⟨nr, hnr, hnr3⟩ : ∃ n : Nat, x3.tmod 300 = (n : Int) ∧ n < 300 := by
      refine ⟨(x3 % 300).toNat, ?_, ?_⟩
      · rw [Int.tmod_eq_emod_of_nonneg hx3.1, Int.toNat_of_nonneg (Int.emod_nonneg _ (by omega))]
      · omega
    have hrow0 : (wc.alloc (.cells #[] 3)).ownsRow wc.heap.size 3 1 (.slice (some ⟨wc.heap.size, 0, none⟩) 0 0) 0 (i64s (lawR x3 0)) :=
      ⟨rfl, .inr ⟨wc.heap.size, 0, #[], rfl, Nat.le_refl _, World.alloc_heap_new wc _, Nat.le_refl _, Nat.zero_le _, rfl, rfl⟩⟩
    have HROW0 := Lib.hid hrow0
    have HBA := Lib.hid ((Below.refl wc.heap.size wc).alloc (Nat.le_refl _) (.cells #[] 3))
    clear hrow0
    go_wp2
    go_loopw [9, 10] (fun v i wr => ∃ t : Nat, t ≤ nr ∧ i = .int .i64 t ∧ wr.ownsRow wc.heap.size 3 1 v t (i64s (lawR x3 t)) ∧ Below wc.heap.size wc wr) (fun _ i _ => nr - (intOf i).toNat)
    case atStart => exact ⟨0, Nat.zero_le _, rfl, HROW0.out, HBA.out⟩
    case round =>
      clear HROW0 HBA
      obtain ⟨t, ht, rfl, hown, hbl⟩ := hrel
      have hk3 := (HKC.out.keep hbl).get (i := 3) rfl
      by_cases hlt : t < nr
      · have hownA := ownsRow_block (W' := wr.alloc (.cells #[.int .i64 (7 * (t : Int) - x3)] 3)) hown (fun g _ hlt => (Below.heap_alloc _ _ _ hlt))
        have hob := Lib.hid (row_own hown)
        have HBL := Lib.hid hbl
        have hsz := hbl.size
        have HRG := Lib.hid (show i64s (lawR x3 t) ++ [Value.int .i64 (7 * (t : Int) - x3)] = i64s (lawR x3 (t + 1)) by rw [i64s_snoc, lawR_succ])
        clear hown
        go_wp2_with (at_builtin; go_loud (refine wpList_append_own_at _ rfl _ _ 29 rfl wc.heap.size 3 i0 (.int .i64 0) 1 8 Try.underlying29 hi0 hz0 hz1 hz2 rfl (by decide) u9 t (i64s (lawR x3 t)) rfl hownA ⟨wr.heap.size, 0, none⟩ 1 1 [.int .i64 (7 * (t : Int) - x3)] rfl rfl (cell_one_new _ _ _) (by simp [Value.oneCell']) (by unfold maxLen; omega) (by omega) (by simp; omega) ?_; intro v' w3 hown' hg3' hnil3 hob3; go_frame))
        have hb3 : Below wc.heap.size wc w3 := (HBL.out.alloc hsz (.cells #[.int .i64 (7 * (t : Int) - x3)] 3)).grown hg3' (by simp; omega) hob.out
        rw [HRG.out] at hown'
        go_roundw
        case rel => exact ⟨t + 1, by omega, by go_num, hown', hb3⟩
        case measure => simp [intOf]; omega
      · obtain rfl : nr = t := by omega
        obtain ⟨Ar, cr, hvr, hcr, _, hAr, _⟩ := row_forms hown
        subst hvr
        have HARR := Lib.hid (show Arr wr (some ⟨wr.heap.size, 0, none⟩) [] from fun h => absurd rfl h)
        obtain ⟨r0, rest0, hp0⟩ := parses_any bs.length 0 bs (Nat.le_refl _) HB8.out
        obtain ⟨r1, rest1, hp1⟩ := parses_any os.length 0 os (Nat.le_refl _) HO4.out
        have hbA : Below wr.heap.size wr (wr.alloc (.cells #[.slice A bs.length c, .slice Ao os.length co] 22)) := (Below.refl _ wr).alloc (Nat.le_refl _) _
        have hbxA := BoxL.new wr #[.slice A bs.length c, .slice Ao os.length co] 22
        have hwA := hbl.trans (hbA.mono hbl.size)
        have hall : ∀ t : Nat, t < 2 → ∃ v Ai bi ci ri resti, (wr.alloc (.cells #[.slice A bs.length c, .slice Ao os.length co] 22)).cell? ⟨wr.heap.size, t, none⟩ = some v ∧ Case (wr.alloc (.cells #[.slice A bs.length c, .slice Ao os.length co] 22)) v Ai bi ci ri resti := fun t ht => by
          rcases (show t = 0 ∨ t = 1 by omega) with rfl | rfl
          · exact ⟨_, A, bs, c, r0, rest0, hbxA.get (i := 0) rfl, rfl, HAC.out.keep hwA, HBN.out, hbc, HB8.out, by omega, hp0⟩
          · exact ⟨_, Ao, os, co, r1, rest1, hbxA.get (i := 1) rfl, rfl, Arr.keep HO1.out hwA, HO2.out, ho3, HO4.out, by omega, hp1⟩
        have HALL := Lib.hid hall
        have hARr := (ArrF.arr hAr).keep hbA
        have HRR := Lib.hid (lawR_I64 x3 nr hx3 (by omega))
        have hkV := (HKC.out.keep hbl).keep hbA
        have hwV := hbwc.trans (hwA.mono hbwc.size)
        have HLR := Lib.hid (lawR_length x3 nr)
        have hNaV : wr.heap.size < (wr.alloc (.cells #[.slice A bs.length c, .slice Ao os.length co] 22)).heap.size := by simp
        clear hall hbxA hp0 hp1 hown hAr hbA HO1 HO2 HO4 HAC HBN HB8 HKC HARR hbwc hwA hbl
        go_upto_region 16 with fail
        clear hk3 hnr
        generalize wr.alloc (.cells #[.slice A bs.length c, .slice Ao os.length co] 22) = V at *
        generalize wr.heap.size = Na at *
        have HAR := Lib.hid hARr
        have HKV := Lib.hid hkV
        clear hARr hkV
        go_wp2
        go_loopw [12] (fun i wq => ∃ t : Nat, t ≤ 2 ∧ i = .int .i64 t ∧ Below V.heap.size V wq) (fun i _ => 2 - (intOf i).toNat)
        case atStart => exact ⟨0, Nat.zero_le _, rfl, Below.refl _ _⟩
        case round =>
          obtain ⟨t, ht, rfl, hbq⟩ := hrel
          by_cases hlt2 : t < 2
          · obtain ⟨v, Ai, bi, ci, ri, resti, hcell, hC⟩ := HALL.out t hlt2
            obtain ⟨hv, c1, c2, c3, c4, c5, c6⟩ := hC
            subst hv
            obtain ⟨hp1, hp2⟩ := parses_len c6
            have hEl : (jour 0 ri).length ≤ bi.length := by rw [c6.eq, List.length_append]; omega
            have hri : ∀ y ∈ ri, y.length ≤ 1000000 := fun y hy => by have := (c6.ok y hy).1; omega
            have hplen := putin_len (bs := bi) (rest := resti) (rs := ri) (r := lawR x3 nr) c5 (by rw [HLR.out]; omega)
            have hsubE : bi.drop (jour 0 ri).length = resti := by
              have := congrArg (fun l => List.drop (jour 0 ri).length l) c6.eq
              simpa using this
            have hjE : bi.take (jour 0 ri).length = jour 0 ri := by
              have := congrArg (fun l => List.take (jour 0 ri).length l) c6.eq
              simpa using this
            obtain ⟨E, hE0⟩ : ∃ E, E = (jour 0 ri).length := ⟨_, rfl⟩
            obtain ⟨key, hk0⟩ : ∃ k, k = sealK 0 ri := ⟨_, rfl⟩
            obtain ⟨er, he0⟩ : ∃ e, e = errR resti := ⟨_, rfl⟩
            obtain ⟨Sb, hs0⟩ : ∃ S, S = subA Ai E ci := ⟨_, rfl⟩
            rw [← hE0] at hEl
            have VU : ∀ wz, Below wr.heap.size wr wz → Below V.heap.size V wz := fun wz hz => hbq.trans (hz.mono hbq.size)
            have TC : ∀ wz, Below wr.heap.size wr wz → wz.cell? ⟨Na, t, none⟩ = some (.slice Ai bi.length ci) := fun wz hz => ((VU wz hz).cell (p := ⟨Na, t, none⟩) hNaV).trans hcell
            have RA := fun (wz : World) (hz : Below wr.heap.size wr wz) => readL_any Ai bi resti ri ci wz (Arr.keep c1 (VU wz hz)) c4 (by omega) c3 c6
            have RI := fun (wz : World) (hz : Below wr.heap.size wr wz) => rreadin_any Ai bi resti ri ci wz (Arr.keep c1 (VU wz hz)) c4 (by omega) c3 c2 c6
            have PA0 := fun (wz : World) (hz : Below wr.heap.size wr wz) => putL_any Ai Ar bi resti (lawR x3 nr) ri ci cr wz (Arr.keep c1 (VU wz hz)) c2 c4 (by omega) c3 c6 (HAR.out.keep (VU wz hz)) HRR.out (by rw [HLR.out]; omega)
            have PI0 := fun (wz : World) (hz : Below wr.heap.size wr wz) => rputin_any Ai Ar bi resti (lawR x3 nr) ri ci cr wz (Arr.keep c1 (VU wz hz)) c2 c4 (by omega) c3 c6 (HAR.out.keep (VU wz hz)) HRR.out (by rw [HLR.out]; omega)
            rw [HLR.out] at PA0 PI0
            have FW0 := fun (wz : World) (hz : Below wr.heap.size wr wz) => whole_any Ai bi resti ri ci wz (Arr.keep c1 (VU wz hz)) c2 c4 (by omega) c3 c6
            have FX0 := fun (wz : World) (hz : Below wr.heap.size wr wz) => rwhole_any Ai bi resti ri ci wz (Arr.keep c1 (VU wz hz)) c4 (by omega) c3 c2 c6
            have hI9 : I64 (x0 - 9) := by unfold I64; omega
            have FC0 := fun (wz : World) (hz : Below wr.heap.size wr wz) => cut_any Ai bi ci (x0 - 9) wz (Arr.keep c1 (VU wz hz)) c2 (by omega) c3 hI9
            have FD0 := fun (wz : World) (hz : Below wr.heap.size wr wz) => rcut_any Ai bi ci (x0 - 9) wz (by omega) c3 hI9
            have FSt := fun (wz : World) (hz : Below wr.heap.size wr wz) => Arr.keep c1 (VU wz hz)
            have HTL := Lib.hid (show ∀ wz, Below wr.heap.size wr wz → Arr wz Ai (u8s (bi.take (x0 - 9).toNat)) from fun wz hz => Byt.take (Arr.keep c1 (VU wz hz)) _)
            have HTN := Lib.hid (show (bi.take (x0 - 9).toNat).length ≤ 2000 by rw [List.length_take]; omega)
            have HSUB := Lib.hid (show ∀ wz, Below wr.heap.size wr wz → Arr wz Sb (u8s resti) from fun wz hz => by
              have := subA_arr (E := (jour 0 ri).length) (Arr.keep c1 (VU wz hz)) c3
              rw [hsubE, ← hE0, ← hs0] at this
              exact this)
            have HJOU := Lib.hid (show ∀ wz, Below wr.heap.size wr wz → Arr wz Ai (u8s (jour 0 ri)) from fun wz hz => by
              have := Byt.take (Arr.keep c1 (VU wz hz)) (jour 0 ri).length
              rw [hjE] at this
              exact this)
            generalize putF bi resti ri (lawR x3 nr) = pp at *
            obtain ⟨pl, xp⟩ := pp
            have HTL0 := Lib.hid (show bi.take (x0 - 9).toNat = bi.take (x0 - 9).toNat from rfl)
            generalize bi.take (x0 - 9).toNat = tl at *
            have HEE := Lib.hid hE0
            have HKE := Lib.hid hk0
            have HER := Lib.hid he0
            have HSB := Lib.hid hs0
            have HKV1 := HKV.out.keep hbq
            have hw9 : IntKind.i64.wrap (x0 - 9) = x0 - 9 := by rw [IntKind.wrap_i64]; omega
            have ht1 : (0 : Int) ≤ (t : Int) := Int.natCast_nonneg _
            have ht2 : (t : Int) < 2 := by omega
            clear hE0 hk0 he0 hs0 hsubE hjE c1 c2 c4 c6 hcell HTL0
            go_upto_region 19 with fail
            refine wp_region_flow 12 [.det (.slice ((some ⟨Na, 0, none⟩)) 2 2), .det (.int .i64 t), .det (.pointer (some ⟨Na, t, none⟩)), .det (.slice Ai bi.length ci), readS2 ri.length resti.length er ri resti, .det (.slice ((some ⟨Na, 0, none⟩)) 2 2), .det (.int .i64 t), .det (.pointer (some ⟨Na, t, none⟩)), .det (.slice Ai bi.length ci), readI ri.length resti.length er Sb (ci - E) (E : Int) key ri, allocS #[.slice none 0 0, .slice none 0 0, .int .i64 0, .int .i64 0, .int .u64 0], allocS #[.slice none 0 0, .slice none 0 0, .int .i64 0, .int .i64 0, .int .u64 0]] (by kernel_rfl) (by kernel_rfl) rfl ?_
            simp only [List.take_succ_cons, List.take_zero, List.drop_succ_cons, List.drop_zero]
            refine flowL_det (fun wz hz hd => stepF_reads (by rfl) ?_) ?_
            · go_simp; try rfl
            simp only [Act.put, List.setIfInBounds_toArray, List.set_cons_zero, List.set_cons_succ]
            refine flowL_det (fun wz hz hd => stepF_reads (by rfl) ?_) ?_
            · go_simp; try rfl
            simp only [Act.put, List.setIfInBounds_toArray, List.set_cons_zero, List.set_cons_succ]
            refine flowL_det (fun wz hz hd => stepF_reads (by rfl) ?_) ?_
            · go_simp; try rfl
            simp only [Act.put, List.setIfInBounds_toArray, List.set_cons_zero, List.set_cons_succ]
            refine flowL_det (fun wz hz hd => stepF_reads (by rfl) ?_) ?_
            · have q := TC wz hz; go_simp; try rfl
            simp only [Act.put, List.setIfInBounds_toArray, List.set_cons_zero, List.set_cons_succ]
            refine flowL_make (⟨_, none, 0, none, 0, rfl⟩) (fun wz hz hd => stepF_walk (by rfl) (fun K hK => ?_)) (fun v hv => ?_)
            · go_wp2_with fail
              go_at_call 12
              refine (RA wz hz).mono ?_
              rintro e w9 ⟨A1, c1, B1, d1, rfl, _, _, _, hL, hR, hb⟩
              exact hK.out _ _ ⟨A1, c1, B1, d1, by rw [HER.out]⟩ (fun A c B d e => by cases e; exact ⟨hL, hR⟩) hb
            obtain ⟨Aa, ca, Ba, da, rfl⟩ := hv
            simp only [Act.put, List.setIfInBounds_toArray, List.set_cons_zero, List.set_cons_succ]
            refine flowL_det (fun wz hz hd => stepF_reads (by rfl) ?_) ?_
            · go_simp; try rfl
            simp only [Act.put, List.setIfInBounds_toArray, List.set_cons_zero, List.set_cons_succ]
            refine flowL_det (fun wz hz hd => stepF_reads (by rfl) ?_) ?_
            · go_simp; try rfl
            simp only [Act.put, List.setIfInBounds_toArray, List.set_cons_zero, List.set_cons_succ]
            refine flowL_det (fun wz hz hd => stepF_reads (by rfl) ?_) ?_
            · go_simp; try rfl
            simp only [Act.put, List.setIfInBounds_toArray, List.set_cons_zero, List.set_cons_succ]
            refine flowL_det (fun wz hz hd => stepF_reads (by rfl) ?_) ?_
            · have q := TC wz hz; go_simp; try rfl
            simp only [Act.put, List.setIfInBounds_toArray, List.set_cons_zero, List.set_cons_succ]
            refine flowL_make (⟨_, none, 0, rfl⟩) (fun wz hz hd => stepF_walk (by rfl) (fun K hK => ?_)) (fun v hv => ?_)
            · go_wp2_with fail
              go_at_call 13
              refine (RI wz hz).mono ?_
              rintro e w9 hg
              obtain ⟨A1, c1, rfl, hL, hb⟩ := riN hg HEE.out HKE.out HER.out HSB.out
              exact hK.out _ _ ⟨A1, c1, rfl⟩ (fun A c e => by cases e; exact hL) hb
            obtain ⟨Ab, cb, rfl⟩ := hv
            simp only [Act.put, List.setIfInBounds_toArray, List.set_cons_zero, List.set_cons_succ]
            refine flowL_make (⟨_, 0, rfl⟩) (fun wz hz hd => stepF_walk (by rfl) (fun K hK => ?_)) (fun v hv => ?_)
            · go_simp
              exact hK.out _ _ ⟨_, rfl⟩ ⟨rfl, BoxL.new _ _ _, World.size_alloc _ _⟩ ((Below.refl _ _).alloc (Nat.le_refl _) _)
            obtain ⟨Nx, rfl⟩ := hv
            simp only [Act.put, List.setIfInBounds_toArray, List.set_cons_zero, List.set_cons_succ]
            refine flowL_make (⟨_, 0, rfl⟩) (fun wz hz hd => stepF_walk (by rfl) (fun K hK => ?_)) (fun v hv => ?_)
            · go_simp
              exact hK.out _ _ ⟨_, rfl⟩ ⟨rfl, BoxL.new _ _ _, World.size_alloc _ _⟩ ((Below.refl _ _).alloc (Nat.le_refl _) _)
            obtain ⟨Ny, rfl⟩ := hv
            simp only [Act.put, List.setIfInBounds_toArray, List.set_cons_zero, List.set_cons_succ]
            intro w4 ps hb4 hF hap
            have dx : Did (readS2 ri.length resti.length er ri resti) (ps 4) _ w4 := (hF 4 (by decide)).1
            have dy : Did (readI ri.length resti.length er Sb (ci - E) (E : Int) key ri) (ps 9) _ w4 := (hF 9 (by decide)).1
            have ax : Did (allocS #[.slice none 0 0, .slice none 0 0, .int .i64 0, .int .i64 0, .int .u64 0]) (ps 10) _ w4 := (hF 10 (by decide)).1
            have ay : Did (allocS #[.slice none 0 0, .slice none 0 0, .int .i64 0, .int .i64 0, .int .u64 0]) (ps 11) _ w4 := (hF 11 (by decide)).1
            have bxx := (hF 10 (by decide)).2.size
            have bxy := (hF 11 (by decide)).2.size
            have q1 := hap 10 11 (by decide) (by decide) (by decide)
            have q4 := hap 4 10 (by decide) (by decide) (by decide)
            have q5 := hap 4 11 (by decide) (by decide) (by decide)
            have q7 := hap 9 10 (by decide) (by decide) (by decide)
            have q8 := hap 9 11 (by decide) (by decide) (by decide)
            clear hF hap
            obtain ⟨ex, hx1, hx2⟩ := ax.post
            obtain ⟨ey, hy1, hy2⟩ := ay.post
            have ex' : Nx = (ps 10).1.heap.size := by injection ex with e; injection e with e; injection e
            have ey' : Ny = (ps 11).1.heap.size := by injection ey with e; injection e with e; injection e
            rw [← ex'] at hx1 hx2 q4 q7 q1
            rw [← ey'] at hy1 hy2 q5 q8 q1
            rw [hx2] at q1 q4 q7
            rw [hy2] at q1 q5 q8
            have mx := hx1.keep ax.since
            have my := hy1.keep ay.since
            have hLx := dx.post _ _ _ _ rfl
            have hLy := dy.post _ _ rfl
            have gx := dx.since
            have gy := dy.since
            rw [← ex'] at bxx
            rw [← ey'] at bxy
            clear ax ay dx dy ex ey hx1 hx2 hy1 hy2 ex' ey'
            generalize (ps 4).1 = p1 at *
            generalize (ps 4).2 = p2 at *
            generalize (ps 9).1 = r1 at *
            generalize (ps 9).2 = r2 at *
            have nxy : Nx ≠ Ny := ne_of q1
            obtain ⟨fx0, fx1, fx2, fx3, fx4⟩ := mx.f5
            obtain ⟨cx0, cx1, cx2, cx3, cx4⟩ := mx.c5
            have mx1 := mx.s5 (.slice Aa ri.length ca) (.slice Ba resti.length da) (.int .i64 er) (.int .i64 0) (.int .u64 0)
            have my1 := my.z5 nxy (.slice Aa ri.length ca) (.slice Ba resti.length da) (.int .i64 er) (.int .i64 0) (.int .u64 0)
            obtain ⟨fy0, fy1, fy2, fy3, fy4⟩ := my1.f5
            obtain ⟨cy0, cy1, cy2, cy3, cy4⟩ := my1.c5
            have mx2 := mx1.z5 (Ne.symm nxy) (.slice Ab ri.length cb) (.slice Sb resti.length (ci - E)) (.int .i64 er) (.int .i64 (E : Int)) (.int .u64 key)
            have my2 := my1.s5 (.slice Ab ri.length cb) (.slice Sb resti.length (ci - E)) (.int .i64 er) (.int .i64 (E : Int)) (.int .u64 key)
            have MX1 := Lib.hid mx2
            have MY1 := Lib.hid my2
            clear mx my mx1 my1 mx2 my2
            have kV : ∀ b, b ≠ Nx → b ≠ Ny → (((((((((((w4.setCell ⟨Nx, 0, none⟩ (.slice Aa ri.length ca)).setCell ⟨Nx, 1, none⟩ (.slice Ba resti.length da)).setCell ⟨Nx, 2, none⟩ (.int .i64 er)).setCell ⟨Nx, 3, none⟩ (.int .i64 0)).setCell ⟨Nx, 4, none⟩ (.int .u64 0)).setCell ⟨Ny, 0, none⟩ (.slice Ab ri.length cb)).setCell ⟨Ny, 1, none⟩ (.slice Sb resti.length (ci - E))).setCell ⟨Ny, 2, none⟩ (.int .i64 er)).setCell ⟨Ny, 3, none⟩ (.int .i64 (E : Int))).setCell ⟨Ny, 4, none⟩ (.int .u64 key))).heap[b]? = w4.heap[b]? := fun b h1 h2 => (set5_heap _ _ _ _ _ _ _ _ h2).trans (set5_heap _ _ _ _ _ _ _ _ h1)
            have hsV : w4.heap.size ≤ (((((((((((w4.setCell ⟨Nx, 0, none⟩ (.slice Aa ri.length ca)).setCell ⟨Nx, 1, none⟩ (.slice Ba resti.length da)).setCell ⟨Nx, 2, none⟩ (.int .i64 er)).setCell ⟨Nx, 3, none⟩ (.int .i64 0)).setCell ⟨Nx, 4, none⟩ (.int .u64 0)).setCell ⟨Ny, 0, none⟩ (.slice Ab ri.length cb)).setCell ⟨Ny, 1, none⟩ (.slice Sb resti.length (ci - E))).setCell ⟨Ny, 2, none⟩ (.int .i64 er)).setCell ⟨Ny, 3, none⟩ (.int .i64 (E : Int))).setCell ⟨Ny, 4, none⟩ (.int .u64 key))).heap.size := by simp
            have hbV : Below wr.heap.size wr (((((((((((w4.setCell ⟨Nx, 0, none⟩ (.slice Aa ri.length ca)).setCell ⟨Nx, 1, none⟩ (.slice Ba resti.length da)).setCell ⟨Nx, 2, none⟩ (.int .i64 er)).setCell ⟨Nx, 3, none⟩ (.int .i64 0)).setCell ⟨Nx, 4, none⟩ (.int .u64 0)).setCell ⟨Ny, 0, none⟩ (.slice Ab ri.length cb)).setCell ⟨Ny, 1, none⟩ (.slice Sb resti.length (ci - E))).setCell ⟨Ny, 2, none⟩ (.int .i64 er)).setCell ⟨Ny, 3, none⟩ (.int .i64 (E : Int))).setCell ⟨Ny, 4, none⟩ (.int .u64 key))) := below_s5 (below_s5 hb4 bxx _ _ _ _ _) bxy _ _ _ _ _
            go_upto_region 20 with fail
            generalize ((((((((((w4.setCell ⟨Nx, 0, none⟩ (.slice Aa ri.length ca)).setCell ⟨Nx, 1, none⟩ (.slice Ba resti.length da)).setCell ⟨Nx, 2, none⟩ (.int .i64 er)).setCell ⟨Nx, 3, none⟩ (.int .i64 0)).setCell ⟨Nx, 4, none⟩ (.int .u64 0)).setCell ⟨Ny, 0, none⟩ (.slice Ab ri.length cb)).setCell ⟨Ny, 1, none⟩ (.slice Sb resti.length (ci - E))).setCell ⟨Ny, 2, none⟩ (.int .i64 er)).setCell ⟨Ny, 3, none⟩ (.int .i64 (E : Int))).setCell ⟨Ny, 4, none⟩ (.int .u64 key)) = V1 at *
            clear cx0 cx1 cx2 cx3 cx4 fx0 fx1 fx2 fx3 fx4 cy0 cy1 cy2 cy3 cy4 fy0 fy1 fy2 fy3 fy4
            have kx := fun (b : Nat) (h1 : p1.heap.size ≤ b) (h2 : b < p2.heap.size) => kV b (apart_ne h1 h2 q4) (apart_ne h1 h2 q5)
            have ky := fun (b : Nat) (h1 : r1.heap.size ≤ b) (h2 : b < r2.heap.size) => kV b (apart_ne h1 h2 q7) (apart_ne h1 h2 q8)
            have LX := Lib.hid (hLx.1.thru gx hsV kx)
            have RX := Lib.hid (arrF_thru hLx.2 gx hsV kx)
            have LY := Lib.hid (hLy.thru gy hsV ky)
            have b1 : Below wr.heap.size wr V1 := hbV
            clear hLx hLy gx gy q1 q4 q5 q7 q8 kV hsV hbV hb4 bxx bxy nxy kx ky
            have TC1 : ∀ wz, Below V1.heap.size V1 wz → wz.cell? ⟨Na, t, none⟩ = some (.slice Ai bi.length ci) := fun wz hz => TC wz (b1.trans (hz.mono b1.size))
            have PA := fun (wz : World) (hz : Below V1.heap.size V1 wz) => PA0 wz (b1.trans (hz.mono b1.size))
            have PI := fun (wz : World) (hz : Below V1.heap.size V1 wz) => PI0 wz (b1.trans (hz.mono b1.size))
            clear TC RA RI PA0 PI0
            refine wp_region_flow 14 [.det (.slice ((some ⟨Na, 0, none⟩)) 2 2), .det (.int .i64 t), .det (.pointer (some ⟨Na, t, none⟩)), .det (.slice Ai bi.length ci), .det (.slice Ar nr cr), putS pl.length xp pl, .det (.slice ((some ⟨Na, 0, none⟩)) 2 2), .det (.int .i64 t), .det (.pointer (some ⟨Na, t, none⟩)), .det (.slice Ai bi.length ci), .det (.slice Ar nr cr), putS pl.length xp pl, allocS #[.slice none 0 0, .int .i64 0], allocS #[.slice none 0 0, .int .i64 0]] (by kernel_rfl) (by kernel_rfl) rfl ?_
            simp only [List.take_succ_cons, List.take_zero, List.drop_succ_cons, List.drop_zero]
            refine flowL_det (fun wz hz hd => stepF_reads (by rfl) ?_) ?_
            · go_simp; try rfl
            simp only [Act.put, List.setIfInBounds_toArray, List.set_cons_zero, List.set_cons_succ]
            refine flowL_det (fun wz hz hd => stepF_reads (by rfl) ?_) ?_
            · go_simp; try rfl
            simp only [Act.put, List.setIfInBounds_toArray, List.set_cons_zero, List.set_cons_succ]
            refine flowL_det (fun wz hz hd => stepF_reads (by rfl) ?_) ?_
            · go_simp; try rfl
            simp only [Act.put, List.setIfInBounds_toArray, List.set_cons_zero, List.set_cons_succ]
            refine flowL_det (fun wz hz hd => stepF_reads (by rfl) ?_) ?_
            · have q := TC1 wz hz; go_simp; try rfl
            simp only [Act.put, List.setIfInBounds_toArray, List.set_cons_zero, List.set_cons_succ]
            refine flowL_det (fun wz hz hd => stepF_reads (by rfl) ?_) ?_
            · go_simp; try rfl
            simp only [Act.put, List.setIfInBounds_toArray, List.set_cons_zero, List.set_cons_succ]
            refine flowL_make (⟨_, none, 0, rfl⟩) (fun wz hz hd => stepF_walk (by rfl) (fun K hK => ?_)) (fun v hv => ?_)
            · go_wp2_with fail
              go_at_call 14
              refine (PA wz hz).mono ?_
              rintro e w9 ⟨A1, c1, rfl, _, _, hL, hb⟩
              exact hK.out _ _ ⟨A1, c1, rfl⟩ (fun A c e => by cases e; exact hL) hb
            obtain ⟨Ac, cc, rfl⟩ := hv
            simp only [Act.put, List.setIfInBounds_toArray, List.set_cons_zero, List.set_cons_succ]
            refine flowL_det (fun wz hz hd => stepF_reads (by rfl) ?_) ?_
            · go_simp; try rfl
            simp only [Act.put, List.setIfInBounds_toArray, List.set_cons_zero, List.set_cons_succ]
            refine flowL_det (fun wz hz hd => stepF_reads (by rfl) ?_) ?_
            · go_simp; try rfl
            simp only [Act.put, List.setIfInBounds_toArray, List.set_cons_zero, List.set_cons_succ]
            refine flowL_det (fun wz hz hd => stepF_reads (by rfl) ?_) ?_
            · go_simp; try rfl
            simp only [Act.put, List.setIfInBounds_toArray, List.set_cons_zero, List.set_cons_succ]
            refine flowL_det (fun wz hz hd => stepF_reads (by rfl) ?_) ?_
            · have q := TC1 wz hz; go_simp; try rfl
            simp only [Act.put, List.setIfInBounds_toArray, List.set_cons_zero, List.set_cons_succ]
            refine flowL_det (fun wz hz hd => stepF_reads (by rfl) ?_) ?_
            · go_simp; try rfl
            simp only [Act.put, List.setIfInBounds_toArray, List.set_cons_zero, List.set_cons_succ]
            refine flowL_make (⟨_, none, 0, rfl⟩) (fun wz hz hd => stepF_walk (by rfl) (fun K hK => ?_)) (fun v hv => ?_)
            · go_wp2_with fail
              go_at_call 15
              refine (PI wz hz).mono ?_
              rintro e w9 ⟨A1, c1, rfl, _, _, hL, hb⟩
              exact hK.out _ _ ⟨A1, c1, rfl⟩ (fun A c e => by cases e; exact hL) hb
            obtain ⟨Ad, cd, rfl⟩ := hv
            simp only [Act.put, List.setIfInBounds_toArray, List.set_cons_zero, List.set_cons_succ]
            refine flowL_make (⟨_, 0, rfl⟩) (fun wz hz hd => stepF_walk (by rfl) (fun K hK => ?_)) (fun v hv => ?_)
            · go_simp
              exact hK.out _ _ ⟨_, rfl⟩ ⟨rfl, BoxL.new _ _ _, World.size_alloc _ _⟩ ((Below.refl _ _).alloc (Nat.le_refl _) _)
            obtain ⟨Nc, rfl⟩ := hv
            simp only [Act.put, List.setIfInBounds_toArray, List.set_cons_zero, List.set_cons_succ]
            refine flowL_make (⟨_, 0, rfl⟩) (fun wz hz hd => stepF_walk (by rfl) (fun K hK => ?_)) (fun v hv => ?_)
            · go_simp
              exact hK.out _ _ ⟨_, rfl⟩ ⟨rfl, BoxL.new _ _ _, World.size_alloc _ _⟩ ((Below.refl _ _).alloc (Nat.le_refl _) _)
            obtain ⟨Nd, rfl⟩ := hv
            simp only [Act.put, List.setIfInBounds_toArray, List.set_cons_zero, List.set_cons_succ]
            intro w4 ps hb4 hF hap
            have dx : Did (putS pl.length xp pl) (ps 5) _ w4 := (hF 5 (by decide)).1
            have dy : Did (putS pl.length xp pl) (ps 11) _ w4 := (hF 11 (by decide)).1
            have ax : Did (allocS #[.slice none 0 0, .int .i64 0]) (ps 12) _ w4 := (hF 12 (by decide)).1
            have ay : Did (allocS #[.slice none 0 0, .int .i64 0]) (ps 13) _ w4 := (hF 13 (by decide)).1
            have bxx := (hF 12 (by decide)).2.size
            have bxy := (hF 13 (by decide)).2.size
            have q1 := hap 12 13 (by decide) (by decide) (by decide)
            have q4 := hap 5 12 (by decide) (by decide) (by decide)
            have q5 := hap 5 13 (by decide) (by decide) (by decide)
            have q7 := hap 11 12 (by decide) (by decide) (by decide)
            have q8 := hap 11 13 (by decide) (by decide) (by decide)
            clear hF hap
            obtain ⟨ex, hx1, hx2⟩ := ax.post
            obtain ⟨ey, hy1, hy2⟩ := ay.post
            have ex' : Nc = (ps 12).1.heap.size := by injection ex with e; injection e with e; injection e
            have ey' : Nd = (ps 13).1.heap.size := by injection ey with e; injection e with e; injection e
            rw [← ex'] at hx1 hx2 q4 q7 q1
            rw [← ey'] at hy1 hy2 q5 q8 q1
            rw [hx2] at q1 q4 q7
            rw [hy2] at q1 q5 q8
            have mx := hx1.keep ax.since
            have my := hy1.keep ay.since
            have hLx := dx.post _ _ rfl
            have hLy := dy.post _ _ rfl
            have gx := dx.since
            have gy := dy.since
            rw [← ex'] at bxx
            rw [← ey'] at bxy
            clear ax ay dx dy ex ey hx1 hx2 hy1 hy2 ex' ey'
            generalize (ps 5).1 = p1 at *
            generalize (ps 5).2 = p2 at *
            generalize (ps 11).1 = r1 at *
            generalize (ps 11).2 = r2 at *
            have nxy : Nc ≠ Nd := ne_of q1
            obtain ⟨fx0, fx1⟩ := mx.f2
            obtain ⟨cx0, cx1⟩ := mx.c2
            have mx1 := mx.s2 (.slice Ac pl.length cc) (.int .i64 xp)
            have my1 := my.z2 nxy (.slice Ac pl.length cc) (.int .i64 xp)
            obtain ⟨fy0, fy1⟩ := my1.f2
            obtain ⟨cy0, cy1⟩ := my1.c2
            have mx2 := mx1.z2 (Ne.symm nxy) (.slice Ad pl.length cd) (.int .i64 xp)
            have my2 := my1.s2 (.slice Ad pl.length cd) (.int .i64 xp)
            have MX2 := Lib.hid mx2
            have MY2 := Lib.hid my2
            clear mx my mx1 my1 mx2 my2
            have kV : ∀ b, b ≠ Nc → b ≠ Nd → (((((w4.setCell ⟨Nc, 0, none⟩ (.slice Ac pl.length cc)).setCell ⟨Nc, 1, none⟩ (.int .i64 xp)).setCell ⟨Nd, 0, none⟩ (.slice Ad pl.length cd)).setCell ⟨Nd, 1, none⟩ (.int .i64 xp))).heap[b]? = w4.heap[b]? := fun b h1 h2 => (set2_heap _ _ _ _ _ h2).trans (set2_heap _ _ _ _ _ h1)
            have hsV : w4.heap.size ≤ (((((w4.setCell ⟨Nc, 0, none⟩ (.slice Ac pl.length cc)).setCell ⟨Nc, 1, none⟩ (.int .i64 xp)).setCell ⟨Nd, 0, none⟩ (.slice Ad pl.length cd)).setCell ⟨Nd, 1, none⟩ (.int .i64 xp))).heap.size := by simp
            have hbV : Below V1.heap.size V1 (((((w4.setCell ⟨Nc, 0, none⟩ (.slice Ac pl.length cc)).setCell ⟨Nc, 1, none⟩ (.int .i64 xp)).setCell ⟨Nd, 0, none⟩ (.slice Ad pl.length cd)).setCell ⟨Nd, 1, none⟩ (.int .i64 xp))) := below_s2 (below_s2 hb4 bxx _ _) bxy _ _
            go_upto_region 21 with fail
            generalize ((((w4.setCell ⟨Nc, 0, none⟩ (.slice Ac pl.length cc)).setCell ⟨Nc, 1, none⟩ (.int .i64 xp)).setCell ⟨Nd, 0, none⟩ (.slice Ad pl.length cd)).setCell ⟨Nd, 1, none⟩ (.int .i64 xp)) = V2 at *
            clear cx0 cx1 fx0 fx1 cy0 cy1 fy0 fy1
            have kx := fun (b : Nat) (h1 : p1.heap.size ≤ b) (h2 : b < p2.heap.size) => kV b (apart_ne h1 h2 q4) (apart_ne h1 h2 q5)
            have ky := fun (b : Nat) (h1 : r1.heap.size ≤ b) (h2 : b < r2.heap.size) => kV b (apart_ne h1 h2 q7) (apart_ne h1 h2 q8)
            have PX := Lib.hid (arrF_thru hLx gx hsV kx)
            have PY := Lib.hid (arrF_thru hLy gy hsV ky)
            have b2 : Below V1.heap.size V1 V2 := hbV
            clear hLx hLy gx gy q1 q4 q5 q7 q8 kV hsV hbV hb4 bxx bxy nxy kx ky
            have u2 : ∀ wz, Below V2.heap.size V2 wz → Below V1.heap.size V1 wz := fun wz hz => b2.trans (hz.mono b2.size)
            have b12 := b1.trans (b2.mono b1.size)
            have u1 : ∀ wz, Below V2.heap.size V2 wz → Below wr.heap.size wr wz := fun wz hz => b12.trans (hz.mono b12.size)
            have TC2 : ∀ wz, Below V2.heap.size V2 wz → wz.cell? ⟨Na, t, none⟩ = some (.slice Ai bi.length ci) := fun wz hz => TC1 wz (u2 wz hz)
            have xa0 := fun (wz : World) (hz : Below V2.heap.size V2 wz) => (MX1.out.keep (u2 wz hz)).get (i := 0) rfl
            have xa1 := fun (wz : World) (hz : Below V2.heap.size V2 wz) => (MX1.out.keep (u2 wz hz)).get (i := 1) rfl
            have xa2 := fun (wz : World) (hz : Below V2.heap.size V2 wz) => (MX1.out.keep (u2 wz hz)).get (i := 2) rfl
            have xb0 := fun (wz : World) (hz : Below V2.heap.size V2 wz) => (MY1.out.keep (u2 wz hz)).get (i := 0) rfl
            have xb1 := fun (wz : World) (hz : Below V2.heap.size V2 wz) => (MY1.out.keep (u2 wz hz)).get (i := 1) rfl
            have xb2 := fun (wz : World) (hz : Below V2.heap.size V2 wz) => (MY1.out.keep (u2 wz hz)).get (i := 2) rfl
            have xc0 := fun (wz : World) (hz : Below V2.heap.size V2 wz) => (MX2.out.keep hz).get (i := 0) rfl
            have xc1 := fun (wz : World) (hz : Below V2.heap.size V2 wz) => (MX2.out.keep hz).get (i := 1) rfl
            have xd0 := fun (wz : World) (hz : Below V2.heap.size V2 wz) => (MY2.out.keep hz).get (i := 0) rfl
            have xd1 := fun (wz : World) (hz : Below V2.heap.size V2 wz) => (MY2.out.keep hz).get (i := 1) rfl
            have FR := fun (wz : World) (hz : Below V2.heap.size V2 wz) => records_same Aa Ab ri ri ca cb wz (LX.out.keep (u2 wz hz)) (LY.out.keep (u2 wz hz)) (by omega) (by omega) hri hri
            have FS := fun (wz : World) (hz : Below V2.heap.size V2 wz) => same_any Ba Sb resti resti da (ci - E) wz (Arr.keep RX.out (u2 wz hz)) (HSUB.out wz (u1 wz hz)) (by omega) (by omega)
            have FP := fun (wz : World) (hz : Below V2.heap.size V2 wz) => same_any Ac Ad pl pl cc cd wz (Arr.keep PX.out hz) (Arr.keep PY.out hz) (by simp only at hplen; omega) (by simp only at hplen; omega)
            have FW := fun (wz : World) (hz : Below V2.heap.size V2 wz) => FW0 wz (u1 wz hz)
            have FX := fun (wz : World) (hz : Below V2.heap.size V2 wz) => FX0 wz (u1 wz hz)
            have FT := fun (wz : World) (hz : Below V2.heap.size V2 wz) (Aw : Option Addr) (cw : Nat) (hw : Arr wz Aw (u8s (jour 0 ri))) => same_any Aw Ai (jour 0 ri) (jour 0 ri) cw ci wz hw (HJOU.out wz (u1 wz hz)) (by rw [← HEE.out]; omega) (by rw [← HEE.out]; omega)
            rw [← HEE.out] at FT
            clear TC1 PA PI FW0 FX0
            refine wp_region_flow 49 [.det (.pointer (some ⟨Nx, 2, none⟩)), .det (.int .i64 er), .det (.pointer (some ⟨Ny, 2, none⟩)), .det (.int .i64 er), .det (.bool false), .det (.bool false), .det (.pointer (some ⟨Nx, 0, none⟩)), .det (.slice Aa ri.length ca), .det (.pointer (some ⟨Ny, 0, none⟩)), .det (.slice Ab ri.length cb), .det (.bool true), .det (.bool false), .det (.bool false), .det (.bool false), .det (.pointer (some ⟨Nx, 1, none⟩)), .det (.slice Ba resti.length da), .det (.pointer (some ⟨Ny, 1, none⟩)), .det (.slice Sb resti.length ((ci - E))), .det (.bool true), .det (.bool false), .det (.bool false), .det (.bool false), .det (.pointer (some ⟨Nc, 1, none⟩)), .det (.int .i64 xp), .det (.pointer (some ⟨Nd, 1, none⟩)), .det (.int .i64 xp), .det (.bool false), .det (.bool false), .det (.bool false), .det (.pointer (some ⟨Nc, 0, none⟩)), .det (.slice Ac pl.length cc), .det (.pointer (some ⟨Nd, 0, none⟩)), .det (.slice Ad pl.length cd), .det (.bool true), .det (.bool false), .det (.bool false), .det (.bool false), .det (.slice ((some ⟨Na, 0, none⟩)) 2 2), .det (.int .i64 t), .det (.pointer (some ⟨Na, t, none⟩)), .det (.slice Ai bi.length ci), wholeS E (fun wm A => Arr wm A (u8s (jour 0 ri))), .det (.slice ((some ⟨Na, 0, none⟩)) 2 2), .det (.int .i64 t), .det (.pointer (some ⟨Na, t, none⟩)), .det (.slice Ai bi.length ci), .det (.slice Ai E ci), .det (.bool true), .det (.bool false)] (by kernel_rfl) (by kernel_rfl) rfl ?_
            simp only [List.take_succ_cons, List.take_zero, List.drop_succ_cons, List.drop_zero]
            refine flowL_det (fun wz hz hd => stepF_reads (by rfl) ?_) ?_
            · go_simp; try rfl
            simp only [Act.put, List.setIfInBounds_toArray, List.set_cons_zero, List.set_cons_succ]
            refine flowL_det (fun wz hz hd => stepF_reads (by rfl) ?_) ?_
            · have q := xa2 wz hz; go_simp; try rfl
            simp only [Act.put, List.setIfInBounds_toArray, List.set_cons_zero, List.set_cons_succ]
            refine flowL_det (fun wz hz hd => stepF_reads (by rfl) ?_) ?_
            · go_simp; try rfl
            simp only [Act.put, List.setIfInBounds_toArray, List.set_cons_zero, List.set_cons_succ]
            refine flowL_det (fun wz hz hd => stepF_reads (by rfl) ?_) ?_
            · have q := xb2 wz hz; go_simp; try rfl
            simp only [Act.put, List.setIfInBounds_toArray, List.set_cons_zero, List.set_cons_succ]
            refine flowL_det (fun wz hz hd => stepF_reads (by rfl) ?_) ?_
            · go_simp; try rfl
            simp only [Act.put, List.setIfInBounds_toArray, List.set_cons_zero, List.set_cons_succ]
            refine flowL_det (fun wz hz hd => stepF_reads (by rfl) ?_) ?_
            · go_simp; try rfl
            simp only [Act.put, List.setIfInBounds_toArray, List.set_cons_zero, List.set_cons_succ]
            refine flowL_det (fun wz hz hd => stepF_reads (by rfl) ?_) ?_
            · go_simp; try rfl
            simp only [Act.put, List.setIfInBounds_toArray, List.set_cons_zero, List.set_cons_succ]
            refine flowL_det (fun wz hz hd => stepF_reads (by rfl) ?_) ?_
            · have q := xa0 wz hz; go_simp; try rfl
            simp only [Act.put, List.setIfInBounds_toArray, List.set_cons_zero, List.set_cons_succ]
            refine flowL_det (fun wz hz hd => stepF_reads (by rfl) ?_) ?_
            · go_simp; try rfl
            simp only [Act.put, List.setIfInBounds_toArray, List.set_cons_zero, List.set_cons_succ]
            refine flowL_det (fun wz hz hd => stepF_reads (by rfl) ?_) ?_
            · have q := xb0 wz hz; go_simp; try rfl
            simp only [Act.put, List.setIfInBounds_toArray, List.set_cons_zero, List.set_cons_succ]
            refine flowL_det (fun wz hz hd => stepF_walk (by rfl) (fun K hK => ?_)) ?_
            · go_wp2_with fail
              go_at_call 16
              refine (FR wz hz).mono ?_
              rintro e w9 ⟨rfl, hb⟩
              first | exact hK.out _ _ (det_true rfl) trivial hb | exact hK.out _ _ (det_true trivial) trivial hb
            simp only [Act.put, List.setIfInBounds_toArray, List.set_cons_zero, List.set_cons_succ]
            refine flowL_det (fun wz hz hd => stepF_reads (by rfl) ?_) ?_
            · go_simp; try rfl
            simp only [Act.put, List.setIfInBounds_toArray, List.set_cons_zero, List.set_cons_succ]
            refine flowL_det (fun wz hz hd => stepF_reads (by rfl) ?_) ?_
            · go_simp; try rfl
            simp only [Act.put, List.setIfInBounds_toArray, List.set_cons_zero, List.set_cons_succ]
            refine flowL_det (fun wz hz hd => stepF_reads (by rfl) ?_) ?_
            · go_simp; try rfl
            simp only [Act.put, List.setIfInBounds_toArray, List.set_cons_zero, List.set_cons_succ]
            refine flowL_det (fun wz hz hd => stepF_reads (by rfl) ?_) ?_
            · go_simp; try rfl
            simp only [Act.put, List.setIfInBounds_toArray, List.set_cons_zero, List.set_cons_succ]
            refine flowL_det (fun wz hz hd => stepF_reads (by rfl) ?_) ?_
            · have q := xa1 wz hz; go_simp; try rfl
            simp only [Act.put, List.setIfInBounds_toArray, List.set_cons_zero, List.set_cons_succ]
            refine flowL_det (fun wz hz hd => stepF_reads (by rfl) ?_) ?_
            · go_simp; try rfl
            simp only [Act.put, List.setIfInBounds_toArray, List.set_cons_zero, List.set_cons_succ]
            refine flowL_det (fun wz hz hd => stepF_reads (by rfl) ?_) ?_
            · have q := xb1 wz hz; go_simp; try rfl
            simp only [Act.put, List.setIfInBounds_toArray, List.set_cons_zero, List.set_cons_succ]
            refine flowL_det (fun wz hz hd => stepF_walk (by rfl) (fun K hK => ?_)) ?_
            · go_wp2_with fail
              go_at_call 17
              refine (FS wz hz).mono ?_
              rintro e w9 ⟨rfl, hb⟩
              first | exact hK.out _ _ (det_true rfl) trivial hb | exact hK.out _ _ (det_true trivial) trivial hb
            simp only [Act.put, List.setIfInBounds_toArray, List.set_cons_zero, List.set_cons_succ]
            refine flowL_det (fun wz hz hd => stepF_reads (by rfl) ?_) ?_
            · go_simp; try rfl
            simp only [Act.put, List.setIfInBounds_toArray, List.set_cons_zero, List.set_cons_succ]
            refine flowL_det (fun wz hz hd => stepF_reads (by rfl) ?_) ?_
            · go_simp; try rfl
            simp only [Act.put, List.setIfInBounds_toArray, List.set_cons_zero, List.set_cons_succ]
            refine flowL_det (fun wz hz hd => stepF_reads (by rfl) ?_) ?_
            · go_simp; try rfl
            simp only [Act.put, List.setIfInBounds_toArray, List.set_cons_zero, List.set_cons_succ]
            refine flowL_det (fun wz hz hd => stepF_reads (by rfl) ?_) ?_
            · go_simp; try rfl
            simp only [Act.put, List.setIfInBounds_toArray, List.set_cons_zero, List.set_cons_succ]
            refine flowL_det (fun wz hz hd => stepF_reads (by rfl) ?_) ?_
            · have q := xc1 wz hz; go_simp; try rfl
            simp only [Act.put, List.setIfInBounds_toArray, List.set_cons_zero, List.set_cons_succ]
            refine flowL_det (fun wz hz hd => stepF_reads (by rfl) ?_) ?_
            · go_simp; try rfl
            simp only [Act.put, List.setIfInBounds_toArray, List.set_cons_zero, List.set_cons_succ]
            refine flowL_det (fun wz hz hd => stepF_reads (by rfl) ?_) ?_
            · have q := xd1 wz hz; go_simp; try rfl
            simp only [Act.put, List.setIfInBounds_toArray, List.set_cons_zero, List.set_cons_succ]
            refine flowL_det (fun wz hz hd => stepF_reads (by rfl) ?_) ?_
            · go_simp; try rfl
            simp only [Act.put, List.setIfInBounds_toArray, List.set_cons_zero, List.set_cons_succ]
            refine flowL_det (fun wz hz hd => stepF_reads (by rfl) ?_) ?_
            · go_simp; try rfl
            simp only [Act.put, List.setIfInBounds_toArray, List.set_cons_zero, List.set_cons_succ]
            refine flowL_det (fun wz hz hd => stepF_reads (by rfl) ?_) ?_
            · go_simp; try rfl
            simp only [Act.put, List.setIfInBounds_toArray, List.set_cons_zero, List.set_cons_succ]
            refine flowL_det (fun wz hz hd => stepF_reads (by rfl) ?_) ?_
            · go_simp; try rfl
            simp only [Act.put, List.setIfInBounds_toArray, List.set_cons_zero, List.set_cons_succ]
            refine flowL_det (fun wz hz hd => stepF_reads (by rfl) ?_) ?_
            · have q := xc0 wz hz; go_simp; try rfl
            simp only [Act.put, List.setIfInBounds_toArray, List.set_cons_zero, List.set_cons_succ]
            refine flowL_det (fun wz hz hd => stepF_reads (by rfl) ?_) ?_
            · go_simp; try rfl
            simp only [Act.put, List.setIfInBounds_toArray, List.set_cons_zero, List.set_cons_succ]
            refine flowL_det (fun wz hz hd => stepF_reads (by rfl) ?_) ?_
            · have q := xd0 wz hz; go_simp; try rfl
            simp only [Act.put, List.setIfInBounds_toArray, List.set_cons_zero, List.set_cons_succ]
            refine flowL_det (fun wz hz hd => stepF_walk (by rfl) (fun K hK => ?_)) ?_
            · go_wp2_with fail
              go_at_call 17
              refine (FP wz hz).mono ?_
              rintro e w9 ⟨rfl, hb⟩
              first | exact hK.out _ _ (det_true rfl) trivial hb | exact hK.out _ _ (det_true trivial) trivial hb
            simp only [Act.put, List.setIfInBounds_toArray, List.set_cons_zero, List.set_cons_succ]
            refine flowL_det (fun wz hz hd => stepF_reads (by rfl) ?_) ?_
            · go_simp; try rfl
            simp only [Act.put, List.setIfInBounds_toArray, List.set_cons_zero, List.set_cons_succ]
            refine flowL_det (fun wz hz hd => stepF_reads (by rfl) ?_) ?_
            · go_simp; try rfl
            simp only [Act.put, List.setIfInBounds_toArray, List.set_cons_zero, List.set_cons_succ]
            refine flowL_det (fun wz hz hd => stepF_reads (by rfl) ?_) ?_
            · go_simp; try rfl
            simp only [Act.put, List.setIfInBounds_toArray, List.set_cons_zero, List.set_cons_succ]
            refine flowL_det (fun wz hz hd => stepF_reads (by rfl) ?_) ?_
            · go_simp; try rfl
            simp only [Act.put, List.setIfInBounds_toArray, List.set_cons_zero, List.set_cons_succ]
            refine flowL_det (fun wz hz hd => stepF_reads (by rfl) ?_) ?_
            · go_simp; try rfl
            simp only [Act.put, List.setIfInBounds_toArray, List.set_cons_zero, List.set_cons_succ]
            refine flowL_det (fun wz hz hd => stepF_reads (by rfl) ?_) ?_
            · go_simp; try rfl
            simp only [Act.put, List.setIfInBounds_toArray, List.set_cons_zero, List.set_cons_succ]
            refine flowL_det (fun wz hz hd => stepF_reads (by rfl) ?_) ?_
            · have q := TC2 wz hz; go_simp; try rfl
            simp only [Act.put, List.setIfInBounds_toArray, List.set_cons_zero, List.set_cons_succ]
            refine flowL_make (⟨_, none, 0, rfl⟩) (fun wz hz hd => stepF_walk (by rfl) (fun K hK => ?_)) (fun v hv => ?_)
            · go_wp2_with fail
              go_at_call 18
              refine (FW wz hz).mono ?_
              rintro e w9 ⟨A9, c9, rfl, _, _, g9, hb⟩
              exact hK.out _ _ ⟨A9, c9, by rw [HEE.out]⟩ (fun B c e => by cases e; exact g9.arr) hb
            obtain ⟨Aw, cw, rfl⟩ := hv
            simp only [Act.put, List.setIfInBounds_toArray, List.set_cons_zero, List.set_cons_succ]
            refine flowL_det (fun wz hz hd => stepF_reads (by rfl) ?_) ?_
            · go_simp; try rfl
            simp only [Act.put, List.setIfInBounds_toArray, List.set_cons_zero, List.set_cons_succ]
            refine flowL_det (fun wz hz hd => stepF_reads (by rfl) ?_) ?_
            · go_simp; try rfl
            simp only [Act.put, List.setIfInBounds_toArray, List.set_cons_zero, List.set_cons_succ]
            refine flowL_det (fun wz hz hd => stepF_reads (by rfl) ?_) ?_
            · go_simp; try rfl
            simp only [Act.put, List.setIfInBounds_toArray, List.set_cons_zero, List.set_cons_succ]
            refine flowL_det (fun wz hz hd => stepF_reads (by rfl) ?_) ?_
            · have q := TC2 wz hz; go_simp; try rfl
            simp only [Act.put, List.setIfInBounds_toArray, List.set_cons_zero, List.set_cons_succ]
            refine flowL_det (fun wz hz hd => stepF_walk (by rfl) (fun K hK => ?_)) ?_
            · go_wp2_with fail
              go_at_call 19
              refine (FX wz hz).mono ?_
              rintro e w9 ⟨rfl, hb⟩
              exact hK.out _ _ (show Value.slice Ai (jour 0 ri).length ci = _ by rw [HEE.out]) trivial hb
            simp only [Act.put, List.setIfInBounds_toArray, List.set_cons_zero, List.set_cons_succ]
            refine flowL_det (fun wz hz hd => stepF_walk (by rfl) (fun K hK => ?_)) ?_
            · obtain ⟨p, hp⟩ := dep_of hd 41 (by decide +kernel)
              go_wp2_with fail
              go_at_call 17
              refine (FT wz hz Aw cw ((hp.post Aw cw rfl).keep hp.since)).mono ?_
              rintro e w9 ⟨rfl, hb⟩
              first | exact hK.out _ _ (det_true rfl) trivial hb | exact hK.out _ _ (det_true trivial) trivial hb
            simp only [Act.put, List.setIfInBounds_toArray, List.set_cons_zero, List.set_cons_succ]
            refine flowL_det (fun wz hz hd => stepF_reads (by rfl) ?_) ?_
            · go_simp; try rfl
            simp only [Act.put, List.setIfInBounds_toArray, List.set_cons_zero, List.set_cons_succ]
            intro w5 ps hb5 hF hap
            clear hF hap
            go_upto_region 23 with fail
            have b15 := b12.trans (hb5.mono b12.size)
            have u3 : ∀ wz, Below w5.heap.size w5 wz → Below V2.heap.size V2 wz := fun wz hz => hb5.trans (hz.mono hb5.size)
            have TC3 : ∀ wz, Below w5.heap.size w5 wz → wz.cell? ⟨Na, t, none⟩ = some (.slice Ai bi.length ci) := fun wz hz => TC2 wz (u3 wz hz)
            have TK : ∀ wz, Below w5.heap.size w5 wz → wz.cell? ⟨w.heap.size, 0, none⟩ = some (.int .u16 x0) := fun wz hz => (HKV1.keep (u1 wz (u3 wz hz))).get (i := 0) rfl
            have FC := fun (wz : World) (hz : Below w5.heap.size w5 wz) => FC0 wz (u1 wz (u3 wz hz))
            have FD := fun (wz : World) (hz : Below w5.heap.size w5 wz) => FD0 wz (u1 wz (u3 wz hz))
            have FU := fun (wz : World) (hz : Below w5.heap.size w5 wz) (Aw : Option Addr) (cw : Nat) (hw : Arr wz Aw (u8s tl)) => same_any Aw Ai tl tl cw ci wz hw (HTL.out wz (u1 wz (u3 wz hz))) (by have := HTN.out; omega) (by have := HTN.out; omega)
            clear TC2 xa0 xa1 xa2 xb0 xb1 xb2 xc0 xc1 xd0 xd1 FR FS FP FW FX FT FC0 FD0
            refine wp_region_flow 19 [.det (.slice ((some ⟨Na, 0, none⟩)) 2 2), .det (.int .i64 t), .det (.pointer (some ⟨Na, t, none⟩)), .det (.slice Ai bi.length ci), .det (.pointer (some ⟨w.heap.size, 0, none⟩)), .det (.int .u16 x0), .det (.int .i64 x0), .det (.int .i64 ((x0 - 9))), wholeS tl.length (fun wm A => Arr wm A (u8s tl)), .det (.slice ((some ⟨Na, 0, none⟩)) 2 2), .det (.int .i64 t), .det (.pointer (some ⟨Na, t, none⟩)), .det (.slice Ai bi.length ci), .det (.pointer (some ⟨w.heap.size, 0, none⟩)), .det (.int .u16 x0), .det (.int .i64 x0), .det (.int .i64 ((x0 - 9))), .det (.slice Ai tl.length ci), .det (.bool true)] (by kernel_rfl) (by kernel_rfl) rfl ?_
            simp only [List.take_succ_cons, List.take_zero, List.drop_succ_cons, List.drop_zero]
            refine flowL_det (fun wz hz hd => stepF_reads (by rfl) ?_) ?_
            · go_simp; try rfl
            simp only [Act.put, List.setIfInBounds_toArray, List.set_cons_zero, List.set_cons_succ]
            refine flowL_det (fun wz hz hd => stepF_reads (by rfl) ?_) ?_
            · go_simp; try rfl
            simp only [Act.put, List.setIfInBounds_toArray, List.set_cons_zero, List.set_cons_succ]
            refine flowL_det (fun wz hz hd => stepF_reads (by rfl) ?_) ?_
            · go_simp; try rfl
            simp only [Act.put, List.setIfInBounds_toArray, List.set_cons_zero, List.set_cons_succ]
            refine flowL_det (fun wz hz hd => stepF_reads (by rfl) ?_) ?_
            · have q := TC3 wz hz; go_simp; try rfl
            simp only [Act.put, List.setIfInBounds_toArray, List.set_cons_zero, List.set_cons_succ]
            refine flowL_det (fun wz hz hd => stepF_reads (by rfl) ?_) ?_
            · go_simp; try rfl
            simp only [Act.put, List.setIfInBounds_toArray, List.set_cons_zero, List.set_cons_succ]
            refine flowL_det (fun wz hz hd => stepF_reads (by rfl) ?_) ?_
            · have q := TK wz hz; go_simp; try rfl
            simp only [Act.put, List.setIfInBounds_toArray, List.set_cons_zero, List.set_cons_succ]
            refine flowL_det (fun wz hz hd => stepF_reads (by rfl) ?_) ?_
            · go_simp; first | done | rfl | (rw [IntKind.wrap_i64]; omega)
            simp only [Act.put, List.setIfInBounds_toArray, List.set_cons_zero, List.set_cons_succ]
            refine flowL_det (fun wz hz hd => stepF_reads (by rfl) ?_) ?_
            · go_simp; try rfl
            simp only [Act.put, List.setIfInBounds_toArray, List.set_cons_zero, List.set_cons_succ]
            refine flowL_make (⟨_, none, 0, rfl⟩) (fun wz hz hd => stepF_walk (by rfl) (fun K hK => ?_)) (fun v hv => ?_)
            · go_wp2_with fail
              go_at_call 20
              refine (FC wz hz).mono ?_
              rintro e w9 ⟨A9, c9, rfl, _, _, g9, hb⟩
              exact hK.out _ _ ⟨A9, c9, rfl⟩ (fun B c e => by cases e; exact g9.arr) hb
            obtain ⟨Aw, cw, rfl⟩ := hv
            simp only [Act.put, List.setIfInBounds_toArray, List.set_cons_zero, List.set_cons_succ]
            refine flowL_det (fun wz hz hd => stepF_reads (by rfl) ?_) ?_
            · go_simp; try rfl
            simp only [Act.put, List.setIfInBounds_toArray, List.set_cons_zero, List.set_cons_succ]
            refine flowL_det (fun wz hz hd => stepF_reads (by rfl) ?_) ?_
            · go_simp; try rfl
            simp only [Act.put, List.setIfInBounds_toArray, List.set_cons_zero, List.set_cons_succ]
            refine flowL_det (fun wz hz hd => stepF_reads (by rfl) ?_) ?_
            · go_simp; try rfl
            simp only [Act.put, List.setIfInBounds_toArray, List.set_cons_zero, List.set_cons_succ]
            refine flowL_det (fun wz hz hd => stepF_reads (by rfl) ?_) ?_
            · have q := TC3 wz hz; go_simp; try rfl
            simp only [Act.put, List.setIfInBounds_toArray, List.set_cons_zero, List.set_cons_succ]
            refine flowL_det (fun wz hz hd => stepF_reads (by rfl) ?_) ?_
            · go_simp; try rfl
            simp only [Act.put, List.setIfInBounds_toArray, List.set_cons_zero, List.set_cons_succ]
            refine flowL_det (fun wz hz hd => stepF_reads (by rfl) ?_) ?_
            · have q := TK wz hz; go_simp; try rfl
            simp only [Act.put, List.setIfInBounds_toArray, List.set_cons_zero, List.set_cons_succ]
            refine flowL_det (fun wz hz hd => stepF_reads (by rfl) ?_) ?_
            · go_simp; first | done | rfl | (rw [IntKind.wrap_i64]; omega)
            simp only [Act.put, List.setIfInBounds_toArray, List.set_cons_zero, List.set_cons_succ]
            refine flowL_det (fun wz hz hd => stepF_reads (by rfl) ?_) ?_
            · go_simp; try rfl
            simp only [Act.put, List.setIfInBounds_toArray, List.set_cons_zero, List.set_cons_succ]
            refine flowL_det (fun wz hz hd => stepF_walk (by rfl) (fun K hK => ?_)) ?_
            · go_wp2_with fail
              go_at_call 21
              refine (FD wz hz).mono ?_
              rintro e w9 ⟨rfl, rfl⟩
              exact hK.out _ _ rfl trivial (Below.refl _ _)
            simp only [Act.put, List.setIfInBounds_toArray, List.set_cons_zero, List.set_cons_succ]
            refine flowL_det (fun wz hz hd => stepF_walk (by rfl) (fun K hK => ?_)) ?_
            · obtain ⟨p, hp⟩ := dep_of hd 8 (by decide +kernel)
              go_wp2_with fail
              go_at_call 17
              refine (FU wz hz Aw cw ((hp.post Aw cw rfl).keep hp.since)).mono ?_
              rintro e w9 ⟨rfl, hb⟩
              first | exact hK.out _ _ (det_true rfl) trivial hb | exact hK.out _ _ (det_true trivial) trivial hb
            simp only [Act.put, List.setIfInBounds_toArray, List.set_cons_zero, List.set_cons_succ]
            intro w6 ps hb6 hF hap
            clear hF hap
            have b16 := b15.trans (hb6.mono b15.size)
            have hfin := hbq.trans (b16.mono hbq.size)
            clear TC3 TK FC FD FU u1 u2 u3 VU FSt
            go_wp2_with fail
            go_roundw
            case rel => exact ⟨t + 1, by omega, by go_num, hfin⟩
            case measure => simp [intOf]; omega
          · obtain rfl : t = 2 := by omega
            go_wp2
            go_ret
            exact ⟨rfl, hwV.trans (hbq.mono hwV.size)⟩
end Jn
end Go.Proofs.Ytcdoalfpaldbmaa
