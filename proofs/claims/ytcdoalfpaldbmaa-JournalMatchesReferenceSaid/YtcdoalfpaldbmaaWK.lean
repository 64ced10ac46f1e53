/- The law of damage. -/
import Derived.Test.YtcdoalfpaldbmaaWH
import Derived.Test.YtcdoalfpaldbmaaM4
namespace Go.Proofs.Ytcdoalfpaldbmaa
open Go.RowKit Sl Fr Dg
namespace Jn
set_option linter.unusedVariables false
attribute [local go_sem] field_b0 field_b1 field_r0

theorem arr_of_box {W : World} {g : Nat} {zs : Array Value} {vs : List Value} (h : BoxL W g zs) (e : zs.toList = vs) : Arr W (some ⟨g, 0, none⟩) vs := fun _ =>
  ⟨g, 0, rfl, h.lt, fun j u hu => by
    rw [Nat.zero_add]
    exact h.get (by rw [← e] at hu; simpa using hu)⟩
theorem u8s_set (l : List Int) (p : Nat) (v : Int) : ((u8s l).toArray.setIfInBounds p (.int .u8 v)).toList = u8s (l.set p v) := by
  simp [u8s, List.map_set]
/-- What the law's put gives, if nothing can be put. -/
def tornS : FSpec := ⟨fun v => ∃ A c, v = .agg #[.slice A 0 c, .int .i64 60], fun _ _ _ => True⟩

set_option maxRecDepth 100000 in
set_option maxHeartbeats 12800000 in
theorem damage_law (A : Option Addr) (rs : List (List Int)) (c : Nat) (m y : Int) (w : World) (hA : LL w A rs) (hi : ∀ r ∈ rs, ∀ x ∈ r, I64 x) (hlen : rs.length ≤ 9223372036854775807) (hcap : rs.length ≤ c) (hnil : A = none → rs = [] ∧ c = 0) (hm : 0 ≤ m ∧ m < 65536) (hy : 0 ≤ y ∧ y < 256) :
    Calls Try.prog 7 #[.slice A rs.length c, .int .u16 m, .int .u8 y] w fun e w' => e = .returned (.bool true) ∧ Below w.heap.size w w' := by
  go_enter Try.func7, Try.ntmps7
  go_upto_region 4 with (go_at_call 9; refine (examples_any _).mono ?_; rintro e X ⟨rfl, hbX⟩)
  have hsm := small_any A rs c X (hA.keep hbX) hlen
  by_cases hs : smallB rs = true
  case neg =>
    have hs' : smallB rs = false := by simpa using hs
    rw [hs'] at hsm
    go_wp2_with (go_at_call 10; refine hsm.mono ?_; rintro e w2 ⟨rfl, rfl⟩)
    go_ret
    exact ⟨rfl, hbX⟩
  rw [hs] at hsm
  have hok := small_ok hs hi
  have hjl := small_len hs
  have hrl := (small_iff hs).1
  have hmd := made_any A rs c X (hA.keep hbX) hok (by omega) (by omega)
  go_upto_region 6 with (go_at_call 10; refine hsm.mono ?_; rintro e w2 ⟨rfl, rfl⟩)
  clear hsm hs
  go_upto_region 7 with (go_at_call 22; refine hmd.mono ?_; rintro e Y ⟨Aj, cj, Be, de, rfl, g1, g2, g3, g4, g5, hbY⟩)
  have hAY := (hA.keep hbX).keep hbY
  obtain ⟨b2, o2, hb2⟩ := open_i64 g5.arr
  have HE := Lib.hid hb2
  have hbw := hbX.trans (hbY.mono hbX.size)
  have HAY := Lib.hid hAY
  have HJ := Lib.hid (ArrF.arr g3)
  have G2 := Lib.hid g2
  have HOK := Lib.hid hok
  have HNIL := Lib.hid hnil
  have hel : (endsTo rs rs.length).length = rs.length := endsTo_length _ _
  clear hb2 g5 g3 hAY hmd hA hbY g2 hok hi hnil hlen
  generalize hL : (jour 0 rs).length = L at *
  have hm0 := hm.1
  by_cases hL0 : L = 0
  · have hz : ((L : Int) == 0) = true := by rw [beq_iff_eq]; omega
    clear hL0
    go_wp2
    go_ret
    exact ⟨rfl, hbw⟩
  have hz : ((L : Int) == 0) = false := by rw [beq_eq_false_iff_ne]; omega
  by_cases hy0 : y = 0
  · subst hy0
    go_wp2
    go_ret
    exact ⟨rfl, hbw⟩
  have hyz : (y == 0) = false := by rw [beq_eq_false_iff_ne]; exact hy0
  obtain ⟨p, hp, hpL⟩ : ∃ p : Nat, m.tmod (L : Int) = (p : Int) ∧ p < L := by
    refine ⟨(m % (L : Int)).toNat, ?_, ?_⟩
    · rw [Int.tmod_eq_emod_of_nonneg hm.1, Int.toNat_of_nonneg (Int.emod_nonneg _ (by omega))]
    · have := Int.emod_lt_of_pos m (show (0 : Int) < (L : Int) by omega)
      omega
  go_upto_region 10 with fail
  clear hz hyz
  go_wp2
  clear hp
  go_loop [11, 12] (fun i a => ∃ k : Nat, k ≤ rs.length ∧ i = .int .i64 k ∧ (∃ E : Nat, E = (jour 0 (rs.take k)).length ∧ a = .int .i64 (E : Int) ∧ E ≤ p)) (fun i _ => rs.length - (intOf i).toNat)
  case atStart => exact ⟨0, Nat.zero_le _, rfl, 0, rfl, rfl, Nat.zero_le _⟩
  case round =>
    obtain ⟨k, hk, rfl, E, hE, rfl, hEn⟩ := hrel
    have HEE := Lib.hid hE
    clear hE
    by_cases hlt : k < rs.length ∧ (jour 0 (rs.take (k + 1))).length ≤ p
    · obtain ⟨hlt, hle⟩ := hlt
      obtain ⟨rfl, hbs2, hc2⟩ := HE.out (by intro h; rw [h] at hel; simp at hel; rw [← hel] at hlt; simp at hlt)
      have q4 := hc2 k _ (endsTo_get rs rs.length k hlt)
      have HQ := Lib.hid (rfl : (jour 0 (rs.take (k + 1))).length = (jour 0 (rs.take (k + 1))).length)
      clear hc2 HE
      generalize hq : (jour 0 (rs.take (k + 1))).length = q at *
      have HQQ := Lib.hid hq
      clear hq HQ
      go_wp2
      go_round
      case rel => exact ⟨k + 1, by omega, by go_num, q, HQQ.out.symm, rfl, hle⟩
      case measure => simp [intOf]; omega
    · have hlk : k < rs.length := by
        rcases Nat.lt_or_ge k rs.length with h | h
        · exact h
        · have h1 : rs.take k = rs := List.take_of_length_le h
          have h2 := HEE.out
          rw [h1, hL] at h2
          omega
      have hq1 : p < (jour 0 (rs.take (k + 1))).length := Nat.lt_of_not_le fun h => hlt ⟨hlk, h⟩
      have HQ1 := Lib.hid hq1
      obtain ⟨rfl, _, hc2⟩ := HE.out (by intro h'; rw [h'] at hel; simp at hel; rw [← hel] at hlk; simp at hlk)
      have hq2 := hc2 k _ (endsTo_get rs rs.length k hlk)
      clear hlt hc2 HE
      generalize hqe : (jour 0 (rs.take (k + 1))).length = q at *
      have HQE := Lib.hid hqe
      clear hqe
      go_upto_region 14 with fail
      clear hq2 hq1
      have hne : jour 0 rs ≠ [] := by intro h; rw [h] at hL; simp at hL; omega
      obtain ⟨bj, oj, hAj, hltj, hcj⟩ := Byt.at HJ.out hne
      subst hAj
      have HCJ := Lib.hid hcj
      obtain ⟨i0, hi0, hz0, hz1, hz2⟩ := info_parts infoByte
      have hbA := (Below.refl Y.heap.size Y).alloc (Nat.le_refl _) (.cells #[] 5)
      have hcell : ∀ j u, (u8s (jour 0 rs))[j]? = some u → (Y.alloc (.cells #[] 5)).cell? ((⟨bj, oj, none⟩ : Addr).add j) = some u := fun j u hu => by
        obtain ⟨b', o', e, _, hc'⟩ := (HJ.out.keep hbA) (by intro e; rw [e] at hu; simp at hu)
        cases e
        rw [add_lit0]; exact hc' j u hu
      have HCELL := Lib.hid hcell
      have hown0 : (Y.alloc (.cells #[] 5)).ownsRow Y.heap.size 5 1 (.slice (some ⟨Y.heap.size, 0, none⟩) 0 0) 0 [] :=
        ⟨rfl, .inr ⟨Y.heap.size, 0, #[], rfl, Nat.le_refl _, World.alloc_heap_new Y _, Nat.le_refl _, Nat.zero_le _, rfl, rfl⟩⟩
      have HOWN0 := Lib.hid hown0
      clear hcell hown0 hcj hne
      go_upto_region 15 with (at_builtin; go_loud (refine wpList_append_own (w := Y.alloc (.cells #[] 5)) rfl _ _ 22 rfl Y.heap.size 5 i0 (.int .u8 0) 1 1 Try.underlying22 hi0 hz0 hz1 hz2 rfl (by decide) _ 0 [] rfl HOWN0.out ⟨bj, oj, none⟩ L cj (u8s (jour 0 rs)) rfl (by rw [u8s_length]; omega) HCELL.out (by simp [u8s, Value.oneCell']) (by unfold maxLen; omega) (by omega) (by simp) ?_; intro v' w3 hown' hg' _; go_frame))
      have hb3 : Below Y.heap.size Y w3 := hbA.grown hg' hbA.size (fun k e => by cases e; exact Nat.le_refl _)
      rw [Nat.zero_add, List.nil_append] at hown'
      obtain ⟨g, cap, hv', hbx, hgb⟩ := row_box hown' (by omega)
      subst hv'
      have hxp : p < (jour 0 rs).length := by omega
      obtain ⟨x, hx⟩ := get_ex hxp
      have hxb : 0 ≤ x ∧ x < 256 := jour_B8 0 rs x (List.mem_of_getElem? hx)
      have hcx : w3.cell? ⟨g, p, none⟩ = some (.int .u8 x) := hbx.get (by unfold u8s; simp [hx])
      have hmx : w3.frozen? ⟨g, p, none⟩ = false := hbx.mark (by simp [u8s]; omega)
      have hs1 := hbx.set1 (i := p) (by simp [u8s]; omega) (.int .u8 (bits .xor .u8 x y))
      have hod := arr_of_box hs1 (u8s_set (jour 0 rs) p _)
      have hb4 := hb3.setCell (p := ⟨g, p, none⟩) hgb (.int .u8 (bits .xor .u8 x y))
      have hcapL : L ≤ cap := by obtain ⟨A0, c0, e, h, _⟩ := row_forms hown'; cases e; exact h
      have hpar := parses_damaged HOK.out (i := p) (k := k) (bits .xor .u8 x y) ⟨(xor_byte x y hxb ⟨by omega, hy.2⟩).1, (xor_byte x y hxb ⟨by omega, hy.2⟩).2.1⟩ hxp (by rw [hx]; exact (xor_byte x y hxb ⟨by omega, hy.2⟩).2.2) (by rw [← HEE.out]; exact hEn) (fun _ _ => by rw [HQE.out]; exact HQ1.out)
      rw [← HEE.out] at hpar
      have hb8 : B8 ((jour 0 rs).set p (bits .xor .u8 x y)) := fun z hz => by
        rcases List.mem_or_eq_of_mem_set hz with h | rfl
        · exact jour_B8 _ _ z h
        · exact ⟨(xor_byte x y hxb ⟨by omega, hy.2⟩).1, (xor_byte x y hxb ⟨by omega, hy.2⟩).2.1⟩
      have hol : ((jour 0 rs).set p (bits .xor .u8 x y)).length = L := by rw [List.length_set, hL]
      have HPAR := Lib.hid hpar
      have HB8 := Lib.hid hb8
      have HOL := Lib.hid hol
      have HOD := Lib.hid hod
      have HB4 := Lib.hid hb4
      clear hpar hb8 hol hod hb4 hs1 hxb hbx hown' hg' hbA HCELL HOWN0 hx hxp hb3
      go_upto_region 16 with fail
      clear hcx hmx
      generalize w3.setCell ⟨g, p, none⟩ (.int .u8 (bits .xor .u8 x y)) = Z at *
      generalize (jour 0 rs).set p (bits .xor .u8 x y) = od at *
      obtain ⟨r, hr⟩ : ∃ r, L = E + r := ⟨L - E, by omega⟩
      have hr0 : r ≠ 0 := by omega
      have HR := Lib.hid hr
      clear hr
      have hrs : (od.drop E).length = r := by rw [List.length_drop, HOL.out]; have := HR.out; omega
      have hkl : (rs.take k).length = k := by rw [List.length_take]; omega
      have hx60 : errR (od.drop E) = 60 := errR_pos hrs hr0
      have hrd := readL_any (some ⟨g, 0, none⟩) od _ (rs.take k) cap Z HOD.out HB8.out (by rw [HOL.out]; omega) (by rw [HOL.out]; exact hcapL) HPAR.out
      have hpt := fun (W : World) (hW : Below Z.heap.size Z W) => putL_any (some ⟨g, 0, none⟩) none od _ [] (rs.take k) cap 0 W (Arr.keep HOD.out hW) (fun e => by cases e) HB8.out (by rw [HOL.out]; omega) (by rw [HOL.out]; exact hcapL) HPAR.out (fun h => absurd rfl h) (fun x hx => by cases hx) (by decide)
      have hwh := fun (W : World) (hW : Below Z.heap.size Z W) => whole_any (some ⟨g, 0, none⟩) od _ (rs.take k) cap W (Arr.keep HOD.out hW) (fun e => by cases e) HB8.out (by rw [HOL.out]; omega) (by rw [HOL.out]; exact hcapL) HPAR.out
      have hpf : putF od (od.drop E) (rs.take k) [] = ([], 60) := by
        unfold putF
        rw [if_neg (by decide), if_pos (by intro e; rw [e] at hrs; simp at hrs; omega)]
      rw [hpf] at hpt
      rw [HOL.out] at hrd hpt hwh
      have HP := Lib.hid hpt
      have HWH := Lib.hid hwh
      clear hpt hwh hpf
      go_upto_region 17 with (go_at_call 12; refine hrd.mono ?_; rintro e T hg; obtain ⟨A1, c1, B1, d1, rfl, q1, q2, q4, q5, hbT⟩ := readN hg hkl hrs hx60)
      have hTx := BoxL.new T #[.slice A1 k c1, .slice B1 r d1, .int .i64 60, .int .i64 0, .int .u64 0] 34
      have hkT := (Below.refl _ T).alloc (Nat.le_refl _) (.cells #[.slice A1 k c1, .slice B1 r d1, .int .i64 60, .int .i64 0, .int .u64 0] 34)
      have MT := Lib.hid hTx
      have L4 := Lib.hid (q4.ll.keep hkT)
      have R5 := Lib.hid ((ArrF.arr q5).keep hkT)
      have z3 := hbT.trans (hkT.mono hbT.size)
      clear hrd hTx q4 q5 hbT hkT hx60
      generalize T.alloc (.cells #[.slice A1 k c1, .slice B1 r d1, .int .i64 60, .int .i64 0, .int .u64 0] 34) = V at *
      generalize T.heap.size = Nx at *
      have y3 := HB4.out.trans (z3.mono HB4.out.size)
      have tx0 : ∀ wz, Below V.heap.size V wz → wz.cell? ⟨Nx, 0, none⟩ = some (.slice A1 k c1) := fun wz hz => (MT.out.keep hz).get (i := 0) rfl
      have tx1 : ∀ wz, Below V.heap.size V wz → wz.cell? ⟨Nx, 1, none⟩ = some (.slice B1 r d1) := fun wz hz => (MT.out.keep hz).get (i := 1) rfl
      have tx2 : ∀ wz, Below V.heap.size V wz → wz.cell? ⟨Nx, 2, none⟩ = some (.int .i64 60) := fun wz hz => (MT.out.keep hz).get (i := 2) rfl
      have zu : ∀ wz, Below V.heap.size V wz → Below Z.heap.size Z wz := fun wz hz => z3.trans (hz.mono z3.size)
      have yu : ∀ wz, Below V.heap.size V wz → Below Y.heap.size Y wz := fun wz hz => y3.trans (hz.mono y3.size)
      have FR := fun (wz : World) (hz : Below V.heap.size V wz) => records_same A1 A (rs.take k) (rs.take k) c1 c wz (L4.out.keep hz) ((HAY.out.keep (yu wz hz)).take k) (by rw [hkl]; omega) (by rw [hkl]; omega) (fun x hx => by have := (HOK.out x (List.mem_of_mem_take hx)).1; omega) (fun x hx => by have := (HOK.out x (List.mem_of_mem_take hx)).1; omega)
      rw [hkl] at FR
      have FS := fun (wz : World) (hz : Below V.heap.size V wz) => same_any B1 (subA (some ⟨g, 0, none⟩) E cap) (od.drop E) (od.drop E) d1 (cap - E) wz (Arr.keep R5.out hz) (subA_arr (Arr.keep HOD.out (zu wz hz)) (by rw [HOL.out]; exact hcapL)) (by rw [hrs]; have := HR.out; omega) (by rw [hrs]; have := HR.out; omega)
      rw [hrs] at FS
      have hjk : jour 0 (rs.take k) = (jour 0 rs).take E := by rw [HEE.out]; exact jour_pre rs k
      have hjl2 : (jour 0 (rs.take k)).length = E := HEE.out.symm
      have FW := fun (wz : World) (hz : Below V.heap.size V wz) => HWH.out wz (zu wz hz)
      have FT := fun (wz : World) (hz : Below V.heap.size V wz) (Aw : Option Addr) (cw : Nat) (hw : Arr wz Aw (u8s (jour 0 (rs.take k)))) => same_any Aw (some ⟨bj, oj, none⟩) (jour 0 (rs.take k)) (jour 0 (rs.take k)) cw cj wz hw (hjk ▸ Byt.take (Arr.keep HJ.out (yu wz hz)) E) (by rw [hjl2]; omega) (by rw [hjl2]; omega)
      rw [hjl2] at FT
      have FP := fun (wz : World) (hz : Below V.heap.size V wz) => HP.out wz (zu wz hz)
      have HJL := Lib.hid hjl2
      clear hjl2
      refine wp_region_flow 36 [.det (.pointer (some ⟨Nx, 2, none⟩)), .det (.int .i64 60), .det (.bool true), .det (.bool true), .det (.pointer (some ⟨Nx, 0, none⟩)), .det (.slice A1 k c1), .det (.slice A rs.length c), .det (.int .i64 k), .det (.slice A k c), .det (.bool true), .det (.bool true), .det (.bool true), .det (.pointer (some ⟨Nx, 1, none⟩)), .det (.slice B1 r d1), .det (.slice ((some ⟨g, 0, none⟩)) L cap), .det (.int .i64 E), .det (.slice ((subA (some ⟨g, 0, none⟩) E cap)) r ((cap - E))), .det (.bool true), .det (.bool true), .det (.bool true), .det (.slice ((some ⟨g, 0, none⟩)) L cap), wholeS E (fun wm A => Arr wm A (u8s (jour 0 (rs.take k)))), .det (.slice ((some ⟨bj, oj, none⟩)) L cj), .det (.int .i64 E), .det (.slice ((some ⟨bj, oj, none⟩)) E cj), .det (.bool true), .det (.bool true), .det (.bool true), .det (.slice ((some ⟨g, 0, none⟩)) L cap), tornS, .det (.int .i64 60), .det (.bool true), .det (.bool true), .det (.bool true), .det (.bool true), .det (.bool true)] (by kernel_rfl) (by kernel_rfl) rfl ?_
      simp only [List.take_succ_cons, List.take_zero, List.drop_succ_cons, List.drop_zero]
      refine flowL_det (fun wz hz hd => stepF_reads (by rfl) ?_) ?_
      · go_simp; try rfl
      simp only [Act.put, List.setIfInBounds_toArray, List.set_cons_zero, List.set_cons_succ]
      refine flowL_det (fun wz hz hd => stepF_reads (by rfl) ?_) ?_
      · have q := tx2 wz hz; go_simp; try rfl
      simp only [Act.put, List.setIfInBounds_toArray, List.set_cons_zero, List.set_cons_succ]
      refine flowL_det (fun wz hz hd => stepF_reads (by rfl) ?_) ?_
      · go_simp; try rfl
      simp only [Act.put, List.setIfInBounds_toArray, List.set_cons_zero, List.set_cons_succ]
      refine flowL_det (fun wz hz hd => stepF_reads (by rfl) ?_) ?_
      · go_simp; try rfl
      simp only [Act.put, List.setIfInBounds_toArray, List.set_cons_zero, List.set_cons_succ]
      refine flowL_det (fun wz hz hd => stepF_reads (by rfl) ?_) ?_
      · go_simp; try rfl
      simp only [Act.put, List.setIfInBounds_toArray, List.set_cons_zero, List.set_cons_succ]
      refine flowL_det (fun wz hz hd => stepF_reads (by rfl) ?_) ?_
      · have q := tx0 wz hz; go_simp; try rfl
      simp only [Act.put, List.setIfInBounds_toArray, List.set_cons_zero, List.set_cons_succ]
      refine flowL_det (fun wz hz hd => stepF_reads (by rfl) ?_) ?_
      · go_simp; try rfl
      simp only [Act.put, List.setIfInBounds_toArray, List.set_cons_zero, List.set_cons_succ]
      refine flowL_det (fun wz hz hd => stepF_reads (by rfl) ?_) ?_
      · go_simp; try rfl
      simp only [Act.put, List.setIfInBounds_toArray, List.set_cons_zero, List.set_cons_succ]
      refine flowL_det (fun wz hz hd => stepF_reads (by rfl) ?_) ?_
      · go_simp; try (intro h; exact absurd h (by omega))
      simp only [Act.put, List.setIfInBounds_toArray, List.set_cons_zero, List.set_cons_succ]
      refine flowL_det (fun wz hz hd => stepF_walk (by rfl) (fun K hK => ?_)) ?_
      · go_wp2_with fail
        go_at_call 16
        refine (FR wz hz).mono ?_
        rintro e w9 ⟨rfl, hb⟩
        first | exact hK.out _ _ (det_true rfl) trivial hb | exact hK.out _ _ (det_true trivial) trivial hb
      simp only [Act.put, List.setIfInBounds_toArray, List.set_cons_zero, List.set_cons_succ]
      refine flowL_det (fun wz hz hd => stepF_reads (by rfl) ?_) ?_
      · go_simp; try rfl
      simp only [Act.put, List.setIfInBounds_toArray, List.set_cons_zero, List.set_cons_succ]
      refine flowL_det (fun wz hz hd => stepF_reads (by rfl) ?_) ?_
      · go_simp; try rfl
      simp only [Act.put, List.setIfInBounds_toArray, List.set_cons_zero, List.set_cons_succ]
      refine flowL_det (fun wz hz hd => stepF_reads (by rfl) ?_) ?_
      · go_simp; try rfl
      simp only [Act.put, List.setIfInBounds_toArray, List.set_cons_zero, List.set_cons_succ]
      refine flowL_det (fun wz hz hd => stepF_reads (by rfl) ?_) ?_
      · have q := tx1 wz hz; go_simp; try rfl
      simp only [Act.put, List.setIfInBounds_toArray, List.set_cons_zero, List.set_cons_succ]
      refine flowL_det (fun wz hz hd => stepF_reads (by rfl) ?_) ?_
      · go_simp; try rfl
      simp only [Act.put, List.setIfInBounds_toArray, List.set_cons_zero, List.set_cons_succ]
      refine flowL_det (fun wz hz hd => stepF_reads (by rfl) ?_) ?_
      · go_simp; try rfl
      simp only [Act.put, List.setIfInBounds_toArray, List.set_cons_zero, List.set_cons_succ]
      refine flowL_det (fun wz hz hd => stepF_reads (by rfl) ?_) ?_
      · go_simp; rw [if_pos (by omega)]; rw [show L - E = r from by have := HR.out; omega]; first | rfl | (simp only [subA, Option.map_some, add_lit0, Nat.zero_add])
      simp only [Act.put, List.setIfInBounds_toArray, List.set_cons_zero, List.set_cons_succ]
      refine flowL_det (fun wz hz hd => stepF_walk (by rfl) (fun K hK => ?_)) ?_
      · go_wp2_with fail
        go_at_call 17
        refine (FS wz hz).mono ?_
        rintro e w9 ⟨rfl, hb⟩
        first | exact hK.out _ _ (det_true rfl) trivial hb | exact hK.out _ _ (det_true trivial) trivial hb
      simp only [Act.put, List.setIfInBounds_toArray, List.set_cons_zero, List.set_cons_succ]
      refine flowL_det (fun wz hz hd => stepF_reads (by rfl) ?_) ?_
      · go_simp; try rfl
      simp only [Act.put, List.setIfInBounds_toArray, List.set_cons_zero, List.set_cons_succ]
      refine flowL_det (fun wz hz hd => stepF_reads (by rfl) ?_) ?_
      · go_simp; try rfl
      simp only [Act.put, List.setIfInBounds_toArray, List.set_cons_zero, List.set_cons_succ]
      refine flowL_det (fun wz hz hd => stepF_reads (by rfl) ?_) ?_
      · go_simp; try rfl
      simp only [Act.put, List.setIfInBounds_toArray, List.set_cons_zero, List.set_cons_succ]
      refine flowL_make (⟨_, none, 0, rfl⟩) (fun wz hz hd => stepF_walk (by rfl) (fun K hK => ?_)) (fun v hv => ?_)
      · go_wp2_with fail
        go_at_call 18
        refine (FW wz hz).mono ?_
        rintro e w9 ⟨A9, c9, rfl, _, _, g9, hb⟩
        exact hK.out _ _ ⟨A9, c9, by rw [HJL.out]⟩ (fun B c e => by cases e; exact g9.arr) hb
      obtain ⟨Aw, cw, rfl⟩ := hv
      simp only [Act.put, List.setIfInBounds_toArray, List.set_cons_zero, List.set_cons_succ]
      refine flowL_det (fun wz hz hd => stepF_reads (by rfl) ?_) ?_
      · go_simp; try rfl
      simp only [Act.put, List.setIfInBounds_toArray, List.set_cons_zero, List.set_cons_succ]
      refine flowL_det (fun wz hz hd => stepF_reads (by rfl) ?_) ?_
      · go_simp; try rfl
      simp only [Act.put, List.setIfInBounds_toArray, List.set_cons_zero, List.set_cons_succ]
      refine flowL_det (fun wz hz hd => stepF_reads (by rfl) ?_) ?_
      · go_simp; try (intro h; exact absurd h (by omega))
      simp only [Act.put, List.setIfInBounds_toArray, List.set_cons_zero, List.set_cons_succ]
      refine flowL_det (fun wz hz hd => stepF_walk (by rfl) (fun K hK => ?_)) ?_
      · obtain ⟨p, hp⟩ := dep_of hd 21 (by decide +kernel)
        go_wp2_with fail
        go_at_call 17
        refine (FT wz hz Aw cw ((hp.post Aw cw rfl).keep hp.since)).mono ?_
        rintro e w9 ⟨rfl, hb⟩
        first | exact hK.out _ _ (det_true rfl) trivial hb | exact hK.out _ _ (det_true trivial) trivial hb
      simp only [Act.put, List.setIfInBounds_toArray, List.set_cons_zero, List.set_cons_succ]
      refine flowL_det (fun wz hz hd => stepF_reads (by rfl) ?_) ?_
      · go_simp; try rfl
      simp only [Act.put, List.setIfInBounds_toArray, List.set_cons_zero, List.set_cons_succ]
      refine flowL_det (fun wz hz hd => stepF_reads (by rfl) ?_) ?_
      · go_simp; try rfl
      simp only [Act.put, List.setIfInBounds_toArray, List.set_cons_zero, List.set_cons_succ]
      refine flowL_det (fun wz hz hd => stepF_reads (by rfl) ?_) ?_
      · go_simp; try rfl
      simp only [Act.put, List.setIfInBounds_toArray, List.set_cons_zero, List.set_cons_succ]
      refine flowL_make (⟨_, none, 0, rfl⟩) (fun wz hz hd => stepF_walk (by rfl) (fun K hK => ?_)) (fun v hv => ?_)
      · go_wp2_with fail
        go_at_call 14
        refine (FP wz hz).mono ?_
        rintro e w9 ⟨A9, c9, rfl, _, _, _, hb⟩
        exact hK.out _ _ ⟨A9, c9, rfl⟩ trivial hb
      obtain ⟨Ap, cp, rfl⟩ := hv
      simp only [Act.put, List.setIfInBounds_toArray, List.set_cons_zero, List.set_cons_succ]
      refine flowL_det (fun wz hz hd => stepF_reads (by rfl) ?_) ?_
      · go_simp; try rfl
      simp only [Act.put, List.setIfInBounds_toArray, List.set_cons_zero, List.set_cons_succ]
      refine flowL_det (fun wz hz hd => stepF_reads (by rfl) ?_) ?_
      · go_simp; try rfl
      simp only [Act.put, List.setIfInBounds_toArray, List.set_cons_zero, List.set_cons_succ]
      refine flowL_det (fun wz hz hd => stepF_reads (by rfl) ?_) ?_
      · go_simp; try rfl
      simp only [Act.put, List.setIfInBounds_toArray, List.set_cons_zero, List.set_cons_succ]
      refine flowL_det (fun wz hz hd => stepF_reads (by rfl) ?_) ?_
      · go_simp; try rfl
      simp only [Act.put, List.setIfInBounds_toArray, List.set_cons_zero, List.set_cons_succ]
      refine flowL_det (fun wz hz hd => stepF_reads (by rfl) ?_) ?_
      · go_simp; try rfl
      simp only [Act.put, List.setIfInBounds_toArray, List.set_cons_zero, List.set_cons_succ]
      refine flowL_det (fun wz hz hd => stepF_reads (by rfl) ?_) ?_
      · go_simp; try rfl
      simp only [Act.put, List.setIfInBounds_toArray, List.set_cons_zero, List.set_cons_succ]
      intro w4 ps hb5 hF hap
      clear hF hap
      go_wp2_with fail
      go_ret
      exact ⟨rfl, hbw.trans ((y3.trans (hb5.mono y3.size)).mono hbw.size)⟩
end Jn
end Go.Proofs.Ytcdoalfpaldbmaa
