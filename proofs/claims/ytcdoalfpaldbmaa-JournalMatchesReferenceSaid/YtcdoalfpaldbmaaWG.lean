/- The law of records. -/
import Derived.Test.YtcdoalfpaldbmaaWF
namespace Go.Proofs.Ytcdoalfpaldbmaa
open Go.RowKit Sl Fr Dg
namespace Jn
set_option linter.unusedVariables false
attribute [local go_sem] field_b0 field_b1 field_r0

theorem small_iff {rs : List (List Int)} (h : smallB rs = true) : rs.length ≤ 12 ∧ ∀ r ∈ rs, r.length ≤ 12 := by
  unfold smallB at h
  rw [Bool.and_eq_true, List.all_eq_true] at h
  exact ⟨of_decide_eq_true h.2, fun r hr => of_decide_eq_true (h.1 r hr)⟩
theorem jour_len_le (rs : List (List Int)) (h : ∀ r ∈ rs, r.length ≤ 12) : ∀ key, (jour key rs).length ≤ 120 * rs.length := by
  induction rs with
  | nil => intro key; simp [jour]
  | cons r l ih =>
    intro key
    have h1 := h r (by simp)
    have h2 := ih (fun x hx => h x (by simp [hx])) (tagI key r)
    rw [jour, List.length_append, enc_length, List.length_cons]
    omega
theorem small_len {rs : List (List Int)} (h : smallB rs = true) : (jour 0 rs).length ≤ 1440 := by
  obtain ⟨h1, h2⟩ := small_iff h
  have := jour_len_le rs h2 0
  omega
theorem small_ok {rs : List (List Int)} (h : smallB rs = true) (hi : ∀ r ∈ rs, ∀ x ∈ r, I64 x) : ∀ r ∈ rs, OkR r := fun r hr => ⟨by have := (small_iff h).2 r hr; omega, hi r hr⟩
/-- The length as the law adds it up. -/
theorem ends_add (rs : List (List Int)) (k : Nat) (r : List Int) (hr : rs[k]? = some r) : ((jour 0 (rs.take (k + 1))).length : Int) = ((jour 0 (rs.take k)).length : Int) + (24 + 8 * (r.length : Int)) := by
  rw [take_snoc hr, jour_snoc, List.length_append, enc_length]
  omega
theorem endsTo_get (rs : List (List Int)) (n k : Nat) (h : k < n) : (endsTo rs n)[k]? = some ((jour 0 (rs.take (k + 1))).length : Int) := by
  unfold endsTo
  rw [List.getElem?_map, List.getElem?_range h]; rfl

set_option maxRecDepth 100000 in
set_option maxHeartbeats 12800000 in
theorem records_law (A : Option Addr) (rs : List (List Int)) (c : Nat) (m : Int) (w : World) (hA : LL w A rs) (hi : ∀ r ∈ rs, ∀ x ∈ r, I64 x) (hlen : rs.length ≤ 9223372036854775807) (hm : 0 ≤ m ∧ m < 65536) :
    Calls Try.prog 4 #[.slice A rs.length c, .int .u16 m] w fun e w' => e = .returned (.bool true) ∧ Below w.heap.size w w' := by
  go_enter Try.func4, Try.ntmps4
  go_upto_region 4 with (go_at_call 9; refine (examples_any _).mono ?_; rintro e X ⟨rfl, hbX⟩)
  have hsm := small_any A rs c X (hA.keep hbX) hlen
  by_cases hs : smallB rs = true
  case neg =>
    have hs' : smallB rs = false := by simpa using hs
    rw [hs'] at hsm
    go_wp2_with (go_at_call 10; refine hsm.mono ?_; rintro e w2 ⟨rfl, rfl⟩)
    go_ret
    exact ⟨rfl, hbX⟩
  rw [hs] at hsm
  have hok := small_ok hs hi
  have hjl := small_len hs
  have hrl := (small_iff hs).1
  have hmd := made_any A rs c X (hA.keep hbX) hok (by omega) (by omega)
  go_upto_region 6 with (go_at_call 10; refine hsm.mono ?_; rintro e w2 ⟨rfl, rfl⟩)
  clear hsm hs
  go_upto_region 7 with (go_at_call 22; refine hmd.mono ?_; rintro e Y ⟨Aj, cj, Be, de, rfl, g1, g2, g3, g4, g5, hbY⟩)
  have hAY := (hA.keep hbX).keep hbY
  obtain ⟨b, o, hb⟩ := hAY.open_
  obtain ⟨b2, o2, hb2⟩ := open_i64 g5.arr
  have HA := Lib.hid hb
  have HE := Lib.hid hb2
  have hbw := hbX.trans (hbY.mono hbX.size)
  have HAY := Lib.hid hAY
  have HJ := Lib.hid (ArrF.arr g3)
  have G2 := Lib.hid g2
  have HOK := Lib.hid hok
  have hel : (endsTo rs rs.length).length = rs.length := endsTo_length _ _
  clear hb hb2 g5 g3 hAY hmd hA hbY g2 hok hi
  go_wp2
  go_loop [8, 9] (fun a i => ∃ k : Nat, k ≤ rs.length ∧ i = .int .i64 k ∧ a = .int .i64 ((jour 0 (rs.take k)).length : Int)) (fun _ i => rs.length - (intOf i).toNat)
  case atStart => exact ⟨0, Nat.zero_le _, rfl, rfl⟩
  case round =>
    obtain ⟨k, hk, rfl, rfl⟩ := hrel
    by_cases hlt : k < rs.length
    · obtain ⟨r, hr⟩ := get_ex hlt
      obtain ⟨rfl, hbs, hc⟩ := HA.out (by intro h; subst h; simp at hlt)
      obtain ⟨A2, c2, q1, q2, q3⟩ := hc k r hr
      obtain ⟨rfl, hbs2, hc2⟩ := HE.out (by intro h; rw [h] at hel; simp at hel; rw [← hel] at hlt; simp at hlt)
      have q4 := hc2 k _ (endsTo_get rs rs.length k hlt)
      have hadd := ends_add rs k r hr
      have h12 := (HOK.out r (List.mem_of_getElem? hr)).1
      rw [hadd] at q4
      have HADD := Lib.hid hadd
      have hkl := jour_take_le rs 0 k
      clear hc hc2 hr q3 HA HE hadd
      generalize hjk : (jour 0 (rs.take k)).length = jk at *
      go_wp2
      go_round
      case rel => exact ⟨k + 1, by omega, by go_num, congrArg (Value.int .i64) (by rw [HADD.out]; try rw [hjk]; try go_num)⟩
      case measure => simp [intOf]; omega
    · obtain rfl : k = rs.length := by omega
      have htl : rs.take rs.length = rs := List.take_length
      simp only [htl]
      clear HA HE
      obtain ⟨n, hn, hn6⟩ : ∃ n : Nat, m % 600 = (n : Int) ∧ n < 600 := ⟨(m % 600).toNat, by omega, by omega⟩
      have hrd := readL_any Aj (jour 0 rs) [] rs cj Y HJ.out (jour_B8 _ _) (by omega) g1 (parses_jour 0 HOK.out)
      generalize hL : (jour 0 rs).length = L at *
      have HN : Aj = none → jour 0 rs = [] ∧ cj = 0 := G2.out
      have hwh := fun (W : World) (hW : Below Y.heap.size Y W) => whole_any Aj (jour 0 rs) [] rs cj W (Arr.keep HJ.out hW) HN (jour_B8 _ _) (by omega) (by omega) (parses_jour 0 HOK.out)
      have hpt := fun (W : World) (hW : Below Y.heap.size Y W) (N : Nat) (hz : Arr W (some ⟨N, 0, none⟩) (i64s (List.replicate n 0))) => putL_any Aj (some ⟨N, 0, none⟩) (jour 0 rs) [] (List.replicate n 0) rs cj n W (Arr.keep HJ.out hW) HN (jour_B8 _ _) (by omega) (by omega) (parses_jour 0 HOK.out) hz (fun x hx => by rw [List.eq_of_mem_replicate hx]; unfold I64; omega) (by rw [List.length_replicate]; omega)
      have hput : (putF (jour 0 rs) [] rs (List.replicate n 0)).1.length = (if n ≤ 256 then L + 24 + 8 * n else 0) ∧ (putF (jour 0 rs) [] rs (List.replicate n 0)).2 = (if n ≤ 256 then 0 else 1) := by
        unfold putF
        rw [List.length_replicate]
        by_cases h : n ≤ 256
        · rw [if_neg (by omega), if_neg (by simp), if_neg (by omega), if_pos h, if_pos h, List.length_append, enc_length, List.length_replicate]
          exact ⟨by omega, rfl⟩
        · rw [if_pos (by omega), if_neg h, if_neg h]
          exact ⟨rfl, rfl⟩
      generalize putF (jour 0 rs) [] rs (List.replicate n 0) = p at *
      obtain ⟨p1, p2⟩ := p
      simp only at hput
      obtain ⟨e1, e2⟩ := hput
      have E1 := Lib.hid e1
      have E2 := Lib.hid e2
      clear e1 e2
      have HW := Lib.hid hwh
      have HP := Lib.hid hpt
      have HC0 := Lib.hid hL
      clear hwh hpt HN G2 hL
      go_upto_region 15 with (go_at_call 12; refine hrd.mono ?_; rintro e Z ⟨A1, c1, B1, d1, rfl, q1, q2, q3, q4, q5, hbZ⟩)
      have hZx := BoxL.new Z #[.slice A1 rs.length c1, .slice B1 0 d1, .int .i64 0, .int .i64 0, .int .u64 0] 34
      have hkZ := (Below.refl _ Z).alloc (Nat.le_refl _) (.cells #[.slice A1 rs.length c1, .slice B1 0 d1, .int .i64 0, .int .i64 0, .int .u64 0] 34)
      have hL4 := q4.ll.keep hkZ
      have hYX := hbZ.trans (hkZ.mono hbZ.size)
      clear q4 q5 q3 hbZ hkZ hrd
      try simp only [errR_nil]
      generalize Z.alloc (.cells #[.slice A1 rs.length c1, .slice B1 0 d1, .int .i64 0, .int .i64 0, .int .u64 0] 34) = T at *
      generalize Z.heap.size = Nr at *
      have hmk := run_make_row' (P := Try.prog) 29 3 (.int .i64 0) 8 Try.underlying29 infoInt rfl .i64 .i64 n (by omega) (by omega)
      have hkT := (Below.refl _ T).alloc (Nat.le_refl _) (.cells (madeCells #[.int .i64 0] n) 3)
      have hp1 := HP.out (T.alloc (.cells (madeCells #[.int .i64 0] n) 3)) (hYX.trans (hkT.mono hYX.size)) T.heap.size (arr_zeros T n _)
      rw [List.length_replicate, HC0.out] at hp1
      go_upto_region 16 with (go_at_call 14; refine hp1.mono ?_; rintro e U ⟨A3, c3, rfl, r1, r2, r3, hbU⟩)
      have hUx := BoxL.new U #[.slice A3 p1.length c3, .int .i64 p2] 37
      have hkU := (Below.refl _ U).alloc (Nat.le_refl _) (.cells #[.slice A3 p1.length c3, .int .i64 p2] 37)
      have hTU := (hkT.trans (hbU.mono hkT.size)).trans (hkU.mono (by have := hkT.size; have := hbU.size; omega))
      have mZ := Lib.hid (hZx.keep hTU)
      have mL := Lib.hid (hL4.keep hTU)
      have hYV := hYX.trans (hTU.mono hYX.size)
      clear hp1 hmk hkT hbU hkU hTU hZx hL4 hYX HP r3 r2
      generalize U.alloc (.cells #[.slice A3 p1.length c3, .int .i64 p2] 37) = V at *
      generalize U.heap.size = Nl at *
      have e1 := E1.out
      have e2 := E2.out
      rw [e1, e2] at hUx
      try simp only [e1, e2]
      have MU := Lib.hid hUx
      have hw1 := hbw.trans (hYV.mono hbw.size)
      have hYL := hYV
      clear hUx e1 e2 E1 E2 r1 q1 q2
      have hm0 := hm.1
      obtain ⟨z0, z1, z2, _⟩ := mZ.out.c5
      by_cases h256 : n ≤ 256
      · rw [if_pos h256, if_pos h256] at MU
        try simp only [if_pos h256]
        obtain ⟨cL0, cL1⟩ := MU.out.c2
        clear MU
        have hr18 : Below Y.heap.size Y V := hYL
        go_upto_region 18 with fail
        clear cL0 cL1
        go_wp2_with fail
        go_at_call 16
        refine (records_same A1 A rs rs c1 c V mL.out (HAY.out.keep hYL) (by omega) (by omega) (fun x hx => by have := (HOK.out x hx).1; omega) (fun x hx => by have := (HOK.out x hx).1; omega)).mono ?_
        rintro e V1 ⟨he, hb1⟩
        rw [decide_eq_true rfl] at he
        subst he
        have y1 := hYL.trans (hb1.mono hYL.size)
        go_wp2_with fail
        have hw2 := HW.out V1 y1
        rw [HC0.out] at hw2
        go_at_call 18
        refine hw2.mono ?_
        rintro e V2 ⟨A7, c7, rfl, _, _, g7, hb2⟩
        have y2 := y1.trans (hb2.mono y1.size)
        rw [HC0.out]
        go_wp2_with fail
        have hsm := same_any A7 Aj (jour 0 rs) (jour 0 rs) c7 cj V2 g7.arr (Arr.keep HJ.out y2) (by have := HC0.out; omega) (by have := HC0.out; omega)
        rw [HC0.out] at hsm
        go_at_call 17
        refine hsm.mono ?_
        rintro e V3 ⟨he, hb3⟩
        rw [decide_eq_true rfl] at he
        subst he
        go_wp2_with fail
        go_ret
        exact ⟨rfl, hbw.trans ((y2.trans (hb3.mono y2.size)).mono hbw.size)⟩
      · rw [if_neg h256, if_neg h256] at MU
        try simp only [if_neg h256]
        obtain ⟨cL0, cL1⟩ := MU.out.c2
        clear MU
        have hr18 : Below Y.heap.size Y V := hYL
        go_upto_region 18 with fail
        clear cL0 cL1
        go_wp2_with fail
        go_at_call 16
        refine (records_same A1 A rs rs c1 c V mL.out (HAY.out.keep hYL) (by omega) (by omega) (fun x hx => by have := (HOK.out x hx).1; omega) (fun x hx => by have := (HOK.out x hx).1; omega)).mono ?_
        rintro e V1 ⟨he, hb1⟩
        rw [decide_eq_true rfl] at he
        subst he
        have y1 := hYL.trans (hb1.mono hYL.size)
        go_wp2_with fail
        have hw2 := HW.out V1 y1
        rw [HC0.out] at hw2
        go_at_call 18
        refine hw2.mono ?_
        rintro e V2 ⟨A7, c7, rfl, _, _, g7, hb2⟩
        have y2 := y1.trans (hb2.mono y1.size)
        rw [HC0.out]
        go_wp2_with fail
        have hsm := same_any A7 Aj (jour 0 rs) (jour 0 rs) c7 cj V2 g7.arr (Arr.keep HJ.out y2) (by have := HC0.out; omega) (by have := HC0.out; omega)
        rw [HC0.out] at hsm
        go_at_call 17
        refine hsm.mono ?_
        rintro e V3 ⟨he, hb3⟩
        rw [decide_eq_true rfl] at he
        subst he
        go_wp2_with fail
        go_ret
        exact ⟨rfl, hbw.trans ((y2.trans (hb3.mono y2.size)).mono hbw.size)⟩
end Jn
end Go.Proofs.Ytcdoalfpaldbmaa
