/- The law of losses. -/
import Derived.Test.YtcdoalfpaldbmaaWG
namespace Go.Proofs.Ytcdoalfpaldbmaa
open Go.RowKit Sl Fr Dg
namespace Jn
set_option linter.unusedVariables false
attribute [local go_sem] field_b0 field_b1 field_r0

/-- How many encodings lie within the first bytes: the least k that is the last one, or whose end lies beyond. -/
def Within (rs : List (List Int)) (n k : Nat) : Prop := k ≤ rs.length ∧ (jour 0 (rs.take k)).length ≤ n ∧ ∀ r, rs[k]? = some r → n < (jour 0 (rs.take (k + 1))).length

theorem det_true {p : Prop} [Decidable p] (h : p) : (FSpec.det (.bool true)).G (.bool (decide p)) := congrArg Value.bool (decide_eq_true h)
def wholeS (n : Nat) (R : World → Option Addr → Prop) : FSpec := ⟨fun v => ∃ B c, v = .slice B n c, fun _ v wm => ∀ B c, v = .slice B n c → R wm B⟩
theorem jour_pre (rs : List (List Int)) (k : Nat) : jour 0 (rs.take k) = (jour 0 rs).take (jour 0 (rs.take k)).length := by
  have : jour 0 rs = jour 0 (rs.take k) ++ jour (sealK 0 (rs.take k)) (rs.drop k) := by rw [← jour_append, List.take_append_drop]
  conv => rhs; rw [this]
  rw [List.take_left]
/-- What the law's read gives, the lengths and the error by other names. -/
def GiveRN (w : World) (rs : List (List Int)) (rest : List Int) (k r : Nat) (x : Int) (e : Ending) (w' : World) : Prop :=
  ∃ A c B d, e = .returned (.agg #[.slice A k c, .slice B r d, .int .i64 x, .int .i64 0, .int .u64 0]) ∧ k ≤ c ∧ r ≤ d ∧ LLF w' w.heap.size A rs ∧ ArrF w' w.heap.size B (u8s rest) ∧ Below w.heap.size w w'
theorem readN {w w' : World} {rs : List (List Int)} {rest : List Int} {e : Ending} (h : GiveLR w rs rest e w') {k r : Nat} {x : Int} (hk : rs.length = k) (hr : rest.length = r) (hx : errR rest = x) : GiveRN w rs rest k r x e w' := by
  obtain ⟨A, c, B, d, h1, h2, h3, h4, h5, h6, h7⟩ := h
  subst hk hr hx
  exact ⟨A, c, B, d, h1, h2, h3, h5, h6, h7⟩
def GivePN (w : World) (l : List Int) (n : Nat) (x : Int) (e : Ending) (w' : World) : Prop :=
  ∃ A c, e = .returned (.agg #[.slice A n c, .int .i64 x]) ∧ n ≤ c ∧ (A = none → l = [] ∧ c = 0) ∧ ArrF w' w.heap.size A (u8s l) ∧ Below w.heap.size w w'
theorem putN {w w' : World} {p : List Int × Int} {e : Ending} (h : GiveLP w p e w') {n : Nat} {x : Int} (hn : p.1.length = n) (hx : p.2 = x) : GivePN w p.1 n x e w' := by
  obtain ⟨A, c, h1, h2, h3, h4, h5⟩ := h
  subst hn hx
  exact ⟨A, c, h1, h2, h3, h4, h5⟩
/-- A slice of a slice: its address. -/
def subA (A : Option Addr) (E c : Nat) : Option Addr := if c = E then A else A.map fun x => x.add E
theorem subA_arr {w : World} {A : Option Addr} {l : List Int} {E c : Nat} (h : Byt w A l) (hc : l.length ≤ c) : Byt w (subA A E c) (l.drop E) := fun hne => by
  have hlt : E < l.length := by
    rcases Nat.lt_or_ge E l.length with h | h
    · exact h
    · rw [List.drop_of_length_le h] at hne; exact absurd rfl hne
  obtain ⟨b, o, e, hb, hcell⟩ := h (by intro h'; have := congrArg List.length h'; rw [u8s_length] at this; simp at this; rw [this] at hlt; simp at hlt)
  refine ⟨b, o + E, ?_, hb, fun j u hu => ?_⟩
  · unfold subA
    rw [if_neg (by omega), e, Option.map_some, add_lit0]
  · rw [Nat.add_assoc]
    refine hcell _ _ ?_
    unfold u8s at hu ⊢
    rw [List.getElem?_map, List.getElem?_drop] at hu
    rw [List.getElem?_map]; exact hu
theorem errR_pos {l : List Int} {r : Nat} (h : l.length = r) (hr : r ≠ 0) : errR l = 60 := if_neg fun e => hr (by rw [← h, e]; rfl)
theorem errR_zero {l : List Int} (h : l.length = 0) : errR l = 0 := if_pos (List.eq_nil_of_length_eq_zero h)
theorem putF_err {bs rest : List Int} {rs : List (List Int)} (hb : bs.length ≤ 65000) : (putF bs rest rs []).2 = errR rest := by
  unfold putF errR
  rw [if_neg (by decide)]
  by_cases h : rest = []
  · rw [if_neg (by simpa using h), if_neg (by simp; omega), if_pos h]
  · rw [if_pos h, if_neg h]
set_option maxRecDepth 100000 in
set_option maxHeartbeats 12800000 in
theorem losses_law (A : Option Addr) (rs : List (List Int)) (c : Nat) (m : Int) (w : World) (hA : LL w A rs) (hi : ∀ r ∈ rs, ∀ x ∈ r, I64 x) (hlen : rs.length ≤ 9223372036854775807) (hcap : rs.length ≤ c) (hnil : A = none → rs = [] ∧ c = 0) (hm : 0 ≤ m ∧ m < 65536) :
    Calls Try.prog 5 #[.slice A rs.length c, .int .u16 m] w fun e w' => e = .returned (.bool true) ∧ Below w.heap.size w w' := by
  go_enter Try.func5, Try.ntmps5
  go_upto_region 4 with (go_at_call 9; refine (examples_any _).mono ?_; rintro e X ⟨rfl, hbX⟩)
  have hsm := small_any A rs c X (hA.keep hbX) hlen
  by_cases hs : smallB rs = true
  case neg =>
    have hs' : smallB rs = false := by simpa using hs
    rw [hs'] at hsm
    go_wp2_with (go_at_call 10; refine hsm.mono ?_; rintro e w2 ⟨rfl, rfl⟩)
    go_ret
    exact ⟨rfl, hbX⟩
  rw [hs] at hsm
  have hok := small_ok hs hi
  have hjl := small_len hs
  have hrl := (small_iff hs).1
  have hmd := made_any A rs c X (hA.keep hbX) hok (by omega) (by omega)
  go_upto_region 6 with (go_at_call 10; refine hsm.mono ?_; rintro e w2 ⟨rfl, rfl⟩)
  clear hsm hs
  go_upto_region 7 with (go_at_call 22; refine hmd.mono ?_; rintro e Y ⟨Aj, cj, Be, de, rfl, g1, g2, g3, g4, g5, hbY⟩)
  have hAY := (hA.keep hbX).keep hbY
  obtain ⟨b2, o2, hb2⟩ := open_i64 g5.arr
  have HE := Lib.hid hb2
  have hbw := hbX.trans (hbY.mono hbX.size)
  have HAY := Lib.hid hAY
  have HJ := Lib.hid (ArrF.arr g3)
  have G2 := Lib.hid g2
  have HOK := Lib.hid hok
  have HNIL := Lib.hid hnil
  have hel : (endsTo rs rs.length).length = rs.length := endsTo_length _ _
  clear hb2 g5 g3 hAY hmd hA hbY g2 hok hi hnil hlen
  generalize hL : (jour 0 rs).length = L at *
  obtain ⟨n, hn, hnL⟩ : ∃ n : Nat, m.tmod ((L : Int) + 1) = (n : Int) ∧ n ≤ L := by
    refine ⟨(m % ((L : Int) + 1)).toNat, ?_, ?_⟩
    · rw [Int.tmod_eq_emod_of_nonneg hm.1, Int.toNat_of_nonneg (Int.emod_nonneg _ (by omega))]
    · have := Int.emod_lt_of_pos m (show (0 : Int) < (L : Int) + 1 by omega)
      omega
  have hm0 := hm.1
  go_upto_region 8 with fail
  go_wp2
  go_loop [9, 10] (fun i a => ∃ k : Nat, k ≤ rs.length ∧ i = .int .i64 k ∧ (∃ E : Nat, E = (jour 0 (rs.take k)).length ∧ a = .int .i64 (E : Int) ∧ E ≤ n)) (fun i _ => rs.length - (intOf i).toNat)
  case atStart => exact ⟨0, Nat.zero_le _, rfl, 0, rfl, rfl, Nat.zero_le _⟩
  case round =>
    obtain ⟨k, hk, rfl, E, hE, rfl, hEn⟩ := hrel
    have HEE := Lib.hid hE
    clear hE
    by_cases hlt : k < rs.length ∧ (jour 0 (rs.take (k + 1))).length ≤ n
    · obtain ⟨hlt, hle⟩ := hlt
      obtain ⟨rfl, hbs2, hc2⟩ := HE.out (by intro h; rw [h] at hel; simp at hel; rw [← hel] at hlt; simp at hlt)
      have q4 := hc2 k _ (endsTo_get rs rs.length k hlt)
      have HQ := Lib.hid (rfl : (jour 0 (rs.take (k + 1))).length = (jour 0 (rs.take (k + 1))).length)
      clear hc2 HE
      generalize hq : (jour 0 (rs.take (k + 1))).length = q at *
      have HQQ := Lib.hid hq
      clear hq HQ
      go_wp2
      go_round
      case rel => exact ⟨k + 1, by omega, by go_num, q, HQQ.out.symm, rfl, hle⟩
      case measure => simp [intOf]; omega
    · have hW : Within rs n k := ⟨hk, by rw [← HEE.out]; exact hEn, fun r hr => by
        have h1 := (List.getElem?_eq_some_iff.1 hr).1
        exact Nat.lt_of_not_le fun h => hlt ⟨h1, h⟩⟩
      have hW' := Lib.hid hW
      have hex : k < rs.length → ∃ q : Nat, n < q ∧ Y.cell? ⟨b2, o2 + k, none⟩ = some (.int .i64 (q : Int)) ∧ Be = some ⟨b2, o2, none⟩ := fun h => by
        obtain ⟨e, _, hc2⟩ := HE.out (by intro h'; rw [h'] at hel; simp at hel; rw [← hel] at h; simp at h)
        exact ⟨_, Nat.lt_of_not_le fun h' => hlt ⟨h, h'⟩, hc2 k _ (endsTo_get rs rs.length k h), e⟩
      have HX := Lib.hid hex
      clear hlt hW hex HE
      have hfin : ∀ (u4 u31 u32 u33 u34 u35 u36 u37 u38 u39 u40 u41 u42 u43 u44 u45 u46 u47 u48 : Value), True := fun _ _ _ _ _ _ _ _ _ _ _ _ _ _ _ _ _ _ _ => trivial
      by_cases hlt : k < rs.length
      · obtain ⟨q, hq1, hq2, rfl⟩ := HX.out hlt
        clear HX
        go_upto_region 12 with fail
        have hrE : ∃ r, n = E + r := ⟨n - E, by omega⟩
        obtain ⟨r, hr⟩ := hrE
        by_cases hr0 : r = 0
        · obtain rfl : n = E := by omega
          subst hr0
          clear hr
          have hsn : ((jour 0 rs).take n).length = n := by rw [List.length_take, hL]; omega
          have HSN := Lib.hid hsn
          clear hsn
          have hcut := cut_any Aj (jour 0 rs) cj (n : Int) Y HJ.out G2.out (by omega) (by omega) (by unfold I64; omega)
          rw [Int.toNat_natCast, hL] at hcut
          go_upto_region 13 with (go_at_call 20; refine hcut.mono ?_; rintro e Z ⟨As, cs, rfl, s1, s2, s3, hbZ⟩)
          rw [HSN.out] at s1
          try rw [HSN.out]
          have HS := Lib.hid (ArrF.arr s3)
          have S2 := Lib.hid s2
          have hpar := parses_take HOK.out hW'.out.2.1 hW'.out.2.2
          rw [← HEE.out] at hpar
          have hrs : (((jour 0 rs).take n).drop n).length = 0 := by rw [List.length_drop, HSN.out]; omega
          have hkl : (rs.take k).length = k := by rw [List.length_take]; omega
          have hx : errR (((jour 0 rs).take n).drop n) = 0 := errR_zero hrs
          have hb8 : B8 ((jour 0 rs).take n) := fun x hx => jour_B8 _ _ x (List.mem_of_mem_take hx)
          have hrd := readL_any As ((jour 0 rs).take n) _ (rs.take k) cs Z HS.out hb8 (by rw [HSN.out]; omega) (by rw [HSN.out]; exact s1) hpar
          have hpt := fun (W : World) (hW : Below Z.heap.size Z W) => putL_any As none ((jour 0 rs).take n) _ [] (rs.take k) cs 0 W (Arr.keep HS.out hW) S2.out hb8 (by rw [HSN.out]; omega) (by rw [HSN.out]; exact s1) hpar (fun h => absurd rfl h) (fun x hx => by cases hx) (by decide)
          have hwh := fun (W : World) (hW : Below Z.heap.size Z W) => whole_any As ((jour 0 rs).take n) _ (rs.take k) cs W (Arr.keep HS.out hW) S2.out hb8 (by rw [HSN.out]; omega) (by rw [HSN.out]; exact s1) hpar
          rw [HSN.out] at hrd hpt hwh
          have hp2 := (putF_err (bs := (jour 0 rs).take n) (rest := ((jour 0 rs).take n).drop n) (rs := rs.take k) (by rw [HSN.out]; omega)).trans hx
          have HP := Lib.hid hpt
          have HWH := Lib.hid hwh
          have hyz := Lib.hid hbZ
          generalize putF ((jour 0 rs).take n) (((jour 0 rs).take n).drop n) (rs.take k) [] = pp at *
          obtain ⟨p1, p2⟩ := pp
          simp only at hp2
          subst hp2
          clear hpt hwh s3 s2 hcut
          go_upto_region 14 with (go_at_call 12; refine hrd.mono ?_; rintro e T hg; obtain ⟨A1, c1, B1, d1, rfl, q1, q2, q4, q5, hbT⟩ := readN hg hkl hrs hx)
          have hTx := BoxL.new T #[.slice A1 k c1, .slice B1 0 d1, .int .i64 0, .int .i64 0, .int .u64 0] 34
          have hkT := (Below.refl _ T).alloc (Nat.le_refl _) (.cells #[.slice A1 k c1, .slice B1 0 d1, .int .i64 0, .int .i64 0, .int .u64 0] 34)
          have MT := Lib.hid hTx
          have L4 := Lib.hid (q4.ll.keep hkT)
          have R5 := Lib.hid ((ArrF.arr q5).keep hkT)
          have hZV := hbT.trans (hkT.mono hbT.size)
          clear hrd hTx q4 q5 hbT hkT hx
          generalize T.alloc (.cells #[.slice A1 k c1, .slice B1 0 d1, .int .i64 0, .int .i64 0, .int .u64 0] 34) = V at *
          generalize T.heap.size = Nx at *
          have hYV := hbZ.trans (hZV.mono hbZ.size)
          go_wp2_with fail
          have hsm1 := same_any As Aj ((jour 0 rs).take n) ((jour 0 rs).take n) cs cj V (Arr.keep HS.out hZV) (Byt.take (Arr.keep HJ.out hYV) n) (by rw [HSN.out]; omega) (by rw [HSN.out]; omega)
          rw [HSN.out, decide_eq_true rfl] at hsm1
          go_at_call 17
          refine hsm1.mono ?_
          rintro e V1 ⟨rfl, hb1⟩
          have z1 := hZV.trans (hb1.mono hZV.size)
          go_wp2_with fail
          go_at_call 14
          refine (HP.out V1 z1).mono ?_
          rintro e V2 ⟨A7, c7, rfl, _, _, _, hb2⟩
          have z2 := z1.trans (hb2.mono z1.size)
          have z3 : Below V.heap.size V V2 := hb1.trans (hb2.mono hb1.size)
          have y2 := hbZ.trans (z2.mono hbZ.size)
          clear hsm1 HP hb1 hb2 z1
          go_upto_region 16 with fail
          have tx0 : ∀ wz, Below V2.heap.size V2 wz → wz.cell? ⟨Nx, 0, none⟩ = some (.slice A1 k c1) := fun wz hz => ((MT.out.keep z3).keep hz).get (i := 0) rfl
          have tx1 : ∀ wz, Below V2.heap.size V2 wz → wz.cell? ⟨Nx, 1, none⟩ = some (.slice B1 0 d1) := fun wz hz => ((MT.out.keep z3).keep hz).get (i := 1) rfl
          have tx2 : ∀ wz, Below V2.heap.size V2 wz → wz.cell? ⟨Nx, 2, none⟩ = some (.int .i64 0) := fun wz hz => ((MT.out.keep z3).keep hz).get (i := 2) rfl
          have zu : ∀ wz, Below V2.heap.size V2 wz → Below Z.heap.size Z wz := fun wz hz => z2.trans (hz.mono z2.size)
          have yu : ∀ wz, Below V2.heap.size V2 wz → Below Y.heap.size Y wz := fun wz hz => y2.trans (hz.mono y2.size)
          have vu : ∀ wz, Below V2.heap.size V2 wz → Below V.heap.size V wz := fun wz hz => z3.trans (hz.mono z3.size)
          have FR := fun (wz : World) (hz : Below V2.heap.size V2 wz) => records_same A1 A (rs.take k) (rs.take k) c1 c wz (L4.out.keep (vu wz hz)) ((HAY.out.keep (yu wz hz)).take k) (by rw [hkl]; omega) (by rw [hkl]; omega) (fun x hx => by have := (HOK.out x (List.mem_of_mem_take hx)).1; omega) (fun x hx => by have := (HOK.out x (List.mem_of_mem_take hx)).1; omega)
          rw [hkl] at FR
          have FS := fun (wz : World) (hz : Below V2.heap.size V2 wz) => same_any B1 (subA Aj n cj) (((jour 0 rs).take n).drop n) (((jour 0 rs).take n).drop n) d1 (cj - n) wz (Arr.keep R5.out (vu wz hz)) (subA_arr (Byt.take (Arr.keep HJ.out (yu wz hz)) n) (by rw [HSN.out]; omega)) (by rw [hrs]; omega) (by rw [hrs]; omega)
          rw [hrs] at FS
          have hjk : jour 0 (rs.take k) = (jour 0 rs).take n := by rw [HEE.out]; exact jour_pre rs k
          have hjl2 : (jour 0 (rs.take k)).length = n := HEE.out.symm
          have FW := fun (wz : World) (hz : Below V2.heap.size V2 wz) => HWH.out wz (zu wz hz)
          have FT := fun (wz : World) (hz : Below V2.heap.size V2 wz) (Aw : Option Addr) (cw : Nat) (hw : Arr wz Aw (u8s (jour 0 (rs.take k)))) => same_any Aw Aj (jour 0 (rs.take k)) (jour 0 (rs.take k)) cw cj wz hw (hjk ▸ Byt.take (Arr.keep HJ.out (yu wz hz)) n) (by rw [hjl2]; omega) (by rw [hjl2]; omega)
          rw [hjl2] at FT
          have HJL := Lib.hid hjl2
          clear hjl2
          refine wp_region_flow 45 [.det (.pointer (some ⟨Nx, 2, none⟩)), .det (.int .i64 0), .det (.bool true), .det (.int .i64 n), .det (.int .i64 n), .det (.bool true), .det (.bool true), .det (.bool true), .det (.pointer (some ⟨Nx, 2, none⟩)), .det (.int .i64 0), .det (.bool true), .det (.bool true), .det (undef), .det (undef), .det (undef), .det (.bool true), .det (.bool true), .det (.bool true), .det (.pointer (some ⟨Nx, 0, none⟩)), .det (.slice A1 k c1), .det (.slice A rs.length c), .det (.int .i64 k), .det (.slice A k c), .det (.bool true), .det (.bool true), .det (.bool true), .det (.pointer (some ⟨Nx, 1, none⟩)), .det (.slice B1 0 d1), .det (.slice Aj L cj), .det (.int .i64 n), .det (.int .i64 n), .det (.slice ((subA Aj n cj)) 0 ((cj - n))), .det (.bool true), .det (.bool true), .det (.bool true), .det (.slice As n cs), wholeS n (fun wm A => Arr wm A (u8s (jour 0 (rs.take k)))), .det (.slice Aj L cj), .det (.int .i64 n), .det (.slice Aj n cj), .det (.bool true), .det (.bool true), .det (.bool true), .det (.bool true), .det (.bool true)] (by kernel_rfl) (by kernel_rfl) rfl ?_
          simp only [List.take_succ_cons, List.take_zero, List.drop_succ_cons, List.drop_zero]
          refine flowL_det (fun wz hz hd => stepF_reads (by rfl) ?_) ?_
          · go_simp; try rfl
          simp only [Act.put, List.setIfInBounds_toArray, List.set_cons_zero, List.set_cons_succ]
          refine flowL_det (fun wz hz hd => stepF_reads (by rfl) ?_) ?_
          · have q := tx2 wz hz; go_simp; try rfl
          simp only [Act.put, List.setIfInBounds_toArray, List.set_cons_zero, List.set_cons_succ]
          refine flowL_det (fun wz hz hd => stepF_reads (by rfl) ?_) ?_
          · go_simp; try rfl
          simp only [Act.put, List.setIfInBounds_toArray, List.set_cons_zero, List.set_cons_succ]
          refine flowL_det (fun wz hz hd => stepF_reads (by rfl) ?_) ?_
          · go_simp; try rfl
          simp only [Act.put, List.setIfInBounds_toArray, List.set_cons_zero, List.set_cons_succ]
          refine flowL_det (fun wz hz hd => stepF_reads (by rfl) ?_) ?_
          · go_simp; try rfl
          simp only [Act.put, List.setIfInBounds_toArray, List.set_cons_zero, List.set_cons_succ]
          refine flowL_det (fun wz hz hd => stepF_reads (by rfl) ?_) ?_
          · go_simp; try rfl
          simp only [Act.put, List.setIfInBounds_toArray, List.set_cons_zero, List.set_cons_succ]
          refine flowL_det (fun wz hz hd => stepF_reads (by rfl) ?_) ?_
          · go_simp; try rfl
          simp only [Act.put, List.setIfInBounds_toArray, List.set_cons_zero, List.set_cons_succ]
          refine flowL_det (fun wz hz hd => stepF_reads (by rfl) ?_) ?_
          · go_simp; try rfl
          simp only [Act.put, List.setIfInBounds_toArray, List.set_cons_zero, List.set_cons_succ]
          refine flowL_det (fun wz hz hd => stepF_reads (by rfl) ?_) ?_
          · go_simp; try rfl
          simp only [Act.put, List.setIfInBounds_toArray, List.set_cons_zero, List.set_cons_succ]
          refine flowL_det (fun wz hz hd => stepF_reads (by rfl) ?_) ?_
          · have q := tx2 wz hz; go_simp; try rfl
          simp only [Act.put, List.setIfInBounds_toArray, List.set_cons_zero, List.set_cons_succ]
          refine flowL_det (fun wz hz hd => stepF_reads (by rfl) ?_) ?_
          · go_simp; try rfl
          simp only [Act.put, List.setIfInBounds_toArray, List.set_cons_zero, List.set_cons_succ]
          refine flowL_det (fun wz hz hd => stepF_reads (by rfl) ?_) ?_
          · go_simp; try rfl
          simp only [Act.put, List.setIfInBounds_toArray, List.set_cons_zero, List.set_cons_succ]
          refine flowL_det (fun wz hz hd => stepF_idle (by rfl)) ?_
          simp only [Act.put, List.setIfInBounds_toArray, List.set_cons_zero, List.set_cons_succ]
          refine flowL_det (fun wz hz hd => stepF_idle (by rfl)) ?_
          simp only [Act.put, List.setIfInBounds_toArray, List.set_cons_zero, List.set_cons_succ]
          refine flowL_det (fun wz hz hd => stepF_idle (by rfl)) ?_
          simp only [Act.put, List.setIfInBounds_toArray, List.set_cons_zero, List.set_cons_succ]
          refine flowL_det (fun wz hz hd => stepF_reads (by rfl) ?_) ?_
          · go_simp; try rfl
          simp only [Act.put, List.setIfInBounds_toArray, List.set_cons_zero, List.set_cons_succ]
          refine flowL_det (fun wz hz hd => stepF_reads (by rfl) ?_) ?_
          · go_simp; try rfl
          simp only [Act.put, List.setIfInBounds_toArray, List.set_cons_zero, List.set_cons_succ]
          refine flowL_det (fun wz hz hd => stepF_reads (by rfl) ?_) ?_
          · go_simp; try rfl
          simp only [Act.put, List.setIfInBounds_toArray, List.set_cons_zero, List.set_cons_succ]
          refine flowL_det (fun wz hz hd => stepF_reads (by rfl) ?_) ?_
          · go_simp; try rfl
          simp only [Act.put, List.setIfInBounds_toArray, List.set_cons_zero, List.set_cons_succ]
          refine flowL_det (fun wz hz hd => stepF_reads (by rfl) ?_) ?_
          · have q := tx0 wz hz; go_simp; try rfl
          simp only [Act.put, List.setIfInBounds_toArray, List.set_cons_zero, List.set_cons_succ]
          refine flowL_det (fun wz hz hd => stepF_reads (by rfl) ?_) ?_
          · go_simp; try rfl
          simp only [Act.put, List.setIfInBounds_toArray, List.set_cons_zero, List.set_cons_succ]
          refine flowL_det (fun wz hz hd => stepF_reads (by rfl) ?_) ?_
          · go_simp; try rfl
          simp only [Act.put, List.setIfInBounds_toArray, List.set_cons_zero, List.set_cons_succ]
          refine flowL_det (fun wz hz hd => stepF_reads (by rfl) ?_) ?_
          · go_simp; try (intro h; exact absurd h (by omega))
          simp only [Act.put, List.setIfInBounds_toArray, List.set_cons_zero, List.set_cons_succ]
          refine flowL_det (fun wz hz hd => stepF_walk (by rfl) (fun K hK => ?_)) ?_
          · go_wp2_with fail
            go_at_call 16
            refine (FR wz hz).mono ?_
            rintro e w9 ⟨rfl, hb⟩
            first | exact hK.out _ _ (det_true rfl) trivial hb | exact hK.out _ _ (det_true trivial) trivial hb
          simp only [Act.put, List.setIfInBounds_toArray, List.set_cons_zero, List.set_cons_succ]
          refine flowL_det (fun wz hz hd => stepF_reads (by rfl) ?_) ?_
          · go_simp; try rfl
          simp only [Act.put, List.setIfInBounds_toArray, List.set_cons_zero, List.set_cons_succ]
          refine flowL_det (fun wz hz hd => stepF_reads (by rfl) ?_) ?_
          · go_simp; try rfl
          simp only [Act.put, List.setIfInBounds_toArray, List.set_cons_zero, List.set_cons_succ]
          refine flowL_det (fun wz hz hd => stepF_reads (by rfl) ?_) ?_
          · go_simp; try rfl
          simp only [Act.put, List.setIfInBounds_toArray, List.set_cons_zero, List.set_cons_succ]
          refine flowL_det (fun wz hz hd => stepF_reads (by rfl) ?_) ?_
          · have q := tx1 wz hz; go_simp; try rfl
          simp only [Act.put, List.setIfInBounds_toArray, List.set_cons_zero, List.set_cons_succ]
          refine flowL_det (fun wz hz hd => stepF_reads (by rfl) ?_) ?_
          · go_simp; try rfl
          simp only [Act.put, List.setIfInBounds_toArray, List.set_cons_zero, List.set_cons_succ]
          refine flowL_det (fun wz hz hd => stepF_reads (by rfl) ?_) ?_
          · go_simp; try rfl
          simp only [Act.put, List.setIfInBounds_toArray, List.set_cons_zero, List.set_cons_succ]
          refine flowL_det (fun wz hz hd => stepF_reads (by rfl) ?_) ?_
          · go_simp; try rfl
          simp only [Act.put, List.setIfInBounds_toArray, List.set_cons_zero, List.set_cons_succ]
          refine flowL_det (fun wz hz hd => stepF_reads (by rfl) ?_) ?_
          · go_simp; rw [if_pos (by omega)]; rfl
          simp only [Act.put, List.setIfInBounds_toArray, List.set_cons_zero, List.set_cons_succ]
          refine flowL_det (fun wz hz hd => stepF_walk (by rfl) (fun K hK => ?_)) ?_
          · go_wp2_with fail
            go_at_call 17
            refine (FS wz hz).mono ?_
            rintro e w9 ⟨rfl, hb⟩
            first | exact hK.out _ _ (det_true rfl) trivial hb | exact hK.out _ _ (det_true trivial) trivial hb
          simp only [Act.put, List.setIfInBounds_toArray, List.set_cons_zero, List.set_cons_succ]
          refine flowL_det (fun wz hz hd => stepF_reads (by rfl) ?_) ?_
          · go_simp; try rfl
          simp only [Act.put, List.setIfInBounds_toArray, List.set_cons_zero, List.set_cons_succ]
          refine flowL_det (fun wz hz hd => stepF_reads (by rfl) ?_) ?_
          · go_simp; try rfl
          simp only [Act.put, List.setIfInBounds_toArray, List.set_cons_zero, List.set_cons_succ]
          refine flowL_det (fun wz hz hd => stepF_reads (by rfl) ?_) ?_
          · go_simp; try rfl
          simp only [Act.put, List.setIfInBounds_toArray, List.set_cons_zero, List.set_cons_succ]
          refine flowL_make (⟨_, none, 0, rfl⟩) (fun wz hz hd => stepF_walk (by rfl) (fun K hK => ?_)) (fun v hv => ?_)
          · go_wp2_with fail
            go_at_call 18
            refine (FW wz hz).mono ?_
            rintro e w9 ⟨A9, c9, rfl, _, _, g9, hb⟩
            exact hK.out _ _ ⟨A9, c9, by rw [HJL.out]⟩ (fun B c e => by cases e; exact g9.arr) hb
          obtain ⟨Aw, cw, rfl⟩ := hv
          simp only [Act.put, List.setIfInBounds_toArray, List.set_cons_zero, List.set_cons_succ]
          refine flowL_det (fun wz hz hd => stepF_reads (by rfl) ?_) ?_
          · go_simp; try rfl
          simp only [Act.put, List.setIfInBounds_toArray, List.set_cons_zero, List.set_cons_succ]
          refine flowL_det (fun wz hz hd => stepF_reads (by rfl) ?_) ?_
          · go_simp; try rfl
          simp only [Act.put, List.setIfInBounds_toArray, List.set_cons_zero, List.set_cons_succ]
          refine flowL_det (fun wz hz hd => stepF_reads (by rfl) ?_) ?_
          · go_simp; try (intro h; exact absurd h (by omega))
          simp only [Act.put, List.setIfInBounds_toArray, List.set_cons_zero, List.set_cons_succ]
          refine flowL_det (fun wz hz hd => stepF_walk (by rfl) (fun K hK => ?_)) ?_
          · obtain ⟨p, hp⟩ := dep_of hd 36 (by decide +kernel)
            go_wp2_with fail
            go_at_call 17
            refine (FT wz hz Aw cw ((hp.post Aw cw rfl).keep hp.since)).mono ?_
            rintro e w9 ⟨rfl, hb⟩
            first | exact hK.out _ _ (det_true rfl) trivial hb | exact hK.out _ _ (det_true trivial) trivial hb
          simp only [Act.put, List.setIfInBounds_toArray, List.set_cons_zero, List.set_cons_succ]
          refine flowL_det (fun wz hz hd => stepF_reads (by rfl) ?_) ?_
          · go_simp; try rfl
          simp only [Act.put, List.setIfInBounds_toArray, List.set_cons_zero, List.set_cons_succ]
          refine flowL_det (fun wz hz hd => stepF_reads (by rfl) ?_) ?_
          · go_simp; try rfl
          simp only [Act.put, List.setIfInBounds_toArray, List.set_cons_zero, List.set_cons_succ]
          refine flowL_det (fun wz hz hd => stepF_reads (by rfl) ?_) ?_
          · go_simp; try rfl
          simp only [Act.put, List.setIfInBounds_toArray, List.set_cons_zero, List.set_cons_succ]
          refine flowL_det (fun wz hz hd => stepF_reads (by rfl) ?_) ?_
          · go_simp; try rfl
          simp only [Act.put, List.setIfInBounds_toArray, List.set_cons_zero, List.set_cons_succ]
          intro w3 ps hb3 hF hap
          clear hF hap
          go_wp2_with fail
          go_ret
          exact ⟨rfl, hbw.trans ((y2.trans (hb3.mono y2.size)).mono hbw.size)⟩
        · have hne : ((n : Int) == (E : Int)) = false := beq_eq_false_iff_ne.2 (by omega)
          have HR := Lib.hid hr
          clear hr
          have hsn : ((jour 0 rs).take n).length = n := by rw [List.length_take, hL]; omega
          have HSN := Lib.hid hsn
          clear hsn
          have hcut := cut_any Aj (jour 0 rs) cj (n : Int) Y HJ.out G2.out (by omega) (by omega) (by unfold I64; omega)
          rw [Int.toNat_natCast, hL] at hcut
          go_upto_region 13 with (go_at_call 20; refine hcut.mono ?_; rintro e Z ⟨As, cs, rfl, s1, s2, s3, hbZ⟩)
          rw [HSN.out] at s1
          try rw [HSN.out]
          have HS := Lib.hid (ArrF.arr s3)
          have S2 := Lib.hid s2
          have hpar := parses_take HOK.out hW'.out.2.1 hW'.out.2.2
          rw [← HEE.out] at hpar
          have hrs : (((jour 0 rs).take n).drop E).length = r := by rw [List.length_drop, HSN.out]; have := HR.out; omega
          have hkl : (rs.take k).length = k := by rw [List.length_take]; omega
          have hx : errR (((jour 0 rs).take n).drop E) = 60 := errR_pos hrs hr0
          have hb8 : B8 ((jour 0 rs).take n) := fun x hx => jour_B8 _ _ x (List.mem_of_mem_take hx)
          have hrd := readL_any As ((jour 0 rs).take n) _ (rs.take k) cs Z HS.out hb8 (by rw [HSN.out]; omega) (by rw [HSN.out]; exact s1) hpar
          have hpt := fun (W : World) (hW : Below Z.heap.size Z W) => putL_any As none ((jour 0 rs).take n) _ [] (rs.take k) cs 0 W (Arr.keep HS.out hW) S2.out hb8 (by rw [HSN.out]; omega) (by rw [HSN.out]; exact s1) hpar (fun h => absurd rfl h) (fun x hx => by cases hx) (by decide)
          have hwh := fun (W : World) (hW : Below Z.heap.size Z W) => whole_any As ((jour 0 rs).take n) _ (rs.take k) cs W (Arr.keep HS.out hW) S2.out hb8 (by rw [HSN.out]; omega) (by rw [HSN.out]; exact s1) hpar
          rw [HSN.out] at hrd hpt hwh
          have hp2 := (putF_err (bs := (jour 0 rs).take n) (rest := ((jour 0 rs).take n).drop E) (rs := rs.take k) (by rw [HSN.out]; omega)).trans hx
          have HP := Lib.hid hpt
          have HWH := Lib.hid hwh
          have hyz := Lib.hid hbZ
          generalize putF ((jour 0 rs).take n) (((jour 0 rs).take n).drop E) (rs.take k) [] = pp at *
          obtain ⟨p1, p2⟩ := pp
          simp only at hp2
          subst hp2
          clear hpt hwh s3 s2 hcut
          go_upto_region 14 with (go_at_call 12; refine hrd.mono ?_; rintro e T hg; obtain ⟨A1, c1, B1, d1, rfl, q1, q2, q4, q5, hbT⟩ := readN hg hkl hrs hx)
          have hTx := BoxL.new T #[.slice A1 k c1, .slice B1 r d1, .int .i64 60, .int .i64 0, .int .u64 0] 34
          have hkT := (Below.refl _ T).alloc (Nat.le_refl _) (.cells #[.slice A1 k c1, .slice B1 r d1, .int .i64 60, .int .i64 0, .int .u64 0] 34)
          have MT := Lib.hid hTx
          have L4 := Lib.hid (q4.ll.keep hkT)
          have R5 := Lib.hid ((ArrF.arr q5).keep hkT)
          have hZV := hbT.trans (hkT.mono hbT.size)
          clear hrd hTx q4 q5 hbT hkT hx
          generalize T.alloc (.cells #[.slice A1 k c1, .slice B1 r d1, .int .i64 60, .int .i64 0, .int .u64 0] 34) = V at *
          generalize T.heap.size = Nx at *
          have hYV := hbZ.trans (hZV.mono hbZ.size)
          go_wp2_with fail
          have hsm1 := same_any As Aj ((jour 0 rs).take n) ((jour 0 rs).take n) cs cj V (Arr.keep HS.out hZV) (Byt.take (Arr.keep HJ.out hYV) n) (by rw [HSN.out]; omega) (by rw [HSN.out]; omega)
          rw [HSN.out, decide_eq_true rfl] at hsm1
          go_at_call 17
          refine hsm1.mono ?_
          rintro e V1 ⟨rfl, hb1⟩
          have z1 := hZV.trans (hb1.mono hZV.size)
          go_wp2_with fail
          go_at_call 14
          refine (HP.out V1 z1).mono ?_
          rintro e V2 ⟨A7, c7, rfl, _, _, _, hb2⟩
          have z2 := z1.trans (hb2.mono z1.size)
          have z3 : Below V.heap.size V V2 := hb1.trans (hb2.mono hb1.size)
          have y2 := hbZ.trans (z2.mono hbZ.size)
          clear hsm1 HP hb1 hb2 z1
          go_upto_region 16 with fail
          have tx0 : ∀ wz, Below V2.heap.size V2 wz → wz.cell? ⟨Nx, 0, none⟩ = some (.slice A1 k c1) := fun wz hz => ((MT.out.keep z3).keep hz).get (i := 0) rfl
          have tx1 : ∀ wz, Below V2.heap.size V2 wz → wz.cell? ⟨Nx, 1, none⟩ = some (.slice B1 r d1) := fun wz hz => ((MT.out.keep z3).keep hz).get (i := 1) rfl
          have tx2 : ∀ wz, Below V2.heap.size V2 wz → wz.cell? ⟨Nx, 2, none⟩ = some (.int .i64 60) := fun wz hz => ((MT.out.keep z3).keep hz).get (i := 2) rfl
          have zu : ∀ wz, Below V2.heap.size V2 wz → Below Z.heap.size Z wz := fun wz hz => z2.trans (hz.mono z2.size)
          have yu : ∀ wz, Below V2.heap.size V2 wz → Below Y.heap.size Y wz := fun wz hz => y2.trans (hz.mono y2.size)
          have vu : ∀ wz, Below V2.heap.size V2 wz → Below V.heap.size V wz := fun wz hz => z3.trans (hz.mono z3.size)
          have FR := fun (wz : World) (hz : Below V2.heap.size V2 wz) => records_same A1 A (rs.take k) (rs.take k) c1 c wz (L4.out.keep (vu wz hz)) ((HAY.out.keep (yu wz hz)).take k) (by rw [hkl]; omega) (by rw [hkl]; omega) (fun x hx => by have := (HOK.out x (List.mem_of_mem_take hx)).1; omega) (fun x hx => by have := (HOK.out x (List.mem_of_mem_take hx)).1; omega)
          rw [hkl] at FR
          have FS := fun (wz : World) (hz : Below V2.heap.size V2 wz) => same_any B1 (subA Aj E cj) (((jour 0 rs).take n).drop E) (((jour 0 rs).take n).drop E) d1 (cj - E) wz (Arr.keep R5.out (vu wz hz)) (subA_arr (Byt.take (Arr.keep HJ.out (yu wz hz)) n) (by rw [HSN.out]; omega)) (by rw [hrs]; have := HR.out; omega) (by rw [hrs]; have := HR.out; omega)
          rw [hrs] at FS
          have hjk : jour 0 (rs.take k) = (jour 0 rs).take E := by rw [HEE.out]; exact jour_pre rs k
          have hjl2 : (jour 0 (rs.take k)).length = E := HEE.out.symm
          have FW := fun (wz : World) (hz : Below V2.heap.size V2 wz) => HWH.out wz (zu wz hz)
          have FT := fun (wz : World) (hz : Below V2.heap.size V2 wz) (Aw : Option Addr) (cw : Nat) (hw : Arr wz Aw (u8s (jour 0 (rs.take k)))) => same_any Aw Aj (jour 0 (rs.take k)) (jour 0 (rs.take k)) cw cj wz hw (hjk ▸ Byt.take (Arr.keep HJ.out (yu wz hz)) E) (by rw [hjl2]; omega) (by rw [hjl2]; omega)
          rw [hjl2] at FT
          have HJL := Lib.hid hjl2
          clear hjl2
          refine wp_region_flow 45 [.det (.pointer (some ⟨Nx, 2, none⟩)), .det (.int .i64 60), .det (.bool false), .det (.int .i64 n), .det (.int .i64 E), .det (.bool false), .det (.bool true), .det (.bool true), .det (.pointer (some ⟨Nx, 2, none⟩)), .det (.int .i64 60), .det (.bool false), .det (.bool false), .det (.pointer (some ⟨Nx, 2, none⟩)), .det (.int .i64 60), .det (.bool true), .det (.bool true), .det (.bool true), .det (.bool true), .det (.pointer (some ⟨Nx, 0, none⟩)), .det (.slice A1 k c1), .det (.slice A rs.length c), .det (.int .i64 k), .det (.slice A k c), .det (.bool true), .det (.bool true), .det (.bool true), .det (.pointer (some ⟨Nx, 1, none⟩)), .det (.slice B1 r d1), .det (.slice Aj L cj), .det (.int .i64 E), .det (.int .i64 n), .det (.slice ((subA Aj E cj)) r ((cj - E))), .det (.bool true), .det (.bool true), .det (.bool true), .det (.slice As n cs), wholeS E (fun wm A => Arr wm A (u8s (jour 0 (rs.take k)))), .det (.slice Aj L cj), .det (.int .i64 E), .det (.slice Aj E cj), .det (.bool true), .det (.bool true), .det (.bool true), .det (.bool true), .det (.bool true)] (by kernel_rfl) (by kernel_rfl) rfl ?_
          simp only [List.take_succ_cons, List.take_zero, List.drop_succ_cons, List.drop_zero]
          refine flowL_det (fun wz hz hd => stepF_reads (by rfl) ?_) ?_
          · go_simp; try rfl
          simp only [Act.put, List.setIfInBounds_toArray, List.set_cons_zero, List.set_cons_succ]
          refine flowL_det (fun wz hz hd => stepF_reads (by rfl) ?_) ?_
          · have q := tx2 wz hz; go_simp; try rfl
          simp only [Act.put, List.setIfInBounds_toArray, List.set_cons_zero, List.set_cons_succ]
          refine flowL_det (fun wz hz hd => stepF_reads (by rfl) ?_) ?_
          · go_simp; try rfl
          simp only [Act.put, List.setIfInBounds_toArray, List.set_cons_zero, List.set_cons_succ]
          refine flowL_det (fun wz hz hd => stepF_reads (by rfl) ?_) ?_
          · go_simp; try rfl
          simp only [Act.put, List.setIfInBounds_toArray, List.set_cons_zero, List.set_cons_succ]
          refine flowL_det (fun wz hz hd => stepF_reads (by rfl) ?_) ?_
          · go_simp; try rfl
          simp only [Act.put, List.setIfInBounds_toArray, List.set_cons_zero, List.set_cons_succ]
          refine flowL_det (fun wz hz hd => stepF_reads (by rfl) ?_) ?_
          · go_simp; try rfl
          simp only [Act.put, List.setIfInBounds_toArray, List.set_cons_zero, List.set_cons_succ]
          refine flowL_det (fun wz hz hd => stepF_reads (by rfl) ?_) ?_
          · go_simp; try rfl
          simp only [Act.put, List.setIfInBounds_toArray, List.set_cons_zero, List.set_cons_succ]
          refine flowL_det (fun wz hz hd => stepF_reads (by rfl) ?_) ?_
          · go_simp; try rfl
          simp only [Act.put, List.setIfInBounds_toArray, List.set_cons_zero, List.set_cons_succ]
          refine flowL_det (fun wz hz hd => stepF_reads (by rfl) ?_) ?_
          · go_simp; try rfl
          simp only [Act.put, List.setIfInBounds_toArray, List.set_cons_zero, List.set_cons_succ]
          refine flowL_det (fun wz hz hd => stepF_reads (by rfl) ?_) ?_
          · have q := tx2 wz hz; go_simp; try rfl
          simp only [Act.put, List.setIfInBounds_toArray, List.set_cons_zero, List.set_cons_succ]
          refine flowL_det (fun wz hz hd => stepF_reads (by rfl) ?_) ?_
          · go_simp; try rfl
          simp only [Act.put, List.setIfInBounds_toArray, List.set_cons_zero, List.set_cons_succ]
          refine flowL_det (fun wz hz hd => stepF_reads (by rfl) ?_) ?_
          · go_simp; try rfl
          simp only [Act.put, List.setIfInBounds_toArray, List.set_cons_zero, List.set_cons_succ]
          refine flowL_det (fun wz hz hd => stepF_reads (by rfl) ?_) ?_
          · go_simp; try rfl
          simp only [Act.put, List.setIfInBounds_toArray, List.set_cons_zero, List.set_cons_succ]
          refine flowL_det (fun wz hz hd => stepF_reads (by rfl) ?_) ?_
          · have q := tx2 wz hz; go_simp; try rfl
          simp only [Act.put, List.setIfInBounds_toArray, List.set_cons_zero, List.set_cons_succ]
          refine flowL_det (fun wz hz hd => stepF_reads (by rfl) ?_) ?_
          · go_simp; try rfl
          simp only [Act.put, List.setIfInBounds_toArray, List.set_cons_zero, List.set_cons_succ]
          refine flowL_det (fun wz hz hd => stepF_reads (by rfl) ?_) ?_
          · go_simp; try rfl
          simp only [Act.put, List.setIfInBounds_toArray, List.set_cons_zero, List.set_cons_succ]
          refine flowL_det (fun wz hz hd => stepF_reads (by rfl) ?_) ?_
          · go_simp; try rfl
          simp only [Act.put, List.setIfInBounds_toArray, List.set_cons_zero, List.set_cons_succ]
          refine flowL_det (fun wz hz hd => stepF_reads (by rfl) ?_) ?_
          · go_simp; try rfl
          simp only [Act.put, List.setIfInBounds_toArray, List.set_cons_zero, List.set_cons_succ]
          refine flowL_det (fun wz hz hd => stepF_reads (by rfl) ?_) ?_
          · go_simp; try rfl
          simp only [Act.put, List.setIfInBounds_toArray, List.set_cons_zero, List.set_cons_succ]
          refine flowL_det (fun wz hz hd => stepF_reads (by rfl) ?_) ?_
          · have q := tx0 wz hz; go_simp; try rfl
          simp only [Act.put, List.setIfInBounds_toArray, List.set_cons_zero, List.set_cons_succ]
          refine flowL_det (fun wz hz hd => stepF_reads (by rfl) ?_) ?_
          · go_simp; try rfl
          simp only [Act.put, List.setIfInBounds_toArray, List.set_cons_zero, List.set_cons_succ]
          refine flowL_det (fun wz hz hd => stepF_reads (by rfl) ?_) ?_
          · go_simp; try rfl
          simp only [Act.put, List.setIfInBounds_toArray, List.set_cons_zero, List.set_cons_succ]
          refine flowL_det (fun wz hz hd => stepF_reads (by rfl) ?_) ?_
          · go_simp; try (intro h; exact absurd h (by omega))
          simp only [Act.put, List.setIfInBounds_toArray, List.set_cons_zero, List.set_cons_succ]
          refine flowL_det (fun wz hz hd => stepF_walk (by rfl) (fun K hK => ?_)) ?_
          · go_wp2_with fail
            go_at_call 16
            refine (FR wz hz).mono ?_
            rintro e w9 ⟨rfl, hb⟩
            first | exact hK.out _ _ (det_true rfl) trivial hb | exact hK.out _ _ (det_true trivial) trivial hb
          simp only [Act.put, List.setIfInBounds_toArray, List.set_cons_zero, List.set_cons_succ]
          refine flowL_det (fun wz hz hd => stepF_reads (by rfl) ?_) ?_
          · go_simp; try rfl
          simp only [Act.put, List.setIfInBounds_toArray, List.set_cons_zero, List.set_cons_succ]
          refine flowL_det (fun wz hz hd => stepF_reads (by rfl) ?_) ?_
          · go_simp; try rfl
          simp only [Act.put, List.setIfInBounds_toArray, List.set_cons_zero, List.set_cons_succ]
          refine flowL_det (fun wz hz hd => stepF_reads (by rfl) ?_) ?_
          · go_simp; try rfl
          simp only [Act.put, List.setIfInBounds_toArray, List.set_cons_zero, List.set_cons_succ]
          refine flowL_det (fun wz hz hd => stepF_reads (by rfl) ?_) ?_
          · have q := tx1 wz hz; go_simp; try rfl
          simp only [Act.put, List.setIfInBounds_toArray, List.set_cons_zero, List.set_cons_succ]
          refine flowL_det (fun wz hz hd => stepF_reads (by rfl) ?_) ?_
          · go_simp; try rfl
          simp only [Act.put, List.setIfInBounds_toArray, List.set_cons_zero, List.set_cons_succ]
          refine flowL_det (fun wz hz hd => stepF_reads (by rfl) ?_) ?_
          · go_simp; try rfl
          simp only [Act.put, List.setIfInBounds_toArray, List.set_cons_zero, List.set_cons_succ]
          refine flowL_det (fun wz hz hd => stepF_reads (by rfl) ?_) ?_
          · go_simp; try rfl
          simp only [Act.put, List.setIfInBounds_toArray, List.set_cons_zero, List.set_cons_succ]
          refine flowL_det (fun wz hz hd => stepF_reads (by rfl) ?_) ?_
          · go_simp; rw [if_pos (by omega)]; rw [show n - E = r from by have := HR.out; omega]; rfl
          simp only [Act.put, List.setIfInBounds_toArray, List.set_cons_zero, List.set_cons_succ]
          refine flowL_det (fun wz hz hd => stepF_walk (by rfl) (fun K hK => ?_)) ?_
          · go_wp2_with fail
            go_at_call 17
            refine (FS wz hz).mono ?_
            rintro e w9 ⟨rfl, hb⟩
            first | exact hK.out _ _ (det_true rfl) trivial hb | exact hK.out _ _ (det_true trivial) trivial hb
          simp only [Act.put, List.setIfInBounds_toArray, List.set_cons_zero, List.set_cons_succ]
          refine flowL_det (fun wz hz hd => stepF_reads (by rfl) ?_) ?_
          · go_simp; try rfl
          simp only [Act.put, List.setIfInBounds_toArray, List.set_cons_zero, List.set_cons_succ]
          refine flowL_det (fun wz hz hd => stepF_reads (by rfl) ?_) ?_
          · go_simp; try rfl
          simp only [Act.put, List.setIfInBounds_toArray, List.set_cons_zero, List.set_cons_succ]
          refine flowL_det (fun wz hz hd => stepF_reads (by rfl) ?_) ?_
          · go_simp; try rfl
          simp only [Act.put, List.setIfInBounds_toArray, List.set_cons_zero, List.set_cons_succ]
          refine flowL_make (⟨_, none, 0, rfl⟩) (fun wz hz hd => stepF_walk (by rfl) (fun K hK => ?_)) (fun v hv => ?_)
          · go_wp2_with fail
            go_at_call 18
            refine (FW wz hz).mono ?_
            rintro e w9 ⟨A9, c9, rfl, _, _, g9, hb⟩
            exact hK.out _ _ ⟨A9, c9, by rw [HJL.out]⟩ (fun B c e => by cases e; exact g9.arr) hb
          obtain ⟨Aw, cw, rfl⟩ := hv
          simp only [Act.put, List.setIfInBounds_toArray, List.set_cons_zero, List.set_cons_succ]
          refine flowL_det (fun wz hz hd => stepF_reads (by rfl) ?_) ?_
          · go_simp; try rfl
          simp only [Act.put, List.setIfInBounds_toArray, List.set_cons_zero, List.set_cons_succ]
          refine flowL_det (fun wz hz hd => stepF_reads (by rfl) ?_) ?_
          · go_simp; try rfl
          simp only [Act.put, List.setIfInBounds_toArray, List.set_cons_zero, List.set_cons_succ]
          refine flowL_det (fun wz hz hd => stepF_reads (by rfl) ?_) ?_
          · go_simp; try (intro h; exact absurd h (by omega))
          simp only [Act.put, List.setIfInBounds_toArray, List.set_cons_zero, List.set_cons_succ]
          refine flowL_det (fun wz hz hd => stepF_walk (by rfl) (fun K hK => ?_)) ?_
          · obtain ⟨p, hp⟩ := dep_of hd 36 (by decide +kernel)
            go_wp2_with fail
            go_at_call 17
            refine (FT wz hz Aw cw ((hp.post Aw cw rfl).keep hp.since)).mono ?_
            rintro e w9 ⟨rfl, hb⟩
            first | exact hK.out _ _ (det_true rfl) trivial hb | exact hK.out _ _ (det_true trivial) trivial hb
          simp only [Act.put, List.setIfInBounds_toArray, List.set_cons_zero, List.set_cons_succ]
          refine flowL_det (fun wz hz hd => stepF_reads (by rfl) ?_) ?_
          · go_simp; try rfl
          simp only [Act.put, List.setIfInBounds_toArray, List.set_cons_zero, List.set_cons_succ]
          refine flowL_det (fun wz hz hd => stepF_reads (by rfl) ?_) ?_
          · go_simp; try rfl
          simp only [Act.put, List.setIfInBounds_toArray, List.set_cons_zero, List.set_cons_succ]
          refine flowL_det (fun wz hz hd => stepF_reads (by rfl) ?_) ?_
          · go_simp; try rfl
          simp only [Act.put, List.setIfInBounds_toArray, List.set_cons_zero, List.set_cons_succ]
          refine flowL_det (fun wz hz hd => stepF_reads (by rfl) ?_) ?_
          · go_simp; try rfl
          simp only [Act.put, List.setIfInBounds_toArray, List.set_cons_zero, List.set_cons_succ]
          intro w3 ps hb3 hF hap
          clear hF hap
          go_wp2_with fail
          go_ret
          exact ⟨rfl, hbw.trans ((y2.trans (hb3.mono y2.size)).mono hbw.size)⟩
      · clear HX
        go_upto_region 12 with fail
        have hrE : ∃ r, n = E + r := ⟨n - E, by omega⟩
        obtain ⟨r, hr⟩ := hrE
        by_cases hr0 : r = 0
        · obtain rfl : n = E := by omega
          subst hr0
          clear hr
          have hsn : ((jour 0 rs).take n).length = n := by rw [List.length_take, hL]; omega
          have HSN := Lib.hid hsn
          clear hsn
          have hcut := cut_any Aj (jour 0 rs) cj (n : Int) Y HJ.out G2.out (by omega) (by omega) (by unfold I64; omega)
          rw [Int.toNat_natCast, hL] at hcut
          go_upto_region 13 with (go_at_call 20; refine hcut.mono ?_; rintro e Z ⟨As, cs, rfl, s1, s2, s3, hbZ⟩)
          rw [HSN.out] at s1
          try rw [HSN.out]
          have HS := Lib.hid (ArrF.arr s3)
          have S2 := Lib.hid s2
          have hpar := parses_take HOK.out hW'.out.2.1 hW'.out.2.2
          rw [← HEE.out] at hpar
          have hrs : (((jour 0 rs).take n).drop n).length = 0 := by rw [List.length_drop, HSN.out]; omega
          have hkl : (rs.take k).length = k := by rw [List.length_take]; omega
          have hx : errR (((jour 0 rs).take n).drop n) = 0 := errR_zero hrs
          have hb8 : B8 ((jour 0 rs).take n) := fun x hx => jour_B8 _ _ x (List.mem_of_mem_take hx)
          have hrd := readL_any As ((jour 0 rs).take n) _ (rs.take k) cs Z HS.out hb8 (by rw [HSN.out]; omega) (by rw [HSN.out]; exact s1) hpar
          have hpt := fun (W : World) (hW : Below Z.heap.size Z W) => putL_any As none ((jour 0 rs).take n) _ [] (rs.take k) cs 0 W (Arr.keep HS.out hW) S2.out hb8 (by rw [HSN.out]; omega) (by rw [HSN.out]; exact s1) hpar (fun h => absurd rfl h) (fun x hx => by cases hx) (by decide)
          have hwh := fun (W : World) (hW : Below Z.heap.size Z W) => whole_any As ((jour 0 rs).take n) _ (rs.take k) cs W (Arr.keep HS.out hW) S2.out hb8 (by rw [HSN.out]; omega) (by rw [HSN.out]; exact s1) hpar
          rw [HSN.out] at hrd hpt hwh
          have hp2 := (putF_err (bs := (jour 0 rs).take n) (rest := ((jour 0 rs).take n).drop n) (rs := rs.take k) (by rw [HSN.out]; omega)).trans hx
          have HP := Lib.hid hpt
          have HWH := Lib.hid hwh
          have hyz := Lib.hid hbZ
          generalize putF ((jour 0 rs).take n) (((jour 0 rs).take n).drop n) (rs.take k) [] = pp at *
          obtain ⟨p1, p2⟩ := pp
          simp only at hp2
          subst hp2
          clear hpt hwh s3 s2 hcut
          go_upto_region 14 with (go_at_call 12; refine hrd.mono ?_; rintro e T hg; obtain ⟨A1, c1, B1, d1, rfl, q1, q2, q4, q5, hbT⟩ := readN hg hkl hrs hx)
          have hTx := BoxL.new T #[.slice A1 k c1, .slice B1 0 d1, .int .i64 0, .int .i64 0, .int .u64 0] 34
          have hkT := (Below.refl _ T).alloc (Nat.le_refl _) (.cells #[.slice A1 k c1, .slice B1 0 d1, .int .i64 0, .int .i64 0, .int .u64 0] 34)
          have MT := Lib.hid hTx
          have L4 := Lib.hid (q4.ll.keep hkT)
          have R5 := Lib.hid ((ArrF.arr q5).keep hkT)
          have hZV := hbT.trans (hkT.mono hbT.size)
          clear hrd hTx q4 q5 hbT hkT hx
          generalize T.alloc (.cells #[.slice A1 k c1, .slice B1 0 d1, .int .i64 0, .int .i64 0, .int .u64 0] 34) = V at *
          generalize T.heap.size = Nx at *
          have hYV := hbZ.trans (hZV.mono hbZ.size)
          go_wp2_with fail
          have hsm1 := same_any As Aj ((jour 0 rs).take n) ((jour 0 rs).take n) cs cj V (Arr.keep HS.out hZV) (Byt.take (Arr.keep HJ.out hYV) n) (by rw [HSN.out]; omega) (by rw [HSN.out]; omega)
          rw [HSN.out, decide_eq_true rfl] at hsm1
          go_at_call 17
          refine hsm1.mono ?_
          rintro e V1 ⟨rfl, hb1⟩
          have z1 := hZV.trans (hb1.mono hZV.size)
          go_wp2_with fail
          go_at_call 14
          refine (HP.out V1 z1).mono ?_
          rintro e V2 ⟨A7, c7, rfl, _, _, _, hb2⟩
          have z2 := z1.trans (hb2.mono z1.size)
          have z3 : Below V.heap.size V V2 := hb1.trans (hb2.mono hb1.size)
          have y2 := hbZ.trans (z2.mono hbZ.size)
          clear hsm1 HP hb1 hb2 z1
          go_upto_region 16 with fail
          have tx0 : ∀ wz, Below V2.heap.size V2 wz → wz.cell? ⟨Nx, 0, none⟩ = some (.slice A1 k c1) := fun wz hz => ((MT.out.keep z3).keep hz).get (i := 0) rfl
          have tx1 : ∀ wz, Below V2.heap.size V2 wz → wz.cell? ⟨Nx, 1, none⟩ = some (.slice B1 0 d1) := fun wz hz => ((MT.out.keep z3).keep hz).get (i := 1) rfl
          have tx2 : ∀ wz, Below V2.heap.size V2 wz → wz.cell? ⟨Nx, 2, none⟩ = some (.int .i64 0) := fun wz hz => ((MT.out.keep z3).keep hz).get (i := 2) rfl
          have zu : ∀ wz, Below V2.heap.size V2 wz → Below Z.heap.size Z wz := fun wz hz => z2.trans (hz.mono z2.size)
          have yu : ∀ wz, Below V2.heap.size V2 wz → Below Y.heap.size Y wz := fun wz hz => y2.trans (hz.mono y2.size)
          have vu : ∀ wz, Below V2.heap.size V2 wz → Below V.heap.size V wz := fun wz hz => z3.trans (hz.mono z3.size)
          have FR := fun (wz : World) (hz : Below V2.heap.size V2 wz) => records_same A1 A (rs.take k) (rs.take k) c1 c wz (L4.out.keep (vu wz hz)) ((HAY.out.keep (yu wz hz)).take k) (by rw [hkl]; omega) (by rw [hkl]; omega) (fun x hx => by have := (HOK.out x (List.mem_of_mem_take hx)).1; omega) (fun x hx => by have := (HOK.out x (List.mem_of_mem_take hx)).1; omega)
          rw [hkl] at FR
          have FS := fun (wz : World) (hz : Below V2.heap.size V2 wz) => same_any B1 (subA Aj n cj) (((jour 0 rs).take n).drop n) (((jour 0 rs).take n).drop n) d1 (cj - n) wz (Arr.keep R5.out (vu wz hz)) (subA_arr (Byt.take (Arr.keep HJ.out (yu wz hz)) n) (by rw [HSN.out]; omega)) (by rw [hrs]; omega) (by rw [hrs]; omega)
          rw [hrs] at FS
          have hjk : jour 0 (rs.take k) = (jour 0 rs).take n := by rw [HEE.out]; exact jour_pre rs k
          have hjl2 : (jour 0 (rs.take k)).length = n := HEE.out.symm
          have FW := fun (wz : World) (hz : Below V2.heap.size V2 wz) => HWH.out wz (zu wz hz)
          have FT := fun (wz : World) (hz : Below V2.heap.size V2 wz) (Aw : Option Addr) (cw : Nat) (hw : Arr wz Aw (u8s (jour 0 (rs.take k)))) => same_any Aw Aj (jour 0 (rs.take k)) (jour 0 (rs.take k)) cw cj wz hw (hjk ▸ Byt.take (Arr.keep HJ.out (yu wz hz)) n) (by rw [hjl2]; omega) (by rw [hjl2]; omega)
          rw [hjl2] at FT
          have HJL := Lib.hid hjl2
          clear hjl2
          refine wp_region_flow 45 [.det (.pointer (some ⟨Nx, 2, none⟩)), .det (.int .i64 0), .det (.bool true), .det (.int .i64 n), .det (.int .i64 n), .det (.bool true), .det (.bool true), .det (.bool true), .det (.pointer (some ⟨Nx, 2, none⟩)), .det (.int .i64 0), .det (.bool true), .det (.bool true), .det (undef), .det (undef), .det (undef), .det (.bool true), .det (.bool true), .det (.bool true), .det (.pointer (some ⟨Nx, 0, none⟩)), .det (.slice A1 k c1), .det (.slice A rs.length c), .det (.int .i64 k), .det (.slice A k c), .det (.bool true), .det (.bool true), .det (.bool true), .det (.pointer (some ⟨Nx, 1, none⟩)), .det (.slice B1 0 d1), .det (.slice Aj L cj), .det (.int .i64 n), .det (.int .i64 n), .det (.slice ((subA Aj n cj)) 0 ((cj - n))), .det (.bool true), .det (.bool true), .det (.bool true), .det (.slice As n cs), wholeS n (fun wm A => Arr wm A (u8s (jour 0 (rs.take k)))), .det (.slice Aj L cj), .det (.int .i64 n), .det (.slice Aj n cj), .det (.bool true), .det (.bool true), .det (.bool true), .det (.bool true), .det (.bool true)] (by kernel_rfl) (by kernel_rfl) rfl ?_
          simp only [List.take_succ_cons, List.take_zero, List.drop_succ_cons, List.drop_zero]
          refine flowL_det (fun wz hz hd => stepF_reads (by rfl) ?_) ?_
          · go_simp; try rfl
          simp only [Act.put, List.setIfInBounds_toArray, List.set_cons_zero, List.set_cons_succ]
          refine flowL_det (fun wz hz hd => stepF_reads (by rfl) ?_) ?_
          · have q := tx2 wz hz; go_simp; try rfl
          simp only [Act.put, List.setIfInBounds_toArray, List.set_cons_zero, List.set_cons_succ]
          refine flowL_det (fun wz hz hd => stepF_reads (by rfl) ?_) ?_
          · go_simp; try rfl
          simp only [Act.put, List.setIfInBounds_toArray, List.set_cons_zero, List.set_cons_succ]
          refine flowL_det (fun wz hz hd => stepF_reads (by rfl) ?_) ?_
          · go_simp; try rfl
          simp only [Act.put, List.setIfInBounds_toArray, List.set_cons_zero, List.set_cons_succ]
          refine flowL_det (fun wz hz hd => stepF_reads (by rfl) ?_) ?_
          · go_simp; try rfl
          simp only [Act.put, List.setIfInBounds_toArray, List.set_cons_zero, List.set_cons_succ]
          refine flowL_det (fun wz hz hd => stepF_reads (by rfl) ?_) ?_
          · go_simp; try rfl
          simp only [Act.put, List.setIfInBounds_toArray, List.set_cons_zero, List.set_cons_succ]
          refine flowL_det (fun wz hz hd => stepF_reads (by rfl) ?_) ?_
          · go_simp; try rfl
          simp only [Act.put, List.setIfInBounds_toArray, List.set_cons_zero, List.set_cons_succ]
          refine flowL_det (fun wz hz hd => stepF_reads (by rfl) ?_) ?_
          · go_simp; try rfl
          simp only [Act.put, List.setIfInBounds_toArray, List.set_cons_zero, List.set_cons_succ]
          refine flowL_det (fun wz hz hd => stepF_reads (by rfl) ?_) ?_
          · go_simp; try rfl
          simp only [Act.put, List.setIfInBounds_toArray, List.set_cons_zero, List.set_cons_succ]
          refine flowL_det (fun wz hz hd => stepF_reads (by rfl) ?_) ?_
          · have q := tx2 wz hz; go_simp; try rfl
          simp only [Act.put, List.setIfInBounds_toArray, List.set_cons_zero, List.set_cons_succ]
          refine flowL_det (fun wz hz hd => stepF_reads (by rfl) ?_) ?_
          · go_simp; try rfl
          simp only [Act.put, List.setIfInBounds_toArray, List.set_cons_zero, List.set_cons_succ]
          refine flowL_det (fun wz hz hd => stepF_reads (by rfl) ?_) ?_
          · go_simp; try rfl
          simp only [Act.put, List.setIfInBounds_toArray, List.set_cons_zero, List.set_cons_succ]
          refine flowL_det (fun wz hz hd => stepF_idle (by rfl)) ?_
          simp only [Act.put, List.setIfInBounds_toArray, List.set_cons_zero, List.set_cons_succ]
          refine flowL_det (fun wz hz hd => stepF_idle (by rfl)) ?_
          simp only [Act.put, List.setIfInBounds_toArray, List.set_cons_zero, List.set_cons_succ]
          refine flowL_det (fun wz hz hd => stepF_idle (by rfl)) ?_
          simp only [Act.put, List.setIfInBounds_toArray, List.set_cons_zero, List.set_cons_succ]
          refine flowL_det (fun wz hz hd => stepF_reads (by rfl) ?_) ?_
          · go_simp; try rfl
          simp only [Act.put, List.setIfInBounds_toArray, List.set_cons_zero, List.set_cons_succ]
          refine flowL_det (fun wz hz hd => stepF_reads (by rfl) ?_) ?_
          · go_simp; try rfl
          simp only [Act.put, List.setIfInBounds_toArray, List.set_cons_zero, List.set_cons_succ]
          refine flowL_det (fun wz hz hd => stepF_reads (by rfl) ?_) ?_
          · go_simp; try rfl
          simp only [Act.put, List.setIfInBounds_toArray, List.set_cons_zero, List.set_cons_succ]
          refine flowL_det (fun wz hz hd => stepF_reads (by rfl) ?_) ?_
          · go_simp; try rfl
          simp only [Act.put, List.setIfInBounds_toArray, List.set_cons_zero, List.set_cons_succ]
          refine flowL_det (fun wz hz hd => stepF_reads (by rfl) ?_) ?_
          · have q := tx0 wz hz; go_simp; try rfl
          simp only [Act.put, List.setIfInBounds_toArray, List.set_cons_zero, List.set_cons_succ]
          refine flowL_det (fun wz hz hd => stepF_reads (by rfl) ?_) ?_
          · go_simp; try rfl
          simp only [Act.put, List.setIfInBounds_toArray, List.set_cons_zero, List.set_cons_succ]
          refine flowL_det (fun wz hz hd => stepF_reads (by rfl) ?_) ?_
          · go_simp; try rfl
          simp only [Act.put, List.setIfInBounds_toArray, List.set_cons_zero, List.set_cons_succ]
          refine flowL_det (fun wz hz hd => stepF_reads (by rfl) ?_) ?_
          · go_simp; try (intro h; exact absurd h (by omega))
          simp only [Act.put, List.setIfInBounds_toArray, List.set_cons_zero, List.set_cons_succ]
          refine flowL_det (fun wz hz hd => stepF_walk (by rfl) (fun K hK => ?_)) ?_
          · go_wp2_with fail
            go_at_call 16
            refine (FR wz hz).mono ?_
            rintro e w9 ⟨rfl, hb⟩
            first | exact hK.out _ _ (det_true rfl) trivial hb | exact hK.out _ _ (det_true trivial) trivial hb
          simp only [Act.put, List.setIfInBounds_toArray, List.set_cons_zero, List.set_cons_succ]
          refine flowL_det (fun wz hz hd => stepF_reads (by rfl) ?_) ?_
          · go_simp; try rfl
          simp only [Act.put, List.setIfInBounds_toArray, List.set_cons_zero, List.set_cons_succ]
          refine flowL_det (fun wz hz hd => stepF_reads (by rfl) ?_) ?_
          · go_simp; try rfl
          simp only [Act.put, List.setIfInBounds_toArray, List.set_cons_zero, List.set_cons_succ]
          refine flowL_det (fun wz hz hd => stepF_reads (by rfl) ?_) ?_
          · go_simp; try rfl
          simp only [Act.put, List.setIfInBounds_toArray, List.set_cons_zero, List.set_cons_succ]
          refine flowL_det (fun wz hz hd => stepF_reads (by rfl) ?_) ?_
          · have q := tx1 wz hz; go_simp; try rfl
          simp only [Act.put, List.setIfInBounds_toArray, List.set_cons_zero, List.set_cons_succ]
          refine flowL_det (fun wz hz hd => stepF_reads (by rfl) ?_) ?_
          · go_simp; try rfl
          simp only [Act.put, List.setIfInBounds_toArray, List.set_cons_zero, List.set_cons_succ]
          refine flowL_det (fun wz hz hd => stepF_reads (by rfl) ?_) ?_
          · go_simp; try rfl
          simp only [Act.put, List.setIfInBounds_toArray, List.set_cons_zero, List.set_cons_succ]
          refine flowL_det (fun wz hz hd => stepF_reads (by rfl) ?_) ?_
          · go_simp; try rfl
          simp only [Act.put, List.setIfInBounds_toArray, List.set_cons_zero, List.set_cons_succ]
          refine flowL_det (fun wz hz hd => stepF_reads (by rfl) ?_) ?_
          · go_simp; rw [if_pos (by omega)]; rfl
          simp only [Act.put, List.setIfInBounds_toArray, List.set_cons_zero, List.set_cons_succ]
          refine flowL_det (fun wz hz hd => stepF_walk (by rfl) (fun K hK => ?_)) ?_
          · go_wp2_with fail
            go_at_call 17
            refine (FS wz hz).mono ?_
            rintro e w9 ⟨rfl, hb⟩
            first | exact hK.out _ _ (det_true rfl) trivial hb | exact hK.out _ _ (det_true trivial) trivial hb
          simp only [Act.put, List.setIfInBounds_toArray, List.set_cons_zero, List.set_cons_succ]
          refine flowL_det (fun wz hz hd => stepF_reads (by rfl) ?_) ?_
          · go_simp; try rfl
          simp only [Act.put, List.setIfInBounds_toArray, List.set_cons_zero, List.set_cons_succ]
          refine flowL_det (fun wz hz hd => stepF_reads (by rfl) ?_) ?_
          · go_simp; try rfl
          simp only [Act.put, List.setIfInBounds_toArray, List.set_cons_zero, List.set_cons_succ]
          refine flowL_det (fun wz hz hd => stepF_reads (by rfl) ?_) ?_
          · go_simp; try rfl
          simp only [Act.put, List.setIfInBounds_toArray, List.set_cons_zero, List.set_cons_succ]
          refine flowL_make (⟨_, none, 0, rfl⟩) (fun wz hz hd => stepF_walk (by rfl) (fun K hK => ?_)) (fun v hv => ?_)
          · go_wp2_with fail
            go_at_call 18
            refine (FW wz hz).mono ?_
            rintro e w9 ⟨A9, c9, rfl, _, _, g9, hb⟩
            exact hK.out _ _ ⟨A9, c9, by rw [HJL.out]⟩ (fun B c e => by cases e; exact g9.arr) hb
          obtain ⟨Aw, cw, rfl⟩ := hv
          simp only [Act.put, List.setIfInBounds_toArray, List.set_cons_zero, List.set_cons_succ]
          refine flowL_det (fun wz hz hd => stepF_reads (by rfl) ?_) ?_
          · go_simp; try rfl
          simp only [Act.put, List.setIfInBounds_toArray, List.set_cons_zero, List.set_cons_succ]
          refine flowL_det (fun wz hz hd => stepF_reads (by rfl) ?_) ?_
          · go_simp; try rfl
          simp only [Act.put, List.setIfInBounds_toArray, List.set_cons_zero, List.set_cons_succ]
          refine flowL_det (fun wz hz hd => stepF_reads (by rfl) ?_) ?_
          · go_simp; try (intro h; exact absurd h (by omega))
          simp only [Act.put, List.setIfInBounds_toArray, List.set_cons_zero, List.set_cons_succ]
          refine flowL_det (fun wz hz hd => stepF_walk (by rfl) (fun K hK => ?_)) ?_
          · obtain ⟨p, hp⟩ := dep_of hd 36 (by decide +kernel)
            go_wp2_with fail
            go_at_call 17
            refine (FT wz hz Aw cw ((hp.post Aw cw rfl).keep hp.since)).mono ?_
            rintro e w9 ⟨rfl, hb⟩
            first | exact hK.out _ _ (det_true rfl) trivial hb | exact hK.out _ _ (det_true trivial) trivial hb
          simp only [Act.put, List.setIfInBounds_toArray, List.set_cons_zero, List.set_cons_succ]
          refine flowL_det (fun wz hz hd => stepF_reads (by rfl) ?_) ?_
          · go_simp; try rfl
          simp only [Act.put, List.setIfInBounds_toArray, List.set_cons_zero, List.set_cons_succ]
          refine flowL_det (fun wz hz hd => stepF_reads (by rfl) ?_) ?_
          · go_simp; try rfl
          simp only [Act.put, List.setIfInBounds_toArray, List.set_cons_zero, List.set_cons_succ]
          refine flowL_det (fun wz hz hd => stepF_reads (by rfl) ?_) ?_
          · go_simp; try rfl
          simp only [Act.put, List.setIfInBounds_toArray, List.set_cons_zero, List.set_cons_succ]
          refine flowL_det (fun wz hz hd => stepF_reads (by rfl) ?_) ?_
          · go_simp; try rfl
          simp only [Act.put, List.setIfInBounds_toArray, List.set_cons_zero, List.set_cons_succ]
          intro w3 ps hb3 hF hap
          clear hF hap
          go_wp2_with fail
          go_ret
          exact ⟨rfl, hbw.trans ((y2.trans (hb3.mono y2.size)).mono hbw.size)⟩
        · have hne : ((n : Int) == (E : Int)) = false := beq_eq_false_iff_ne.2 (by omega)
          have HR := Lib.hid hr
          clear hr
          have hsn : ((jour 0 rs).take n).length = n := by rw [List.length_take, hL]; omega
          have HSN := Lib.hid hsn
          clear hsn
          have hcut := cut_any Aj (jour 0 rs) cj (n : Int) Y HJ.out G2.out (by omega) (by omega) (by unfold I64; omega)
          rw [Int.toNat_natCast, hL] at hcut
          go_upto_region 13 with (go_at_call 20; refine hcut.mono ?_; rintro e Z ⟨As, cs, rfl, s1, s2, s3, hbZ⟩)
          rw [HSN.out] at s1
          try rw [HSN.out]
          have HS := Lib.hid (ArrF.arr s3)
          have S2 := Lib.hid s2
          have hpar := parses_take HOK.out hW'.out.2.1 hW'.out.2.2
          rw [← HEE.out] at hpar
          have hrs : (((jour 0 rs).take n).drop E).length = r := by rw [List.length_drop, HSN.out]; have := HR.out; omega
          have hkl : (rs.take k).length = k := by rw [List.length_take]; omega
          have hx : errR (((jour 0 rs).take n).drop E) = 60 := errR_pos hrs hr0
          have hb8 : B8 ((jour 0 rs).take n) := fun x hx => jour_B8 _ _ x (List.mem_of_mem_take hx)
          have hrd := readL_any As ((jour 0 rs).take n) _ (rs.take k) cs Z HS.out hb8 (by rw [HSN.out]; omega) (by rw [HSN.out]; exact s1) hpar
          have hpt := fun (W : World) (hW : Below Z.heap.size Z W) => putL_any As none ((jour 0 rs).take n) _ [] (rs.take k) cs 0 W (Arr.keep HS.out hW) S2.out hb8 (by rw [HSN.out]; omega) (by rw [HSN.out]; exact s1) hpar (fun h => absurd rfl h) (fun x hx => by cases hx) (by decide)
          have hwh := fun (W : World) (hW : Below Z.heap.size Z W) => whole_any As ((jour 0 rs).take n) _ (rs.take k) cs W (Arr.keep HS.out hW) S2.out hb8 (by rw [HSN.out]; omega) (by rw [HSN.out]; exact s1) hpar
          rw [HSN.out] at hrd hpt hwh
          have hp2 := (putF_err (bs := (jour 0 rs).take n) (rest := ((jour 0 rs).take n).drop E) (rs := rs.take k) (by rw [HSN.out]; omega)).trans hx
          have HP := Lib.hid hpt
          have HWH := Lib.hid hwh
          have hyz := Lib.hid hbZ
          generalize putF ((jour 0 rs).take n) (((jour 0 rs).take n).drop E) (rs.take k) [] = pp at *
          obtain ⟨p1, p2⟩ := pp
          simp only at hp2
          subst hp2
          clear hpt hwh s3 s2 hcut
          go_upto_region 14 with (go_at_call 12; refine hrd.mono ?_; rintro e T hg; obtain ⟨A1, c1, B1, d1, rfl, q1, q2, q4, q5, hbT⟩ := readN hg hkl hrs hx)
          have hTx := BoxL.new T #[.slice A1 k c1, .slice B1 r d1, .int .i64 60, .int .i64 0, .int .u64 0] 34
          have hkT := (Below.refl _ T).alloc (Nat.le_refl _) (.cells #[.slice A1 k c1, .slice B1 r d1, .int .i64 60, .int .i64 0, .int .u64 0] 34)
          have MT := Lib.hid hTx
          have L4 := Lib.hid (q4.ll.keep hkT)
          have R5 := Lib.hid ((ArrF.arr q5).keep hkT)
          have hZV := hbT.trans (hkT.mono hbT.size)
          clear hrd hTx q4 q5 hbT hkT hx
          generalize T.alloc (.cells #[.slice A1 k c1, .slice B1 r d1, .int .i64 60, .int .i64 0, .int .u64 0] 34) = V at *
          generalize T.heap.size = Nx at *
          have hYV := hbZ.trans (hZV.mono hbZ.size)
          go_wp2_with fail
          have hsm1 := same_any As Aj ((jour 0 rs).take n) ((jour 0 rs).take n) cs cj V (Arr.keep HS.out hZV) (Byt.take (Arr.keep HJ.out hYV) n) (by rw [HSN.out]; omega) (by rw [HSN.out]; omega)
          rw [HSN.out, decide_eq_true rfl] at hsm1
          go_at_call 17
          refine hsm1.mono ?_
          rintro e V1 ⟨rfl, hb1⟩
          have z1 := hZV.trans (hb1.mono hZV.size)
          go_wp2_with fail
          go_at_call 14
          refine (HP.out V1 z1).mono ?_
          rintro e V2 ⟨A7, c7, rfl, _, _, _, hb2⟩
          have z2 := z1.trans (hb2.mono z1.size)
          have z3 : Below V.heap.size V V2 := hb1.trans (hb2.mono hb1.size)
          have y2 := hbZ.trans (z2.mono hbZ.size)
          clear hsm1 HP hb1 hb2 z1
          go_upto_region 16 with fail
          have tx0 : ∀ wz, Below V2.heap.size V2 wz → wz.cell? ⟨Nx, 0, none⟩ = some (.slice A1 k c1) := fun wz hz => ((MT.out.keep z3).keep hz).get (i := 0) rfl
          have tx1 : ∀ wz, Below V2.heap.size V2 wz → wz.cell? ⟨Nx, 1, none⟩ = some (.slice B1 r d1) := fun wz hz => ((MT.out.keep z3).keep hz).get (i := 1) rfl
          have tx2 : ∀ wz, Below V2.heap.size V2 wz → wz.cell? ⟨Nx, 2, none⟩ = some (.int .i64 60) := fun wz hz => ((MT.out.keep z3).keep hz).get (i := 2) rfl
          have zu : ∀ wz, Below V2.heap.size V2 wz → Below Z.heap.size Z wz := fun wz hz => z2.trans (hz.mono z2.size)
          have yu : ∀ wz, Below V2.heap.size V2 wz → Below Y.heap.size Y wz := fun wz hz => y2.trans (hz.mono y2.size)
          have vu : ∀ wz, Below V2.heap.size V2 wz → Below V.heap.size V wz := fun wz hz => z3.trans (hz.mono z3.size)
          have FR := fun (wz : World) (hz : Below V2.heap.size V2 wz) => records_same A1 A (rs.take k) (rs.take k) c1 c wz (L4.out.keep (vu wz hz)) ((HAY.out.keep (yu wz hz)).take k) (by rw [hkl]; omega) (by rw [hkl]; omega) (fun x hx => by have := (HOK.out x (List.mem_of_mem_take hx)).1; omega) (fun x hx => by have := (HOK.out x (List.mem_of_mem_take hx)).1; omega)
          rw [hkl] at FR
          have FS := fun (wz : World) (hz : Below V2.heap.size V2 wz) => same_any B1 (subA Aj E cj) (((jour 0 rs).take n).drop E) (((jour 0 rs).take n).drop E) d1 (cj - E) wz (Arr.keep R5.out (vu wz hz)) (subA_arr (Byt.take (Arr.keep HJ.out (yu wz hz)) n) (by rw [HSN.out]; omega)) (by rw [hrs]; have := HR.out; omega) (by rw [hrs]; have := HR.out; omega)
          rw [hrs] at FS
          have hjk : jour 0 (rs.take k) = (jour 0 rs).take E := by rw [HEE.out]; exact jour_pre rs k
          have hjl2 : (jour 0 (rs.take k)).length = E := HEE.out.symm
          have FW := fun (wz : World) (hz : Below V2.heap.size V2 wz) => HWH.out wz (zu wz hz)
          have FT := fun (wz : World) (hz : Below V2.heap.size V2 wz) (Aw : Option Addr) (cw : Nat) (hw : Arr wz Aw (u8s (jour 0 (rs.take k)))) => same_any Aw Aj (jour 0 (rs.take k)) (jour 0 (rs.take k)) cw cj wz hw (hjk ▸ Byt.take (Arr.keep HJ.out (yu wz hz)) E) (by rw [hjl2]; omega) (by rw [hjl2]; omega)
          rw [hjl2] at FT
          have HJL := Lib.hid hjl2
          clear hjl2
          refine wp_region_flow 45 [.det (.pointer (some ⟨Nx, 2, none⟩)), .det (.int .i64 60), .det (.bool false), .det (.int .i64 n), .det (.int .i64 E), .det (.bool false), .det (.bool true), .det (.bool true), .det (.pointer (some ⟨Nx, 2, none⟩)), .det (.int .i64 60), .det (.bool false), .det (.bool false), .det (.pointer (some ⟨Nx, 2, none⟩)), .det (.int .i64 60), .det (.bool true), .det (.bool true), .det (.bool true), .det (.bool true), .det (.pointer (some ⟨Nx, 0, none⟩)), .det (.slice A1 k c1), .det (.slice A rs.length c), .det (.int .i64 k), .det (.slice A k c), .det (.bool true), .det (.bool true), .det (.bool true), .det (.pointer (some ⟨Nx, 1, none⟩)), .det (.slice B1 r d1), .det (.slice Aj L cj), .det (.int .i64 E), .det (.int .i64 n), .det (.slice ((subA Aj E cj)) r ((cj - E))), .det (.bool true), .det (.bool true), .det (.bool true), .det (.slice As n cs), wholeS E (fun wm A => Arr wm A (u8s (jour 0 (rs.take k)))), .det (.slice Aj L cj), .det (.int .i64 E), .det (.slice Aj E cj), .det (.bool true), .det (.bool true), .det (.bool true), .det (.bool true), .det (.bool true)] (by kernel_rfl) (by kernel_rfl) rfl ?_
          simp only [List.take_succ_cons, List.take_zero, List.drop_succ_cons, List.drop_zero]
          refine flowL_det (fun wz hz hd => stepF_reads (by rfl) ?_) ?_
          · go_simp; try rfl
          simp only [Act.put, List.setIfInBounds_toArray, List.set_cons_zero, List.set_cons_succ]
          refine flowL_det (fun wz hz hd => stepF_reads (by rfl) ?_) ?_
          · have q := tx2 wz hz; go_simp; try rfl
          simp only [Act.put, List.setIfInBounds_toArray, List.set_cons_zero, List.set_cons_succ]
          refine flowL_det (fun wz hz hd => stepF_reads (by rfl) ?_) ?_
          · go_simp; try rfl
          simp only [Act.put, List.setIfInBounds_toArray, List.set_cons_zero, List.set_cons_succ]
          refine flowL_det (fun wz hz hd => stepF_reads (by rfl) ?_) ?_
          · go_simp; try rfl
          simp only [Act.put, List.setIfInBounds_toArray, List.set_cons_zero, List.set_cons_succ]
          refine flowL_det (fun wz hz hd => stepF_reads (by rfl) ?_) ?_
          · go_simp; try rfl
          simp only [Act.put, List.setIfInBounds_toArray, List.set_cons_zero, List.set_cons_succ]
          refine flowL_det (fun wz hz hd => stepF_reads (by rfl) ?_) ?_
          · go_simp; try rfl
          simp only [Act.put, List.setIfInBounds_toArray, List.set_cons_zero, List.set_cons_succ]
          refine flowL_det (fun wz hz hd => stepF_reads (by rfl) ?_) ?_
          · go_simp; try rfl
          simp only [Act.put, List.setIfInBounds_toArray, List.set_cons_zero, List.set_cons_succ]
          refine flowL_det (fun wz hz hd => stepF_reads (by rfl) ?_) ?_
          · go_simp; try rfl
          simp only [Act.put, List.setIfInBounds_toArray, List.set_cons_zero, List.set_cons_succ]
          refine flowL_det (fun wz hz hd => stepF_reads (by rfl) ?_) ?_
          · go_simp; try rfl
          simp only [Act.put, List.setIfInBounds_toArray, List.set_cons_zero, List.set_cons_succ]
          refine flowL_det (fun wz hz hd => stepF_reads (by rfl) ?_) ?_
          · have q := tx2 wz hz; go_simp; try rfl
          simp only [Act.put, List.setIfInBounds_toArray, List.set_cons_zero, List.set_cons_succ]
          refine flowL_det (fun wz hz hd => stepF_reads (by rfl) ?_) ?_
          · go_simp; try rfl
          simp only [Act.put, List.setIfInBounds_toArray, List.set_cons_zero, List.set_cons_succ]
          refine flowL_det (fun wz hz hd => stepF_reads (by rfl) ?_) ?_
          · go_simp; try rfl
          simp only [Act.put, List.setIfInBounds_toArray, List.set_cons_zero, List.set_cons_succ]
          refine flowL_det (fun wz hz hd => stepF_reads (by rfl) ?_) ?_
          · go_simp; try rfl
          simp only [Act.put, List.setIfInBounds_toArray, List.set_cons_zero, List.set_cons_succ]
          refine flowL_det (fun wz hz hd => stepF_reads (by rfl) ?_) ?_
          · have q := tx2 wz hz; go_simp; try rfl
          simp only [Act.put, List.setIfInBounds_toArray, List.set_cons_zero, List.set_cons_succ]
          refine flowL_det (fun wz hz hd => stepF_reads (by rfl) ?_) ?_
          · go_simp; try rfl
          simp only [Act.put, List.setIfInBounds_toArray, List.set_cons_zero, List.set_cons_succ]
          refine flowL_det (fun wz hz hd => stepF_reads (by rfl) ?_) ?_
          · go_simp; try rfl
          simp only [Act.put, List.setIfInBounds_toArray, List.set_cons_zero, List.set_cons_succ]
          refine flowL_det (fun wz hz hd => stepF_reads (by rfl) ?_) ?_
          · go_simp; try rfl
          simp only [Act.put, List.setIfInBounds_toArray, List.set_cons_zero, List.set_cons_succ]
          refine flowL_det (fun wz hz hd => stepF_reads (by rfl) ?_) ?_
          · go_simp; try rfl
          simp only [Act.put, List.setIfInBounds_toArray, List.set_cons_zero, List.set_cons_succ]
          refine flowL_det (fun wz hz hd => stepF_reads (by rfl) ?_) ?_
          · go_simp; try rfl
          simp only [Act.put, List.setIfInBounds_toArray, List.set_cons_zero, List.set_cons_succ]
          refine flowL_det (fun wz hz hd => stepF_reads (by rfl) ?_) ?_
          · have q := tx0 wz hz; go_simp; try rfl
          simp only [Act.put, List.setIfInBounds_toArray, List.set_cons_zero, List.set_cons_succ]
          refine flowL_det (fun wz hz hd => stepF_reads (by rfl) ?_) ?_
          · go_simp; try rfl
          simp only [Act.put, List.setIfInBounds_toArray, List.set_cons_zero, List.set_cons_succ]
          refine flowL_det (fun wz hz hd => stepF_reads (by rfl) ?_) ?_
          · go_simp; try rfl
          simp only [Act.put, List.setIfInBounds_toArray, List.set_cons_zero, List.set_cons_succ]
          refine flowL_det (fun wz hz hd => stepF_reads (by rfl) ?_) ?_
          · go_simp; try (intro h; exact absurd h (by omega))
          simp only [Act.put, List.setIfInBounds_toArray, List.set_cons_zero, List.set_cons_succ]
          refine flowL_det (fun wz hz hd => stepF_walk (by rfl) (fun K hK => ?_)) ?_
          · go_wp2_with fail
            go_at_call 16
            refine (FR wz hz).mono ?_
            rintro e w9 ⟨rfl, hb⟩
            first | exact hK.out _ _ (det_true rfl) trivial hb | exact hK.out _ _ (det_true trivial) trivial hb
          simp only [Act.put, List.setIfInBounds_toArray, List.set_cons_zero, List.set_cons_succ]
          refine flowL_det (fun wz hz hd => stepF_reads (by rfl) ?_) ?_
          · go_simp; try rfl
          simp only [Act.put, List.setIfInBounds_toArray, List.set_cons_zero, List.set_cons_succ]
          refine flowL_det (fun wz hz hd => stepF_reads (by rfl) ?_) ?_
          · go_simp; try rfl
          simp only [Act.put, List.setIfInBounds_toArray, List.set_cons_zero, List.set_cons_succ]
          refine flowL_det (fun wz hz hd => stepF_reads (by rfl) ?_) ?_
          · go_simp; try rfl
          simp only [Act.put, List.setIfInBounds_toArray, List.set_cons_zero, List.set_cons_succ]
          refine flowL_det (fun wz hz hd => stepF_reads (by rfl) ?_) ?_
          · have q := tx1 wz hz; go_simp; try rfl
          simp only [Act.put, List.setIfInBounds_toArray, List.set_cons_zero, List.set_cons_succ]
          refine flowL_det (fun wz hz hd => stepF_reads (by rfl) ?_) ?_
          · go_simp; try rfl
          simp only [Act.put, List.setIfInBounds_toArray, List.set_cons_zero, List.set_cons_succ]
          refine flowL_det (fun wz hz hd => stepF_reads (by rfl) ?_) ?_
          · go_simp; try rfl
          simp only [Act.put, List.setIfInBounds_toArray, List.set_cons_zero, List.set_cons_succ]
          refine flowL_det (fun wz hz hd => stepF_reads (by rfl) ?_) ?_
          · go_simp; try rfl
          simp only [Act.put, List.setIfInBounds_toArray, List.set_cons_zero, List.set_cons_succ]
          refine flowL_det (fun wz hz hd => stepF_reads (by rfl) ?_) ?_
          · go_simp; rw [if_pos (by omega)]; rw [show n - E = r from by have := HR.out; omega]; rfl
          simp only [Act.put, List.setIfInBounds_toArray, List.set_cons_zero, List.set_cons_succ]
          refine flowL_det (fun wz hz hd => stepF_walk (by rfl) (fun K hK => ?_)) ?_
          · go_wp2_with fail
            go_at_call 17
            refine (FS wz hz).mono ?_
            rintro e w9 ⟨rfl, hb⟩
            first | exact hK.out _ _ (det_true rfl) trivial hb | exact hK.out _ _ (det_true trivial) trivial hb
          simp only [Act.put, List.setIfInBounds_toArray, List.set_cons_zero, List.set_cons_succ]
          refine flowL_det (fun wz hz hd => stepF_reads (by rfl) ?_) ?_
          · go_simp; try rfl
          simp only [Act.put, List.setIfInBounds_toArray, List.set_cons_zero, List.set_cons_succ]
          refine flowL_det (fun wz hz hd => stepF_reads (by rfl) ?_) ?_
          · go_simp; try rfl
          simp only [Act.put, List.setIfInBounds_toArray, List.set_cons_zero, List.set_cons_succ]
          refine flowL_det (fun wz hz hd => stepF_reads (by rfl) ?_) ?_
          · go_simp; try rfl
          simp only [Act.put, List.setIfInBounds_toArray, List.set_cons_zero, List.set_cons_succ]
          refine flowL_make (⟨_, none, 0, rfl⟩) (fun wz hz hd => stepF_walk (by rfl) (fun K hK => ?_)) (fun v hv => ?_)
          · go_wp2_with fail
            go_at_call 18
            refine (FW wz hz).mono ?_
            rintro e w9 ⟨A9, c9, rfl, _, _, g9, hb⟩
            exact hK.out _ _ ⟨A9, c9, by rw [HJL.out]⟩ (fun B c e => by cases e; exact g9.arr) hb
          obtain ⟨Aw, cw, rfl⟩ := hv
          simp only [Act.put, List.setIfInBounds_toArray, List.set_cons_zero, List.set_cons_succ]
          refine flowL_det (fun wz hz hd => stepF_reads (by rfl) ?_) ?_
          · go_simp; try rfl
          simp only [Act.put, List.setIfInBounds_toArray, List.set_cons_zero, List.set_cons_succ]
          refine flowL_det (fun wz hz hd => stepF_reads (by rfl) ?_) ?_
          · go_simp; try rfl
          simp only [Act.put, List.setIfInBounds_toArray, List.set_cons_zero, List.set_cons_succ]
          refine flowL_det (fun wz hz hd => stepF_reads (by rfl) ?_) ?_
          · go_simp; try (intro h; exact absurd h (by omega))
          simp only [Act.put, List.setIfInBounds_toArray, List.set_cons_zero, List.set_cons_succ]
          refine flowL_det (fun wz hz hd => stepF_walk (by rfl) (fun K hK => ?_)) ?_
          · obtain ⟨p, hp⟩ := dep_of hd 36 (by decide +kernel)
            go_wp2_with fail
            go_at_call 17
            refine (FT wz hz Aw cw ((hp.post Aw cw rfl).keep hp.since)).mono ?_
            rintro e w9 ⟨rfl, hb⟩
            first | exact hK.out _ _ (det_true rfl) trivial hb | exact hK.out _ _ (det_true trivial) trivial hb
          simp only [Act.put, List.setIfInBounds_toArray, List.set_cons_zero, List.set_cons_succ]
          refine flowL_det (fun wz hz hd => stepF_reads (by rfl) ?_) ?_
          · go_simp; try rfl
          simp only [Act.put, List.setIfInBounds_toArray, List.set_cons_zero, List.set_cons_succ]
          refine flowL_det (fun wz hz hd => stepF_reads (by rfl) ?_) ?_
          · go_simp; try rfl
          simp only [Act.put, List.setIfInBounds_toArray, List.set_cons_zero, List.set_cons_succ]
          refine flowL_det (fun wz hz hd => stepF_reads (by rfl) ?_) ?_
          · go_simp; try rfl
          simp only [Act.put, List.setIfInBounds_toArray, List.set_cons_zero, List.set_cons_succ]
          refine flowL_det (fun wz hz hd => stepF_reads (by rfl) ?_) ?_
          · go_simp; try rfl
          simp only [Act.put, List.setIfInBounds_toArray, List.set_cons_zero, List.set_cons_succ]
          intro w3 ps hb3 hF hap
          clear hF hap
          go_wp2_with fail
          go_ret
          exact ⟨rfl, hbw.trans ((y2.trans (hb3.mono y2.size)).mono hbw.size)⟩
end Jn
end Go.Proofs.Ytcdoalfpaldbmaa
