/- The law of journals that are continued. -/
import Derived.Test.YtcdoalfpaldbmaaWH
import Derived.Laws.AppendOwnNone
namespace Go.Proofs.Ytcdoalfpaldbmaa
open Go.RowKit Sl Fr Dg
namespace Jn
set_option linter.unusedVariables false
attribute [local go_sem] field_b0 field_b1 field_r0

/-- The slices that a slice of slices holds. -/
structure Heads (w : World) (A : Option Addr) (hs : List Value) (rs : List (List Int)) : Prop where
  len : hs.length = rs.length
  one : ∀ u ∈ hs, u.oneCell' = true
  row : ∀ (j : Nat) (r : List Int), rs[j]? = some r → ∃ A' c, hs[j]? = some (.slice A' r.length c) ∧ r.length ≤ c ∧ Arr w A' (i64s r)
  cell : ∀ (j : Nat) (u : Value), hs[j]? = some u → ∃ b o, A = some ⟨b, o, none⟩ ∧ b < w.heap.size ∧ w.cell? ⟨b, o + j, none⟩ = some u
theorem heads_ex {w : World} {A : Option Addr} {rs : List (List Int)} (h : LL w A rs) : ∃ hs, Heads w A hs rs := by
  by_cases hne : rs = []
  · subst hne
    exact ⟨[], rfl, (fun u hu => by cases hu), (fun j r hr => by simp at hr), (fun j u hu => by simp at hu)⟩
  · obtain ⟨b, o, e, hlt, hc⟩ := h hne
    have hat : ∀ j, j < rs.length → ∃ A' c, w.cell? ⟨b, o + j, none⟩ = some (.slice A' (rs[j]?.getD []).length c) ∧ (rs[j]?.getD []).length ≤ c ∧ Arr w A' (i64s (rs[j]?.getD [])) := fun j hj => by
      obtain ⟨A', c, h1, h2, h3⟩ := hc j _ (List.getElem?_eq_getElem hj)
      rw [List.getElem?_eq_getElem hj]
      exact ⟨A', c, h1, h2, h3⟩
    have hget : ∀ (j : Nat), j < rs.length → ((List.range rs.length).map fun j => (w.cell? ⟨b, o + j, none⟩).getD undef)[j]? = some ((w.cell? ⟨b, o + j, none⟩).getD undef) := fun j hj => by
      rw [List.getElem?_map, List.getElem?_range hj]; rfl
    refine ⟨(List.range rs.length).map fun j => (w.cell? ⟨b, o + j, none⟩).getD undef, by simp, fun u hu => ?_, fun j r hr => ?_, fun j u hu => ?_⟩
    · obtain ⟨j, hj, rfl⟩ := List.mem_map.1 hu
      obtain ⟨A', c, h1, _, _⟩ := hat j (List.mem_range.1 hj)
      rw [h1]; rfl
    · have hj := (List.getElem?_eq_some_iff.1 hr).1
      obtain ⟨A', c, h1, h2, h3⟩ := hat j hj
      rw [hr] at h1 h2 h3
      rw [hget j hj, h1]
      exact ⟨A', c, rfl, h2, h3⟩
    · have hj : j < rs.length := by have := (List.getElem?_eq_some_iff.1 hu).1; simpa using this
      obtain ⟨A', c, h1, _, _⟩ := hat j hj
      rw [hget j hj] at hu
      cases hu
      exact ⟨b, o, e, hlt, by rw [h1]; rfl⟩
/-- One row of slices laid behind another: the lists of both. -/
theorem ll_of_row {w w' : World} {A B : Option Addr} {hs gs : List Value} {rs ms : List (List Int)} (h : Heads w A hs rs) (g : Heads w B gs ms) {base : Nat} {C : Option Addr} (hb : Below w.heap.size w w') (ha : ArrF w' base C (hs ++ gs)) : LL w' C (rs ++ ms) := fun hne => by
  obtain ⟨b, o, e, _, hlt, hc⟩ := ha (by
    intro e'
    apply hne
    have := congrArg List.length e'
    rw [List.length_append, h.len, g.len, ← List.length_append] at this
    exact List.eq_nil_of_length_eq_zero this)
  refine ⟨b, o, e, hlt, fun j r hr => ?_⟩
  by_cases hj : j < rs.length
  · rw [List.getElem?_append_left hj] at hr
    obtain ⟨A', c, h1, h2, h3⟩ := h.row j r hr
    exact ⟨A', c, hc j _ (by rw [List.getElem?_append_left (by rw [h.len]; exact hj)]; exact h1), h2, h3.keep hb⟩
  · rw [List.getElem?_append_right (by omega)] at hr
    obtain ⟨A', c, h1, h2, h3⟩ := g.row _ r hr
    exact ⟨A', c, hc j _ (by rw [List.getElem?_append_right (by rw [h.len]; omega), h.len]; exact h1), h2, h3.keep hb⟩

/-- A slice of slices appended to one of the call's own. -/
theorem wpList_spread (w : World) {ops : Array Oper} {rest : List Oper} {o : Oper} {a : Act} {Q : Exit → Act → World → Prop} (hgd : o.guard = none) (s x : Operand)
    (ho : o.op = .call { callee := .builtin .append, args := #[s, x], argTypes := #[23, 23] }) (w0 : World) (base : Nat) (v : Value) (n : Nat) (xs : List Value) (hs : a.eval s = v) (hown : w.ownsRow base 29 1 v n xs)
    (A : Option Addr) (m c : Nat) (hx : a.eval x = .slice A m c) (hn : A = none → m = 0 ∧ c = 0) (gs : List Value) (ms : List (List Int)) (hg : Heads w0 A gs ms) (hm : ms.length = m) (hw : Below w0.heap.size w0 w) (h63 : n + m ≤ 1000000) (hbase : base ≤ w.heap.size)
    (h : ∀ v' w', w'.ownsRow base 29 1 v' (n + m) (xs ++ gs) → Below base w w' → wpList Try.prog ops Q rest (a.put o.dst v') w') : wpList Try.prog ops Q (o :: rest) a w := by
  obtain ⟨i0, hi, hz0, hz1, hz2⟩ := info_parts infoSl
  cases A with
  | none =>
    obtain ⟨rfl, rfl⟩ := hn rfl
    have hgs : gs = [] := List.eq_nil_of_length_eq_zero (by rw [hg.len, hm])
    subst hgs
    refine wpList_append_own_none (w := w) hgd s x 23 ho base 29 i0 1 Try.underlying23 hi v n xs hs hown hx ?_
    exact h v w (by simpa using hown) (Below.refl _ _)
  | some ad =>
    refine wpList_append_own (w := w) hgd s x 23 ho base 29 i0 (.slice none 0 0) 1 24 Try.underlying23 hi hz0 hz1 hz2 rfl (by decide) v n xs hs hown ad m c gs hx (by rw [hg.len, hm, Nat.mul_one]) (fun j u hu => ?_) hg.one (by unfold maxLen; omega) (by omega) hbase ?_
    · obtain ⟨b, o', e, hlt, hc⟩ := hg.cell j u hu
      cases e
      rw [add_lit0]
      exact (hw.cell (p := ⟨b, o' + j, none⟩) hlt).trans hc
    · intro v' w' h1 h2 _
      exact h v' w' h1 (below_own hown h2 hbase)

def PutAt (w : World) (rs : List (List Int)) (k : Nat) (j : Value) (wr : World) : Prop :=
  ∃ A c, j = .slice A (jour 0 (rs.take k)).length c ∧ (jour 0 (rs.take k)).length ≤ c ∧ (A = none → jour 0 (rs.take k) = [] ∧ c = 0) ∧ ArrF wr w.heap.size A (u8s (jour 0 (rs.take k))) ∧ Below w.heap.size w wr
theorem all_take (rs ms : List (List Int)) {k : Nat} (hk : k ≤ rs.length) : (rs.take k ++ ms).take k = rs.take k := by
  rw [List.take_append_of_le_length (by rw [List.length_take]; omega), List.take_of_length_le (by rw [List.length_take]; omega)]
theorem all_get (rs ms : List (List Int)) {k t : Nat} (hk : k ≤ rs.length) {r : List Int} (h : ms[t]? = some r) : (rs.take k ++ ms)[k + t]? = some r := by
  have hl : (rs.take k).length = k := by rw [List.length_take]; omega
  rw [List.getElem?_append_right (by omega), hl, Nat.add_sub_cancel_left]; exact h

set_option maxRecDepth 100000 in
set_option maxHeartbeats 12800000 in
theorem continues_law (A B : Option Addr) (rs ms : List (List Int)) (c d : Nat) (m : Int) (w : World) (hA : LL w A rs) (hi : ∀ r ∈ rs, ∀ x ∈ r, I64 x) (hlen : rs.length ≤ 9223372036854775807) (hcap : rs.length ≤ c) (hnil : A = none → rs = [] ∧ c = 0)
    (hB : LL w B ms) (hj : ∀ r ∈ ms, ∀ x ∈ r, I64 x) (hlenm : ms.length ≤ 9223372036854775807) (hcapm : ms.length ≤ d) (hnilm : B = none → ms = [] ∧ d = 0) (hm : 0 ≤ m ∧ m < 65536) :
    Calls Try.prog 6 #[.slice A rs.length c, .slice B ms.length d, .int .u16 m] w fun e w' => e = .returned (.bool true) ∧ Below w.heap.size w w' := by
  go_enter Try.func6, Try.ntmps6
  go_upto_region 4 with (go_at_call 9; refine (examples_any _).mono ?_; rintro e X ⟨rfl, hbX⟩)
  have hs1 := small_any A rs c X (hA.keep hbX) hlen
  have hs2 := small_any B ms d X (hB.keep hbX) hlenm
  by_cases h1 : smallB rs = true
  case neg =>
    have h1' : smallB rs = false := by simpa using h1
    rw [h1'] at hs1
    clear hs2
    go_wp2_with (go_at_call 10; refine hs1.mono ?_; rintro e w2 ⟨rfl, rfl⟩)
    go_ret
    exact ⟨rfl, hbX⟩
  rw [h1] at hs1
  by_cases h2 : smallB ms = true
  case neg =>
    have h2' : smallB ms = false := by simpa using h2
    rw [h2'] at hs2
    go_wp2_with fail
    go_at_call 10
    refine hs1.mono ?_
    rintro e w2 ⟨rfl, rfl⟩
    go_wp2_with fail
    go_at_call 10
    refine hs2.mono ?_
    rintro e w2 ⟨rfl, rfl⟩
    go_wp2_with fail
    go_ret
    exact ⟨rfl, hbX⟩
  rw [h2] at hs2
  have hok := small_ok h1 hi
  have hokm := small_ok h2 hj
  have hjl := small_len h1
  have hrl := (small_iff h1).1
  have hml := (small_iff h2).1
  have hr12 := (small_iff h1).2
  have hm12 := (small_iff h2).2
  have hmd := made_any A rs c X (hA.keep hbX) hok (by omega) (by omega)
  go_wp2_with fail
  go_at_call 10
  refine hs1.mono ?_
  rintro e w2 ⟨rfl, rfl⟩
  go_wp2_with fail
  go_at_call 10
  refine hs2.mono ?_
  rintro e w2 ⟨rfl, rfl⟩
  go_upto_region 6 with fail
  clear hs1 hs2 h1 h2
  go_upto_region 7 with (go_at_call 22; refine hmd.mono ?_; rintro e Y ⟨Aj, cj, Be, de, rfl, g1, g2, g3, g4, g5, hbY⟩)
  obtain ⟨b2, o2, hb2⟩ := open_i64 g5.arr
  have HE := Lib.hid hb2
  have hbw := hbX.trans (hbY.mono hbX.size)
  have HAY := Lib.hid ((hA.keep hbX).keep hbY)
  have HBY := Lib.hid ((hB.keep hbX).keep hbY)
  have HJ := Lib.hid (ArrF.arr g3)
  have G2 := Lib.hid g2
  have HOK := Lib.hid hok
  have HOKM := Lib.hid hokm
  have HNIL := Lib.hid hnil
  have HNILM := Lib.hid hnilm
  have HR12 := Lib.hid hr12
  have HM12 := Lib.hid hm12
  have hel : (endsTo rs rs.length).length = rs.length := endsTo_length _ _
  clear hb2 g5 g3 hmd hA hB hbY g2 hok hokm hi hj hnil hnilm hlen hlenm hr12 hm12
  generalize hL : (jour 0 rs).length = L at *
  obtain ⟨n, hn, hnL⟩ : ∃ n : Nat, m.tmod ((L : Int) + 1) = (n : Int) ∧ n ≤ L := by
    refine ⟨(m % ((L : Int) + 1)).toNat, ?_, ?_⟩
    · rw [Int.tmod_eq_emod_of_nonneg hm.1, Int.toNat_of_nonneg (Int.emod_nonneg _ (by omega))]
    · have := Int.emod_lt_of_pos m (show (0 : Int) < (L : Int) + 1 by omega)
      omega
  have hm0 := hm.1
  go_upto_region 8 with fail
  go_wp2
  go_loop [11] (fun i => ∃ k : Nat, k ≤ rs.length ∧ i = .int .i64 k ∧ (jour 0 (rs.take k)).length ≤ n) (fun i => rs.length - (intOf i).toNat)
  case atStart => exact ⟨0, Nat.zero_le _, rfl, Nat.zero_le _⟩
  case round =>
    obtain ⟨k, hk, rfl, hEn⟩ := hrel
    have HEN := Lib.hid hEn
    clear hEn
    by_cases hlt : k < rs.length ∧ (jour 0 (rs.take (k + 1))).length ≤ n
    · obtain ⟨hlt, hle⟩ := hlt
      obtain ⟨rfl, hbs2, hc2⟩ := HE.out (by intro h; rw [h] at hel; simp at hel; rw [← hel] at hlt; simp at hlt)
      have q4 := hc2 k _ (endsTo_get rs rs.length k hlt)
      clear hc2 HE
      generalize hq : (jour 0 (rs.take (k + 1))).length = q at *
      have HQQ := Lib.hid hq
      clear hq
      go_wp2
      go_round
      case rel => exact ⟨k + 1, by omega, by go_num, by rw [HQQ.out]; exact hle⟩
      case measure => simp [intOf]; omega
    · have hW : Within rs n k := ⟨hk, HEN.out, fun r hr => by
        have h1 := (List.getElem?_eq_some_iff.1 hr).1
        exact Nat.lt_of_not_le fun h => hlt ⟨h1, h⟩⟩
      have hW' := Lib.hid hW
      have hex : k < rs.length → ∃ q : Nat, n < q ∧ Y.cell? ⟨b2, o2 + k, none⟩ = some (.int .i64 (q : Int)) ∧ Be = some ⟨b2, o2, none⟩ := fun h => by
        obtain ⟨e, _, hc2⟩ := HE.out (by intro h'; rw [h'] at hel; simp at hel; rw [← hel] at h; simp at h)
        exact ⟨_, Nat.lt_of_not_le fun h' => hlt ⟨h, h'⟩, hc2 k _ (endsTo_get rs rs.length k h), e⟩
      have HX := Lib.hid hex
      clear hlt hW hex HE
      by_cases hlt : k < rs.length
      · obtain ⟨q, hq1, hq2, rfl⟩ := HX.out hlt
        clear HX
        go_upto_region 11 with fail
        clear hq2 hq1
        have hsn : ((jour 0 rs).take n).length = n := by rw [List.length_take, hL]; omega
        have HSN := Lib.hid hsn
        clear hsn
        have hcut := cut_any Aj (jour 0 rs) cj (n : Int) Y HJ.out G2.out (by omega) (by omega) (by unfold I64; omega)
        rw [Int.toNat_natCast, hL] at hcut
        go_wp2_with fail
        go_at_call 20
        refine hcut.mono ?_
        rintro e Z ⟨As, cs, rfl, s1, s2, s3, hbZ⟩
        have hpar := parses_take HOK.out hW'.out.2.1 hW'.out.2.2
        have hb8 : B8 ((jour 0 rs).take n) := fun x hx => jour_B8 _ _ x (List.mem_of_mem_take hx)
        have hwh := whole_any As ((jour 0 rs).take n) _ (rs.take k) cs Z (ArrF.arr s3) s2 hb8 (by rw [HSN.out]; omega) s1 hpar
        rw [HSN.out] at hwh
        try rw [HSN.out]
        clear s1 s2 s3 hpar hb8 hcut
        go_wp2_with fail
        go_at_call 18
        refine hwh.mono ?_
        rintro e Z2 ⟨Ax, cx, rfl, x1, x2, x3, hbZ2⟩
        have hyz := hbZ.trans (hbZ2.mono hbZ.size)
        have hal : (rs.take k ++ ms).length = k + ms.length := by rw [List.length_append, List.length_take]; omega
        have hokA : ∀ r ∈ rs.take k ++ ms, OkR r := fun r hr => by
          rcases List.mem_append.1 hr with h | h
          · exact HOK.out r (List.mem_of_mem_take h)
          · exact HOKM.out r h
        have hjA : (jour 0 (rs.take k ++ ms)).length ≤ 3000 := by
          have := jour_len_le (rs.take k ++ ms) (fun r hr => by
            rcases List.mem_append.1 hr with h | h
            · exact HR12.out r (List.mem_of_mem_take h)
            · exact HM12.out r h) 0
          omega
        have hst : PutAt Y (rs.take k ++ ms) k (.slice Ax (jour 0 (rs.take k)).length cx) Z2 :=
          ⟨Ax, cx, by rw [all_take rs ms hk], by rw [all_take rs ms hk]; exact x1, by rw [all_take rs ms hk]; exact x2, by rw [all_take rs ms hk]; exact x3.mono hbZ.size, hyz⟩
        have HST := Lib.hid hst
        have HAG := Lib.hid (fun (t : Nat) (r : List Int) (h : ms[t]? = some r) => all_get rs ms hk h)
        have HOKA := Lib.hid hokA
        have HJA := Lib.hid hjA
        have HHS := Lib.hid (heads_ex (HAY.out.take k))
        have HHG := Lib.hid (heads_ex HBY.out)
        have hkl : (rs.take k).length = k := by rw [List.length_take]; omega
        have HKL := Lib.hid hkl
        clear hst hokA hjA x1 x2 x3 hbZ hbZ2 hwh hyz HEN HOK HOKM HR12 HM12 hkl
        obtain ⟨b3, o3, hb3⟩ := HBY.out.open_
        have HB := Lib.hid hb3
        clear hb3
        generalize hall : rs.take k ++ ms = all at *
        have HALL := Lib.hid hall
        clear hall
        go_upto_region 12 with fail
        go_wp2
        go_loopw [12, 13] (fun x i wr => ∃ t : Nat, t ≤ ms.length ∧ i = .int .i64 t ∧ PutAt Y all (k + t) x wr) (fun _ i _ => ms.length - (intOf i).toNat)
        case atStart => exact ⟨0, Nat.zero_le _, rfl, HST.out⟩
        case round =>
          clear HST
          obtain ⟨t, ht, rfl, Ap, cp, rfl, p1, p2, p3, hbl⟩ := hrel
          have hjl : (jour 0 (all.take (k + t))).length ≤ 3000 := Nat.le_trans (jour_take_le all 0 (k + t)) HJA.out
          by_cases hlt : t < ms.length
          · obtain ⟨r, hr⟩ := get_ex hlt
            obtain ⟨rfl, hbs, hc⟩ := HB.out (by intro h; subst h; simp at hlt)
            obtain ⟨A2, c2, q1, q2, q3⟩ := hc t r hr
            have hrA := HAG.out t r hr
            have hok := HOKA.out r (List.mem_of_getElem? hrA)
            have hput := putL_any Ap A2 (jour 0 (all.take (k + t))) [] r (all.take (k + t)) cp c2 wr p3.arr p2 (jour_B8 _ _) (by omega) p1 (parses_jour 0 fun x hx => HOKA.out x (List.mem_of_mem_take hx)) (q3.keep hbl) hok.2 (by have := hok.1; omega)
            rw [putF_ok hrA hok (by have := HJA.out; omega)] at hput
            have hck := (hbl.cell (p := ⟨b3, o3 + t, none⟩) hbs).trans q1
            have HBL := Lib.hid hbl
            clear hc hr q1 q2 q3 hok p1 p2 p3 HB HHS HHG hrA
            generalize hjk : jour 0 (all.take (k + t)) = jk at *
            generalize hjk1 : jour 0 (all.take (k + t + 1)) = jk1 at *
            go_wp2_with (go_at_call 14; refine hput.mono ?_; rintro e w1 ⟨A1, c1, rfl, g1, g2, g3, hb1⟩)
            have hfin : PutAt Y all (k + (t + 1)) (.slice A1 jk1.length c1) w1 := ⟨A1, c1, by rw [← Nat.add_assoc, hjk1], by rw [← Nat.add_assoc, hjk1]; exact g1, by rw [← Nat.add_assoc, hjk1]; exact g2, by rw [← Nat.add_assoc, hjk1]; exact g3.mono HBL.out.size, HBL.out.trans (hb1.mono HBL.out.size)⟩
            go_roundw
            case rel => exact ⟨t + 1, by omega, by go_num, hfin⟩
            case measure => simp [intOf]; omega
          · obtain rfl : t = ms.length := by omega
            have hta : all.take (k + ms.length) = all := List.take_of_length_le (by omega)
            rw [hta] at p1 p2 p3
            simp only [hta]
            clear hta hjl HB
            have HX3 := Lib.hid (ArrF.arr p3)
            have HX2 := Lib.hid p2
            obtain ⟨hs, hhs⟩ := HHS.out
            obtain ⟨gs, hgs⟩ := HHG.out
            have HHS1 := Lib.hid hhs
            have HHG1 := Lib.hid hgs
            have hown0 : (wr.alloc (.cells #[] 29)).ownsRow wr.heap.size 29 1 (.slice (some ⟨wr.heap.size, 0, none⟩) 0 0) 0 [] :=
              ⟨rfl, .inr ⟨wr.heap.size, 0, #[], rfl, Nat.le_refl _, World.alloc_heap_new wr _, Nat.le_refl _, Nat.zero_le _, rfl, rfl⟩⟩
            have HOWN0 := Lib.hid hown0
            have hbA := hbl.alloc hbl.size (.cells #[] 29)
            have HBA := Lib.hid hbA
            have HNM := Lib.hid (fun (e : B = none) => (show ms.length = 0 ∧ d = 0 from ⟨by rw [(HNILM.out e).1]; rfl, (HNILM.out e).2⟩))
            have HNA := Lib.hid (fun (e : A = none) => (show k = 0 ∧ c = 0 from ⟨by have := (HNIL.out e).1; rw [this] at hk; simpa using hk, (HNIL.out e).2⟩))
            clear hown0 hbA hhs hgs HHS HHG p3 p2
            go_wp2_with (at_builtin; go_loud (first
              | (refine wpList_spread _ rfl _ _ rfl Y wr.heap.size _ 0 [] rfl HOWN0.out A k c rfl HNA.out hs (rs.take k) HHS1.out HKL.out HBA.out (by omega) (by simp) ?_; intro v1 w1 ho1 hb1; go_frame)
              | (refine wpList_spread _ rfl _ _ rfl Y wr.heap.size _ (0 + k) ([] ++ hs) rfl ho1 B ms.length d rfl HNM.out gs ms HHG1.out rfl (HBA.out.trans (hb1.mono hbl.size)) (by omega) (by have := hb1.size; simp at this; omega) ?_; intro v2 w2 ho2 hb2; go_frame)))
            have hb12 := hb1.trans hb2
            have hy2 := HBA.out.trans (hb12.mono hbl.size)
            have hr2 := ((Below.refl wr.heap.size wr).alloc (Nat.le_refl _) (.cells #[] 29)).trans hb12
            rw [List.nil_append] at ho2
            obtain ⟨A3, c3, hv2, r2, _, r4, _⟩ := row_forms ho2
            subst hv2
            have hl3 : 0 + k + ms.length = all.length := by omega
            rw [hl3] at r2
            rw [hl3]
            have hL3 : LL w2 A3 all := by rw [← HALL.out]; exact ll_of_row HHS1.out HHG1.out hy2 r4
            have HL3 := Lib.hid hL3
            have hmd := made_any A3 all c3 w2 hL3 HOKA.out (by have := HJA.out; omega) (by omega)
            have HAL := Lib.hid hal
            clear hal hl3
            clear ho1 ho2 hb1 hb2 r4 hL3 HHS1 HHG1 HOWN0 HBA
            go_at_call 22
            refine hmd.mono ?_
            rintro e w3 ⟨A4, c4, B4, d4, rfl, t1, t2, t3, _, _, hb3⟩
            have hy3 := hy2.trans (hb3.mono hy2.size)
            have hr3 := hr2.trans (hb3.mono hr2.size)
            have hsm := same_any Ap A4 (jour 0 all) (jour 0 all) cp c4 w3 (Arr.keep HX3.out hr3) t3.arr (by have := HJA.out; omega) (by have := HJA.out; omega)
            rw [decide_eq_true rfl] at hsm
            clear t3 hmd
            go_wp2_with fail
            go_at_call 17
            refine hsm.mono ?_
            rintro e w4 ⟨rfl, hb4⟩
            have hy4 := hy3.trans (hb4.mono hy3.size)
            have hr4 := hr3.trans (hb4.mono hr3.size)
            have h24 := hb3.trans (hb4.mono hb3.size)
            have hrd := readL_any Ap (jour 0 all) [] all cp w4 (Arr.keep HX3.out hr4) (jour_B8 _ _) (by have := HJA.out; omega) p1 (parses_jour 0 HOKA.out)
            clear hsm
            go_wp2_with fail
            go_at_call 12
            refine hrd.mono ?_
            rintro e w5 ⟨A5, c5, B5, d5, rfl, _, _, _, q4, _, hb5⟩
            have hrc := records_same A5 A3 all all c5 c3 w5 q4.ll (HL3.out.keep (h24.trans (hb5.mono h24.size))) (by have := HAL.out; omega) (by have := HAL.out; omega) (fun y hy => by have := (HOKA.out y hy).1; omega) (fun y hy => by have := (HOKA.out y hy).1; omega)
            rw [decide_eq_true rfl] at hrc
            clear q4 hrd
            go_wp2_with fail
            go_at_call 16
            refine hrc.mono ?_
            rintro e w6 ⟨rfl, hb6⟩
            go_wp2_with fail
            go_ret
            have hy5 := hy4.trans (hb5.mono hy4.size)
            exact ⟨rfl, hbw.trans ((hy5.trans (hb6.mono hy5.size)).mono hbw.size)⟩
      · clear HX
        go_upto_region 11 with fail
        have hsn : ((jour 0 rs).take n).length = n := by rw [List.length_take, hL]; omega
        have HSN := Lib.hid hsn
        clear hsn
        have hcut := cut_any Aj (jour 0 rs) cj (n : Int) Y HJ.out G2.out (by omega) (by omega) (by unfold I64; omega)
        rw [Int.toNat_natCast, hL] at hcut
        go_wp2_with fail
        go_at_call 20
        refine hcut.mono ?_
        rintro e Z ⟨As, cs, rfl, s1, s2, s3, hbZ⟩
        have hpar := parses_take HOK.out hW'.out.2.1 hW'.out.2.2
        have hb8 : B8 ((jour 0 rs).take n) := fun x hx => jour_B8 _ _ x (List.mem_of_mem_take hx)
        have hwh := whole_any As ((jour 0 rs).take n) _ (rs.take k) cs Z (ArrF.arr s3) s2 hb8 (by rw [HSN.out]; omega) s1 hpar
        rw [HSN.out] at hwh
        try rw [HSN.out]
        clear s1 s2 s3 hpar hb8 hcut
        go_wp2_with fail
        go_at_call 18
        refine hwh.mono ?_
        rintro e Z2 ⟨Ax, cx, rfl, x1, x2, x3, hbZ2⟩
        have hyz := hbZ.trans (hbZ2.mono hbZ.size)
        have hal : (rs.take k ++ ms).length = k + ms.length := by rw [List.length_append, List.length_take]; omega
        have hokA : ∀ r ∈ rs.take k ++ ms, OkR r := fun r hr => by
          rcases List.mem_append.1 hr with h | h
          · exact HOK.out r (List.mem_of_mem_take h)
          · exact HOKM.out r h
        have hjA : (jour 0 (rs.take k ++ ms)).length ≤ 3000 := by
          have := jour_len_le (rs.take k ++ ms) (fun r hr => by
            rcases List.mem_append.1 hr with h | h
            · exact HR12.out r (List.mem_of_mem_take h)
            · exact HM12.out r h) 0
          omega
        have hst : PutAt Y (rs.take k ++ ms) k (.slice Ax (jour 0 (rs.take k)).length cx) Z2 :=
          ⟨Ax, cx, by rw [all_take rs ms hk], by rw [all_take rs ms hk]; exact x1, by rw [all_take rs ms hk]; exact x2, by rw [all_take rs ms hk]; exact x3.mono hbZ.size, hyz⟩
        have HST := Lib.hid hst
        have HAG := Lib.hid (fun (t : Nat) (r : List Int) (h : ms[t]? = some r) => all_get rs ms hk h)
        have HOKA := Lib.hid hokA
        have HJA := Lib.hid hjA
        have HHS := Lib.hid (heads_ex (HAY.out.take k))
        have HHG := Lib.hid (heads_ex HBY.out)
        have hkl : (rs.take k).length = k := by rw [List.length_take]; omega
        have HKL := Lib.hid hkl
        clear hst hokA hjA x1 x2 x3 hbZ hbZ2 hwh hyz HEN HOK HOKM HR12 HM12 hkl
        obtain ⟨b3, o3, hb3⟩ := HBY.out.open_
        have HB := Lib.hid hb3
        clear hb3
        generalize hall : rs.take k ++ ms = all at *
        have HALL := Lib.hid hall
        clear hall
        go_upto_region 12 with fail
        go_wp2
        go_loopw [12, 13] (fun x i wr => ∃ t : Nat, t ≤ ms.length ∧ i = .int .i64 t ∧ PutAt Y all (k + t) x wr) (fun _ i _ => ms.length - (intOf i).toNat)
        case atStart => exact ⟨0, Nat.zero_le _, rfl, HST.out⟩
        case round =>
          clear HST
          obtain ⟨t, ht, rfl, Ap, cp, rfl, p1, p2, p3, hbl⟩ := hrel
          have hjl : (jour 0 (all.take (k + t))).length ≤ 3000 := Nat.le_trans (jour_take_le all 0 (k + t)) HJA.out
          by_cases hlt : t < ms.length
          · obtain ⟨r, hr⟩ := get_ex hlt
            obtain ⟨rfl, hbs, hc⟩ := HB.out (by intro h; subst h; simp at hlt)
            obtain ⟨A2, c2, q1, q2, q3⟩ := hc t r hr
            have hrA := HAG.out t r hr
            have hok := HOKA.out r (List.mem_of_getElem? hrA)
            have hput := putL_any Ap A2 (jour 0 (all.take (k + t))) [] r (all.take (k + t)) cp c2 wr p3.arr p2 (jour_B8 _ _) (by omega) p1 (parses_jour 0 fun x hx => HOKA.out x (List.mem_of_mem_take hx)) (q3.keep hbl) hok.2 (by have := hok.1; omega)
            rw [putF_ok hrA hok (by have := HJA.out; omega)] at hput
            have hck := (hbl.cell (p := ⟨b3, o3 + t, none⟩) hbs).trans q1
            have HBL := Lib.hid hbl
            clear hc hr q1 q2 q3 hok p1 p2 p3 HB HHS HHG hrA
            generalize hjk : jour 0 (all.take (k + t)) = jk at *
            generalize hjk1 : jour 0 (all.take (k + t + 1)) = jk1 at *
            go_wp2_with (go_at_call 14; refine hput.mono ?_; rintro e w1 ⟨A1, c1, rfl, g1, g2, g3, hb1⟩)
            have hfin : PutAt Y all (k + (t + 1)) (.slice A1 jk1.length c1) w1 := ⟨A1, c1, by rw [← Nat.add_assoc, hjk1], by rw [← Nat.add_assoc, hjk1]; exact g1, by rw [← Nat.add_assoc, hjk1]; exact g2, by rw [← Nat.add_assoc, hjk1]; exact g3.mono HBL.out.size, HBL.out.trans (hb1.mono HBL.out.size)⟩
            go_roundw
            case rel => exact ⟨t + 1, by omega, by go_num, hfin⟩
            case measure => simp [intOf]; omega
          · obtain rfl : t = ms.length := by omega
            have hta : all.take (k + ms.length) = all := List.take_of_length_le (by omega)
            rw [hta] at p1 p2 p3
            simp only [hta]
            clear hta hjl HB
            have HX3 := Lib.hid (ArrF.arr p3)
            have HX2 := Lib.hid p2
            obtain ⟨hs, hhs⟩ := HHS.out
            obtain ⟨gs, hgs⟩ := HHG.out
            have HHS1 := Lib.hid hhs
            have HHG1 := Lib.hid hgs
            have hown0 : (wr.alloc (.cells #[] 29)).ownsRow wr.heap.size 29 1 (.slice (some ⟨wr.heap.size, 0, none⟩) 0 0) 0 [] :=
              ⟨rfl, .inr ⟨wr.heap.size, 0, #[], rfl, Nat.le_refl _, World.alloc_heap_new wr _, Nat.le_refl _, Nat.zero_le _, rfl, rfl⟩⟩
            have HOWN0 := Lib.hid hown0
            have hbA := hbl.alloc hbl.size (.cells #[] 29)
            have HBA := Lib.hid hbA
            have HNM := Lib.hid (fun (e : B = none) => (show ms.length = 0 ∧ d = 0 from ⟨by rw [(HNILM.out e).1]; rfl, (HNILM.out e).2⟩))
            have HNA := Lib.hid (fun (e : A = none) => (show k = 0 ∧ c = 0 from ⟨by have := (HNIL.out e).1; rw [this] at hk; simpa using hk, (HNIL.out e).2⟩))
            clear hown0 hbA hhs hgs HHS HHG p3 p2
            go_wp2_with (at_builtin; go_loud (first
              | (refine wpList_spread _ rfl _ _ rfl Y wr.heap.size _ 0 [] rfl HOWN0.out A k c rfl HNA.out hs (rs.take k) HHS1.out HKL.out HBA.out (by omega) (by simp) ?_; intro v1 w1 ho1 hb1; go_frame)
              | (refine wpList_spread _ rfl _ _ rfl Y wr.heap.size _ (0 + k) ([] ++ hs) rfl ho1 B ms.length d rfl HNM.out gs ms HHG1.out rfl (HBA.out.trans (hb1.mono hbl.size)) (by omega) (by have := hb1.size; simp at this; omega) ?_; intro v2 w2 ho2 hb2; go_frame)))
            have hb12 := hb1.trans hb2
            have hy2 := HBA.out.trans (hb12.mono hbl.size)
            have hr2 := ((Below.refl wr.heap.size wr).alloc (Nat.le_refl _) (.cells #[] 29)).trans hb12
            rw [List.nil_append] at ho2
            obtain ⟨A3, c3, hv2, r2, _, r4, _⟩ := row_forms ho2
            subst hv2
            have hl3 : 0 + k + ms.length = all.length := by omega
            rw [hl3] at r2
            rw [hl3]
            have hL3 : LL w2 A3 all := by rw [← HALL.out]; exact ll_of_row HHS1.out HHG1.out hy2 r4
            have HL3 := Lib.hid hL3
            have hmd := made_any A3 all c3 w2 hL3 HOKA.out (by have := HJA.out; omega) (by omega)
            have HAL := Lib.hid hal
            clear hal hl3
            clear ho1 ho2 hb1 hb2 r4 hL3 HHS1 HHG1 HOWN0 HBA
            go_at_call 22
            refine hmd.mono ?_
            rintro e w3 ⟨A4, c4, B4, d4, rfl, t1, t2, t3, _, _, hb3⟩
            have hy3 := hy2.trans (hb3.mono hy2.size)
            have hr3 := hr2.trans (hb3.mono hr2.size)
            have hsm := same_any Ap A4 (jour 0 all) (jour 0 all) cp c4 w3 (Arr.keep HX3.out hr3) t3.arr (by have := HJA.out; omega) (by have := HJA.out; omega)
            rw [decide_eq_true rfl] at hsm
            clear t3 hmd
            go_wp2_with fail
            go_at_call 17
            refine hsm.mono ?_
            rintro e w4 ⟨rfl, hb4⟩
            have hy4 := hy3.trans (hb4.mono hy3.size)
            have hr4 := hr3.trans (hb4.mono hr3.size)
            have h24 := hb3.trans (hb4.mono hb3.size)
            have hrd := readL_any Ap (jour 0 all) [] all cp w4 (Arr.keep HX3.out hr4) (jour_B8 _ _) (by have := HJA.out; omega) p1 (parses_jour 0 HOKA.out)
            clear hsm
            go_wp2_with fail
            go_at_call 12
            refine hrd.mono ?_
            rintro e w5 ⟨A5, c5, B5, d5, rfl, _, _, _, q4, _, hb5⟩
            have hrc := records_same A5 A3 all all c5 c3 w5 q4.ll (HL3.out.keep (h24.trans (hb5.mono h24.size))) (by have := HAL.out; omega) (by have := HAL.out; omega) (fun y hy => by have := (HOKA.out y hy).1; omega) (fun y hy => by have := (HOKA.out y hy).1; omega)
            rw [decide_eq_true rfl] at hrc
            clear q4 hrd
            go_wp2_with fail
            go_at_call 16
            refine hrc.mono ?_
            rintro e w6 ⟨rfl, hb6⟩
            go_wp2_with fail
            go_ret
            have hy5 := hy4.trans (hb5.mono hy4.size)
            exact ⟨rfl, hbw.trans ((hy5.trans (hb6.mono hy5.size)).mono hbw.size)⟩
end Jn
end Go.Proofs.Ytcdoalfpaldbmaa
