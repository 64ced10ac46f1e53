/- Join. -/
import Derived.Test.YtiebhlmjpnhepaaDoorW7
namespace Go.Proofs.YtiebhlmjpnhepaaDoor
open Go.RowKit Sl Fr
namespace Lx
set_option linter.unusedVariables false
set_option linter.unusedSimpArgs false

theorem infoStr : (Tryd.prog.info? 9).map (fun i => (i.zero, i.size, i.bytes)) = some (some (.string ⟨#[]⟩), 1, 16) := by kernel_rfl
def textsOf (ts : List Tk) : List By := (ts.filter fun t => t.kind != 4).map Tk.text
theorem texts_snoc_end {ts : List Tk} {t : Tk} (h : t.kind = 4) : textsOf (ts ++ [t]) = textsOf ts := by simp [textsOf, h]
theorem texts_snoc {ts : List Tk} {t : Tk} (h : t.kind ≠ 4) : textsOf (ts ++ [t]) = textsOf ts ++ [t.text] := by simp [textsOf, h]
theorem texts_le (ts : List Tk) : (textsOf ts).length ≤ ts.length := by
  unfold textsOf
  rw [List.length_map]
  exact List.length_filter_le _ _
theorem join_eq : ∀ xs : List By, Go.Lib.join xs [32] = joinL xs
  | [] => rfl
  | [x] => Go.Lib.join_one _ _
  | x :: y :: r => by
    have ih := join_eq (y :: r)
    rw [Go.Lib.join_cons] at ih ⊢
    rw [joinL, ← ih]
    simp [Go.Lib.joinTail]
def strVs (ws : List By) : List Value := ws.map strV
theorem strVs_snoc (ws : List By) (w : By) : strVs (ws ++ [w]) = strVs ws ++ [strV w] := by simp [strVs]
theorem strVs_length (ws : List By) : (strVs ws).length = ws.length := by simp [strVs]
def JoinAt (ts : List Tk) (w : World) (tv i : Value) (W : World) : Prop := ∃ k : Nat, i = .int .i64 (k : Int) ∧ k ≤ ts.length ∧ W.ownsRow w.heap.size 9 1 tv (textsOf (ts.take k)).length (strVs (textsOf (ts.take k))) ∧ Below w.heap.size w W

set_option maxRecDepth 100000 in
set_option maxHeartbeats 4000000 in
theorem join_any (A : Option Addr) (ts : List Tk) (c : Nat) (w : World) (hA : TokA w A ts) (hl : ts.length ≤ 100000) (hj : (joinL (textsOf ts)).length ≤ 1000000) :
    Calls Tryd.prog 20 #[.slice A ts.length c] w fun e w' => e = .returned (.string ⟨(joinL (textsOf ts)).toArray⟩) ∧ Below w.heap.size w w' := by
  obtain ⟨b, o, hb⟩ := hA.open
  obtain ⟨i0, hi0, hz0, hz1, hz2⟩ := Fr.parts_of infoStr
  have HI := Lib.hid (And.intro hi0 (And.intro hz0 (And.intro hz1 hz2)))
  have HA := Lib.hid hb
  have HJ := Lib.hid hj
  clear hb hA hj hi0 hz0 hz1 hz2
  have H0 : Hid (JoinAt ts w (.slice none 0 0) (.int .i64 0) w) := Lib.hid ⟨0, rfl, Nat.zero_le _, World.ownsRow_nil _ _ _ _, Below.refl _ _⟩
  go_enter Tryd.func20, Tryd.ntmps20
  go_wp2_with fail
  go_loopw [3, 8] (JoinAt ts w) (fun _ i _ => ts.length - (intOf i).toNat)
  case atStart => exact H0.out
  case round =>
    obtain ⟨k, rfl, hk, hrow, hbl⟩ := hrel
    have HR := Lib.hid hrow
    have HB := Lib.hid hbl
    have hbs := hbl.size
    clear hrow hbl H0
    by_cases hlt : k < ts.length
    · obtain ⟨t, ht⟩ := get_ex hlt
      obtain ⟨rfl, hbs2, hc⟩ := HA.out (by intro h; subst h; simp at hlt)
      obtain ⟨g0, g1, g2⟩ := hc k t ht
      have c0 := (HB.out.cell (p := ⟨b, o + k * 3, none⟩) hbs2).trans g0
      have c1 := (HB.out.cell (p := ⟨b, o + k * 3 + 1, none⟩) hbs2).trans g1
      have c2 := (HB.out.cell (p := ⟨b, o + k * 3 + 2, none⟩) hbs2).trans g2
      have HT := Lib.hid (take_snoc ht)
      have hle := texts_le (ts.take k)
      have hl2 : (ts.take k).length ≤ k := List.length_take_le _ _
      clear hc g0 g1 g2 ht HA
      have bA := (Below.refl _ wr).alloc (Nat.le_refl _) (.cells #[.int .i64 (t.kind : Int), .string ⟨t.text.toArray⟩, .int .i64 (t.at_ : Int)] 39)
      have HR2 := Lib.hid (row_keep HR.out bA)
      have HB2 := Lib.hid (HB.out.trans (bA.mono HB.out.size))
      clear bA
      by_cases h4 : t.kind = 4
      · have HT2 : Hid (textsOf (ts.take (k + 1)) = textsOf (ts.take k)) := Lib.hid (by rw [HT.out, texts_snoc_end h4])
        have e4 : (t.kind : Int) = 4 := by omega
        have e5 : ((t.kind : Int) != 4) = false := by simp; omega
        have e6 : (t.kind != 4) = false := by simp; omega
        have E5 := Lib.hid e5
        clear h4 e4 HT
        generalize t.kind = kk at *
        go_wp2_with fail
        go_roundw
        case rel => exact ⟨k + 1, by go_num, by omega, by rw [HT2.out]; exact HR2.out, HB2.out⟩
        case measure => simp [intOf]; omega
      · have HT2 : Hid (textsOf (ts.take (k + 1)) = textsOf (ts.take k) ++ [t.text]) := Lib.hid (by rw [HT.out, texts_snoc h4])
        have e5 : ((t.kind : Int) != 4) = true := by simp; omega
        have e6 : (t.kind != 4) = true := by simp; omega
        obtain ⟨hi0, hz0, hz1, hz2⟩ := HI.out
        have HOWN := Lib.hid (row_own HR.out)
        generalize t.kind = kk at *
        generalize t.text = tx at *
        generalize t.at_ = ta at *
        have bC := (Below.refl _ (wr.alloc (.cells #[.int .i64 (kk : Int), .string ⟨tx.toArray⟩, .int .i64 (ta : Int)] 39))).alloc (Nat.le_refl _) (.cells #[.string ⟨tx.toArray⟩] 9)
        have HR3 := Lib.hid (row_keep HR2.out bC)
        have B3 := Lib.hid (HB2.out.trans (bC.mono HB2.out.size))
        clear bC h4 HT HR2 HB2
        go_wp2_with (at_builtin; refine wpList_append_own _ rfl _ _ 25 rfl w.heap.size 9 i0 (.string ⟨#[]⟩) 1 16 Tryd.underlying25 hi0 hz0 hz1 hz2 rfl (by decide) _ _ _ rfl HR3.out ⟨wr.heap.size + 1, 0, none⟩ 1 1 [.string ⟨tx.toArray⟩] rfl rfl (World.news_of_block (cs := #[.string ⟨tx.toArray⟩]) (t := 9) (fr := (0, 0)) (by have := heap_alloc_new (wr.alloc (.cells #[.int .i64 (kk : Int), .string ⟨tx.toArray⟩, .int .i64 (ta : Int)] 39)) (.cells #[.string ⟨tx.toArray⟩] 9); simpa using this)) (by simp [Value.oneCell']) (by unfold maxLen; omega) (by omega) (by simp; omega) ?_; intro v2 w1 hown1 hgrow1 hat1)
        have B6 := Lib.hid (B3.out.grown hgrow1 (by simp; omega) (fun g hg => HOWN.out g hg))
        have hown : Hid (w1.ownsRow w.heap.size 9 1 v2 (textsOf (ts.take k) ++ [tx]).length (strVs (textsOf (ts.take k) ++ [tx]))) := Lib.hid (by
          rw [strVs_snoc, List.length_append]
          exact hown1)
        clear hown1 hgrow1 hat1 hi0 hz0 hz1 hz2
        go_roundw
        case rel => exact ⟨k + 1, by go_num, by omega, by rw [HT2.out]; exact hown.out, B6.out⟩
        case measure => simp [intOf]; omega
    · have hkk : k = ts.length := by omega
      have hrow := HR.out
      rw [hkk, List.take_length] at hrow
      have hle := texts_le ts
      obtain ⟨B, cap, rfl, hcap, hlen, hArr, _⟩ := row_forms hrow
      have HQ : Hid (Calls Tryd.prog 33 #[.slice B (textsOf ts).length cap, .string ⟨#[32]⟩] wr fun e w' => e = .returned (.string ⟨(joinL (textsOf ts)).toArray⟩) ∧ Below wr.heap.size wr w') := Lib.hid (by
        have hmap : ((textsOf ts).map fun x => (⟨x.toArray⟩ : ByteArray)).map (·.data.toList) = textsOf ts := by
          rw [List.map_map]
          conv => rhs; rw [← List.map_id (textsOf ts)]
          congr 1
        by_cases h0 : textsOf ts = []
        · rw [h0]
          have := Tryd.strings_Join_none B cap ⟨#[32]⟩ wr
          refine this.mono ?_
          rintro e w' ⟨rfl, rfl⟩
          exact ⟨rfl, Below.refl _ _⟩
        · obtain ⟨bk, o2, hB, hb1, hb2, hcell⟩ := hArr (by
            intro h1
            have := congrArg List.length h1
            rw [strVs_length] at this
            exact h0 (List.eq_nil_of_length_eq_zero this))
          subst hB
          have := Tryd.strings_Join bk o2 cap ((textsOf ts).map fun x => (⟨x.toArray⟩ : ByteArray)) ⟨#[32]⟩ wr (fun j x hx => by
            rw [List.getElem?_map] at hx
            cases hj : (textsOf ts)[j]? with
            | none => rw [hj] at hx; cases hx
            | some y =>
              rw [hj] at hx
              injection hx with hx
              subst hx
              exact hcell j _ (by unfold strVs; rw [List.getElem?_map, hj]; rfl)) hb2 (by rw [List.length_map]; omega) (by rw [List.length_map]; exact hcap) (by rw [hmap, show (⟨#[32]⟩ : ByteArray).data.toList = [32] by rfl, join_eq]; have := HJ.out; omega)
          rw [hmap, show (⟨#[32]⟩ : ByteArray).data.toList = [32] by rfl, join_eq, List.length_map] at this
          exact this)
      clear hrow HR HI hArr hkk HA hcap hlen
      go_wp2_with fail
      refine HQ.out.mono ?_
      rintro e W1 ⟨rfl, hb⟩
      have hb2 := Lib.hid (HB.out.trans (hb.mono HB.out.size))
      clear hb HQ
      go_wp2_with fail
      go_ret
      exact ⟨rfl, hb2.out⟩

end Lx
end Go.Proofs.YtiebhlmjpnhepaaDoor
