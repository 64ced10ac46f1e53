/- The reference's Reach. -/
import Derived.Test.YtmdleoadodcljaaY2
namespace Go.Proofs.Ytmdleoadodcljaa
open Go.RowKit Sl Fr
namespace Gp
set_option linter.unusedVariables false

/-- The marked ones of the first k. -/
def rowK (m : Nat → Bool) (k : Nat) : List Nat := (List.range k).filter m
theorem rowK_yes {m : Nat → Bool} {k : Nat} (h : m k = true) : rowK m (k + 1) = rowK m k ++ [k] := by simp [rowK, List.range_succ, List.filter_append, h]
theorem rowK_no {m : Nat → Bool} {k : Nat} (h : m k = false) : rowK m (k + 1) = rowK m k := by simp [rowK, List.range_succ, List.filter_append, h]
theorem rowK_len (m : Nat → Bool) (k : Nat) : (rowK m k).length ≤ k := by
  have := List.length_filter_le m (List.range k)
  rw [List.length_range] at this
  exact this
theorem rowK_reach {n : Nat} {es : Dgr.Edges} {s : Nat} {m : Nat → Bool} (h : ∀ w, m w = true ↔ Dgr.Rch es s w) : rowK m n = Dgr.reachL n es s :=
  Dgr.those_of (List.Pairwise.filter _ List.pairwise_lt_range) fun x => by rw [rowK, List.mem_filter, List.mem_range, h]

theorem rreach_no (n x : Int) (A : Option Addr) (k c : Nat) (w : World) (h : x < 0 ∨ n ≤ x) : Calls Try.prog 19 #[.int .i64 n, .slice A k c, .int .i64 x] w fun e w' => e = .returned (.slice none 0 0) ∧ w' = w := by
  by_cases h0 : x < 0
  · go_enter Try.func19, Try.ntmps19
    go_wp2
    go_ret
    exact ⟨rfl, rfl⟩
  · have h1 : n ≤ x := by omega
    go_enter Try.func19, Try.ntmps19
    go_wp2
    go_ret
    exact ⟨rfl, rfl⟩

set_option maxRecDepth 100000 in
set_option maxHeartbeats 6400000 in
theorem rreach_any (n : Nat) (A : Option Addr) (es : Dgr.Edges) (c s : Nat) (w : World) (hA : EdgesA w A es) (ok : Dgr.Ok n es) (hn : n ≤ 200) (hl : es.length ≤ 2000) (hs : s < n) :
    Calls Try.prog 19 #[.int .i64 n, .slice A es.length c, .int .i64 s] w (GiveN w (Dgr.reachL n es s)) := by
  obtain ⟨i0, hi0, hz0, hz1, hz2⟩ := parts_of infoInt
  have hmk := run_make_row' (P := Try.prog) 53 4 (.bool false) 1 Try.underlying53 infoBool rfl .i64 .i64 n (by omega) (by omega)
  have hC0 := CellsV.made w (.bool false) n 4
  have hb0 := (Below.refl _ w).alloc (Nat.le_refl _) (.cells (madeCells #[.bool false] n) 4)
  have hs1 : (0 : Int) ≤ (s : Int) := Int.natCast_nonneg _
  have hs2 : (s : Int) < (n : Int) := by omega
  have hs3 : ¬ (s : Int) < 0 := by omega
  have hs4 : ¬ (n : Int) ≤ (s : Int) := by omega
  obtain ⟨b, o, hb⟩ := hA.open
  have HB := Lib.hid hb
  have HO := Lib.hid ok
  clear hb hA ok
  go_enter Try.func19, Try.ntmps19
  go_upto_region 4 with fail
  clear hmk
  generalize w.alloc (.cells (madeCells #[.bool false] n) 4) = V at *
  have hcm := hC0.cell s hs
  have hmm := hC0.mark s hs
  have hC1 := hC0.set (G := bF fun x => decide (x = s)) hs (v := .bool true) (by simp [bF]) (fun y hy => by simp [bF, hy])
  have HC1 := Lib.hid hC1
  have HB1 := Lib.hid (hb0.setCell (p := ⟨w.heap.size, s, none⟩) (Nat.le_refl _) (.bool true))
  have HM1 : Hid (Dgr.MarkAt es s 0 fun x => decide (x = s)) := Lib.hid (Dgr.mark_start (by simp) (fun w hw => by simpa using hw))
  clear hC0 hC1 hb0
  go_wp2
  clear hcm hmm
  go_loopg [8] n (fun g i wr => ∃ (r : Nat) (m : Nat → Bool), i = .int .i64 r ∧ r ≤ n ∧ g = n - r ∧ CellsV wr w.heap.size n (bF m) ∧ Dgr.MarkAt es s r m ∧ Below w.heap.size w wr)
  case atStart => exact ⟨0, _, rfl, Nat.zero_le _, rfl, HC1.out, HM1.out, HB1.out⟩
  case round =>
    clear HC1 HB1 HM1
    obtain ⟨r, m, rfl, hr, rfl, hC, hm, hbl⟩ := hrel
    have HC := Lib.hid hC
    have HM := Lib.hid hm
    clear hC hm
    by_cases hlt : r < n
    · have HMI : Hid (Dgr.MarkIn es s r (es.take 0) m) := Lib.hid ⟨HM.out, fun u w h => by simp at h⟩
      clear HM
      go_wp2
      go_loopg [9] es.length (fun g i wr => ∃ (j : Nat) (m : Nat → Bool), i = .int .i64 j ∧ j ≤ es.length ∧ g = es.length - j ∧ CellsV wr w.heap.size n (bF m) ∧ Dgr.MarkIn es s r (es.take j) m ∧ Below w.heap.size w wr)
      case atStart => exact ⟨0, m, rfl, Nat.zero_le _, rfl, HC.out, HMI.out, hbl⟩
      case round =>
        clear HC HMI hbl
        obtain ⟨j, m, rfl, hj, rfl, hC, hm, hbl⟩ := hrel
        have HC := Lib.hid hC
        have HM := Lib.hid hm
        clear hC hm
        have hj1 : (0 : Int) ≤ (j : Int) := Int.natCast_nonneg _
        by_cases hltj : j < es.length
        · obtain ⟨⟨p, q⟩, hpq⟩ := get_ex hltj
          obtain ⟨rfl, hblt, hc⟩ := HB.out (by intro h; subst h; simp at hltj)
          obtain ⟨hp, hq⟩ := hc j p q hpq
          have hcp := (hbl.cell (p := ⟨b, o + j * 2, none⟩) hblt).trans hp
          have hcq := (hbl.cell (p := ⟨b, o + j * 2 + 1, none⟩) hblt).trans hq
          have hpn : p < n := (HO.out _ (List.mem_of_getElem? hpq)).1
          have hqn : q < n := (HO.out _ (List.mem_of_getElem? hpq)).2
          have hp1 : (0 : Int) ≤ (p : Int) := Int.natCast_nonneg _
          have hp2 : (p : Int) < (n : Int) := by omega
          have hq1 : (0 : Int) ≤ (q : Int) := Int.natCast_nonneg _
          have hq2 : (q : Int) < (n : Int) := by omega
          have hmp : wr.cell? ⟨w.heap.size, p, none⟩ = some (.bool (m p)) := HC.out.cell p hpn
          have hmq : wr.cell? ⟨w.heap.size, q, none⟩ = some (.bool (m q)) := HC.out.cell q hqn
          have hmf := HC.out.mark q hqn
          have HE := Lib.hid hpq
          clear hc hp hq hpq HB
          cases hmp' : m p with
          | true =>
            rw [hmp'] at hmp
            have hC2 := HC.out.set (G := bF fun x => if x = q then true else m x) hqn (v := .bool true) (by simp [bF]) (fun y hy => by simp [bF, hy])
            have HC2 := Lib.hid hC2
            have HM2 : Hid (Dgr.MarkIn es s r (es.take (j + 1)) fun x => if x = q then true else m x) := Lib.hid (by
              rw [take_snoc HE.out]
              exact Dgr.mark_step HM.out (List.mem_of_getElem? HE.out) (by simp [hmp']) (fun w hw => by simp [hw]))
            clear hC2 hmp'
            go_wp2
            go_roundg (es.length - (j + 1))
            case measure => omega
            case rel => exact ⟨j + 1, _, by go_num, by omega, rfl, HC2.out, HM2.out, hbl.setCell (p := ⟨w.heap.size, q, none⟩) (Nat.le_refl _) _⟩
          | false =>
            rw [hmp'] at hmp
            have HM2 : Hid (Dgr.MarkIn es s r (es.take (j + 1)) m) := Lib.hid (by
              rw [take_snoc HE.out]
              exact Dgr.mark_step HM.out (List.mem_of_getElem? HE.out) (by simp [hmp']) (fun w hw => rfl))
            clear hmp'
            go_wp2
            go_roundg (es.length - (j + 1))
            case measure => omega
            case rel => exact ⟨j + 1, m, by go_num, by omega, rfl, HC.out, HM2.out, hbl⟩
        · have HM2 : Hid (Dgr.MarkAt es s (r + 1) m) := Lib.hid (Dgr.mark_round (by
            have := HM.out
            rwa [show j = es.length by omega, List.take_length] at this))
          go_wp2
          go_roundg (n - (r + 1))
          case measure => omega
          case rel => exact ⟨r + 1, m, by go_num, by omega, rfl, HC.out, HM2.out, hbl⟩
    · obtain rfl : n = r := by omega
      obtain ⟨Y, hY⟩ : ∃ Y, Y = wr := ⟨_, rfl⟩
      subst hY
      have hmd := Dgr.mark_done HO.out hs HM.out
      have HR := Lib.hid (rowK_reach (n := n) hmd)
      have hown0 := World.ownsRow_lit (e := 3) (size := 1) (base := Y.heap.size) Y #[] 0 (Nat.le_refl _) (by unfold maxLen; omega) rfl
      have HOWN := Lib.hid (show (Y.alloc (.cells #[] 3)).ownsRow Y.heap.size 3 1 (.slice (some ⟨Y.heap.size, 0, none⟩) 0 0) 0 (nv (rowK m 0)) by simpa [nv, rowK] using hown0)
      have HBA := Lib.hid ((Below.refl _ Y).alloc (Nat.le_refl _) (.cells #[] 3))
      clear hown0 hmd HM HB
      go_wp2
      go_loopg [10, 11] n (fun g v i wr => ∃ (k : Nat) (B : Option Addr) (d : Nat), v = .slice B (rowK m k).length d ∧ i = .int .i64 k ∧ k ≤ n ∧ g = n - k ∧ wr.ownsRow Y.heap.size 3 1 (.slice B (rowK m k).length d) (rowK m k).length (nv (rowK m k)) ∧ Below Y.heap.size Y wr)
      case atStart => exact ⟨0, some ⟨Y.heap.size, 0, none⟩, 0, rfl, rfl, Nat.zero_le _, rfl, HOWN.out, HBA.out⟩
      case round =>
        clear HOWN HBA
        obtain ⟨k, B, d, rfl, rfl, hk, rfl, hrow, hbq⟩ := hrel
        have HROW := Lib.hid hrow
        have hkl := rowK_len m k
        clear hrow
        have hk1 : (0 : Int) ≤ (k : Int) := Int.natCast_nonneg _
        have hbs := hbq.size
        by_cases hltk : k < n
        · have hmk' := (HC.out.keep hbq).cell k hltk
          have hk2 : (k : Int) < (n : Int) := by omega
          have hck : wr.cell? ⟨w.heap.size, k, none⟩ = some (.bool (m k)) := hmk'
          clear hmk'
          cases hmk2 : m k with
          | true =>
            rw [hmk2] at hck
            have HY := Lib.hid (rowK_yes hmk2)
            have hownA := HROW.out.alloc (.cells #[.int .i64 (k : Int)] 3)
            clear hmk2
            generalize rowK m k = l at *
            go_wp2_with (at_builtin; go_loud (refine wpList_append_own_at _ rfl _ _ 26 rfl Y.heap.size 3 i0 (.int .i64 0) 1 8 Try.underlying26 hi0 hz0 hz1 hz2 rfl (by decide) (.slice B l.length d) l.length (nv l) rfl hownA ⟨wr.heap.size, 0, none⟩ 1 1 [.int .i64 (k : Int)] rfl rfl (cell_one_new _ _ _) (by simp [Value.oneCell']) (by unfold maxLen; omega) (by omega) (by simp; omega) ?_; intro v' w3 hown' hg3 hnil3 hob3; obtain ⟨g', cap', hv', _⟩ := row_box hown' (by omega); subst hv'; go_frame))
            have hlt' := HROW.out.lt
            have hb3 : Below Y.heap.size Y w3 := (hbq.alloc hbs _).grown hg3 (by simp; omega) (fun g2 e => (hlt' g2 e).1)
            go_roundg (n - (k + 1))
            case measure => omega
            case rel => exact ⟨k + 1, some ⟨g', 0, none⟩, cap', by rw [HY.out, List.length_append]; rfl, by go_num, by omega, rfl, by rw [HY.out, List.length_append, nv_append]; exact hown', hb3⟩
          | false =>
            rw [hmk2] at hck
            have HN := Lib.hid (rowK_no hmk2)
            clear hmk2
            go_wp2
            go_roundg (n - (k + 1))
            case measure => omega
            case rel => exact ⟨k + 1, B, d, by rw [HN.out], by go_num, by omega, rfl, by rw [HN.out]; exact HROW.out, hbq⟩
        · obtain rfl : n = k := by omega
          have hrow := HROW.out
          rw [HR.out] at hrow ⊢
          have HROW2 := Lib.hid hrow
          clear hrow HROW
          go_wp2
          go_ret
          obtain ⟨B2, d2, e2, h2, _, h3, _⟩ := row_forms HROW2.out
          injection e2 with e3 e4 e5
          subst e3 e5
          exact ⟨B, d, rfl, h2, h3.mono hbl.size, hbl.trans (hbq.mono hbl.size)⟩
end Gp
end Go.Proofs.Ytmdleoadodcljaa
