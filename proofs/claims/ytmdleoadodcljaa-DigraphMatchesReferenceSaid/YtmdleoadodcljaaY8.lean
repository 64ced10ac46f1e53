/- The reference's Check. -/
import Derived.Test.YtmdleoadodcljaaY5
namespace Go.Proofs.Ytmdleoadodcljaa
open Go.RowKit Sl Fr
namespace Gp
set_option linter.unusedVariables false

/-- The places, counted from one. -/
def pF (f : Nat → Int) : Nat → Value := fun i => .int .i64 (f i + 1)

set_option maxRecDepth 100000 in
set_option maxHeartbeats 3200000 in
theorem rcheck_any (n : Nat) (A B : Option Addr) (es : Dgr.Edges) (L : List Int) (c d : Nat) (w : World) (hA : EdgesA w A es) (hB : ArrZ w B L) (ok : Dgr.Ok n es) (hn : n ≤ 200) (hl : es.length ≤ 2000) :
    Calls Try.prog 16 #[.int .i64 n, .slice A es.length c, .slice B L.length d] w fun e w' => e = .returned (.int .i64 (chk n es L)) ∧ Below w.heap.size w w' := by
  by_cases hln : L.length = n
  case neg =>
    have hd : ((L.length : Int) != (n : Int)) = true := by simp; omega
    have hnp := Lib.hid (chk_no (n := n) (es := es) (L := L) fun ⟨l, h1, h2⟩ => hln (by rw [h1, zl_length, h2.len]))
    clear hln hA hB ok
    go_enter Try.func16, Try.ntmps16
    go_wp2
    go_ret
    exact ⟨ret_num hnp.out.symm, Below.refl _ _⟩
  obtain ⟨ab, ao, ha⟩ := hA.open
  obtain ⟨b, o, hb⟩ := hB.open
  have HA := Lib.hid ha
  have HB := Lib.hid hb
  have HO := Lib.hid ok
  have HLN := Lib.hid hln
  have hmk := run_make_row' (P := Try.prog) 26 3 (.int .i64 0) 8 Try.underlying26 infoInt rfl .i64 .i64 n (by omega) (by omega)
  have HC : Hid (CellsV (w.alloc (.cells (madeCells #[.int .i64 0] n) 3)) w.heap.size n (pF fun _ => -1)) := Lib.hid ((CellsV.made w _ n _).congr fun i hi => rfl)
  rw [hln]
  clear ha hb hA hB hln ok
  go_enter Try.func16, Try.ntmps16
  go_wp2
  go_loopg [8] n (fun g i wr => ∃ (k : Nat) (f : Nat → Int), k ≤ n ∧ i = .int .i64 k ∧ g = n - k ∧ Placed n L k f ∧ CellsV wr w.heap.size n (pF f) ∧ Below w.heap.size w wr)
  case atStart => exact ⟨0, fun _ => -1, Nat.zero_le _, rfl, rfl, Placed.start n L fun _ _ => rfl, HC.out, (Below.refl _ _).alloc (Nat.le_refl _) _⟩
  case round =>
    obtain ⟨k, f, hk, rfl, rfl, hP, hC, hbl⟩ := hrel
    clear HC hmk
    have HP := Lib.hid hP
    have HC := Lib.hid hC
    clear hP hC
    by_cases hlt2 : k < n
    · obtain ⟨x, hx⟩ := get_ex (l := L) (j := k) (by have := HLN.out; omega)
      obtain ⟨rfl, hbs, hc⟩ := HB.out (by intro h; subst h; simp at hx)
      have hcx := (hbl.cell (p := ⟨b, o + k, none⟩) hbs).trans (hc k x hx)
      have HX := Lib.hid hx
      clear hc hx HB
      by_cases hin : 0 ≤ x ∧ x < n
      · obtain ⟨v, rfl⟩ : ∃ v : Nat, x = (v : Int) := ⟨x.toNat, by omega⟩
        have hvn : v < n := by omega
        have hv1 : (0 : Int) ≤ (v : Int) := Int.natCast_nonneg _
        have hv2 : (v : Int) < (n : Int) := by omega
        have hcm : wr.cell? ⟨w.heap.size, v, none⟩ = some (.int .i64 (f v + 1)) := HC.out.cell v hvn
        have hmm := HC.out.mark v hvn
        clear hin
        rcases HP.out.val v hvn with hf | ⟨j, hjk, hLj, hf⟩
        · have HF := Lib.hid hf
          rw [hf] at hcm
          replace hcm : wr.cell? ⟨w.heap.size, v, none⟩ = some (.int .i64 0) := hcm
          clear hf
          go_wp2
          go_roundg (n - (k + 1))
          case measure => omega
          case rel => exact ⟨k + 1, up f v k, by omega, by go_num, rfl, HP.out.step hvn HX.out HF.out (up_same _ _ _) (fun w hw => up_ne _ _ hw), HC.out.set hvn (by simp [pF, up_same]) (fun j hj => by simp [pF, up_ne _ _ hj]), hbl.setCell (p := ⟨w.heap.size, v, none⟩) (Nat.le_refl _) _⟩
        · rw [hf] at hcm
          have hj0 : (0 : Int) < (j : Int) + 1 := by omega
          have HN := Lib.hid (chk_no (n := n) (es := es) (L := L) fun h => by
            have := h.perm.once hLj HX.out
            omega)
          clear hf hLj
          go_wp2
          go_ret
          exact ⟨ret_num HN.out.symm, hbl⟩
      · have HN := Lib.hid (chk_no (n := n) (es := es) (L := L) fun h => hin (h.perm.node HX.out))
        by_cases hx0 : x < 0
        · clear hin
          go_wp2
          go_ret
          exact ⟨ret_num HN.out.symm, hbl⟩
        · have hx1 : (n : Int) ≤ x := by omega
          clear hin
          go_wp2
          go_ret
          exact ⟨ret_num HN.out.symm, hbl⟩
    · obtain rfl : k = n := by omega
      clear HB
      go_wp2
      obtain ⟨w0, rfl⟩ : ∃ w0, w0 = wr := ⟨_, rfl⟩
      go_loopg [9] es.length (fun g i wr => ∃ j : Nat, i = .int .i64 j ∧ j ≤ es.length ∧ g = es.length - j ∧ (∀ e ∈ es.take j, f e.1 < f e.2) ∧ Below w0.heap.size w0 wr)
      case atStart => exact ⟨0, rfl, Nat.zero_le _, rfl, fun e he => absurd he (by simp), Below.refl _ _⟩
      case round =>
        obtain ⟨j, rfl, hj, rfl, hall, hb2⟩ := hrel
        have hbs := hbl.size
        have hbw := hbl.trans (hb2.mono hbs)
        have HALL := Lib.hid hall
        clear hall
        by_cases hltj : j < es.length
        · obtain ⟨⟨u, v⟩, huv⟩ := get_ex hltj
          obtain ⟨rfl, hblt, hc⟩ := HA.out (by intro h; subst h; simp at hltj)
          obtain ⟨hu, hv⟩ := hc j u v huv
          have hws := hbw.size
          have hbp : ∀ p : Later wr, Below w.heap.size w p.val := fun p => hbw.trans (p.below.mono hws)
          have hcu : ∀ p : Later wr, p.val.cell? ⟨ab, ao + j * 2, none⟩ = some (.int .i64 u) := fun p => ((hbp p).cell (p := ⟨ab, ao + j * 2, none⟩) hblt).trans hu
          have hcv : ∀ p : Later wr, p.val.cell? ⟨ab, ao + j * 2 + 1, none⟩ = some (.int .i64 v) := fun p => ((hbp p).cell (p := ⟨ab, ao + j * 2 + 1, none⟩) hblt).trans hv
          have hun : u < k := (HO.out _ (List.mem_of_getElem? huv)).1
          have hvn : v < k := (HO.out _ (List.mem_of_getElem? huv)).2
          have hu1 : (0 : Int) ≤ (u : Int) := Int.natCast_nonneg _
          have hu2 : (u : Int) < (k : Int) := by omega
          have hv1 : (0 : Int) ≤ (v : Int) := Int.natCast_nonneg _
          have hv2 : (v : Int) < (k : Int) := by omega
          have HE := Lib.hid huv
          have hb0 : ∀ p : Later wr, Below w0.heap.size w0 p.val := fun p => hb2.trans (p.below.mono hb2.size)
          have hmu : ∀ p : Later wr, p.val.cell? ⟨w.heap.size, u, none⟩ = some (.int .i64 (f u + 1)) := fun p => ((hb0 p).cell (p := ⟨w.heap.size, u, none⟩) HC.out.lt).trans (HC.out.cell u hun)
          have hmv : ∀ p : Later wr, p.val.cell? ⟨w.heap.size, v, none⟩ = some (.int .i64 (f v + 1)) := fun p => ((hb0 p).cell (p := ⟨w.heap.size, v, none⟩) HC.out.lt).trans (HC.out.cell v hvn)
          clear hc hu hv huv HA hbp hb0
          by_cases hf : f u < f v
          · have hd : decide (f v ≤ f u) = false := decide_eq_false (by omega)
            have HF := Lib.hid hf
            clear hf
            go_upto_region 13 with fail
            refine wp_region_later (by kernel_rfl) (by kernel_rfl) ?_
            repeat (go_big_quiet_step (fail))
            refine wpQuiet_nil ?_
            intro _ hw'
            obtain ⟨z, hw''⟩ := hw'
            subst hw''
            have hbz := hb2.trans (z.below.mono hb2.size)
            have hbz2 := hbl.trans (hbz.mono hbs)
            go_wp2
            go_roundg (es.length - (j + 1))
            case measure => omega
            case rel =>
              refine ⟨j + 1, by go_num, by omega, rfl, fun e he => ?_, hbz⟩
              rw [take_snoc HE.out] at he
              rcases List.mem_append.1 he with he | he
              · exact HALL.out e he
              · obtain rfl : e = (u, v) := by simpa using he
                exact HF.out
          · have hd : decide (f v ≤ f u) = true := decide_eq_true (by omega)
            have HN := Lib.hid (chk_no (HP.out.not_topo HO.out (List.mem_of_getElem? HE.out) hf))
            clear hf
            go_upto_region 13 with fail
            refine wp_region_later (by kernel_rfl) (by kernel_rfl) ?_
            repeat (go_big_quiet_step (fail))
            refine wpQuiet_nil ?_
            intro _ hw'
            obtain ⟨z, hw''⟩ := hw'
            subst hw''
            have hbz := hb2.trans (z.below.mono hb2.size)
            have hbz2 := hbl.trans (hbz.mono hbs)
            go_wp2
            go_ret
            exact ⟨ret_num HN.out.symm, hbz2⟩
        · have HT := Lib.hid (chk_yes (HP.out.topo HLN.out (show ∀ e ∈ es, f e.1 < f e.2 by
            have hall := HALL.out
            rwa [List.take_of_length_le (by omega)] at hall)))
          go_wp2
          go_ret
          exact ⟨ret_num HT.out.symm, hbw⟩

end Gp
end Go.Proofs.Ytmdleoadodcljaa
