/- The reference's Back: distances to a node, reckoned in rounds. -/
import Derived.Test.YtmdleoadodcljaaY3
namespace Go.Proofs.Ytmdleoadodcljaa
open Go.RowKit Sl Fr
namespace Gp
set_option linter.unusedVariables false

/-- Distances to v; -1 where there is no way. -/
def BackF (n : Nat) (es : Dgr.Edges) (v : Nat) (f : Nat → Int) : Prop := ∀ w, w < n → (∃ k : Nat, f w = k ∧ Dgr.Dist es w v k) ∨ (f w = -1 ∧ ∀ k, ¬ Dgr.Walk es k w v)
def GiveBk (w : World) (n : Nat) (es : Dgr.Edges) (v : Nat) (e : Ending) (w' : World) : Prop := ∃ N f, e = .returned (.slice (some ⟨N, 0, none⟩) n n) ∧ CellsV w' N n (iF f) ∧ BackF n es v f ∧ Below w.heap.size w w'

set_option maxRecDepth 100000 in
set_option maxHeartbeats 6400000 in
theorem rback_any (n : Nat) (A : Option Addr) (es : Dgr.Edges) (c v : Nat) (w : World) (hA : EdgesA w A es) (ok : Dgr.Ok n es) (hn : n ≤ 200) (hl : es.length ≤ 2000) (hv : v < n) :
    Calls Try.prog 29 #[.int .i64 n, .slice A es.length c, .int .i64 v] w (GiveBk w n es v) := by
  have hmk := run_make_row' (P := Try.prog) 26 3 (.int .i64 0) 8 Try.underlying26 infoInt rfl .i64 .i64 n (by omega) (by omega)
  have HC0 := Lib.hid ((CellsV.made w (.int .i64 0) n 3).congr (G := iF fun x => if x < 0 then -1 else 0) fun x _ => by simp [iF])
  have HB0 := Lib.hid ((Below.refl _ w).alloc (Nat.le_refl _) (.cells (madeCells #[.int .i64 0] n) 3))
  have hv1 : (0 : Int) ≤ (v : Int) := Int.natCast_nonneg _
  have hv2 : (v : Int) < (n : Int) := by omega
  obtain ⟨b, o, hb⟩ := hA.open
  have HB := Lib.hid hb
  have HO := Lib.hid ok
  clear hb hA ok
  go_enter Try.func29, Try.ntmps29
  go_wp2
  clear hmk
  go_loopg [8] n (fun g i wr => ∃ k : Nat, i = .int .i64 k ∧ k ≤ n ∧ g = n - k ∧ CellsV wr w.heap.size n (iF fun x => if x < k then -1 else 0) ∧ Below w.heap.size w wr)
  case atStart => exact ⟨0, rfl, Nat.zero_le _, rfl, HC0.out, HB0.out⟩
  case round =>
    clear HC0 HB0
    obtain ⟨k, rfl, hk, rfl, hC, hbl⟩ := hrel
    have HC := Lib.hid hC
    clear hC
    have hk1 : (0 : Int) ≤ (k : Int) := Int.natCast_nonneg _
    by_cases hlt : k < n
    · have hcm := HC.out.cell k hlt
      have hmm := HC.out.mark k hlt
      have hk2 : (k : Int) < (n : Int) := by omega
      have HC2 := Lib.hid (HC.out.set (G := iF fun x => if x < k + 1 then -1 else 0) hlt (v := .int .i64 (-1)) (by simp [iF]) (fun y hy => by
        simp only [iF]
        by_cases h : y < k
        · rw [if_pos h, if_pos (by omega)]
        · rw [if_neg h, if_neg (by omega)]))
      go_wp2
      go_roundg (n - (k + 1))
      case measure => omega
      case rel => exact ⟨k + 1, by go_num, by omega, rfl, HC2.out, hbl.setCell (p := ⟨w.heap.size, k, none⟩) (Nat.le_refl _) _⟩
    · obtain rfl : n = k := by omega
      obtain ⟨Y, hY⟩ : ∃ Y, Y = wr := ⟨_, rfl⟩
      subst hY
      have hcm := HC.out.cell v hv
      have hmm := HC.out.mark v hv
      have HC1 := HC.out.congr (G := iF fun x => -1) fun x hx => by simp only [iF]; rw [if_pos hx]
      have HC2 := Lib.hid (HC1.set (G := iF fun x => if x = v then 0 else -1) hv (v := .int .i64 0) (by simp [iF]) (fun y hy => by simp only [iF]; rw [if_neg hy]))
      have HB2 := Lib.hid (hbl.setCell (p := ⟨w.heap.size, v, none⟩) (Nat.le_refl _) (.int .i64 0))
      have HK0 : Hid (Dgr.BackAt n es v 0 [] fun x => if x = v then 0 else -1) := Lib.hid (Dgr.back_start (by simp) (fun w hw => by simp [hw]))
      clear HC1 HC
      go_wp2
      clear hcm hmm
      go_loopg [9] n (fun g i wr => ∃ (r : Nat) (f : Nat → Int), i = .int .i64 r ∧ r ≤ n ∧ g = n - r ∧ CellsV wr w.heap.size n (iF f) ∧ Dgr.BackAt n es v r [] f ∧ Below w.heap.size w wr)
      case atStart => exact ⟨0, _, rfl, Nat.zero_le _, rfl, HC2.out, HK0.out, HB2.out⟩
      case round =>
        clear HC2 HB2 HK0 hbl
        obtain ⟨r, f, rfl, hr, rfl, hC, hm, hbl⟩ := hrel
        have HC := Lib.hid hC
        have HM := Lib.hid hm
        clear hC hm
        by_cases hltr : r < n
        · have HM0 : Hid (Dgr.BackAt n es v r (es.take 0) f) := Lib.hid HM.out
          clear HM
          go_wp2
          go_loopg [10] es.length (fun g i wr => ∃ (j : Nat) (f : Nat → Int), i = .int .i64 j ∧ j ≤ es.length ∧ g = es.length - j ∧ CellsV wr w.heap.size n (iF f) ∧ Dgr.BackAt n es v r (es.take j) f ∧ Below w.heap.size w wr)
          case atStart => exact ⟨0, f, rfl, Nat.zero_le _, rfl, HC.out, HM0.out, hbl⟩
          case round =>
            clear HC HM0 hbl
            obtain ⟨j, f, rfl, hj, rfl, hC, hm, hbl⟩ := hrel
            have HC := Lib.hid hC
            have HM := Lib.hid hm
            clear hC hm
            have hj1 : (0 : Int) ≤ (j : Int) := Int.natCast_nonneg _
            by_cases hltj : j < es.length
            · obtain ⟨⟨p, q⟩, hpq⟩ := get_ex hltj
              obtain ⟨rfl, hblt, hc⟩ := HB.out (by intro h; subst h; simp at hltj)
              obtain ⟨hp, hq⟩ := hc j p q hpq
              have hcp := (hbl.cell (p := ⟨b, o + j * 2, none⟩) hblt).trans hp
              have hcq := (hbl.cell (p := ⟨b, o + j * 2 + 1, none⟩) hblt).trans hq
              have hpn : p < n := (HO.out _ (List.mem_of_getElem? hpq)).1
              have hqn : q < n := (HO.out _ (List.mem_of_getElem? hpq)).2
              have hp1 : (0 : Int) ≤ (p : Int) := Int.natCast_nonneg _
              have hp2 : (p : Int) < (n : Int) := by omega
              have hq1 : (0 : Int) ≤ (q : Int) := Int.natCast_nonneg _
              have hq2 : (q : Int) < (n : Int) := by omega
              have hmp : wr.cell? ⟨w.heap.size, p, none⟩ = some (.int .i64 (f p)) := HC.out.cell p hpn
              have hmq : wr.cell? ⟨w.heap.size, q, none⟩ = some (.int .i64 (f q)) := HC.out.cell q hqn
              have hmf := HC.out.mark p hpn
              have HE := Lib.hid hpq
              clear hc hp hq hpq HB
              obtain ⟨fp, hfp⟩ : ∃ y, y = f p := ⟨_, rfl⟩
              obtain ⟨fq, hfq⟩ : ∃ y, y = f q := ⟨_, rfl⟩
              rw [← hfp] at hmp
              rw [← hfq] at hmq
              have HFP := Lib.hid hfp
              have HFQ := Lib.hid hfq
              clear hfp hfq
              by_cases hq0 : fq = (r : Int)
              · have hqd : (fq == (r : Int)) = true := by rw [beq_iff_eq]; exact hq0
                by_cases hp0 : fp < 0
                · have HC2 := Lib.hid (HC.out.set (G := iF fun x => if x = p then ((r : Int) + 1) else f x) hpn (v := .int .i64 ((r : Int) + 1)) (by simp [iF]) (fun y hy => by simp only [iF]; rw [if_neg hy]))
                  have HM2 : Hid (Dgr.BackAt n es v r (es.take (j + 1)) fun x => if x = p then ((r : Int) + 1) else f x) := Lib.hid (by
                    rw [take_snoc HE.out]
                    exact Dgr.back_set HM.out hpn hqn (List.mem_of_getElem? HE.out) (by rw [← HFQ.out]; exact hq0) (by rw [← HFP.out]; exact hp0) (by simp) (fun w hw => by simp [hw]))
                  go_wp2
                  go_roundg (es.length - (j + 1))
                  case measure => omega
                  case rel => exact ⟨j + 1, _, by go_num, by omega, rfl, HC2.out, HM2.out, hbl.setCell (p := ⟨w.heap.size, p, none⟩) (Nat.le_refl _) _⟩
                · have HM2 : Hid (Dgr.BackAt n es v r (es.take (j + 1)) f) := Lib.hid (by
                    rw [take_snoc HE.out]
                    exact Dgr.back_keep HM.out hpn hqn (fun h => hp0 (by rw [HFP.out]; exact h.2)))
                  go_wp2
                  go_roundg (es.length - (j + 1))
                  case measure => omega
                  case rel => exact ⟨j + 1, f, by go_num, by omega, rfl, HC.out, HM2.out, hbl⟩
              · have hqd : (fq == (r : Int)) = false := by rw [beq_eq_false_iff_ne]; exact hq0
                have HM2 : Hid (Dgr.BackAt n es v r (es.take (j + 1)) f) := Lib.hid (by
                  rw [take_snoc HE.out]
                  exact Dgr.back_keep HM.out hpn hqn (fun h => hq0 (by rw [HFQ.out]; exact h.1)))
                go_wp2
                go_roundg (es.length - (j + 1))
                case measure => omega
                case rel => exact ⟨j + 1, f, by go_num, by omega, rfl, HC.out, HM2.out, hbl⟩
            · have HM2 : Hid (Dgr.BackAt n es v (r + 1) [] f) := Lib.hid (Dgr.back_round (by
                have := HM.out
                rwa [show j = es.length by omega, List.take_length] at this))
              go_wp2
              go_roundg (n - (r + 1))
              case measure => omega
              case rel => exact ⟨r + 1, f, by go_num, by omega, rfl, HC.out, HM2.out, hbl⟩
        · obtain rfl : n = r := by omega
          have HBF : Hid (BackF n es v f) := Lib.hid (fun x hx => Dgr.back_done HO.out HM.out hx)
          clear HM HB
          go_wp2
          go_ret
          exact ⟨_, f, rfl, HC.out, HBF.out, hbl⟩
end Gp
end Go.Proofs.Ytmdleoadodcljaa
