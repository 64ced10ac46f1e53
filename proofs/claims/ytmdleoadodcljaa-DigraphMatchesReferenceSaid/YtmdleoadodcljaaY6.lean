/- The reference's least: the least next node at a distance. -/
import Derived.Test.YtmdleoadodcljaaY5
import Derived.Test.YtmdleoadodcljaaH0
namespace Go.Proofs.Ytmdleoadodcljaa
open Go.RowKit Sl Fr
namespace Gp
set_option linter.unusedVariables false

def LstI (a d : Nat) (f : Nat → Int) (ps : Dgr.Edges) (x : Int) : Prop :=
  (x = -1 ∧ ∀ u, (a, u) ∈ ps → f u ≠ d) ∨ ∃ u : Nat, x = u ∧ (a, u) ∈ ps ∧ f u = d ∧ ∀ y, (a, y) ∈ ps → f y = d → u ≤ y
theorem LstI.skip {a d p q : Nat} {f : Nat → Int} {ps : Dgr.Edges} {x : Int} (h : LstI a d f ps x) (hk : p = a → f q = d → ∃ u : Nat, x = u ∧ u ≤ q) : LstI a d f (ps ++ [(p, q)]) x := by
  rcases h with ⟨h1, h2⟩ | ⟨u, h1, h2, h3, h4⟩
  · refine .inl ⟨h1, fun u hu => ?_⟩
    rcases List.mem_append.1 hu with hu | hu
    · exact h2 u hu
    · simp only [List.mem_singleton, Prod.mk.injEq] at hu
      obtain ⟨rfl, rfl⟩ := hu
      intro hf
      obtain ⟨y, hy, _⟩ := hk rfl hf
      omega
  · refine .inr ⟨u, h1, List.mem_append_left _ h2, h3, fun y hy hf => ?_⟩
    rcases List.mem_append.1 hy with hy | hy
    · exact h4 y hy hf
    · simp only [List.mem_singleton, Prod.mk.injEq] at hy
      obtain ⟨rfl, rfl⟩ := hy
      obtain ⟨z, hz, hle⟩ := hk rfl hf
      omega
theorem LstI.take {a d q : Nat} {f : Nat → Int} {ps : Dgr.Edges} {x : Int} (h : LstI a d f ps x) (hf : f q = d) (hx : x = -1 ∨ ∃ u : Nat, x = u ∧ q < u) : LstI a d f (ps ++ [(a, q)]) (q : Int) := by
  refine .inr ⟨q, rfl, by simp, hf, fun y hy hfy => ?_⟩
  rcases List.mem_append.1 hy with hy | hy
  · rcases h with ⟨h1, h2⟩ | ⟨u, h1, h2, h3, h4⟩
    · exact absurd hfy (h2 y hy)
    · have := h4 y hy hfy
      rcases hx with hx | ⟨z, hz, hlt⟩ <;> omega
  · simp only [List.mem_singleton, Prod.mk.injEq] at hy
    obtain ⟨_, rfl⟩ := hy
    exact Nat.le_refl _

set_option maxRecDepth 100000 in
set_option maxHeartbeats 6400000 in
theorem rleast_any (n M : Nat) (A : Option Addr) (es : Dgr.Edges) (c a d : Nat) (f : Nat → Int) (w : World) (hA : EdgesA w A es) (ok : Dgr.Ok n es) (hC : CellsV w M n (iF f)) (hn : n ≤ 200) (hl : es.length ≤ 2000) :
    Calls Try.prog 30 #[.slice A es.length c, .slice (some ⟨M, 0, none⟩) n n, .agg #[.int .i64 a, .int .i64 d]] w fun e w' => ∃ x, e = .returned (.int .i64 x) ∧ LstI a d f es x ∧ Below w.heap.size w w' := by
  have hst := start1 w #[.int .i64 (a : Int), .int .i64 (d : Int)] 57
  obtain ⟨b, o, hb⟩ := hA.open
  have HB := Lib.hid hb
  have HO := Lib.hid ok
  have HC := Lib.hid hC
  have HST := Lib.hid hst
  have hMlt := hC.lt
  have HT0 : Hid (LstI a d f (es.take 0) (-1)) := Lib.hid (.inl ⟨rfl, fun u hu => by simp at hu⟩)
  clear hb hA ok hC hst
  go_enter Try.func30, Try.ntmps30
  go_wp2
  go_loopg [7, 8] es.length (fun g v i wr => ∃ (j : Nat) (x : Int), v = .int .i64 x ∧ i = .int .i64 j ∧ j ≤ es.length ∧ g = es.length - j ∧ LstI a d f (es.take j) x ∧ Below (w.alloc (.cells #[.int .i64 (a : Int), .int .i64 (d : Int)] 57)).heap.size (w.alloc (.cells #[.int .i64 (a : Int), .int .i64 (d : Int)] 57)) wr)
  case atStart => exact ⟨0, -1, rfl, rfl, Nat.zero_le _, rfl, HT0.out, Below.refl _ _⟩
  case round =>
    clear HT0
    generalize w.alloc (.cells #[.int .i64 (a : Int), .int .i64 (d : Int)] 57) = X at *
    obtain ⟨j, x, rfl, rfl, hj, rfl, hT, hbl⟩ := hrel
    have HT := Lib.hid hT
    have hbs := hbl.size
    have hwX := HST.out.2
    have hXlt := HST.out.1.lt
    clear hT
    have hj1 : (0 : Int) ≤ (j : Int) := Int.natCast_nonneg _
    by_cases hltj : j < es.length
    · obtain ⟨⟨p, q⟩, hpq⟩ := get_ex hltj
      obtain ⟨rfl, hblt, hc⟩ := HB.out (by intro h; subst h; simp at hltj)
      obtain ⟨hp, hq⟩ := hc j p q hpq
      have hwr := hwX.trans (hbl.mono hwX.size)
      have hcp := (hwr.cell (p := ⟨b, o + j * 2, none⟩) hblt).trans hp
      have hcq := (hwr.cell (p := ⟨b, o + j * 2 + 1, none⟩) hblt).trans hq
      have hqn : q < n := (HO.out _ (List.mem_of_getElem? hpq)).2
      have hq1 : (0 : Int) ≤ (q : Int) := Int.natCast_nonneg _
      have hq2 : (q : Int) < (n : Int) := by omega
      have hE := Lib.hid hpq
      obtain ⟨fq, hfq⟩ : ∃ y, y = f q := ⟨_, rfl⟩
      have hmq : wr.cell? ⟨M, q, none⟩ = some (.int .i64 fq) := by rw [hfq]; exact (HC.out.keep hwr).cell q hqn
      have HFQ := Lib.hid hfq
      obtain ⟨z0, z1⟩ := (HST.out.1.keep hbl).c2
      have hwl := hwr.size
      have hG1 : ∀ p' : Later wr, p'.val.cell? ⟨b, o + j * 2, none⟩ = some (.int .i64 (p : Int)) := fun p' => (p'.below.cell (p := ⟨b, o + j * 2, none⟩) (Nat.lt_of_lt_of_le hblt hwl)).trans hcp
      have hG2 : ∀ p' : Later wr, p'.val.cell? ⟨w.heap.size, 0, none⟩ = some (.int .i64 (a : Int)) := fun p' => (p'.below.cell (p := ⟨w.heap.size, 0, none⟩) (Nat.lt_of_lt_of_le hXlt hbs)).trans z0
      have hG4 : ∀ p' : Later wr, p'.val.cell? ⟨w.heap.size, 1, none⟩ = some (.int .i64 (d : Int)) := fun p' => (p'.below.cell (p := ⟨w.heap.size, 1, none⟩) (Nat.lt_of_lt_of_le hXlt hbs)).trans z1
      have hG3 : ∀ p' : Later wr, p'.val.cell? ⟨M, q, none⟩ = some (.int .i64 fq) := fun p' => (p'.below.cell (p := ⟨M, q, none⟩) (Nat.lt_of_lt_of_le hMlt hwl)).trans hmq
      clear hc hp hq hpq HB hfq
      by_cases hpa : p = a
      · have hpd : ((p : Int) == (a : Int)) = true := by rw [beq_iff_eq]; omega
        by_cases hfd : fq = (d : Int)
        · have hfdd : (fq == (d : Int)) = true := by rw [beq_iff_eq]; exact hfd
          by_cases hx1 : x = -1
          · subst hx1
            have HT2 := Lib.hid (show LstI a d f (es.take (j + 1)) (q : Int) by rw [take_snoc hE.out, hpa]; exact HT.out.take (by rw [← HFQ.out]; exact hfd) (.inl rfl))
            clear hpa hfd
            go_upto_region 6 with fail
            clear hcp hcq hmq z0 z1
            refine wp_region_later (by kernel_rfl) (by kernel_rfl) ?_
            repeat (go_big_quiet_step (fail))
            refine wpQuiet_nil ?_
            intro _ hw'
            obtain ⟨z, hw''⟩ := hw'
            subst hw''
            have hbz := hbl.trans (z.below.mono hbs)
            clear hG1 hG2 hG3 hG4
            go_wp2
            go_roundg (es.length - (j + 1))
            case measure => omega
            case rel => exact ⟨j + 1, (q : Int), rfl, by go_num, by omega, rfl, HT2.out, hbz⟩
          · obtain ⟨u, hu⟩ : ∃ u : Nat, x = u := by
              rcases HT.out with ⟨h, _⟩ | ⟨u, h, _⟩
              · exact absurd h hx1
              · exact ⟨u, h⟩
            subst hu
            have hd0 : decide ((u : Int) < 0) = false := decide_eq_false (by omega)
            by_cases hqu : q < u
            · have hd1 : decide (q < u) = true := decide_eq_true hqu
              have HT2 := Lib.hid (show LstI a d f (es.take (j + 1)) (q : Int) by rw [take_snoc hE.out, hpa]; exact HT.out.take (by rw [← HFQ.out]; exact hfd) (.inr ⟨u, rfl, hqu⟩))
              clear hpa hfd hx1
              go_upto_region 6 with fail
              clear hcp hcq hmq z0 z1
              refine wp_region_later (by kernel_rfl) (by kernel_rfl) ?_
              repeat (go_big_quiet_step (fail))
              refine wpQuiet_nil ?_
              intro _ hw'
              obtain ⟨z, hw''⟩ := hw'
              subst hw''
              have hbz := hbl.trans (z.below.mono hbs)
              clear hG1 hG2 hG3 hG4
              go_wp2
              go_roundg (es.length - (j + 1))
              case measure => omega
              case rel => exact ⟨j + 1, (q : Int), rfl, by go_num, by omega, rfl, HT2.out, hbz⟩
            · have hd1 : decide (q < u) = false := decide_eq_false hqu
              have HT2 := Lib.hid (show LstI a d f (es.take (j + 1)) (u : Int) by rw [take_snoc hE.out]; exact HT.out.skip fun _ _ => ⟨u, rfl, by omega⟩)
              clear hpa hfd hx1
              go_upto_region 6 with fail
              clear hcp hcq hmq z0 z1
              refine wp_region_later (by kernel_rfl) (by kernel_rfl) ?_
              repeat (go_big_quiet_step (fail))
              refine wpQuiet_nil ?_
              intro _ hw'
              obtain ⟨z, hw''⟩ := hw'
              subst hw''
              have hbz := hbl.trans (z.below.mono hbs)
              clear hG1 hG2 hG3 hG4
              go_wp2
              go_roundg (es.length - (j + 1))
              case measure => omega
              case rel => exact ⟨j + 1, (u : Int), rfl, by go_num, by omega, rfl, HT2.out, hbz⟩
        · have hfdd : (fq == (d : Int)) = false := by rw [beq_eq_false_iff_ne]; exact hfd
          have HT2 := Lib.hid (show LstI a d f (es.take (j + 1)) x by rw [take_snoc hE.out]; exact HT.out.skip fun _ h => absurd (by rw [HFQ.out]; exact h) hfd)
          clear hpa hfd
          go_upto_region 6 with fail
          clear hcp hcq hmq z0 z1
          refine wp_region_later (by kernel_rfl) (by kernel_rfl) ?_
          repeat (go_big_quiet_step (fail))
          refine wpQuiet_nil ?_
          intro _ hw'
          obtain ⟨z, hw''⟩ := hw'
          subst hw''
          have hbz := hbl.trans (z.below.mono hbs)
          clear hG1 hG2 hG3 hG4
          go_wp2
          go_roundg (es.length - (j + 1))
          case measure => omega
          case rel => exact ⟨j + 1, x, rfl, by go_num, by omega, rfl, HT2.out, hbz⟩
      · have hpd : ((p : Int) == (a : Int)) = false := by rw [beq_eq_false_iff_ne]; omega
        have HT2 := Lib.hid (show LstI a d f (es.take (j + 1)) x by rw [take_snoc hE.out]; exact HT.out.skip fun h => absurd h hpa)
        clear hpa
        go_upto_region 6 with fail
        clear hcp hcq hmq z0 z1
        refine wp_region_later (by kernel_rfl) (by kernel_rfl) ?_
        repeat (go_big_quiet_step (fail))
        refine wpQuiet_nil ?_
        intro _ hw'
        obtain ⟨z, hw''⟩ := hw'
        subst hw''
        have hbz := hbl.trans (z.below.mono hbs)
        clear hG1 hG2 hG3 hG4
        go_wp2
        go_roundg (es.length - (j + 1))
        case measure => omega
        case rel => exact ⟨j + 1, x, rfl, by go_num, by omega, rfl, HT2.out, hbz⟩
    · have HT2 := Lib.hid (show LstI a d f es x by
        have := HT.out
        rwa [show j = es.length by omega, List.take_length] at this)
      go_wp2
      go_ret
      exact ⟨x, rfl, HT2.out, hwX.trans (hbl.mono hwX.size)⟩
end Gp
end Go.Proofs.Ytmdleoadodcljaa
