/- What nearest returns. -/
import Derived.Test.YtmdleoadodcljaaG6
namespace Go.Proofs.Ytmdleoadodcljaa
open Go.RowKit Sl Fr
namespace Gp
set_option linter.unusedVariables false
set_option linter.unusedSimpArgs false

def nearStep (f : Nat → Int) (b : Option Nat) (v : Nat) : Option Nat :=
  if f v = -1 then b else match b with
    | none => some v
    | some x => if f v < f x ∨ (f v = f x ∧ v < x) then some v else some x
theorem step_none {f : Nat → Int} {v : Nat} (hv : f v ≠ -1) : nearStep f none v = some v := by unfold nearStep; rw [if_neg hv]
theorem step_less {f : Nat → Int} {v x : Nat} (hv : f v ≠ -1) (h : f v < f x) : nearStep f (some x) v = some v := by unfold nearStep; rw [if_neg hv]; exact if_pos (.inl h)
theorem step_same {f : Nat → Int} {v x : Nat} (hv : f v ≠ -1) (h : f v = f x) (h2 : v < x) : nearStep f (some x) v = some v := by unfold nearStep; rw [if_neg hv]; exact if_pos (.inr ⟨h, h2⟩)
theorem step_not {f : Nat → Int} {v x : Nat} (hv : f v ≠ -1) (h : ¬ f v < f x) (h2 : ¬ (f v = f x ∧ v < x)) : nearStep f (some x) v = some x := by unfold nearStep; rw [if_neg hv]; exact if_neg (fun h' => h'.elim h h2)
def near (f : Nat → Int) (l : List Nat) : Option Nat := l.foldl (nearStep f) none
/-- The nearest so far. -/
def NearIs (f : Nat → Int) (l : List Nat) : Option Nat → Prop
  | none => ∀ v ∈ l, f v = -1
  | some x => x ∈ l ∧ f x ≠ -1 ∧ ∀ v ∈ l, f v ≠ -1 → f x < f v ∨ (f x = f v ∧ x ≤ v)
theorem NearIs.step {f : Nat → Int} {l : List Nat} {b : Option Nat} (h : NearIs f l b) (v : Nat) : NearIs f (l ++ [v]) (nearStep f b v) := by
  unfold nearStep
  by_cases hv : f v = -1
  · rw [if_pos hv]
    cases b with
    | none =>
      intro u hu
      rcases List.mem_append.1 hu with hu | hu
      · exact h u hu
      · obtain rfl : u = v := by simpa using hu
        exact hv
    | some x =>
      refine ⟨by simp [h.1], h.2.1, fun u hu hf => ?_⟩
      rcases List.mem_append.1 hu with hu | hu
      · exact h.2.2 u hu hf
      · obtain rfl : u = v := by simpa using hu
        exact absurd hv hf
  · rw [if_neg hv]
    cases b with
    | none =>
      refine ⟨by simp, hv, fun u hu hf => ?_⟩
      rcases List.mem_append.1 hu with hu | hu
      · exact absurd (h u hu) hf
      · obtain rfl : u = v := by simpa using hu
        exact .inr ⟨rfl, Nat.le_refl _⟩
    | some x =>
      dsimp only
      split
      · rename_i hc
        refine ⟨by simp, hv, fun u hu hf => ?_⟩
        rcases List.mem_append.1 hu with hu | hu
        · have := h.2.2 u hu hf
          omega
        · obtain rfl : u = v := by simpa using hu
          exact .inr ⟨rfl, Nat.le_refl _⟩
      · rename_i hc
        refine ⟨by simp [h.1], h.2.1, fun u hu hf => ?_⟩
        rcases List.mem_append.1 hu with hu | hu
        · exact h.2.2 u hu hf
        · obtain rfl : u = v := by simpa using hu
          omega
theorem near_is (f : Nat → Int) (l : List Nat) : NearIs f l (near f l) := by
  generalize hr : l.reverse = r
  induction r generalizing l with
  | nil =>
    obtain rfl : l = [] := by simpa using hr
    intro v hv
    cases hv
  | cons v r ih =>
    obtain rfl : l = r.reverse ++ [v] := by rw [← List.reverse_reverse l, hr]; simp
    have := (ih r.reverse (by simp)).step v
    unfold near at *
    rw [List.foldl_append]
    exact this

set_option maxRecDepth 100000 in
set_option maxHeartbeats 3200000 in
theorem near_any (n N c : Nat) (A : Option Addr) (l : List Nat) (f : Nat → Int) (w : World) (hA : Row w 0 A l) (hl : ∀ x ∈ l, x < n) (hC : CellsV w N n (iF f)) (hn : n ≤ 200) (hlen : l.length ≤ 2000) :
    Calls Try.prog 40 #[.slice A l.length c, .slice (some ⟨N, 0, none⟩) n n] w fun e w' => e = .returned (.tuple #[.int .i64 (((near f l).getD 0 : Nat) : Int), .bool (near f l).isSome]) ∧ Below w.heap.size w w' := by
  obtain ⟨b, o, hb⟩ := hA.open
  have HB := Lib.hid hb
  have HL := Lib.hid hl
  have HC := Lib.hid hC
  have hNlt := hC.lt
  clear hb hA hl hC
  go_enter Try.func40, Try.ntmps40
  go_wp2
  go_loopg [6, 7, 12] l.length (fun g bv fv i wr => ∃ (k : Nat) (x : Option Nat), i = .int .i64 k ∧ k ≤ l.length ∧ g = l.length - k ∧ bv = .int .i64 ((x.getD 0 : Nat) : Int) ∧ fv = .bool x.isSome ∧ x = (l.take k).foldl (nearStep f) none ∧ Below w.heap.size w wr)
  case atStart => exact ⟨0, none, rfl, Nat.zero_le _, rfl, rfl, rfl, rfl, Below.refl _ _⟩
  case round =>
    obtain ⟨k, x, rfl, hk, rfl, rfl, rfl, hx, hbl⟩ := hrel
    have HBB := Lib.hid hx
    have hbs := hbl.size
    clear hx
    by_cases hlt : k < l.length
    · obtain ⟨v, hv⟩ := get_ex hlt
      obtain ⟨rfl, _, hbs2, hc⟩ := HB.out (by intro h; subst h; simp at hlt)
      have hcv := (hbl.cell (p := ⟨b, o + k, none⟩) hbs2).trans (hc k v hv)
      have hvn := HL.out v (List.mem_of_getElem? hv)
      have hfv : wr.cell? ⟨N, v, none⟩ = some (.int .i64 (f v)) := (hbl.cell (p := ⟨N, v, none⟩) hNlt).trans (HC.out.cell v hvn)
      have hv1 : (0 : Int) ≤ (v : Int) := Int.natCast_nonneg _
      have hv2 : (v : Int) < (n : Int) := by omega
      have HX := Lib.hid hv
      have hxm : ∀ y, x = some y → y < n := fun y hy => by
        have h1 := near_is f (l.take k)
        unfold near at h1
        rw [← HBB.out, hy] at h1
        exact HL.out y (List.mem_of_mem_take h1.1)
      clear hc hv HB
      have hlv : ∀ p : Later wr, p.val.cell? ⟨N, v, none⟩ = some (.int .i64 (f v)) := fun p => (p.below.cell (p := ⟨N, v, none⟩) (by show N < _; omega)).trans hfv
      by_cases hf : f v = -1
      · have HF := Lib.hid hf
        rw [hf] at hfv
        clear hf hlv hxm
        go_wp2
        go_roundg (l.length - (k + 1))
        case measure => omega
        case rel => exact ⟨k + 1, x, by go_num, by omega, rfl, rfl, rfl, by rw [take_snoc HX.out, List.foldl_append, ← HBB.out]; simp [nearStep, HF.out], hbl⟩
      · have HF := Lib.hid hf
        have hfd : (f v == -1) = false := by simpa using hf
        clear hf
        cases x with
        | none =>
          clear hxm
          have hsn : (none : Option Nat).isSome = false := rfl
          rw [hsn]
          go_upto_region 6 with fail
          refine wp_region_later (by kernel_rfl) (by kernel_rfl) ?_
          repeat (go_big_quiet_step (fail))
          refine wpQuiet_nil ?_
          intro _ hw'
          obtain ⟨z, hw''⟩ := hw'
          subst hw''
          have hbz := hbl.trans (z.below.mono hbs)
          go_wp2
          go_roundg (l.length - (k + 1))
          case measure => omega
          case rel => exact ⟨k + 1, some v, by go_num, by omega, rfl, rfl, rfl, by rw [take_snoc HX.out, List.foldl_append, ← HBB.out]; exact (step_none HF.out).symm, hbz⟩
        | some x =>
          have hxn := hxm x rfl
          have hlx : ∀ p : Later wr, p.val.cell? ⟨N, x, none⟩ = some (.int .i64 (f x)) := fun p => (p.below.cell (p := ⟨N, x, none⟩) (by show N < _; omega)).trans ((hbl.cell (p := ⟨N, x, none⟩) hNlt).trans (HC.out.cell x hxn))
          have hx1 : (0 : Int) ≤ (x : Int) := Int.natCast_nonneg _
          have hx2 : (x : Int) < (n : Int) := by omega
          have hsn : (some x : Option Nat).isSome = true := rfl
          have hgd : (some x : Option Nat).getD 0 = x := rfl
          rw [hsn, hgd]
          clear hxm
          by_cases h1 : f v < f x
          · have H1 := Lib.hid h1
            have hd1 : decide (f v < f x) = true := decide_eq_true h1
            clear h1
            go_upto_region 6 with fail
            refine wp_region_later (by kernel_rfl) (by kernel_rfl) ?_
            repeat (go_big_quiet_step (fail))
            refine wpQuiet_nil ?_
            intro _ hw'
            obtain ⟨z, hw''⟩ := hw'
            subst hw''
            have hbz := hbl.trans (z.below.mono hbs)
            go_wp2
            go_roundg (l.length - (k + 1))
            case measure => omega
            case rel => exact ⟨k + 1, some v, by go_num, by omega, rfl, rfl, rfl, by rw [take_snoc HX.out, List.foldl_append, ← HBB.out]; exact (step_less HF.out H1.out).symm, hbz⟩
          · have hd1 : decide (f v < f x) = false := decide_eq_false h1
            by_cases h2 : f v = f x
            · have hd2 : (f v == f x) = true := by simpa using h2
              by_cases h3 : v < x
              · have hd3 : decide ((v : Int) < (x : Int)) = true := decide_eq_true (by omega)
                have H1 := Lib.hid h2
                have H3 := Lib.hid h3
                clear h1 h2 h3
                go_upto_region 6 with fail
                refine wp_region_later (by kernel_rfl) (by kernel_rfl) ?_
                repeat (go_big_quiet_step (fail))
                refine wpQuiet_nil ?_
                intro _ hw'
                obtain ⟨z, hw''⟩ := hw'
                subst hw''
                have hbz := hbl.trans (z.below.mono hbs)
                go_wp2
                go_roundg (l.length - (k + 1))
                case measure => omega
                case rel => exact ⟨k + 1, some v, by go_num, by omega, rfl, rfl, rfl, by rw [take_snoc HX.out, List.foldl_append, ← HBB.out]; exact (step_same HF.out H1.out H3.out).symm, hbz⟩
              · have hd3 : decide ((v : Int) < (x : Int)) = false := decide_eq_false (by omega)
                have H1 := Lib.hid h1
                have H3 := Lib.hid h3
                clear h1 h2 h3
                go_upto_region 6 with fail
                refine wp_region_later (by kernel_rfl) (by kernel_rfl) ?_
                repeat (go_big_quiet_step (fail))
                refine wpQuiet_nil ?_
                intro _ hw'
                obtain ⟨z, hw''⟩ := hw'
                subst hw''
                have hbz := hbl.trans (z.below.mono hbs)
                go_wp2
                go_roundg (l.length - (k + 1))
                case measure => omega
                case rel => exact ⟨k + 1, some x, by go_num, by omega, rfl, rfl, rfl, by rw [take_snoc HX.out, List.foldl_append, ← HBB.out]; exact (step_not HF.out (by have := H1.out; omega) (fun h => absurd h.2 (by have := H3.out; omega))).symm, hbz⟩
            · have hd2 : (f v == f x) = false := by simpa using h2
              have H1 := Lib.hid h1
              have H3 := Lib.hid h2
              clear h1 h2
              go_upto_region 6 with fail
              refine wp_region_later (by kernel_rfl) (by kernel_rfl) ?_
              repeat (go_big_quiet_step (fail))
              refine wpQuiet_nil ?_
              intro _ hw'
              obtain ⟨z, hw''⟩ := hw'
              subst hw''
              have hbz := hbl.trans (z.below.mono hbs)
              go_wp2
              go_roundg (l.length - (k + 1))
              case measure => omega
              case rel => exact ⟨k + 1, some x, by go_num, by omega, rfl, rfl, rfl, by rw [take_snoc HX.out, List.foldl_append, ← HBB.out]; exact (step_not HF.out (by have := H1.out; omega) (fun h => H3.out h.1)).symm, hbz⟩
    · go_wp2
      go_ret2
      have e : x = near f l := by rw [HBB.out, List.take_of_length_le (by omega)]; rfl
      exact ⟨by rw [← e]; rfl, hbl⟩

end Gp
end Go.Proofs.Ytmdleoadodcljaa
