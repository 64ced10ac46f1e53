/- What the reference's level returns. -/
import Derived.Test.YtgjmhddekggilaaD5
import Derived.Deep.RegionHeld3
import Derived.Deep.AppendLies
import Derived.IntWalk
namespace Go.Proofs.Ytgjmhddekggilaa
open Go.RowKit
namespace Dg

/-- The first k digests of the level above. -/
def levelTo (zs : List Int) (k : Nat) : List Int := (List.range k).map (levelAt zs)
theorem levelTo_length (zs : List Int) (k : Nat) : (levelTo zs k).length = k := by simp [levelTo]
theorem levelTo_succ (zs : List Int) (k : Nat) : levelTo zs (k + 1) = levelTo zs k ++ [levelAt zs k] := by simp [levelTo, List.range_succ]
theorem levelTo_all (zs : List Int) : levelTo zs ((zs.length + 1) / 2) = levelI zs := rfl
theorem levelAt_two (zs : List Int) (k m : Nat) (hm : m = 2 * k) (h : m + 1 < zs.length) : levelAt zs k = joinI (zs[m]?.getD 0) (zs[m + 1]?.getD 0) := by
  subst hm; unfold levelAt; rw [if_pos h]
theorem levelAt_one (zs : List Int) (k m : Nat) (hm : m = 2 * k) (h : ¬ m + 1 < zs.length) : levelAt zs k = zs[m]?.getD 0 := by
  subst hm; unfold levelAt; rw [if_neg h]

theorem rjoin_eq (a b : Int) (w : World) : Calls Try.prog 16 #[.int .u64 a, .int .u64 b] w fun e w' => e = .returned (.int .u64 (joinI a b)) ∧ w' = w :=
  (rjoin_any a b w).mono fun _ _ ⟨he, hw⟩ => ⟨he, hw.symm⟩

def LevelAt (zs : List Int) (w : World) (v i : Value) (wr : World) : Prop :=
  ∃ m k : Nat, m = 2 * k ∧ m ≤ zs.length + 1 ∧ i = .int .i64 m ∧ wr.ownsRow w.heap.size 24 1 v k ((levelTo zs k).map (Value.int .u64)) ∧ Below w.heap.size w wr

set_option maxRecDepth 100000 in
set_option maxHeartbeats 1000000 in
theorem rlevel_any (A : Option Addr) (zs : List Int) (cap : Nat) (w : World) (hlen : zs.length ≤ 17592186044416) (hA : Arr w A (zs.map (Value.int .u64))) :
    Calls Try.prog 32 #[.slice A zs.length cap] w (RetU w (levelI zs)) := by
  obtain ⟨b, o, hb⟩ : ∃ b o, zs ≠ [] → A = some ⟨b, o, none⟩ ∧ b < w.heap.size ∧ ∀ j, j < zs.length → w.cell? ⟨b, o + j, none⟩ = some (.int .u64 (zs[j]?.getD 0)) := by
    by_cases hx : zs = []
    · exact ⟨0, 0, fun h => absurd hx h⟩
    · obtain ⟨b, o, h⟩ := hA.at_ hx; exact ⟨b, o, fun _ => h⟩
  have HB := Lib.hid hb
  clear hb hA
  obtain ⟨i0, hi, hz0, hz1, hz2⟩ := info_parts info24
  have HO := Lib.hid (World.ownsRow_lit (base := w.heap.size) (e := 24) (size := 1) w #[] 0 (Nat.le_refl _) (by unfold maxLen; omega) rfl)
  have HS : Hid (LevelAt zs w (.slice (some ⟨w.heap.size, 0, none⟩) 0 0) (.int .i64 (0 : Nat)) (w.alloc (.cells #[] 24))) := Lib.hid ⟨0, 0, rfl, by omega, rfl, by simpa [levelTo] using HO.out, (Below.refl _ w).alloc (Nat.le_refl _) _⟩
  go_enter Try.func32, Try.ntmps32
  go_wp2
  go_loopw [3, 4] (fun v i wr => LevelAt zs w v i wr) (fun _ i _ => zs.length + 1 - (intOf i).toNat)
  case atStart => exact HS.out
  case round =>
    obtain ⟨m, k, hm, hmb, rfl, hrow, hbl⟩ := hrel
    have HM := Lib.hid hm
    clear hm HO HS
    obtain ⟨A5, c5, rfl, hc5, _, hF5, hr5⟩ := row_forms hrow
    have hbs := hbl.size
    by_cases hlt : m < zs.length
    · have hkb : 2 * k ≤ zs.length := by have := HM.out; omega
      obtain ⟨rfl, hbb, hcs⟩ := HB.out (by intro h; subst h; simp at hlt)
      have hcx := (hbl.cell (p := ⟨b, o + m, none⟩) hbb).trans (hcs m hlt)
      by_cases hlt2 : m + 1 < zs.length
      · have hcy := (hbl.cell (p := ⟨b, o + (m + 1), none⟩) hbb).trans (hcs (m + 1) hlt2)
        have hv := levelAt_two zs k m HM.out hlt2
        clear hcs HB
        generalize zs[m]?.getD 0 = x at hcx hv
        generalize zs[m + 1]?.getD 0 = y at hcy hv
        have HV := Lib.hid hv
        clear hv
        have AG : Hid (some b ≠ (Value.slice A5 k c5).ownBlock) := Lib.hid (fun h => by have := (hr5 b h.symm).1; omega)
        have hw1 : IntKind.i64.wrap ((m : Int) + 1) = (m : Int) + 1 := IntWalk.i64_in _ (by omega)
        have hw2 : (0 : Int) ≤ (m : Int) + 1 := by omega
        have hw3 : ((m : Int) + 1).toNat = m + 1 := by omega
        go_wp2
        go_region_held3 (fun w' => w'.cell? ⟨b, o + m, none⟩ = some (.int .u64 x) ∧ w'.cell? ⟨b, o + (m + 1), none⟩ = some (.int .u64 y))
          (first
            | go_keep
            | (go_split_ands
               refine ⟨?_, ?_⟩
               · (rw [hgrow1.cell_far _ (by simp; omega) AG.out]; assumption)
               · (rw [hgrow1.cell_far _ (by simp; omega) AG.out]; assumption)))
          (first
            | (go_at_call 16; refine (rjoin_any _ _ _).mono ?_; rintro e w' ⟨rfl, rfl⟩)
            | (refine step_append_lies _ (by rfl) _ _ _ (by rfl) w.heap.size 24 i0 _ 1 8 Try.underlying25 hi hz0 hz1 hz2 rfl (by omega) _ _ _ (by rfl) ((hrow.alloc _).drew) ⟨wr.heap.size, 0, none⟩ 1 1 [.int .u64 (joinI x y)] (by rfl) (by rfl) (World.news_of_block (cs := #[.int .u64 (joinI x y)]) (t := 24) (fr := (0, 0)) (heap_alloc_new wr _)) (by simp [Value.oneCell']) (by omega) (by unfold maxLen; omega) (by omega) (by simp; omega) (wr.heap.size + 1) (by simp) ?_; intro g cap' w1 hown1 hgrow1 hat1 hlt1))
        go_wp2
        go_roundw
        case rel =>
          refine ⟨m + 2, k + 1, by have := HM.out; omega, by omega, by go_num, ?_, (hbl.alloc hbs _).drew.grown hgrow1 (by simp; omega) (fun g hg => (hr5 g hg).1)⟩
          clear hw1 hw2 hw3
          rw [levelTo_succ, HV.out]
          simpa using hown1
        case measure => simp only [intOf]; omega
      · have hv := levelAt_one zs k m HM.out hlt2
        clear hcs HB
        generalize zs[m]?.getD 0 = x at hcx hv
        have HV := Lib.hid hv
        clear hv
        go_wp2_with (at_builtin; refine wpList_append_own _ rfl _ _ 25 rfl w.heap.size 24 i0 (.int .u64 0) 1 8 Try.underlying25 hi hz0 hz1 hz2 rfl (by decide) _ _ _ rfl (hrow.alloc _) ⟨wr.heap.size, 0, none⟩ 1 1 [.int .u64 x] rfl rfl (cell_one_new _ _ _) (by simp [Value.oneCell']) (by unfold maxLen; omega) (by omega) (by simp; omega) ?_; intro v' w1 hown1 hgrow1 _; obtain ⟨A6, c6, rfl, hc6, _, hF6, hr6⟩ := row_forms hown1)
        go_roundw
        case rel =>
          refine ⟨m + 2, k + 1, by have := HM.out; omega, by omega, by go_num, ?_, (hbl.alloc hbs _).grown hgrow1 (by simp; omega) (fun g hg => (hr5 g hg).1)⟩
          rw [levelTo_succ, HV.out]
          simpa using hown1
        case measure => simp only [intOf]; omega
    · clear hrow HB
      go_wp2
      go_ret
      obtain rfl : k = (zs.length + 1) / 2 := by have := HM.out; omega
      unfold RetU
      rw [levelI_length, ← levelTo_all]
      exact ⟨A5, c5, rfl, hc5, hF5, hbl⟩

end Dg
end Go.Proofs.Ytgjmhddekggilaa
