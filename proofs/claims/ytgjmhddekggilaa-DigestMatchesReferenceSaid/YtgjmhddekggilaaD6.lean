/- What Sides returns. -/
import Derived.Test.YtgjmhddekggilaaL7
import Derived.Test.YtgjmhddekggilaaM7
namespace Go.Proofs.Ytgjmhddekggilaa
open Go.RowKit
namespace Dg

theorem info4 : (Try.prog.info? 4).map (fun i => (i.zero, i.size, i.bytes)) = some (some (.bool false), 1, 1) := by kernel_rfl

theorem below_row4 {w : World} {base n : Nat} {e : TypeId} {v : Value} {vs : List Value} (h : w.ownsRow base e 1 v n vs) {g : Nat} (hg : v.ownBlock = some g) : base ≤ g := by
  obtain ⟨_, _, _, _, _, _, h5⟩ := row_forms h
  exact (h5 g hg).1

/-- What holds at each round's head. -/
def SidesAt (n i : Nat) (w : World) (nv iv v : Value) (wr : World) : Prop :=
  ∃ (m k : Nat) (S : List Bool), nv = .int .i64 m ∧ iv = .int .i64 k ∧ k < m ∧ m ≤ n ∧ S.length + m ≤ n + 1 ∧ wr.ownsRow w.heap.size 4 1 v S.length (S.map Value.bool) ∧ sidesT n i = S ++ sidesT m k ∧ Below w.heap.size w wr

/-- A new slice of the sides, and nothing that was there is changed. -/
def RetS (S : List Bool) (w : World) (e : Ending) (w' : World) : Prop :=
  ∃ A c, e = .returned (.slice A S.length c) ∧ ArrF w' w.heap.size A (S.map Value.bool) ∧ Below w.heap.size w w'

set_option maxHeartbeats 1000000 in
theorem sides_any (n i : Nat) (w : World) (hn : n ≤ 4096) (hi : i < n) : Calls Try.prog 26 #[.int .i64 n, .int .i64 i] w (RetS (sidesT n i) w) := by
  obtain ⟨i0, hii, hz0, hz1, hz2⟩ := info_parts info4
  have HO := Lib.hid (World.ownsRow_lit (base := w.heap.size) (e := 4) (size := 1) w #[] 0 (Nat.le_refl _) (by unfold maxLen; omega) rfl)
  have H0 : Hid (SidesAt n i w (.int .i64 n) (.int .i64 i) (.slice (some ⟨w.heap.size, 0, none⟩) 0 0) (w.alloc (.cells #[] 4))) :=
    Lib.hid ⟨n, i, [], rfl, rfl, hi, Nat.le_refl _, by simp, by simpa using HO.out, rfl, (Below.refl _ w).alloc (Nat.le_refl _) _⟩
  go_enter Try.func26, Try.ntmps26
  go_wp2
  go_loopw [0, 1, 5] (fun nv iv v wr => SidesAt n i w nv iv v wr) (fun nv _ _ _ => (intOf nv).toNat)
  case atStart => exact H0.out
  case round =>
    obtain ⟨m, k, S, rfl, rfl, hkm, hmn, hsum, hrow, hs, hb⟩ := hrel
    have HS := Lib.hid hs
    clear hs HO H0
    have hbs := hb.size
    by_cases hlt : 1 < m
    · have HT := Lib.hid (sidesT_step m k hlt)
      by_cases hodd : k % 2 = 1
      · have hk2 : (k : Int) % 2 = 1 := by omega
        have H1 : Hid (side1 m k = [true]) := if_pos hodd
        go_wp2_with (at_builtin; refine wpList_append_lies _ rfl _ _ 55 rfl w.heap.size 4 i0 (.bool false) 1 1 Try.underlying55 hii hz0 hz1 hz2 rfl (by decide) _ _ _ rfl (hrow.alloc _) ⟨wr.heap.size, 0, none⟩ 1 1 [.bool true] rfl rfl (cell_one_new _ _ _) (by simp [Value.oneCell']) (by decide) (by unfold maxLen; omega) (by omega) (by simp; omega) _ rfl ?_; intro g cap' w1 hown1 hgrow1 _ _)
        go_roundw
        case rel => exact ⟨(m + 1) / 2, k / 2, S ++ [true], by go_num, by go_num, by omega, by omega, by simp; omega, by simpa using hown1, by rw [HS.out, HT.out, H1.out]; simp, (hb.alloc hbs _).grown hgrow1 (by simp; omega) (fun g' hg' => below_row4 hrow hg')⟩
        case measure => simp only [intOf]; omega
      · have hk2 : ((k : Int) % 2 == 1) = false := beq_eq_false_iff_ne.2 (by omega)
        by_cases hnx : k + 1 < m
        · have H1 : Hid (side1 m k = [false]) := by show _ = _; unfold side1; rw [if_neg hodd, if_pos hnx]
          go_wp2_with (at_builtin; refine wpList_append_lies _ rfl _ _ 55 rfl w.heap.size 4 i0 (.bool false) 1 1 Try.underlying55 hii hz0 hz1 hz2 rfl (by decide) _ _ _ rfl (hrow.alloc _) ⟨wr.heap.size, 0, none⟩ 1 1 [.bool false] rfl rfl (cell_one_new _ _ _) (by simp [Value.oneCell']) (by decide) (by unfold maxLen; omega) (by omega) (by simp; omega) _ rfl ?_; intro g cap' w1 hown1 hgrow1 _ _)
          go_roundw
          case rel => exact ⟨(m + 1) / 2, k / 2, S ++ [false], by go_num, by go_num, by omega, by omega, by simp; omega, by simpa using hown1, by rw [HS.out, HT.out, H1.out]; simp, (hb.alloc hbs _).grown hgrow1 (by simp; omega) (fun g' hg' => below_row4 hrow hg')⟩
          case measure => simp only [intOf]; omega
        · have H1 : Hid (side1 m k = []) := by show _ = _; unfold side1; rw [if_neg hodd, if_neg hnx]
          go_wp2
          go_roundw
          case rel => exact ⟨(m + 1) / 2, k / 2, S, by go_num, by go_num, by omega, by omega, by omega, hrow, by rw [HS.out, HT.out, H1.out]; simp, hb⟩
          case measure => simp only [intOf]; omega
    · obtain ⟨A', c', rfl, _, _, hF', _⟩ := row_forms hrow
      clear hrow
      go_wp2
      go_ret
      have e : sidesT n i = S := by rw [HS.out, sidesT_one _ _ (by omega), List.append_nil]
      unfold RetS
      rw [e]
      exact ⟨A', c', rfl, hF', hb⟩

end Dg
end Go.Proofs.Ytgjmhddekggilaa
