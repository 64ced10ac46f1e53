/- What pathOf, check and Same return. -/
import Derived.Test.YtgjmhddekggilaaD2
import Derived.Test.YtgjmhddekggilaaD3
namespace Go.Proofs.Ytgjmhddekggilaa
open Go.RowKit
namespace Dg

/-- The path of the leaf j of zs as a structure: a new slice, and no error. -/
def PathsRet (zs : List Int) (j : Nat) (w : World) (e : Ending) (w' : World) : Prop :=
  ∃ A c, e = .returned (.agg #[.slice A (pathT zs j).length c, .int .i64 0]) ∧ (pathT zs j).length ≤ c ∧ ArrF w' w.heap.size A ((pathT zs j).map (Value.int .u64)) ∧ Below w.heap.size w w'

theorem pathOf_no (A : Option Addr) (n c : Nat) (i : Int) (w : World) (h : i < 0 ∨ (n : Int) ≤ i) :
    Calls Try.prog 21 #[.slice A n c, .int .i64 i] w fun e w' => e = .returned (.agg #[.slice none 0 0, .int .i64 1]) ∧ Below w.heap.size w w' := by
  go_enter Try.func21, Try.ntmps21
  go_wp2_with (go_at_call 33; refine (path_no A n c i _ h).mono ?_; rintro e w' ⟨rfl, rfl⟩)
  refine bodyPost_ret (v := .agg #[.slice none 0 0, .int .i64 1]) (by simp [results, Try.results21, go_sem]) rfl ⟨rfl, ?_⟩
  exact (Below.refl _ _).alloc (Nat.le_refl _) _

set_option maxHeartbeats 400000 in
theorem pathOf_yes (A : Option Addr) (zs : List Int) (cap : Nat) (j : Nat) (w : World) (hj : j < zs.length) (hlen : zs.length ≤ 17592186044416) (hcap : zs.length ≤ cap) (hA : Arr w A (zs.map (Value.int .u64))) :
    Calls Try.prog 21 #[.slice A zs.length cap, .int .i64 j] w (PathsRet zs j w) := by
  go_enter Try.func21, Try.ntmps21
  go_wp2_with (go_at_call 33; refine (path_yes A zs cap j _ hj hlen hcap (hA.alloc _)).mono ?_; rintro e w1 ⟨A1, c1, rfl, hc1, hF1, hb1⟩; obtain ⟨hcell, hfro⟩ := (⟨fun p hp => hb1.cell (p := p) hp, fun p hp => hb1.frozen (p := p) hp⟩ : (∀ p : Addr, p.block < _ → w1.cell? p = _) ∧ (∀ p : Addr, p.block < _ → w1.frozen? p = _)); have hc0 := hcell ⟨w.heap.size, 0, none⟩ (by simp); have hcx := hcell ⟨w.heap.size, 1, none⟩ (by simp); have hf0 := hfro ⟨w.heap.size, 0, none⟩ (by simp); have hfx := hfro ⟨w.heap.size, 1, none⟩ (by simp); clear hcell hfro)
  refine bodyPost_ret (v := .agg #[.slice A1 (pathT zs j).length c1, .int .i64 0]) (by simp [results, Try.results21, go_sem, hc0, hcx]) rfl ⟨A1, c1, rfl, hc1, ?_, ?_⟩
  · exact ((hF1.set (p := ⟨w.heap.size, 0, none⟩) (by simp) _).set (p := ⟨w.heap.size, 1, none⟩) (by simp) _).mono (by simp)
  · exact ((((Below.refl _ w).alloc (Nat.le_refl _) _).trans (hb1.mono (by simp))).setCell (p := ⟨w.heap.size, 0, none⟩) (Nat.le_refl _) _).setCell (p := ⟨w.heap.size, 1, none⟩) (Nat.le_refl _) _

/-- check, at arguments out of range. -/
theorem checkL_arg (root n i d : Int) (A : Option Addr) (m c : Nat) (w : World) (h : n < 1 ∨ 4096 < n ∨ i < 0 ∨ n ≤ i) :
    Calls Try.prog 24 #[.int .u64 root, .agg #[.int .i64 n, .slice A m c], .agg #[.int .i64 i, .int .u64 d]] w fun e w' => e = .returned (.int .i64 1) ∧ Below w.heap.size w w' := by
  go_enter Try.func24, Try.ntmps24
  go_wp2_with (go_at_call 34; refine (check_arg root n i d _ _ h).mono ?_; rintro e w1 ⟨rfl, hb1⟩)
  go_ret
  exact ⟨rfl, (((Below.refl _ w).alloc (Nat.le_refl _) _).alloc (by simp) _).trans (hb1.mono (by simp; omega))⟩

theorem checkL_run (root : Int) (n i : Nat) (d : Int) (A : Option Addr) (P : List Int) (c : Nat) (w : World) (hn : n ≤ 4096) (hi : i < n) (hcap : P.length ≤ c) (hA : Arr w A (P.map (Value.int .u64))) :
    Calls Try.prog 24 #[.int .u64 root, .agg #[.int .i64 n, .slice A P.length c], .agg #[.int .i64 i, .int .u64 d]] w fun e w' => e = .returned (.int .i64 (chkE n i d P root)) ∧ Below w.heap.size w w' := by
  have H := Lib.hid hA
  clear hA
  go_enter Try.func24, Try.ntmps24
  go_wp2_with (go_at_call 34; refine (check_run root n i d A P c _ hn hi hcap ((H.out.alloc _).alloc _)).mono ?_; rintro e w1 ⟨rfl, hb1⟩)
  go_ret
  exact ⟨rfl, (((Below.refl _ w).alloc (Nat.le_refl _) _).alloc (by simp) _).trans (hb1.mono (by simp; omega))⟩

/-- Two lists of one length agree up to k. -/
def agree (xs ys : List Int) (k : Nat) : Prop := ∀ j, j < k → xs[j]?.getD 0 = ys[j]?.getD 0
theorem agree_all {xs ys : List Int} (hl : xs.length = ys.length) (h : agree xs ys xs.length) : xs = ys := by
  apply List.ext_getElem hl
  intro j h1 h2
  have := h j h1
  simpa [h1, h2] using this

theorem same_len (A B : Option Addr) (n m c c' : Nat) (w : World) (h : n ≠ m) :
    Calls Try.prog 23 #[.slice A n c, .slice B m c'] w fun e w' => e = .returned (.bool false) ∧ Below w.heap.size w w' := by
  have hb : ((n : Int) != m) = true := by rw [bne_iff_ne]; omega
  go_enter Try.func23, Try.ntmps23
  go_wp2
  go_ret
  exact ⟨rfl, Below.refl _ _⟩

set_option maxHeartbeats 1000000 in
theorem same_run (A B : Option Addr) (xs ys : List Int) (c c' : Nat) (w : World) (hl : xs.length = ys.length) (hlen : xs.length ≤ 4611686018427387904) (hA : Arr w A (xs.map (Value.int .u64))) (hB : Arr w B (ys.map (Value.int .u64))) :
    Calls Try.prog 23 #[.slice A xs.length c, .slice B xs.length c'] w fun e w' => e = .returned (.bool (decide (xs = ys))) ∧ Below w.heap.size w w' := by
  obtain ⟨b, o, hb⟩ : ∃ b o, xs ≠ [] → A = some ⟨b, o, none⟩ ∧ b < w.heap.size ∧ ∀ j, j < xs.length → w.cell? ⟨b, o + j, none⟩ = some (.int .u64 (xs[j]?.getD 0)) := by
    by_cases hx : xs = []
    · exact ⟨0, 0, fun h => absurd hx h⟩
    · obtain ⟨b, o, h⟩ := hA.at_ hx; exact ⟨b, o, fun _ => h⟩
  obtain ⟨b', o', hb'⟩ : ∃ b o, ys ≠ [] → B = some ⟨b, o, none⟩ ∧ b < w.heap.size ∧ ∀ j, j < ys.length → w.cell? ⟨b, o + j, none⟩ = some (.int .u64 (ys[j]?.getD 0)) := by
    by_cases hx : ys = []
    · exact ⟨0, 0, fun h => absurd hx h⟩
    · obtain ⟨b, o, h⟩ := hB.at_ hx; exact ⟨b, o, fun _ => h⟩
  have HA := Lib.hid hb
  have HB := Lib.hid hb'
  have HL := Lib.hid hl
  clear hb hb' hA hB hl
  have hz : ((xs.length : Int) != xs.length) = false := by simp
  go_enter Try.func23, Try.ntmps23
  go_wp2
  go_loopw [5] (fun i wr => ∃ k : Nat, k ≤ xs.length ∧ i = .int .i64 k ∧ agree xs ys k ∧ Below w.heap.size w wr) (fun i _ => xs.length - (intOf i).toNat)
  case atStart => exact ⟨0, Nat.zero_le _, rfl, fun j h => absurd h (by omega), Below.refl _ _⟩
  case round =>
    obtain ⟨k, hk, rfl, hag, hbl⟩ := hrel
    have HG := Lib.hid hag
    clear hag
    by_cases hlt : k < xs.length
    · obtain ⟨rfl, hbs, hc⟩ := HA.out (by intro h; subst h; simp at hlt)
      obtain ⟨rfl, hbs', hc'⟩ := HB.out (by intro h; have h2 := HL.out; rw [h, List.length_nil] at h2; omega)
      have hcx := (hbl.cell (p := ⟨b, o + k, none⟩) hbs).trans (hc k hlt)
      have hcy := (hbl.cell (p := ⟨b', o' + k, none⟩) hbs').trans (hc' k (by have := HL.out; omega))
      clear hc hc' HA HB
      obtain ⟨x, hx⟩ : ∃ x, x = xs[k]?.getD 0 := ⟨_, rfl⟩
      obtain ⟨y, hy⟩ : ∃ y, y = ys[k]?.getD 0 := ⟨_, rfl⟩
      rw [← hx] at hcx
      rw [← hy] at hcy
      have HX := Lib.hid hx
      have HY := Lib.hid hy
      clear hx hy
      by_cases hxy : x = y
      · have HXY := Lib.hid hxy
        have hne : (x != y) = false := by rw [hxy]; simp
        clear hxy
        go_wp2
        go_quiet (fail)
        go_wp2
        go_roundw
        case rel =>
          refine ⟨k + 1, by omega, by go_num, fun j hj => ?_, below_drewN hbl nq⟩
          by_cases hjk : j < k
          · exact HG.out j hjk
          · obtain rfl : j = k := by omega
            rw [← HX.out, ← HY.out]; exact HXY.out
        case measure => simp [intOf]; omega
      · have HXY := Lib.hid hxy
        have hne : (x != y) = true := by rw [bne_iff_ne]; exact hxy
        clear hxy
        go_wp2
        go_quiet (fail)
        go_wp2
        go_ret
        have e : decide (xs = ys) = false := decide_eq_false (fun h => HXY.out (by rw [HX.out, HY.out, h]))
        rw [e]
        exact ⟨rfl, below_drewN hbl nq⟩
    · clear HA HB
      go_wp2
      go_ret
      have e : decide (xs = ys) = true := decide_eq_true (agree_all HL.out (fun j hj => HG.out j (by omega)))
      rw [e]
      exact ⟨rfl, hbl⟩

theorem same_any (A B : Option Addr) (xs ys : List Int) (c c' : Nat) (w : World) (hlen : xs.length ≤ 4611686018427387904) (hA : Arr w A (xs.map (Value.int .u64))) (hB : Arr w B (ys.map (Value.int .u64))) :
    Calls Try.prog 23 #[.slice A xs.length c, .slice B ys.length c'] w fun e w' => e = .returned (.bool (decide (xs = ys))) ∧ Below w.heap.size w w' := by
  by_cases hl : xs.length = ys.length
  · rw [← hl]; exact same_run A B xs ys c c' w hl hlen hA hB
  · have e : decide (xs = ys) = false := decide_eq_false (fun h => hl (by rw [h]))
    rw [e]
    exact same_len A B _ _ c c' w hl

end Dg
end Go.Proofs.Ytgjmhddekggilaa
