/- What Grown returns. -/
import Derived.Test.YtgjmhddekggilaaD2
import Derived.Test.YtgjmhddekggilaaM4
import Derived.Laws.AppendOwnNone
namespace Go.Proofs.Ytgjmhddekggilaa
open Go.RowKit
namespace Dg

/-- What holds at each round's head. -/
def GrownAt (l : List Int) (n : Nat) (w : World) (v : Value) (wr : World) : Prop := ∃ k, k ≤ n ∧ min l.length n ≤ k ∧ wr.ownsRow w.heap.size 24 1 v k ((growTo l n k).map (Value.int .u64)) ∧ Below w.heap.size w wr

theorem GrownAt.start {l : List Int} {n m : Nat} {w w1 : World} {v : Value} (hm : m = min l.length n) (h : w1.ownsRow w.heap.size 24 1 v m ((l.take m).map (Value.int .u64))) (hb : Below w.heap.size w w1) : GrownAt l n w v w1 := by
  refine ⟨m, by omega, by omega, ?_, hb⟩
  rw [← growTo_take l n m (by omega)]
  exact h

set_option maxHeartbeats 1000000 in
theorem grown_le (ad : Addr) (l : List Int) (cap n : Nat) (w : World) (hn : n ≤ 4096) (hcap : l.length ≤ cap) (hle : l.length ≤ n)
    (hc : ∀ j u, ((l.take l.length).map (Value.int .u64))[j]? = some u → (w.alloc (.cells #[] 24)).cell? (ad.add j) = some u) :
    Calls Try.prog 10 #[.slice (some ad) l.length cap, .int .i64 n] w (RetU w (grownI l n)) := by
  obtain ⟨i0, hi, hz0, hz1, hz2⟩ := info_parts info24
  have HC := Lib.hid hc
  have HN : Hid (((l.take l.length).map (Value.int .u64)).length = l.length * 1) := by show _ = _; simp
  have HO := Lib.hid (World.ownsRow_lit (base := w.heap.size) (e := 24) (size := 1) w #[] 0 (Nat.le_refl _) (by unfold maxLen; omega) rfl)
  clear hc
  go_enter Try.func10, Try.ntmps10
  go_wp2_with (at_builtin; refine wpList_append_own _ rfl _ _ 25 rfl w.heap.size 24 i0 (.int .u64 0) 1 8 Try.underlying25 hi hz0 hz1 hz2 rfl (by decide) _ _ _ rfl HO.out ad l.length cap ((l.take l.length).map (Value.int .u64)) rfl HN.out HC.out (by intro u hu; rw [List.mem_map] at hu; obtain ⟨x, _, rfl⟩ := hu; rfl) (by unfold maxLen; omega) (by omega) (by simp) ?_; intro v0 w0 hown0 hgrow0 _; simp only [Nat.zero_add, List.nil_append] at hown0; obtain ⟨A4, c4, rfl, hc4, _, hF4, hr4⟩ := row_forms hown0)
  have hb0 : Below w.heap.size w w0 := ((Below.refl _ w).alloc (Nat.le_refl _) _).grown hgrow0 (by simp) (fun g hg => by have h5 : some w.heap.size = some g := hg; injection h5 with h5; omega)
  go_loopw [5] (fun v wr => GrownAt l n w v wr) (fun v _ => n - lenOf v)
  case atStart => exact GrownAt.start (by omega) hown0 hb0
  case round =>
    obtain ⟨k, hk, hmk, hrow, hbl⟩ := hrel
    clear hown0 hgrow0 hF4 hr4 HC HN HO hb0
    obtain ⟨A5, c5, rfl, hc5, _, hF5, hr5⟩ := row_forms hrow
    have hbs := hbl.size
    by_cases hlt : k < n
    · go_wp2_with (first
        | (go_at_call 28; refine (step_any _ _ _).mono ?_; rintro e w' ⟨rfl, rfl⟩)
        | (at_builtin; refine wpList_append_own _ rfl _ _ 25 rfl w.heap.size 24 i0 (.int .u64 0) 1 8 Try.underlying25 hi hz0 hz1 hz2 rfl (by decide) _ _ _ rfl (hrow.alloc _) ⟨wr.heap.size, 0, none⟩ 1 1 [.int .u64 (stepI (k : Int) (n : Int))] rfl rfl (cell_one_new _ _ _) (by simp [Value.oneCell']) (by unfold maxLen; omega) (by omega) (by simp; omega) ?_; intro v' w1 hown1 hgrow1 _; obtain ⟨A6, c6, rfl, hc6, _, hF6, hr6⟩ := row_forms hown1))
      go_roundw
      case rel =>
        refine ⟨k + 1, by omega, by omega, ?_, (hbl.alloc hbs _).grown hgrow1 (by simp; omega) (fun g hg => (hr5 g hg).1)⟩
        rw [growTo_succ, growAt_new l n k (by omega)]
        simpa using hown1
      case measure => simp only [lenOf]; omega
    · clear hrow
      go_wp2
      go_ret
      obtain rfl : k = n := by omega
      unfold RetU
      rw [grownI_length]
      exact ⟨A5, c5, rfl, hc5, hF5, hbl⟩

set_option maxHeartbeats 1000000 in
theorem grown_gt (ad : Addr) (l : List Int) (cap n : Nat) (w : World) (hn : n ≤ 4096) (hcap : l.length ≤ cap) (hle : n < l.length)
    (hc : ∀ j u, ((l.take n).map (Value.int .u64))[j]? = some u → (w.alloc (.cells #[] 24)).cell? (ad.add j) = some u) :
    Calls Try.prog 10 #[.slice (some ad) l.length cap, .int .i64 n] w (RetU w (grownI l n)) := by
  obtain ⟨i0, hi, hz0, hz1, hz2⟩ := info_parts info24
  have HC := Lib.hid hc
  have HN : Hid (((l.take n).map (Value.int .u64)).length = n * 1) := by show _ = _; simp; omega
  have HO := Lib.hid (World.ownsRow_lit (base := w.heap.size) (e := 24) (size := 1) w #[] 0 (Nat.le_refl _) (by unfold maxLen; omega) rfl)
  clear hc
  go_enter Try.func10, Try.ntmps10
  go_wp2_with (at_builtin; refine wpList_append_own _ rfl _ _ 25 rfl w.heap.size 24 i0 (.int .u64 0) 1 8 Try.underlying25 hi hz0 hz1 hz2 rfl (by decide) _ _ _ rfl HO.out ad n cap ((l.take n).map (Value.int .u64)) rfl HN.out HC.out (by intro u hu; rw [List.mem_map] at hu; obtain ⟨x, _, rfl⟩ := hu; rfl) (by unfold maxLen; omega) (by omega) (by simp) ?_; intro v0 w0 hown0 hgrow0 _; simp only [Nat.zero_add, List.nil_append] at hown0; obtain ⟨A4, c4, rfl, hc4, _, hF4, hr4⟩ := row_forms hown0)
  have hb0 : Below w.heap.size w w0 := ((Below.refl _ w).alloc (Nat.le_refl _) _).grown hgrow0 (by simp) (fun g hg => by have h5 : some w.heap.size = some g := hg; injection h5 with h5; omega)
  go_loopw [5] (fun v wr => GrownAt l n w v wr) (fun v _ => n - lenOf v)
  case atStart => exact GrownAt.start (by omega) hown0 hb0
  case round =>
    obtain ⟨k, hk, hmk, hrow, hbl⟩ := hrel
    clear hown0 hgrow0 hF4 hr4 HC HN HO hb0
    obtain ⟨A5, c5, rfl, hc5, _, hF5, hr5⟩ := row_forms hrow
    have hbs := hbl.size
    by_cases hlt : k < n
    · exact absurd hmk (by omega)
    · clear hrow
      go_wp2
      go_ret
      obtain rfl : k = n := by omega
      unfold RetU
      rw [grownI_length]
      exact ⟨A5, c5, rfl, hc5, hF5, hbl⟩

set_option maxHeartbeats 1000000 in
theorem grown_nil (n : Nat) (w : World) (hn : n ≤ 4096) : Calls Try.prog 10 #[.slice none 0 0, .int .i64 n] w (RetU w (grownI [] n)) := by
  obtain ⟨i0, hi, hz0, hz1, hz2⟩ := info_parts info24
  obtain ⟨l, hl⟩ : ∃ l : List Int, l = [] := ⟨_, rfl⟩
  rw [← hl]
  have hl0 : l.length ≤ 0 := by rw [hl]; exact Nat.le_refl _
  have HO := Lib.hid (World.ownsRow_lit (base := w.heap.size) (e := 24) (size := 1) w #[] 0 (Nat.le_refl _) (by unfold maxLen; omega) rfl)
  have HS : Hid (GrownAt l n w (.slice (some ⟨w.heap.size, 0, none⟩) 0 0) (w.alloc (.cells #[] 24))) := GrownAt.start (m := 0) (by omega) (by simpa using HO.out) ((Below.refl _ w).alloc (Nat.le_refl _) _)
  clear hl
  go_enter Try.func10, Try.ntmps10
  go_wp2_with (at_builtin; refine wpList_append_own_none rfl _ _ 25 rfl w.heap.size 24 i0 1 Try.underlying25 hi _ _ _ rfl HO.out rfl ?_)
  go_loopw [5] (fun v wr => GrownAt l n w v wr) (fun v _ => n - lenOf v)
  case atStart => exact HS.out
  case round =>
    obtain ⟨k, hk, hmk, hrow, hbl⟩ := hrel
    clear HO HS
    obtain ⟨A5, c5, rfl, hc5, _, hF5, hr5⟩ := row_forms hrow
    have hbs := hbl.size
    by_cases hlt : k < n
    · go_wp2_with (first
        | (go_at_call 28; refine (step_any _ _ _).mono ?_; rintro e w' ⟨rfl, rfl⟩)
        | (at_builtin; refine wpList_append_own _ rfl _ _ 25 rfl w.heap.size 24 i0 (.int .u64 0) 1 8 Try.underlying25 hi hz0 hz1 hz2 rfl (by decide) _ _ _ rfl (hrow.alloc _) ⟨wr.heap.size, 0, none⟩ 1 1 [.int .u64 (stepI (k : Int) (n : Int))] rfl rfl (cell_one_new _ _ _) (by simp [Value.oneCell']) (by unfold maxLen; omega) (by omega) (by simp; omega) ?_; intro v' w1 hown1 hgrow1 _; obtain ⟨A6, c6, rfl, hc6, _, hF6, hr6⟩ := row_forms hown1))
      go_roundw
      case rel =>
        refine ⟨k + 1, by omega, by omega, ?_, (hbl.alloc hbs _).grown hgrow1 (by simp; omega) (fun g hg => (hr5 g hg).1)⟩
        rw [growTo_succ, growAt_new l n k (by omega)]
        simpa using hown1
      case measure => simp only [lenOf]; omega
    · clear hrow
      go_wp2
      go_ret
      obtain rfl : k = n := by omega
      unfold RetU
      rw [grownI_length]
      exact ⟨A5, c5, rfl, hc5, hF5, hbl⟩

theorem grown_any (A : Option Addr) (l : List Int) (cap n : Nat) (w : World) (hn : n ≤ 4096) (hcap : l.length ≤ cap) (hA : Arr w A (l.map (Value.int .u64))) (hnil : A = none → cap = 0 ∧ l = []) :
    Calls Try.prog 10 #[.slice A l.length cap, .int .i64 n] w (RetU w (grownI l n)) := by
  cases A with
  | none =>
    obtain ⟨rfl, rfl⟩ := hnil rfl
    exact grown_nil n w hn
  | some ad =>
    have hc : ∀ m j u, ((l.take m).map (Value.int .u64))[j]? = some u → (w.alloc (.cells #[] 24)).cell? (ad.add j) = some u := by
      intro m j u hu
      have hne : l.map (Value.int .u64) ≠ [] := by
        intro h
        have h2 : l = [] := by simpa using h
        subst h2
        simp at hu
      obtain ⟨b, o, e, hlt, hcell⟩ := (hA.alloc (.cells #[] 24)) hne
      simp only [Option.some.injEq] at e
      subst e
      have e0 : (⟨b, o, none⟩ : Addr).add j = ⟨b, o + j, none⟩ := by
        rcases Nat.eq_zero_or_pos j with hj | hj
        · subst hj; rfl
        · simp [Addr.add, Nat.ne_of_gt hj]
      rw [e0]
      refine hcell j u ?_
      have hj : j < m := by
        have h1 := (List.getElem?_eq_some_iff.1 hu).1
        simp at h1
        omega
      rw [List.map_take, List.getElem?_take_of_lt hj] at hu
      exact hu
    by_cases h : l.length ≤ n
    · exact grown_le ad l cap n w hn hcap h (hc _)
    · exact grown_gt ad l cap n w hn hcap (by omega) (hc _)

/-- A list of digests that came in is filled up to n: some list of n digests comes back. -/
def RetG (n : Nat) (w : World) (e : Ending) (w' : World) : Prop :=
  ∃ (zs : List Int) (A : Option Addr) (c : Nat), e = .returned (.slice A zs.length c) ∧ zs.length = n ∧ (∀ x ∈ zs, R x) ∧ zs.length ≤ c ∧ ArrF w' w.heap.size A (zs.map (Value.int .u64)) ∧ Below w.heap.size w w'

theorem grown_z (A : Option Addr) (l : List Int) (cap len : Nat) (n : Int) (w : World) (hl : l.length = len) (h0 : 0 ≤ n) (hn : n ≤ 4096) (hcap : len ≤ cap) (hA : Arr w A (l.map (Value.int .u64))) (hnil : A = none → cap = 0 ∧ l = []) (hR : ∀ x ∈ l, R x) :
    Calls Try.prog 10 #[.slice A len cap, .int .i64 n] w (RetG n.toNat w) := by
  obtain ⟨m, rfl⟩ := Int.eq_ofNat_of_zero_le h0
  subst hl
  refine (grown_any A l cap m w (by omega) hcap hA hnil).mono ?_
  rintro e w' ⟨A', c', rfl, hc', hF, hb⟩
  exact ⟨grownI l m, A', c', rfl, by rw [grownI_length]; rfl, grownI_range l m hR, hc', hF, hb⟩

end Dg
end Go.Proofs.Ytgjmhddekggilaa
