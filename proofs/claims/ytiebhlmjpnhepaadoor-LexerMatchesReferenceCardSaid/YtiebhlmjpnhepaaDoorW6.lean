/- Kind; Line. -/
import Derived.Test.YtiebhlmjpnhepaaDoorW5
namespace Go.Proofs.YtiebhlmjpnhepaaDoor
open Go.RowKit Sl Fr
namespace Lx
set_option linter.unusedVariables false

theorem kind_any (s : ByteArray) (w : World) (hs : s.size ≤ 281474976710656) (hv : Vars w) : Calls Tryd.prog 16 #[.string s] w fun e w' => e = .returned (.int .i64 (kindOf (bys s) : Nat)) ∧ Below w.heap.size w w' := by
  have HF := Lib.hid (first_any s w hs hv)
  have HK := Lib.hid (kind_fst (bys s))
  have hle := fst_le (bys s)
  rw [bys_len] at HK hle
  generalize kindOf (bys s) = r at *
  generalize fstP (bys s) = p at *
  clear hv
  obtain ⟨a, n⟩ := p
  have hle : n ≤ s.size := hle
  by_cases h1 : a = 0
  · subst h1
    have hr : r = 0 := by rw [HK.out, if_pos (.inl rfl)]
    subst hr
    clear HK
    go_enter Tryd.func16, Tryd.ntmps16
    go_wp2_with fail
    refine HF.out.mono ?_
    rintro e W1 ⟨rfl, hb⟩
    have hb2 := Lib.hid (hb.trans (((Below.refl _ W1).alloc (Nat.le_refl _) (.cells #[.int .i64 0, .int .i64 (n : Int)] 52)).mono hb.size))
    clear hb HF
    go_wp2_with fail
    go_ret
    exact ⟨rfl, hb2.out⟩
  · have ha : ((a : Int) == 0) = false := by simp; omega
    have ha2 : (a == 0) = false := by simp; omega
    by_cases h2 : n < s.size
    · have hr : r = 0 := by rw [HK.out, if_pos (.inr h2)]
      subst hr
      clear HK
      go_enter Tryd.func16, Tryd.ntmps16
      go_wp2_with fail
      refine HF.out.mono ?_
      rintro e W1 ⟨rfl, hb⟩
      have hb2 := Lib.hid (hb.trans (((Below.refl _ W1).alloc (Nat.le_refl _) (.cells #[.int .i64 (a : Int), .int .i64 (n : Int)] 52)).mono hb.size))
      clear hb HF
      go_wp2_with fail
      go_ret
      exact ⟨rfl, hb2.out⟩
    · have hr : r = a := by rw [HK.out, if_neg (by show ¬ (a = 0 ∨ n < s.size); omega)]
      subst hr
      clear HK
      go_enter Tryd.func16, Tryd.ntmps16
      go_wp2_with fail
      refine HF.out.mono ?_
      rintro e W1 ⟨rfl, hb⟩
      have hb2 := Lib.hid (hb.trans (((Below.refl _ W1).alloc (Nat.le_refl _) (.cells #[.int .i64 (r : Int), .int .i64 (n : Int)] 52)).mono hb.size))
      clear hb HF
      go_wp2_with fail
      go_ret
      exact ⟨rfl, hb2.out⟩

/-- The line and the column behind some bytes. -/
def lcStep (p : Nat × Nat) (c : UInt8) : Nat × Nat := if c = 10 then (p.1 + 1, 1) else (p.1, p.2 + 1)
def lc (l : By) : Nat × Nat := l.foldl lcStep (1, 1)
theorem lc_nil : lc [] = (1, 1) := rfl
theorem lc_snoc (l : By) (c : UInt8) : lc (l ++ [c]) = lcStep (lc l) c := by unfold lc; rw [List.foldl_append]; rfl
theorem lc_count (l : By) : (lc l).1 = l.count 10 + 1 ∧ 1 ≤ (lc l).2 ∧ (lc l).2 ≤ l.length + 1 := by
  have : ∀ r : By, (lc r.reverse).1 = r.count 10 + 1 ∧ 1 ≤ (lc r.reverse).2 ∧ (lc r.reverse).2 ≤ r.length + 1 := by
    intro r
    induction r with
    | nil => simp [lc_nil]
    | cons c r ih =>
      rw [List.reverse_cons, lc_snoc, List.count_cons]
      unfold lcStep
      by_cases h : c = 10
      · rw [if_pos h, h]
        simp only [BEq.rfl, if_true, List.length_cons]
        omega
      · rw [if_neg h]
        have : (c == 10) = false := by simp [h]
        simp only [this, List.length_cons, Bool.false_eq_true, if_false]
        omega
  have h := this l.reverse
  rwa [List.reverse_reverse, List.length_reverse, List.count_reverse] at h
theorem last_lc (s : ByteArray) : ∀ k, k ≤ s.size → Go.Lib.lastIdx s 10 k = (k : Int) - ((lc ((bys s).take k)).2 : Nat)
  | 0, _ => by rw [List.take_zero]; rfl
  | k + 1, hk => by
    have hg := bys_get (show k < s.size by omega)
    have e : s.data[k]! = s[k] := by rw [getElem!_pos s.data k (by simp; omega)]; rfl
    rw [take_snoc hg, lc_snoc, Go.Lib.lastIdx, e, last_lc s k (by omega)]
    unfold lcStep
    by_cases h : s[k] = 10
    · rw [if_pos (by rw [h]; rfl), if_pos h]
      simp
    · rw [if_neg (by intro h2; exact h (UInt8.toNat_inj.1 (by show _ = 10; omega))), if_neg h]
      simp only
      omega
/-- The line and the column of an offset. -/
def lnP (s : ByteArray) (a : Int) : Nat × Nat := if a < 0 ∨ s.size < a then (0, 0) else lc ((bys s).take a.toNat)
theorem lnP_out {s : ByteArray} {a : Int} (h : a < 0 ∨ s.size < a) : lnP s a = (0, 0) := if_pos h
theorem lnP_in {s : ByteArray} {k : Nat} (h : k ≤ s.size) : lnP s (k : Int) = lc ((bys s).take k) := by
  unfold lnP
  rw [if_neg (by omega), Int.toNat_natCast]
def GiveL (p : Nat × Nat) (w : World) (e : Ending) (w' : World) : Prop := e = .returned (.tuple #[.int .i64 (p.1 : Int), .int .i64 (p.2 : Int)]) ∧ w = w'
theorem count_any (s : ByteArray) (w : World) : Calls Tryd.prog 39 #[.string s, .string ⟨#[10]⟩] w fun e w' => e = .returned (.int .i64 ((bys s).count 10 : Nat)) ∧ w = w' := by
  refine (Tryd.strings_Count_one s 10 w).mono ?_
  rintro e w' ⟨rfl, rfl⟩
  exact ⟨rfl, rfl⟩
theorem last_any (s : ByteArray) (w : World) (hs : s.size ≤ 281474976710656) : Calls Tryd.prog 40 #[.string s, .int .u8 10] w fun e w' => e = .returned (.int .i64 (Go.Lib.lastIndexByte s 10)) ∧ w = w' := by
  refine (Tryd.strings_LastIndexByte s 10 (by omega) w).mono ?_
  rintro e w' ⟨rfl, rfl⟩
  exact ⟨rfl, rfl⟩
theorem line_any (s : ByteArray) (a : Int) (w : World) (hs : s.size ≤ 281474976710656) : Calls Tryd.prog 32 #[.string s, .int .i64 a] w (GiveL (lnP s a) w) := by
  by_cases h0 : a < 0
  · rw [lnP_out (.inl h0)]
    go_enter Tryd.func32, Tryd.ntmps32
    go_wp2_with fail
    go_ret2
    exact ⟨rfl, rfl⟩
  by_cases h1 : (s.size : Int) < a
  · rw [lnP_out (.inr h1)]
    go_enter Tryd.func32, Tryd.ntmps32
    go_wp2_with fail
    go_ret2
    exact ⟨rfl, rfl⟩
  obtain ⟨k, rfl⟩ := Int.eq_ofNat_of_zero_le (by omega : 0 ≤ a)
  have hk : k ≤ s.size := by omega
  rw [lnP_in hk]
  have he := bys_take s k
  have hz : (s.extract 0 k).size = k := by rw [ByteArray.size_extract]; omega
  have HC := fun w => count_any (s.extract 0 k) w
  have HL := fun w => last_any (s.extract 0 k) w (by omega)
  obtain ⟨c1, c2, c3⟩ := lc_count ((bys s).take k)
  have HQ : Go.Lib.lastIndexByte (s.extract 0 k) 10 = (k : Int) - ((lc ((bys s).take k)).2 : Nat) := by
    have := last_lc (s.extract 0 k) k (by omega)
    rw [he, List.take_take, Nat.min_self] at this
    unfold Go.Lib.lastIndexByte
    rw [hz]
    exact this
  have hcnt : (bys (s.extract 0 k)).count 10 ≤ k := by
    rw [he]
    have h1 := List.count_le_length (a := (10 : UInt8)) (l := (bys s).take k)
    rw [List.length_take] at h1
    omega
  rw [HQ] at HL
  have hlen : ((bys s).take k).length ≤ k := List.length_take_le _ _
  have HE : Hid ((bys (s.extract 0 k)).count 10 + 1 = (lc ((bys s).take k)).1) := Lib.hid (by rw [he, c1])
  generalize (bys (s.extract 0 k)).count 10 = m at *
  generalize lc ((bys s).take k) = p at *
  obtain ⟨p1, p2⟩ := p
  have c2 : 1 ≤ p2 := c2
  have c3 : p2 ≤ ((bys s).take k).length + 1 := c3
  have b1 : (p2 : Int) ≤ k + 1 := by omega
  have b2 : (1 : Int) ≤ p2 := by omega
  simp only at HL
  clear HQ he hz c1 c3
  have i1 : (0 : Int) ≤ (k : Int) := by omega
  have i2 : (k : Int) ≤ (s.size : Int) := by omega
  go_enter Tryd.func32, Tryd.ntmps32
  go_wp2_with (first | (go_at_call 39; refine (HC _).mono ?_; rintro e w' ⟨rfl, rfl⟩) | (go_at_call 40; refine (HL _).mono ?_; rintro e w' ⟨rfl, rfl⟩))
  go_ret2
  refine ⟨?_, rfl⟩
  have h := HE.out
  show Ending.returned (.tuple #[.int .i64 _, .int .i64 _]) = Ending.returned (.tuple #[.int .i64 (p1 : Int), .int .i64 (p2 : Int)])
  have h : m + 1 = p1 := h
  rw [← h]
  have e2 : (k : Int) - (↑k - ↑p2) = ↑p2 := by omega
  rw [e2]
  first | rfl | (congr 4)

end Lx
end Go.Proofs.YtiebhlmjpnhepaaDoor
