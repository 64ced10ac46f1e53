/- Code words: what is encoded is decoded; single and double inversions; distances; which words lead to code words. -/
import Derived.Test.YteikmbcfiabffaaDoorM1
namespace Go.Proofs.YteikmbcfiabffaaDoor
namespace Hm
set_option linter.unusedVariables false

theorem xor_zero {a b : Nat} (h : a ^^^ b = 0) : a = b := by
  have : a ^^^ b ^^^ b = b := by rw [h, Nat.zero_xor]
  rw [Nat.xor_assoc, Nat.xor_self, Nat.xor_zero] at this
  exact this
theorem ones_set : ∀ n w i, w.testBit i = false → ones n (w ^^^ 2 ^ i) = ones n w + if i < n then 1 else 0
  | 0, _, _, _ => by simp [ones]
  | n + 1, w, i, h => by
    unfold ones
    rw [Nat.testBit_xor, Nat.testBit_two_pow, ones_set n w i h]
    by_cases e : i = n
    · subst e
      simp [h]
    · by_cases hl : i < n
      · cases w.testBit n <;> simp [e, hl, show i < n + 1 by omega]
      · cases w.testBit n <;> simp [e, hl, show ¬ i < n + 1 by omega]

/-- The parity bits for a syndrome. -/
def fix (s : Nat) : Nat := (if s.testBit 0 then 2 ^ 1 else 0) ^^^ (if s.testBit 1 then 2 ^ 2 else 0) ^^^ (if s.testBit 2 then 2 ^ 4 else 0) ^^^ (if s.testBit 3 then 2 ^ 8 else 0) ^^^ (if s.testBit 4 then 2 ^ 16 else 0) ^^^ (if s.testBit 5 then 2 ^ 32 else 0)
theorem fix_spec : ∀ s, s < 64 → syn 64 (fix s) = s ∧ gather (fix s) = 0 ∧ fix s < 2 ^ 64 ∧ (fix s).testBit 0 = false := by decide +kernel

/-- The word with its six parity bits. -/
def six (d : Nat) : Nat := spread d ^^^ fix (syn 64 (spread d))
/-- The code word of data bits. -/
def enc (d : Nat) : Nat := six d ^^^ ones 64 (six d) % 2

theorem spread_even {d : Nat} (h : d < 2 ^ 57) : (spread d).testBit 0 = false :=
  lin_ind (p := fun d => (spread d).testBit 0 = false) (by simp [spread_zero]) (fun a b ha hb => by simp only [spread_xor, Nat.testBit_xor, ha, hb]; rfl) (by decide +kernel) d h

theorem six_lt {d : Nat} (h : d < 2 ^ 57) : six d < 2 ^ 64 := Nat.xor_lt_two_pow (spread_lt h) (fix_spec _ (syn_lt _ _ (by decide))).2.2.1
theorem syn_six {d : Nat} (h : d < 2 ^ 57) : syn 64 (six d) = 0 := by
  unfold six
  rw [syn_xor, (fix_spec _ (syn_lt _ _ (by decide))).1, Nat.xor_self]
theorem gather_six {d : Nat} (h : d < 2 ^ 57) : gather (six d) = d := by
  unfold six
  rw [gather_xor, gather_spread h, (fix_spec _ (syn_lt _ _ (by decide))).2.1, Nat.xor_zero]
theorem six_even {d : Nat} (h : d < 2 ^ 57) : (six d).testBit 0 = false := by
  unfold six
  rw [Nat.testBit_xor, spread_even h, (fix_spec _ (syn_lt _ _ (by decide))).2.2.2]; rfl

theorem par_or (x p : Nat) (hp : p < 2) (h : x.testBit 0 = false) : x ||| p = x ^^^ p := by
  apply Nat.eq_of_testBit_eq
  intro i
  rw [Nat.testBit_or, Nat.testBit_xor]
  cases i with
  | zero => rw [h]; simp
  | succ i => rw [show p.testBit (i + 1) = false from Nat.testBit_lt_two_pow (Nat.lt_of_lt_of_le hp (by rw [Nat.pow_succ]; have : 0 < 2 ^ i := Nat.two_pow_pos _; omega))]; simp

theorem enc_or {d : Nat} (h : d < 2 ^ 57) : six d ||| ones 64 (six d) % 2 = enc d := par_or _ _ (by omega) (six_even h)
theorem low_cases (x : Nat) : x % 2 = 0 ∨ x % 2 = 1 := by omega
theorem enc_lt {d : Nat} (h : d < 2 ^ 57) : enc d < 2 ^ 64 := Nat.xor_lt_two_pow (six_lt h) (by omega)
theorem syn_enc {d : Nat} (h : d < 2 ^ 57) : syn 64 (enc d) = 0 := by
  unfold enc
  rw [syn_xor, syn_six h]
  rcases low_cases (ones 64 (six d)) with e | e <;> rw [e]
  · rw [syn_zero]; rfl
  · rw [show (1 : Nat) = 2 ^ 0 from rfl, syn_pow]; rfl
theorem ones_enc {d : Nat} (h : d < 2 ^ 57) : ones 64 (enc d) % 2 = 0 := by
  unfold enc
  rw [ones_xor]
  rcases low_cases (ones 64 (six d)) with e | e <;> rw [e]
  · rw [ones_zero]; omega
  · rw [show ones 64 1 = 1 by decide +kernel]; omega
theorem gather_enc {d : Nat} (h : d < 2 ^ 57) : gather (enc d) = d := by
  unfold enc
  rw [gather_xor, gather_six h]
  rcases low_cases (ones 64 (six d)) with e | e <;> rw [e]
  · rw [gather_zero, Nat.xor_zero]
  · rw [gather_one, Nat.xor_zero]

def sel (b : Bool) (x : Nat) : Nat := if b then x else 0
theorem sel_xor (b c : Bool) (x : Nat) : sel (b ^^ c) x = sel b x ^^^ sel c x := by cases b <;> cases c <;> simp [sel]
/-- The parity bits of a word alone. -/
def chk' (b0 b1 b2 b3 b4 b5 b6 : Bool) : Nat := sel b0 1 ^^^ sel b1 2 ^^^ sel b2 4 ^^^ sel b3 16 ^^^ sel b4 256 ^^^ sel b5 65536 ^^^ sel b6 4294967296
def chk (c : Nat) : Nat := chk' (c.testBit 0) (c.testBit 1) (c.testBit 2) (c.testBit 4) (c.testBit 8) (c.testBit 16) (c.testBit 32)
theorem chk_xor (a b : Nat) : chk (a ^^^ b) = chk a ^^^ chk b := by
  unfold chk chk'
  simp only [Nat.testBit_xor, sel_xor]
  ac_rfl
theorem parts {c : Nat} (hc : c < 2 ^ 64) : c = spread (gather c) ^^^ chk c :=
  lin_ind (p := fun c => c = spread (gather c) ^^^ chk c) (by decide +kernel) (fun a b ha hb => by
    have e : spread (gather (a ^^^ b)) ^^^ chk (a ^^^ b) = (spread (gather a) ^^^ chk a) ^^^ (spread (gather b) ^^^ chk b) := by
      rw [gather_xor, spread_xor, chk_xor]; ac_rfl
    show a ^^^ b = spread (gather (a ^^^ b)) ^^^ chk (a ^^^ b)
    rw [e, ← ha, ← hb]) (by decide +kernel) c hc
theorem chk_zero : ∀ b0 b1 b2 b3 b4 b5 b6 : Bool, syn 64 (chk' b0 b1 b2 b3 b4 b5 b6) = 0 → ones 64 (chk' b0 b1 b2 b3 b4 b5 b6) % 2 = 0 → chk' b0 b1 b2 b3 b4 b5 b6 = 0 := by decide +kernel

/-- A code word without data is 0. -/
theorem code_zero {c : Nat} (hc : c < 2 ^ 64) (hs : syn 64 c = 0) (ho : ones 64 c % 2 = 0) (hg : gather c = 0) : c = 0 := by
  have e : c = chk c := by
    have := parts hc
    rw [hg, spread_zero, Nat.zero_xor] at this
    exact this
  rw [e] at hs ho ⊢
  exact chk_zero _ _ _ _ _ _ _ hs ho
/-- A code word is that of its data. -/
theorem code_enc {c : Nat} (hc : c < 2 ^ 64) (hs : syn 64 c = 0) (ho : ones 64 c % 2 = 0) : enc (gather c) = c := by
  have hg := gather_lt hc
  have := code_zero (c := enc (gather c) ^^^ c) (Nat.xor_lt_two_pow (enc_lt hg) hc) (by rw [syn_xor, syn_enc hg, hs]; rfl) (by rw [ones_xor]; have := ones_enc hg; omega) (by rw [gather_xor, gather_enc hg, Nat.xor_self])
  exact xor_zero this
theorem enc_xor {a b : Nat} (ha : a < 2 ^ 57) (hb : b < 2 ^ 57) : enc a ^^^ enc b = enc (a ^^^ b) := by
  have := code_enc (c := enc a ^^^ enc b) (Nat.xor_lt_two_pow (enc_lt ha) (enc_lt hb)) (by rw [syn_xor, syn_enc ha, syn_enc hb]; rfl) (by rw [ones_xor]; have := ones_enc ha; have := ones_enc hb; omega)
  rw [gather_xor, gather_enc ha, gather_enc hb] at this
  exact this.symm
/-- Two different code words differ in at least four positions. -/
theorem code_far {c : Nat} (hc : c < 2 ^ 64) (hs : syn 64 c = 0) (ho : ones 64 c % 2 = 0) (hz : c ≠ 0) : 4 ≤ ones 64 c := by
  rcases Nat.lt_or_ge (ones 64 c) 4 with h | h
  · exfalso
    have h2 : ones 64 c = 0 ∨ ones 64 c = 2 := by omega
    rcases h2 with h2 | h2
    · exact hz (zero_of_bits hc (ones_eq_zero 64 c h2))
    · obtain ⟨a, b, ha, hb, hab, hall⟩ := ones_two 64 c h2
      rw [eq_pows hc ha hb hall, syn_xor, syn_pow, syn_pow, if_pos ha, if_pos hb] at hs
      exact hab (xor_zero hs)
  · exact h
theorem enc_zero : enc 0 = 0 := by decide +kernel
theorem enc_far {a b : Nat} (ha : a < 2 ^ 57) (hb : b < 2 ^ 57) : (ones 64 (enc a ^^^ enc b) = 0 ↔ a = b) ∧ (ones 64 (enc a ^^^ enc b) = 0 ∨ 4 ≤ ones 64 (enc a ^^^ enc b)) := by
  have hx := Nat.xor_lt_two_pow ha hb
  rw [enc_xor ha hb]
  by_cases h : a = b
  · subst h
    rw [Nat.xor_self, enc_zero, ones_zero]
    simp
  · have hz : enc (a ^^^ b) ≠ 0 := fun e => h (by
      have := gather_enc hx
      rw [e, gather_zero] at this
      exact xor_zero this.symm)
    have := code_far (enc_lt hx) (syn_enc hx) (ones_enc hx) hz
    exact ⟨⟨fun e => by omega, fun e => absurd e h⟩, .inr this⟩

theorem pow_lt {i : Nat} (hi : i < 64) : 2 ^ i < 2 ^ 64 := Nat.pow_lt_pow_right (by decide) hi
/-- One position inverted. -/
theorem ones_flip (w : Nat) {i : Nat} (hi : i < 64) : ones 64 (w ^^^ 2 ^ i) % 2 = (ones 64 w + 1) % 2 := by rw [ones_xor, ones_pow, if_pos hi]
theorem syn_flip (w : Nat) {i : Nat} (hi : i < 64) : syn 64 (w ^^^ 2 ^ i) = syn 64 w ^^^ i := by rw [syn_xor, syn_pow, if_pos hi]
theorem flip_flip (w i : Nat) : w ^^^ 2 ^ i ^^^ 2 ^ i = w := by rw [Nat.xor_assoc, Nat.xor_self, Nat.xor_zero]
theorem xor_cancel (w x : Nat) : w ^^^ x ^^^ w = x := by rw [Nat.xor_comm w x, Nat.xor_assoc, Nat.xor_self, Nat.xor_zero]

/-- What Check says. -/
def check (w : Nat) : Nat := if ones 64 w % 2 = 1 then 1 else if syn 64 w = 0 then 0 else 2
/-- What Decode returns: data, how many bits were inverted, an error. -/
def decD (w : Nat) : Nat := if check w = 2 then 0 else if check w = 1 then gather (w ^^^ 2 ^ syn 64 w) else gather w
def decN (w : Nat) : Nat := if check w = 1 then 1 else 0
def decE (w : Nat) : Nat := if check w = 2 then 6 else 0

theorem check_le (w : Nat) : check w = 0 ∨ check w = 1 ∨ check w = 2 := by unfold check; split <;> (try split) <;> omega
theorem decD_lt {w : Nat} (h : w < 2 ^ 64) : decD w < 2 ^ 57 := by
  unfold decD
  split
  · decide
  · split
    · exact gather_lt (Nat.xor_lt_two_pow h (pow_lt (syn_lt _ _ (by decide))))
    · exact gather_lt h
theorem check_enc {d : Nat} (h : d < 2 ^ 57) : check (enc d) = 0 := by
  unfold check
  rw [ones_enc h, syn_enc h]; rfl
theorem decD_enc {d : Nat} (h : d < 2 ^ 57) : decD (enc d) = d := by
  unfold decD
  rw [check_enc h]
  simp [gather_enc h]
theorem check_one {d i : Nat} (h : d < 2 ^ 57) (hi : i < 64) : check (enc d ^^^ 2 ^ i) = 1 := by
  unfold check
  rw [ones_flip _ hi, show (ones 64 (enc d) + 1) % 2 = 1 by have := ones_enc h; omega]; rfl
theorem decD_one {d i : Nat} (h : d < 2 ^ 57) (hi : i < 64) : decD (enc d ^^^ 2 ^ i) = d := by
  unfold decD
  rw [check_one h hi, syn_flip _ hi, syn_enc h, Nat.zero_xor, flip_flip]
  simp [gather_enc h]
theorem check_two {d i j : Nat} (h : d < 2 ^ 57) (hi : i < 64) (hj : j < 64) (hij : i ≠ j) : check (enc d ^^^ 2 ^ i ^^^ 2 ^ j) = 2 := by
  unfold check
  rw [ones_flip _ hj, show (ones 64 (enc d ^^^ 2 ^ i) + 1) % 2 = 0 by have := ones_flip (enc d) hi; have := ones_enc h; omega, syn_flip _ hj, syn_flip _ hi, syn_enc h, Nat.zero_xor]
  have : i ^^^ j ≠ 0 := fun e => hij (xor_zero e)
  simp [this]
theorem ones_two_pows {i j : Nat} (hi : i < 64) (hj : j < 64) (hij : i ≠ j) : ones 64 (2 ^ i ^^^ 2 ^ j) = 2 := by
  rw [ones_set _ _ _ (by rw [Nat.testBit_two_pow]; simp [hij]), ones_pow, if_pos hi, if_pos hj]

/-- How many positions below n lead to a code word. -/
def leads (w : Nat) : Nat → Nat
  | 0 => 0
  | n + 1 => leads w n + if check (w ^^^ 2 ^ n) = 0 then 1 else 0
theorem leads_even {w : Nat} (h : check w ≠ 1) : ∀ n, n ≤ 64 → leads w n = 0
  | 0, _ => rfl
  | n + 1, hn => by
    unfold leads
    rw [leads_even h n (by omega)]
    have : check (w ^^^ 2 ^ n) = 1 := by
      have ho : ones 64 w % 2 ≠ 1 := fun e => h (by unfold check; rw [if_pos e])
      unfold check
      rw [ones_flip _ (by omega), if_pos (by omega)]
    rw [this]; rfl
theorem leads_odd {w : Nat} (h : check w = 1) : ∀ n, n ≤ 64 → leads w n = if syn 64 w < n then 1 else 0
  | 0, _ => by simp [leads]
  | n + 1, hn => by
    unfold leads
    rw [leads_odd h n (by omega)]
    have ho : ones 64 w % 2 = 1 := by
      unfold check at h
      split at h
      · assumption
      · split at h <;> omega
    have e : check (w ^^^ 2 ^ n) = if syn 64 w = n then 0 else 2 := by
      unfold check
      rw [ones_flip _ (by omega), if_neg (by omega), syn_flip _ (by omega)]
      by_cases hs : syn 64 w = n
      · rw [hs, Nat.xor_self, if_pos rfl, if_pos rfl]
      · rw [if_neg hs, if_neg (fun e => hs (xor_zero e))]
    rw [e]
    by_cases hs : syn 64 w = n
    · simp [hs]
    · by_cases hl : syn 64 w < n
      · simp [hs, hl, show syn 64 w < n + 1 by omega]
      · simp [hs, hl, show ¬ syn 64 w < n + 1 by omega]
theorem leads_one {w : Nat} (h : check w = 1) : leads w 64 = 1 := by
  rw [leads_odd h 64 (by omega), if_pos (syn_lt _ _ (by decide))]
/-- Check 0: the word is the code word of what is decoded. -/
theorem words_zero {w : Nat} (hw : w < 2 ^ 64) (h : check w = 0) : enc (decD w) = w ∧ decN w = 0 ∧ decE w = 0 := by
  have h1 : ones 64 w % 2 = 0 ∧ syn 64 w = 0 := by
    unfold check at h
    split at h
    · omega
    · split at h
      · rename_i h1 h2; exact ⟨by omega, h2⟩
      · omega
  unfold decD decN decE
  rw [h]
  exact ⟨by simp [code_enc hw h1.2 h1.1], rfl, rfl⟩
theorem words_one {w : Nat} (hw : w < 2 ^ 64) (h : check w = 1) : ones 64 (enc (decD w) ^^^ w) = 1 ∧ decN w = 1 ∧ decE w = 0 := by
  have ho : ones 64 w % 2 = 1 := by
    unfold check at h
    split at h
    · assumption
    · split at h <;> omega
  have hs := syn_lt 64 w (by decide)
  have hx := Nat.xor_lt_two_pow hw (pow_lt hs)
  have e : enc (gather (w ^^^ 2 ^ syn 64 w)) = w ^^^ 2 ^ syn 64 w := code_enc hx (by rw [syn_flip _ hs, Nat.xor_self]) (by rw [ones_flip _ hs]; omega)
  unfold decD decN decE
  rw [h]
  refine ⟨?_, rfl, rfl⟩
  simp only [if_neg (by decide : ¬ (1 : Nat) = 2), if_true]
  rw [e, xor_cancel, ones_pow, if_pos hs]

end Hm
end Go.Proofs.YteikmbcfiabffaaDoor
