/- The number of ones of a word, counted in parallel. -/
import Derived.Test.YteikmbcfiabffaaDoorM1
namespace Go.Proofs.YteikmbcfiabffaaDoor
namespace Hm
set_option linter.unusedVariables false

/-- The number of ones of the lowest n bits, from the lowest on. -/
def cnt : Nat → Nat → Nat
  | 0, _ => 0
  | n + 1, w => w % 2 + cnt n (w / 2)

theorem ones_succ' : ∀ n w, ones (n + 1) w = w % 2 + ones n (w / 2)
  | 0, w => by
    unfold ones
    rw [Nat.testBit_zero]
    rcases Nat.mod_two_eq_zero_or_one w with h | h <;> simp [ones, h]
  | n + 1, w => by
    rw [ones, ones_succ' n w, ones, Nat.testBit_succ]
    split <;> omega
theorem ones_cnt : ∀ n w, ones n w = cnt n w
  | 0, _ => rfl
  | n + 1, w => by rw [ones_succ', cnt, ones_cnt n (w / 2)]

theorem cnt_bytes (n a b : Nat) (h : a < 256) : cnt (n + 8) (a + 256 * b) = cnt 8 a + cnt n b := by
  have e : ∀ m w, cnt (m + 1) w = w % 2 + cnt m (w / 2) := fun _ _ => rfl
  rw [show n + 8 = n + 1 + 1 + 1 + 1 + 1 + 1 + 1 + 1 by omega, e, e, e, e, e, e, e, e, e 7, e 6, e 5, e 4, e 3, e 2, e 1, e 0, show cnt 0 (a / 2 / 2 / 2 / 2 / 2 / 2 / 2 / 2) = 0 from rfl]
  rw [show (a + 256 * b) / 2 / 2 / 2 / 2 / 2 / 2 / 2 / 2 = b by omega]
  omega

/-- The three first steps at a byte: the number of its ones. -/
def st1 (x m : Nat) : Nat := (x / 2 &&& m) + (x &&& m)
def st2 (x m : Nat) : Nat := (x / 4 &&& m) + (x &&& m)
def st3 (x m : Nat) : Nat := (x / 16 + x) &&& m

theorem and_byte (a b m M : Nat) (ha : a < 256) (hm : m < 256) : (a + 256 * b) &&& (m + 256 * M) = (a &&& m) + 256 * (b &&& M) := by
  have e : ∀ x y, x < 256 → x + 256 * y = 2 ^ 8 * y ||| x := fun x y h => by rw [← Nat.two_pow_add_eq_or_of_lt h]; omega
  have hl : a &&& m < 256 := Nat.and_lt_two_pow (n := 8) _ hm
  rw [e a b ha, e m M hm, e _ _ hl]
  apply Nat.eq_of_testBit_eq
  intro i
  have ta : ∀ i, 8 ≤ i → a.testBit i = false := fun i hi => Nat.testBit_lt_two_pow (Nat.lt_of_lt_of_le ha (Nat.pow_le_pow_right (by decide : 0 < 2) hi : 2 ^ 8 ≤ 2 ^ i))
  have tm : ∀ i, 8 ≤ i → m.testBit i = false := fun i hi => Nat.testBit_lt_two_pow (Nat.lt_of_lt_of_le hm (Nat.pow_le_pow_right (by decide : 0 < 2) hi : 2 ^ 8 ≤ 2 ^ i))
  simp only [Nat.testBit_and, Nat.testBit_or, Nat.testBit_two_pow_mul]
  by_cases hi : 8 ≤ i
  · simp [hi, ta i hi, tm i hi]
  · simp [hi]

theorem byte1 : ∀ a, a < 256 → ∀ c, c < 2 → (a / 2 + 128 * c) &&& 85 = a / 2 &&& 85 := by decide +kernel
theorem byte2 : ∀ a, a < 256 → ∀ c, c < 4 → (a / 4 + 64 * c) &&& 51 = a / 4 &&& 51 := by decide +kernel
theorem byte12 : ∀ a, a < 256 → st1 a 85 < 256 ∧ st2 (st1 a 85) 51 < 128 ∧ st2 (st1 a 85) 51 / 16 + st2 (st1 a 85) 51 < 128 := by decide +kernel
theorem byte3 : ∀ a, a < 256 → st3 (st2 (st1 a 85) 51) 15 = cnt 8 a := by decide +kernel
theorem byte3c : ∀ a, a < 256 → ∀ c, c < 16 → (st2 (st1 a 85) 51 / 16 + st2 (st1 a 85) 51 + 16 * c) &&& 15 = (st2 (st1 a 85) 51 / 16 + st2 (st1 a 85) 51) &&& 15 := by decide +kernel
theorem byte3d : ∀ a, a < 256 → ((st2 (st1 a 85) 51 &&& 15) ≤ 4 ∧ st2 (st1 a 85) 51 / 16 ≤ 4) := by decide +kernel

theorem st1_byte (a b M : Nat) (ha : a < 256) : st1 (a + 256 * b) (85 + 256 * M) = st1 a 85 + 256 * st1 b M := by
  unfold st1
  have e : (a + 256 * b) / 2 = (a / 2 + 128 * (b % 2)) + 256 * (b / 2) := by omega
  rw [e, and_byte _ _ _ _ (by omega) (by decide), and_byte _ _ _ _ ha (by decide), byte1 a ha _ (by omega)]
  omega
theorem st2_byte (a b M : Nat) (ha : a < 256) : st2 (a + 256 * b) (51 + 256 * M) = st2 a 51 + 256 * st2 b M := by
  unfold st2
  have e : (a + 256 * b) / 4 = (a / 4 + 64 * (b % 4)) + 256 * (b / 4) := by omega
  rw [e, and_byte _ _ _ _ (by omega) (by decide), and_byte _ _ _ _ ha (by decide), byte2 a ha _ (by omega)]
  omega

def val : List Nat → Nat
  | [] => 0
  | a :: l => a + 256 * val l
def all (m : Nat) (l : List Nat) : Nat := val (l.map fun _ => m)

theorem st1_val : ∀ l : List Nat, (∀ a ∈ l, a < 256) → st1 (val l) (all 85 l) = val (l.map (st1 · 85))
  | [], _ => rfl
  | a :: l, h => by
    have ih := st1_val l (fun b hb => h b (List.mem_cons_of_mem _ hb))
    simp only [val, all, List.map_cons] at ih ⊢
    rw [st1_byte _ _ _ (h a (List.mem_cons_self ..)), ih]
theorem st2_val : ∀ l : List Nat, (∀ a ∈ l, a < 256) → st2 (val l) (all 51 l) = val (l.map (st2 · 51))
  | [], _ => rfl
  | a :: l, h => by
    have ih := st2_val l (fun b hb => h b (List.mem_cons_of_mem _ hb))
    simp only [val, all, List.map_cons] at ih ⊢
    rw [st2_byte _ _ _ (h a (List.mem_cons_self ..)), ih]

def nib (u : Nat) : Prop := u % 16 ≤ 4 ∧ u / 16 ≤ 4
theorem nib_byte : ∀ a, a < 256 → st2 (st1 a 85) 51 % 16 ≤ 4 ∧ st2 (st1 a 85) 51 / 16 ≤ 4 := by decide +kernel
theorem byte3e : ∀ u, u < 128 → ∀ c, c < 5 → u % 16 ≤ 4 → u / 16 ≤ 4 → (u / 16 + u + 16 * c) &&& 15 = (u / 16 + u) &&& 15 := by decide +kernel
theorem st3_val : ∀ l : List Nat, (∀ u ∈ l, nib u) → st3 (val l) (all 15 l) = val (l.map (st3 · 15))
  | [], _ => rfl
  | u :: l, h => by
    have ih := st3_val l (fun b hb => h b (List.mem_cons_of_mem _ hb))
    obtain ⟨h1, h2⟩ := h u (List.mem_cons_self ..)
    have hr : val l % 16 ≤ 4 := by
      cases l with
      | nil => simp [val]
      | cons v l =>
        have := (h v (List.mem_cons_of_mem _ (List.mem_cons_self ..))).1
        simp only [val]
        omega
    simp only [val, all, List.map_cons] at ih ⊢
    rw [← ih]
    unfold st3
    rw [show (u + 256 * val l) / 16 + (u + 256 * val l) = (u / 16 + u + 16 * (val l % 16)) + 256 * (val l / 16 + val l) by omega]
    rw [and_byte _ _ _ _ (by omega) (by decide), byte3e u (by omega) _ (by omega) h1 h2]

theorem split8 (x : Nat) (h : x < 18446744073709551616) : ∃ a0 a1 a2 a3 a4 a5 a6 a7, x = val [a0, a1, a2, a3, a4, a5, a6, a7] ∧ ∀ a ∈ [a0, a1, a2, a3, a4, a5, a6, a7], a < 256 := by
  refine ⟨x % 256, x / 256 % 256, x / 65536 % 256, x / 16777216 % 256, x / 4294967296 % 256, x / 1099511627776 % 256, x / 281474976710656 % 256, x / 72057594037927936, ?_, ?_⟩
  · simp only [val]
    omega
  · intro a ha
    simp only [List.mem_cons, List.not_mem_nil, or_false] at ha
    omega

theorem cnt8_le (a : Nat) : cnt 8 a ≤ 8 := by rw [← ones_cnt]; exact ones_le 8 a

theorem val_div (a : Nat) (l : List Nat) (h : a < 256) : val (a :: l) / 256 = val l := by
  simp only [val]
  omega
theorem val_div2 (a b : Nat) (l : List Nat) (h : a < 256) (h' : b < 256) : val (a :: b :: l) / 65536 = val l := by
  rw [show (65536 : Nat) = 256 * 256 from rfl, ← Nat.div_div_eq_div_mul, val_div _ _ h, val_div _ _ h']
theorem val_div4 (a b c d : Nat) (l : List Nat) (h : a < 256) (h' : b < 256) (h2 : c < 256) (h3 : d < 256) : val (a :: b :: c :: d :: l) / 4294967296 = val l := by
  rw [show (4294967296 : Nat) = 65536 * 65536 from rfl, ← Nat.div_div_eq_div_mul, val_div2 _ _ _ h h', val_div2 _ _ _ h2 h3]

theorem fold8 (c0 c1 c2 c3 c4 c5 c6 c7 : Nat) (n0 : c0 ≤ 8) (n1 : c1 ≤ 8) (n2 : c2 ≤ 8) (n3 : c3 ≤ 8) (n4 : c4 ≤ 8) (n5 : c5 ≤ 8) (n6 : c6 ≤ 8) (n7 : c7 ≤ 8) (y z t : Nat)
    (hy : y = val [c0, c1, c2, c3, c4, c5, c6, c7]) (hz : z = y + y / 256) (ht : t = z + z / 65536) :
    z < 18446744073709551616 ∧ t < 18446744073709551616 ∧ t + t / 4294967296 < 18446744073709551616 ∧ (t + t / 4294967296) % 128 = c0 + (c1 + (c2 + (c3 + (c4 + (c5 + (c6 + c7)))))) := by
  have e1 : z = val [c0 + c1, c1 + c2, c2 + c3, c3 + c4, c4 + c5, c5 + c6, c6 + c7, c7] := by
    rw [hz, hy, val_div _ _ (by omega)]
    simp only [val]
    omega
  have e2 : t = val [c0 + c1 + (c2 + c3), c1 + c2 + (c3 + c4), c2 + c3 + (c4 + c5), c3 + c4 + (c5 + c6), c4 + c5 + (c6 + c7), c5 + c6 + c7, c6 + c7, c7] := by
    rw [ht, e1, val_div2 _ _ _ (by omega) (by omega)]
    simp only [val]
    omega
  have e3 : t + t / 4294967296 = val [c0 + c1 + (c2 + c3) + (c4 + c5 + (c6 + c7)), c1 + c2 + (c3 + c4) + (c5 + c6 + c7), c2 + c3 + (c4 + c5) + (c6 + c7), c3 + c4 + (c5 + c6) + c7, c4 + c5 + (c6 + c7), c5 + c6 + c7, c6 + c7, c7] := by
    rw [e2, val_div4 _ _ _ _ _ (by omega) (by omega) (by omega) (by omega)]
    simp only [val]
    omega
  rw [e3, e2, e1]
  clear e1 e2 e3 hy hz ht
  refine ⟨?_, ?_, ?_, ?_⟩
  · simp only [val]; omega
  · simp only [val]; omega
  · simp only [val]; omega
  · rw [val]; omega

theorem val_lt : ∀ l : List Nat, (∀ a ∈ l, a < 256) → val l < 256 ^ l.length
  | [], _ => by simp [val]
  | a :: l, h => by
    have ih := val_lt l (fun b hb => h b (List.mem_cons_of_mem _ hb))
    have := h a (List.mem_cons_self ..)
    rw [val, List.length_cons, Nat.pow_succ]
    omega
theorem val8_lt (c0 c1 c2 c3 c4 c5 c6 c7 : Nat) (h : ∀ a ∈ [c0, c1, c2, c3, c4, c5, c6, c7], a < 256) : val [c0, c1, c2, c3, c4, c5, c6, c7] < 18446744073709551616 := by
  have := val_lt _ h
  simp only [List.length_cons, List.length_nil] at this
  omega
theorem val8_le (c0 c1 c2 c3 c4 c5 c6 c7 : Nat) (h : ∀ a ∈ [c0, c1, c2, c3, c4, c5, c6], a < 256) (h7 : c7 ≤ 68) : val [c0, c1, c2, c3, c4, c5, c6, c7] < 5000000000000000000 := by
  have := val_lt _ h
  have e : val [c0, c1, c2, c3, c4, c5, c6, c7] = val [c0, c1, c2, c3, c4, c5, c6] + 72057594037927936 * c7 := by simp only [val]; omega
  rw [e]
  simp only [List.length_cons, List.length_nil] at this
  omega

/-- The steps on a whole word. -/
theorem swar (x : Nat) (h : x < 18446744073709551616) :
    ∃ y1 y2 y3 : Nat, st1 x 6148914691236517205 = y1 ∧ y1 < 18446744073709551616 ∧ st2 y1 3689348814741910323 = y2 ∧ y2 / 16 + y2 < 18446744073709551616 ∧ st3 y2 1085102592571150095 = y3 ∧
      y3 + y3 / 256 < 18446744073709551616 ∧ (y3 + y3 / 256) + (y3 + y3 / 256) / 65536 < 18446744073709551616 ∧ ((y3 + y3 / 256) + (y3 + y3 / 256) / 65536) + ((y3 + y3 / 256) + (y3 + y3 / 256) / 65536) / 4294967296 < 18446744073709551616 ∧
      (((y3 + y3 / 256) + (y3 + y3 / 256) / 65536) + ((y3 + y3 / 256) + (y3 + y3 / 256) / 65536) / 4294967296) % 128 = ones 64 x := by
  obtain ⟨a0, a1, a2, a3, a4, a5, a6, a7, rfl, hb⟩ := split8 x h
  have e1 : st1 (val [a0, a1, a2, a3, a4, a5, a6, a7]) 6148914691236517205 = val ([a0, a1, a2, a3, a4, a5, a6, a7].map (st1 · 85)) := by rw [← st1_val _ hb, show all 85 [a0, a1, a2, a3, a4, a5, a6, a7] = 6148914691236517205 by simp [all, val]]
  have b1 : ∀ a ∈ [a0, a1, a2, a3, a4, a5, a6, a7].map (st1 · 85), a < 256 := by
    intro a ha
    obtain ⟨b, hb', rfl⟩ := List.mem_map.1 ha
    exact (byte12 b (hb b hb')).1
  have e2 : st2 (val ([a0, a1, a2, a3, a4, a5, a6, a7].map (st1 · 85))) 3689348814741910323 = val (([a0, a1, a2, a3, a4, a5, a6, a7].map (st1 · 85)).map (st2 · 51)) := by rw [← st2_val _ b1, show all 51 ([a0, a1, a2, a3, a4, a5, a6, a7].map (st1 · 85)) = 3689348814741910323 by simp [all, val]]
  have b2 : ∀ a ∈ ([a0, a1, a2, a3, a4, a5, a6, a7].map (st1 · 85)).map (st2 · 51), nib a := by
    intro a ha
    obtain ⟨b, hb', rfl⟩ := List.mem_map.1 ha
    obtain ⟨c, hc, rfl⟩ := List.mem_map.1 hb'
    exact nib_byte c (hb c hc)
  have e3 : st3 (val (([a0, a1, a2, a3, a4, a5, a6, a7].map (st1 · 85)).map (st2 · 51))) 1085102592571150095 = val ((([a0, a1, a2, a3, a4, a5, a6, a7].map (st1 · 85)).map (st2 · 51)).map (st3 · 15)) := by rw [← st3_val _ b2, show all 15 (([a0, a1, a2, a3, a4, a5, a6, a7].map (st1 · 85)).map (st2 · 51)) = 1085102592571150095 by simp [all, val]]
  have h0 := hb a0 (by simp)
  have h1 := hb a1 (by simp)
  have h2 := hb a2 (by simp)
  have h3 := hb a3 (by simp)
  have h4 := hb a4 (by simp)
  have h5 := hb a5 (by simp)
  have h6 := hb a6 (by simp)
  have h7 := hb a7 (by simp)
  have e4 : val ((([a0, a1, a2, a3, a4, a5, a6, a7].map (st1 · 85)).map (st2 · 51)).map (st3 · 15)) = val [cnt 8 a0, cnt 8 a1, cnt 8 a2, cnt 8 a3, cnt 8 a4, cnt 8 a5, cnt 8 a6, cnt 8 a7] := by
    simp only [List.map_cons, List.map_nil]
    rw [byte3 a0 h0, byte3 a1 h1, byte3 a2 h2, byte3 a3 h3, byte3 a4 h4, byte3 a5 h5, byte3 a6 h6, byte3 a7 h7]
  have e5 : ones 64 (val [a0, a1, a2, a3, a4, a5, a6, a7]) = cnt 8 a0 + (cnt 8 a1 + (cnt 8 a2 + (cnt 8 a3 + (cnt 8 a4 + (cnt 8 a5 + (cnt 8 a6 + cnt 8 a7)))))) := by
    rw [ones_cnt]
    simp only [val]
    rw [cnt_bytes 56 _ _ h0, cnt_bytes 48 _ _ h1, cnt_bytes 40 _ _ h2, cnt_bytes 32 _ _ h3, cnt_bytes 24 _ _ h4, cnt_bytes 16 _ _ h5, cnt_bytes 8 _ _ h6, cnt_bytes 0 _ _ h7]
    simp [cnt]
  have n0 := cnt8_le a0
  have n1 := cnt8_le a1
  have n2 := cnt8_le a2
  have n3 := cnt8_le a3
  have n4 := cnt8_le a4
  have n5 := cnt8_le a5
  have n6 := cnt8_le a6
  have n7 := cnt8_le a7
  have b8 : ∀ a, a < 256 → st2 (st1 a 85) 51 ≤ 68 := fun a ha => by have := nib_byte a ha; omega
  have u0 := b8 a0 h0
  have u1 := b8 a1 h1
  have u2 := b8 a2 h2
  have u3 := b8 a3 h3
  have u4 := b8 a4 h4
  have u5 := b8 a5 h5
  have u6 := b8 a6 h6
  have u7 := b8 a7 h7
  refine ⟨_, _, _, e1, ?_, e2, ?_, e3.trans e4, ?_, ?_, ?_, ?_⟩
  · simp only [List.map_cons, List.map_nil]
    exact val8_lt _ _ _ _ _ _ _ _ b1
  · simp only [List.map_cons, List.map_nil]
    have := val8_le (st2 (st1 a0 85) 51) (st2 (st1 a1 85) 51) (st2 (st1 a2 85) 51) (st2 (st1 a3 85) 51) (st2 (st1 a4 85) 51) (st2 (st1 a5 85) 51) (st2 (st1 a6 85) 51) (st2 (st1 a7 85) 51) (by
      intro a ha
      simp only [List.mem_cons, List.not_mem_nil, or_false] at ha
      rcases ha with rfl | rfl | rfl | rfl | rfl | rfl | rfl <;> omega) u7
    generalize val _ = v at this ⊢
    clear e1 e2 e3 e4 e5 b1 b2 hb h b8 u0 u1 u2 u3 u4 u5 u6 u7 h0 h1 h2 h3 h4 h5 h6 h7 n0 n1 n2 n3 n4 n5 n6 n7
    omega
  · exact (fold8 _ _ _ _ _ _ _ _ n0 n1 n2 n3 n4 n5 n6 n7 _ _ _ rfl rfl rfl).1
  · exact (fold8 _ _ _ _ _ _ _ _ n0 n1 n2 n3 n4 n5 n6 n7 _ _ _ rfl rfl rfl).2.1
  · exact (fold8 _ _ _ _ _ _ _ _ n0 n1 n2 n3 n4 n5 n6 n7 _ _ _ rfl rfl rfl).2.2.1
  · rw [e5]
    exact (fold8 _ _ _ _ _ _ _ _ n0 n1 n2 n3 n4 n5 n6 n7 _ _ _ rfl rfl rfl).2.2.2

end Hm
end Go.Proofs.YteikmbcfiabffaaDoor
