/- Bytes as words: the word of at most 8 bytes; that a tag tells one change of a number. -/
import Derived.Test.YtcdoalfpaldbmaaM1
namespace Go.Proofs.Ytcdoalfpaldbmaa
namespace Dg

/-- Bytes. -/
def B8 (xs : List Int) : Prop := ∀ x ∈ xs, 0 ≤ x ∧ x < 256

theorem or_nat (a b : Nat) (ha : a < 18446744073709551616) (hb : b < 18446744073709551616) :
    bits .or .u64 (a : Int) (b : Int) = ((a ||| b : Nat) : Int) := by
  have hx : a ||| b < 2 ^ 64 := Nat.or_lt_two_pow (by omega) (by omega)
  show IntKind.u64.wrap ((BitVec.ofInt 64 (a : Int) ||| BitVec.ofInt 64 (b : Int)).toNat : Int) = _
  rw [wrap_eq, ofInt_toNat, BitVec.toNat_or, BitVec.ofInt_natCast, BitVec.ofInt_natCast, BitVec.toNat_ofNat, BitVec.toNat_ofNat]
  rw [Nat.mod_eq_of_lt (by omega), Nat.mod_eq_of_lt (by omega)]

/-- The word of bytes, the first one as the lowest. -/
def valL : List Int → Int
  | [] => 0
  | x :: t => x + 256 * valL t

theorem valL_range (xs : List Int) (h : B8 xs) : 0 ≤ valL xs ∧ valL xs < 256 ^ xs.length := by
  induction xs with
  | nil => exact ⟨by decide, by decide⟩
  | cons x t ih =>
    have hx := h x (by simp)
    have ht := ih (fun y hy => h y (by simp [hy]))
    simp only [valL, List.length_cons, Int.pow_succ]
    generalize (256 : Int) ^ t.length = p at ht
    omega

theorem valL_snoc (l : List Int) (x : Int) : valL (l ++ [x]) = valL l + x * 256 ^ l.length := by
  induction l with
  | nil => simp [valL]
  | cons y t ih =>
    simp only [List.cons_append, valL, ih, List.length_cons, Int.pow_succ, Int.mul_add]
    generalize (256 : Int) ^ t.length = p
    have : 256 * (x * p) = x * (p * 256) := by rw [Int.mul_comm p 256, Int.mul_left_comm]
    omega

theorem valL_inj : ∀ (xs ys : List Int), B8 xs → B8 ys → xs.length = ys.length → valL xs = valL ys → xs = ys
  | [], [], _, _, _, _ => rfl
  | [], _ :: _, _, _, h, _ => by simp at h
  | _ :: _, [], _, _, h, _ => by simp at h
  | x :: s, y :: t, hx, hy, hl, e => by
    have h1 := hx x (by simp)
    have h2 := hy y (by simp)
    simp only [valL] at e
    have e1 : x = y := by omega
    have e2 := valL_inj s t (fun z hz => hx z (by simp [hz])) (fun z hz => hy z (by simp [hz])) (by simpa using hl) (by omega)
    rw [e1, e2]

theorem pow256 (k : Nat) : (256 : Int) ^ k = ((2 ^ (8 * k) : Nat) : Int) := by
  rw [Nat.pow_mul]
  simp

/-- One more byte is laid beside. -/
theorem or_byte (k : Nat) (hk : k < 8) (a x : Int) (ha : 0 ≤ a) (ha' : a < 256 ^ k) (hx : 0 ≤ x) (hx' : x < 256) :
    bits .or .u64 a (IntKind.u64.wrap (IntKind.u64.wrap x * 2 ^ (8 * k))) = a + x * 256 ^ k := by
  have h64 : (2 : Nat) ^ (8 * k) * 256 ≤ 18446744073709551616 := by
    have : (2 : Nat) ^ (8 * k) * 256 = 2 ^ (8 * k + 8) := by rw [Nat.pow_add]
    rw [this]
    exact Nat.pow_le_pow_right (n := 2) (i := 8 * k + 8) (j := 64) (by decide) (by omega)
  rw [pow256] at ha' ⊢
  have e2 : ((2 : Int) ^ (8 * k)) = ((2 ^ (8 * k) : Nat) : Int) := by simp
  rw [e2]
  generalize hp : (2 : Nat) ^ (8 * k) = p at *
  obtain ⟨a, rfl⟩ := Int.eq_ofNat_of_zero_le ha
  obtain ⟨x, rfl⟩ := Int.eq_ofNat_of_zero_le hx
  have hx2 : x < 256 := by omega
  have ha2 : a < p := by omega
  have hxp : x * p < 18446744073709551616 := by
    have h1 : x * p ≤ 255 * p := Nat.mul_le_mul_right p (by omega)
    omega
  have e3 : IntKind.u64.wrap (IntKind.u64.wrap (x : Int) * (p : Int)) = ((x * p : Nat) : Int) := by
    have e4 : IntKind.u64.wrap (x : Int) = (x : Int) := by rw [IntKind.wrap_u64]; omega
    rw [e4, ← Int.natCast_mul, IntKind.wrap_u64]
    omega
  rw [e3, or_nat a (x * p) (by omega) hxp, ← Int.natCast_mul, ← Int.natCast_add]
  congr 1
  rw [Nat.or_comm, Nat.add_comm, ← hp, ← Nat.shiftLeft_eq]
  rw [← hp] at ha2
  exact (Nat.shiftLeft_add_eq_or_of_lt ha2 x).symm

/-- The word, as it is computed. -/
def wordTo (xs : List Int) (k : Nat) : Int := valL (xs.take k)

theorem wordTo_succ (xs : List Int) (k : Nat) (hb : B8 xs) (hk : k < xs.length) (h8 : xs.length ≤ 8) :
    bits .or .u64 (wordTo xs k) (IntKind.u64.wrap (IntKind.u64.wrap (xs[k]?.getD 0) * 2 ^ (8 * k))) = wordTo xs (k + 1) := by
  have hr := valL_range (xs.take k) (fun x hx => hb x (List.mem_of_mem_take hx))
  rw [List.length_take, Nat.min_eq_left (by omega)] at hr
  have hx := hb (xs[k]?.getD 0) (by rw [List.getElem?_eq_getElem hk]; simp)
  unfold wordTo
  rw [or_byte k (by omega) _ _ hr.1 hr.2 hx.1 hx.2, List.take_succ_eq_append_getElem hk, valL_snoc, List.length_take, Nat.min_eq_left (by omega)]
  simp [hk]

theorem wordTo_all (xs : List Int) : wordTo xs xs.length = valL xs := by unfold wordTo; rw [List.take_length]

theorem foldI_append (h : Int) (l r : List Int) : foldI h (l ++ r) = foldI (foldI h l) r := by unfold foldI; rw [List.foldl_append]
theorem foldI_range (h : Int) (l : List Int) (hh : R h) : R (foldI h l) := by
  induction l generalizing h with
  | nil => exact hh
  | cons x t ih => exact ih _ (stepI_range _ _)
theorem foldI_left {h h' : Int} (l : List Int) (hh : R h) (hh' : R h') (e : foldI h l = foldI h' l) : h = h' := by
  induction l generalizing h h' with
  | nil => exact e
  | cons x t ih => exact stepI_left hh hh' (ih (stepI_range _ _) (stepI_range _ _) e)

/-- Two lists of one length that differ at one place alone. -/
theorem foldI_one {h : Int} (hh : R h) (l r : List Int) (i : Nat) (hl : l.length = r.length) (hi : i < l.length) (ho : ∀ j, j ≠ i → l[j]? = r[j]?) (hl' : R (l[i]?.getD 0)) (hr' : R (r[i]?.getD 0))
    (e : foldI h l = foldI h r) : l[i]?.getD 0 = r[i]?.getD 0 := by
  have hir : i < r.length := by omega
  have e1 : l = l.take i ++ (l[i]?.getD 0 :: l.drop (i + 1)) := by
    rw [List.getElem?_eq_getElem hi, Option.getD_some, ← List.drop_eq_getElem_cons hi, List.take_append_drop]
  have e2 : r = r.take i ++ (r[i]?.getD 0 :: r.drop (i + 1)) := by
    rw [List.getElem?_eq_getElem hir, Option.getD_some, ← List.drop_eq_getElem_cons hir, List.take_append_drop]
  have e3 : l.take i = r.take i := by
    apply List.ext_getElem?
    intro j
    by_cases hj : j < i
    · rw [List.getElem?_take_of_lt hj, List.getElem?_take_of_lt hj]; exact ho j (by omega)
    · rw [List.getElem?_eq_none (by simp; omega), List.getElem?_eq_none (by simp; omega)]
  have e4 : l.drop (i + 1) = r.drop (i + 1) := by
    apply List.ext_getElem?
    intro j
    rw [List.getElem?_drop, List.getElem?_drop]
    exact ho _ (by omega)
  generalize l[i]?.getD 0 = x at *
  generalize r[i]?.getD 0 = y at *
  rw [e1, e2, e3, e4, foldI_append, foldI_append] at e
  have hf := foldI_range h (r.take i) hh
  exact stepI_right hl' hr' (foldI_left (r.drop (i + 1)) (stepI_range _ _) (stepI_range _ _) e)

theorem beq_iff {a b c d : Int} (h : a = b ↔ c = d) : (a == b) = (c == d) := by rw [Bool.eq_iff_iff, beq_iff_eq, beq_iff_eq, h]

theorem tag_keys (z0 z1 : Int) (xs : List Int) (h0 : R z0) (h1 : R z1) : (tagI z0 xs == tagI z1 xs) = (z0 == z1) :=
  beq_iff ⟨fun e => stepI_left h0 h1 e, fun e => by rw [e]⟩
/-- A number of 64 bits with its sign. -/
def I64 (n : Int) : Prop := -9223372036854775808 ≤ n ∧ n < 9223372036854775808

theorem wrap_R (n : Int) : R (IntKind.u64.wrap n) := by unfold R; rw [IntKind.wrap_u64]; omega
theorem wrap_inj {a b : Int} (ha : I64 a) (hb : I64 b) (e : IntKind.u64.wrap a = IntKind.u64.wrap b) : a = b := by
  rw [IntKind.wrap_u64, IntKind.wrap_u64] at e
  unfold I64 at ha hb
  omega

theorem words_iff (xs : List Int) (i : Nat) (v : Int) (hx : ∀ x ∈ xs, I64 x) (hv : I64 v) (hi : i < xs.length) : wordsI xs = wordsI (xs.set i v) ↔ xs[i]?.getD 0 = v := by
  constructor
  · intro e
    unfold wordsI at e
    rw [List.length_set] at e
    have e1 := stepI_left (foldI_range _ _ (by unfold R; omega)) (foldI_range _ _ (by unfold R; omega)) e
    have ho : ∀ j, j ≠ i → (xs.map IntKind.u64.wrap)[j]? = ((xs.set i v).map IntKind.u64.wrap)[j]? := by
      intro j hj
      rw [List.getElem?_map, List.getElem?_map, List.getElem?_set_ne (by omega)]
    have g1 : (xs.map IntKind.u64.wrap)[i]?.getD 0 = IntKind.u64.wrap (xs[i]?.getD 0) := by rw [List.getElem?_map, List.getElem?_eq_getElem hi]; rfl
    have g2 : ((xs.set i v).map IntKind.u64.wrap)[i]?.getD 0 = IntKind.u64.wrap v := by rw [List.getElem?_map, List.getElem?_set_self hi]; rfl
    have e2 := foldI_one (by unfold R; omega) _ _ i (by simp) (by simpa using hi) ho (by rw [g1]; exact wrap_R _) (by rw [g2]; exact wrap_R _) e1
    rw [g1, g2] at e2
    exact wrap_inj (by rw [List.getElem?_eq_getElem hi]; exact hx _ (by simp)) hv e2
  · intro e
    have : xs.set i v = xs := by
      apply List.ext_getElem?
      intro j
      by_cases hj : i = j
      · subst hj
        rw [List.getElem?_set_self hi, List.getElem?_eq_getElem hi]
        rw [List.getElem?_eq_getElem hi] at e
        simpa using e.symm
      · rw [List.getElem?_set_ne hj]
    rw [this]

theorem tag_set (k : Int) (xs : List Int) (i : Nat) (v : Int) (hx : ∀ x ∈ xs, I64 x) (hv : I64 v) (hi : i < xs.length) : (tagI k xs == tagI k (xs.set i v)) = (xs[i]?.getD 0 == v) :=
  beq_iff ⟨fun e => (words_iff xs i v hx hv hi).1 (stepI_right (wordsI_range _) (wordsI_range _) e), fun e => by unfold tagI; rw [(words_iff xs i v hx hv hi).2 e]⟩

end Dg
end Go.Proofs.Ytcdoalfpaldbmaa
