/- Bytes as words: the word of at most 8 bytes, the words of a byte sequence, its digest; that sequences of one length that differ in exactly one byte have different digests. -/
import Derived.Test.YtgjmhddekggilaaM1
namespace Go.Proofs.Ytgjmhddekggilaa
namespace Dg

/-- Bytes. -/
def B8 (xs : List Int) : Prop := ∀ x ∈ xs, 0 ≤ x ∧ x < 256

theorem or_nat (a b : Nat) (ha : a < 18446744073709551616) (hb : b < 18446744073709551616) :
    bits .or .u64 (a : Int) (b : Int) = ((a ||| b : Nat) : Int) := by
  have hx : a ||| b < 2 ^ 64 := Nat.or_lt_two_pow (by omega) (by omega)
  show IntKind.u64.wrap ((BitVec.ofInt 64 (a : Int) ||| BitVec.ofInt 64 (b : Int)).toNat : Int) = _
  rw [wrap_eq, ofInt_toNat, BitVec.toNat_or, BitVec.ofInt_natCast, BitVec.ofInt_natCast, BitVec.toNat_ofNat, BitVec.toNat_ofNat]
  rw [Nat.mod_eq_of_lt (by omega), Nat.mod_eq_of_lt (by omega)]

/-- The word of bytes, the first one as the lowest. -/
def valL : List Int → Int
  | [] => 0
  | x :: t => x + 256 * valL t

theorem valL_range (xs : List Int) (h : B8 xs) : 0 ≤ valL xs ∧ valL xs < 256 ^ xs.length := by
  induction xs with
  | nil => exact ⟨by decide, by decide⟩
  | cons x t ih =>
    have hx := h x (by simp)
    have ht := ih (fun y hy => h y (by simp [hy]))
    simp only [valL, List.length_cons, Int.pow_succ]
    generalize (256 : Int) ^ t.length = p at ht
    omega

theorem valL_snoc (l : List Int) (x : Int) : valL (l ++ [x]) = valL l + x * 256 ^ l.length := by
  induction l with
  | nil => simp [valL]
  | cons y t ih =>
    simp only [List.cons_append, valL, ih, List.length_cons, Int.pow_succ, Int.mul_add]
    generalize (256 : Int) ^ t.length = p
    have : 256 * (x * p) = x * (p * 256) := by rw [Int.mul_comm p 256, Int.mul_left_comm]
    omega

theorem valL_inj : ∀ (xs ys : List Int), B8 xs → B8 ys → xs.length = ys.length → valL xs = valL ys → xs = ys
  | [], [], _, _, _, _ => rfl
  | [], _ :: _, _, _, h, _ => by simp at h
  | _ :: _, [], _, _, h, _ => by simp at h
  | x :: s, y :: t, hx, hy, hl, e => by
    have h1 := hx x (by simp)
    have h2 := hy y (by simp)
    simp only [valL] at e
    have e1 : x = y := by omega
    have e2 := valL_inj s t (fun z hz => hx z (by simp [hz])) (fun z hz => hy z (by simp [hz])) (by simpa using hl) (by omega)
    rw [e1, e2]

theorem pow256 (k : Nat) : (256 : Int) ^ k = ((2 ^ (8 * k) : Nat) : Int) := by
  rw [Nat.pow_mul]
  simp

/-- One more byte is laid beside. -/
theorem or_byte (k : Nat) (hk : k < 8) (a x : Int) (ha : 0 ≤ a) (ha' : a < 256 ^ k) (hx : 0 ≤ x) (hx' : x < 256) :
    bits .or .u64 a (IntKind.u64.wrap (IntKind.u64.wrap x * 2 ^ (8 * k))) = a + x * 256 ^ k := by
  have h64 : (2 : Nat) ^ (8 * k) * 256 ≤ 18446744073709551616 := by
    have : (2 : Nat) ^ (8 * k) * 256 = 2 ^ (8 * k + 8) := by rw [Nat.pow_add]
    rw [this]
    exact Nat.pow_le_pow_right (n := 2) (i := 8 * k + 8) (j := 64) (by decide) (by omega)
  rw [pow256] at ha' ⊢
  have e2 : ((2 : Int) ^ (8 * k)) = ((2 ^ (8 * k) : Nat) : Int) := by simp
  rw [e2]
  generalize hp : (2 : Nat) ^ (8 * k) = p at *
  obtain ⟨a, rfl⟩ := Int.eq_ofNat_of_zero_le ha
  obtain ⟨x, rfl⟩ := Int.eq_ofNat_of_zero_le hx
  have hx2 : x < 256 := by omega
  have ha2 : a < p := by omega
  have hxp : x * p < 18446744073709551616 := by
    have h1 : x * p ≤ 255 * p := Nat.mul_le_mul_right p (by omega)
    omega
  have e3 : IntKind.u64.wrap (IntKind.u64.wrap (x : Int) * (p : Int)) = ((x * p : Nat) : Int) := by
    have e4 : IntKind.u64.wrap (x : Int) = (x : Int) := by rw [IntKind.wrap_u64]; omega
    rw [e4, ← Int.natCast_mul, IntKind.wrap_u64]
    omega
  rw [e3, or_nat a (x * p) (by omega) hxp, ← Int.natCast_mul, ← Int.natCast_add]
  congr 1
  rw [Nat.or_comm, Nat.add_comm, ← hp, ← Nat.shiftLeft_eq]
  rw [← hp] at ha2
  exact (Nat.shiftLeft_add_eq_or_of_lt ha2 x).symm

/-- The word, as it is computed. -/
def wordTo (xs : List Int) (k : Nat) : Int := valL (xs.take k)

theorem wordTo_succ (xs : List Int) (k : Nat) (hb : B8 xs) (hk : k < xs.length) (h8 : xs.length ≤ 8) :
    bits .or .u64 (wordTo xs k) (IntKind.u64.wrap (IntKind.u64.wrap (xs[k]?.getD 0) * 2 ^ (8 * k))) = wordTo xs (k + 1) := by
  have hr := valL_range (xs.take k) (fun x hx => hb x (List.mem_of_mem_take hx))
  rw [List.length_take, Nat.min_eq_left (by omega)] at hr
  have hx := hb (xs[k]?.getD 0) (by rw [List.getElem?_eq_getElem hk]; simp)
  unfold wordTo
  rw [or_byte k (by omega) _ _ hr.1 hr.2 hx.1 hx.2, List.take_succ_eq_append_getElem hk, valL_snoc, List.length_take, Nat.min_eq_left (by omega)]
  simp [hk]

theorem wordTo_all (xs : List Int) : wordTo xs xs.length = valL xs := by unfold wordTo; rw [List.take_length]

/-- The k-th group of 8 bytes. -/
def groupAt (xs : List Int) (k : Nat) : List Int := (xs.drop (8 * k)).take 8
theorem groupAt_length (xs : List Int) (k : Nat) : (groupAt xs k).length = min 8 (xs.length - 8 * k) := by unfold groupAt; simp
theorem groupAt_B8 {xs : List Int} (h : B8 xs) (k : Nat) : B8 (groupAt xs k) := fun x hx => h x (List.mem_of_mem_drop (List.mem_of_mem_take hx))
theorem groupAt_get (xs : List Int) (k j : Nat) (hj : j < 8) : (groupAt xs k)[j]? = xs[8 * k + j]? := by
  unfold groupAt
  rw [List.getElem?_take_of_lt hj, List.getElem?_drop]

/-- The words of a byte sequence. -/
def wordsB (xs : List Int) : List Int := (List.range ((xs.length + 7) / 8)).map fun k => valL (groupAt xs k)
def bytesI (xs : List Int) : Int := stepI (foldI 422944466291 (wordsB xs)) (xs.length : Int)

theorem bytesI_range (l : List Int) : R (bytesI l) := stepI_range _ _

theorem wordsB_range {xs : List Int} (h : B8 xs) : ∀ x ∈ wordsB xs, R x := by
  intro x hx
  unfold wordsB at hx
  simp only [List.mem_map] at hx
  obtain ⟨k, _, rfl⟩ := hx
  have hr := valL_range _ (groupAt_B8 h k)
  have hl : (groupAt xs k).length ≤ 8 := by rw [groupAt_length]; omega
  have hp : (256 : Int) ^ (groupAt xs k).length ≤ 256 ^ 8 := by
    rw [pow256, pow256]
    exact Int.ofNat_le.2 (Nat.pow_le_pow_right (by decide) (by omega))
  unfold R
  have : (256 : Int) ^ 8 = 18446744073709551616 := by decide
  omega

theorem foldI_append (h : Int) (l r : List Int) : foldI h (l ++ r) = foldI (foldI h l) r := by unfold foldI; rw [List.foldl_append]
theorem foldI_range (h : Int) (l : List Int) (hh : R h) : R (foldI h l) := by
  induction l generalizing h with
  | nil => exact hh
  | cons x t ih => exact ih _ (stepI_range _ _)
theorem foldI_left {h h' : Int} (l : List Int) (hh : R h) (hh' : R h') (e : foldI h l = foldI h' l) : h = h' := by
  induction l generalizing h h' with
  | nil => exact e
  | cons x t ih => exact stepI_left hh hh' (ih (stepI_range _ _) (stepI_range _ _) e)

/-- Two lists of one length that differ at one place alone. -/
theorem foldI_one {h : Int} (hh : R h) (l r : List Int) (i : Nat) (hl : l.length = r.length) (hi : i < l.length) (ho : ∀ j, j ≠ i → l[j]? = r[j]?) (hl' : R (l[i]?.getD 0)) (hr' : R (r[i]?.getD 0))
    (e : foldI h l = foldI h r) : l[i]?.getD 0 = r[i]?.getD 0 := by
  have hir : i < r.length := by omega
  have e1 : l = l.take i ++ (l[i]?.getD 0 :: l.drop (i + 1)) := by
    rw [List.getElem?_eq_getElem hi, Option.getD_some, ← List.drop_eq_getElem_cons hi, List.take_append_drop]
  have e2 : r = r.take i ++ (r[i]?.getD 0 :: r.drop (i + 1)) := by
    rw [List.getElem?_eq_getElem hir, Option.getD_some, ← List.drop_eq_getElem_cons hir, List.take_append_drop]
  have e3 : l.take i = r.take i := by
    apply List.ext_getElem?
    intro j
    by_cases hj : j < i
    · rw [List.getElem?_take_of_lt hj, List.getElem?_take_of_lt hj]; exact ho j (by omega)
    · rw [List.getElem?_eq_none (by simp; omega), List.getElem?_eq_none (by simp; omega)]
  have e4 : l.drop (i + 1) = r.drop (i + 1) := by
    apply List.ext_getElem?
    intro j
    rw [List.getElem?_drop, List.getElem?_drop]
    exact ho _ (by omega)
  generalize l[i]?.getD 0 = x at *
  generalize r[i]?.getD 0 = y at *
  rw [e1, e2, e3, e4, foldI_append, foldI_append] at e
  have hf := foldI_range h (r.take i) hh
  exact stepI_right hl' hr' (foldI_left (r.drop (i + 1)) (stepI_range _ _) (stepI_range _ _) e)

/-- One byte changed: the digest tells whether it is another one. -/
theorem bytesI_one (xs : List Int) (i : Nat) (v : Int) (hb : B8 xs) (hi : i < xs.length) (hv : 0 ≤ v ∧ v < 256) : bytesI xs = bytesI (xs.set i v) ↔ xs[i]?.getD 0 = v := by
  constructor
  · intro e
    have hb' : B8 (xs.set i v) := fun x hx => by
      rcases List.mem_or_eq_of_mem_set hx with h | h
      · exact hb x h
      · rw [h]; exact hv
    unfold bytesI at e
    rw [List.length_set] at e
    have e1 := stepI_left (foldI_range _ _ (by unfold R; omega)) (foldI_range _ _ (by unfold R; omega)) e
    have hL : (wordsB xs).length = (wordsB (xs.set i v)).length := by unfold wordsB; simp
    have hiL : i / 8 < (wordsB xs).length := by unfold wordsB; simp; omega
    have hget : ∀ (ys : List Int) (k : Nat), k < (ys.length + 7) / 8 → (wordsB ys)[k]? = some (valL (groupAt ys k)) := fun ys k hk => by
      unfold wordsB
      rw [List.getElem?_map, List.getElem?_range hk]
      rfl
    have ho : ∀ j, j ≠ i / 8 → (wordsB xs)[j]? = (wordsB (xs.set i v))[j]? := by
      intro j hj
      by_cases hjl : j < (xs.length + 7) / 8
      · rw [hget _ _ hjl, hget _ _ (by simpa using hjl)]
        congr 2
        apply List.ext_getElem?
        intro m
        by_cases hm : m < 8
        · rw [groupAt_get _ _ _ hm, groupAt_get _ _ _ hm, List.getElem?_set_ne (by omega)]
        · rw [List.getElem?_eq_none (by rw [groupAt_length]; omega), List.getElem?_eq_none (by rw [groupAt_length]; omega)]
      · rw [List.getElem?_eq_none (by unfold wordsB; simp; omega), List.getElem?_eq_none (by unfold wordsB; simp; omega)]
    have hr1 : R ((wordsB xs)[i / 8]?.getD 0) := by rw [List.getElem?_eq_getElem hiL]; exact wordsB_range hb _ (by simp)
    have hr2 : R ((wordsB (xs.set i v))[i / 8]?.getD 0) := by rw [List.getElem?_eq_getElem (by omega)]; exact wordsB_range hb' _ (by simp)
    have e2 := foldI_one (by unfold R; omega) _ _ (i / 8) hL hiL ho hr1 hr2 e1
    rw [hget xs _ (by omega), hget (xs.set i v) _ (by simp; omega)] at e2
    have e3 := valL_inj _ _ (groupAt_B8 hb _) (groupAt_B8 hb' _) (by rw [groupAt_length, groupAt_length, List.length_set]) e2
    have e4 := congrArg (fun l => l[i % 8]?.getD 0) e3
    simp only [groupAt_get _ _ (i % 8) (by omega)] at e4
    rw [show 8 * (i / 8) + i % 8 = i by omega, List.getElem?_set_self hi] at e4
    exact e4
  · intro e
    have : xs.set i v = xs := by
      apply List.ext_getElem?
      intro j
      by_cases hj : i = j
      · subst hj
        rw [List.getElem?_set_self hi, List.getElem?_eq_getElem hi]
        rw [List.getElem?_eq_getElem hi] at e
        simpa using e.symm
      · rw [List.getElem?_set_ne hj]
    rw [this]

end Dg
end Go.Proofs.Ytgjmhddekggilaa
