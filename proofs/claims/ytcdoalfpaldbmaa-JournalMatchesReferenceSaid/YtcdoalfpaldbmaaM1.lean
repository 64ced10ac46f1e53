/- Plain arithmetic of digests: the step of a digest, the digest of a list of numbers, the digest of a pair; that a step loses nothing in either of its arguments. -/
import Derived.Laws.Bits64
namespace Go.Proofs.Ytcdoalfpaldbmaa
namespace Dg

/-- One step. -/
def stepI (h x : Int) : Int :=
  IntKind.u64.wrap (bits .xor .u64 (IntKind.u64.wrap (bits .xor .u64 h x * 15485907386658061715)) (IntKind.u64.wrap (bits .xor .u64 h x * 15485907386658061715) / 4294967296) * 11562461410679940143)

def joinI (a b : Int) : Int := stepI (stepI 1852793957 a) b
/-- The digest of numbers, begun at h. -/
def foldI (h : Int) (l : List Int) : Int := l.foldl (fun g x => stepI g x) h
def wordsI (l : List Int) : Int := stepI (foldI 512970876019 (l.map IntKind.u64.wrap)) (l.length : Int)
def tagI (key : Int) (l : List Int) : Int := stepI key (wordsI l)

def R (n : Int) : Prop := 0 ≤ n ∧ n < 18446744073709551616

theorem stepI_range (h x : Int) : R (stepI h x) := by
  unfold stepI R
  rw [IntKind.wrap_u64]
  constructor
  · exact Int.emod_nonneg _ (by decide)
  · exact Int.emod_lt_of_pos _ (by decide)

theorem joinI_range (a b : Int) : R (joinI a b) := stepI_range _ _
theorem wordsI_range (l : List Int) : R (wordsI l) := stepI_range _ _
theorem tagI_range (k : Int) (l : List Int) : R (tagI k l) := stepI_range _ _

/-- The step on 64 bits. -/
def mixB (a : BitVec 64) : BitVec 64 := (a ^^^ (a >>> 32)) * 11562461410679940143#64
def stepB (h x : BitVec 64) : BitVec 64 := mixB ((h ^^^ x) * 15485907386658061715#64)

theorem ofInt_emod (n : Int) : BitVec.ofInt 64 (n % 18446744073709551616) = BitVec.ofInt 64 n := by
  apply BitVec.eq_of_toNat_eq
  simp [BitVec.toNat_ofInt]

theorem wrap_eq (n : Int) : IntKind.u64.wrap n = ((BitVec.ofInt 64 n).toNat : Int) := by
  rw [IntKind.wrap_u64, BitVec.toNat_ofInt]
  have := Int.emod_nonneg n (b := 18446744073709551616) (by decide)
  simp
  omega

theorem ofInt_toNat (b : BitVec 64) : BitVec.ofInt 64 (b.toNat : Int) = b := by
  apply BitVec.eq_of_toNat_eq
  simp

theorem xor_eq (h x : Int) : bits .xor .u64 h x = ((BitVec.ofInt 64 h ^^^ BitVec.ofInt 64 x).toNat : Int) := by
  show IntKind.u64.wrap ((BitVec.ofInt 64 h ^^^ BitVec.ofInt 64 x).toNat : Int) = _
  rw [wrap_eq, ofInt_toNat]

theorem mul_eq (a : BitVec 64) (c : Nat) : IntKind.u64.wrap ((a.toNat : Int) * (c : Int)) = ((a * BitVec.ofNat 64 c).toNat : Int) := by
  rw [wrap_eq]
  congr 1
  apply congrArg
  apply BitVec.eq_of_toNat_eq
  rw [← Int.natCast_mul, BitVec.ofInt_natCast]
  simp [BitVec.toNat_mul]

theorem shr_eq (a : BitVec 64) : ((a.toNat : Int) / (4294967296 : Int)) = ((a >>> 32).toNat : Int) := by
  rw [BitVec.toNat_ushiftRight, Nat.shiftRight_eq_div_pow]
  rfl

theorem stepI_eq (h x : Int) : stepI h x = ((stepB (BitVec.ofInt 64 h) (BitVec.ofInt 64 x)).toNat : Int) := by
  unfold stepI stepB mixB
  rw [xor_eq h x]
  generalize BitVec.ofInt 64 h ^^^ BitVec.ofInt 64 x = y
  have e1 := mul_eq y 15485907386658061715
  have e1' : IntKind.u64.wrap ((y.toNat : Int) * 15485907386658061715) = ((y * 15485907386658061715#64).toNat : Int) := e1
  rw [e1']
  generalize y * 15485907386658061715#64 = z
  rw [shr_eq, xor_eq, ofInt_toNat, ofInt_toNat]
  exact mul_eq _ 11562461410679940143

theorem odd_mul {c d : BitVec 64} (hcd : c * d = 1#64) {a b : BitVec 64} (h : a * c = b * c) : a = b := by
  have : a * c * d = b * c * d := by rw [h]
  rw [BitVec.mul_assoc, BitVec.mul_assoc, hcd, BitVec.mul_one, BitVec.mul_one] at this
  exact this

theorem xs_inv (a : BitVec 64) : (a ^^^ (a >>> 32)) ^^^ ((a ^^^ (a >>> 32)) >>> 32) = a := by
  apply BitVec.eq_of_getLsbD_eq
  intro i hi
  simp only [BitVec.getLsbD_xor, BitVec.getLsbD_ushiftRight]
  have h64 : a.getLsbD (32 + (32 + i)) = false := BitVec.getLsbD_of_ge a _ (by omega)
  rw [h64]
  cases a.getLsbD i <;> cases a.getLsbD (32 + i) <;> rfl

theorem mixB_inj {a b : BitVec 64} (h : mixB a = mixB b) : a = b := by
  unfold mixB at h
  have e := odd_mul (c := 11562461410679940143#64) (d := 10636502746458383055#64) (by decide +kernel) h
  rw [← xs_inv a, ← xs_inv b, e]

theorem stepB_inj {h x h' x' : BitVec 64} (e : stepB h x = stepB h' x') : h ^^^ x = h' ^^^ x' :=
  odd_mul (c := 15485907386658061715#64) (d := 14982988110149298331#64) (by decide +kernel) (mixB_inj e)

theorem ofInt_inj {a b : Int} (ha : R a) (hb : R b) (h : BitVec.ofInt 64 a = BitVec.ofInt 64 b) : a = b := by
  have := congrArg BitVec.toNat h
  unfold R at ha hb
  rw [BitVec.toNat_ofInt, BitVec.toNat_ofInt] at this
  simp at this
  omega

theorem ofInt_inj' {a b : Int} (h : BitVec.ofInt 64 a = BitVec.ofInt 64 b) : IntKind.u64.wrap a = IntKind.u64.wrap b := by
  rw [wrap_eq, wrap_eq, h]

theorem stepI_xor {h x h' x' : Int} (e : stepI h x = stepI h' x') : BitVec.ofInt 64 h ^^^ BitVec.ofInt 64 x = BitVec.ofInt 64 h' ^^^ BitVec.ofInt 64 x' := by
  rw [stepI_eq, stepI_eq] at e
  exact stepB_inj (BitVec.eq_of_toNat_eq (by omega))

theorem stepI_left {h h' x : Int} (hh : R h) (hh' : R h') (e : stepI h x = stepI h' x) : h = h' := by
  have := stepI_xor e
  exact ofInt_inj hh hh' ((BitVec.xor_left_inj (z := BitVec.ofInt 64 x)).1 this)

theorem stepI_right {h x x' : Int} (hx : R x) (hx' : R x') (e : stepI h x = stepI h x') : x = x' := by
  have := stepI_xor e
  exact ofInt_inj hx hx' ((BitVec.xor_right_inj (z := BitVec.ofInt 64 h)).1 this)

theorem joinI_left {a a' b : Int} (ha : R a) (ha' : R a') (e : joinI a b = joinI a' b) : a = a' :=
  stepI_right ha ha' (stepI_left (stepI_range _ _) (stepI_range _ _) e)
theorem joinI_right {a b b' : Int} (hb : R b) (hb' : R b') (e : joinI a b = joinI a b') : b = b' := stepI_right hb hb' e

end Dg
end Go.Proofs.Ytcdoalfpaldbmaa
