/- Paths and checks at any index and any number of leaves: one contract for the program's function and one for the reference's. -/
import Derived.Test.YtgjmhddekggilaaX3
import Derived.Test.YtgjmhddekggilaaX4
import Derived.Test.YtgjmhddekggilaaL4
namespace Go.Proofs.Ytgjmhddekggilaa
open Go.RowKit Go.BigFrame
namespace Dg

/-- The path of any index, and its error. -/
def pathZ (zs : List Int) (i : Int) : List Int := if 0 ≤ i ∧ i < (zs.length : Int) then pathT zs i.toNat else []
def errZ (zs : List Int) (i : Int) : Int := if 0 ≤ i ∧ i < (zs.length : Int) then 0 else 1
def checkZ (root n i d : Int) (P : List Int) : Int := if n < 1 ∨ 4096 < n ∨ i < 0 ∨ n ≤ i then 1 else chkE n.toNat i.toNat d P root

def RetZ (P : List Int) (E : Int) (w : World) (e : Ending) (w' : World) : Prop :=
  ∃ A c, e = .returned (.agg #[.slice A P.length c, .int .i64 E]) ∧ P.length ≤ c ∧ ArrF w' w.heap.size A (P.map (Value.int .u64)) ∧ Below w.heap.size w w'

/-- The cells lie in blocks from lo on, below hi. -/
def ArrB (w : World) (lo hi : Nat) (A : Option Addr) (vs : List Value) : Prop :=
  vs ≠ [] → ∃ b o, A = some ⟨b, o, none⟩ ∧ lo ≤ b ∧ b < hi ∧ hi ≤ w.heap.size ∧ ∀ j u, vs[j]? = some u → w.cell? ⟨b, o + j, none⟩ = some u
theorem ArrF.box {w : World} {base : Nat} {A : Option Addr} {vs : List Value} (h : ArrF w base A vs) : ArrB w base w.heap.size A vs := fun hne => by
  obtain ⟨b, o, e, hb, hlt, hc⟩ := h hne; exact ⟨b, o, e, hb, hlt, Nat.le_refl _, hc⟩
theorem ArrB.arr {w : World} {lo hi : Nat} {A : Option Addr} {vs : List Value} (h : ArrB w lo hi A vs) : Arr w A vs := fun hne => by
  obtain ⟨b, o, e, hb, hlt, hl, hc⟩ := h hne; exact ⟨b, o, e, Nat.lt_of_lt_of_le hlt hl, hc⟩
theorem ArrB.keep {w w' : World} {lo hi : Nat} {A : Option Addr} {vs : List Value} (h : ArrB w lo hi A vs) (hb : Below w.heap.size w w') : ArrB w' lo hi A vs := fun hne => by
  obtain ⟨b, o, e, hlo, hlt, hl, hc⟩ := h hne
  exact ⟨b, o, e, hlo, hlt, Nat.le_trans hl hb.size, fun j u hu => (hb.cell (p := ⟨b, o + j, none⟩) (Nat.lt_of_lt_of_le hlt hl)).trans (hc j u hu)⟩
theorem ArrB.alloc {w : World} {lo hi : Nat} {A : Option Addr} {vs : List Value} (h : ArrB w lo hi A vs) (o : Obj) : ArrB (w.alloc o) lo hi A vs := h.keep ((Below.refl _ w).alloc (Nat.le_refl _) o)
theorem ArrB.drew {w : World} {lo hi : Nat} {A : Option Addr} {vs : List Value} (h : ArrB w lo hi A vs) : ArrB w.drew lo hi A vs := h
theorem ArrB.set {w : World} {lo hi : Nat} {A : Option Addr} {vs : List Value} (h : ArrB w lo hi A vs) {p : Addr} (hp : p.block < lo ∨ hi ≤ p.block) (u : Value) : ArrB (w.setCell p u) lo hi A vs := fun hne => by
  obtain ⟨b, o, e, hlo, hlt, hl, hc⟩ := h hne
  exact ⟨b, o, e, hlo, hlt, by simpa using hl, fun j v hv => (World.cell?_setCell_far w p ⟨b, o + j, none⟩ u (by simp; omega)).trans (hc j v hv)⟩

theorem bcell {W w1 : World} (hb : Below W.heap.size W w1) : (∀ b o, b < W.heap.size → w1.cell? ⟨b, o, none⟩ = W.cell? ⟨b, o, none⟩) ∧ (∀ b o, b < W.heap.size → w1.frozen? ⟨b, o, none⟩ = W.frozen? ⟨b, o, none⟩) :=
  ⟨fun b o h => hb.cell (p := ⟨b, o, none⟩) h, fun b o h => hb.frozen (p := ⟨b, o, none⟩) h⟩

theorem pathZ_len (zs : List Int) (i : Int) (h : zs.length ≤ 300) : (pathZ zs i).length ≤ 9 := by
  unfold pathZ
  split
  · exact path_len 9 zs _ (by omega)
  · simp

theorem pathOf_z (A : Option Addr) (zs : List Int) (n cap : Nat) (i : Int) (P : List Int) (E : Int) (w : World) (hn : zs.length = n) (hP : Hid (pathZ zs i = P)) (hE : Hid (errZ zs i = E)) (hlen : n ≤ 4096) (hcap : n ≤ cap) (hA : Arr w A (zs.map (Value.int .u64))) :
    Calls Try.prog 21 #[.slice A n cap, .int .i64 i] w (RetZ P E w) := by
  have hP := hP.out
  have hE := hE.out
  subst hn
  subst hP
  subst hE
  unfold pathZ errZ
  by_cases h : 0 ≤ i ∧ i < (zs.length : Int)
  · rw [if_pos h, if_pos h]
    obtain ⟨j, rfl⟩ := Int.eq_ofNat_of_zero_le h.1
    refine (pathOf_yes A zs cap j w (by omega) (by omega) hcap hA).mono ?_
    rintro e w' ⟨A1, c1, rfl, hc1, hF1, hb1⟩
    exact ⟨A1, c1, rfl, hc1, hF1, hb1⟩
  · rw [if_neg h, if_neg h]
    refine (pathOf_no A zs.length cap i w (by omega)).mono ?_
    rintro e w' ⟨rfl, hb1⟩
    exact ⟨none, 0, rfl, Nat.le_refl _, fun h => absurd rfl h, hb1⟩

theorem pathIn_z (A : Option Addr) (zs : List Int) (n cap : Nat) (i : Int) (P : List Int) (E : Int) (w : World) (hn : zs.length = n) (hP : Hid (pathZ zs i = P)) (hE : Hid (errZ zs i = E)) (hlen : n ≤ 4096) (hcap : n ≤ cap) (hA : Arr w A (zs.map (Value.int .u64))) :
    Calls Try.prog 22 #[.slice A n cap, .int .i64 i] w (RetZ P E w) := by
  have hP := hP.out
  have hE := hE.out
  subst hn
  subst hP
  subst hE
  unfold pathZ errZ
  by_cases h : 0 ≤ i ∧ i < (zs.length : Int)
  · rw [if_pos h, if_pos h]
    obtain ⟨j, rfl⟩ := Int.eq_ofNat_of_zero_le h.1
    refine (pathIn_yes A zs cap j w (by omega) (by omega) hcap hA).mono ?_
    rintro e w' ⟨A1, c1, rfl, hc1, hF1, hb1⟩
    exact ⟨A1, c1, rfl, hc1, hF1, hb1⟩
  · rw [if_neg h, if_neg h]
    refine (pathIn_no A zs.length cap i w (by omega)).mono ?_
    rintro e w' ⟨rfl, hb1⟩
    exact ⟨none, 0, rfl, Nat.le_refl _, fun h => absurd rfl h, hb1⟩

theorem checkL_z (root n i d : Int) (A : Option Addr) (P : List Int) (m c : Nat) (q : Int) (w : World) (hm : P.length = m) (hq : Hid (checkZ root n i d P = q)) (hcap : m ≤ c) (hA : Arr w A (P.map (Value.int .u64))) :
    Calls Try.prog 24 #[.int .u64 root, .agg #[.int .i64 n, .slice A m c], .agg #[.int .i64 i, .int .u64 d]] w fun e w' => e = .returned (.int .i64 q) ∧ Below w.heap.size w w' := by
  have hq := hq.out
  subst hm
  subst hq
  unfold checkZ
  by_cases h : n < 1 ∨ 4096 < n ∨ i < 0 ∨ n ≤ i
  · rw [if_pos h]
    exact checkL_arg root n i d A P.length c w h
  · rw [if_neg h]
    obtain ⟨n, rfl⟩ := Int.eq_ofNat_of_zero_le (by omega : 0 ≤ n)
    obtain ⟨i, rfl⟩ := Int.eq_ofNat_of_zero_le (by omega : 0 ≤ i)
    exact checkL_run root n i d A P c w (by omega) (by omega) hcap hA

theorem rcheck_z (root n i d : Int) (A : Option Addr) (P : List Int) (m c : Nat) (q : Int) (w : World) (hm : P.length = m) (hq : Hid (checkZ root n i d P = q)) (hA : Arr w A (P.map (Value.int .u64))) :
    Calls Try.prog 25 #[.int .u64 root, .agg #[.int .i64 n, .slice A m c], .agg #[.int .i64 i, .int .u64 d]] w fun e w' => e = .returned (.int .i64 q) ∧ Below w.heap.size w w' := by
  have hq := hq.out
  subst hm
  subst hq
  unfold checkZ
  by_cases h : n < 1 ∨ 4096 < n ∨ i < 0 ∨ n ≤ i
  · rw [if_pos h]
    exact rcheck_arg root n i d A P.length c w h
  · rw [if_neg h]
    obtain ⟨n, rfl⟩ := Int.eq_ofNat_of_zero_le (by omega : 0 ≤ n)
    obtain ⟨i, rfl⟩ := Int.eq_ofNat_of_zero_le (by omega : 0 ≤ i)
    exact rcheck_run root n i d A P c w (by omega) (by omega) hA

theorem root_L (A : Option Addr) (zs : List Int) (n cap : Nat) (w : World) (hn : zs.length = n) (hlen : n ≤ 4096) (hcap : n ≤ cap) (hA : Arr w A (zs.map (Value.int .u64))) :
    Calls Try.prog 19 #[.slice A n cap] w fun e w' => e = .returned (.int .u64 (rootI zs)) ∧ Below w.heap.size w w' := by
  subst hn
  exact root_any A zs cap w (by omega) hcap hA
theorem rroot_L (A : Option Addr) (zs : List Int) (n cap : Nat) (w : World) (hn : zs.length = n) (hlen : n ≤ 4096) (hcap : n ≤ cap) (hA : Arr w A (zs.map (Value.int .u64))) :
    Calls Try.prog 20 #[.slice A n cap] w fun e w' => e = .returned (.int .u64 (rootI zs)) ∧ Below w.heap.size w w' := by
  subst hn
  exact rroot_any A zs cap w (by omega) hcap hA
theorem rwords_L (A : Option Addr) (xs : List Int) (n c : Nat) (w : World) (hn : xs.length = n) (hlen : n ≤ 4096) (hA : Arr w A (xs.map (Value.int .i64))) :
    Calls Try.prog 12 #[.slice A n c] w fun e w' => e = .returned (.int .u64 (wordsI xs)) ∧ Below w.heap.size w w' := by
  subst hn
  refine (rwords_any A xs c w (by omega) hA).mono ?_
  rintro e w' ⟨rfl, rfl⟩
  exact ⟨rfl, Below.refl _ _⟩
theorem rtag_L (key : Int) (A : Option Addr) (xs : List Int) (n c : Nat) (w : World) (hn : xs.length = n) (hlen : n ≤ 4096) (hA : Arr w A (xs.map (Value.int .i64))) :
    Calls Try.prog 18 #[.int .u64 key, .slice A n c] w fun e w' => e = .returned (.int .u64 (tagI key xs)) ∧ Below w.heap.size w w' := by
  subst hn
  refine (rtag_any key A xs c w (by omega) hA).mono ?_
  rintro e w' ⟨rfl, rfl⟩
  exact ⟨rfl, Below.refl _ _⟩
theorem rbytes_L (A : Option Addr) (xs : List Int) (n c : Nat) (w : World) (hn : xs.length = n) (hlen : n ≤ 4096) (hB : B8 xs) (hA : Arr w A (xs.map (Value.int .u8))) :
    Calls Try.prog 14 #[.slice A n c] w fun e w' => e = .returned (.int .u64 (bytesI xs)) ∧ Below w.heap.size w w' := by
  subst hn
  refine (rbytes_any A xs c w (by omega) hB hA).mono ?_
  rintro e w' ⟨rfl, rfl⟩
  exact ⟨rfl, Below.refl _ _⟩
theorem rjoin_B (a b : Int) (w : World) : Calls Try.prog 16 #[.int .u64 a, .int .u64 b] w fun e w' => e = .returned (.int .u64 (joinI a b)) ∧ Below w.heap.size w w' := by
  refine (rjoin_any a b w).mono ?_
  rintro e w' ⟨rfl, rfl⟩
  exact ⟨rfl, Below.refl _ _⟩

end Dg
end Go.Proofs.Ytgjmhddekggilaa
