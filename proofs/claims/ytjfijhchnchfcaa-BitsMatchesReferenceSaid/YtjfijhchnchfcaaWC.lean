/- The law's values as numbers; the complement through slices. -/
import Derived.Test.YtjfijhchnchfcaaWB
import Derived.Test.YtjfijhchnchfcaaM3
namespace Go.Proofs.Ytjfijhchnchfcaa
open Go.RowKit Sl Fr
namespace Bt
set_option linter.unusedVariables false
set_option linter.unusedSimpArgs false

theorem lawV_ok {op : Int} {ws : List Int} {k n : Int} {vs : List Int} {m : Nat} {r : Int} (hm : op.toNat = m) (h1 : ws.all isW = true) (h2 : raw m ws k n = r) (h3 : isW r = true) (h4 : okA vs ws = true) : lawV op ws k n vs = (val m ws k n (vs.map Int.toNat) : Int) := by
  subst hm
  have hw : wid op ws k n = r := by
    unfold wid
    rw [h1, h2, h3]
    rfl
  have hr : r ≠ 0 := by have := isW_in h3; omega
  unfold lawV
  rw [if_pos ⟨by rw [hw]; exact hr, h4⟩]
theorem isW_nat {n : Nat} (h : 1 ≤ n ∧ n ≤ 8) : isW (n : Int) = true := by simp only [isW, decide_eq_true_eq]; omega
theorem isV_nat {x n : Nat} (hn : n ≤ 8) (hx : x < 2 ^ n) : isV (x : Int) (n : Int) = true := by
  simp only [isV, decide_eq_true_eq]
  rw [mask_cast (by omega)]
  omega
theorem ok1 {x n : Nat} (hn : n ≤ 8) (hx : x < 2 ^ n) : okA [(x : Int)] [(n : Int)] = true := by simp [okA, isV_nat hn hx]
theorem ok2 {x y n m : Nat} (hn : n ≤ 8) (hm : m ≤ 8) (hx : x < 2 ^ n) (hy : y < 2 ^ m) : okA [(x : Int), (y : Int)] [(n : Int), (m : Int)] = true := by simp [okA, isV_nat hn hx, isV_nat hm hy]
section
variable {n x y : Nat} (hn : 1 ≤ n ∧ n ≤ 8)
include hn
theorem lv2 (hx : x < 2 ^ n) : lawV 2 [(n : Int)] 0 0 [(x : Int)] = ((2 ^ n - 1 - x : Nat) : Int) :=
  lawV_ok (m := 2) (r := n) rfl (by simp [isW_nat hn]) rfl (isW_nat hn) (ok1 hn.2 hx)
theorem lv_two (op : Int) (m : Nat) (hm : op.toNat = m) (h5 : ∀ a k j, raw m [a, a] k j = if a = a then a else 0) (hx : x < 2 ^ n) (hy : y < 2 ^ n) : lawV op [(n : Int), (n : Int)] 0 0 [(x : Int), (y : Int)] = (val m [(n : Int), (n : Int)] 0 0 [x, y] : Int) :=
  lawV_ok hm (by simp [isW_nat hn]) ((h5 _ _ _).trans (if_pos rfl)) (isW_nat hn) (ok2 hn.2 hn.2 hx hy)
theorem lv_cmp (op : Int) (m : Nat) (hm : op.toNat = m) (h5 : ∀ a k j, raw m [a, a] k j = if a = a then 1 else 0) (hx : x < 2 ^ n) (hy : y < 2 ^ n) : lawV op [(n : Int), (n : Int)] 0 0 [(x : Int), (y : Int)] = (val m [(n : Int), (n : Int)] 0 0 [x, y] : Int) :=
  lawV_ok hm (by simp [isW_nat hn]) ((h5 _ _ _).trans (if_pos rfl)) rfl (ok2 hn.2 hn.2 hx hy)
variable (hx : x < 2 ^ n) (hy : y < 2 ^ n)
include hx hy
theorem lv3 : lawV 3 [(n : Int), (n : Int)] 0 0 [(x : Int), (y : Int)] = ((x &&& y : Nat) : Int) := lv_two hn 3 3 rfl (fun _ _ _ => rfl) hx hy
theorem lv4 : lawV 4 [(n : Int), (n : Int)] 0 0 [(x : Int), (y : Int)] = ((x ||| y : Nat) : Int) := lv_two hn 4 4 rfl (fun _ _ _ => rfl) hx hy
theorem lv5 : lawV 5 [(n : Int), (n : Int)] 0 0 [(x : Int), (y : Int)] = ((x ^^^ y : Nat) : Int) := lv_two hn 5 5 rfl (fun _ _ _ => rfl) hx hy
theorem lv6 : lawV 6 [(n : Int), (n : Int)] 0 0 [(x : Int), (y : Int)] = (((x + y) % 2 ^ n : Nat) : Int) := lv_two hn 6 6 rfl (fun _ _ _ => rfl) hx hy
theorem lv7 : lawV 7 [(n : Int), (n : Int)] 0 0 [(x : Int), (y : Int)] = (((x + 2 ^ n - y) % 2 ^ n : Nat) : Int) := lv_two hn 7 7 rfl (fun _ _ _ => rfl) hx hy
theorem lv8 : lawV 8 [(n : Int), (n : Int)] 0 0 [(x : Int), (y : Int)] = ((if x = y then 1 else 0 : Nat) : Int) := lv_cmp hn 8 8 rfl (fun _ _ _ => rfl) hx hy
theorem lv9 : lawV 9 [(n : Int), (n : Int)] 0 0 [(x : Int), (y : Int)] = ((if x < y then 1 else 0 : Nat) : Int) := lv_cmp hn 9 9 rfl (fun _ _ _ => rfl) hx hy
end
theorem lv10 {n c x y : Nat} (hn : 1 ≤ n ∧ n ≤ 8) (hc : c < 2) (hx : x < 2 ^ n) (hy : y < 2 ^ n) : lawV 10 [1, (n : Int), (n : Int)] 0 0 [(c : Int), (x : Int), (y : Int)] = ((if c = 1 then x else y : Nat) : Int) := by
  have h1 : okA [(c : Int), (x : Int), (y : Int)] [1, (n : Int), (n : Int)] = true := by
    have := isV_nat (x := c) (n := 1) (by omega) (by omega)
    simp [okA, isV_nat hn.2 hx, isV_nat hn.2 hy]
    exact this
  exact lawV_ok (m := 10) (r := n) rfl (by simp [isW_nat hn]; rfl) (if_pos ⟨rfl, rfl⟩) (isW_nat hn) h1
theorem lv11 {n m x y : Nat} (hn : 1 ≤ n) (hm : 1 ≤ m) (hnm : n + m ≤ 8) (hx : x < 2 ^ n) (hy : y < 2 ^ m) : lawV 11 [(n : Int), (m : Int)] 0 0 [(x : Int), (y : Int)] = ((x * 2 ^ m + y : Nat) : Int) :=
  lawV_ok (m := 11) (r := ((n + m : Nat) : Int)) rfl (by simp [isW_nat (n := n) (by omega), isW_nat (n := m) (by omega)]) (show (n : Int) + (m : Int) = _ by simp) (isW_nat (by omega)) (ok2 (by omega) (by omega) hx hy)
theorem lv12 {n k m x : Nat} (hn : n ≤ 8) (hm : 1 ≤ m) (hkm : k + m ≤ n) (hx : x < 2 ^ n) : lawV 12 [(n : Int)] (k : Int) (m : Int) [(x : Int)] = ((x / 2 ^ k % 2 ^ m : Nat) : Int) :=
  lawV_ok (m := 12) (r := (m : Int)) rfl (by simp [isW_nat (n := n) (by omega)]) (if_pos (by omega)) (isW_nat (by omega)) (ok1 hn hx)
theorem lv13 {n t x : Nat} (hn : 1 ≤ n) (ht : n ≤ t) (ht8 : t ≤ 8) (hx : x < 2 ^ n) : lawV 13 [(n : Int)] 0 (t : Int) [(x : Int)] = (x : Int) :=
  lawV_ok (m := 13) (r := (t : Int)) rfl (by simp [isW_nat (n := n) (by omega)]) (if_pos (by omega)) (isW_nat (by omega)) (ok1 (by omega) hx)

/-- The law's apply on two new slices. -/
theorem app11 (op n x : Int) (W : World) :
    Calls Try.prog 23 #[.int .i64 op, .slice (some ⟨W.heap.size, 0, none⟩) 1 1, .slice (some ⟨W.heap.size + 1, 0, none⟩) 1 1] ((W.alloc (.cells #[.int .i64 n] 3)).alloc (.cells #[.int .i64 x] 3)) fun e w' => e = .returned (.int .i64 (lawV op [n] 0 0 [x])) ∧ Below W.heap.size W w' := by
  obtain ⟨m0, m1, B⟩ := start2 W #[.int .i64 n] #[.int .i64 x] 3 3
  have h := lapply_any op _ 1 [n] _ 1 [x] _ (arr1 m0) (small (by simp)) (arr1 m1) (small (by simp))
  exact h.mono fun _ _ ⟨h1, h2⟩ => ⟨h1, B.trans (h2.mono B.size)⟩
theorem app33 (op n m l x y z : Int) (W : World) :
    Calls Try.prog 23 #[.int .i64 op, .slice (some ⟨W.heap.size, 0, none⟩) 3 3, .slice (some ⟨W.heap.size + 1, 0, none⟩) 3 3] ((W.alloc (.cells #[.int .i64 n, .int .i64 m, .int .i64 l] 3)).alloc (.cells #[.int .i64 x, .int .i64 y, .int .i64 z] 3)) fun e w' => e = .returned (.int .i64 (lawV op [n, m, l] 0 0 [x, y, z])) ∧ Below W.heap.size W w' := by
  obtain ⟨m0, m1, B⟩ := start2 W #[.int .i64 n, .int .i64 m, .int .i64 l] #[.int .i64 x, .int .i64 y, .int .i64 z] 3 3
  have h := lapply_any op _ 3 [n, m, l] _ 3 [x, y, z] _ (arr3 m0) (small (by simp)) (arr3 m1) (small (by simp))
  exact h.mono fun _ _ ⟨h1, h2⟩ => ⟨h1, B.trans (h2.mono B.size)⟩
theorem width_in (c m : Nat) (hm : 1 ≤ m ∧ m ≤ 8) : ∃ n : Nat, 1 + (c : Int) % (m : Int) = (n : Int) ∧ 1 ≤ n ∧ n ≤ m := ⟨1 + c % m, by simp, by omega, by have := Nat.mod_lt c (show m > 0 by omega); omega⟩
/-- A byte cut to n bits. -/
theorem cut_in (a n : Nat) (hn : n ≤ 8) : ∃ x : Nat, bits .and .i64 (a : Int) ((2 : Int) ^ n - 1) = (x : Int) ∧ x < 2 ^ n :=
  ⟨a % 2 ^ n, by rw [and_mask _ _ (by omega)]; simp, Nat.mod_lt _ (Nat.two_pow_pos n)⟩
theorem mask_at (n : Nat) (hn : n ≤ 8) (w : World) : Calls Try.prog 14 #[.int .i64 (n : Int)] w fun e w' => e = .returned (.int .i64 ((2 : Int) ^ n - 1)) ∧ w = w' := by
  have := mask_any (n : Int) w
  rwa [mask_nat (by omega)] at this

end Bt
end Go.Proofs.Ytjfijhchnchfcaa
