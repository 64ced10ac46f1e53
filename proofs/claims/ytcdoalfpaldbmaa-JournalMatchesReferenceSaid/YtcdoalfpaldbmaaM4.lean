/- One byte of a journal changed: what is read then. -/
import Derived.Test.YtcdoalfpaldbmaaM3
namespace Go.Proofs.Ytcdoalfpaldbmaa
namespace Jn
open Dg
set_option linter.unusedVariables false

theorem wordAt_set_other (bs : List Int) (p : Nat) (v : Int) (j : Nat) (h : p / 8 ≠ j) : wordAt (bs.set p v) j = wordAt bs j := by
  unfold wordAt
  congr 1
  apply List.ext_getElem?
  intro i
  by_cases hi : i < 8
  · rw [List.getElem?_take_of_lt hi, List.getElem?_take_of_lt hi, List.getElem?_drop, List.getElem?_drop, List.getElem?_set_ne (by omega)]
  · rw [List.getElem?_eq_none (by simp; omega), List.getElem?_eq_none (by simp; omega)]
theorem wordAt_set_same (bs : List Int) (p : Nat) (v : Int) (hb : B8 bs) (hv : 0 ≤ v ∧ v < 256) (hp : 8 * (p / 8) + 8 ≤ bs.length) (hne : bs[p]?.getD 0 ≠ v) : wordAt (bs.set p v) (p / 8) ≠ wordAt bs (p / 8) := by
  intro e
  unfold wordAt at e
  have hbv : B8 (bs.set p v) := fun x hx => by
    rcases List.mem_or_eq_of_mem_set hx with h | rfl
    · exact hb x h
    · exact hv
  have e1 := valL_inj _ _ (fun x hx => hbv x (List.mem_of_mem_drop (List.mem_of_mem_take hx))) (fun x hx => hb x (List.mem_of_mem_drop (List.mem_of_mem_take hx))) (by simp) e
  have e2 := congrArg (fun l => l[p - 8 * (p / 8)]?) e1
  rw [List.getElem?_take_of_lt (by omega), List.getElem?_take_of_lt (by omega), List.getElem?_drop, List.getElem?_drop, show 8 * (p / 8) + (p - 8 * (p / 8)) = p by omega, List.getElem?_set_self (by omega), List.getElem?_eq_getElem (by omega)] at e2
  apply hne
  rw [List.getElem?_eq_getElem (by omega)]
  simpa using e2.symm

theorem tag_len {key : Int} {n n' : Int} (hn : I64 n) (hn' : I64 n') (h : tagI key [n] = tagI key [n']) : n = n' := by
  have := tag_set key [n] 0 n' (by intro x hx; rw [List.mem_singleton] at hx; subst hx; exact hn) hn' (by simp)
  simp only [List.set_cons_zero, List.getElem?_cons_zero, Option.getD_some] at this
  rw [h, beq_self_eq_true] at this
  simpa using this.symm
/-- A record with one byte of its encoding changed is none. -/
theorem nxt_damaged (key : Int) {r : List Int} (hr : OkR r) (t : List Int) (p : Nat) (v : Int) (hp : p < (enc key r).length) (hb : B8 (enc key r ++ t)) (hv : 0 ≤ v ∧ v < 256) (hne : (enc key r ++ t)[p]?.getD 0 ≠ v) :
    nxt key ((enc key r ++ t).set p v) = none := by
  cases hn : nxt key ((enc key r ++ t).set p v) with
  | none => rfl
  | some r' =>
    exfalso
    have hbv : B8 ((enc key r ++ t).set p v) := fun x hx => by
      rcases List.mem_or_eq_of_mem_set hx with h | rfl
      · exact hb x h
      · exact hv
    obtain ⟨hr', he⟩ := nxt_some hbv hn
    have hel := enc_length key r
    have hl : (enc key r ++ t).length = 8 * (r.length + 3) + t.length := by rw [List.length_append, hel]
    have hsame : ∀ j, p / 8 ≠ j → wordAt ((enc key r ++ t).set p v) j = wordAt (enc key r ++ t) j := fun j hj => wordAt_set_other _ _ _ _ hj
    have hdiff : wordAt ((enc key r ++ t).set p v) (p / 8) ≠ wordAt (enc key r ++ t) (p / 8) := wordAt_set_same _ _ _ hb hv (by omega) hne
    have w0 : wordAt (enc key r ++ t) 0 = r.length := wordAt_flat _ _ _ _ (wordsE_0 key r) (R_len hr.1)
    have w1 : wordAt (enc key r ++ t) 1 = tagI key [(r.length : Int)] := wordAt_flat _ _ _ _ (wordsE_1 key r) (tagI_range _ _)
    have wi : ∀ i, i < r.length → wordAt (enc key r ++ t) (i + 2) = IntKind.u64.wrap (r[i]?.getD 0) := fun i hi => wordAt_flat _ _ _ _ (wordsE_at key r i hi) (wrap_R _)
    have ws : wordAt (enc key r ++ t) (r.length + 2) = tagI key r := wordAt_flat _ _ _ _ (wordsE_end key r) (tagI_range _ _)
    generalize (enc key r ++ t).set p v = bs' at *
    generalize enc key r ++ t = bs at *
    have v0 : wordAt bs' 0 = r'.length := by rw [he]; exact wordAt_flat _ _ _ _ (wordsE_0 key r') (R_len hr'.1)
    have v1 : wordAt bs' 1 = tagI key [(r'.length : Int)] := by rw [he]; exact wordAt_flat _ _ _ _ (wordsE_1 key r') (tagI_range _ _)
    have vi : ∀ i, i < r'.length → wordAt bs' (i + 2) = IntKind.u64.wrap (r'[i]?.getD 0) := fun i hi => by rw [he]; exact wordAt_flat _ _ _ _ (wordsE_at key r' i hi) (wrap_R _)
    have vs : wordAt bs' (r'.length + 2) = tagI key r' := by rw [he]; exact wordAt_flat _ _ _ _ (wordsE_end key r') (tagI_range _ _)
    have hI : ∀ n : Nat, n ≤ 256 → I64 (n : Int) := fun n hn => by unfold I64; omega
    have hlen : r'.length = r.length := by
      by_cases hq : p / 8 = 1
      · have := hsame 0 (by omega)
        rw [v0, w0] at this
        omega
      · have := hsame 1 hq
        rw [v1, w1] at this
        have := tag_len (hI _ hr'.1) (hI _ hr.1) this
        omega
    have hq0 : p / 8 ≠ 0 := fun h => by rw [h, v0, w0, hlen] at hdiff; exact hdiff rfl
    have hq1 : p / 8 ≠ 1 := fun h => by rw [h, v1, w1, hlen] at hdiff; exact hdiff rfl
    have hel : ∀ i, i < r.length → p / 8 ≠ i + 2 → r'[i]?.getD 0 = r[i]?.getD 0 := fun i hi hq => by
      have := hsame (i + 2) hq
      rw [vi i (by omega), wi i hi] at this
      exact wrap_inj (hr'.2 _ (by rw [List.getElem?_eq_getElem (by omega)]; simp)) (hr.2 _ (by rw [List.getElem?_eq_getElem hi]; simp)) this
    by_cases hqn : p / 8 = r.length + 2
    · have hrr : r' = r := by
        apply List.ext_getElem?
        intro i
        by_cases hi : i < r.length
        · have := hel i hi (by omega)
          rw [List.getElem?_eq_getElem (by omega), List.getElem?_eq_getElem hi] at this ⊢
          simpa using this
        · rw [List.getElem?_eq_none (by omega), List.getElem?_eq_none (by omega)]
      rw [hlen] at vs
      rw [hqn, vs, ws, hrr] at hdiff
      exact hdiff rfl
    · have hi : p / 8 - 2 < r.length := by omega
      have hset : r' = r.set (p / 8 - 2) (r'[p / 8 - 2]?.getD 0) := by
        apply List.ext_getElem?
        intro i
        by_cases hii : p / 8 - 2 = i
        · subst hii
          rw [List.getElem?_set_self hi, List.getElem?_eq_getElem (by omega)]; rfl
        · rw [List.getElem?_set_ne hii]
          by_cases hil : i < r.length
          · have := hel i hil (by omega)
            rw [List.getElem?_eq_getElem (by omega), List.getElem?_eq_getElem hil] at this ⊢
            simpa using this
          · rw [List.getElem?_eq_none (by omega), List.getElem?_eq_none (by omega)]
      have hs := hsame (r.length + 2) hqn
      rw [← hlen, vs, hlen, ws] at hs
      have ht := tag_set key r (p / 8 - 2) (r'[p / 8 - 2]?.getD 0) hr.2 (hr'.2 _ (by rw [List.getElem?_eq_getElem (by omega)]; simp)) hi
      rw [← hset, hs, beq_self_eq_true] at ht
      have hx : r[p / 8 - 2]?.getD 0 = r'[p / 8 - 2]?.getD 0 := by simpa using ht.symm
      apply hdiff
      have e1 := vi (p / 8 - 2) (by omega)
      have e2 := wi (p / 8 - 2) hi
      rw [show p / 8 - 2 + 2 = p / 8 by omega] at e1 e2
      rw [e1, e2, hx]

/-- A byte with some bits turned. -/
theorem xor_byte (x y : Int) (hx : 0 ≤ x ∧ x < 256) (hy : 0 < y ∧ y < 256) : 0 ≤ bits .xor .u8 x y ∧ bits .xor .u8 x y < 256 ∧ x ≠ bits .xor .u8 x y := by
  obtain ⟨a, rfl⟩ := Int.eq_ofNat_of_zero_le hx.1
  obtain ⟨b, rfl⟩ := Int.eq_ofNat_of_zero_le (show 0 ≤ y by omega)
  have ha : a < 256 := by omega
  have hb : b < 256 := by omega
  have hb0 : 0 < b := by omega
  have e : bits .xor .u8 (a : Int) (b : Int) = ((a ^^^ b : Nat) : Int) := by
    have hxx : a ^^^ b < 2 ^ 8 := Nat.xor_lt_two_pow (by omega) (by omega)
    show IntKind.u8.wrap ((BitVec.ofInt 8 (a : Int) ^^^ BitVec.ofInt 8 (b : Int)).toNat : Int) = _
    rw [BitVec.toNat_xor, BitVec.ofInt_natCast, BitVec.ofInt_natCast, BitVec.toNat_ofNat, BitVec.toNat_ofNat, Nat.mod_eq_of_lt (by omega), Nat.mod_eq_of_lt (by omega), IntKind.wrap_u8]
    omega
  rw [e]
  have hxx : a ^^^ b < 2 ^ 8 := Nat.xor_lt_two_pow (by omega) (by omega)
  refine ⟨by omega, by omega, fun h => ?_⟩
  have h' : a = a ^^^ b := by omega
  have : a ^^^ a = a ^^^ (a ^^^ b) := by rw [← h']
  rw [Nat.xor_self, ← Nat.xor_assoc, Nat.xor_self, Nat.zero_xor] at this
  omega

/-- What is read of a journal with one byte changed. -/
theorem parses_damaged {rs : List (List Int)} (hok : ∀ r ∈ rs, OkR r) {i k : Nat} (v : Int) (hv : 0 ≤ v ∧ v < 256) (hi : i < (jour 0 rs).length) (hne : (jour 0 rs)[i]?.getD 0 ≠ v) (h1 : (jour 0 (rs.take k)).length ≤ i) (h2 : ∀ r, rs[k]? = some r → i < (jour 0 (rs.take (k + 1))).length) :
    Parses 0 ((jour 0 rs).set i v) (rs.take k) (((jour 0 rs).set i v).drop (jour 0 (rs.take k)).length) := by
  have hj : jour 0 rs = jour 0 (rs.take k) ++ jour (sealK 0 (rs.take k)) (rs.drop k) := by rw [← jour_append, List.take_append_drop]
  have hs : (jour 0 rs).set i v = jour 0 (rs.take k) ++ (jour (sealK 0 (rs.take k)) (rs.drop k)).set (i - (jour 0 (rs.take k)).length) v := by
    rw [hj, List.set_append_right _ _ h1]
  have hb := jour_B8 0 rs
  rw [hj] at hi hne hb
  rw [List.length_append] at hi
  refine ⟨by rw [hs, List.drop_left], fun r hr => hok r (List.mem_of_mem_take hr), ?_⟩
  rw [hs, List.drop_left]
  cases hk : rs[k]? with
  | none =>
    have : rs.drop k = [] := List.drop_eq_nil_iff.2 (List.getElem?_eq_none_iff.1 hk)
    rw [this] at hi
    simp only [jour, List.length_nil] at hi
    omega
  | some r =>
    have hlt := (List.getElem?_eq_some_iff.1 hk).1
    have hd : rs.drop k = r :: rs.drop (k + 1) := by
      rw [List.drop_eq_getElem_cons hlt]
      rw [List.getElem?_eq_getElem hlt] at hk
      cases hk; rfl
    have hts : rs.take (k + 1) = rs.take k ++ [r] := by rw [List.take_add_one, hk]; rfl
    have hl : (jour 0 (rs.take (k + 1))).length = (jour 0 (rs.take k)).length + (enc (sealK 0 (rs.take k)) r).length := by rw [hts, jour_snoc, List.length_append]
    have h3 := h2 r hk
    rw [List.getElem?_append_right h1, hd, jour] at hne
    rw [hd, jour] at hb ⊢
    refine nxt_damaged _ (hok r (List.mem_of_getElem? hk)) _ _ v (by omega) (fun x hx => hb x (List.mem_append_right _ hx)) hv hne
end Jn
end Go.Proofs.Ytcdoalfpaldbmaa
