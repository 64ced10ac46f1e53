/- Journals as lists of bytes: the bytes of a word, the encoding of a record, the journal of records, what a byte sequence begins with. -/
import Derived.Test.YtcdoalfpaldbmaaM2
import Derived.Laws.BitsLemmas
namespace Go.Proofs.Ytcdoalfpaldbmaa
namespace Jn
open Dg
set_option linter.unusedVariables false

/-- The n lowest bytes, the least one first. -/
def bytesN : Nat → Int → List Int
  | 0, _ => []
  | n + 1, w => w % 256 :: bytesN n (w / 256)
theorem bytesN_length : ∀ (n : Nat) (w : Int), (bytesN n w).length = n
  | 0, _ => rfl
  | n + 1, w => by simp [bytesN, bytesN_length n]
theorem bytesN_B8 : ∀ (n : Nat) (w : Int), B8 (bytesN n w)
  | 0, _ => fun x hx => by simp [bytesN] at hx
  | n + 1, w => fun x hx => by
    simp only [bytesN, List.mem_cons] at hx
    rcases hx with rfl | hx
    · omega
    · exact bytesN_B8 n _ x hx
theorem valL_bytesN : ∀ (n : Nat) (w : Int), 0 ≤ w → w < 256 ^ n → valL (bytesN n w) = w
  | 0, w, h0, h1 => by simp at h1; simp [bytesN, valL]; omega
  | n + 1, w, h0, h1 => by
    rw [Int.pow_succ] at h1
    simp only [bytesN, valL]
    have : w / 256 < 256 ^ n := by
      generalize (256 : Int) ^ n = p at *
      omega
    rw [valL_bytesN n (w / 256) (by omega) this]
    omega
theorem bytesN_get : ∀ (n : Nat) (w : Int) (k : Nat), k < n → (bytesN n w)[k]? = some (w / 256 ^ k % 256)
  | 0, w, k, h => by omega
  | n + 1, w, 0, h => by simp [bytesN]
  | n + 1, w, k + 1, h => by
    simp only [bytesN, List.getElem?_cons_succ]
    rw [bytesN_get n (w / 256) k (by omega), Int.pow_succ, Int.mul_comm, Int.ediv_ediv_of_nonneg (by decide)]
def bytesW (w : Int) : List Int := bytesN 8 w
theorem bytesW_length (w : Int) : (bytesW w).length = 8 := bytesN_length 8 w
theorem bytesW_B8 (w : Int) : B8 (bytesW w) := bytesN_B8 8 w
theorem valL_bytesW {w : Int} (h : R w) : valL (bytesW w) = w := valL_bytesN 8 w h.1 (by have := h.2; simpa using this)
theorem valL_R {xs : List Int} (h : B8 xs) (hl : xs.length ≤ 8) : R (valL xs) := by
  have hr := valL_range xs h
  have hp : (256 : Int) ^ xs.length ≤ 256 ^ 8 := by
    rw [pow256, pow256]
    exact Int.ofNat_le.2 (Nat.pow_le_pow_right (by decide) (by omega))
  have : (256 : Int) ^ 8 = 18446744073709551616 := by decide
  unfold R
  omega
theorem bytesW_valL {xs : List Int} (h : B8 xs) (hl : xs.length = 8) : bytesW (valL xs) = xs :=
  valL_inj _ _ (bytesW_B8 _) h (by rw [bytesW_length, hl]) (valL_bytesW (valL_R h (by omega)))

/-- The bytes of words. -/
def flatW (ws : List Int) : List Int := ws.flatMap bytesW
theorem flatW_nil : flatW [] = [] := rfl
theorem flatW_cons (w : Int) (ws : List Int) : flatW (w :: ws) = bytesW w ++ flatW ws := rfl
theorem flatW_append (a b : List Int) : flatW (a ++ b) = flatW a ++ flatW b := by simp [flatW]
theorem flatW_length : ∀ ws : List Int, (flatW ws).length = 8 * ws.length
  | [] => rfl
  | w :: ws => by rw [flatW_cons, List.length_append, bytesW_length, flatW_length ws, List.length_cons]; omega
theorem flatW_B8 : ∀ ws : List Int, B8 (flatW ws)
  | [] => fun x hx => by simp [flatW] at hx
  | w :: ws => fun x hx => by
    rw [flatW_cons, List.mem_append] at hx
    rcases hx with hx | hx
    · exact bytesW_B8 w x hx
    · exact flatW_B8 ws x hx

/-- The word with a number. -/
def wordAt (bs : List Int) (i : Nat) : Int := valL ((bs.drop (8 * i)).take 8)
theorem wordAt_R {bs : List Int} (h : B8 bs) (i : Nat) : R (wordAt bs i) :=
  valL_R (fun x hx => h x (List.mem_of_mem_drop (List.mem_of_mem_take hx))) (by simp; omega)
theorem wordAt_flat : ∀ (ws t : List Int) (i : Nat) (w : Int), ws[i]? = some w → R w → wordAt (flatW ws ++ t) i = w
  | [], t, i, w, h, _ => by simp at h
  | v :: ws, t, 0, w, h, hr => by
    simp only [List.getElem?_cons_zero, Option.some.injEq] at h
    subst h
    unfold wordAt
    rw [flatW_cons, Nat.mul_zero, List.drop_zero, List.append_assoc, List.take_left' (bytesW_length v), valL_bytesW hr]
  | v :: ws, t, i + 1, w, h, hr => by
    simp only [List.getElem?_cons_succ] at h
    have ih := wordAt_flat ws t i w h hr
    unfold wordAt at *
    rw [flatW_cons, List.append_assoc, show 8 * (i + 1) = 8 + 8 * i by omega, ← List.drop_drop, List.drop_left' (bytesW_length v)]
    exact ih
/-- What is read as words is the bytes of these words. -/
theorem flat_wordAt : ∀ (n : Nat) (bs : List Int), B8 bs → 8 * n ≤ bs.length → bs = flatW ((List.range n).map (wordAt bs)) ++ bs.drop (8 * n)
  | 0, bs, _, _ => by simp [flatW]
  | n + 1, bs, h, hl => by
    have ih := flat_wordAt n (bs.drop 8) (fun x hx => h x (List.mem_of_mem_drop hx)) (by rw [List.length_drop]; omega)
    have e0 : bytesW (wordAt bs 0) = bs.take 8 := by
      unfold wordAt
      rw [Nat.mul_zero, List.drop_zero]
      exact bytesW_valL (fun x hx => h x (List.mem_of_mem_take hx)) (by simp; omega)
    have e1 : (List.range (n + 1)).map (wordAt bs) = wordAt bs 0 :: (List.range n).map (wordAt (bs.drop 8)) := by
      rw [List.range_succ_eq_map, List.map_cons, List.map_map]
      congr 1
      apply List.map_congr_left
      intro i _
      simp only [Function.comp, wordAt, List.drop_drop]
      rw [show 8 + 8 * i = 8 * (i + 1) by omega]
    rw [e1, flatW_cons, e0, List.append_assoc, show 8 * (n + 1) = 8 + 8 * n by omega, ← List.drop_drop, ← ih, List.take_append_drop]

/-- A record. -/
def OkR (r : List Int) : Prop := r.length ≤ 256 ∧ ∀ x ∈ r, I64 x
/-- The words of an encoding. -/
def wordsE (key : Int) (r : List Int) : List Int := (r.length : Int) :: tagI key [(r.length : Int)] :: (r.map IntKind.u64.wrap ++ [tagI key r])
theorem wordsE_length (key : Int) (r : List Int) : (wordsE key r).length = r.length + 3 := by simp [wordsE]
def enc (key : Int) (r : List Int) : List Int := flatW (wordsE key r)
theorem enc_length (key : Int) (r : List Int) : (enc key r).length = 8 * (r.length + 3) := by rw [enc, flatW_length, wordsE_length]
theorem enc_B8 (key : Int) (r : List Int) : B8 (enc key r) := flatW_B8 _
theorem wordsE_0 (key : Int) (r : List Int) : (wordsE key r)[0]? = some (r.length : Int) := rfl
theorem wordsE_1 (key : Int) (r : List Int) : (wordsE key r)[1]? = some (tagI key [(r.length : Int)]) := rfl
theorem wordsE_at (key : Int) (r : List Int) (i : Nat) (hi : i < r.length) : (wordsE key r)[i + 2]? = some (IntKind.u64.wrap (r[i]?.getD 0)) := by
  simp only [wordsE, List.getElem?_cons_succ]
  rw [List.getElem?_append_left (by simpa using hi), List.getElem?_map, List.getElem?_eq_getElem hi]
  rfl
theorem wordsE_end (key : Int) (r : List Int) : (wordsE key r)[r.length + 2]? = some (tagI key r) := by
  simp only [wordsE, List.getElem?_cons_succ]
  rw [List.getElem?_append_right (by simp)]
  simp

theorem wrap_i64 (x : Int) (h : I64 x) : IntKind.i64.wrap (IntKind.u64.wrap x) = x := by
  unfold I64 at h
  rw [IntKind.wrap_u64, IntKind.wrap_i64]
  omega
theorem wrap_i64_I64 (x : Int) : I64 (IntKind.i64.wrap x) := by
  unfold I64
  rw [IntKind.wrap_i64]
  omega
theorem wrap_u64_i64 (x : Int) (h : R x) : IntKind.u64.wrap (IntKind.i64.wrap x) = x := by
  unfold R at h
  rw [IntKind.wrap_u64, IntKind.wrap_i64]
  omega

/-- The elements that stand behind the two first words. -/
def recAt (bs : List Int) (n : Nat) : List Int := (List.range n).map fun i => IntKind.i64.wrap (wordAt bs (i + 2))
theorem recAt_length (bs : List Int) (n : Nat) : (recAt bs n).length = n := by simp [recAt]
/-- A complete record with n elements stands here. -/
def Good (key : Int) (bs : List Int) (n : Int) : Prop :=
  24 ≤ bs.length ∧ 0 ≤ n ∧ n ≤ 256 ∧ wordAt bs 1 = tagI key [n] ∧ 8 * (n.toNat + 3) ≤ bs.length ∧ wordAt bs (n.toNat + 2) = tagI key (recAt bs n.toNat)
instance (key : Int) (bs : List Int) (n : Int) : Decidable (Good key bs n) := by unfold Good; exact inferInstance
def nOf (bs : List Int) : Int := IntKind.i64.wrap (wordAt bs 0)
/-- The record that a byte sequence begins with. -/
def nxt (key : Int) (bs : List Int) : Option (List Int) := if Good key bs (nOf bs) then some (recAt bs (nOf bs).toNat) else none

theorem R_len {r : List Int} (h : r.length ≤ 256) : R (r.length : Int) := by unfold R; omega
theorem nxt_enc (key : Int) {r : List Int} (h : OkR r) (t : List Int) : nxt key (enc key r ++ t) = some r := by
  have w0 : wordAt (enc key r ++ t) 0 = r.length := wordAt_flat _ _ _ _ (wordsE_0 key r) (R_len h.1)
  have n0 : nOf (enc key r ++ t) = r.length := by
    unfold nOf
    rw [w0, IntKind.wrap_i64]
    have := h.1
    omega
  have nt : (nOf (enc key r ++ t)).toNat = r.length := by rw [n0]; omega
  have hr : recAt (enc key r ++ t) r.length = r := by
    apply List.ext_getElem?
    intro i
    by_cases hi : i < r.length
    · unfold recAt
      rw [List.getElem?_map, List.getElem?_range hi, Option.map_some, enc, wordAt_flat _ _ _ _ (wordsE_at key r i hi) (wrap_R _), wrap_i64 _ (by rw [List.getElem?_eq_getElem hi]; exact h.2 _ (by simp)), List.getElem?_eq_getElem hi]
      rfl
    · rw [List.getElem?_eq_none (by rw [recAt_length]; omega), List.getElem?_eq_none (by omega)]
  have hg : Good key (enc key r ++ t) (nOf (enc key r ++ t)) := by
    have hl : (enc key r ++ t).length = 8 * (r.length + 3) + t.length := by rw [List.length_append, enc_length]
    have h1 := h.1
    refine ⟨by omega, by omega, by omega, ?_, by omega, ?_⟩
    · rw [n0]; exact wordAt_flat _ _ _ _ (wordsE_1 key r) (tagI_range _ _)
    · rw [nt, hr]; exact wordAt_flat _ _ _ _ (wordsE_end key r) (tagI_range _ _)
  unfold nxt
  rw [if_pos hg, nt, hr]
theorem recAt_ok {key : Int} {bs : List Int} (h : Good key bs (nOf bs)) : OkR (recAt bs (nOf bs).toNat) := by
  refine ⟨by rw [recAt_length]; have := h.2.2.1; omega, fun x hx => ?_⟩
  simp only [recAt, List.mem_map] at hx
  obtain ⟨i, _, rfl⟩ := hx
  exact wrap_i64_I64 _
theorem nxt_some {key : Int} {bs r : List Int} (hb : B8 bs) (h : nxt key bs = some r) : OkR r ∧ bs = enc key r ++ bs.drop (8 * (r.length + 3)) := by
  unfold nxt at h
  by_cases hg : Good key bs (nOf bs)
  · rw [if_pos hg, Option.some.injEq] at h
    subst h
    refine ⟨recAt_ok hg, ?_⟩
    obtain ⟨h1, h2, h3, h4, h5, h6⟩ := hg
    have hn : ((nOf bs).toNat : Int) = nOf bs := by omega
    have h0 : wordAt bs 0 = nOf bs := by
      have := wordAt_R hb 0
      unfold R at this
      unfold nOf at h2 h3 ⊢
      rw [IntKind.wrap_i64] at h2 h3 ⊢
      omega
    have e := flat_wordAt ((nOf bs).toNat + 3) bs hb h5
    rw [recAt_length]
    have ew : (List.range ((nOf bs).toNat + 3)).map (wordAt bs) = wordsE key (recAt bs (nOf bs).toNat) := by
      apply List.ext_getElem?
      intro i
      rcases i with _ | _ | i
      · rw [wordsE_0, recAt_length, hn]; simp [h0]
      · rw [wordsE_1, recAt_length, hn]; simp [h4]
      · by_cases hi : i < (nOf bs).toNat
        · rw [wordsE_at _ _ _ (by rw [recAt_length]; exact hi)]
          simp only [recAt]
          rw [List.getElem?_map, List.getElem?_range (by omega), List.getElem?_map, List.getElem?_range hi]
          simp only [Option.map_some, Option.getD_some]
          rw [wrap_u64_i64 _ (wordAt_R hb _)]
        · by_cases hi' : i = (nOf bs).toNat
          · subst hi'
            have := wordsE_end key (recAt bs (nOf bs).toNat)
            rw [recAt_length] at this
            rw [this, ← h6, List.getElem?_map, List.getElem?_range (by omega)]
            rfl
          · rw [List.getElem?_eq_none (by simp; omega), List.getElem?_eq_none (by rw [wordsE_length, recAt_length]; omega)]
    rw [ew] at e
    exact e
  · rw [if_neg hg] at h; cases h

/-- The journal of records behind a key; the key behind records. -/
def jour : Int → List (List Int) → List Int
  | _, [] => []
  | key, r :: l => enc key r ++ jour (tagI key r) l
def sealK : Int → List (List Int) → Int
  | key, [] => key
  | key, r :: l => sealK (tagI key r) l
theorem jour_append : ∀ (key : Int) (a b : List (List Int)), jour key (a ++ b) = jour key a ++ jour (sealK key a) b
  | _, [], _ => rfl
  | key, r :: l, b => by simp only [List.cons_append, jour, sealK, jour_append, List.append_assoc]
theorem sealK_append : ∀ (key : Int) (a b : List (List Int)), sealK key (a ++ b) = sealK (sealK key a) b
  | _, [], _ => rfl
  | key, r :: l, b => by simp only [List.cons_append, sealK, sealK_append]
theorem jour_snoc (key : Int) (l : List (List Int)) (r : List Int) : jour key (l ++ [r]) = jour key l ++ enc (sealK key l) r := by simp [jour_append, jour]
theorem sealK_snoc (key : Int) (l : List (List Int)) (r : List Int) : sealK key (l ++ [r]) = tagI (sealK key l) r := by simp [sealK_append, sealK]
theorem jour_B8 : ∀ (key : Int) (l : List (List Int)), B8 (jour key l)
  | _, [] => fun x hx => by simp [jour] at hx
  | key, r :: l => fun x hx => by
    rw [jour, List.mem_append] at hx
    rcases hx with hx | hx
    · exact enc_B8 _ _ x hx
    · exact jour_B8 _ l x hx
theorem sealK_R : ∀ (key : Int) (l : List (List Int)), R key → R (sealK key l)
  | _, [], h => h
  | key, r :: l, _ => sealK_R _ l (tagI_range _ _)

/-- Records, and a rest that begins with none. -/
structure Parses (key : Int) (bs : List Int) (l : List (List Int)) (rest : List Int) : Prop where
  eq : bs = jour key l ++ rest
  ok : ∀ r ∈ l, OkR r
  no : nxt (sealK key l) rest = none

theorem parses_any : ∀ (n : Nat) (key : Int) (bs : List Int), bs.length ≤ n → B8 bs → ∃ l rest, Parses key bs l rest := by
  intro n
  induction n with
  | zero =>
    intro key bs hl hb
    refine ⟨[], bs, by simp [jour], by simp, ?_⟩
    unfold nxt
    rw [if_neg (fun h => by have := h.1; omega)]
  | succ n ih =>
    intro key bs hl hb
    cases h : nxt key bs with
    | none => exact ⟨[], bs, by simp [jour], by simp, h⟩
    | some r =>
      obtain ⟨hr, he⟩ := nxt_some hb h
      have hlen : bs.length = 8 * (r.length + 3) + (bs.drop (8 * (r.length + 3))).length := by
        have := congrArg List.length he
        rw [List.length_append, enc_length] at this
        exact this
      obtain ⟨l, rest, hp⟩ := ih (tagI key r) (bs.drop (8 * (r.length + 3))) (by omega) (fun x hx => hb x (List.mem_of_mem_drop hx))
      exact ⟨r :: l, rest, by rw [jour, List.append_assoc, ← hp.eq]; exact he, fun x hx => by
        rcases List.mem_cons.1 hx with rfl | hx
        · exact hr
        · exact hp.ok x hx, hp.no⟩
theorem Parses.uniq : ∀ {l l' : List (List Int)} {key : Int} {bs rest rest' : List Int}, Parses key bs l rest → Parses key bs l' rest' → l = l' ∧ rest = rest'
  | [], [], _, _, _, _, h, h' => ⟨rfl, by have := h.eq.symm.trans h'.eq; simpa [jour] using this⟩
  | [], r :: l, key, bs, rest, rest', h, h' => by
    have e := h.eq.symm.trans h'.eq
    have := h.no
    simp only [jour, List.nil_append, sealK, List.append_assoc] at e this
    rw [e, nxt_enc key (h'.ok r (by simp))] at this
    cases this
  | r :: l, [], key, bs, rest, rest', h, h' => by
    have e := h'.eq.symm.trans h.eq
    have := h'.no
    simp only [jour, List.nil_append, sealK, List.append_assoc] at e this
    rw [e, nxt_enc key (h.ok r (by simp))] at this
    cases this
  | r :: l, r' :: l', key, bs, rest, rest', h, h' => by
    have e := h.eq.symm.trans h'.eq
    simp only [jour, List.append_assoc] at e
    have e1 := nxt_enc key (h.ok r (by simp)) (jour (tagI key r) l ++ rest)
    rw [e, nxt_enc key (h'.ok r' (by simp)), Option.some.injEq] at e1
    subst e1
    have e2 := List.append_cancel_left e
    obtain ⟨rfl, rfl⟩ := Parses.uniq (key := tagI key r') (bs := jour (tagI key r') l ++ rest) ⟨rfl, fun x hx => h.ok x (by simp [hx]), h.no⟩ ⟨e2, fun x hx => h'.ok x (by simp [hx]), h'.no⟩
    exact ⟨rfl, rfl⟩
theorem nxt_nil (key : Int) : nxt key [] = none := by unfold nxt; rw [if_neg (fun h => by have := h.1; simp at this)]
theorem parses_jour (key : Int) {l : List (List Int)} (h : ∀ r ∈ l, OkR r) : Parses key (jour key l) l [] := ⟨by simp, h, nxt_nil _⟩
theorem jour_inj {key : Int} {l l' : List (List Int)} (h : ∀ r ∈ l, OkR r) (h' : ∀ r ∈ l', OkR r) (e : jour key l = jour key l') : l = l' :=
  (Parses.uniq (parses_jour key h) (e ▸ parses_jour key h')).1

/-- No record begins in fewer bytes than its encoding has. -/
theorem nxt_short (key : Int) {r : List Int} (h : OkR r) (p t : List Int) (hp : enc key r = p ++ t) (ht : t ≠ []) : nxt key p = none := by
  unfold nxt
  rw [if_neg]
  intro hg
  have hl : p.length + t.length = 8 * (r.length + 3) := by rw [← List.length_append, ← hp, enc_length]
  have ht' : 0 < t.length := List.length_pos_iff.2 ht
  have w0 : wordAt (enc key r ++ []) 0 = r.length := wordAt_flat _ _ _ _ (wordsE_0 key r) (R_len h.1)
  have e0 : wordAt p 0 = r.length := by
    rw [← w0, List.append_nil, hp]
    unfold wordAt
    rw [Nat.mul_zero, List.drop_zero, List.drop_zero, List.take_append_of_le_length (by have := hg.1; omega)]
  have n0 : nOf p = r.length := by
    unfold nOf
    rw [e0, IntKind.wrap_i64]
    have := h.1
    omega
  have := hg.2.2.2.2.1
  rw [n0] at this
  omega
end Jn
end Go.Proofs.Ytcdoalfpaldbmaa
