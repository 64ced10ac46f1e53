/- The examples' journals: their words, what is read of them. -/
import Derived.Test.YtcdoalfpaldbmaaWD
import Derived.Test.YtcdoalfpaldbmaaLB
namespace Go.Proofs.Ytcdoalfpaldbmaa
open Go.RowKit Sl Fr Dg
namespace Jn
set_option linter.unusedVariables false

theorem ends_le (rs : List (List Int)) (key : Int) {i j : Nat} (h : i ≤ j) : (jour key (rs.take i)).length ≤ (jour key (rs.take j)).length := by
  have := jour_take_le (rs.take j) key i
  rwa [List.take_take, Nat.min_eq_left h] at this
/-- What is read of the first bytes of a journal. -/
theorem parses_take {rs : List (List Int)} (hok : ∀ r ∈ rs, OkR r) {n k : Nat} (h1 : (jour 0 (rs.take k)).length ≤ n) (h2 : ∀ r, rs[k]? = some r → n < (jour 0 (rs.take (k + 1))).length) :
    Parses 0 ((jour 0 rs).take n) (rs.take k) (((jour 0 rs).take n).drop (jour 0 (rs.take k)).length) := by
  have hj : jour 0 rs = jour 0 (rs.take k) ++ jour (sealK 0 (rs.take k)) (rs.drop k) := by rw [← jour_append, List.take_append_drop]
  have ht : (jour 0 rs).take n = jour 0 (rs.take k) ++ (jour (sealK 0 (rs.take k)) (rs.drop k)).take (n - (jour 0 (rs.take k)).length) := by
    rw [hj, List.take_append, List.take_of_length_le h1]
  refine ⟨?_, fun r hr => hok r (List.mem_of_mem_take hr), ?_⟩
  · rw [ht, List.drop_left]
  · rw [ht, List.drop_left]
    cases hk : rs[k]? with
    | none =>
      have : rs.drop k = [] := List.drop_eq_nil_iff.2 (List.getElem?_eq_none_iff.1 hk)
      rw [this]
      simp only [jour, List.take_nil]
      exact nxt_nil _
    | some r =>
      have hlt := (List.getElem?_eq_some_iff.1 hk).1
      have hd : rs.drop k = r :: rs.drop (k + 1) := by
        rw [List.drop_eq_getElem_cons hlt]
        rw [List.getElem?_eq_getElem hlt] at hk
        cases hk; rfl
      have hl : (jour 0 (rs.take (k + 1))).length = (jour 0 (rs.take k)).length + (enc (sealK 0 (rs.take k)) r).length := by rw [take_snoc hk, jour_snoc, List.length_append]
      have h3 := h2 r hk
      rw [hd, jour, List.take_append_of_le_length (by omega)]
      refine nxt_short _ (hok r (List.mem_of_getElem? hk)) _ ((enc (sealK 0 (rs.take k)) r).drop (n - (jour 0 (rs.take k)).length)) (List.take_append_drop _ _).symm ?_
      intro h0
      have := congrArg List.length h0
      rw [List.length_drop] at this
      simp at this
      omega

def ja : List Int := jour 0 [[5]]
def jb : List Int := jour 0 [[5], []]
theorem ja_len : ja.length = 32 := by unfold ja; rw [jour, jour, List.length_append, enc_length]; rfl
theorem jb_len : jb.length = 56 := by unfold jb; rw [jour, jour, jour, List.length_append, List.length_append, enc_length, enc_length]; rfl
theorem ja_ok : ∀ r ∈ [[(5 : Int)]], OkR r := by intro r hr; simp at hr; subst hr; exact ⟨by decide, by intro x hx; simp at hx; subst hx; unfold I64; omega⟩
theorem jb_ok : ∀ r ∈ [[(5 : Int)], []], OkR r := by
  intro r hr; simp at hr
  rcases hr with rfl | rfl
  · exact ja_ok _ (by simp)
  · exact ⟨by decide, by simp⟩
theorem ja_b8 : B8 ja := jour_B8 _ _
theorem jb_b8 : B8 jb := jour_B8 _ _
theorem ja_flat : ja = flatW (wordsE 0 [5]) ++ [] := by unfold ja; rw [jour, jour]; rfl
theorem jb_flat : jb = flatW (wordsE 0 [5] ++ wordsE (tagI 0 [5]) []) ++ [] := by unfold jb; rw [jour, jour, jour, flatW_append, List.append_nil, List.append_nil]; rfl
theorem a_0 : valL ((ja.drop 0).take 8) = 1 := by have := wordAt_flat (wordsE 0 [5]) [] 0 1 rfl ⟨by decide, by decide⟩; rw [← ja_flat] at this; exact this
theorem a_8 : valL ((ja.drop 8).take 8) = tagI 0 [1] := by have := wordAt_flat (wordsE 0 [5]) [] 1 (tagI 0 [1]) rfl (tagI_range _ _); rw [← ja_flat] at this; exact this
theorem a_16 : valL ((ja.drop 16).take 8) = 5 := by have := wordAt_flat (wordsE 0 [5]) [] 2 5 (by decide +kernel) ⟨by decide, by decide⟩; rw [← ja_flat] at this; exact this
theorem a_24 : valL ((ja.drop 24).take 8) = tagI 0 [5] := by have := wordAt_flat (wordsE 0 [5]) [] 3 (tagI 0 [5]) rfl (tagI_range _ _); rw [← ja_flat] at this; exact this
theorem b_32 : valL ((jb.drop 32).take 8) = 0 := by have := wordAt_flat (wordsE 0 [5] ++ wordsE (tagI 0 [5]) []) [] 4 0 rfl ⟨by decide, by decide⟩; rw [← jb_flat] at this; exact this
theorem b_48 : valL ((jb.drop 48).take 8) = tagI (tagI 0 [5]) [] := by have := wordAt_flat (wordsE 0 [5] ++ wordsE (tagI 0 [5]) []) [] 6 (tagI (tagI 0 [5]) []) rfl (tagI_range _ _); rw [← jb_flat] at this; exact this
theorem ja_reads : Parses 0 ja [[5]] [] := parses_jour 0 ja_ok
theorem jb_reads : Parses 0 jb [[5], []] [] := parses_jour 0 jb_ok
theorem ja_short : Parses 0 (ja.take 31) [] (ja.take 31) := by
  have := parses_take ja_ok (n := 31) (k := 0) (by decide) (fun r hr => by
    have : (jour 0 (([[5]] : List (List Int)).take (0 + 1))).length = 32 := ja_len
    omega)
  exact this
theorem jb_short : Parses 0 (jb.take 50) [[5]] ((jb.take 50).drop 32) := by
  have h32 : (jour 0 (([[5], []] : List (List Int)).take 1)).length = 32 := ja_len
  have := parses_take jb_ok (n := 50) (k := 1) (by rw [h32]; decide) (fun r hr => by
    have : (jour 0 (([[5], []] : List (List Int)).take (1 + 1))).length = 56 := jb_len
    omega)
  rw [h32] at this
  exact this
theorem put_a : putF [] [] [] [5] = (ja, 0) := by
  unfold putF
  rw [if_neg (by decide), if_neg (by simp), if_neg (by decide)]
  unfold ja; rw [jour, jour]; simp [sealK]
theorem put_b : putF ja [] [[5]] [] = (jb, 0) := by
  unfold putF
  rw [if_neg (by decide), if_neg (by simp), if_neg (by rw [ja_len]; decide)]
  unfold ja jb; simp [sealK, jour]
theorem put_short : putF (ja.take 31) (ja.take 31) [] [] = ([], 60) := by
  unfold putF
  rw [if_neg (by decide), if_pos (by intro h; have := congrArg List.length h; rw [List.length_take, ja_len] at this; simp at this)]
theorem put_long : putF [] [] [] (List.replicate 257 0) = ([], 1) := by
  unfold putF
  rw [if_pos (by rw [List.length_replicate]; decide)]
theorem parses_nil : Parses 0 [] [] [] := parses_jour 0 (l := []) (by simp)
end Jn
end Go.Proofs.Ytcdoalfpaldbmaa
