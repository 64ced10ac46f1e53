/- The text of a tree lexes to its tokens: numbers, expressions, rules. The text of a tree lexes to its tokens: lists, items, modules, files. Trees held against each other; new structs with an assignment between. -/
import Derived.Test.YtggeepimihhpjaaGreatDoorG8
import Derived.Test.YtggeepimihhpjaaGreatDoorTF
namespace Go.Proofs.YtggeepimihhpjaaGreatDoor
open Lx Go.Lib
namespace Sy
set_option linter.unusedVariables false
set_option linter.unusedSimpArgs false

def wt (ts : List KT) : Nat := (ts.map fun t => t.2.length).sum
theorem wt_nil : wt [] = 0 := rfl
theorem wt_cons (t : KT) (r : List KT) : wt (t :: r) = t.2.length + wt r := rfl
theorem wt_app (a b : List KT) : wt (a ++ b) = wt a + wt b := by unfold wt; rw [List.map_append, List.sum_append]
theorem lexN : LexW [] [] := LexS.nil.w
theorem hd_cons {c : UInt8} {r : By} (h : isWd c = false) : Hd (c :: r) := fun d hd => by injection hd with hd; rw [← hd]; exact h
theorem lexT {w R : By} {k : Nat} {c : UInt8} {rs : List KT} (h : IsTok w k) (hs : isSep c) (hR : LexW R rs) : LexW (w ++ (c :: R)) ((k, w) :: rs) := by
  have := (lexS_tok h hs).appW hR
  rwa [List.append_assoc] at this
theorem lexB {c : UInt8} {R : By} {rs : List KT} (hs : isSep c) (hR : LexW R rs) : LexW (c :: R) rs := (lexS_sep hs).appW hR
theorem lexG {c : UInt8} {R : By} {rs : List KT} (h : c ∈ oneSigns ∧ c ≠ 45 ∧ c ≠ 61) (hR : LexW R rs) : LexW (c :: R) ((3, [c]) :: rs) := (lexS_sign h.1 h.2.1 h.2.2).appW hR
theorem lexP {A : By} {c : UInt8} {R : By} {ta rs : List KT} (hA : LexW A ta) (hc : isWd c = false) (hR : LexW (c :: R) rs) : LexW (A ++ (c :: R)) (ta ++ rs) := hA.appW hR (by simp) (hd_cons hc)
theorem s32 : isSep 32 := by unfold isSep; decide
theorem s10 : isSep 10 := by unfold isSep; decide
theorem w32 : isWd 32 = false := by decide
theorem tk {w : By} {k : Nat} (h : tok w = (k, w.length) ∧ w ≠ []) : IsTok w k := ⟨h.2, h.1⟩
structure Tx (o : Option By) (ts : List KT) : Prop where
  out : ∃ T, o = some T ∧ LexW T ts ∧ T.length ≤ 4 * wt ts
theorem numX_tx {x : NumT} (h : NumOK x) : LexW (numX x) (tkN x) ∧ (numX x).length ≤ 4 * wt (tkN x) := by
  unfold NumOK at h
  unfold numX tkN
  split
  · rename_i hp
    rw [if_pos hp] at h
    obtain ⟨k, hk⟩ : ∃ k : Nat, x.n = (k : Int) := ⟨x.n.toNat, by omega⟩
    rw [hk, itoa_nat]
    exact ⟨lexW_tok (dec_tok (by omega)) (.inr rfl), by simp only [wt_cons, wt_nil]; omega⟩
  · rename_i hp
    rw [if_neg hp] at h
    split
    · obtain ⟨k, hk⟩ : ∃ k : Nat, x.n = (k : Int) := ⟨x.n.toNat, by omega⟩
      rw [hk, itoa_nat]
      exact ⟨lexP (lexW_tok h.1.1 (.inl rfl)) w32 (lexB s32 (lexT (w := [43]) (k := 3) (tk (by decide)) s32 (lexW_tok (dec_tok (by omega)) (.inr rfl)))), by simp only [wt_cons, wt_nil, List.length_append, List.length_cons, List.length_nil, s_plus, s_minus]; omega⟩
    · split
      · obtain ⟨k, hk⟩ : ∃ k : Nat, negI x.n = (k : Int) := ⟨(-x.n).toNat, by rw [negI_small h.2.1]; omega⟩
        have hk2 : k ≤ 1000000 := by rw [negI_small h.2.1] at hk; omega
        rw [hk, itoa_nat]
        exact ⟨lexP (lexW_tok h.1.1 (.inl rfl)) w32 (lexB s32 (lexT (w := [45]) (k := 3) (tk (by decide)) s32 (lexW_tok (dec_tok hk2) (.inr rfl)))), by simp only [wt_cons, wt_nil, List.length_append, List.length_cons, List.length_nil, s_plus, s_minus]; omega⟩
      · exact ⟨lexW_tok h.1.1 (.inl rfl), by simp only [wt_cons, wt_nil]; omega⟩
theorem Tx.expr {m : Nat} {e : ExprT} {ts : List KT} (h : EOK m e ts) : Tx (exprX e) ts := by
  induction h with
  | @const m k w hk hw =>
    obtain ⟨k1, k2⟩ := numX_tx hk
    obtain ⟨w1, w2⟩ := numX_tx hw
    refine ⟨[91] ++ (numX k ++ ([32, 58, 32] ++ (numX w ++ ([93] ++ [])))), rfl, ?_, ?_⟩
    · have q := lexG (c := 91) (by decide) (lexP k1 w32 (lexB s32 (lexT (w := [58]) (k := 3) (tk (by decide)) s32 (lexP (c := 93) w1 (by decide) (lexG (c := 93) (by decide) lexN)))))
      exact q
    · simp only [wt_app, wt_cons, wt_nil, List.length_append, List.length_cons, List.length_nil, s_lsq, s_rsq, s_colon, s_plus, s_minus, s_tilde, s_lpar, s_rpar, s_quest, s_ats, s_lbrc, s_rbrc, w_copy, w_add]; omega
  | @ref m nm h =>
    refine ⟨nm ++ [], rfl, ?_, ?_⟩
    · rw [List.append_nil]; exact lexW_tok h.1 (.inl rfl)
    · simp only [wt_app, wt_cons, wt_nil, List.length_append, List.length_cons, List.length_nil, s_lsq, s_rsq, s_colon, s_plus, s_minus, s_tilde, s_lpar, s_rpar, s_quest, s_ats, s_lbrc, s_rbrc, w_copy, w_add]; omega
  | @mem m nm a ta h ha ih =>
    obtain ⟨A, a1, a2, a3⟩ := ih.out
    refine ⟨nm ++ ([91] ++ (A ++ ([93] ++ []))), ?_, ?_, ?_⟩
    · show seqO [some nm, some [91], exprX a, some [93]] = _; rw [a1]; rfl
    · have q := lexP (lexW_tok h.1 (.inl rfl)) (c := 91) (by decide) (lexG (c := 91) (by decide) (lexP (c := 93) a2 (by decide) (lexG (c := 93) (by decide) lexN)))
      exact q
    · simp only [wt_app, wt_cons, wt_nil, List.length_append, List.length_cons, List.length_nil, s_lsq, s_rsq, s_colon, s_plus, s_minus, s_tilde, s_lpar, s_rpar, s_quest, s_ats, s_lbrc, s_rbrc, w_copy, w_add]; omega
  | @not m a ta ha ih =>
    obtain ⟨A, a1, a2, a3⟩ := ih.out
    refine ⟨[126] ++ (A ++ []), ?_, ?_, ?_⟩
    · show seqO [some [126], exprX a] = _; rw [a1]; rfl
    · rw [List.append_nil, List.append_nil]; exact lexG (by decide) a2
    · simp only [wt_app, wt_cons, wt_nil, List.length_append, List.length_cons, List.length_nil, s_lsq, s_rsq, s_colon, s_plus, s_minus, s_tilde, s_lpar, s_rpar, s_quest, s_ats, s_lbrc, s_rbrc, w_copy, w_add]; omega
  | @two m op s a b ta tb ho ha hb iha ihb =>
    obtain ⟨A, a1, a2, a3⟩ := iha.out
    obtain ⟨B, b1, b2, b3⟩ := ihb.out
    have ht : IsTok s 3 := ⟨(ops_sign ho).2.1, (ops_sign ho).1⟩
    have hs : 1 ≤ s.length := by cases s with
      | nil => exact absurd rfl (ops_sign ho).2.1
      | cons c r => simp
    refine ⟨[40] ++ (A ++ ([32] ++ (s ++ ([32] ++ (B ++ ([41] ++ [])))))), ?_, ?_, ?_⟩
    · have hf : ∀ x ∈ opsT, ∀ (y z : Option By), formX x.2 [] num0 num0 y z none = seqO [some [40], y, some [32], some x.1, some [32], z, some [41]] := by
        intro x hx y z
        simp only [opsT, List.mem_cons, List.not_mem_nil, or_false] at hx
        rcases hx with rfl | rfl | rfl | rfl | rfl | rfl | rfl | rfl <;> rfl
      show formX op [] num0 num0 (exprX a) (exprX b) none = _
      rw [hf _ ho, a1, b1]; rfl
    · have q := lexG (c := 40) (by decide) (lexP a2 w32 (lexB s32 (lexT ht s32 (lexP (c := 41) b2 (by decide) (lexG (c := 41) (by decide) lexN)))))
      exact q
    · simp only [wt_app, wt_cons, wt_nil, List.length_append, List.length_cons, List.length_nil, s_lsq, s_rsq, s_colon, s_plus, s_minus, s_tilde, s_lpar, s_rpar, s_quest, s_ats, s_lbrc, s_rbrc, w_copy, w_add]; omega
  | @mux m a b c ta tb tc ha hb hc iha ihb ihc =>
    obtain ⟨A, a1, a2, a3⟩ := iha.out
    obtain ⟨B, b1, b2, b3⟩ := ihb.out
    obtain ⟨C, c1, c2, c3⟩ := ihc.out
    refine ⟨[40] ++ (A ++ ([32, 63, 32] ++ (B ++ ([32, 58, 32] ++ (C ++ ([41] ++ [])))))), ?_, ?_, ?_⟩
    · show seqO [some [40], exprX a, some [32, 63, 32], exprX b, some [32, 58, 32], exprX c, some [41]] = _; rw [a1, b1, c1]; rfl
    · have q := lexG (c := 40) (by decide) (lexP a2 w32 (lexB s32 (lexT (w := [63]) (k := 3) (tk (by decide)) s32 (lexP b2 w32 (lexB s32 (lexT (w := [58]) (k := 3) (tk (by decide)) s32 (lexP (c := 41) c2 (by decide) (lexG (c := 41) (by decide) lexN))))))))
      exact q
    · simp only [wt_app, wt_cons, wt_nil, List.length_append, List.length_cons, List.length_nil, s_lsq, s_rsq, s_colon, s_plus, s_minus, s_tilde, s_lpar, s_rpar, s_quest, s_ats, s_lbrc, s_rbrc, w_copy, w_add]; omega
  | @slice m k w a ta ha hk hw ih =>
    obtain ⟨A, a1, a2, a3⟩ := ih.out
    obtain ⟨k1, k2⟩ := numX_tx hk
    obtain ⟨w1, w2⟩ := numX_tx hw
    refine ⟨[123] ++ (A ++ ([32, 64, 32] ++ (numX k ++ ([32, 58, 32] ++ (numX w ++ ([125] ++ [])))))), ?_, ?_, ?_⟩
    · show seqO [some [123], exprX a, some [32, 64, 32], some (numX k), some [32, 58, 32], some (numX w), some [125]] = _; rw [a1]; rfl
    · have q := lexG (c := 123) (by decide) (lexP a2 w32 (lexB s32 (lexT (w := [64]) (k := 3) (tk (by decide)) s32 (lexP k1 w32 (lexB s32 (lexT (w := [58]) (k := 3) (tk (by decide)) s32 (lexP (c := 125) w1 (by decide) (lexG (c := 125) (by decide) lexN))))))))
      exact q
    · simp only [wt_app, wt_cons, wt_nil, List.length_append, List.length_cons, List.length_nil, s_lsq, s_rsq, s_colon, s_plus, s_minus, s_tilde, s_lpar, s_rpar, s_quest, s_ats, s_lbrc, s_rbrc, w_copy, w_add]; omega
  | @ext m w a ta ha hw ih =>
    obtain ⟨A, a1, a2, a3⟩ := ih.out
    obtain ⟨w1, w2⟩ := numX_tx hw
    refine ⟨[123] ++ (A ++ ([32, 58, 32] ++ (numX w ++ ([125] ++ [])))), ?_, ?_, ?_⟩
    · show seqO [some [123], exprX a, some [32, 58, 32], some (numX w), some [125]] = _; rw [a1]; rfl
    · have q := lexG (c := 123) (by decide) (lexP a2 w32 (lexB s32 (lexT (w := [58]) (k := 3) (tk (by decide)) s32 (lexP (c := 125) w1 (by decide) (lexG (c := 125) (by decide) lexN)))))
      exact q
    · simp only [wt_app, wt_cons, wt_nil, List.length_append, List.length_cons, List.length_nil, s_lsq, s_rsq, s_colon, s_plus, s_minus, s_tilde, s_lpar, s_rpar, s_quest, s_ats, s_lbrc, s_rbrc, w_copy, w_add]; omega
theorem Tx.rule {x : RuleT} {ts : List KT} (h : ROK x ts) : Tx (ruleX x) ts := by
  cases h with
  | init => exact ⟨w_init, rfl, lexW_tok (k := 1) (tk (by decide)) (.inl rfl), by decide⟩
  | keep => exact ⟨w_keep, rfl, lexW_tok (k := 1) (tk (by decide)) (.inl rfl), by decide⟩
  | @copy f h =>
    refine ⟨w_copy ++ (32 :: (f ++ [])), rfl, ?_, ?_⟩
    · rw [List.append_nil]; exact lexT (k := 1) (tk (by decide)) s32 (lexW_tok h.1 (.inl rfl))
    · simp only [wt_app, wt_cons, wt_nil, List.length_append, List.length_cons, List.length_nil, s_lsq, s_rsq, s_colon, s_plus, s_minus, s_tilde, s_lpar, s_rpar, s_quest, s_ats, s_lbrc, s_rbrc, w_copy, w_add]; omega
  | @add f n h hn =>
    refine ⟨w_add ++ (32 :: (f ++ ([32] ++ (itoa (n : Int) ++ [])))), rfl, ?_, ?_⟩
    · rw [itoa_nat, List.append_nil]; have q := lexT (w := w_add) (k := 1) (tk (by decide)) s32 (lexP (c := 32) (lexW_tok h.1 (.inl rfl)) w32 (lexB s32 (lexW_tok (dec_tok hn) (.inr rfl)))); exact q
    · have := h.ne
      have h1 : 1 ≤ f.length := by cases f with
        | nil => exact absurd rfl this
        | cons c r => simp
      simp only [wt_app, wt_cons, wt_nil, List.length_append, List.length_cons, List.length_nil, s_lsq, s_rsq, s_colon, s_plus, s_minus, s_tilde, s_lpar, s_rpar, s_quest, s_ats, s_lbrc, s_rbrc, w_copy, w_add]; omega
end Sy
end Go.Proofs.YtggeepimihhpjaaGreatDoor

namespace Go.Proofs.YtggeepimihhpjaaGreatDoor
open Lx Go.Lib
namespace Sy
set_option linter.unusedVariables false
set_option linter.unusedSimpArgs false

theorem lexE {A : By} {ta : List KT} (h : LexW A ta) : LexW (A ++ []) (ta ++ []) := by rwa [List.append_nil, List.append_nil]
theorem lexNm {w : By} (h : NameT w) : LexW w [(1, w)] := lexW_tok h.1 (.inl rfl)
theorem Tx.tail {α : Type} {P : α → List KT → Prop} {tx : α → Option By} (hP : ∀ x ts, P x ts → Tx (tx x) ts) {xs : List α} {ts : List KT} (h : Seq (Com P) xs ts) :
    ∃ T, tailX (xs.map tx) = some T ∧ (T = [] ∨ ∃ T', T = 44 :: T') ∧ T.length ≤ 4 * wt ts ∧ LexW (T ++ [41]) (ts ++ [(3, s_rpar)]) := by
  induction h with
  | nil => exact ⟨[], rfl, .inl rfl, Nat.zero_le _, lexG (c := 41) (by decide) lexN⟩
  | @cons x xs a b hx hxs ih =>
    obtain ⟨T, h1, h2, h3, h4⟩ := ih
    obtain ⟨c, hc, rfl⟩ := hx
    obtain ⟨X, x1, x2, x3⟩ := (hP x c hc).out
    refine ⟨44 :: 32 :: (X ++ T), ?_, .inr ⟨_, rfl⟩, ?_, ?_⟩
    · rw [List.map_cons]
      show catO (some [44, 32]) (catO (tx x) (tailX (xs.map tx))) = _
      rw [x1, h1]; rfl
    · simp only [wt_app, wt_cons, wt_nil, List.length_append, List.length_cons, List.length_nil, s_comma]; omega
    · have hd : Hd (T ++ [41]) ∧ T ++ [41] ≠ [] := by
        rcases h2 with rfl | ⟨T', rfl⟩
        · exact ⟨hd_cons (by decide), by simp⟩
        · exact ⟨hd_cons (by decide), by simp⟩
      have q := lexT (w := [44]) (k := 3) (tk (by decide)) s32 (x2.appW h4 hd.2 hd.1)
      simpa only [s_comma, s_rpar, List.append_assoc, List.cons_append, List.nil_append, List.append_nil] using q
theorem Tx.list {α : Type} {P : α → List KT → Prop} {tx : α → Option By} (hP : ∀ x ts, P x ts → Tx (tx x) ts) {xs : List α} {ts : List KT} (h : Lst P xs ts) :
    ∃ T, listX (xs.map tx) = some (40 :: T) ∧ T.length + 2 ≤ 4 * wt ts ∧ LexW (40 :: T) ts := by
  cases h with
  | nil => exact ⟨[41], rfl, by decide, lexG (c := 40) (by decide) (lexG (c := 41) (by decide) lexN)⟩
  | @cons x xs a b hx hs =>
    obtain ⟨T, h1, h2, h3, h4⟩ := Tx.tail hP hs
    obtain ⟨X, x1, x2, x3⟩ := (hP x a hx).out
    refine ⟨X ++ (T ++ [41]), ?_, ?_, ?_⟩
    · rw [List.map_cons]
      show catO (some [40]) (catO (catO (tx x) (tailX (xs.map tx))) (some [41])) = _
      rw [x1, h1]
      simp [catO]
    · simp only [wt_app, wt_cons, wt_nil, List.length_append, List.length_cons, List.length_nil, s_lpar, s_rpar]; omega
    · have hd : Hd (T ++ [41]) ∧ T ++ [41] ≠ [] := by
        rcases h2 with rfl | ⟨T', rfl⟩
        · exact ⟨hd_cons (by decide), by simp⟩
        · exact ⟨hd_cons (by decide), by simp⟩
      have q := lexG (c := 40) (by decide) (x2.appW h4 hd.2 hd.1)
      simpa only [s_lpar, s_rpar, List.append_assoc, List.cons_append, List.nil_append, List.append_nil] using q
theorem Tx.num {x : NumT} {ts : List KT} (h : NumR x ts) : Tx (some (numX x)) ts := by
  obtain ⟨h, rfl⟩ := h
  exact ⟨_, rfl, (numX_tx h).1, (numX_tx h).2⟩
theorem Tx.name {x : By} {ts : List KT} (h : NameR x ts) : Tx (some x) ts := by
  obtain ⟨h, rfl⟩ := h
  exact ⟨_, rfl, lexNm h, by simp only [wt_cons, wt_nil]; omega⟩
theorem Tx.binding {x : BindT} {ts : List KT} (h : BindR x ts) : Tx (bindX x) ts := by
  obtain ⟨h1, h2, rfl⟩ := h
  refine ⟨x.port ++ ([32, 61, 32] ++ (x.chan ++ [])), rfl, ?_, ?_⟩
  · have q := lexP (c := 32) (lexNm h1) w32 (lexB s32 (lexT (w := [61]) (k := 3) (tk (by decide)) s32 (lexE (lexNm h2))))
    exact q
  · have := h1.ne
    simp only [wt_app, wt_cons, wt_nil, List.length_append, List.length_cons, List.length_nil, s_eqs]; omega
theorem Tx.item {x : ItemT} {ts : List KT} (h : IOK x ts) : Tx (itemX x) ts := by
  cases h with
  | @input n w hn hw =>
    obtain ⟨hw1, hw2⟩ := numX_tx hw
    refine ⟨[105, 110, 32] ++ (n ++ ([58, 32] ++ (numX w ++ []))), ?_, ?_, ?_⟩
    · show seqO [some [105, 110, 32], some (n), some [58, 32], some (numX w)] = _
      rfl
    · have q := (lexT (w := w_in) (k := 1) (tk (by decide)) s32 (lexP (c := 58) (lexNm hn) (by decide) (lexT (w := [58]) (k := 3) (tk (by decide)) s32 (lexE hw1))))
      try simp only [List.append_assoc]
      exact q
    · simp only [wt_app, wt_cons, wt_nil, List.length_append, List.length_cons, List.length_nil, s_lsq, s_rsq, s_colon, s_eqs, s_arrow, w_if, w_at, w_in, w_out, w_chan, w_reg, w_wire, w_mem, w_take, w_put, w_inst]; omega
  | @output n w hn hw =>
    obtain ⟨hw1, hw2⟩ := numX_tx hw
    refine ⟨[111, 117, 116, 32] ++ (n ++ ([58, 32] ++ (numX w ++ []))), ?_, ?_, ?_⟩
    · show seqO [some [111, 117, 116, 32], some (n), some [58, 32], some (numX w)] = _
      rfl
    · have q := (lexT (w := w_out) (k := 1) (tk (by decide)) s32 (lexP (c := 58) (lexNm hn) (by decide) (lexT (w := [58]) (k := 3) (tk (by decide)) s32 (lexE hw1))))
      try simp only [List.append_assoc]
      exact q
    · simp only [wt_app, wt_cons, wt_nil, List.length_append, List.length_cons, List.length_nil, s_lsq, s_rsq, s_colon, s_eqs, s_arrow, w_if, w_at, w_in, w_out, w_chan, w_reg, w_wire, w_mem, w_take, w_put, w_inst]; omega
  | @channel n w d hn hw hd =>
    obtain ⟨hw1, hw2⟩ := numX_tx hw
    obtain ⟨hd1, hd2⟩ := numX_tx hd
    refine ⟨[99, 104, 97, 110, 32] ++ (n ++ ([58, 32] ++ (numX w ++ ([32, 91] ++ (numX d ++ ([93] ++ [])))))), ?_, ?_, ?_⟩
    · show seqO [some [99, 104, 97, 110, 32], some (n), some [58, 32], some (numX w), some [32, 91], some (numX d), some [93]] = _
      rfl
    · have q := (lexT (w := w_chan) (k := 1) (tk (by decide)) s32 (lexP (c := 58) (lexNm hn) (by decide) (lexT (w := [58]) (k := 3) (tk (by decide)) s32 (lexP (c := 32) hw1 (by decide) (lexB s32 (lexG (c := 91) (by decide) (lexP (c := 93) hd1 (by decide) (lexG (c := 93) (by decide) lexN))))))))
      try simp only [List.append_assoc]
      exact q
    · simp only [wt_app, wt_cons, wt_nil, List.length_append, List.length_cons, List.length_nil, s_lsq, s_rsq, s_colon, s_eqs, s_arrow, w_if, w_at, w_in, w_out, w_chan, w_reg, w_wire, w_mem, w_take, w_put, w_inst]; omega
  | @register n w i a ta ru tr hn hw hi ha hru =>
    obtain ⟨hw1, hw2⟩ := numX_tx hw
    obtain ⟨hi1, hi2⟩ := numX_tx hi
    obtain ⟨A, a1, a2, a3⟩ := (Tx.expr ha).out
    obtain ⟨U, r1, r2, r3⟩ := (Tx.rule hru).out
    refine ⟨[114, 101, 103, 32] ++ (n ++ ([58, 32] ++ (numX w ++ ([32, 61, 32] ++ (numX i ++ ([32, 45, 62, 32] ++ (A ++ ([32] ++ (U ++ []))))))))), ?_, ?_, ?_⟩
    · show seqO [some [114, 101, 103, 32], some (n), some [58, 32], some (numX w), some [32, 61, 32], some (numX i), some [32, 45, 62, 32], exprX a, some [32], ruleX ru] = _
      rw [a1, r1]; rfl
    · have q := (lexT (w := w_reg) (k := 1) (tk (by decide)) s32 (lexP (c := 58) (lexNm hn) (by decide) (lexT (w := [58]) (k := 3) (tk (by decide)) s32 (lexP (c := 32) hw1 (by decide) (lexB s32 (lexT (w := [61]) (k := 3) (tk (by decide)) s32 (lexP (c := 32) hi1 (by decide) (lexB s32 (lexT (w := [45, 62]) (k := 3) (tk (by decide)) s32 (lexP (c := 32) a2 (by decide) (lexB s32 (lexE r2))))))))))))
      try simp only [List.append_assoc]
      exact q
    · simp only [wt_app, wt_cons, wt_nil, List.length_append, List.length_cons, List.length_nil, s_lsq, s_rsq, s_colon, s_eqs, s_arrow, w_if, w_at, w_in, w_out, w_chan, w_reg, w_wire, w_mem, w_take, w_put, w_inst]; omega
  | @wire n w a ta hn hw ha =>
    obtain ⟨hw1, hw2⟩ := numX_tx hw
    obtain ⟨A, a1, a2, a3⟩ := (Tx.expr ha).out
    refine ⟨[119, 105, 114, 101, 32] ++ (n ++ ([58, 32] ++ (numX w ++ ([32, 61, 32] ++ (A ++ []))))), ?_, ?_, ?_⟩
    · show seqO [some [119, 105, 114, 101, 32], some (n), some [58, 32], some (numX w), some [32, 61, 32], exprX a] = _
      rw [a1]; rfl
    · have q := (lexT (w := w_wire) (k := 1) (tk (by decide)) s32 (lexP (c := 58) (lexNm hn) (by decide) (lexT (w := [58]) (k := 3) (tk (by decide)) s32 (lexP (c := 32) hw1 (by decide) (lexB s32 (lexT (w := [61]) (k := 3) (tk (by decide)) s32 (lexE a2)))))))
      try simp only [List.append_assoc]
      exact q
    · simp only [wt_app, wt_cons, wt_nil, List.length_append, List.length_cons, List.length_nil, s_lsq, s_rsq, s_colon, s_eqs, s_arrow, w_if, w_at, w_in, w_out, w_chan, w_reg, w_wire, w_mem, w_take, w_put, w_inst]; omega
  | @memory n w d a ta b tb c tc ru tr hn hw hd ha hb hc hru =>
    obtain ⟨hw1, hw2⟩ := numX_tx hw
    obtain ⟨hd1, hd2⟩ := numX_tx hd
    obtain ⟨A, a1, a2, a3⟩ := (Tx.expr ha).out
    obtain ⟨B, b1, b2, b3⟩ := (Tx.expr hb).out
    obtain ⟨C, c1, c2, c3⟩ := (Tx.expr hc).out
    obtain ⟨U, r1, r2, r3⟩ := (Tx.rule hru).out
    refine ⟨[109, 101, 109, 32] ++ (n ++ ([58, 32] ++ (numX w ++ ([32, 91] ++ (numX d ++ ([93, 32, 105, 102, 32] ++ (A ++ ([32, 97, 116, 32] ++ (B ++ ([32, 61, 32] ++ (C ++ ([32] ++ (U ++ []))))))))))))), ?_, ?_, ?_⟩
    · show seqO [some [109, 101, 109, 32], some (n), some [58, 32], some (numX w), some [32, 91], some (numX d), some [93, 32, 105, 102, 32], exprX a, some [32, 97, 116, 32], exprX b, some [32, 61, 32], exprX c, some [32], ruleX ru] = _
      rw [a1, b1, c1, r1]; rfl
    · have q := (lexT (w := w_mem) (k := 1) (tk (by decide)) s32 (lexP (c := 58) (lexNm hn) (by decide) (lexT (w := [58]) (k := 3) (tk (by decide)) s32 (lexP (c := 32) hw1 (by decide) (lexB s32 (lexG (c := 91) (by decide) (lexP (c := 93) hd1 (by decide) (lexG (c := 93) (by decide) (lexB s32 (lexT (w := w_if) (k := 1) (tk (by decide)) s32 (lexP (c := 32) a2 (by decide) (lexB s32 (lexT (w := w_at) (k := 1) (tk (by decide)) s32 (lexP (c := 32) b2 (by decide) (lexB s32 (lexT (w := [61]) (k := 3) (tk (by decide)) s32 (lexP (c := 32) c2 (by decide) (lexB s32 (lexE r2)))))))))))))))))))
      try simp only [List.append_assoc]
      exact q
    · simp only [wt_app, wt_cons, wt_nil, List.length_append, List.length_cons, List.length_nil, s_lsq, s_rsq, s_colon, s_eqs, s_arrow, w_if, w_at, w_in, w_out, w_chan, w_reg, w_wire, w_mem, w_take, w_put, w_inst]; omega
  | @take n a ta hn ha =>
    obtain ⟨A, a1, a2, a3⟩ := (Tx.expr ha).out
    refine ⟨[116, 97, 107, 101, 32] ++ (n ++ ([32, 105, 102, 32] ++ (A ++ []))), ?_, ?_, ?_⟩
    · show seqO [some [116, 97, 107, 101, 32], some (n), some [32, 105, 102, 32], exprX a] = _
      rw [a1]; rfl
    · have q := (lexT (w := w_take) (k := 1) (tk (by decide)) s32 (lexP (c := 32) (lexNm hn) (by decide) (lexB s32 (lexT (w := w_if) (k := 1) (tk (by decide)) s32 (lexE a2)))))
      try simp only [List.append_assoc]
      exact q
    · simp only [wt_app, wt_cons, wt_nil, List.length_append, List.length_cons, List.length_nil, s_lsq, s_rsq, s_colon, s_eqs, s_arrow, w_if, w_at, w_in, w_out, w_chan, w_reg, w_wire, w_mem, w_take, w_put, w_inst]; omega
  | @put n a ta b tb hn ha hb =>
    obtain ⟨A, a1, a2, a3⟩ := (Tx.expr ha).out
    obtain ⟨B, b1, b2, b3⟩ := (Tx.expr hb).out
    refine ⟨[112, 117, 116, 32] ++ (n ++ ([32, 105, 102, 32] ++ (A ++ ([32, 61, 32] ++ (B ++ []))))), ?_, ?_, ?_⟩
    · show seqO [some [112, 117, 116, 32], some (n), some [32, 105, 102, 32], exprX a, some [32, 61, 32], exprX b] = _
      rw [a1, b1]; rfl
    · have q := (lexT (w := w_put) (k := 1) (tk (by decide)) s32 (lexP (c := 32) (lexNm hn) (by decide) (lexB s32 (lexT (w := w_if) (k := 1) (tk (by decide)) s32 (lexP (c := 32) a2 (by decide) (lexB s32 (lexT (w := [61]) (k := 3) (tk (by decide)) s32 (lexE b2))))))))
      try simp only [List.append_assoc]
      exact q
    · simp only [wt_app, wt_cons, wt_nil, List.length_append, List.length_cons, List.length_nil, s_lsq, s_rsq, s_colon, s_eqs, s_arrow, w_if, w_at, w_in, w_out, w_chan, w_reg, w_wire, w_mem, w_take, w_put, w_inst]; omega
  | @inst n o ar lar ps lps hn ho har hps =>
    obtain ⟨A, a1, a2, a3⟩ := Tx.list (tx := fun x => some (numX x)) (fun x ts h => Tx.num h) har
    obtain ⟨B, b1, b2, b3⟩ := Tx.list (tx := bindX) (fun x ts h => Tx.binding h) hps
    refine ⟨w_inst ++ (32 :: (n ++ (58 :: 32 :: (o ++ (40 :: (A ++ (32 :: 40 :: B))))))), ?_, ?_, ?_⟩
    · show seqO [seqO [some [105, 110, 115, 116, 32], some n, some [58, 32], some o], listX (ar.map fun x => some (numX x)), seqO [some [32]], listX (ps.map bindX)] = _
      rw [a1, b1]
      simp [seqO, catO, w_inst]
    · have q := lexT (w := w_inst) (k := 1) (tk (by decide)) s32 (lexP (c := 58) (lexNm hn) (by decide) (lexT (w := [58]) (k := 3) (tk (by decide)) s32 (lexP (c := 40) (lexNm ho) (by decide) (lexP (c := 32) a3 w32 (lexB s32 b3)))))
      simp only [List.append_nil]
      exact q
    · simp only [wt_app, wt_cons, wt_nil, List.length_append, List.length_cons, List.length_nil, s_lsq, s_rsq, s_colon, s_eqs, s_arrow, w_if, w_at, w_in, w_out, w_chan, w_reg, w_wire, w_mem, w_take, w_put, w_inst]; omega
theorem line_tx {x : ItemT} {ts : List KT} (h : ItR x ts) : ∃ T, lineX x = some T ∧ LexS T ts ∧ T.length ≤ 4 * wt ts := by
  obtain ⟨a, ha, rfl⟩ := h
  obtain ⟨X, x1, x2, x3⟩ := (Tx.item ha).out
  refine ⟨[32, 32] ++ (X ++ ([59, 10] ++ [])), ?_, ?_, ?_⟩
  · show seqO [some [32, 32], itemX x, some [59, 10]] = _
    rw [x1]; rfl
  · have q := (lexS_sep s32).app ((lexS_sep s32).app (x2.app (lexS_tok (w := [59]) (k := 3) (tk (by decide)) s10) (by simp) (hd_cons (by decide))))
    simpa only [s_semi, List.append_assoc, List.cons_append, List.nil_append, List.append_nil] using q
  · simp only [wt_app, wt_cons, wt_nil, List.length_append, List.length_cons, List.length_nil, s_semi]; omega
theorem lines_tx {xs : List ItemT} {ts : List KT} (h : Seq ItR xs ts) : ∃ T, seqO (xs.map lineX) = some T ∧ LexS T ts ∧ T.length ≤ 4 * wt ts := by
  induction h with
  | nil => exact ⟨[], rfl, LexS.nil, Nat.zero_le _⟩
  | @cons x xs a b hx hxs ih =>
    obtain ⟨T, h1, h2, h3⟩ := ih
    obtain ⟨X, x1, x2, x3⟩ := line_tx hx
    refine ⟨X ++ T, ?_, x2.app h2, ?_⟩
    · rw [List.map_cons, seqO_cons, x1, h1]; rfl
    · rw [List.length_append, wt_app]; omega
theorem mod_tx {x : ModT} {ts : List KT} (h : MOK x ts) : ∃ T, modX x = some T ∧ LexS T ts ∧ T.length ≤ 4 * wt ts := by
  cases h with
  | @mk n c ps xs lp ti hn hp hc hi =>
    obtain ⟨A, a1, a2, a3⟩ := Tx.list (tx := some) (fun x ts h => Tx.name h) hp
    obtain ⟨I, i1, i2, i3⟩ := lines_tx hi
    refine ⟨w_module ++ (32 :: (n ++ (40 :: (A ++ (32 :: 64 :: 32 :: (c ++ (32 :: 123 :: 10 :: (I ++ [125, 10])))))))), ?_, ?_, ?_⟩
    · show seqO [seqO [some [109, 111, 100, 117, 108, 101, 32], some n], listX (ps.map some), seqO [some [32, 64, 32], some c, some [32, 123, 10]], seqO (xs.map lineX), seqO [some [125, 10]]] = _
      rw [a1, i1]
      simp [seqO, catO, w_module]
    · have q0 := (lexS_sep s32).app ((lexS_tok (w := [123]) (k := 3) (tk (by decide)) s10).app (i2.app (lexS_tok (w := [125]) (k := 3) (tk (by decide)) s10)))
      have q1 := (lexS_sep s32).app ((lexS_tok (w := [64]) (k := 3) (tk (by decide)) s32).app ((lexNm hc).app q0 (by simp) (hd_cons (by decide))))
      have q := (lexS_tok (w := w_module) (k := 1) (tk (by decide)) s32).app ((lexNm hn).app (a3.app q1 (by simp) (hd_cons (by decide))) (by simp) (hd_cons (by decide)))
      simpa only [s_ats, s_lbrc, s_rbrc, List.append_assoc, List.cons_append, List.nil_append, List.append_nil] using q
    · simp only [wt_app, wt_cons, wt_nil, List.length_append, List.length_cons, List.length_nil, s_ats, s_lbrc, s_rbrc, w_module]; omega
theorem file_tx {xs : FileT} {ts : List KT} (h : Seq MOK xs ts) : ∃ T, fileX xs = some T ∧ LexS T ts ∧ T.length ≤ 4 * wt ts := by
  induction h with
  | nil => exact ⟨[], rfl, LexS.nil, Nat.zero_le _⟩
  | @cons x xs a b hx hxs ih =>
    obtain ⟨T, h1, h2, h3⟩ := ih
    obtain ⟨X, x1, x2, x3⟩ := mod_tx hx
    refine ⟨X ++ T, ?_, x2.app h2, ?_⟩
    · show seqO ((x :: xs).map modX) = _
      rw [List.map_cons, seqO_cons, x1]
      show catO (some X) (fileX xs) = _
      rw [h1]; rfl
    · rw [List.length_append, wt_app]; omega
end Sy
end Go.Proofs.YtggeepimihhpjaaGreatDoor

namespace Go.Proofs.YtggeepimihhpjaaGreatDoor
open Go.RowKit Go.Shelf Go.Lib Sl Fr Lx
namespace Sy
set_option linter.unusedVariables false
set_option linter.unusedSimpArgs false

def eqL {α : Type} (E : α → α → Bool) : List α → List α → Bool
  | [], [] => true
  | a :: r, b :: s => E a b && eqL E r s
  | _, _ => false
theorem eqL_len {α : Type} {E : α → α → Bool} : ∀ {l m : List α}, l.length ≠ m.length → eqL E l m = false
  | [], [], h => absurd rfl h
  | [], b :: s, _ => rfl
  | a :: r, [], _ => rfl
  | a :: r, b :: s, h => by
    unfold eqL
    rw [eqL_len (fun e => h (by simp [e])), Bool.and_false]
theorem eqL_no {α : Type} {E : α → α → Bool} : ∀ {l m : List α} {k : Nat} {x y : α}, l[k]? = some x → m[k]? = some y → E x y = false → eqL E l m = false
  | [], _, _, _, _, h, _, _ => by cases h
  | a :: r, [], _, _, _, _, h, _ => by cases h
  | a :: r, b :: s, 0, x, y, h1, h2, h3 => by
    simp only [List.getElem?_cons_zero, Option.some.injEq] at h1 h2
    subst h1; subst h2
    unfold eqL
    rw [h3, Bool.false_and]
  | a :: r, b :: s, k + 1, x, y, h1, h2, h3 => by
    unfold eqL
    rw [eqL_no (l := r) (m := s) (k := k) h1 h2 h3, Bool.and_false]
theorem eqL_yes {α : Type} {E : α → α → Bool} : ∀ {l m : List α}, l.length = m.length → (∀ (k : Nat) (x y : α), l[k]? = some x → m[k]? = some y → E x y = true) → eqL E l m = true
  | [], [], _, _ => rfl
  | [], b :: s, h, _ => by simp at h
  | a :: r, [], h, _ => by simp at h
  | a :: r, b :: s, h, hk => by
    unfold eqL
    rw [hk 0 a b rfl rfl, eqL_yes (by simpa using h) (fun k x y h1 h2 => hk (k + 1) x y h1 h2)]
    rfl
theorem eqL_iff {α : Type} {E : α → α → Bool} : ∀ {l m : List α}, (∀ x ∈ l, ∀ y, E x y = true ↔ x = y) → (eqL E l m = true ↔ l = m)
  | [], [], _ => by simp [eqL]
  | [], b :: s, _ => by simp [eqL]
  | a :: r, [], _ => by simp [eqL]
  | a :: r, b :: s, h => by
    unfold eqL
    rw [Bool.and_eq_true, h a (by simp) b, eqL_iff (fun x hx => h x (List.mem_cons_of_mem _ hx)), List.cons.injEq]
def eqD {α : Type} [DecidableEq α] (a b : α) : Bool := decide (a = b)
mutual
def eqE : ExprT → ExprT → Bool
  | .mk op nm k w l, .mk op' nm' k' w' l' => decide (op = op') && (decide (nm = nm') && (decide (k = k') && (decide (w = w') && eqA l l')))
def eqA : List ExprT → List ExprT → Bool
  | [], [] => true
  | a :: r, b :: s => eqE a b && eqA r s
  | _, _ => false
end
theorem eqA_L : ∀ l m : List ExprT, eqA l m = eqL eqE l m
  | [], [] => by unfold eqA; rfl
  | [], b :: s => by unfold eqA; rfl
  | a :: r, [] => by unfold eqA; rfl
  | a :: r, b :: s => by unfold eqA eqL; rw [eqA_L r s]
mutual
theorem eqE_iff : ∀ a b : ExprT, eqE a b = true ↔ a = b
  | .mk op nm k w l, .mk op' nm' k' w' l' => by
    unfold eqE
    simp only [Bool.and_eq_true, decide_eq_true_eq]
    rw [eqA_iff l l']
    constructor
    · rintro ⟨rfl, rfl, rfl, rfl, rfl⟩; rfl
    · intro h; injection h with h1 h2 h3 h4 h5; exact ⟨h1, h2, h3, h4, h5⟩
theorem eqA_iff : ∀ l m : List ExprT, eqA l m = true ↔ l = m
  | [], [] => by unfold eqA; simp
  | [], b :: s => by unfold eqA; simp
  | a :: r, [] => by unfold eqA; simp
  | a :: r, b :: s => by
    unfold eqA
    rw [Bool.and_eq_true, eqE_iff a b, eqA_iff r s, List.cons.injEq]
end
def eqI (a b : ItemT) : Bool := decide (a.kind = b.kind) && (decide (a.name = b.name) && (decide (a.of_ = b.of_) && (decide (a.rule = b.rule) && (decide (a.width = b.width) && (decide (a.depth = b.depth) && (decide (a.init = b.init) &&
  (eqE a.a b.a && (eqE a.b b.b && (eqE a.c b.c && (eqL eqD a.args b.args && eqL eqD a.ports b.ports))))))))))
theorem eqD_iff {α : Type} [DecidableEq α] (a b : α) : eqD a b = true ↔ a = b := by unfold eqD; exact decide_eq_true_iff
theorem eqI_iff (a b : ItemT) : eqI a b = true ↔ a = b := by
  unfold eqI
  simp only [Bool.and_eq_true, decide_eq_true_eq, eqE_iff]
  rw [eqL_iff (fun x _ y => eqD_iff x y), eqL_iff (fun x _ y => eqD_iff x y)]
  cases a; cases b
  simp only [ItemT.mk.injEq]
  constructor
  · rintro ⟨h1, h2, h3, h4, h5, h6, h7, h8, h9, ha, hb, hc⟩; exact ⟨h1, h2, h5, h6, h7, h8, h9, ha, h4, h3, hb, hc⟩
  · rintro ⟨h1, h2, h5, h6, h7, h8, h9, ha, h4, h3, hb, hc⟩; exact ⟨h1, h2, h3, h4, h5, h6, h7, h8, h9, ha, hb, hc⟩
def eqM (a b : ModT) : Bool := decide (a.name = b.name) && (decide (a.clock = b.clock) && (eqL eqD a.params b.params && eqL eqI a.items b.items))
theorem eqM_iff (a b : ModT) : eqM a b = true ↔ a = b := by
  unfold eqM
  simp only [Bool.and_eq_true, decide_eq_true_eq]
  rw [eqL_iff (fun x _ y => eqD_iff x y), eqL_iff (fun x _ y => eqI_iff x y)]
  cases a; cases b
  simp only [ModT.mk.injEq]
theorem eqF_iff (f g : FileT) : eqL eqM f g = true ↔ f = g := eqL_iff fun x _ y => eqM_iff x y

theorem wpList_new_mid {T : TypeId} {z0 : Array Value} (hal : ∀ {o : Oper}, o.op = .alloc T → ∀ (ev : Operand → Value) (w : World), (execOp ev o).run Tryz.prog w = .ok (.value (.pointer (some ⟨w.heap.size, 0, none⟩))) (w.alloc (.cells z0 T)))
    {ops : Array Oper} {rest : List Oper} {o1 om o2 : Oper} {a : Act} {w : World} {Q : Exit → Act → World → Prop} (hg1 : o1.guard = none) (hgm : om.guard = none) (hg2 : o2.guard = none) (h1 : o1.op = .alloc T) (z : Operand) (hm : om.op = .assign z) (x y : Operand) (h2 : o2.op = .store T x y) (c' : Array Value)
    (hx : ((a.put o1.dst (.pointer (some ⟨w.heap.size, 0, none⟩))).put om.dst ((a.put o1.dst (.pointer (some ⟨w.heap.size, 0, none⟩))).eval z)).eval x = .pointer (some ⟨w.heap.size, 0, none⟩)) (hy : ((a.put o1.dst (.pointer (some ⟨w.heap.size, 0, none⟩))).put om.dst ((a.put o1.dst (.pointer (some ⟨w.heap.size, 0, none⟩))).eval z)).eval y = .agg c') (hi : (Tryz.prog.info? T).map (·.size) = some c'.size) (hs : c'.size = z0.size) (ho : c'.all (·.oneCell') = true)
    (h : ∀ W b, b = w.heap.size → BoxO W b c' T → Below w.heap.size w W → wpList Tryz.prog ops Q rest (((a.put o1.dst (.pointer (some ⟨b, 0, none⟩))).put om.dst ((a.put o1.dst (.pointer (some ⟨b, 0, none⟩))).eval z)).put o2.dst undef) W) : wpList Tryz.prog ops Q (o1 :: om :: o2 :: rest) a w :=
  wpList_plain hg1 fun _ hK => by
    unfold Oper.wp
    rw [hal h1]
    refine hK _ _ (wpList_plain hgm fun _ hK1 => ?_)
    unfold Oper.wp execOp
    simp only [hm, Sem.run_pure]
    refine hK1 _ _ (wpList_plain hg2 fun _ hK2 => ?_)
    unfold Oper.wp execOp
    simp only [h2, hx, hy, Instr.storeAt, Instr.sureAddr, Sem.run_bind, Sem.run_pure, Result.andThen_ok, run_storeVar_new w T z0 c' hi hs.symm ho]
    exact hK2 _ _ (h _ _ rfl (startO w c' T).1 (startO w c' T).2)
def RetB (b : Bool) (w : World) (e : Ending) (w' : World) : Prop := e = .returned (.bool b) ∧ Below w.heap.size w w'
end Sy
end Go.Proofs.YtggeepimihhpjaaGreatDoor
