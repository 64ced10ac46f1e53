/- Files made of pieces: well-formed whatever follows. -/
import Derived.Test.YtiebhlmjpnhepaaDoorM4
namespace Go.Proofs.YtiebhlmjpnhepaaDoor
namespace Lx
set_option linter.unusedVariables false

def pcs : List By := [[97], [120], [114, 101, 103], [109, 111, 100, 117, 108, 101], [98, 50], [105, 110], [99, 104, 97, 110], [122, 122, 57], [48], [49], [55], [52, 50], [49, 48, 48, 48, 48, 48, 48], [40], [41], [123], [125], [91], [93], [44], [59], [58], [61], [43], [45], [38], [124], [94], [126], [60], [63], [64], [35], [46], [45, 62], [61, 61], [32], [10], [32, 47, 47, 32, 110, 111, 116, 101, 10], [47, 47], [48, 49], [49, 48, 48, 48, 48, 48, 49], [50, 120], [65], [47], [33], [42], [9], [13], [0]]
theorem pcs_len : pcs.length = 50 := rfl
theorem pcs_le : ∀ p ∈ pcs, p.length ≤ 9 := by decide

def skp (l : By) : By := l.drop (span notLf l)
/-- Whatever well-formed list follows, within a comment or not, the whole is well-formed. -/
def Good (r : By) : Prop := ∀ T : By, WF T → WF (skp T) → WF (r ++ T) ∧ WF (skp (r ++ T))
theorem Good.nil : Good [] := fun T h h' => ⟨h, h'⟩
theorem Good.app {a b : By} (ha : Good a) (hb : Good b) : Good (a ++ b) := fun T h h' => by
  obtain ⟨h1, h2⟩ := hb T h h'
  rw [List.append_assoc]
  exact ha _ h1 h2
theorem wf_nil : WF [] := rfl
theorem Good.wf {r : By} (h : Good r) : WF r := by
  have := (h [] wf_nil wf_nil).1
  rwa [List.append_nil] at this
theorem wf_sp {c : UInt8} {T : By} (h : isSp c = true) : WF (c :: T) ↔ WF T := by
  unfold WF
  rw [lex_sp h]
  exact lex_wf
theorem skp_yes {c : UInt8} {T : By} (h : notLf c = true) : skp (c :: T) = skp T := by
  unfold skp
  rw [span_yes h, List.drop_succ_cons]
theorem skp_lf (T : By) : skp (10 :: T) = 10 :: T := rfl
theorem skp_app {w T : By} (h : ∀ c ∈ w, notLf c = true) : skp (w ++ T) = skp T := by
  induction w with
  | nil => rfl
  | cons c r ih =>
    rw [List.cons_append, skp_yes (h c (List.mem_cons_self ..)), ih (fun d hd => h d (List.mem_cons_of_mem _ hd))]
theorem good_sp : Good [32] := fun T h h' => ⟨(wf_sp (by decide)).2 h, by rw [List.singleton_append, skp_yes (by decide)]; exact h'⟩
theorem good_lf : Good [10] := fun T h h' => ⟨(wf_sp (by decide)).2 h, by rw [List.singleton_append, skp_lf]; exact (wf_sp (by decide)).2 h⟩
theorem good_cm : Good [47, 47] := fun T h h' => by
  have e : ([47, 47] : By) ++ T = 47 :: 47 :: T := rfl
  refine ⟨?_, ?_⟩
  · rw [e]
    unfold WF
    rw [lex_cm (by decide) rfl]
    have : (47 :: 47 :: T : By).drop (span notLf (47 :: 47 :: T)) = skp T := by
      show skp (47 :: 47 :: T) = skp T
      rw [skp_yes (by decide), skp_yes (by decide)]
    rw [this]
    exact lex_wf.2 h'
  · rw [e, skp_yes (by decide), skp_yes (by decide)]
    exact h'
theorem good_note : Good [47, 47, 32, 110, 111, 116, 101, 10] := fun T h h' => by
  have e : ([47, 47, 32, 110, 111, 116, 101, 10] : By) ++ T = 47 :: 47 :: 32 :: 110 :: 111 :: 116 :: 101 :: 10 :: T := rfl
  have hs : skp (47 :: 47 :: 32 :: 110 :: 111 :: 116 :: 101 :: 10 :: T) = 10 :: T := by
    rw [skp_yes (by decide), skp_yes (by decide), skp_yes (by decide), skp_yes (by decide), skp_yes (by decide), skp_yes (by decide), skp_yes (by decide), skp_lf]
  have hw : WF (10 :: T) := (wf_sp (by decide)).2 h
  refine ⟨?_, ?_⟩
  · rw [e]
    unfold WF
    rw [lex_cm (by decide) rfl]
    show (lex _ (skp (47 :: 47 :: 32 :: 110 :: 111 :: 116 :: 101 :: 10 :: T))).2 = none
    rw [hs]
    exact lex_wf.2 hw
  · rw [e, hs]
    exact hw
theorem good_tok {w : By} {k : Nat} (hw : IsTok w k) (hl : ∀ c ∈ w, notLf c = true) {s : UInt8} (hs : isSep s) : Good (w ++ [s]) := fun T h h' => by
  have e : w ++ [s] ++ T = w ++ s :: T := by simp
  rw [e]
  refine ⟨?_, ?_⟩
  · unfold WF
    rw [lex_then hw hs]
    exact lex_wf.2 h
  · rw [skp_app hl]
    rcases hs with rfl | rfl
    · rw [skp_yes (by decide)]; exact h'
    · rw [skp_lf]; exact (wf_sp (by decide)).2 h
theorem pcs_tok : ∀ p ∈ pcs.take 36, (p ≠ [] ∧ tok p = ((tok p).1, p.length)) ∧ ∀ c ∈ p, notLf c = true := by decide
/-- A piece that Clean takes, and a separator. -/
theorem good_piece {p : By} (hp : p ∈ pcs.take 40) {s : UInt8} (hs : isSep s) : Good (p ++ [s]) := by
  have hg : Good [s] := by rcases hs with rfl | rfl; exact good_sp; exact good_lf
  have e : pcs.take 40 = pcs.take 36 ++ [[32], [10], [32, 47, 47, 32, 110, 111, 116, 101, 10], [47, 47]] := rfl
  rw [e, List.mem_append] at hp
  rcases hp with hp | hp
  · obtain ⟨h1, h2⟩ := pcs_tok p hp
    exact good_tok h1 h2 hs
  · simp only [List.mem_cons, List.not_mem_nil, or_false] at hp
    rcases hp with rfl | rfl | rfl | rfl
    · exact good_sp.app hg
    · exact good_lf.app hg
    · exact (good_sp.app good_note).app hg
    · exact good_cm.app hg

end Lx
end Go.Proofs.YtiebhlmjpnhepaaDoor
