/- Statement DigestRefuses: plain facts, and what holds between its steps. -/
import Derived.Test.YtgjmhddekggilaaL7
namespace Go.Proofs.Ytgjmhddekggilaa
open Go.RowKit Go.BigFrame
namespace Dg

theorem chk_other_len (n i : Nat) (d : Int) (P p : List Int) (T : Int) (h : leadT n i d P = some T) (hl : p.length ≠ P.length) : chkE n i d p T = 6 := by
  unfold chkE
  rw [if_neg]
  intro h'
  exact hl ((lead_len n n i d p T (Nat.le_refl _) h').trans (lead_len n n i d P T (Nat.le_refl _) h).symm)

theorem chk_leaf (n i : Nat) (d v : Int) (P : List Int) (T : Int) (h : leadT n i d P = some T) (hd : R d) (hv : R v) : (chkE n i v P T == 0) = (v == d) := by
  unfold chkE
  by_cases e : v = d
  · subst e
    rw [if_pos h]
    simp
  · rw [if_neg (fun h' => e (lead_leaf n n i _ _ P T (Nat.le_refl _) hv hd h' h))]
    simp [e]

theorem chk_other (n i : Nat) (d v : Int) (P : List Int) (t : Nat) (T : Int) (h : leadT n i d P = some T) (ht : t < P.length) (hv : R v) (hP : ∀ x ∈ P, R x) : (chkE n i d (P.set t v) T == 0) = (v == P[t]?.getD 0) := by
  unfold chkE
  by_cases e : v = P[t]?.getD 0
  · have e2 : P.set t v = P := by
      rw [e, List.getElem?_eq_getElem ht]
      simp
    rw [e2, if_pos h]
    simp [← e]
  · rw [if_neg (fun h' => e (lead_other n n i d P t v T (Nat.le_refl _) ht hv hP h h'))]
    simp [e]

theorem path_pos (zs : List Int) (j : Nat) (h : 2 ≤ zs.length) (hj : j < zs.length) : ∀ (N : Nat), zs.length ≤ N → 1 ≤ (pathT zs j).length := by
  intro N
  induction N generalizing zs j with
  | zero => intro h'; omega
  | succ N ih =>
    intro h'
    rw [pathT_step zs j (by omega), List.length_append]
    by_cases h2 : zs.length = 2
    · by_cases hp : partnerN j < zs.length
      · have : (beside zs j).length = 1 := by unfold beside; rw [if_pos hp]; rfl
        omega
      · exact absurd (by unfold partnerN; split <;> omega) hp
    · have := ih (levelI zs) (j / 2) (by rw [levelI_length]; omega) (by rw [levelI_length]; omega) (by rw [levelI_length]; omega)
      omega

/-- What holds between the steps: the two boxes, the third key, the path. -/
def RefAt (w : World) (B : Nat) (A5 : Option Addr) (c5 : Nat) (P : List Int) (j : Nat) (x k2 : Int) (W : World) : Prop :=
  B + 1 < W.heap.size ∧ w.heap.size < W.heap.size ∧ (W.cell? ⟨B, 0, none⟩ = some (.slice A5 P.length c5) ∧ W.cell? ⟨B, 1, none⟩ = some (.int .i64 0)) ∧
    (W.cell? ⟨B + 1, 0, none⟩ = some (.int .i64 j) ∧ W.cell? ⟨B + 1, 1, none⟩ = some (.int .u64 x)) ∧ W.cell? ⟨w.heap.size, 2, none⟩ = some (.int .u16 k2) ∧ Arr W A5 (P.map (Value.int .u64)) ∧ Below w.heap.size w W

theorem RefAt.keep {w W W' : World} {B : Nat} {A5 : Option Addr} {c5 : Nat} {P : List Int} {j : Nat} {x k2 : Int} (h : RefAt w B A5 c5 P j x k2 W) (hb : Below W.heap.size W W') : RefAt w B A5 c5 P j x k2 W' := by
  obtain ⟨h1, h2, ⟨h3, h4⟩, ⟨h5, h6⟩, h7, h8, h9⟩ := h
  have hs := hb.size
  exact ⟨by omega, by omega, ⟨(hb.cell (p := ⟨B, 0, none⟩) (by simp; omega)).trans h3, (hb.cell (p := ⟨B, 1, none⟩) (by simp; omega)).trans h4⟩, ⟨(hb.cell (p := ⟨B + 1, 0, none⟩) (by simp; omega)).trans h5, (hb.cell (p := ⟨B + 1, 1, none⟩) (by simp; omega)).trans h6⟩,
    (hb.cell (p := ⟨w.heap.size, 2, none⟩) h2).trans h7, h8.keep hb, h9.trans (hb.mono h9.size)⟩

theorem refAt_start {w w4 : World} {A5 : Option Addr} {c5 : Nat} {P : List Int} {j : Nat} {x k2 : Int} (h0 : w.heap.size < w4.heap.size) (h7 : w4.cell? ⟨w.heap.size, 2, none⟩ = some (.int .u16 k2)) (h8 : Arr w4 A5 (P.map (Value.int .u64))) (h9 : Below w.heap.size w w4) :
    RefAt w w4.heap.size A5 c5 P j x k2 ((w4.alloc (.cells #[.slice A5 P.length c5, .int .i64 0] 42)).alloc (.cells #[.int .i64 j, .int .u64 x] 29)) := by
  refine ⟨by simp, by simp; omega, ⟨?_, ?_⟩, ⟨?_, ?_⟩, ?_, (h8.alloc _).alloc _, (h9.alloc h9.size _).alloc (by simp; omega) _⟩
  · exact (World.cell?_alloc_lt _ _ _ (by simp)).trans (World.cell?_alloc_at _ 42 _ 0 rfl)
  · exact (World.cell?_alloc_lt _ _ _ (by simp)).trans (World.cell?_alloc_at _ 42 _ 1 rfl)
  · exact World.cell?_alloc_at _ 29 _ 0 (by simp)
  · exact World.cell?_alloc_at _ 29 _ 1 (by simp)
  · exact (World.cell?_alloc_lt _ _ _ (by simp; omega)).trans ((World.cell?_alloc_lt _ _ _ (by simp; omega)).trans h7)

end Dg
end Go.Proofs.Ytgjmhddekggilaa
