/- Two structures that two calls return, each stored into a block of its own: whatever the order of the calls and the blocks. -/
import Derived.Test.YtgjmhddekggilaaX5
namespace Go.Proofs.Ytgjmhddekggilaa
open Go.RowKit
namespace Dg

def PQ (W : World) (P : List Int) (E : Int) (v13 v14 : Value) (wx : World) : Prop :=
  ∃ g h A5 c5 A6 c6, v13 = .pointer (some ⟨g, 0, none⟩) ∧ v14 = .pointer (some ⟨h, 0, none⟩) ∧ (g < wx.heap.size ∧ h < wx.heap.size) ∧ (P.length ≤ c5 ∧ P.length ≤ c6) ∧
    (wx.cell? ⟨g, 0, none⟩ = some (.slice A5 P.length c5) ∧ wx.cell? ⟨g, 1, none⟩ = some (.int .i64 E)) ∧ (wx.cell? ⟨h, 0, none⟩ = some (.slice A6 P.length c6) ∧ wx.cell? ⟨h, 1, none⟩ = some (.int .i64 E)) ∧
    Arr wx A5 (P.map (Value.int .u64)) ∧ Arr wx A6 (P.map (Value.int .u64)) ∧ Below W.heap.size W wx

theorem PQ.turn {W : World} {P : List Int} {E : Int} {v13 v14 : Value} {wx : World} (h : PQ W P E v14 v13 wx) : PQ W P E v13 v14 wx := by
  obtain ⟨g, h, A5, c5, A6, c6, e1, e2, ⟨s1, s2⟩, ⟨n1, n2⟩, k1, k2, a1, a2, b⟩ := h
  exact ⟨h, g, A6, c6, A5, c5, e2, e1, ⟨s2, s1⟩, ⟨n2, n1⟩, k2, k1, a2, a1, b⟩

section
variable {X w6 : World} {P : List Int} {E : Int} {A5 A6 : Option Addr} {c5 c6 l5 u5 l6 u6 b b' : Nat}

theorem pq_aa (hX : Below X.heap.size X w6) (h5 : ArrB w6 l5 u5 A5 (P.map (Value.int .u64))) (h6 : ArrB w6 l6 u6 A6 (P.map (Value.int .u64))) (hc5 : P.length ≤ c5) (hc6 : P.length ≤ c6) :
    PQ X P E (.pointer (some ⟨w6.heap.size, 0, none⟩)) (.pointer (some ⟨w6.heap.size + 1, 0, none⟩)) ((w6.alloc (.cells #[.slice A5 P.length c5, .int .i64 E] 42)).alloc (.cells #[.slice A6 P.length c6, .int .i64 E] 42)) :=
  ⟨_, _, A5, c5, A6, c6, rfl, rfl, ⟨by simp; omega, by simp⟩, ⟨hc5, hc6⟩,
    ⟨(World.cell?_alloc_lt _ _ _ (by simp)).trans (World.cell?_alloc_at _ 42 _ 0 rfl), (World.cell?_alloc_lt _ _ _ (by simp)).trans (World.cell?_alloc_at _ 42 _ 1 rfl)⟩,
    ⟨World.cell?_alloc_at _ 42 _ 0 (by simp), World.cell?_alloc_at _ 42 _ 1 (by simp)⟩, ((h5.alloc _).alloc _).arr, ((h6.alloc _).alloc _).arr, (hX.alloc hX.size _).alloc (by have := hX.size; simp; omega) _⟩

theorem pq_sa (hX : Below X.heap.size X w6) (h5 : ArrB w6 l5 u5 A5 (P.map (Value.int .u64))) (h6 : ArrB w6 l6 u6 A6 (P.map (Value.int .u64))) (hc5 : P.length ≤ c5) (hc6 : P.length ≤ c6)
    (hb : X.heap.size ≤ b) (hb' : b < w6.heap.size) (z0 : w6.cell? ⟨b, 0, none⟩ = some (.slice none 0 0)) (z1 : w6.cell? ⟨b, 1, none⟩ = some (.int .i64 0)) (d5 : b < l5 ∨ u5 ≤ b) (d6 : b < l6 ∨ u6 ≤ b) :
    PQ X P E (.pointer (some ⟨b, 0, none⟩)) (.pointer (some ⟨w6.heap.size, 0, none⟩)) (((w6.setCell ⟨b, 0, none⟩ (.slice A5 P.length c5)).setCell ⟨b, 1, none⟩ (.int .i64 E)).alloc (.cells #[.slice A6 P.length c6, .int .i64 E] 42)) :=
  ⟨_, _, A5, c5, A6, c6, rfl, rfl, ⟨by simp; omega, by simp⟩, ⟨hc5, hc6⟩,
    ⟨(World.cell?_alloc_lt _ _ _ (by simpa using hb')).trans ((World.cell?_setCell_other _ _ _ _ (by simp)).trans (World.cell?_setCell_same _ _ _ z0)),
      (World.cell?_alloc_lt _ _ _ (by simpa using hb')).trans (World.cell?_setCell_same _ _ _ ((World.cell?_setCell_other _ _ _ _ (by simp)).trans z1))⟩,
    ⟨World.cell?_alloc_at _ 42 _ 0 (by simp), World.cell?_alloc_at _ 42 _ 1 (by simp)⟩, (((h5.set (p := ⟨b, 0, none⟩) d5 _).set (p := ⟨b, 1, none⟩) d5 _).alloc _).arr, (((h6.set (p := ⟨b, 0, none⟩) d6 _).set (p := ⟨b, 1, none⟩) d6 _).alloc _).arr,
    ((hX.setCell (p := ⟨b, 0, none⟩) hb _).setCell (p := ⟨b, 1, none⟩) hb _).alloc (by simpa using hX.size) _⟩

theorem pq_ss (hX : Below X.heap.size X w6) (h5 : ArrB w6 l5 u5 A5 (P.map (Value.int .u64))) (h6 : ArrB w6 l6 u6 A6 (P.map (Value.int .u64))) (hc5 : P.length ≤ c5) (hc6 : P.length ≤ c6)
    (hb : X.heap.size ≤ b) (hb' : b < w6.heap.size) (z0 : w6.cell? ⟨b, 0, none⟩ = some (.slice none 0 0)) (z1 : w6.cell? ⟨b, 1, none⟩ = some (.int .i64 0)) (d5 : b < l5 ∨ u5 ≤ b) (d6 : b < l6 ∨ u6 ≤ b)
    (gb : X.heap.size ≤ b') (gb' : b' < w6.heap.size) (y0 : w6.cell? ⟨b', 0, none⟩ = some (.slice none 0 0)) (y1 : w6.cell? ⟨b', 1, none⟩ = some (.int .i64 0)) (e5 : b' < l5 ∨ u5 ≤ b') (e6 : b' < l6 ∨ u6 ≤ b') (hne : b ≠ b') :
    PQ X P E (.pointer (some ⟨b, 0, none⟩)) (.pointer (some ⟨b', 0, none⟩))
      ((((w6.setCell ⟨b, 0, none⟩ (.slice A5 P.length c5)).setCell ⟨b, 1, none⟩ (.int .i64 E)).setCell ⟨b', 0, none⟩ (.slice A6 P.length c6)).setCell ⟨b', 1, none⟩ (.int .i64 E)) := by
  have f : ∀ (w : World) (u v : Value) (o k : Nat), (w.setCell ⟨b', o, none⟩ u).cell? ⟨b, k, none⟩ = w.cell? ⟨b, k, none⟩ := fun w u _ o k => World.cell?_setCell_far _ _ _ _ (Ne.symm hne)
  have f' : ∀ (w : World) (u v : Value) (o k : Nat), (w.setCell ⟨b, o, none⟩ u).cell? ⟨b', k, none⟩ = w.cell? ⟨b', k, none⟩ := fun w u _ o k => World.cell?_setCell_far _ _ _ _ hne
  refine ⟨_, _, A5, c5, A6, c6, rfl, rfl, ⟨by simpa using hb', by simpa using gb'⟩, ⟨hc5, hc6⟩, ⟨?_, ?_⟩, ⟨?_, ?_⟩, ?_, ?_, ?_⟩
  · exact (f _ _ undef _ _).trans ((f _ _ undef _ _).trans ((World.cell?_setCell_other _ _ _ _ (by simp)).trans (World.cell?_setCell_same _ _ _ z0)))
  · exact (f _ _ undef _ _).trans ((f _ _ undef _ _).trans (World.cell?_setCell_same _ _ _ ((World.cell?_setCell_other _ _ _ _ (by simp)).trans z1)))
  · exact (World.cell?_setCell_other _ _ _ _ (by simp)).trans (World.cell?_setCell_same _ _ _ ((f' _ _ undef _ _).trans ((f' _ _ undef _ _).trans y0)))
  · exact World.cell?_setCell_same _ _ _ ((World.cell?_setCell_other _ _ _ _ (by simp)).trans ((f' _ _ undef _ _).trans ((f' _ _ undef _ _).trans y1)))
  · exact ((((h5.set (p := ⟨b, 0, none⟩) d5 _).set (p := ⟨b, 1, none⟩) d5 _).set (p := ⟨b', 0, none⟩) e5 _).set (p := ⟨b', 1, none⟩) e5 _).arr
  · exact ((((h6.set (p := ⟨b, 0, none⟩) d6 _).set (p := ⟨b, 1, none⟩) d6 _).set (p := ⟨b', 0, none⟩) e6 _).set (p := ⟨b', 1, none⟩) e6 _).arr
  · exact (((hX.setCell (p := ⟨b, 0, none⟩) hb _).setCell (p := ⟨b, 1, none⟩) hb _).setCell (p := ⟨b', 0, none⟩) gb _).setCell (p := ⟨b', 1, none⟩) gb _

end
end Dg
end Go.Proofs.Ytgjmhddekggilaa
