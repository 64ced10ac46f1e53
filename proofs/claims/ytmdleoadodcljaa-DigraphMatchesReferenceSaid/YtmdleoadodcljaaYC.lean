/- The reference's Components: lists that are built beside a block of marks that is stored into. -/
import Derived.Test.YtmdleoadodcljaaYB
import Derived.Test.YtmdleoadodcljaaG8
namespace Go.Proofs.Ytmdleoadodcljaa
open Go.RowKit Sl Fr
namespace Gp
set_option linter.unusedVariables false

/-- wr is as V but for block D and what is new. -/
structure AtD (V : World) (D : Nat) (wr : World) : Prop where
  size : V.heap.size ≤ wr.heap.size
  block : ∀ b, b < V.heap.size → b ≠ D → wr.heap[b]? = V.heap[b]?
theorem AtD.refl (V : World) (D : Nat) : AtD V D V := ⟨Nat.le_refl _, fun _ _ _ => rfl⟩
theorem AtD.keep {V wr w' : World} {D : Nat} (h : AtD V D wr) (hb : Below V.heap.size wr w') : AtD V D w' :=
  ⟨Nat.le_trans h.size hb.size, fun b hb1 hb2 => (hb.block b hb1).trans (h.block b hb1 hb2)⟩
theorem AtD.set {V wr : World} {D : Nat} (h : AtD V D wr) (i : Nat) (u : Value) : AtD V D (wr.setCell ⟨D, i, none⟩ u) :=
  ⟨by simpa using h.size, fun b hb1 hb2 => (Below.heap_setCell _ _ _ _ hb2).trans (h.block b hb1 hb2)⟩
theorem AtD.cell {V wr : World} {D : Nat} (h : AtD V D wr) {p : Addr} (h1 : p.block < V.heap.size) (h2 : p.block ≠ D) : wr.cell? p = V.cell? p := World.cell?_of_block (h.block _ h1 h2)

/-- A list of lists of the call's own, that lies beside block D. -/
structure ListsB (w : World) (D : Nat) (v : Value) (rows : List (List Nat)) (hs : List Value) : Prop where
  own : w.ownsRow (D - 1) 26 1 v rows.length hs
  ne : v.ownBlock ≠ some D
  hdr : HdrsX w (D + 1) v.ownBlock hs rows
section
variable {w w' V : World} {D : Nat} {v : Value} {rows : List (List Nat)} {hs : List Value}
theorem ListsB.keep (h : ListsB w D v rows hs) (hb : Below w.heap.size w w') : ListsB w' D v rows hs :=
  ⟨row_keep h.own hb, h.ne, h.hdr.map fun _ _ k => k.keep hb⟩
theorem ListsB.lt (h : ListsB w D v rows hs) : ∀ g, v.ownBlock = some g → D - 1 ≤ g ∧ g < w.heap.size := h.own.lt
theorem ListsB.at (h : ListsB V D v rows hs) (ha : AtD V D w) : ListsB w D v rows hs := by
  refine ⟨?_, h.ne, h.hdr.map fun A l k hne => ?_⟩
  · obtain ⟨h1, h2⟩ := h.own
    refine ⟨h1, ?_⟩
    rcases h2 with h2 | ⟨g, cap, cur, hv, hg, hh, r⟩
    · exact .inl h2
    · have hlt : g < V.heap.size := by
        have := (Array.getElem?_eq_some_iff.1 hh).1
        exact this
      refine .inr ⟨g, cap, cur, hv, hg, ?_, r⟩
      rw [ha.block g hlt (fun e => h.ne (by rw [hv, e]; rfl))]
      exact hh
  · obtain ⟨b, o, e1, e2, e3, e4, e5⟩ := k hne
    exact ⟨b, o, e1, e2, e3, Nat.lt_of_lt_of_le e4 ha.size, fun j u hu => (ha.cell (p := ⟨b, o + j, none⟩) e4 (by show b ≠ D; omega)).trans (e5 j u hu)⟩
theorem ListsB.append {w1 : World} {g cap : Nat} (h : ListsB w D v rows hs) (hD : D < w.heap.size) {A : Option Addr} {c : Nat} {l : List Nat} (hc : l.length ≤ c) (hl : RowX w (D + 1) v.ownBlock A l)
    (hown : w1.ownsRow (D - 1) 26 1 (.slice (some ⟨g, 0, none⟩) (rows.length + 1) cap) (rows.length + 1) (hs ++ [.slice A l.length c])) (hg : w.grownBy w1 v.ownBlock) (hat : v.ownBlock = some g ∨ w.heap.size ≤ g) :
    ListsB w1 D (.slice (some ⟨g, 0, none⟩) (rows.length + 1) cap) (rows ++ [l]) (hs ++ [.slice A l.length c]) := by
  have hY : (Value.slice (some ⟨g, 0, none⟩) (rows.length + 1) cap).ownBlock = v.ownBlock ∨ ∀ g', (Value.slice (some ⟨g, 0, none⟩) (rows.length + 1) cap).ownBlock = some g' → w.heap.size ≤ g' := by
    rcases hat with h | h
    · exact .inl (by rw [h]; rfl)
    · refine .inr fun g' hg' => ?_
      simp [Value.ownBlock] at hg'
      omega
  refine ⟨by simpa using hown, ?_, (h.hdr.snoc hc hl).map fun _ _ k => k.grown hg hY⟩
  rcases hat with h2 | h2
  · have := h.ne
    rw [h2] at this
    exact this
  · simp [Value.ownBlock]
    omega
theorem ListsB.give (h : ListsB w D v rows hs) : ∃ A c, v = .slice A rows.length c ∧ rows.length ≤ c ∧ Rows w (D - 1) A rows := by
  obtain ⟨A, c, h1, h2, _, h4, _⟩ := row_forms h.own
  have hh : Hdrs w (D - 1) hs rows := ⟨h.hdr.1, fun v l hl => by obtain ⟨A, c, h1, h2, h3⟩ := h.hdr.2 v l hl; exact ⟨A, c, h1, h2, Row.mono h3.row (by omega)⟩⟩
  exact ⟨A, c, h1, h2, hs, hh, h4⟩
theorem ListsB.start (W : World) (o : Obj) : ListsB ((W.alloc (.cells #[] 26)).alloc o) (W.heap.size + 1) (.slice (some ⟨W.heap.size, 0, none⟩) 0 0) [] [] := by
  have hown0 := World.ownsRow_lit (e := 26) (size := 1) (base := W.heap.size) W #[] 0 (Nat.le_refl _) (by unfold maxLen; omega) rfl
  refine ⟨?_, by simp [Value.ownBlock], HdrsX.nil _ _ _⟩
  rw [Nat.add_sub_cancel]
  exact row_keep hown0 ((Below.refl _ _).alloc (Nat.le_refl _) _)
end
theorem Lists.lit (W : World) : Lists (W.alloc (.cells #[] 26)) W.heap.size (.slice (some ⟨W.heap.size, 0, none⟩) 0 0) [] [] :=
  ⟨World.ownsRow_lit (e := 26) (size := 1) (base := W.heap.size) W #[] 0 (Nat.le_refl _) (by unfold maxLen; omega) rfl, HdrsX.nil _ _ _⟩

end Gp
end Go.Proofs.Ytmdleoadodcljaa
