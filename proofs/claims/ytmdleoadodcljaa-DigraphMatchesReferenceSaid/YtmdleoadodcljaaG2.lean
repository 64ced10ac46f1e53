/- Memory that a call makes: a block of cells told by a function; lists of lists as they are built; a slice of the call's own that begins anywhere in its block. -/
import Derived.Test.YtmdleoadodcljaaG0
import Derived.Deep.OwnRows
import Derived.ArgAppend
namespace Go.Proofs.Ytmdleoadodcljaa
open Go.RowKit Sl Fr
namespace Gp
set_option linter.unusedVariables false

/-- Block N has n cells, none frozen, cell i holding F i. -/
structure CellsV (w : World) (N n : Nat) (F : Nat → Value) : Prop where
  lt : N < w.heap.size
  cell : ∀ i, i < n → w.cell? ⟨N, i, none⟩ = some (F i)
  mark : ∀ i, i < n → w.frozen? ⟨N, i, none⟩ = false
section
variable {w w' : World} {N n : Nat} {F G : Nat → Value}
theorem CellsV.keep (h : CellsV w N n F) (hb : Below w.heap.size w w') : CellsV w' N n F :=
  ⟨Nat.lt_of_lt_of_le h.lt hb.size, fun i hi => (hb.cell (p := ⟨N, i, none⟩) h.lt).trans (h.cell i hi), fun i hi => (hb.frozen (p := ⟨N, i, none⟩) h.lt).trans (h.mark i hi)⟩
theorem CellsV.congr (h : CellsV w N n F) (e : ∀ i, i < n → F i = G i) : CellsV w N n G := ⟨h.lt, fun i hi => (h.cell i hi).trans (congrArg some (e i hi)), h.mark⟩
theorem CellsV.set (h : CellsV w N n F) {i : Nat} (hi : i < n) {v : Value} (e : G i = v) (e' : ∀ j, j ≠ i → G j = F j) : CellsV (w.setCell ⟨N, i, none⟩ v) N n G :=
  ⟨by simpa using h.lt, fun j hj => by
    by_cases hij : j = i
    · subst hij; rw [e]; exact World.cell?_setCell_same _ _ _ (h.cell j hj)
    · rw [e' j hij]
      exact (World.cell?_setCell_other _ _ _ _ (by intro e; have := congrArg Addr.off e; simp at this; omega)).trans (h.cell j hj), fun j hj => by rw [World.frozen?_setCell]; exact h.mark j hj⟩
theorem CellsV.far (h : CellsV w N n F) {a : Addr} (ha : a.block ≠ N) (v : Value) : CellsV (w.setCell a v) N n F :=
  ⟨by simpa using h.lt, fun j hj => (World.cell?_setCell_other _ _ _ _ (by intro e; exact ha (congrArg Addr.block e))).trans (h.cell j hj), fun j hj => by rw [World.frozen?_setCell]; exact h.mark j hj⟩
theorem CellsV.grown {row : Option Nat} (h : CellsV w N n F) (hg : w.grownBy w' row) (hne : some N ≠ row) : CellsV w' N n F :=
  ⟨Nat.lt_of_lt_of_le h.lt hg.size, fun i hi => (World.cell?_of_block (hg.block N h.lt hne)).trans (h.cell i hi), fun i hi => (World.frozen?_of_block (hg.block N h.lt hne)).trans (h.mark i hi)⟩
end
theorem CellsV.made (w : World) (z : Value) (n : Nat) (t : TypeId) : CellsV (w.alloc (.cells (madeCells #[z] n) t)) w.heap.size n (fun _ => z) :=
  have h := World.rowIs_made w z n t
  ⟨by simp, fun i hi => h.cell hi, fun i _ => h.frozen i⟩
theorem CellsV.row {w : World} {N n base : Nat} {F : Nat → Value} {l : List Nat} (h : CellsV w N n F) (hb : base ≤ N) (hl : l.length ≤ n) (e : ∀ (i v : Nat), l[i]? = some v → F i = .int .i64 (v : Int)) : Row w base (some ⟨N, 0, none⟩) l := fun _ =>
  ⟨N, 0, rfl, hb, h.lt, fun j u hu => by
    rw [nv, List.getElem?_map, Option.map_eq_some_iff] at hu
    obtain ⟨v, hv, rfl⟩ := hu
    rw [Nat.zero_add, h.cell j (by have := get_lt hv; omega), e j v hv]⟩
theorem heap_new_at {w : World} {o : Obj} {B : Nat} (h : w.heap.size = B) : (w.alloc o).drew.heap[B]? = some o := by subst h; exact heap_alloc_new w o
theorem heap_new_at' {w : World} {o : Obj} {B : Nat} (h : w.heap.size = B) : (w.alloc o).heap[B]? = some o := by subst h; exact heap_alloc_new w o
theorem cell_new_at {w : World} {x : Value} {t : TypeId} {B : Nat} (h : w.heap.size = B) : (w.alloc (.cells #[x] t)).cell? ⟨B, 0, none⟩ = some x := by subst h; exact World.cell?_alloc_at _ _ _ 0 rfl
/-- A function changed at one place. -/
def up {α : Type} (f : Nat → α) (i : Nat) (v : α) : Nat → α := fun j => if j = i then v else f j
theorem up_same {α : Type} (f : Nat → α) (i : Nat) (v : α) : up f i v i = v := if_pos rfl
theorem up_ne {α : Type} (f : Nat → α) {i j : Nat} (v : α) (h : j ≠ i) : up f i v j = f j := if_neg h

/-- These slices read as these lists. -/
def Hdrs (w : World) (base : Nat) (hs : List Value) (rows : List (List Nat)) : Prop := hs.length = rows.length ∧ ∀ (v : Nat) (l : List Nat), rows[v]? = some l → ∃ A c, hs[v]? = some (.slice A l.length c) ∧ l.length ≤ c ∧ Row w base A l
def Rows (w : World) (base : Nat) (A : Option Addr) (rows : List (List Nat)) : Prop := ∃ hs, Hdrs w base hs rows ∧ ArrF w base A hs
theorem Hdrs.keep {w w' : World} {base : Nat} {hs : List Value} {rows : List (List Nat)} (h : Hdrs w base hs rows) (hb : Below w.heap.size w w') : Hdrs w' base hs rows :=
  ⟨h.1, fun v l hl => by obtain ⟨A, c, h1, h2, h3⟩ := h.2 v l hl; exact ⟨A, c, h1, h2, h3.keep hb⟩⟩
theorem Rows.keep {w w' : World} {base : Nat} {A : Option Addr} {rows : List (List Nat)} (h : Rows w base A rows) (hb : Below w.heap.size w w') : Rows w' base A rows := by
  obtain ⟨hs, h1, h2⟩ := h
  exact ⟨hs, h1.keep hb, ArrF.keep h2 hb⟩
theorem Rows.mono {w : World} {base base' : Nat} {A : Option Addr} {rows : List (List Nat)} (h : Rows w base A rows) (hb : base' ≤ base) : Rows w base' A rows := by
  obtain ⟨hs, h1, h2⟩ := h
  exact ⟨hs, ⟨h1.1, fun v l hl => by obtain ⟨A, c, h3, h4, h5⟩ := h1.2 v l hl; exact ⟨A, c, h3, h4, h5.mono hb⟩⟩, ArrF.mono h2 hb⟩
theorem Rows.open {w : World} {base : Nat} {A : Option Addr} {rows : List (List Nat)} (h : Rows w base A rows) : ∃ b o, rows ≠ [] → A = some ⟨b, o, none⟩ ∧ base ≤ b ∧ b < w.heap.size ∧
    ∀ (v : Nat) (l : List Nat), rows[v]? = some l → ∃ A' c', w.cell? ⟨b, o + v, none⟩ = some (.slice A' l.length c') ∧ l.length ≤ c' ∧ Row w base A' l := by
  obtain ⟨hs, h1, h2⟩ := h
  by_cases hl : rows = []
  · exact ⟨0, 0, fun h' => absurd hl h'⟩
  · obtain ⟨b, o, e1, e2, e3, e4⟩ := h2 (by intro e; subst e; have := h1.1; simp at this; exact hl (List.eq_nil_of_length_eq_zero this.symm))
    refine ⟨b, o, fun _ => ⟨e1, e2, e3, fun v l hv => ?_⟩⟩
    obtain ⟨A', c', h3, h4, h5⟩ := h1.2 v l hv
    exact ⟨A', c', e4 v _ h3, h4, h5⟩
/-- A list of lists is given back. -/
def GiveR (W : World) (rows : List (List Nat)) (e : Ending) (w' : World) : Prop := ∃ A c, e = .returned (.slice A rows.length c) ∧ rows.length ≤ c ∧ Rows w' W.heap.size A rows ∧ Below W.heap.size W w'

/-- A list of lists that is being built: block N holds the slices; each is empty or a row of its own. -/
structure Nest (w : World) (N base : Nat) (hs : Nat → Value) (rows : List (List Nat)) : Prop where
  box : CellsV w N rows.length hs
  lt : N < base
  row : ∀ (v : Nat) (l : List Nat), rows[v]? = some l → w.ownsRow base 3 1 (hs v) l.length (nv l)
  apart : ∀ u v, u < rows.length → v < rows.length → u ≠ v → (hs u).ownBlock = none ∨ (hs u).ownBlock ≠ (hs v).ownBlock
section
variable {w w' : World} {N base : Nat} {hs : Nat → Value} {rows : List (List Nat)}
theorem Nest.start (w : World) (n : Nat) (t : TypeId) (base : Nat) (hb : w.heap.size < base) : Nest (w.alloc (.cells (madeCells #[.slice none 0 0] n) t)) w.heap.size base (fun _ => .slice none 0 0) (List.replicate n []) :=
  ⟨by rw [List.length_replicate]; exact CellsV.made w _ n t, hb, fun v l hl => by
    rw [List.getElem?_replicate] at hl
    split at hl
    · cases hl; exact World.ownsRow_nil _ _ _ _
    · exact absurd hl (by simp), fun _ _ _ _ _ => .inl rfl⟩
theorem Nest.keep (h : Nest w N base hs rows) (hb : Below w.heap.size w w') : Nest w' N base hs rows :=
  ⟨h.box.keep hb, h.lt, fun v l hl => row_keep (h.row v l hl) hb, h.apart⟩
theorem Nest.own (h : Nest w N base hs rows) {v : Nat} {l : List Nat} (hl : rows[v]? = some l) : ∀ g, (hs v).ownBlock = some g → base ≤ g ∧ g < w.heap.size := (h.row v l hl).lt
/-- An element more in one of them. -/
theorem Nest.append {w1 : World} (h : Nest w N base hs rows) {v : Nat} {l : List Nat} (hl : rows[v]? = some l) {x g c : Nat} (hown : w1.ownsRow base 3 1 (.slice (some ⟨g, 0, none⟩) (l.length + 1) c) (l.length + 1) (nv l ++ [.int .i64 (x : Int)])) (hg : w.grownBy w1 (hs v).ownBlock)
    (hat : (hs v).ownBlock = some g ∨ w.heap.size ≤ g) (hlt : g < w1.heap.size) :
    Nest (w1.setCell ⟨N, v, none⟩ (.slice (some ⟨g, 0, none⟩) (l.length + 1) c)) N base (up hs v (.slice (some ⟨g, 0, none⟩) (l.length + 1) c)) (rows.set v (l ++ [x])) := by
  have hv := get_lt hl
  have hN := h.lt
  have hNr : some N ≠ (hs v).ownBlock := fun e => by have := h.own hl N e.symm; omega
  refine ⟨?_, h.lt, fun u m hm => ?_, fun u y hu hy huy => ?_⟩
  · rw [List.length_set]
    exact (h.box.grown hg hNr).set hv (up_same _ _ _) (fun j hj => up_ne _ _ hj)
  · by_cases huv : u = v
    · subst huv
      rw [List.getElem?_set_self hv] at hm
      cases hm
      rw [up_same]
      refine ownsRow_setCell_below ?_ (a := ⟨N, u, none⟩) h.lt _
      rw [nv_append, List.length_append]
      exact hown
    · rw [List.getElem?_set_ne (Ne.symm huv)] at hm
      rw [up_ne _ _ huv]
      refine ownsRow_setCell_below ?_ (a := ⟨N, v, none⟩) h.lt _
      exact (h.row u m hm).kept hg (h.apart u v (get_lt hm) hv huv)
  · rw [List.length_set] at hu hy
    have key : ∀ z, z < rows.length → z ≠ v → (hs z).ownBlock = none ∨ (hs z).ownBlock ≠ some g := fun z hz hzv => by
      rcases hat with hat | hat
      · rw [← hat]; exact h.apart z v hz hv hzv
      · cases hb : (hs z).ownBlock with
        | none => exact .inl rfl
        | some g' =>
          obtain ⟨m, hm⟩ := get_ex hz
          have := h.own hm g' hb
          exact .inr (by simp; omega)
    by_cases hu' : u = v
    · subst hu'
      rw [up_same, up_ne _ _ (Ne.symm huy)]
      rcases key y hy (Ne.symm huy) with hk | hk
      · exact .inr (by rw [hk]; simp [Value.ownBlock])
      · exact .inr (fun e => hk e.symm)
    · rw [up_ne _ _ hu']
      by_cases hy' : y = v
      · subst hy'
        rw [up_same]
        exact key u hu hu'
      · rw [up_ne _ _ hy']
        exact h.apart u y hu hy huy
/-- .. read. -/
theorem Nest.reads (h : Nest w N base hs rows) {b0 : Nat} (hb : b0 ≤ N) : Rows w b0 (some ⟨N, 0, none⟩) rows := by
  refine ⟨(List.range rows.length).map hs, ⟨by simp, fun v l hl => ?_⟩, fun _ => ⟨N, 0, rfl, hb, h.box.lt, fun j u hu => ?_⟩⟩
  · obtain ⟨A, c, h1, h2, h3, h4⟩ := Row.own (h.row v l hl)
    refine ⟨A, c, ?_, h2, h4.mono (by have := h.lt; omega)⟩
    rw [List.getElem?_map, List.getElem?_range (get_lt hl), Option.map_some, h1]
  · rw [List.getElem?_map, Option.map_eq_some_iff] at hu
    obtain ⟨i, hi, rfl⟩ := hu
    have hj : j < rows.length := by have := get_lt hi; simpa using this
    rw [List.getElem?_range hj] at hi
    cases hi
    rw [Nat.zero_add]
    exact h.box.cell j hj
end

end Gp
end Go.Proofs.Ytmdleoadodcljaa
