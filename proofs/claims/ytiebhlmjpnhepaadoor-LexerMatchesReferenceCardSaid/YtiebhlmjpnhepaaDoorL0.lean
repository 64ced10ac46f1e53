/- Worlds that come later: all that lay lies unturned; regions whose operations and calls leave such worlds; boxes of two and three cells. -/
import Derived.Test.YtiebhlmjpnhepaaDoorA3
namespace Go.Proofs.YtiebhlmjpnhepaaDoor
open Go.RowKit
namespace Fr
set_option linter.unusedVariables false

/-- A world in which all that lay in w lies as it lay. -/
structure Later (w : World) where
  val : World
  below : Below w.heap.size w val

instance (w : World) : Inhabited (Later w) := ⟨⟨w, Below.refl _ _⟩⟩

theorem Later.cell {w : World} {a : Addr} {v : Value} (hc : w.cell? a = some v) (hb : a.block < w.heap.size) (p : Later w) : p.val.cell? a = some v := (p.below.cell hb).trans hc

/-- .. a region that only reads and calls. -/
theorem wp_region_later {P : Program} {id : Nat} {Q : Exit → Act → World → Prop} {a : Act} {w : World} {l : List Oper} (hm : P.follows .mixedOrders = true) (hB : Region.lexB .any l.toArray = true)
    (h : wpQuiet P l.toArray (fun w' => ∃ p : Later w, w' = p.val) (fun a' => ∀ w', (∃ p : Later w, w' = p.val) → Q .normal a' w') l a) : (Code.region id l.toArray true).wp P Q a w :=
  wp_region_quiet (C := fun w' => ∃ p : Later w, w' = p.val) hm hB ⟨⟨w.drew, (Below.refl _ w).drew⟩, rfl⟩ (by simpa using h)

/-- .. a region whose first n operations only read and call, and whose others come in one order. -/
theorem wp_region_later_tail {P : Program} {id : Nat} {Q : Exit → Act → World → Prop} {a : Act} {w : World} {l : List Oper} (n : Nat) (hm : P.follows .mixedOrders = true) (hB : classTailB .any l n = true)
    (h : wpQuiet P (l.take n).toArray (fun w' => ∃ p : Later w, w' = p.val) (fun a' => ∀ w', (∃ p : Later w, w' = p.val) → wpList P l.toArray Q (l.drop n) a' w') (l.take n) a) : (Code.region id l.toArray true).wp P Q a w :=
  wp_region_class_tail (C := fun w' => ∃ p : Later w, w' = p.val) n hm hB ⟨⟨w.drew, (Below.refl _ w).drew⟩, rfl⟩ h

/-- .. a statement whose order is given, walked as one that leaves it open. -/
theorem wpList_of_quiet {P : Program} {ops : Array Oper} {C : World → Prop} {K : Act → Prop} {R : Act → World → Prop} {Q : Exit → Act → World → Prop} (rest : List Oper) (hK : ∀ a w, C w → K a → wpList P ops Q rest a w) :
    ∀ (l : List Oper) (a : Act) (w : World), C w → wpQuiet P ops C K l a → wpList P ops Q (l ++ rest) a w
  | [], a, w, hw, h => hK a w hw h
  | o :: l, a, w, hw, h => by
    unfold wpQuiet at h
    show wpList P ops Q (o :: (l ++ rest)) a w
    unfold wpList
    split
    · rename_i hwt
      simp only [hwt, if_true] at h
      exact .inl (Oper.wp_of_quiet hw (fun a' w' hw' h' => wpList_of_quiet (R := R) rest hK l a' w' hw' h') h)
    · rename_i hwt
      simp only [hwt] at h
      exact wpList_of_quiet (R := R) rest hK l _ w hw h

theorem wp_region_plain {P : Program} {id : Nat} {Q : Exit → Act → World → Prop} {a : Act} {w : World} {l : List Oper}
    (h : wpQuiet P l.toArray (fun w' => ∃ p : Later w, w' = p.val) (fun a' => ∀ w', (∃ p : Later w, w' = p.val) → Q .normal a' w') l a) : (Code.region id l.toArray false).wp P Q a w := by
  refine wp_region_lit ?_
  have := wpList_of_quiet (P := P) (ops := l.toArray) (R := fun _ _ => True) (Q := Q) [] (fun a' w' hw' h' => h' w' hw') l a w ⟨⟨w, Below.refl _ _⟩, rfl⟩ h
  rwa [List.append_nil] at this
theorem wp_region_plain_tail {P : Program} {id : Nat} {Q : Exit → Act → World → Prop} {a : Act} {w : World} {l : List Oper} (n : Nat)
    (h : wpQuiet P l.toArray (fun w' => ∃ p : Later w, w' = p.val) (fun a' => ∀ w', (∃ p : Later w, w' = p.val) → wpList P l.toArray Q (l.drop n) a' w') (l.take n) a) : (Code.region id l.toArray false).wp P Q a w := by
  refine wp_region_lit ?_
  have := wpList_of_quiet (P := P) (ops := l.toArray) (R := fun _ _ => True) (Q := Q) (l.drop n) (fun a' w' hw' h' => h' w' hw') (l.take n) a w ⟨⟨w, Below.refl _ _⟩, rfl⟩ h
  rwa [List.take_append_drop] at this

theorem later_of {P : Program} {f : FuncId} {args : Array Value} {w : World} {p : Later w} {v : Value} (h : Calls P f args p.val fun e w' => e = .returned v ∧ Below p.val.heap.size p.val w') :
    Calls P f args p.val fun e w'' => e = .returned v ∧ ∃ q : Later w, w'' = q.val :=
  h.mono fun _ w' ⟨he, hb⟩ => ⟨he, ⟨w', p.below.trans (hb.mono p.below.size)⟩, rfl⟩
theorem later_same {P : Program} {f : FuncId} {args : Array Value} {w : World} {p : Later w} {v : Value} (h : Calls P f args p.val fun e w' => e = .returned v ∧ p.val = w') :
    Calls P f args p.val fun e w'' => e = .returned v ∧ ∃ q : Later w, w'' = q.val :=
  h.mono fun _ w' ⟨he, hb⟩ => ⟨he, p, hb.symm⟩

/-- Two cells of a block. -/
structure Box2 (W : World) (b : Nat) (u v : Value) : Prop where
  lt : b < W.heap.size
  c0 : W.cell? ⟨b, 0, none⟩ = some u
  c1 : W.cell? ⟨b, 1, none⟩ = some v
  f0 : W.frozen? ⟨b, 0, none⟩ = false
  f1 : W.frozen? ⟨b, 1, none⟩ = false
/-- Three cells of a block. -/
structure Box3 (W : World) (b : Nat) (u v x : Value) : Prop where
  lt : b < W.heap.size
  c0 : W.cell? ⟨b, 0, none⟩ = some u
  c1 : W.cell? ⟨b, 1, none⟩ = some v
  c2 : W.cell? ⟨b, 2, none⟩ = some x
  f0 : W.frozen? ⟨b, 0, none⟩ = false
  f1 : W.frozen? ⟨b, 1, none⟩ = false
  f2 : W.frozen? ⟨b, 2, none⟩ = false

theorem Box2.keep {W W' : World} {b : Nat} {u v : Value} (h : Box2 W b u v) (hb : Below W.heap.size W W') : Box2 W' b u v :=
  ⟨Nat.lt_of_lt_of_le h.lt hb.size, (hb.cell (p := ⟨b, 0, none⟩) h.lt).trans h.c0, (hb.cell (p := ⟨b, 1, none⟩) h.lt).trans h.c1, (hb.frozen (p := ⟨b, 0, none⟩) h.lt).trans h.f0, (hb.frozen (p := ⟨b, 1, none⟩) h.lt).trans h.f1⟩
theorem Box3.keep {W W' : World} {b : Nat} {u v x : Value} (h : Box3 W b u v x) (hb : Below W.heap.size W W') : Box3 W' b u v x :=
  ⟨Nat.lt_of_lt_of_le h.lt hb.size, (hb.cell (p := ⟨b, 0, none⟩) h.lt).trans h.c0, (hb.cell (p := ⟨b, 1, none⟩) h.lt).trans h.c1, (hb.cell (p := ⟨b, 2, none⟩) h.lt).trans h.c2, (hb.frozen (p := ⟨b, 0, none⟩) h.lt).trans h.f0, (hb.frozen (p := ⟨b, 1, none⟩) h.lt).trans h.f1, (hb.frozen (p := ⟨b, 2, none⟩) h.lt).trans h.f2⟩
theorem Box2.alloc {W : World} {b : Nat} {u v : Value} (h : Box2 W b u v) (o : Obj) : Box2 (W.alloc o) b u v := h.keep ((Below.refl _ W).alloc (Nat.le_refl _) o)
theorem Box3.alloc {W : World} {b : Nat} {u v x : Value} (h : Box3 W b u v x) (o : Obj) : Box3 (W.alloc o) b u v x := h.keep ((Below.refl _ W).alloc (Nat.le_refl _) o)
theorem Box2.new (W : World) (u v : Value) (T : TypeId) : Box2 (W.alloc (.cells #[u, v] T)) W.heap.size u v :=
  ⟨by simp, World.cell?_alloc_at _ T _ 0 rfl, World.cell?_alloc_at _ T _ 1 rfl, by simp, by simp⟩
theorem Box3.new (W : World) (u v x : Value) (T : TypeId) : Box3 (W.alloc (.cells #[u, v, x] T)) W.heap.size u v x :=
  ⟨by simp, World.cell?_alloc_at _ T _ 0 rfl, World.cell?_alloc_at _ T _ 1 rfl, World.cell?_alloc_at _ T _ 2 rfl, by simp, by simp, by simp⟩
theorem Box2.newAt {W : World} {B : Nat} (h : W.heap.size = B) (u v : Value) (T : TypeId) : Box2 (W.alloc (.cells #[u, v] T)) B u v := h ▸ Box2.new W u v T
theorem Box3.newAt {W : World} {B : Nat} (h : W.heap.size = B) (u v x : Value) (T : TypeId) : Box3 (W.alloc (.cells #[u, v, x] T)) B u v x := h ▸ Box3.new W u v x T
theorem Box2.later {W : World} {b : Nat} {u v : Value} (h : Box2 W b u v) : (∀ p : Later W, p.val.cell? ⟨b, 0, none⟩ = some u) ∧ (∀ p : Later W, p.val.cell? ⟨b, 1, none⟩ = some v) :=
  ⟨fun p => (h.keep p.below).c0, fun p => (h.keep p.below).c1⟩
theorem Box3.later {W : World} {b : Nat} {u v x : Value} (h : Box3 W b u v x) : (∀ p : Later W, p.val.cell? ⟨b, 0, none⟩ = some u) ∧ (∀ p : Later W, p.val.cell? ⟨b, 1, none⟩ = some v) ∧ (∀ p : Later W, p.val.cell? ⟨b, 2, none⟩ = some x) :=
  ⟨fun p => (h.keep p.below).c0, fun p => (h.keep p.below).c1, fun p => (h.keep p.below).c2⟩

theorem Box2.inC {W : World} {b : Nat} {u v : Value} (h : Box2 W b u v) (c : Cls W) : (∀ p : In c, p.val.cell? ⟨b, 0, none⟩ = some u) ∧ (∀ p : In c, p.val.cell? ⟨b, 1, none⟩ = some v) :=
  ⟨fun p => (h.keep p.below).c0, fun p => (h.keep p.below).c1⟩
theorem Box3.inC {W : World} {b : Nat} {u v x : Value} (h : Box3 W b u v x) (c : Cls W) : (∀ p : In c, p.val.cell? ⟨b, 0, none⟩ = some u) ∧ (∀ p : In c, p.val.cell? ⟨b, 1, none⟩ = some v) ∧ (∀ p : In c, p.val.cell? ⟨b, 2, none⟩ = some x) :=
  ⟨fun p => (h.keep p.below).c0, fun p => (h.keep p.below).c1, fun p => (h.keep p.below).c2⟩
theorem Box2.lies {W : World} {B : Nat} {u v : Value} {T : TypeId} (h : W.heap[B]? = some (.cells #[u, v] T (0, 0))) : Box2 W B u v :=
  ⟨(Array.getElem?_eq_some_iff.1 h).1, by simp [World.cell?, h], by simp [World.cell?, h], by simp [World.frozen?, h], by simp [World.frozen?, h]⟩
theorem Box3.lies {W : World} {B : Nat} {u v x : Value} {T : TypeId} (h : W.heap[B]? = some (.cells #[u, v, x] T (0, 0))) : Box3 W B u v x :=
  ⟨(Array.getElem?_eq_some_iff.1 h).1, by simp [World.cell?, h], by simp [World.cell?, h], by simp [World.cell?, h], by simp [World.frozen?, h], by simp [World.frozen?, h], by simp [World.frozen?, h]⟩
theorem Box2.far {W : World} {a b i : Nat} {u v : Value} (h : Box2 W b u v) (hab : a ≠ b) (x : Value) : Box2 (W.setCell ⟨a, i, none⟩ x) b u v :=
  ⟨by simpa using h.lt, (World.cell?_setCell_other _ _ _ _ (by intro e; exact hab (congrArg Addr.block e))).trans h.c0, (World.cell?_setCell_other _ _ _ _ (by intro e; exact hab (congrArg Addr.block e))).trans h.c1, (World.frozen?_setCell _ _ _ _).trans h.f0, (World.frozen?_setCell _ _ _ _).trans h.f1⟩
theorem Box2.set {W : World} {b : Nat} {u v : Value} (h : Box2 W b u v) (u' v' : Value) : Box2 ((W.setCell ⟨b, 0, none⟩ u').setCell ⟨b, 1, none⟩ v') b u' v' := by
  have h1 : (W.setCell ⟨b, 0, none⟩ u').cell? ⟨b, 1, none⟩ = some v := (World.cell?_setCell_other _ _ _ _ (by simp)).trans h.c1
  exact ⟨by simpa using h.lt, (World.cell?_setCell_other _ _ _ _ (by simp)).trans (World.cell?_setCell_same _ _ _ h.c0), World.cell?_setCell_same _ _ _ h1, by simpa using h.f0, by simpa using h.f1⟩
theorem Box3.far {W : World} {a b i : Nat} {u v x : Value} (h : Box3 W b u v x) (hab : a ≠ b) (y : Value) : Box3 (W.setCell ⟨a, i, none⟩ y) b u v x :=
  ⟨by simpa using h.lt, (World.cell?_setCell_other _ _ _ _ (by intro e; exact hab (congrArg Addr.block e))).trans h.c0, (World.cell?_setCell_other _ _ _ _ (by intro e; exact hab (congrArg Addr.block e))).trans h.c1, (World.cell?_setCell_other _ _ _ _ (by intro e; exact hab (congrArg Addr.block e))).trans h.c2, (World.frozen?_setCell _ _ _ _).trans h.f0, (World.frozen?_setCell _ _ _ _).trans h.f1, (World.frozen?_setCell _ _ _ _).trans h.f2⟩
theorem Box3.set {W : World} {b : Nat} {u v x : Value} (h : Box3 W b u v x) (u' v' x' : Value) : Box3 (((W.setCell ⟨b, 0, none⟩ u').setCell ⟨b, 1, none⟩ v').setCell ⟨b, 2, none⟩ x') b u' v' x' := by
  have h1 : (W.setCell ⟨b, 0, none⟩ u').cell? ⟨b, 1, none⟩ = some v := (World.cell?_setCell_other _ _ _ _ (by simp)).trans h.c1
  have h2 : ((W.setCell ⟨b, 0, none⟩ u').setCell ⟨b, 1, none⟩ v').cell? ⟨b, 2, none⟩ = some x := (World.cell?_setCell_other _ _ _ _ (by simp)).trans ((World.cell?_setCell_other _ _ _ _ (by simp)).trans h.c2)
  exact ⟨by simpa using h.lt, (World.cell?_setCell_other _ _ _ _ (by simp)).trans ((World.cell?_setCell_other _ _ _ _ (by simp)).trans (World.cell?_setCell_same _ _ _ h.c0)), (World.cell?_setCell_other _ _ _ _ (by simp)).trans (World.cell?_setCell_same _ _ _ h1), World.cell?_setCell_same _ _ _ h2, by simpa using h.f0, by simpa using h.f1, by simpa using h.f2⟩

/-- Two cells are stored. -/
theorem below_set2 {n : Nat} {w W : World} {b : Nat} (h : Below n w W) (hb : n ≤ b) (u v : Value) : Below n w ((W.setCell ⟨b, 0, none⟩ u).setCell ⟨b, 1, none⟩ v) :=
  (h.setCell (p := ⟨b, 0, none⟩) hb u).setCell (p := ⟨b, 1, none⟩) hb v
theorem below_set3 {n : Nat} {w W : World} {b : Nat} (h : Below n w W) (hb : n ≤ b) (u v x : Value) : Below n w (((W.setCell ⟨b, 0, none⟩ u).setCell ⟨b, 1, none⟩ v).setCell ⟨b, 2, none⟩ x) :=
  (below_set2 h hb u v).setCell (p := ⟨b, 2, none⟩) hb x

end Fr
end Go.Proofs.YtiebhlmjpnhepaaDoor
