/- A slice of the call's own that begins anywhere in its block (a queue: 'q = q[1:]', 'q = append(q, x)'). -/
import Derived.Test.YtmdleoadodcljaaG2
namespace Go.Proofs.Ytmdleoadodcljaa
open Go.RowKit Sl Fr
namespace Gp
set_option linter.unusedVariables false

/-- The slice of xs.length cells at offset off of block b, with room up to cap. -/
structure Tail (w : World) (base b off cap : Nat) (xs : List Value) : Prop where
  low : base ≤ b
  lt : b < w.heap.size
  le : xs.length ≤ cap
  cell : ∀ j u, xs[j]? = some u → w.cell? ⟨b, off + j, none⟩ = some u
  room : ∀ j, j < cap → (w.cell? ⟨b, off + j, none⟩).isSome = true ∧ w.frozen? ⟨b, off + j, none⟩ = false
section
variable {w w' : World} {base b off cap : Nat} {xs : List Value}
theorem Tail.keep (h : Tail w base b off cap xs) (hb : Below w.heap.size w w') : Tail w' base b off cap xs :=
  ⟨h.low, Nat.lt_of_lt_of_le h.lt hb.size, h.le, fun j u hu => (hb.cell (p := ⟨b, off + j, none⟩) h.lt).trans (h.cell j u hu), fun j hj => by rw [hb.cell (p := ⟨b, off + j, none⟩) h.lt, hb.frozen (p := ⟨b, off + j, none⟩) h.lt]; exact h.room j hj⟩
theorem Tail.far (h : Tail w base b off cap xs) {a : Addr} (ha : a.block ≠ b) (v : Value) : Tail (w.setCell a v) base b off cap xs :=
  ⟨h.low, by simpa using h.lt, h.le, fun j u hu => (World.cell?_setCell_other _ _ _ _ (by intro e; exact ha (congrArg Addr.block e))).trans (h.cell j u hu), fun j hj => by rw [World.frozen?_setCell, World.cell?_setCell_other _ _ _ _ (by intro e; exact ha (congrArg Addr.block e))]; exact h.room j hj⟩
theorem Tail.drop1 {x : Value} (h : Tail w base b off cap (x :: xs)) : Tail w base b (off + 1) (cap - 1) xs :=
  have hl := h.le
  ⟨h.low, h.lt, by simp at hl; omega, fun j u hu => by rw [Nat.add_assoc, Nat.add_comm 1 j]; exact h.cell (j + 1) u (by simpa using hu), fun j hj => by rw [Nat.add_assoc, Nat.add_comm 1 j]; exact h.room (j + 1) (by omega)⟩
theorem Tail.drop' {x : Value} (h : Tail w base b off cap (x :: xs)) {off2 : Nat} (h2 : cap ≠ 1 → off2 = off + 1) : Tail w base b off2 (cap - 1) xs := by
  by_cases hc : cap = 1
  · subst hc
    have hl := h.le
    obtain rfl : xs = [] := List.eq_nil_of_length_eq_zero (by simp at hl; simpa using hl)
    exact ⟨h.low, h.lt, Nat.zero_le _, fun j u hu => by simp at hu, fun j hj => by omega⟩
  · rw [h2 hc]; exact h.drop1
/-- q[1:]: where it begins is not told if nothing is left of the room. -/
theorem slice_one (b off m cap : Nat) (hm : m + 1 ≤ cap) : ∃ off2 : Nat, (cap ≠ 1 → off2 = off + 1) ∧ ∀ w' : World, (Instr.sliceAt 26 (.slice (some ⟨b, off, none⟩) (m + 1) cap) (some (.int .i64 1)) none none).run Try.prog w' = .ok (.slice (some ⟨b, off2, none⟩) m (cap - 1)) w' := by
  have h1 : (1 : Int) ≤ (m : Int) + 1 := by omega
  have h2 : ¬ ((m : Int) + 1 < 1) := by omega
  by_cases hc : cap = 1
  · subst hc
    obtain rfl : m = 0 := by omega
    exact ⟨off, fun h => absurd rfl h, fun w' => by go_simp⟩
  · refine ⟨off + 1, fun _ => rfl, fun w' => ?_⟩
    go_simp
theorem Tail.of_own {g n c : Nat} (h : w.ownsRow base 3 1 (.slice (some ⟨g, 0, none⟩) n c) n xs) : Tail w base g 0 c xs := by
  have hl := h.1
  rcases h.2 with ⟨hv, _⟩ | ⟨g', c', cur, hv, h2, h3, h4, h5, h6, h7⟩
  · cases hv
  · cases hv
    refine ⟨h2, (Array.getElem?_eq_some_iff.1 h3).1, by omega, fun j u hu => ?_, fun j hj => ⟨?_, ?_⟩⟩
    · rw [Nat.zero_add, h.cellAt j (by have := get_lt hu; omega)]; exact hu
    · rw [Nat.zero_add]
      have : j < cur.size := by omega
      simp [World.cell?, h3, this]
    · exact h.frozenAt _
theorem Tail.new (w : World) (x : Value) (hb : base ≤ w.heap.size) : Tail (w.alloc (.cells #[x] 3)) base w.heap.size 0 1 [x] :=
  ⟨hb, by simp, Nat.le_refl _, fun j u hu => by
    have hj := get_lt hu
    obtain rfl : j = 0 := by simpa using hj
    simp only [List.getElem?_cons_zero, Option.some.injEq] at hu
    subst hu
    exact World.cell?_alloc_at _ _ _ 0 rfl, fun j hj => by
    obtain rfl : j = 0 := by omega
    exact ⟨by rw [World.cell?_alloc_at _ _ _ 0 rfl]; rfl, by simp⟩⟩
end
section
variable {P : Program}
/-- One element more. -/
theorem run_append_tail (w : World) (base : Nat) (t ty : TypeId) (i : TypeInfo) (z : Value) (bytes : Nat) (ht : P.underlying t = some (.slice 3)) (hi : P.info? 3 = some i) (hz : i.zero = some z) (hsize : i.size = 1) (hby : i.bytes = bytes) (hzs : z.cells.size = 1)
    {b off cap : Nat} {xs : List Value} (h : Tail w base b off cap xs) (hbase : base ≤ w.heap.size) (ad : Addr) (c : Nat) (x : Value) (hnew : w.cell? ad = some x) (hx : x.oneCell' = true) (h63 : xs.length + 1 ≤ maxLen) (hbytes : (xs.length + 1) * bytes ≤ 140737488355328) :
    ∃ b' off' cap' w', (Builtin.append_ #[t, t] ty #[.slice (some ⟨b, off, none⟩) xs.length cap, .slice (some ad) 1 c]).run P w = .ok (.slice (some ⟨b', off', none⟩) (xs.length + 1) cap') w' ∧
      Tail w' base b' off' cap' (xs ++ [x]) ∧ w.grownBy w' (some b) ∧ (b' = b ∨ w.heap.size ≤ b') := by
  have hnews : ∀ j u, [x][j]? = some u → w.cell? (ad.add j) = some u := fun j u hu => by
    have hj := get_lt hu
    obtain rfl : j = 0 := by simpa using hj
    simp only [List.getElem?_cons_zero, Option.some.injEq] at hu
    subst hu
    exact hnew
  by_cases hroom : xs.length + 1 ≤ cap
  · have hr := run_append_room_cells (P := P) w t ty 3 i ht hi b off xs.length cap ad 1 c [x] (by rw [hsize]; rfl) hnews (by simpa using hx) hroom
      (fun j hj => by obtain rfl : j = 0 := by simpa using hj
                      rw [hsize]; exact (h.room (xs.length * 1) (by omega)).1)
      (fun j hj => by obtain rfl : j = 0 := by simpa using hj
                      rw [hsize]; exact (h.room (xs.length * 1) (by omega)).2)
    rw [hsize, Nat.mul_one] at hr
    have e : w.setCells b (off + xs.length) [x] = w.setCell ⟨b, off + xs.length, none⟩ x := rfl
    rw [e] at hr
    refine ⟨b, off, cap, _, hr, ⟨h.low, by simpa using h.lt, by simpa using hroom, fun j u hu => ?_, fun j hj => ?_⟩, ⟨rfl, rfl, rfl, by simp, fun k hk hne => ?_⟩, .inl rfl⟩
    · by_cases hj : j < xs.length
      · rw [List.getElem?_append_left hj] at hu
        exact (World.cell?_setCell_other _ _ _ _ (by intro e; have := congrArg Addr.off e; simp at this; omega)).trans (h.cell j u hu)
      · have hj2 := get_lt hu
        obtain rfl : j = xs.length := by simp at hj2; omega
        rw [List.getElem?_append_right (Nat.le_refl _), Nat.sub_self, List.getElem?_cons_zero] at hu
        cases hu
        obtain ⟨u0, hu0⟩ := Option.isSome_iff_exists.1 (h.room xs.length (by omega)).1
        exact World.cell?_setCell_same _ _ _ hu0
    · obtain ⟨h1, h2⟩ := h.room j hj
      rw [World.frozen?_setCell]
      refine ⟨?_, h2⟩
      by_cases hj' : j = xs.length
      · subst hj'
        obtain ⟨u0, hu0⟩ := Option.isSome_iff_exists.1 h1
        rw [World.cell?_setCell_same _ _ _ hu0]; rfl
      · rw [World.cell?_setCell_other _ _ _ _ (by intro e; have := congrArg Addr.off e; simp at this; omega)]; exact h1
    · exact Below.heap_setCell _ _ _ _ (fun e => hne (by rw [e]))
  · obtain ⟨v', w', hr, h1, h2⟩ := run_append_arg_grows (P := P) w t ty 3 i z 1 bytes ht hi hz hsize hby hzs (by decide) ⟨b, off, none⟩ xs.length cap xs (by simp) (fun j u hu => by rw [Addr.add_lit]; exact h.cell j u hu) ad 1 c [x] rfl hnews (by omega) h63 hbytes
    obtain ⟨g, cap', rfl, hg, hlt⟩ := h1.form (by omega)
    have ht := Tail.of_own h1
    exact ⟨g, 0, cap', w', hr, ⟨by omega, ht.lt, ht.le, ht.cell, ht.room⟩, ⟨h2.os, h2.tape, h2.output, h2.size, fun k hk _ => h2.block k hk (by simp)⟩, .inr hg⟩
theorem wpList_append_tail (w : World) {ops : Array Oper} {rest : List Oper} {o : Oper} {a : Act} {Q : Exit → Act → World → Prop} (hgd : o.guard = none) (s x : Operand) (t : TypeId)
    (ho : o.op = .call { callee := .builtin .append, args := #[s, x], argTypes := #[t, t] }) (base : Nat)
    (i : TypeInfo) (z : Value) (bytes : Nat) (ht : P.underlying t = some (.slice 3)) (hi : P.info? 3 = some i) (hz : i.zero = some z) (hsize : i.size = 1) (hby : i.bytes = bytes) (hzs : z.cells.size = 1)
    {b off cap n : Nat} {xs : List Value} (hn : xs.length = n) (hs : a.eval s = .slice (some ⟨b, off, none⟩) n cap) (h : Tail w base b off cap xs) (hbase : base ≤ w.heap.size) (ad : Addr) (c : Nat) (u : Value) (hx : a.eval x = .slice (some ad) 1 c) (hnew : w.cell? ad = some u) (hu : u.oneCell' = true) (h63 : n + 1 ≤ maxLen) (hbytes : (n + 1) * bytes ≤ 140737488355328)
    (hK : ∀ b' off' cap' w', Tail w' base b' off' cap' (xs ++ [u]) → w.grownBy w' (some b) → (b' = b ∨ w.heap.size ≤ b') → wpList P ops Q rest (a.put o.dst (.slice (some ⟨b', off', none⟩) (n + 1) cap')) w') : wpList P ops Q (o :: rest) a w := by
  subst hn
  refine wpList_plain hgd fun K hK' => ?_
  obtain ⟨b', off', cap', w', hrun, r1, r2, r3⟩ := run_append_tail (P := P) w base t o.type i z bytes ht hi hz hsize hby hzs h hbase ad c u hnew hu h63 hbytes
  unfold Oper.wp
  simp [execOp, ho, resolve, invoke, builtin, hs, hx, hrun, Result.andThen]
  exact hK' _ _ (hK b' off' cap' w' r1 r2 r3)
end

end Gp
end Go.Proofs.Ytmdleoadodcljaa
