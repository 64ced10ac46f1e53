/- What component and Components return. -/
import Derived.Test.YtmdleoadodcljaaG6
namespace Go.Proofs.Ytmdleoadodcljaa
open Go.RowKit Sl Fr
namespace Gp
set_option linter.unusedVariables false

set_option maxRecDepth 100000 in
set_option maxHeartbeats 3200000 in
theorem component_any (n s c c2 : Nat) (A B : Option Addr) (es : Dgr.Edges) (w : World) (hA : Rows w 0 A (sucL n es)) (hB : Rows w 0 B (preL n es)) (ok : Dgr.Ok n es) (hs : s < n) (hn : n ≤ 200) (hel : es.length ≤ 2000) :
    Calls Try.prog 36 #[.slice A n c, .slice B n c2, .int .i64 s] w (GiveN w (Dgr.classL n es s)) := by
  obtain ⟨i0, hi0, hz0, hz1, hz2⟩ := parts_of infoInt
  have HO := Lib.hid ok
  have HA := Lib.hid hA
  have HB := Lib.hid hB
  clear ok hA hB
  have hel2 : (Dgr.rev es).length ≤ 2000 := by simpa [Dgr.rev] using hel
  go_enter Try.func36, Try.ntmps36
  go_wp2_with (first
    | (go_at_call 33; (with_reducible refine (dist_any n s _ _ es _ _ HA.out (sucL_adj HO.out) HO.out hs hn hel).mono ?_); rintro e w1 ⟨N, f, rfl, hN, hC, hD, hb1⟩)
    | (go_at_call 33; (with_reducible refine (dist_any n s _ _ (Dgr.rev es) _ _ (HB.out.keep hb1) (preL_adj HO.out) (ok_rev HO.out) hs hn hel2).mono ?_); rintro e w2 ⟨M, g, rfl, hM, hC2, hD2, hb2⟩))
  have hb : Below w.heap.size w w2 := hb1.trans (hb2.mono hb1.size)
  have HC := Lib.hid (hC.keep hb2)
  have HC2 := Lib.hid hC2
  have hNlt := HC.out.lt
  have hMlt := hC2.lt
  have HD : Hid (∀ v, v < n → ((f v ≠ -1 ∧ g v ≠ -1) ↔ Dgr.Both es s v)) := Lib.hid fun v hv => by
    rw [hD.iff hv, hD2.iff hv, Dgr.rch_rev]
    exact Iff.rfl
  clear hC hC2 hD hD2 hb1 hb2 hN hM
  go_loopg [7, 19] n (fun q v i wr => ∃ k : Nat, i = .int .i64 k ∧ k ≤ n ∧ q = n - k ∧ wr.ownsRow w2.heap.size 3 1 v (Dgr.those k (Dgr.Both es s)).length (nv (Dgr.those k (Dgr.Both es s))) ∧ Below w2.heap.size w2 wr)
  case atStart => exact ⟨0, rfl, Nat.zero_le _, rfl, World.ownsRow_nil _ _ _ _, Below.refl _ _⟩
  case round =>
    obtain ⟨k, rfl, hk, rfl, hrow, hbl⟩ := hrel
    have HROW := Lib.hid hrow
    have hbs := hbl.size
    have hown := row_own hrow
    have hlen := those_len k (Dgr.Both es s)
    clear hrow
    by_cases hlt : k < n
    · have hck : wr.cell? ⟨N, k, none⟩ = some (.int .i64 (f k)) := (hbl.cell (p := ⟨N, k, none⟩) hNlt).trans (HC.out.cell k hlt)
      have hck2 : wr.cell? ⟨M, k, none⟩ = some (.int .i64 (g k)) := (hbl.cell (p := ⟨M, k, none⟩) hMlt).trans (HC2.out.cell k hlt)
      have hiff := HD.out k hlt
      by_cases hf : f k = -1
      · have HF := Lib.hid (fun h : Dgr.Both es s k => (hiff.2 h).1 hf)
        rw [hf] at hck
        clear hf hiff
        go_wp2
        go_roundg (n - (k + 1))
        case measure => omega
        case rel => exact ⟨k + 1, by go_num, by omega, rfl, by rw [those_succ_no HF.out]; exact HROW.out, hbl⟩
      · have hfd : (f k != -1) = true := by simpa using hf
        by_cases hg : g k = -1
        · have HF := Lib.hid (fun h : Dgr.Both es s k => (hiff.2 h).2 hg)
          rw [hg] at hck2
          clear hf hg hiff
          go_wp2
          go_roundg (n - (k + 1))
          case measure => omega
          case rel => exact ⟨k + 1, by go_num, by omega, rfl, by rw [those_succ_no HF.out]; exact HROW.out, hbl⟩
        · have HF := Lib.hid (hiff.1 ⟨hf, hg⟩)
          have hgd : (g k != -1) = true := by simpa using hg
          clear hf hg hiff
          go_wp2_with (at_builtin; refine wpList_append_lies _ rfl _ _ 26 rfl w2.heap.size 3 i0 (.int .i64 0) 1 8 Try.underlying26 hi0 hz0 hz1 hz2 rfl (by decide) _ _ _ rfl (HROW.out.alloc _) ⟨wr.heap.size, 0, none⟩ 1 1 [.int .i64 (k : Int)] rfl rfl (cell_one_new _ _ _) (by simp [Value.oneCell']) (by decide) (by unfold maxLen; omega) (by omega) (by simp; omega) _ rfl ?_; intro g' cap' w1 hown1 hgrow1 hor1 hlt1)
          go_roundg (n - (k + 1))
          case measure => omega
          case rel => exact ⟨k + 1, by go_num, by omega, rfl, by rw [those_succ_yes HF.out, nv_append, List.length_append]; exact hown1, (hbl.alloc hbs _).grown hgrow1 (by simp; omega) (fun g' hg' => hown g' hg')⟩
    · go_wp2
      go_ret
      obtain rfl : k = n := by omega
      obtain ⟨A', c', rfl, hc', _, hF'⟩ := Row.own HROW.out
      exact ⟨A', c', rfl, hc', hF'.mono hb.size, hb.trans (hbl.mono hb.size)⟩

/-- A row whose cells lie in another block than X. -/
def RowX (w : World) (base : Nat) (X : Option Nat) (A : Option Addr) (l : List Nat) : Prop :=
  nv l ≠ [] → ∃ b o, A = some ⟨b, o, none⟩ ∧ base ≤ b ∧ some b ≠ X ∧ b < w.heap.size ∧ ∀ j u, (nv l)[j]? = some u → w.cell? ⟨b, o + j, none⟩ = some u
theorem RowX.row {w : World} {base : Nat} {X : Option Nat} {A : Option Addr} {l : List Nat} (h : RowX w base X A l) : Row w base A l := fun hne => by
  obtain ⟨b, o, h1, h2, _, h4, h5⟩ := h hne
  exact ⟨b, o, h1, h2, h4, h5⟩
theorem Row.apart {w : World} {base : Nat} {X : Option Nat} {A : Option Addr} {l : List Nat} (h : Row w base A l) (hX : ∀ g, X = some g → g < base) {b0 : Nat} (hb : b0 ≤ base) : RowX w b0 X A l := fun hne => by
  obtain ⟨b, o, h1, h2, h4, h5⟩ := h hne
  exact ⟨b, o, h1, by omega, fun e => by have := hX b e.symm; omega, h4, h5⟩
theorem RowX.keep {w w' : World} {base : Nat} {X : Option Nat} {A : Option Addr} {l : List Nat} (h : RowX w base X A l) (hb : Below w.heap.size w w') : RowX w' base X A l := fun hne => by
  obtain ⟨b, o, h1, h2, h3, h4, h5⟩ := h hne
  exact ⟨b, o, h1, h2, h3, Nat.lt_of_lt_of_le h4 hb.size, fun j u hu => (hb.cell (p := ⟨b, o + j, none⟩) h4).trans (h5 j u hu)⟩
theorem RowX.set {w : World} {base : Nat} {X : Option Nat} {A : Option Addr} {l : List Nat} (h : RowX w base X A l) {p : Addr} (hp : p.block < base) (v : Value) : RowX (w.setCell p v) base X A l := fun hne => by
  obtain ⟨b, o, h1, h2, h3, h4, h5⟩ := h hne
  exact ⟨b, o, h1, h2, h3, by simpa using h4, fun j u hu => (World.cell?_setCell_far _ _ _ _ (by simp; omega)).trans (h5 j u hu)⟩
theorem RowX.grown {w w' : World} {base : Nat} {X Y : Option Nat} {A : Option Addr} {l : List Nat} (h : RowX w base X A l) (hg : w.grownBy w' X) (hY : Y = X ∨ ∀ g, Y = some g → w.heap.size ≤ g) : RowX w' base Y A l := fun hne => by
  obtain ⟨b, o, h1, h2, h3, h4, h5⟩ := h hne
  refine ⟨b, o, h1, h2, ?_, Nat.lt_of_lt_of_le h4 hg.size, fun j u hu => (World.cell?_of_block (hg.block b h4 h3)).trans (h5 j u hu)⟩
  rcases hY with rfl | hY
  · exact h3
  · intro e
    have := hY b e.symm
    omega
/-- Lists that have been gathered: their slices in hs, the cells of none in block X. -/
def HdrsX (w : World) (base : Nat) (X : Option Nat) (hs : List Value) (rows : List (List Nat)) : Prop := hs.length = rows.length ∧ ∀ (v : Nat) (l : List Nat), rows[v]? = some l → ∃ A c, hs[v]? = some (.slice A l.length c) ∧ l.length ≤ c ∧ RowX w base X A l
theorem HdrsX.nil (w : World) (base : Nat) (X : Option Nat) : HdrsX w base X [] [] := ⟨rfl, fun v l h => by simp at h⟩
theorem HdrsX.map {w w' : World} {base : Nat} {X Y : Option Nat} {hs : List Value} {rows : List (List Nat)} (h : HdrsX w base X hs rows) (k : ∀ A l, RowX w base X A l → RowX w' base Y A l) : HdrsX w' base Y hs rows :=
  ⟨h.1, fun v l hl => by obtain ⟨A, c, h1, h2, h3⟩ := h.2 v l hl; exact ⟨A, c, h1, h2, k A l h3⟩⟩
theorem HdrsX.snoc {w : World} {base : Nat} {X : Option Nat} {hs : List Value} {rows : List (List Nat)} (h : HdrsX w base X hs rows) {A : Option Addr} {c : Nat} {l : List Nat} (hc : l.length ≤ c) (hl : RowX w base X A l) : HdrsX w base X (hs ++ [.slice A l.length c]) (rows ++ [l]) := by
  refine ⟨by simp [h.1], fun v m hm => ?_⟩
  by_cases hv : v < rows.length
  · rw [List.getElem?_append_left hv] at hm
    obtain ⟨A', c', h1, h2, h3⟩ := h.2 v m hm
    exact ⟨A', c', by rw [List.getElem?_append_left (by rw [h.1]; exact hv)]; exact h1, h2, h3⟩
  · have hv2 := get_lt hm
    obtain rfl : v = rows.length := by simp at hv2; omega
    rw [List.getElem?_append_right (Nat.le_refl _), Nat.sub_self, List.getElem?_cons_zero, Option.some.injEq] at hm
    subst hm
    exact ⟨A, c, by rw [← h.1, List.getElem?_append_right (Nat.le_refl _), Nat.sub_self, List.getElem?_cons_zero], hc, hl⟩
theorem HdrsX.hdrs {w : World} {base : Nat} {X : Option Nat} {hs : List Value} {rows : List (List Nat)} (h : HdrsX w base X hs rows) : Hdrs w base hs rows :=
  ⟨h.1, fun v l hl => by obtain ⟨A, c, h1, h2, h3⟩ := h.2 v l hl; exact ⟨A, c, h1, h2, h3.row⟩⟩
/-- A list of lists of the call's own, grown by append. -/
structure Lists (w : World) (base : Nat) (v : Value) (rows : List (List Nat)) (hs : List Value) : Prop where
  own : w.ownsRow base 26 1 v rows.length hs
  hdr : HdrsX w base v.ownBlock hs rows
theorem Lists.nil (w : World) (base : Nat) : Lists w base (.slice none 0 0) [] [] := ⟨World.ownsRow_nil _ _ _ _, HdrsX.nil _ _ _⟩
theorem Lists.keep {w w' : World} {base : Nat} {v : Value} {rows : List (List Nat)} {hs : List Value} (h : Lists w base v rows hs) (hb : Below w.heap.size w w') : Lists w' base v rows hs :=
  ⟨row_keep h.own hb, h.hdr.map fun _ _ k => k.keep hb⟩
theorem Lists.set {w : World} {base : Nat} {v : Value} {rows : List (List Nat)} {hs : List Value} (h : Lists w base v rows hs) {p : Addr} (hp : p.block < base) (u : Value) : Lists (w.setCell p u) base v rows hs :=
  ⟨ownsRow_setCell_below h.own hp u, h.hdr.map fun _ _ k => k.set hp u⟩
theorem Lists.append {w w1 : World} {base g cap : Nat} {v : Value} {rows : List (List Nat)} {hs : List Value} (h : Lists w base v rows hs) {A : Option Addr} {c : Nat} {l : List Nat} (hc : l.length ≤ c) (hl : RowX w base v.ownBlock A l)
    (hown : w1.ownsRow base 26 1 (.slice (some ⟨g, 0, none⟩) (rows.length + 1) cap) (rows.length + 1) (hs ++ [.slice A l.length c])) (hg : w.grownBy w1 v.ownBlock) (hat : v.ownBlock = some g ∨ w.heap.size ≤ g) :
    Lists w1 base (.slice (some ⟨g, 0, none⟩) (rows.length + 1) cap) (rows ++ [l]) (hs ++ [.slice A l.length c]) := by
  have hY : (Value.slice (some ⟨g, 0, none⟩) (rows.length + 1) cap).ownBlock = v.ownBlock ∨ ∀ g', (Value.slice (some ⟨g, 0, none⟩) (rows.length + 1) cap).ownBlock = some g' → w.heap.size ≤ g' := by
    rcases hat with h | h
    · exact .inl (by rw [h]; rfl)
    · refine .inr fun g' hg' => ?_
      simp [Value.ownBlock] at hg'
      omega
  exact ⟨by simpa using hown, (h.hdr.snoc hc hl).map fun _ _ k => k.grown hg hY⟩
theorem Lists.rows {w : World} {base : Nat} {v : Value} {rows : List (List Nat)} {hs : List Value} (h : Lists w base v rows hs) : ∃ A c, v = .slice A rows.length c ∧ rows.length ≤ c ∧ Rows w base A rows := by
  obtain ⟨A, c, h1, h2, _, h4, _⟩ := row_forms h.own
  exact ⟨A, c, h1, h2, hs, h.hdr.hdrs, h4⟩

end Gp
end Go.Proofs.Ytmdleoadodcljaa
