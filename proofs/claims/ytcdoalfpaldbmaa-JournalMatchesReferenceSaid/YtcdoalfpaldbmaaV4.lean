/- What the reference reads of a journal. -/
import Derived.Test.YtcdoalfpaldbmaaV3
import Derived.Test.YtcdoalfpaldbmaaWH
namespace Go.Proofs.Ytcdoalfpaldbmaa
open Go.RowKit Sl Fr Dg
namespace Jn
set_option linter.unusedVariables false

theorem parses_next {bs rest : List Int} {rs : List (List Int)} (h : Parses 0 bs rs rest) {k : Nat} (hk : k ≤ rs.length) : nxt (sealK 0 (rs.take k)) (bs.drop (jour 0 (rs.take k)).length) = rs[k]? := by
  have hj : jour 0 rs = jour 0 (rs.take k) ++ jour (sealK 0 (rs.take k)) (rs.drop k) := by rw [← jour_append, List.take_append_drop]
  have hd : bs.drop (jour 0 (rs.take k)).length = jour (sealK 0 (rs.take k)) (rs.drop k) ++ rest := by
    rw [h.eq, hj, List.append_assoc, List.drop_left]
  rw [hd]
  by_cases hlt : k < rs.length
  · have hdk : rs.drop k = rs[k] :: rs.drop (k + 1) := List.drop_eq_getElem_cons hlt
    rw [hdk, jour, List.append_assoc, nxt_enc _ (h.ok _ (List.getElem_mem hlt)), List.getElem?_eq_getElem hlt]
  · obtain rfl : k = rs.length := by omega
    rw [List.drop_length, List.take_length, jour, List.nil_append, h.no, List.getElem?_eq_none (Nat.le_refl _)]
theorem jour_seal_snoc {rs : List (List Int)} {k : Nat} {r : List Int} (h : rs[k]? = some r) : sealK 0 (rs.take (k + 1)) = tagI (sealK 0 (rs.take k)) r ∧ (jour 0 (rs.take (k + 1))).length = (jour 0 (rs.take k)).length + 8 * (r.length + 3) := by
  rw [take_snoc h, sealK_snoc, jour_snoc, List.length_append, enc_length]
  exact ⟨rfl, rfl⟩

section
variable {base B : Nat} {X Y : Option Nat} {W W' : World} {x : Rec}
theorem RowX.grow (h : RowX base B X W x) (hg : W.grownBy W' X) (hY : Y = X ∨ ∀ g, Y = some g → W.heap.size ≤ g) : RowX base B Y W' x := by
  obtain ⟨A, c, h1, h2, h3⟩ := h
  refine ⟨A, c, h1, h2, fun hne => ?_⟩
  obtain ⟨b, o, e, h4, h7, h8, h5, h6⟩ := h3 hne
  refine ⟨b, o, e, h4, h7, ?_, Nat.lt_of_lt_of_le h5 hg.size, fun j u hu => (World.cell?_of_block (hg.block b h5 h8)).trans (h6 j u hu)⟩
  rcases hY with rfl | hY
  · exact h8
  · intro h'; have := hY b h'.symm; omega
theorem RowX.put (h : RowX base B X W x) {p : Addr} (hp : p.block < base ∨ p.block = B) (v : Value) : RowX base B X (W.setCell p v) x := by
  obtain ⟨A, c, h1, h2, h3⟩ := h
  refine ⟨A, c, h1, h2, fun hne => ?_⟩
  obtain ⟨b, o, e, h4, h7, h8, h5, h6⟩ := h3 hne
  exact ⟨b, o, e, h4, h7, h8, by simpa using h5, fun j u hu => (World.cell?_setCell_far _ _ _ _ (by simp; omega)).trans (h6 j u hu)⟩
theorem RowX.keep (h : RowX base B X W x) (hb : Below W.heap.size W W') : RowX base B X W' x := by
  obtain ⟨A, c, h1, h2, h3⟩ := h
  refine ⟨A, c, h1, h2, fun hne => ?_⟩
  obtain ⟨b, o, e, h4, h7, h8, h5, h6⟩ := h3 hne
  exact ⟨b, o, e, h4, h7, h8, Nat.lt_of_lt_of_le h5 hb.size, fun j u hu => (hb.cell (p := ⟨b, o + j, none⟩) h5).trans (h6 j u hu)⟩
theorem rowX_of {A : Option Addr} {r : List Int} {c lo : Nat} (h : ArrF W lo A (i64s r)) (hc : r.length ≤ c) (hlo : base ≤ lo) (hB : B < lo ∨ W.heap.size ≤ B) (hX : ∀ g, X = some g → g < lo ∨ W.heap.size ≤ g) : RowX base B X W (.slice A r.length c, r) :=
  ⟨A, c, rfl, hc, fun hne => by
    obtain ⟨b, o, e, h1, h2, h3⟩ := h hne
    exact ⟨b, o, e, by omega, by omega, fun h' => by have := hX b h'.symm; omega, h2, h3⟩⟩
end
theorem row_put {W : World} {base : Nat} {e : TypeId} {size : Nat} {v : Value} {n : Nat} {vs : List Value} (h : W.ownsRow base e size v n vs) {p : Addr} (hp : p.block < base) (u : Value) : (W.setCell p u).ownsRow base e size v n vs :=
  ownsRow_block h fun g hg hlt => Below.heap_setCell W p u g (by have := (ownsRow_lt h g hg).1; omega)

/-- The piece that a box holds. -/
def PX (W : World) (base B : Nat) (X : Option Nat) (E : Nat) (key : Int) (Ap : Option Addr) (np cp : Nat) (x1 x2 : Int) (bb : Bool) : Option (List Int) → Prop
  | none => bb = false
  | some r => RowX base B X W (.slice Ap np cp, r) ∧ x1 = tagI key r ∧ x2 = (E : Int) + 8 * ((r.length : Int) + 3) ∧ bb = true
theorem PX.map {W W' : World} {base B : Nat} {X Y : Option Nat} {E : Nat} {key : Int} {Ap : Option Addr} {np cp : Nat} {x1 x2 : Int} {bb : Bool} {o : Option (List Int)} (h : PX W base B X E key Ap np cp x1 x2 bb o) (f : ∀ x, RowX base B X W x → RowX base B Y W' x) : PX W' base B Y E key Ap np cp x1 x2 bb o := by
  cases o with
  | none => exact h
  | some r => exact ⟨f _ h.1, h.2⟩
theorem piece_px {W : World} {lo base B : Nat} {X : Option Nat} {E : Nat} {key : Int} {o : Option (List Int)} {v : Value} (h : PieceIs lo W E key o v) (hlo : base ≤ lo) (hB : B < lo ∨ W.heap.size ≤ B) (hX : ∀ g, X = some g → g < lo ∨ W.heap.size ≤ g) :
    ∃ Ap np cp x1 x2 bb, v = .agg #[.slice Ap np cp, .int .u64 x1, .int .i64 x2, .bool bb] ∧ PX W base B X E key Ap np cp x1 x2 bb o := by
  cases o with
  | none => exact ⟨none, 0, 0, 0, 0, false, h, rfl⟩
  | some r =>
    obtain ⟨A, c, rfl, h1, h2⟩ := h
    exact ⟨A, r.length, c, _, _, true, rfl, rowX_of h2 h1 hlo hB hX, rfl, rfl, rfl⟩

/-- The three boxes, the row of the records read. -/
structure Mid (w : World) (N4 : Nat) (o p : Array Value) (sv : Value) (xs : List Rec) (W : World) : Prop where
  out : BoxL W (w.heap.size + 1) o
  pbox : BoxL W N4 p
  own : W.ownsRow (N4 + 1) 29 1 sv xs.length (xs.map Prod.fst)
  rows : ∀ x ∈ xs, RowX (w.heap.size + 2) N4 sv.ownBlock W x
  res : BoxL W w.heap.size #[.slice none 0 0, .slice none 0 0, .int .i64 0, .int .i64 0, .int .u64 0]
  below : Below w.heap.size w W
  lo : w.heap.size + 2 ≤ N4
section
variable {w : World} {N4 : Nat} {o p : Array Value} {sv : Value} {xs : List Rec} {W W' : World}
theorem Mid.keep (h : Mid w N4 o p sv xs W) (hb : Below W.heap.size W W') : Mid w N4 o p sv xs W' :=
  ⟨h.out.keep hb, h.pbox.keep hb, row_keep h.own hb, fun x hx => (h.rows x hx).keep hb, h.res.keep hb, h.below.trans (hb.mono h.below.size), h.lo⟩
theorem Mid.setO (h : Mid w N4 o p sv xs W) {i : Nat} (hi : i < o.size) (v : Value) : Mid w N4 (o.setIfInBounds i v) p sv xs (W.setCell ⟨w.heap.size + 1, i, none⟩ v) :=
  have hlo := h.lo
  ⟨h.out.set1 hi v, h.pbox.far1 (by omega) i v, row_put h.own (by show w.heap.size + 1 < N4 + 1; omega) v, fun x hx => (h.rows x hx).put (.inl (by show w.heap.size + 1 < _; omega)) v, h.res.far1 (by omega) i v, below_set1 h.below (by omega) i v, hlo⟩
theorem Mid.setP (h : Mid w N4 o p sv xs W) {i : Nat} (hi : i < p.size) (v : Value) : Mid w N4 o (p.setIfInBounds i v) sv xs (W.setCell ⟨N4, i, none⟩ v) :=
  have hlo := h.lo
  ⟨h.out.far1 (by omega) i v, h.pbox.set1 hi v, row_put h.own (by show N4 < N4 + 1; omega) v, fun x hx => (h.rows x hx).put (.inr rfl) v, h.res.far1 (by omega) i v, below_set1 h.below (by omega) i v, hlo⟩
theorem Mid.setP4 {a0 a1 a2 a3 : Value} (h : Mid w N4 o #[a0, a1, a2, a3] sv xs W) (v0 v1 v2 v3 : Value) : Mid w N4 o #[v0, v1, v2, v3] sv xs ((((W.setCell ⟨N4, 0, none⟩ v0).setCell ⟨N4, 1, none⟩ v1).setCell ⟨N4, 2, none⟩ v2).setCell ⟨N4, 3, none⟩ v3) := by
  have := (((h.setP (i := 0) (by simp) v0).setP (i := 1) (by simp) v1).setP (i := 2) (by simp) v2).setP (i := 3) (by simp) v3
  simpa using this
theorem Mid.app {a1 a2 a3 a4 u v' : Value} {r : List Int} {w3 : World} {T : TypeId} (h : Mid w N4 #[sv, a1, a2, a3, a4] p sv xs W) (hX : RowX (w.heap.size + 2) N4 sv.ownBlock W (u, r))
    (hown' : w3.ownsRow (N4 + 1) 29 1 v' (xs.length + 1) (xs.map Prod.fst ++ [u])) (hg : (W.alloc (.cells #[u] T)).grownBy w3 sv.ownBlock) (hob : v'.ownBlock = sv.ownBlock ∨ v'.ownBlock = some (W.alloc (.cells #[u] T)).heap.size) :
    BoxL w3 (w.heap.size + 1) #[sv, a1, a2, a3, a4] ∧ BoxL w3 N4 p ∧ Mid w N4 #[v', a1, a2, a3, a4] p v' (xs ++ [(u, r)]) (w3.setCell ⟨w.heap.size + 1, 0, none⟩ v') := by
  have hlo := h.lo
  have hbA : Below W.heap.size W (W.alloc (.cells #[u] T)) := (Below.refl _ W).alloc (Nat.le_refl _) _
  have hown := ownsRow_lt h.own
  have hY : v'.ownBlock = sv.ownBlock ∨ ∀ g, v'.ownBlock = some g → (W.alloc (.cells #[u] T)).heap.size ≤ g := by
    rcases hob with h | h
    · exact .inl h
    · exact .inr fun g hg => by rw [h] at hg; cases hg; exact Nat.le_refl _
  have hne : ∀ N, N ≤ N4 → some N ≠ sv.ownBlock := fun N hN e => by have := (hown N e.symm).1; omega
  have ho3 := (h.out.keep hbA).grown hg (hne _ (by omega))
  have hp3 := (h.pbox.keep hbA).grown hg (hne _ (Nat.le_refl _))
  have hr3 := (h.res.keep hbA).grown hg (hne _ (by omega))
  have hb3 : Below w.heap.size w w3 := (h.below.trans (hbA.mono h.below.size)).grown hg (by have := h.below.size; simp; omega) (fun g e => by have := (hown g e).1; omega)
  refine ⟨ho3, hp3, ?_, hp3.far1 (by omega) 0 v', row_put ?_ (by show w.heap.size + 1 < N4 + 1; omega) v', fun x hx => ?_, hr3.far1 (by omega) 0 v', below_set1 hb3 (by omega) 0 v', hlo⟩
  · have := ho3.set1 (i := 0) (by simp) v'
    simpa using this
  · rw [List.length_append, List.map_append]; exact hown'
  · rcases List.mem_append.1 hx with hx | hx
    · exact (((h.rows x hx).keep hbA).grow hg hY).put (.inl (by show w.heap.size + 1 < _; omega)) v'
    · rw [List.mem_singleton] at hx; subst hx
      exact ((hX.keep hbA).grow hg hY).put (.inl (by show w.heap.size + 1 < _; omega)) v'
theorem Mid.fin (h : Mid w N4 o p sv xs W) (v0 v1 v2 v3 v4 : Value) :
    BoxL (((((W.setCell ⟨w.heap.size, 0, none⟩ v0).setCell ⟨w.heap.size, 1, none⟩ v1).setCell ⟨w.heap.size, 2, none⟩ v2).setCell ⟨w.heap.size, 3, none⟩ v3).setCell ⟨w.heap.size, 4, none⟩ v4) w.heap.size #[v0, v1, v2, v3, v4] ∧
    (((((W.setCell ⟨w.heap.size, 0, none⟩ v0).setCell ⟨w.heap.size, 1, none⟩ v1).setCell ⟨w.heap.size, 2, none⟩ v2).setCell ⟨w.heap.size, 3, none⟩ v3).setCell ⟨w.heap.size, 4, none⟩ v4).ownsRow w.heap.size 29 1 sv xs.length (xs.map Prod.fst) ∧
    (∀ x ∈ xs, RowY w.heap.size (((((W.setCell ⟨w.heap.size, 0, none⟩ v0).setCell ⟨w.heap.size, 1, none⟩ v1).setCell ⟨w.heap.size, 2, none⟩ v2).setCell ⟨w.heap.size, 3, none⟩ v3).setCell ⟨w.heap.size, 4, none⟩ v4) x) ∧
    Below w.heap.size w (((((W.setCell ⟨w.heap.size, 0, none⟩ v0).setCell ⟨w.heap.size, 1, none⟩ v1).setCell ⟨w.heap.size, 2, none⟩ v2).setCell ⟨w.heap.size, 3, none⟩ v3).setCell ⟨w.heap.size, 4, none⟩ v4) := by
  have hlo := h.lo
  have hr : ∀ (i : Nat), (⟨w.heap.size, i, none⟩ : Addr).block < N4 + 1 := fun i => by show w.heap.size < N4 + 1; omega
  have hp : ∀ (i : Nat), (⟨w.heap.size, i, none⟩ : Addr).block < w.heap.size + 2 := fun i => by show w.heap.size < _; omega
  refine ⟨h.res.s5 v0 v1 v2 v3 v4, World.ownsRow.mono (row_put (row_put (row_put (row_put (row_put h.own (hr 0) v0) (hr 1) v1) (hr 2) v2) (hr 3) v3) (hr 4) v4) (by omega), fun x hx => ?_, below_s5 h.below (Nat.le_refl _) v0 v1 v2 v3 v4⟩
  obtain ⟨A, c, q1, q2, q3⟩ := ((((((h.rows x hx).put (.inl (hp 0)) v0).put (.inl (hp 1)) v1).put (.inl (hp 2)) v2).put (.inl (hp 3)) v3).put (.inl (hp 4)) v4).row
  exact ⟨A, c, q1, q2, q3.mono (by omega)⟩
end

structure RIAt (w : World) (N4 : Nat) (rs : List (List Int)) (k E : Nat) (key : Int) (As : Option Addr) (ns cs : Nat) (Ap : Option Addr) (np cp : Nat) (x1 x2 : Int) (bb : Bool) (xs : List Rec) (W : World) : Prop where
  mid : Mid w N4 #[.slice As ns cs, .slice none 0 0, .int .i64 0, .int .i64 (E : Int), .int .u64 key] #[.slice Ap np cp, .int .u64 x1, .int .i64 x2, .bool bb] (.slice As ns cs) xs W
  piece : PX W (w.heap.size + 2) N4 (Value.slice As ns cs).ownBlock E key Ap np cp x1 x2 bb rs[k]?
  snd : xs.map Prod.snd = rs.take k
  len : ns = xs.length
  e : E = (jour 0 (rs.take k)).length
  key : key = sealK 0 (rs.take k)

def GiveRI (w : World) (A : Option Addr) (c : Nat) (rs : List (List Int)) (rest : List Int) (e : Ending) (w' : World) : Prop :=
  ∃ A' c', e = .returned (.agg #[.slice A' rs.length c', .slice (subA A (jour 0 rs).length c) rest.length (c - (jour 0 rs).length), .int .i64 (errR rest), .int .i64 ((jour 0 rs).length : Int), .int .u64 (sealK 0 rs)]) ∧ rs.length ≤ c' ∧ LLF w' w.heap.size A' rs ∧ Below w.heap.size w w'

set_option maxRecDepth 20000 in
set_option maxHeartbeats 4000000 in
theorem rreadin_any (A : Option Addr) (bs rest : List Int) (rs : List (List Int)) (c : Nat) (w : World) (hA : Byt w A bs) (hb8 : B8 bs) (hl : bs.length ≤ 100000) (hc : bs.length ≤ c) (hn : A = none → bs = [] ∧ c = 0) (hp : Parses 0 bs rs rest) :
    Calls Try.prog 13 #[.slice A bs.length c] w (GiveRI w A c rs rest) := by
  obtain ⟨i0, hi, hz0, hz1, hz2⟩ := info_parts infoSl
  obtain ⟨hrl, hrt⟩ := parses_len hp
  have hst := start2 w #[.slice none 0 0, .slice none 0 0, .int .i64 0, .int .i64 0, .int .u64 0] #[.slice none 0 0, .slice none 0 0, .int .i64 0, .int .i64 0, .int .u64 0] 34 34
  have hsz : ((w.alloc (.cells #[.slice none 0 0, .slice none 0 0, .int .i64 0, .int .i64 0, .int .u64 0] 34)).alloc (.cells #[.slice none 0 0, .slice none 0 0, .int .i64 0, .int .i64 0, .int .u64 0] 34)).heap.size = w.heap.size + 2 := by simp
  have HP := Lib.hid hp
  have HA := Lib.hid hA
  have H8 := Lib.hid hb8
  have HN := Lib.hid hn
  clear hp hA hb8 hn
  go_enter Try.func13, Try.ntmps13
  go_upto_region 2 with fail
  generalize (w.alloc (.cells #[.slice none 0 0, .slice none 0 0, .int .i64 0, .int .i64 0, .int .u64 0] 34)).alloc (.cells #[.slice none 0 0, .slice none 0 0, .int .i64 0, .int .i64 0, .int .u64 0] 34) = X at *
  obtain ⟨hbr, hbo, hbX⟩ := hst
  have hnx := rnext_any A bs 0 0 c X (HA.out.keep hbX) H8.out hl (Nat.zero_le _)
  have hp0 := parses_next HP.out (Nat.zero_le rs.length)
  simp only [List.take_zero, sealK, jour, List.length_nil] at hp0
  rw [hp0] at hnx
  have HBR := Lib.hid hbr
  have HBO := Lib.hid hbo
  have HSZ := Lib.hid hsz
  clear hbr hbo hp0 hsz
  go_wp2_with fail
  go_at_call 26
  refine hnx.mono ?_
  rintro e w1 ⟨pv, rfl, hpi, hb1⟩
  obtain ⟨Ap, np, cp, x1, x2, bb, rfl, hpx⟩ := piece_px (base := w.heap.size + 2) (B := w1.heap.size) (X := none) hpi (by have := HSZ.out; omega) (.inr (Nat.le_refl _)) (fun g hg => by cases hg)
  have hst2 := start1 w1 #[.slice Ap np cp, .int .u64 x1, .int .i64 x2, .bool bb] 55
  have hst0 : RIAt w w1.heap.size rs 0 0 0 none 0 0 Ap np cp x1 x2 bb [] (w1.alloc (.cells #[.slice Ap np cp, .int .u64 x1, .int .i64 x2, .bool bb] 55)) :=
    { mid := ⟨(HBO.out.keep hb1).keep hst2.2, hst2.1, World.ownsRow_nil _ _ _ _, (fun x hx => by cases hx), (HBR.out.keep hb1).keep hst2.2, (hbX.trans (hb1.mono hbX.size)).trans (hst2.2.mono (hbX.trans (hb1.mono hbX.size)).size), by have := HSZ.out; have := hb1.size; omega⟩
      piece := hpx.map fun x hx => hx.keep hst2.2
      snd := by simp
      len := rfl
      e := by simp [jour]
      key := by simp [sealK] }
  have HST := Lib.hid hst0
  clear hst2 hst0 hpx hpi hnx HBO HBR hbX hb1 HSZ
  go_upto_region 3 with fail
  generalize w1.alloc (.cells #[.slice Ap np cp, .int .u64 x1, .int .i64 x2, .bool bb] 55) = Y at *
  generalize w1.heap.size = N4 at *
  go_wp2
  go_loopg [] rs.length (fun g wr => ∃ (k E : Nat) (key : Int) (As : Option Addr) (ns cs : Nat) (Ap : Option Addr) (np cp : Nat) (x1 x2 : Int) (bb : Bool) (xs : List Rec), g = rs.length - k ∧ k ≤ rs.length ∧ RIAt w N4 rs k E key As ns cs Ap np cp x1 x2 bb xs wr)
  case atStart => exact ⟨0, 0, 0, none, 0, 0, Ap, np, cp, x1, x2, bb, [], rfl, Nat.zero_le _, HST.out⟩
  case round =>
    clear HST
    obtain ⟨k, E, key, As, ns, cs, Ap, np, cp, x1, x2, bb, xs, rfl, hk, hR⟩ := hrel
    have hpc := hR.piece
    obtain ⟨hM, _, hsnd, hlen, hE, hkey⟩ := hR
    have hkx : xs.length = k := by have := congrArg List.length hsnd; rw [List.length_map, List.length_take] at this; omega
    have HKX := Lib.hid hkx
    have hxl : xs.length ≤ 100000 := by omega
    clear hkx
    obtain ⟨oc0, oc1, oc2, oc3, oc4⟩ := hM.out.c5
    obtain ⟨of0, of1, of2, of3, of4⟩ := hM.out.f5
    obtain ⟨pc0, pc1, pc2, pc3⟩ := hM.pbox.c4
    have HM := Lib.hid hM
    have hEl : E ≤ bs.length := by
      have := jour_take_le rs 0 k
      have h1 := congrArg List.length HP.out.eq
      rw [List.length_append] at h1
      omega
    by_cases hlt : k < rs.length
    · obtain ⟨r, hr⟩ := get_ex hlt
      rw [hr] at hpc
      obtain ⟨hX, rfl, rfl, rfl⟩ := hpc
      obtain ⟨hse, hle⟩ := jour_seal_snoc hr
      rw [← hkey] at hse
      rw [← hE] at hle
      have hpn := parses_next HP.out (k := k + 1) hlt
      rw [hse, hle] at hpn
      have hEl2 : E + 8 * (r.length + 3) ≤ bs.length := by
        have := jour_take_le rs 0 (k + 1)
        have h1 := congrArg List.length HP.out.eq
        rw [List.length_append] at h1
        omega
      have hsnd' : (xs ++ [((Value.slice Ap np cp), r)]).map Prod.snd = rs.take (k + 1) := by rw [List.map_append, hsnd, take_snoc hr]; rfl
      have HX := Lib.hid hX
      have HSE := Lib.hid hse
      have HLE := Lib.hid hle
      have HPN := Lib.hid hpn
      have HSND := Lib.hid hsnd'
      subst hlen
      have hownA := hM.own.alloc (.cells #[.slice Ap np cp] 29)
      clear hX hse hle hpn hsnd' hsnd hr hM hE hkey
      generalize hx1 : tagI key r = x1 at *
      generalize hx2 : (E : Int) + 8 * ((r.length : Int) + 3) = x2 at *
      have HX2 := Lib.hid hx2
      clear hx1 hx2
      go_upto_region 5 with (at_builtin; go_loud (refine wpList_append_own_at _ rfl _ _ 23 rfl (N4 + 1) 29 i0 (.slice none 0 0) 1 24 Try.underlying23 hi hz0 hz1 hz2 rfl (by decide) (.slice As xs.length cs) xs.length (xs.map Prod.fst) rfl hownA ⟨wr.heap.size, 0, none⟩ 1 1 [.slice Ap np cp] rfl rfl (cell_one_new _ _ _) (by simp [Value.oneCell']) (by unfold maxLen; omega) (by omega) (by have := HM.out.pbox.lt; simp; omega) ?_; intro v' w3 hown' hg3 hnil3 hob3; obtain ⟨g', cap', hv'⟩ := ownsRow_form hown'; subst hv'; obtain ⟨hq1, hq2, hq3⟩ := HM.out.app HX.out hown' hg3 hob3; obtain ⟨q0, q1, q2, q3, q4⟩ := hq1.c5; obtain ⟨qf0, qf1, qf2, qf3, qf4⟩ := hq1.f5; go_frame))
      have HQ3 := Lib.hid hq3
      clear hq1 hq2 hq3 q0 q1 q2 q3 q4 qf0 qf1 qf2 qf3 qf4 oc0 oc1 oc2 oc3 oc4 of0 of1 of2 of3 of4 pc0 pc1 pc2 pc3 hown' hg3 hnil3 hob3 hownA
      generalize w3.setCell ⟨w.heap.size + 1, 0, none⟩ (.slice (some ⟨g', 0, none⟩) (xs.length + 1) cap') = W4 at *
      obtain ⟨pc0, pc1, pc2, pc3⟩ := HQ3.out.pbox.c4
      obtain ⟨of0, of1, of2, of3, of4⟩ := HQ3.out.out.f5
      obtain ⟨oc0, oc1, oc2, oc3, oc4⟩ := HQ3.out.out.c5
      have hq4 : Mid w N4 #[.slice (some ⟨g', 0, none⟩) (xs.length + 1) cap', .slice none 0 0, .int .i64 0, .int .i64 x2, .int .u64 key] _ _ _ _ := HQ3.out.setO (i := 3) (by simp) (.int .i64 x2)
      have HQ4 := Lib.hid hq4
      clear hq4
      go_upto_region 6 with fail
      clear pc0 pc1 pc2 pc3 of0 of1 of2 of3 of4 oc0 oc1 oc2 oc3 oc4 HQ3
      generalize W4.setCell ⟨w.heap.size + 1, 3, none⟩ (.int .i64 x2) = W5 at *
      obtain ⟨pc0, pc1, pc2, pc3⟩ := HQ4.out.pbox.c4
      obtain ⟨of0, of1, of2, of3, of4⟩ := HQ4.out.out.f5
      obtain ⟨oc0, oc1, oc2, oc3, oc4⟩ := HQ4.out.out.c5
      have hq5 : Mid w N4 #[.slice (some ⟨g', 0, none⟩) (xs.length + 1) cap', .slice none 0 0, .int .i64 0, .int .i64 x2, .int .u64 x1] _ _ _ _ := HQ4.out.setO (i := 4) (by simp) (.int .u64 x1)
      have HQ5 := Lib.hid hq5
      clear hq5
      go_upto_region 7 with fail
      clear pc0 pc1 pc2 pc3 of0 of1 of2 of3 of4 oc0 oc1 oc2 oc3 oc4 HQ4
      generalize W5.setCell ⟨w.heap.size + 1, 4, none⟩ (.int .u64 x1) = W6 at *
      obtain ⟨oc0, oc1, oc2, oc3, oc4⟩ := HQ5.out.out.c5
      have hx2n : ((E + 8 * (r.length + 3) : Nat) : Int) = x2 := by have := HX2.out; omega
      have hnx := rnext_any A bs (E + 8 * (r.length + 3)) x1 c W6 (HA.out.keep HQ5.out.below) H8.out hl hEl2
      rw [hx2n, HPN.out] at hnx
      have HX2N := Lib.hid hx2n
      clear hx2n
      go_wp2_with fail
      go_at_call 26
      refine hnx.mono ?_
      rintro e w7 ⟨pv, rfl, hpi, hb7⟩
      have hlo := HQ5.out.lo
      have hN4 := HQ5.out.pbox.lt
      obtain ⟨Aq, nq, cq, y1, y2, b2, rfl, hpx⟩ := piece_px (base := w.heap.size + 2) (B := N4) (X := (Value.slice (some ⟨g', 0, none⟩) (xs.length + 1) cap').ownBlock) hpi (by omega) (.inl hN4) (fun g hg => .inl (ownsRow_lt HQ5.out.own g hg).2)
      have hq7 := HQ5.out.keep hb7
      obtain ⟨pc0, pc1, pc2, pc3⟩ := hq7.pbox.c4
      obtain ⟨pf0, pf1, pf2, pf3⟩ := hq7.pbox.f4
      have hq8 := hq7.setP4 (.slice Aq nq cq) (.int .u64 y1) (.int .i64 y2) (.bool b2)
      have hpx8 := hpx.map fun x hx => (((hx.put (p := ⟨N4, 0, none⟩) (.inr rfl) (.slice Aq nq cq)).put (p := ⟨N4, 1, none⟩) (.inr rfl) (.int .u64 y1)).put (p := ⟨N4, 2, none⟩) (.inr rfl) (.int .i64 y2)).put (p := ⟨N4, 3, none⟩) (.inr rfl) (.bool b2)
      have HQ8 := Lib.hid hq8
      have HPX8 := Lib.hid hpx8
      clear hq7 hq8 hpx8 hpx hpi oc0 oc1 oc2 oc3 oc4 hnx HQ5
      go_wp2
      generalize (((w7.setCell ⟨N4, 0, none⟩ (.slice Aq nq cq)).setCell ⟨N4, 1, none⟩ (.int .u64 y1)).setCell ⟨N4, 2, none⟩ (.int .i64 y2)).setCell ⟨N4, 3, none⟩ (.bool b2) = W8 at *
      go_roundg (rs.length - (k + 1))
      case measure => omega
      case rel => exact ⟨k + 1, E + 8 * (r.length + 3), x1, some ⟨g', 0, none⟩, xs.length + 1, cap', Aq, nq, cq, y1, y2, b2, xs ++ [(.slice Ap np cp, r)], rfl, hlt, ⟨by rw [HX2N.out]; exact HQ8.out, HPX8.out, HSND.out, by simp, HLE.out.symm, HSE.out.symm⟩⟩
    · obtain rfl : k = rs.length := by omega
      rw [List.getElem?_eq_none (Nat.le_refl _)] at hpc
      obtain rfl : bb = false := hpc
      rw [List.take_length] at hE hkey hsnd
      have hre : rest.length = bs.length - E := by
        have h1 := congrArg List.length HP.out.eq
        rw [List.length_append] at h1
        omega
      subst hlen
      have HE := Lib.hid hE
      have HKEY := Lib.hid hkey
      have HSND := Lib.hid hsnd
      have HRE := Lib.hid hre
      have hcE : E ≤ c := by omega
      have HPO := Lib.hid HP.out.eq
      clear hM hE hkey hsnd hre HN HP
      go_upto_region 9 with fail
      generalize hS : (if c = E then A else Option.map (fun x => x.add E) A) = S
      have HS := Lib.hid (show S = subA A E c from hS.symm)
      clear hS
      have hrl : rest.length ≤ 100000 := by have := HRE.out; omega
      have HRR := Lib.hid (show errR rest = if rest.length = 0 then 0 else 60 by
        by_cases h : rest.length = 0
        · rw [if_pos h]; exact errR_zero h
        · rw [if_neg h]; exact errR_pos rfl h)
      generalize bs.length - E = rl at *
      have hq1 : Mid w N4 #[.slice As xs.length cs, .slice S rl (c - E), .int .i64 0, .int .i64 (E : Int), .int .u64 key] _ _ _ _ := HM.out.setO (i := 1) (by simp) (.slice S rl (c - E))
      have HQ1 := Lib.hid hq1
      clear hq1 oc0 oc1 oc2 oc3 oc4 of0 of1 of2 of3 of4 pc0 pc1 pc2 pc3 HM
      generalize wr.setCell ⟨w.heap.size + 1, 1, none⟩ (.slice S rl (c - E)) = W9 at *
      by_cases hz : rl = 0
      · have herr : errR rest = 0 := by rw [HRR.out, HRE.out, if_pos hz]
        have HERR := Lib.hid herr
        have hz' : ¬ (0 : Int) < (rl : Int) := by omega
        clear herr hz
        obtain ⟨oc0, oc1, oc2, oc3, oc4⟩ := HQ1.out.out.c5
        obtain ⟨rf0, rf1, rf2, rf3, rf4⟩ := HQ1.out.res.f5
        obtain ⟨rc0, rc1, rc2, rc3, rc4⟩ := HQ1.out.res.c5
        have hfin := Lib.hid (HQ1.out.fin (.slice As xs.length cs) (.slice S rl (c - E)) (.int .i64 0) (.int .i64 (E : Int)) (.int .u64 key))
        clear HQ1
        go_wp2
        generalize ((((W9.setCell ⟨w.heap.size, 0, none⟩ (.slice As xs.length cs)).setCell ⟨w.heap.size, 1, none⟩ (.slice S rl (c - E))).setCell ⟨w.heap.size, 2, none⟩ (.int .i64 0)).setCell ⟨w.heap.size, 3, none⟩ (.int .i64 (E : Int))).setCell ⟨w.heap.size, 4, none⟩ (.int .u64 key) = Z at *
        obtain ⟨f1, f2, f3, f4⟩ := hfin.out
        obtain ⟨s0, s1, s2, s3, s4⟩ := f1.c5
        refine bodyPost_ret (v := .agg #[.slice As xs.length cs, .slice S rl (c - E), .int .i64 0, .int .i64 (E : Int), .int .u64 key]) (by simp [results, Try.results13, go_sem, s0, s1, s2, s3, s4]) rfl ?_
        obtain ⟨A', c', e1, g2, g3⟩ := llf_of f2 f3
        have hkx := HKX.out
        have he := HE.out
        have hkk := HKEY.out
        have hre := HRE.out
        have hls : (xs.map Prod.snd).length = rs.length := by rw [HSND.out]
        rw [HSND.out] at g2 g3
        rw [hls] at e1
        injection e1 with e2 e3 e4
        subst e2 e4
        exact ⟨As, cs, by rw [← he, hre, HERR.out, HS.out, hkx, hkk], g2, g3, f4⟩
      · have herr : errR rest = 60 := by rw [HRR.out, HRE.out, if_neg hz]
        have HERR := Lib.hid herr
        have hz' : (0 : Int) < (rl : Int) := by omega
        obtain ⟨oc0, oc1, oc2, oc3, oc4⟩ := HQ1.out.out.c5
        obtain ⟨of0, of1, of2, of3, of4⟩ := HQ1.out.out.f5
        have hq2 : Mid w N4 #[.slice As xs.length cs, .slice S rl (c - E), .int .i64 60, .int .i64 (E : Int), .int .u64 key] _ _ _ _ := HQ1.out.setO (i := 2) (by simp) (.int .i64 60)
        have HQ2 := Lib.hid hq2
        clear herr hz hq2
        go_upto_region 11 with fail
        clear oc0 oc1 oc2 oc3 oc4 of0 of1 of2 of3 of4 HQ1 hz'
        generalize W9.setCell ⟨w.heap.size + 1, 2, none⟩ (.int .i64 60) = W10 at *
        obtain ⟨oc0, oc1, oc2, oc3, oc4⟩ := HQ2.out.out.c5
        obtain ⟨rf0, rf1, rf2, rf3, rf4⟩ := HQ2.out.res.f5
        obtain ⟨rc0, rc1, rc2, rc3, rc4⟩ := HQ2.out.res.c5
        have hfin := Lib.hid (HQ2.out.fin (.slice As xs.length cs) (.slice S rl (c - E)) (.int .i64 60) (.int .i64 (E : Int)) (.int .u64 key))
        clear HQ2
        go_wp2
        generalize ((((W10.setCell ⟨w.heap.size, 0, none⟩ (.slice As xs.length cs)).setCell ⟨w.heap.size, 1, none⟩ (.slice S rl (c - E))).setCell ⟨w.heap.size, 2, none⟩ (.int .i64 60)).setCell ⟨w.heap.size, 3, none⟩ (.int .i64 (E : Int))).setCell ⟨w.heap.size, 4, none⟩ (.int .u64 key) = Z at *
        obtain ⟨f1, f2, f3, f4⟩ := hfin.out
        obtain ⟨s0, s1, s2, s3, s4⟩ := f1.c5
        refine bodyPost_ret (v := .agg #[.slice As xs.length cs, .slice S rl (c - E), .int .i64 60, .int .i64 (E : Int), .int .u64 key]) (by simp [results, Try.results13, go_sem, s0, s1, s2, s3, s4]) rfl ?_
        obtain ⟨A', c', e1, g2, g3⟩ := llf_of f2 f3
        have hkx := HKX.out
        have he := HE.out
        have hkk := HKEY.out
        have hre := HRE.out
        have hls : (xs.map Prod.snd).length = rs.length := by rw [HSND.out]
        rw [HSND.out] at g2 g3
        rw [hls] at e1
        injection e1 with e2 e3 e4
        subst e2 e4
        exact ⟨As, cs, by rw [← he, hre, HERR.out, HS.out, hkx, hkk], g2, g3, f4⟩
end Jn
end Go.Proofs.Ytcdoalfpaldbmaa
