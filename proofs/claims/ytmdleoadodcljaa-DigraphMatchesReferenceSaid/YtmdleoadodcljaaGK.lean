/- What Made returns: a graph of at most twelve nodes and thirty edges. -/
import Derived.Test.YtmdleoadodcljaaGJ
namespace Go.Proofs.Ytmdleoadodcljaa
open Go.RowKit Sl Fr
namespace Gp
set_option linter.unusedVariables false

/-- Edges as cells. -/
def fl (es : Dgr.Edges) : List Value := (flat2 (natE es)).map (Value.int .i64)
theorem fl_length (es : Dgr.Edges) : (fl es).length = es.length * 2 := by simp [fl, flat2_length, natE]
theorem fl_snoc (es : Dgr.Edges) (a b : Nat) : fl (es ++ [(a, b)]) = fl es ++ [.int .i64 (a : Int), .int .i64 (b : Int)] := by simp [fl, flat2, natE]
theorem fl_append (es fs : Dgr.Edges) : fl (es ++ fs) = fl es ++ fl fs := by simp [fl, flat2, natE]
theorem fl_one (es : Dgr.Edges) : ∀ u ∈ fl es, u.oneCell' = true := fun u hu => by
  obtain ⟨x, _, rfl⟩ := List.mem_map.1 hu
  rfl
/-- An owned row of edges reads as them. -/
theorem own_edges {w : World} {base n : Nat} {v : Value} {es : Dgr.Edges} (h : w.ownsRow base 48 2 v n (fl es)) : ∃ A c, v = .slice A n c ∧ n ≤ c ∧ es.length = n ∧ EdgesA w A es := by
  have hl : es.length = n := by have := h.1; rw [fl_length] at this; omega
  rcases h.2 with ⟨rfl, h0⟩ | ⟨g, cap, cur, rfl, hg, hh, hn, _, _, _⟩
  · subst h0
    obtain rfl : es = [] := List.eq_nil_of_length_eq_zero hl
    exact ⟨none, 0, rfl, Nat.le_refl _, rfl, Arr.nil _ _⟩
  · refine ⟨some ⟨g, 0, none⟩, cap, rfl, hn, hl, fun _ => ⟨g, 0, rfl, (Array.getElem?_eq_some_iff.1 hh).1, fun j u hu => ?_⟩⟩
    have hj : j < n * 2 := by have := get_lt hu; simp [flat2_length, natE] at this; omega
    rw [Nat.zero_add, h.cellAt j hj]
    exact hu
/-- A graph as one value. -/
structure IsG (w : World) (n : Nat) (es : Dgr.Edges) (A : Option Addr) (m c : Nat) : Prop where
  ok : Dgr.Ok n es
  n12 : n ≤ 12
  len : es.length = m
  le : m ≤ c
  big : m ≤ 40
  arr : EdgesA w A es
  nil : es = [] → A = none ∧ c = 0
theorem IsG.keep {w w' : World} {n : Nat} {es : Dgr.Edges} {A : Option Addr} {m c : Nat} (h : IsG w n es A m c) (hb : Below w.heap.size w w') : IsG w' n es A m c :=
  ⟨h.ok, h.n12, h.len, h.le, h.big, h.arr.keep hb, h.nil⟩
def GiveG (W : World) (e : Ending) (w' : World) : Prop := ∃ (n : Nat) (es : Dgr.Edges) (A : Option Addr) (m c : Nat), e = .returned (.agg #[.int .i64 (n : Int), .slice A m c]) ∧ IsG w' n es A m c ∧ es.length ≤ 30 ∧ Below W.heap.size W w'
theorem mod_nat {x : Int} (h0 : 0 ≤ x) (h1 : x ≤ 1000) {n : Nat} (hn : 0 < n) : ∃ r : Nat, x.tmod (n : Int) = r ∧ r < n := by
  refine ⟨(x.tmod n).toNat, ?_, ?_⟩
  · have := Int.tmod_nonneg (n : Int) h0; omega
  · have := Int.tmod_lt_of_pos x (show (0 : Int) < n by omega)
    have := Int.tmod_nonneg (n : Int) h0
    omega
def MadeAt (n : Nat) (N K : Int) (B : Option Addr) (bn c : Nat) (w : World) (g : Nat) (i : Value) (wr : World) : Prop :=
  ∃ (k j : Nat) (es : Dgr.Edges) (A : Option Addr) (m d : Nat), i = .int .i64 (j : Int) ∧ j = 2 * k ∧ k ≤ 30 ∧ g = 30 - k ∧ m ≤ k ∧ Dgr.Ok n es ∧ wr.ownsRow (w.heap.size + 1 + 1 + 1) 48 2 (.slice A m d) m (fl es) ∧
    BoxL wr (w.heap.size + 1 + 1) #[.int .i64 (n : Int), .slice A m d] ∧ BoxL wr (w.heap.size + 1) #[.int .i64 0, .slice none 0 0] ∧ BoxL wr w.heap.size #[.int .u8 N, .int .u8 K, .slice B bn c] ∧ (es = [] → A = none ∧ d = 0) ∧ Below w.heap.size w wr
theorem box_set1 {w : World} {b : Nat} {x y v : Value} (h : BoxL w b #[x, y]) : BoxL (w.setCell ⟨b, 1, none⟩ v) b #[x, v] := by
  have := h.set1 (i := 1) (by simp) v
  simpa using this
theorem ok_snoc {n : Nat} {es : Dgr.Edges} (ok : Dgr.Ok n es) {a b : Nat} (ha : a < n) (hb : b < n) : Dgr.Ok n (es ++ [(a, b)]) := fun e he => by
  rcases List.mem_append.1 he with he | he
  · exact ok e he
  · obtain rfl : e = (a, b) := by simpa using he
    exact ⟨ha, hb⟩
theorem mod_nat' {x : Int} (h0 : 0 ≤ x) (h1 : x ≤ 1000) {n : Nat} (hn : 0 < n) : ∃ r : Nat, x % (n : Int) = r ∧ r < n := by
  refine ⟨(x % n).toNat, ?_, ?_⟩
  · have := Int.emod_nonneg x (show (n : Int) ≠ 0 by omega); omega
  · have := Int.emod_lt_of_pos x (show (0 : Int) < n by omega)
    have := Int.emod_nonneg x (show (n : Int) ≠ 0 by omega)
    omega

set_option maxRecDepth 100000 in
set_option maxHeartbeats 6400000 in
theorem made_any (N K : Int) (B : Option Addr) (bs : List Int) (c : Nat) (w : World) (hN : 0 ≤ N ∧ N ≤ 255) (hK : 0 ≤ K ∧ K ≤ 255) (hB : RowIs .u8 w B bs.length c bs) :
    Calls Try.prog 5 #[.agg #[.int .u8 N, .int .u8 K, .slice B bs.length c]] w (GiveG w) := by
  obtain ⟨n, hn, hn13⟩ := mod_nat' hN.1 (by omega) (n := 13) (by omega)
  have hn' : N % 13 = (n : Int) := hn
  have hbyt : ∀ x ∈ bs, 0 ≤ x ∧ x ≤ 255 := bytes_of hB
  have HBY := Lib.hid hbyt
  have hbig : bs.length ≤ 9223372036854775807 := by have := hB.big; unfold maxLen at this; omega
  obtain ⟨b, o, hb⟩ : ∃ b o, bs ≠ [] → B = some ⟨b, o, none⟩ ∧ b < w.heap.size ∧ ∀ j (x : Int), bs[j]? = some x → w.cell? ⟨b, o + j, none⟩ = some (.int .u8 x) := by
    by_cases hl : bs = []
    · exact ⟨0, 0, fun h' => absurd hl h'⟩
    · obtain ⟨b, o, h1, h2, h3⟩ := hB.arr (by simpa using hl)
      exact ⟨b, o, fun _ => ⟨h1, h2, fun j x hx => h3 j _ (by simp [hx])⟩⟩
  have HB := Lib.hid hb
  obtain ⟨i0, hi0, hz0, hz1, hz2⟩ := parts_of infoEdge
  have hst := start3 w #[.int .u8 N, .int .u8 K, .slice B bs.length c] #[.int .i64 0, .slice none 0 0] #[.int .i64 (n : Int), .slice none 0 0] 24 31 31
  have HS : Hid (MadeAt n N K B bs.length c w 30 (.int .i64 ((0 : Nat) : Int)) (((w.alloc (.cells #[.int .u8 N, .int .u8 K, .slice B bs.length c] 24)).alloc (.cells #[.int .i64 0, .slice none 0 0] 31)).alloc (.cells #[.int .i64 (n : Int), .slice none 0 0] 31))) := Lib.hid
    ⟨0, 0, [], none, 0, 0, rfl, rfl, by omega, rfl, Nat.le_refl _, fun e he => (by cases he), World.ownsRow_nil _ _ _ _, hst.2.2.1, hst.2.1, hst.1, fun _ => ⟨rfl, rfl⟩, hst.2.2.2⟩
  clear hb hB hbyt hst hn
  go_enter Try.func5, Try.ntmps5
  go_wp2
  simp only [hn']
  clear hn'
  go_loopg [5] 30 (fun g i wr => MadeAt n N K B bs.length c w g i wr)
  case atStart => exact HS.out
  case round =>
    obtain ⟨k, j, es, A, m, d, rfl, hj, hk, rfl, hmk, ho, hrow, hM2, hM1, hM0, hnil, hbl⟩ := hrel
    clear HS
    have HJ := Lib.hid hj
    have HO := Lib.hid ho
    have HROW := Lib.hid hrow
    have HNIL := Lib.hid hnil
    have hrl := hrow.lt
    have hbs := hbl.size
    have hM2lt := hM2.lt
    have hj60 : j ≤ 60 := by omega
    clear hj ho hrow hnil
    obtain ⟨a0, a1, a2⟩ := hM0.c3
    obtain ⟨c0, c1⟩ := hM1.c2
    obtain ⟨f0, f1⟩ := hM1.f2
    obtain ⟨b0, b1⟩ := hM2.c2
    by_cases hlen : (j : Int) + 1 < (bs.length : Int)
    case neg =>
      go_wp2
      have hs := hM1.s2 (.int .i64 (n : Int)) (.slice A m d)
      obtain ⟨s0, s1⟩ := hs.c2
      obtain ⟨A9, c9, he9, hc9, hl9, hE9⟩ := own_edges HROW.out
      cases he9
      refine bodyPost_ret (v := .agg #[.int .i64 (n : Int), .slice A m d]) (by simp [results, Try.results5, go_sem, s0, s1]) rfl ⟨n, es, A, m, d, rfl, ⟨HO.out, by omega, hl9, hc9, by omega, ?_, HNIL.out⟩, by omega, ((hbl.setCell (p := ⟨w.heap.size + 1, 0, none⟩) (by show _ ≤ w.heap.size + 1; omega) _).setCell (p := ⟨w.heap.size + 1, 1, none⟩) (by show _ ≤ w.heap.size + 1; omega) _)⟩
      have hrow2 := ownsRow_setCell_below (ownsRow_setCell_below HROW.out (a := ⟨w.heap.size + 1, 0, none⟩) (by show w.heap.size + 1 < _; omega) (.int .i64 (n : Int))) (a := ⟨w.heap.size + 1, 1, none⟩) (by show w.heap.size + 1 < _; omega) (.slice A m d)
      obtain ⟨A9, c9, he9, _, _, hE9⟩ := own_edges hrow2
      cases he9
      exact hE9
    by_cases h60 : j < 60
    case neg =>
      go_wp2
      have hs := hM1.s2 (.int .i64 (n : Int)) (.slice A m d)
      obtain ⟨s0, s1⟩ := hs.c2
      obtain ⟨A9, c9, he9, hc9, hl9, hE9⟩ := own_edges HROW.out
      cases he9
      refine bodyPost_ret (v := .agg #[.int .i64 (n : Int), .slice A m d]) (by simp [results, Try.results5, go_sem, s0, s1]) rfl ⟨n, es, A, m, d, rfl, ⟨HO.out, by omega, hl9, hc9, by omega, ?_, HNIL.out⟩, by omega, ((hbl.setCell (p := ⟨w.heap.size + 1, 0, none⟩) (by show _ ≤ w.heap.size + 1; omega) _).setCell (p := ⟨w.heap.size + 1, 1, none⟩) (by show _ ≤ w.heap.size + 1; omega) _)⟩
      have hrow2 := ownsRow_setCell_below (ownsRow_setCell_below HROW.out (a := ⟨w.heap.size + 1, 0, none⟩) (by show w.heap.size + 1 < _; omega) (.int .i64 (n : Int))) (a := ⟨w.heap.size + 1, 1, none⟩) (by show w.heap.size + 1 < _; omega) (.slice A m d)
      obtain ⟨A9, c9, he9, _, _, hE9⟩ := own_edges hrow2
      cases he9
      exact hE9
    by_cases hn0 : 0 < n
    case neg =>
      have hn0d : decide ((0 : Int) < (n : Int)) = false := decide_eq_false (by omega)
      go_wp2
      have hs := hM1.s2 (.int .i64 (n : Int)) (.slice A m d)
      obtain ⟨s0, s1⟩ := hs.c2
      obtain ⟨A9, c9, he9, hc9, hl9, hE9⟩ := own_edges HROW.out
      cases he9
      refine bodyPost_ret (v := .agg #[.int .i64 (n : Int), .slice A m d]) (by simp [results, Try.results5, go_sem, s0, s1]) rfl ⟨n, es, A, m, d, rfl, ⟨HO.out, by omega, hl9, hc9, by omega, ?_, HNIL.out⟩, by omega, ((hbl.setCell (p := ⟨w.heap.size + 1, 0, none⟩) (by show _ ≤ w.heap.size + 1; omega) _).setCell (p := ⟨w.heap.size + 1, 1, none⟩) (by show _ ≤ w.heap.size + 1; omega) _)⟩
      have hrow2 := ownsRow_setCell_below (ownsRow_setCell_below HROW.out (a := ⟨w.heap.size + 1, 0, none⟩) (by show w.heap.size + 1 < _; omega) (.int .i64 (n : Int))) (a := ⟨w.heap.size + 1, 1, none⟩) (by show w.heap.size + 1 < _; omega) (.slice A m d)
      obtain ⟨A9, c9, he9, _, _, hE9⟩ := own_edges hrow2
      cases he9
      exact hE9
    obtain ⟨x0, hx0⟩ := get_ex (l := bs) (j := j) (by omega)
    obtain ⟨x1, hx1⟩ := get_ex (l := bs) (j := j + 1) (by omega)
    obtain ⟨rfl, hbs1, hc⟩ := HB.out (by intro h; subst h; simp at hx0)
    have hcx0 := (hbl.cell (p := ⟨b, o + j, none⟩) hbs1).trans (hc j x0 hx0)
    have hcx1 := (hbl.cell (p := ⟨b, o + (j + 1), none⟩) hbs1).trans (hc (j + 1) x1 hx1)
    have hy0 := HBY.out x0 (List.mem_of_getElem? hx0)
    have hy1 := HBY.out x1 (List.mem_of_getElem? hx1)
    obtain ⟨v, hv, hvn⟩ := mod_nat' hy0.1 (by omega) hn0
    obtain ⟨u, hu, hun⟩ := mod_nat' hy1.1 (by omega) hn0
    have hk30 : k < 30 := by have := HJ.out; omega
    have hnn : (n : Int) ≠ 0 := by omega
    clear hc hx0 hx1 HB
    by_cases hk2 : K % 2 = 0
    case neg =>
      have hk2d : (K % 2 == 0) = false := by simpa using hk2
      go_wp2_with (at_builtin; refine wpList_append_lies _ rfl _ _ 25 rfl (w.heap.size + 1 + 1 + 1) 48 i0 (.agg #[.int .i64 0, .int .i64 0]) 2 16 Try.underlying25 hi0 hz0 hz1 hz2 rfl (by decide) (.slice A m d) m (fl es) rfl (HROW.out.alloc _) ⟨wr.heap.size, 0, none⟩ 1 1 [.int .i64 (v : Int), .int .i64 (u : Int)] rfl rfl (World.news_of_block (cs := #[.int .i64 (v : Int), .int .i64 (u : Int)]) (t := 48) (fr := (0, 0)) (heap_alloc_new wr _)) (by simp [Value.oneCell']) (by decide) (by unfold maxLen; omega) (by omega) (by simp; omega) _ rfl ?_; intro g' cap' w1 hown1 hgrow1 hor1 hlt1; have hOB := (hM2.keep ((Below.refl _ wr).alloc (Nat.le_refl _) (.cells #[.int .i64 (v : Int), .int .i64 (u : Int)] 48))).grown hgrow1 (fun e => by have := hrl _ e.symm; omega); have hPB := (hM1.keep ((Below.refl _ wr).alloc (Nat.le_refl _) (.cells #[.int .i64 (v : Int), .int .i64 (u : Int)] 48))).grown hgrow1 (fun e => by have := hrl _ e.symm; omega); have hQB := (hM0.keep ((Below.refl _ wr).alloc (Nat.le_refl _) (.cells #[.int .i64 (v : Int), .int .i64 (u : Int)] 48))).grown hgrow1 (fun e => by have := hrl _ e.symm; omega); obtain ⟨d0, d1⟩ := hOB.c2; obtain ⟨e0, e1⟩ := hOB.f2)
      go_roundg (30 - (k + 1))
      case measure => omega
      case rel =>
        refine ⟨k + 1, j + 2, es ++ [(v, u)], some ⟨g', 0, none⟩, m + 1, cap', by go_num, by have := HJ.out; omega, by omega, rfl, by omega, ok_snoc HO.out hvn hun, ?_, box_set1 hOB, hPB.far1 (by omega) _ _, hQB.far1 (by omega) _ _, fun h => absurd h (by simp), ?_⟩
        · rw [fl_snoc]; exact ownsRow_setCell_below hown1 (by show w.heap.size + 1 + 1 < _; omega) _
        · exact Below.setCell ((hbl.alloc hbs _).grown hgrow1 (by simp; omega) (fun g2 hg2 => by have := hrl g2 hg2; omega)) (p := ⟨w.heap.size + 1 + 1, 1, none⟩) (by show _ ≤ w.heap.size + 1 + 1; omega) _
    by_cases hvu : v = u
    · have hvd : ((v : Int) == (u : Int)) = true := by simp; omega
      go_wp2
      go_roundg (30 - (k + 1))
      case measure => omega
      case rel => exact ⟨k + 1, j + 2, es, A, m, d, by go_num, by have := HJ.out; omega, by omega, rfl, by omega, HO.out, HROW.out, hM2, hM1, hM0, HNIL.out, hbl⟩
    have hvd : ((v : Int) == (u : Int)) = false := by simp; omega
    by_cases hlt : u < v
    · have hltd : decide ((u : Int) < (v : Int)) = true := decide_eq_true (by omega)
      by_cases hk4 : K % 4 = 2
      · obtain ⟨a5, ha5, ha5n⟩ := mod_nat' (x := 5 * (u : Int) + 3) (by omega) (by omega) hn0
        obtain ⟨b5, hb5, hb5n⟩ := mod_nat' (x := 5 * (v : Int) + 3) (by omega) (by omega) hn0
        by_cases hn5 : (n : Int) % 5 = 0
        · have hn5d : ((n : Int) % 5 == 0) = true := by simpa using hn5
          go_wp2
          go_roundg (30 - (k + 1))
          case measure => omega
          case rel => exact ⟨k + 1, j + 2, es, A, m, d, by go_num, by have := HJ.out; omega, by omega, rfl, by omega, HO.out, HROW.out, hM2, hM1, hM0, HNIL.out, hbl⟩
        · have hn5d : ((n : Int) % 5 == 0) = false := by simpa using hn5
          go_wp2_with (at_builtin; refine wpList_append_lies _ rfl _ _ 25 rfl (w.heap.size + 1 + 1 + 1) 48 i0 (.agg #[.int .i64 0, .int .i64 0]) 2 16 Try.underlying25 hi0 hz0 hz1 hz2 rfl (by decide) (.slice A m d) m (fl es) rfl (HROW.out.alloc _) ⟨wr.heap.size, 0, none⟩ 1 1 [.int .i64 (a5 : Int), .int .i64 (b5 : Int)] rfl rfl (World.news_of_block (cs := #[.int .i64 (a5 : Int), .int .i64 (b5 : Int)]) (t := 48) (fr := (0, 0)) (heap_alloc_new wr _)) (by simp [Value.oneCell']) (by decide) (by unfold maxLen; omega) (by omega) (by simp; omega) _ rfl ?_; intro g' cap' w1 hown1 hgrow1 hor1 hlt1; have hOB := (hM2.keep ((Below.refl _ wr).alloc (Nat.le_refl _) (.cells #[.int .i64 (a5 : Int), .int .i64 (b5 : Int)] 48))).grown hgrow1 (fun e => by have := hrl _ e.symm; omega); have hPB := (hM1.keep ((Below.refl _ wr).alloc (Nat.le_refl _) (.cells #[.int .i64 (a5 : Int), .int .i64 (b5 : Int)] 48))).grown hgrow1 (fun e => by have := hrl _ e.symm; omega); have hQB := (hM0.keep ((Below.refl _ wr).alloc (Nat.le_refl _) (.cells #[.int .i64 (a5 : Int), .int .i64 (b5 : Int)] 48))).grown hgrow1 (fun e => by have := hrl _ e.symm; omega); obtain ⟨d0, d1⟩ := hOB.c2; obtain ⟨e0, e1⟩ := hOB.f2)
          go_roundg (30 - (k + 1))
          case measure => omega
          case rel =>
            refine ⟨k + 1, j + 2, es ++ [(a5, b5)], some ⟨g', 0, none⟩, m + 1, cap', by go_num, by have := HJ.out; omega, by omega, rfl, by omega, ok_snoc HO.out ha5n hb5n, ?_, box_set1 hOB, hPB.far1 (by omega) _ _, hQB.far1 (by omega) _ _, fun h => absurd h (by simp), ?_⟩
            · rw [fl_snoc]; exact ownsRow_setCell_below hown1 (by show w.heap.size + 1 + 1 < _; omega) _
            · exact Below.setCell ((hbl.alloc hbs _).grown hgrow1 (by simp; omega) (fun g2 hg2 => by have := hrl g2 hg2; omega)) (p := ⟨w.heap.size + 1 + 1, 1, none⟩) (by show _ ≤ w.heap.size + 1 + 1; omega) _
      · have hk4d : (K % 4 == 2) = false := by simpa using hk4
        by_cases hn5 : (n : Int) % 5 = 0
        · have hn5d : ((n : Int) % 5 == 0) = true := by simpa using hn5
          go_wp2_with (at_builtin; refine wpList_append_lies _ rfl _ _ 25 rfl (w.heap.size + 1 + 1 + 1) 48 i0 (.agg #[.int .i64 0, .int .i64 0]) 2 16 Try.underlying25 hi0 hz0 hz1 hz2 rfl (by decide) (.slice A m d) m (fl es) rfl (HROW.out.alloc _) ⟨wr.heap.size, 0, none⟩ 1 1 [.int .i64 (u : Int), .int .i64 (v : Int)] rfl rfl (World.news_of_block (cs := #[.int .i64 (u : Int), .int .i64 (v : Int)]) (t := 48) (fr := (0, 0)) (heap_alloc_new wr _)) (by simp [Value.oneCell']) (by decide) (by unfold maxLen; omega) (by omega) (by simp; omega) _ rfl ?_; intro g' cap' w1 hown1 hgrow1 hor1 hlt1; have hOB := (hM2.keep ((Below.refl _ wr).alloc (Nat.le_refl _) (.cells #[.int .i64 (u : Int), .int .i64 (v : Int)] 48))).grown hgrow1 (fun e => by have := hrl _ e.symm; omega); have hPB := (hM1.keep ((Below.refl _ wr).alloc (Nat.le_refl _) (.cells #[.int .i64 (u : Int), .int .i64 (v : Int)] 48))).grown hgrow1 (fun e => by have := hrl _ e.symm; omega); have hQB := (hM0.keep ((Below.refl _ wr).alloc (Nat.le_refl _) (.cells #[.int .i64 (u : Int), .int .i64 (v : Int)] 48))).grown hgrow1 (fun e => by have := hrl _ e.symm; omega); obtain ⟨d0, d1⟩ := hOB.c2; obtain ⟨e0, e1⟩ := hOB.f2)
          go_roundg (30 - (k + 1))
          case measure => omega
          case rel =>
            refine ⟨k + 1, j + 2, es ++ [(u, v)], some ⟨g', 0, none⟩, m + 1, cap', by go_num, by have := HJ.out; omega, by omega, rfl, by omega, ok_snoc HO.out hun hvn, ?_, box_set1 hOB, hPB.far1 (by omega) _ _, hQB.far1 (by omega) _ _, fun h => absurd h (by simp), ?_⟩
            · rw [fl_snoc]; exact ownsRow_setCell_below hown1 (by show w.heap.size + 1 + 1 < _; omega) _
            · exact Below.setCell ((hbl.alloc hbs _).grown hgrow1 (by simp; omega) (fun g2 hg2 => by have := hrl g2 hg2; omega)) (p := ⟨w.heap.size + 1 + 1, 1, none⟩) (by show _ ≤ w.heap.size + 1 + 1; omega) _
        · have hn5d : ((n : Int) % 5 == 0) = false := by simpa using hn5
          go_wp2_with (at_builtin; refine wpList_append_lies _ rfl _ _ 25 rfl (w.heap.size + 1 + 1 + 1) 48 i0 (.agg #[.int .i64 0, .int .i64 0]) 2 16 Try.underlying25 hi0 hz0 hz1 hz2 rfl (by decide) (.slice A m d) m (fl es) rfl (HROW.out.alloc _) ⟨wr.heap.size, 0, none⟩ 1 1 [.int .i64 (u : Int), .int .i64 (v : Int)] rfl rfl (World.news_of_block (cs := #[.int .i64 (u : Int), .int .i64 (v : Int)]) (t := 48) (fr := (0, 0)) (heap_alloc_new wr _)) (by simp [Value.oneCell']) (by decide) (by unfold maxLen; omega) (by omega) (by simp; omega) _ rfl ?_; intro g' cap' w1 hown1 hgrow1 hor1 hlt1; have hOB := (hM2.keep ((Below.refl _ wr).alloc (Nat.le_refl _) (.cells #[.int .i64 (u : Int), .int .i64 (v : Int)] 48))).grown hgrow1 (fun e => by have := hrl _ e.symm; omega); have hPB := (hM1.keep ((Below.refl _ wr).alloc (Nat.le_refl _) (.cells #[.int .i64 (u : Int), .int .i64 (v : Int)] 48))).grown hgrow1 (fun e => by have := hrl _ e.symm; omega); have hQB := (hM0.keep ((Below.refl _ wr).alloc (Nat.le_refl _) (.cells #[.int .i64 (u : Int), .int .i64 (v : Int)] 48))).grown hgrow1 (fun e => by have := hrl _ e.symm; omega); obtain ⟨d0, d1⟩ := hOB.c2; obtain ⟨e0, e1⟩ := hOB.f2)
          go_roundg (30 - (k + 1))
          case measure => omega
          case rel =>
            refine ⟨k + 1, j + 2, es ++ [(u, v)], some ⟨g', 0, none⟩, m + 1, cap', by go_num, by have := HJ.out; omega, by omega, rfl, by omega, ok_snoc HO.out hun hvn, ?_, box_set1 hOB, hPB.far1 (by omega) _ _, hQB.far1 (by omega) _ _, fun h => absurd h (by simp), ?_⟩
            · rw [fl_snoc]; exact ownsRow_setCell_below hown1 (by show w.heap.size + 1 + 1 < _; omega) _
            · exact Below.setCell ((hbl.alloc hbs _).grown hgrow1 (by simp; omega) (fun g2 hg2 => by have := hrl g2 hg2; omega)) (p := ⟨w.heap.size + 1 + 1, 1, none⟩) (by show _ ≤ w.heap.size + 1 + 1; omega) _
    · have hltd : decide ((u : Int) < (v : Int)) = false := decide_eq_false (by omega)
      by_cases hk4 : K % 4 = 2
      · obtain ⟨a5, ha5, ha5n⟩ := mod_nat' (x := 5 * (v : Int) + 3) (by omega) (by omega) hn0
        obtain ⟨b5, hb5, hb5n⟩ := mod_nat' (x := 5 * (u : Int) + 3) (by omega) (by omega) hn0
        by_cases hn5 : (n : Int) % 5 = 0
        · have hn5d : ((n : Int) % 5 == 0) = true := by simpa using hn5
          go_wp2
          go_roundg (30 - (k + 1))
          case measure => omega
          case rel => exact ⟨k + 1, j + 2, es, A, m, d, by go_num, by have := HJ.out; omega, by omega, rfl, by omega, HO.out, HROW.out, hM2, hM1, hM0, HNIL.out, hbl⟩
        · have hn5d : ((n : Int) % 5 == 0) = false := by simpa using hn5
          go_wp2_with (at_builtin; refine wpList_append_lies _ rfl _ _ 25 rfl (w.heap.size + 1 + 1 + 1) 48 i0 (.agg #[.int .i64 0, .int .i64 0]) 2 16 Try.underlying25 hi0 hz0 hz1 hz2 rfl (by decide) (.slice A m d) m (fl es) rfl (HROW.out.alloc _) ⟨wr.heap.size, 0, none⟩ 1 1 [.int .i64 (a5 : Int), .int .i64 (b5 : Int)] rfl rfl (World.news_of_block (cs := #[.int .i64 (a5 : Int), .int .i64 (b5 : Int)]) (t := 48) (fr := (0, 0)) (heap_alloc_new wr _)) (by simp [Value.oneCell']) (by decide) (by unfold maxLen; omega) (by omega) (by simp; omega) _ rfl ?_; intro g' cap' w1 hown1 hgrow1 hor1 hlt1; have hOB := (hM2.keep ((Below.refl _ wr).alloc (Nat.le_refl _) (.cells #[.int .i64 (a5 : Int), .int .i64 (b5 : Int)] 48))).grown hgrow1 (fun e => by have := hrl _ e.symm; omega); have hPB := (hM1.keep ((Below.refl _ wr).alloc (Nat.le_refl _) (.cells #[.int .i64 (a5 : Int), .int .i64 (b5 : Int)] 48))).grown hgrow1 (fun e => by have := hrl _ e.symm; omega); have hQB := (hM0.keep ((Below.refl _ wr).alloc (Nat.le_refl _) (.cells #[.int .i64 (a5 : Int), .int .i64 (b5 : Int)] 48))).grown hgrow1 (fun e => by have := hrl _ e.symm; omega); obtain ⟨d0, d1⟩ := hOB.c2; obtain ⟨e0, e1⟩ := hOB.f2)
          go_roundg (30 - (k + 1))
          case measure => omega
          case rel =>
            refine ⟨k + 1, j + 2, es ++ [(a5, b5)], some ⟨g', 0, none⟩, m + 1, cap', by go_num, by have := HJ.out; omega, by omega, rfl, by omega, ok_snoc HO.out ha5n hb5n, ?_, box_set1 hOB, hPB.far1 (by omega) _ _, hQB.far1 (by omega) _ _, fun h => absurd h (by simp), ?_⟩
            · rw [fl_snoc]; exact ownsRow_setCell_below hown1 (by show w.heap.size + 1 + 1 < _; omega) _
            · exact Below.setCell ((hbl.alloc hbs _).grown hgrow1 (by simp; omega) (fun g2 hg2 => by have := hrl g2 hg2; omega)) (p := ⟨w.heap.size + 1 + 1, 1, none⟩) (by show _ ≤ w.heap.size + 1 + 1; omega) _
      · have hk4d : (K % 4 == 2) = false := by simpa using hk4
        by_cases hn5 : (n : Int) % 5 = 0
        · have hn5d : ((n : Int) % 5 == 0) = true := by simpa using hn5
          go_wp2_with (at_builtin; refine wpList_append_lies _ rfl _ _ 25 rfl (w.heap.size + 1 + 1 + 1) 48 i0 (.agg #[.int .i64 0, .int .i64 0]) 2 16 Try.underlying25 hi0 hz0 hz1 hz2 rfl (by decide) (.slice A m d) m (fl es) rfl (HROW.out.alloc _) ⟨wr.heap.size, 0, none⟩ 1 1 [.int .i64 (v : Int), .int .i64 (u : Int)] rfl rfl (World.news_of_block (cs := #[.int .i64 (v : Int), .int .i64 (u : Int)]) (t := 48) (fr := (0, 0)) (heap_alloc_new wr _)) (by simp [Value.oneCell']) (by decide) (by unfold maxLen; omega) (by omega) (by simp; omega) _ rfl ?_; intro g' cap' w1 hown1 hgrow1 hor1 hlt1; have hOB := (hM2.keep ((Below.refl _ wr).alloc (Nat.le_refl _) (.cells #[.int .i64 (v : Int), .int .i64 (u : Int)] 48))).grown hgrow1 (fun e => by have := hrl _ e.symm; omega); have hPB := (hM1.keep ((Below.refl _ wr).alloc (Nat.le_refl _) (.cells #[.int .i64 (v : Int), .int .i64 (u : Int)] 48))).grown hgrow1 (fun e => by have := hrl _ e.symm; omega); have hQB := (hM0.keep ((Below.refl _ wr).alloc (Nat.le_refl _) (.cells #[.int .i64 (v : Int), .int .i64 (u : Int)] 48))).grown hgrow1 (fun e => by have := hrl _ e.symm; omega); obtain ⟨d0, d1⟩ := hOB.c2; obtain ⟨e0, e1⟩ := hOB.f2)
          go_roundg (30 - (k + 1))
          case measure => omega
          case rel =>
            refine ⟨k + 1, j + 2, es ++ [(v, u)], some ⟨g', 0, none⟩, m + 1, cap', by go_num, by have := HJ.out; omega, by omega, rfl, by omega, ok_snoc HO.out hvn hun, ?_, box_set1 hOB, hPB.far1 (by omega) _ _, hQB.far1 (by omega) _ _, fun h => absurd h (by simp), ?_⟩
            · rw [fl_snoc]; exact ownsRow_setCell_below hown1 (by show w.heap.size + 1 + 1 < _; omega) _
            · exact Below.setCell ((hbl.alloc hbs _).grown hgrow1 (by simp; omega) (fun g2 hg2 => by have := hrl g2 hg2; omega)) (p := ⟨w.heap.size + 1 + 1, 1, none⟩) (by show _ ≤ w.heap.size + 1 + 1; omega) _
        · have hn5d : ((n : Int) % 5 == 0) = false := by simpa using hn5
          go_wp2_with (at_builtin; refine wpList_append_lies _ rfl _ _ 25 rfl (w.heap.size + 1 + 1 + 1) 48 i0 (.agg #[.int .i64 0, .int .i64 0]) 2 16 Try.underlying25 hi0 hz0 hz1 hz2 rfl (by decide) (.slice A m d) m (fl es) rfl (HROW.out.alloc _) ⟨wr.heap.size, 0, none⟩ 1 1 [.int .i64 (v : Int), .int .i64 (u : Int)] rfl rfl (World.news_of_block (cs := #[.int .i64 (v : Int), .int .i64 (u : Int)]) (t := 48) (fr := (0, 0)) (heap_alloc_new wr _)) (by simp [Value.oneCell']) (by decide) (by unfold maxLen; omega) (by omega) (by simp; omega) _ rfl ?_; intro g' cap' w1 hown1 hgrow1 hor1 hlt1; have hOB := (hM2.keep ((Below.refl _ wr).alloc (Nat.le_refl _) (.cells #[.int .i64 (v : Int), .int .i64 (u : Int)] 48))).grown hgrow1 (fun e => by have := hrl _ e.symm; omega); have hPB := (hM1.keep ((Below.refl _ wr).alloc (Nat.le_refl _) (.cells #[.int .i64 (v : Int), .int .i64 (u : Int)] 48))).grown hgrow1 (fun e => by have := hrl _ e.symm; omega); have hQB := (hM0.keep ((Below.refl _ wr).alloc (Nat.le_refl _) (.cells #[.int .i64 (v : Int), .int .i64 (u : Int)] 48))).grown hgrow1 (fun e => by have := hrl _ e.symm; omega); obtain ⟨d0, d1⟩ := hOB.c2; obtain ⟨e0, e1⟩ := hOB.f2)
          go_roundg (30 - (k + 1))
          case measure => omega
          case rel =>
            refine ⟨k + 1, j + 2, es ++ [(v, u)], some ⟨g', 0, none⟩, m + 1, cap', by go_num, by have := HJ.out; omega, by omega, rfl, by omega, ok_snoc HO.out hvn hun, ?_, box_set1 hOB, hPB.far1 (by omega) _ _, hQB.far1 (by omega) _ _, fun h => absurd h (by simp), ?_⟩
            · rw [fl_snoc]; exact ownsRow_setCell_below hown1 (by show w.heap.size + 1 + 1 < _; omega) _
            · exact Below.setCell ((hbl.alloc hbs _).grown hgrow1 (by simp; omega) (fun g2 hg2 => by have := hrl g2 hg2; omega)) (p := ⟨w.heap.size + 1 + 1, 1, none⟩) (by show _ ≤ w.heap.size + 1 + 1; omega) _

end Gp
end Go.Proofs.Ytmdleoadodcljaa
