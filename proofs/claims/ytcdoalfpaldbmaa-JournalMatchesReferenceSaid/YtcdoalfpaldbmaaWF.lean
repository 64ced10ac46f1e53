/- The examples. -/
import Derived.Test.YtcdoalfpaldbmaaWE
namespace Go.Proofs.Ytcdoalfpaldbmaa
open Go.RowKit Sl Fr Dg
namespace Jn
set_option linter.unusedVariables false
attribute [local go_sem] field_b0 field_b1 field_r0

theorem dep_of {F : Nat → World × World → World → Prop} {l : List Nat} {w : World} (hd : ∀ j ∈ l, ∃ p, F j p w) (j : Nat) (h : l.contains j = true) : ∃ p, F j p w := hd j (List.contains_iff_mem.1 h)
def sliceS (n : Nat) (R : World → Option Addr → Prop) : FSpec := ⟨fun v => ∃ B c, v = .slice (some ⟨B, 0, none⟩) n c, fun _ v wm => ∀ B c, v = .slice (some ⟨B, 0, none⟩) n c → R wm (some ⟨B, 0, none⟩)⟩
theorem arr_lit (W : World) (l : List Int) (cs : Array Value) (t : TypeId) (h : cs.toList = i64s l) : Arr (W.alloc (.cells cs t)) (some ⟨W.heap.size, 0, none⟩) (i64s l) := fun _ =>
  ⟨W.heap.size, 0, rfl, by simp, fun j u hu => by rw [Nat.zero_add, World.cell?_alloc_at _ _ _ j rfl, ← Array.getElem?_toList, h]; exact hu⟩

def readS (rs : List (List Int)) (n : Nat) (x : Int) : FSpec := ⟨fun v => ∃ A c B d, v = .agg #[.slice A rs.length c, .slice B n d, .int .i64 x, .int .i64 0, .int .u64 0], fun wi v wm => ∀ A c B d, v = .agg #[.slice A rs.length c, .slice B n d, .int .i64 x, .int .i64 0, .int .u64 0] → LLF wm wi.heap.size A rs⟩
def allocS (zs : Array Value) : FSpec := ⟨fun v => ∃ b, v = .pointer (some ⟨b, 0, none⟩), fun wi v wm => v = .pointer (some ⟨wi.heap.size, 0, none⟩) ∧ BoxL wm wi.heap.size zs ∧ wm.heap.size = wi.heap.size + 1⟩
theorem LLF.same {wm w' : World} {base : Nat} {A : Option Addr} {rs : List (List Int)} (h : LLF wm base A rs) (hs : wm.heap.size ≤ w'.heap.size) (hq : ∀ b, base ≤ b → b < wm.heap.size → w'.heap[b]? = wm.heap[b]?) : LL w' A rs := fun hne => by
  obtain ⟨b, o, e, hB, hlt, hc⟩ := h hne
  refine ⟨b, o, e, Nat.lt_of_lt_of_le hlt hs, fun j r hr => ?_⟩
  obtain ⟨A', c, h1, h2, h3⟩ := hc j r hr
  refine ⟨A', c, (World.cell?_of_block (hq b hB hlt)).trans h1, h2, fun hne' => ?_⟩
  obtain ⟨b', o', e', hB', hlt', hc'⟩ := h3 hne'
  exact ⟨b', o', e', Nat.lt_of_lt_of_le hlt' hs, fun i u hu => (World.cell?_of_block (hq b' hB' hlt')).trans (hc' i u hu)⟩
theorem ne_of {a b : Nat} (h : a + 1 ≤ b ∨ b + 1 ≤ a) : a ≠ b := by omega
theorem apart_ne {b N lo hi : Nat} (h1 : lo ≤ b) (h2 : b < hi) (q : hi ≤ N ∨ N + 1 ≤ lo) : b ≠ N := by omega
theorem set5_heap (W : World) (N : Nat) (a b c d e : Value) (k : Nat) (h : k ≠ N) : (((((W.setCell ⟨N, 0, none⟩ a).setCell ⟨N, 1, none⟩ b).setCell ⟨N, 2, none⟩ c).setCell ⟨N, 3, none⟩ d).setCell ⟨N, 4, none⟩ e).heap[k]? = W.heap[k]? :=
  (Below.heap_setCell _ ⟨N, 4, none⟩ e k h).trans ((Below.heap_setCell _ ⟨N, 3, none⟩ d k h).trans ((Below.heap_setCell _ ⟨N, 2, none⟩ c k h).trans ((Below.heap_setCell _ ⟨N, 1, none⟩ b k h).trans (Below.heap_setCell _ ⟨N, 0, none⟩ a k h))))
theorem set5_below {n : Nat} {w W : World} (h : Below n w W) {N : Nat} (hN : n ≤ N) (a b c d e : Value) : Below n w (((((W.setCell ⟨N, 0, none⟩ a).setCell ⟨N, 1, none⟩ b).setCell ⟨N, 2, none⟩ c).setCell ⟨N, 3, none⟩ d).setCell ⟨N, 4, none⟩ e) :=
  ((((h.setCell (p := ⟨N, 0, none⟩) hN a).setCell (p := ⟨N, 1, none⟩) hN b).setCell (p := ⟨N, 2, none⟩) hN c).setCell (p := ⟨N, 3, none⟩) hN d).setCell (p := ⟨N, 4, none⟩) hN e
theorem set5_size (W : World) (N : Nat) (a b c d e : Value) : (((((W.setCell ⟨N, 0, none⟩ a).setCell ⟨N, 1, none⟩ b).setCell ⟨N, 2, none⟩ c).setCell ⟨N, 3, none⟩ d).setCell ⟨N, 4, none⟩ e).heap.size = W.heap.size := by simp
theorem ll_lit1 (V : World) : LL ((V.alloc (.cells #[.int .i64 5] 3)).alloc (.cells #[.slice (some ⟨V.heap.size, 0, none⟩) 1 1] 29)) (some ⟨V.heap.size + 1, 0, none⟩) [[5]] := fun _ => by
  refine ⟨V.heap.size + 1, 0, rfl, by simp, fun j r hr => ?_⟩
  match j, hr with
  | 0, hr =>
    cases hr
    refine ⟨some ⟨V.heap.size, 0, none⟩, 1, ?_, by decide, (arr_lit V [5] _ 3 rfl).keep ((Below.refl _ _).alloc (Nat.le_refl _) _)⟩
    simp
  | j + 1, hr => simp at hr
theorem ll_lit2 (V : World) : LL (((V.alloc (.cells #[.int .i64 5] 3)).alloc (.cells #[] 3)).alloc (.cells #[.slice (some ⟨V.heap.size, 0, none⟩) 1 1, .slice (some ⟨V.heap.size + 1, 0, none⟩) 0 0] 29)) (some ⟨V.heap.size + 1 + 1, 0, none⟩) [[5], []] := fun _ => by
  refine ⟨V.heap.size + 1 + 1, 0, rfl, by simp, fun j r hr => ?_⟩
  have h0 := World.cell?_alloc_at (w := (V.alloc (.cells #[.int .i64 5] 3)).alloc (.cells #[] 3)) #[.slice (some ⟨V.heap.size, 0, none⟩) 1 1, .slice (some ⟨V.heap.size + 1, 0, none⟩) 0 0] 29 _ 0 rfl
  have h1 := World.cell?_alloc_at (w := (V.alloc (.cells #[.int .i64 5] 3)).alloc (.cells #[] 3)) #[.slice (some ⟨V.heap.size, 0, none⟩) 1 1, .slice (some ⟨V.heap.size + 1, 0, none⟩) 0 0] 29 _ 1 rfl
  match j, hr with
  | 0, hr =>
    cases hr
    exact ⟨some ⟨V.heap.size, 0, none⟩, 1, by simpa using h0, by decide, ((arr_lit V [5] _ 3 rfl).keep ((Below.refl _ _).alloc (Nat.le_refl _) _)).keep ((Below.refl _ _).alloc (Nat.le_refl _) _)⟩
  | 1, hr =>
    cases hr
    exact ⟨some ⟨V.heap.size + 1, 0, none⟩, 0, by simpa using h1, by decide, fun h => absurd rfl h⟩
  | j + 2, hr => simp at hr
theorem arr_zeros (W : World) (n : Nat) (t : TypeId) : Arr (W.alloc (.cells (madeCells #[.int .i64 0] n) t)) (some ⟨W.heap.size, 0, none⟩) (i64s (List.replicate n 0)) := fun _ => by
  have h := CellsV.made W (.int .i64 0) n t
  refine ⟨W.heap.size, 0, rfl, h.lt, fun j u hu => ?_⟩
  unfold i64s at hu
  rw [List.map_replicate, List.getElem?_replicate] at hu
  split at hu
  · cases hu
    rw [Nat.zero_add]
    exact h.cell j (by assumption)
  · cases hu
theorem jb50 : (jb.take 50).length = 50 := by rw [List.length_take, jb_len]; rfl
theorem ja31 : (ja.take 31).length = 31 := by rw [List.length_take, ja_len]; rfl
theorem errR_nil : errR [] = 0 := rfl
theorem errR_31 : errR (ja.take 31) = 60 := if_neg (fun h => by have := congrArg List.length h; rw [ja31] at this; cases this)

set_option maxRecDepth 100000 in
set_option maxHeartbeats 12800000 in
theorem examples_any (w : World) : Calls Try.prog 9 #[] w fun e w' => e = .returned (.bool true) ∧ Below w.heap.size w w' := by
  go_enter Try.func9, Try.ntmps9
  have hb5 := (Below.refl w.heap.size w).alloc (Nat.le_refl _) (.cells #[.int .i64 5] 3)
  have hpa := putL_any none (some ⟨w.heap.size, 0, none⟩) [] [] [5] [] 0 1 (w.alloc (.cells #[.int .i64 5] 3)) (fun h => absurd rfl h) (fun _ => ⟨rfl, rfl⟩) (fun x hx => by cases hx) (by decide) (by decide) parses_nil (arr_lit w [5] _ _ rfl) (ja_ok _ (by simp)).2 (by decide)
  rw [put_a] at hpa
  go_upto_region 2 with (go_at_call 14; refine hpa.mono ?_; rintro e w1 ⟨Aa, ca, rfl, ga1, ga2, ga3, hb1⟩)
  rw [ja_len] at ga1
  have hbA := BoxL.new w1 #[.slice Aa 32 ca, .int .i64 0] 37
  have hkA := (Below.refl _ w1).alloc (Nat.le_refl _) (.cells #[.slice Aa 32 ca, .int .i64 0] 37)
  have hja := Lib.hid ((ArrF.arr ga3).keep hkA)
  have hbX := (hb5.trans (hb1.mono hb5.size)).trans (hkA.mono (by have := hb5.size; have := hb1.size; omega))
  have hga2 := Lib.hid ga2
  clear hpa hb5 hb1 hkA ga3 ga2
  have hsX : (w1.alloc (.cells #[.slice Aa 32 ca, .int .i64 0] 37)).heap.size = w1.heap.size + 1 := World.size_alloc _ _
  try rw [ja_len]
  generalize w1.alloc (.cells #[.slice Aa 32 ca, .int .i64 0] 37) = X at *
  generalize w1.heap.size = Na at *
  have k0 := hbA.get (i := 0) rfl
  have hpb := putL_any Aa none ja [] [] [[5]] ca 0 X hja.out (fun e => by obtain ⟨q, _⟩ := hga2.out e; have := congrArg List.length q; rw [ja_len] at this; cases this) ja_b8 (by rw [ja_len]; decide) (by rw [ja_len]; exact ga1) ja_reads (fun h => absurd rfl h) (fun x hx => by cases hx) (by decide)
  rw [put_b, ja_len] at hpb
  go_upto_region 3 with (go_at_call 14; refine hpb.mono ?_; rintro e w2 ⟨Ab, cb, rfl, gb1, gb2, gb3, hb2⟩)
  rw [jb_len] at gb1
  have hbB := BoxL.new w2 #[.slice Ab 56 cb, .int .i64 0] 37
  have hkB := (Below.refl _ w2).alloc (Nat.le_refl _) (.cells #[.slice Ab 56 cb, .int .i64 0] 37)
  have hjb := Lib.hid ((ArrF.arr gb3).keep hkB)
  have hja2 := Lib.hid ((Byt.keep hja.out hb2).keep hkB)
  have hbA2 := (hbA.keep hb2).keep hkB
  have hsY : (w2.alloc (.cells #[.slice Ab 56 cb, .int .i64 0] 37)).heap.size = w2.heap.size + 1 := World.size_alloc _ _
  have hbY := (hbX.trans (hb2.mono hbX.size)).trans (hkB.mono (by have := hbX.size; have := hb2.size; omega))
  have hgb2 := Lib.hid gb2
  clear hpb hb2 hkB gb3 gb2 k0 hbA hbX hsX hja
  try rw [jb_len]
  generalize w2.alloc (.cells #[.slice Ab 56 cb, .int .i64 0] 37) = Y at *
  generalize w2.heap.size = Nb at *
  have HA : Aa ≠ none := fun e => by obtain ⟨q, _⟩ := hga2.out e; have := congrArg List.length q; rw [ja_len] at this; cases this
  have HB : Ab ≠ none := fun e => by obtain ⟨q, _⟩ := hgb2.out e; have := congrArg List.length q; rw [jb_len] at this; cases this
  have ka0 : ∀ wz, Below Y.heap.size Y wz → wz.cell? ⟨Na, 0, none⟩ = some (.slice Aa 32 ca) := fun wz hz => (hbA2.keep hz).get (i := 0) rfl
  have ka1 : ∀ wz, Below Y.heap.size Y wz → wz.cell? ⟨Na, 1, none⟩ = some (.int .i64 0) := fun wz hz => (hbA2.keep hz).get (i := 1) rfl
  have kb0 : ∀ wz, Below Y.heap.size Y wz → wz.cell? ⟨Nb, 0, none⟩ = some (.slice Ab 56 cb) := fun wz hz => (hbB.keep hz).get (i := 0) rfl
  have kb1 : ∀ wz, Below Y.heap.size Y wz → wz.cell? ⟨Nb, 1, none⟩ = some (.int .i64 0) := fun wz hz => (hbB.keep hz).get (i := 1) rfl
  have WA := fun (wz : World) (hz : Below Y.heap.size Y wz) (at_ : Nat) (h : at_ + 8 ≤ 32) => wordL_any Aa ja at_ ca wz (Byt.keep hja2.out hz) ja_b8 (by rw [ja_len]; exact h) (by rw [ja_len]; decide)
  have WB := fun (wz : World) (hz : Below Y.heap.size Y wz) (at_ : Nat) (h : at_ + 8 ≤ 56) => wordL_any Ab jb at_ cb wz (Byt.keep hjb.out hz) jb_b8 (by rw [jb_len]; exact h) (by rw [jb_len]; decide)
  rw [ja_len] at WA
  rw [jb_len] at WB
  refine wp_region_flow 63 [.det (.pointer (some ⟨Na, 1, none⟩)), .det (.int .i64 0), .det (.bool false), .det (.bool false), .det (.pointer (some ⟨Nb, 1, none⟩)), .det (.int .i64 0), .det (.bool false), .det (.bool false), .det (.bool false), .det (.pointer (some ⟨Na, 0, none⟩)), .det (.slice Aa 32 ca), .det (.int .i64 32), .det (.bool false), .det (.bool false), .det (.bool false), .det (.pointer (some ⟨Nb, 0, none⟩)), .det (.slice Ab 56 cb), .det (.int .i64 56), .det (.bool false), .det (.bool false), .det (.bool false), .det (.pointer (some ⟨Na, 0, none⟩)), .det (.slice Aa 32 ca), .det (.int .u64 1), .det (.bool false), .det (.bool false), .det (.bool false), .det (.pointer (some ⟨Na, 0, none⟩)), .det (.slice Aa 32 ca), .det (.int .u64 (tagI 0 [1])), sliceS 1 (fun wm A => Arr wm A (i64s [1])), .det (.int .u64 (tagI 0 [1])), .det (.bool false), .det (.bool false), .det (.bool false), .det (.pointer (some ⟨Na, 0, none⟩)), .det (.slice Aa 32 ca), .det (.int .u64 5), .det (.bool false), .det (.bool false), .det (.bool false), .det (.pointer (some ⟨Na, 0, none⟩)), .det (.slice Aa 32 ca), .det (.int .u64 (tagI 0 [5])), sliceS 1 (fun wm A => Arr wm A (i64s [5])), .det (.int .u64 (tagI 0 [5])), .det (.bool false), .det (.bool false), .det (.bool false), .det (.pointer (some ⟨Nb, 0, none⟩)), .det (.slice Ab 56 cb), .det (.int .u64 0), .det (.bool false), .det (.bool false), .det (.bool false), .det (.pointer (some ⟨Nb, 0, none⟩)), .det (.slice Ab 56 cb), .det (.int .u64 (tagI (tagI 0 [5]) [])), .det (.pointer (some ⟨Na, 0, none⟩)), .det (.slice Aa 32 ca), .det (.int .u64 (tagI 0 [5])), .det (.int .u64 (tagI (tagI 0 [5]) [])), .det (.bool false)] (by kernel_rfl) (by kernel_rfl) rfl ?_
  simp only [List.take_succ_cons, List.take_zero, List.drop_succ_cons, List.drop_zero]
  refine flowL_det (fun wz hz hd => stepF_reads (by rfl) ?_) ?_
  · go_simp; try rfl
  simp only [Act.put, List.setIfInBounds_toArray, List.set_cons_zero, List.set_cons_succ]
  refine flowL_det (fun wz hz hd => stepF_reads (by rfl) ?_) ?_
  · have q := ka1 wz hz; go_simp; try rfl
  simp only [Act.put, List.setIfInBounds_toArray, List.set_cons_zero, List.set_cons_succ]
  refine flowL_det (fun wz hz hd => stepF_reads (by rfl) ?_) ?_
  · go_simp; try rfl
  simp only [Act.put, List.setIfInBounds_toArray, List.set_cons_zero, List.set_cons_succ]
  refine flowL_det (fun wz hz hd => stepF_reads (by rfl) ?_) ?_
  · go_simp; try rfl
  simp only [Act.put, List.setIfInBounds_toArray, List.set_cons_zero, List.set_cons_succ]
  refine flowL_det (fun wz hz hd => stepF_reads (by rfl) ?_) ?_
  · go_simp; try rfl
  simp only [Act.put, List.setIfInBounds_toArray, List.set_cons_zero, List.set_cons_succ]
  refine flowL_det (fun wz hz hd => stepF_reads (by rfl) ?_) ?_
  · have q := kb1 wz hz; go_simp; try rfl
  simp only [Act.put, List.setIfInBounds_toArray, List.set_cons_zero, List.set_cons_succ]
  refine flowL_det (fun wz hz hd => stepF_reads (by rfl) ?_) ?_
  · go_simp; try rfl
  simp only [Act.put, List.setIfInBounds_toArray, List.set_cons_zero, List.set_cons_succ]
  refine flowL_det (fun wz hz hd => stepF_reads (by rfl) ?_) ?_
  · go_simp; try rfl
  simp only [Act.put, List.setIfInBounds_toArray, List.set_cons_zero, List.set_cons_succ]
  refine flowL_det (fun wz hz hd => stepF_reads (by rfl) ?_) ?_
  · go_simp; try rfl
  simp only [Act.put, List.setIfInBounds_toArray, List.set_cons_zero, List.set_cons_succ]
  refine flowL_det (fun wz hz hd => stepF_reads (by rfl) ?_) ?_
  · go_simp; try rfl
  simp only [Act.put, List.setIfInBounds_toArray, List.set_cons_zero, List.set_cons_succ]
  refine flowL_det (fun wz hz hd => stepF_reads (by rfl) ?_) ?_
  · have q := ka0 wz hz; go_simp; try rfl
  simp only [Act.put, List.setIfInBounds_toArray, List.set_cons_zero, List.set_cons_succ]
  refine flowL_det (fun wz hz hd => stepF_reads (by rfl) ?_) ?_
  · go_simp; try rfl
  simp only [Act.put, List.setIfInBounds_toArray, List.set_cons_zero, List.set_cons_succ]
  refine flowL_det (fun wz hz hd => stepF_reads (by rfl) ?_) ?_
  · go_simp; try rfl
  simp only [Act.put, List.setIfInBounds_toArray, List.set_cons_zero, List.set_cons_succ]
  refine flowL_det (fun wz hz hd => stepF_reads (by rfl) ?_) ?_
  · go_simp; try rfl
  simp only [Act.put, List.setIfInBounds_toArray, List.set_cons_zero, List.set_cons_succ]
  refine flowL_det (fun wz hz hd => stepF_reads (by rfl) ?_) ?_
  · go_simp; try rfl
  simp only [Act.put, List.setIfInBounds_toArray, List.set_cons_zero, List.set_cons_succ]
  refine flowL_det (fun wz hz hd => stepF_reads (by rfl) ?_) ?_
  · go_simp; try rfl
  simp only [Act.put, List.setIfInBounds_toArray, List.set_cons_zero, List.set_cons_succ]
  refine flowL_det (fun wz hz hd => stepF_reads (by rfl) ?_) ?_
  · have q := kb0 wz hz; go_simp; try rfl
  simp only [Act.put, List.setIfInBounds_toArray, List.set_cons_zero, List.set_cons_succ]
  refine flowL_det (fun wz hz hd => stepF_reads (by rfl) ?_) ?_
  · go_simp; try rfl
  simp only [Act.put, List.setIfInBounds_toArray, List.set_cons_zero, List.set_cons_succ]
  refine flowL_det (fun wz hz hd => stepF_reads (by rfl) ?_) ?_
  · go_simp; try rfl
  simp only [Act.put, List.setIfInBounds_toArray, List.set_cons_zero, List.set_cons_succ]
  refine flowL_det (fun wz hz hd => stepF_reads (by rfl) ?_) ?_
  · go_simp; try rfl
  simp only [Act.put, List.setIfInBounds_toArray, List.set_cons_zero, List.set_cons_succ]
  refine flowL_det (fun wz hz hd => stepF_reads (by rfl) ?_) ?_
  · go_simp; try rfl
  simp only [Act.put, List.setIfInBounds_toArray, List.set_cons_zero, List.set_cons_succ]
  refine flowL_det (fun wz hz hd => stepF_reads (by rfl) ?_) ?_
  · go_simp; try rfl
  simp only [Act.put, List.setIfInBounds_toArray, List.set_cons_zero, List.set_cons_succ]
  refine flowL_det (fun wz hz hd => stepF_reads (by rfl) ?_) ?_
  · have q := ka0 wz hz; go_simp; try rfl
  simp only [Act.put, List.setIfInBounds_toArray, List.set_cons_zero, List.set_cons_succ]
  refine flowL_det (fun wz hz hd => stepF_walk (by rfl) (fun K hK => ?_)) ?_
  · go_wp2_with fail
    go_at_call 23
    refine (WA wz hz 0 (by decide)).mono ?_
    rintro e w9 ⟨rfl, rfl⟩
    exact hK.out _ _ (congrArg (Value.int .u64) a_0) trivial (Below.refl _ _)
  simp only [Act.put, List.setIfInBounds_toArray, List.set_cons_zero, List.set_cons_succ]
  refine flowL_det (fun wz hz hd => stepF_reads (by rfl) ?_) ?_
  · go_simp; try rfl
  simp only [Act.put, List.setIfInBounds_toArray, List.set_cons_zero, List.set_cons_succ]
  refine flowL_det (fun wz hz hd => stepF_reads (by rfl) ?_) ?_
  · go_simp; try rfl
  simp only [Act.put, List.setIfInBounds_toArray, List.set_cons_zero, List.set_cons_succ]
  refine flowL_det (fun wz hz hd => stepF_reads (by rfl) ?_) ?_
  · go_simp; try rfl
  simp only [Act.put, List.setIfInBounds_toArray, List.set_cons_zero, List.set_cons_succ]
  refine flowL_det (fun wz hz hd => stepF_reads (by rfl) ?_) ?_
  · go_simp; try rfl
  simp only [Act.put, List.setIfInBounds_toArray, List.set_cons_zero, List.set_cons_succ]
  refine flowL_det (fun wz hz hd => stepF_reads (by rfl) ?_) ?_
  · have q := ka0 wz hz; go_simp; try rfl
  simp only [Act.put, List.setIfInBounds_toArray, List.set_cons_zero, List.set_cons_succ]
  refine flowL_det (fun wz hz hd => stepF_walk (by rfl) (fun K hK => ?_)) ?_
  · go_wp2_with fail
    go_at_call 23
    refine (WA wz hz 8 (by decide)).mono ?_
    rintro e w9 ⟨rfl, rfl⟩
    exact hK.out _ _ (congrArg (Value.int .u64) a_8) trivial (Below.refl _ _)
  simp only [Act.put, List.setIfInBounds_toArray, List.set_cons_zero, List.set_cons_succ]
  refine flowL_make (⟨_, 0, 1, rfl⟩) (fun wz hz hd => stepF_walk (by rfl) (fun K hK => ?_)) (fun v hv => ?_)
  · go_simp
    refine hK.out _ _ ⟨_, _, rfl⟩ (fun B c e => ?_) ((Below.refl _ _).alloc (Nat.le_refl _) _)
    cases e
    exact arr_lit wz [1] _ _ rfl
  obtain ⟨P, cP, rfl⟩ := hv
  simp only [Act.put, List.setIfInBounds_toArray, List.set_cons_zero, List.set_cons_succ]
  refine flowL_det (fun wz hz hd => stepF_walk (by rfl) (fun K hK => ?_)) ?_
  · obtain ⟨p, hp⟩ := dep_of hd 30 (by decide +kernel)
    go_wp2_with fail
    go_at_call 24
    refine (tag_any (0) (some ⟨P, 0, none⟩) [1] cP wz (by decide) (Arr.keep (hp.post P cP rfl) hp.since)).mono ?_
    rintro e w9 ⟨rfl, hb⟩
    exact hK.out _ _ rfl trivial hb
  simp only [Act.put, List.setIfInBounds_toArray, List.set_cons_zero, List.set_cons_succ]
  refine flowL_det (fun wz hz hd => stepF_reads (by rfl) ?_) ?_
  · go_simp; try rfl
  simp only [Act.put, List.setIfInBounds_toArray, List.set_cons_zero, List.set_cons_succ]
  refine flowL_det (fun wz hz hd => stepF_reads (by rfl) ?_) ?_
  · go_simp; try rfl
  simp only [Act.put, List.setIfInBounds_toArray, List.set_cons_zero, List.set_cons_succ]
  refine flowL_det (fun wz hz hd => stepF_reads (by rfl) ?_) ?_
  · go_simp; try rfl
  simp only [Act.put, List.setIfInBounds_toArray, List.set_cons_zero, List.set_cons_succ]
  refine flowL_det (fun wz hz hd => stepF_reads (by rfl) ?_) ?_
  · go_simp; try rfl
  simp only [Act.put, List.setIfInBounds_toArray, List.set_cons_zero, List.set_cons_succ]
  refine flowL_det (fun wz hz hd => stepF_reads (by rfl) ?_) ?_
  · have q := ka0 wz hz; go_simp; try rfl
  simp only [Act.put, List.setIfInBounds_toArray, List.set_cons_zero, List.set_cons_succ]
  refine flowL_det (fun wz hz hd => stepF_walk (by rfl) (fun K hK => ?_)) ?_
  · go_wp2_with fail
    go_at_call 23
    refine (WA wz hz 16 (by decide)).mono ?_
    rintro e w9 ⟨rfl, rfl⟩
    exact hK.out _ _ (congrArg (Value.int .u64) a_16) trivial (Below.refl _ _)
  simp only [Act.put, List.setIfInBounds_toArray, List.set_cons_zero, List.set_cons_succ]
  refine flowL_det (fun wz hz hd => stepF_reads (by rfl) ?_) ?_
  · go_simp; try rfl
  simp only [Act.put, List.setIfInBounds_toArray, List.set_cons_zero, List.set_cons_succ]
  refine flowL_det (fun wz hz hd => stepF_reads (by rfl) ?_) ?_
  · go_simp; try rfl
  simp only [Act.put, List.setIfInBounds_toArray, List.set_cons_zero, List.set_cons_succ]
  refine flowL_det (fun wz hz hd => stepF_reads (by rfl) ?_) ?_
  · go_simp; try rfl
  simp only [Act.put, List.setIfInBounds_toArray, List.set_cons_zero, List.set_cons_succ]
  refine flowL_det (fun wz hz hd => stepF_reads (by rfl) ?_) ?_
  · go_simp; try rfl
  simp only [Act.put, List.setIfInBounds_toArray, List.set_cons_zero, List.set_cons_succ]
  refine flowL_det (fun wz hz hd => stepF_reads (by rfl) ?_) ?_
  · have q := ka0 wz hz; go_simp; try rfl
  simp only [Act.put, List.setIfInBounds_toArray, List.set_cons_zero, List.set_cons_succ]
  refine flowL_det (fun wz hz hd => stepF_walk (by rfl) (fun K hK => ?_)) ?_
  · go_wp2_with fail
    go_at_call 23
    refine (WA wz hz 24 (by decide)).mono ?_
    rintro e w9 ⟨rfl, rfl⟩
    exact hK.out _ _ (congrArg (Value.int .u64) a_24) trivial (Below.refl _ _)
  simp only [Act.put, List.setIfInBounds_toArray, List.set_cons_zero, List.set_cons_succ]
  refine flowL_make (⟨_, 0, 1, rfl⟩) (fun wz hz hd => stepF_walk (by rfl) (fun K hK => ?_)) (fun v hv => ?_)
  · go_simp
    refine hK.out _ _ ⟨_, _, rfl⟩ (fun B c e => ?_) ((Below.refl _ _).alloc (Nat.le_refl _) _)
    cases e
    exact arr_lit wz [5] _ _ rfl
  obtain ⟨Q, cQ, rfl⟩ := hv
  simp only [Act.put, List.setIfInBounds_toArray, List.set_cons_zero, List.set_cons_succ]
  refine flowL_det (fun wz hz hd => stepF_walk (by rfl) (fun K hK => ?_)) ?_
  · obtain ⟨p, hp⟩ := dep_of hd 44 (by decide +kernel)
    go_wp2_with fail
    go_at_call 24
    refine (tag_any (0) (some ⟨Q, 0, none⟩) [5] cQ wz (by decide) (Arr.keep (hp.post Q cQ rfl) hp.since)).mono ?_
    rintro e w9 ⟨rfl, hb⟩
    exact hK.out _ _ rfl trivial hb
  simp only [Act.put, List.setIfInBounds_toArray, List.set_cons_zero, List.set_cons_succ]
  refine flowL_det (fun wz hz hd => stepF_reads (by rfl) ?_) ?_
  · go_simp; try rfl
  simp only [Act.put, List.setIfInBounds_toArray, List.set_cons_zero, List.set_cons_succ]
  refine flowL_det (fun wz hz hd => stepF_reads (by rfl) ?_) ?_
  · go_simp; try rfl
  simp only [Act.put, List.setIfInBounds_toArray, List.set_cons_zero, List.set_cons_succ]
  refine flowL_det (fun wz hz hd => stepF_reads (by rfl) ?_) ?_
  · go_simp; try rfl
  simp only [Act.put, List.setIfInBounds_toArray, List.set_cons_zero, List.set_cons_succ]
  refine flowL_det (fun wz hz hd => stepF_reads (by rfl) ?_) ?_
  · go_simp; try rfl
  simp only [Act.put, List.setIfInBounds_toArray, List.set_cons_zero, List.set_cons_succ]
  refine flowL_det (fun wz hz hd => stepF_reads (by rfl) ?_) ?_
  · have q := kb0 wz hz; go_simp; try rfl
  simp only [Act.put, List.setIfInBounds_toArray, List.set_cons_zero, List.set_cons_succ]
  refine flowL_det (fun wz hz hd => stepF_walk (by rfl) (fun K hK => ?_)) ?_
  · go_wp2_with fail
    go_at_call 23
    refine (WB wz hz 32 (by decide)).mono ?_
    rintro e w9 ⟨rfl, rfl⟩
    exact hK.out _ _ (congrArg (Value.int .u64) b_32) trivial (Below.refl _ _)
  simp only [Act.put, List.setIfInBounds_toArray, List.set_cons_zero, List.set_cons_succ]
  refine flowL_det (fun wz hz hd => stepF_reads (by rfl) ?_) ?_
  · go_simp; try rfl
  simp only [Act.put, List.setIfInBounds_toArray, List.set_cons_zero, List.set_cons_succ]
  refine flowL_det (fun wz hz hd => stepF_reads (by rfl) ?_) ?_
  · go_simp; try rfl
  simp only [Act.put, List.setIfInBounds_toArray, List.set_cons_zero, List.set_cons_succ]
  refine flowL_det (fun wz hz hd => stepF_reads (by rfl) ?_) ?_
  · go_simp; try rfl
  simp only [Act.put, List.setIfInBounds_toArray, List.set_cons_zero, List.set_cons_succ]
  refine flowL_det (fun wz hz hd => stepF_reads (by rfl) ?_) ?_
  · go_simp; try rfl
  simp only [Act.put, List.setIfInBounds_toArray, List.set_cons_zero, List.set_cons_succ]
  refine flowL_det (fun wz hz hd => stepF_reads (by rfl) ?_) ?_
  · have q := kb0 wz hz; go_simp; try rfl
  simp only [Act.put, List.setIfInBounds_toArray, List.set_cons_zero, List.set_cons_succ]
  refine flowL_det (fun wz hz hd => stepF_walk (by rfl) (fun K hK => ?_)) ?_
  · go_wp2_with fail
    go_at_call 23
    refine (WB wz hz 48 (by decide)).mono ?_
    rintro e w9 ⟨rfl, rfl⟩
    exact hK.out _ _ (congrArg (Value.int .u64) b_48) trivial (Below.refl _ _)
  simp only [Act.put, List.setIfInBounds_toArray, List.set_cons_zero, List.set_cons_succ]
  refine flowL_det (fun wz hz hd => stepF_reads (by rfl) ?_) ?_
  · go_simp; try rfl
  simp only [Act.put, List.setIfInBounds_toArray, List.set_cons_zero, List.set_cons_succ]
  refine flowL_det (fun wz hz hd => stepF_reads (by rfl) ?_) ?_
  · have q := ka0 wz hz; go_simp; try rfl
  simp only [Act.put, List.setIfInBounds_toArray, List.set_cons_zero, List.set_cons_succ]
  refine flowL_det (fun wz hz hd => stepF_walk (by rfl) (fun K hK => ?_)) ?_
  · go_wp2_with fail
    go_at_call 23
    refine (WA wz hz 24 (by decide)).mono ?_
    rintro e w9 ⟨rfl, rfl⟩
    exact hK.out _ _ (congrArg (Value.int .u64) a_24) trivial (Below.refl _ _)
  simp only [Act.put, List.setIfInBounds_toArray, List.set_cons_zero, List.set_cons_succ]
  refine flowL_det (fun wz hz hd => stepF_walk (by rfl) (fun K hK => ?_)) ?_
  · go_wp2_with fail
    go_at_call 24
    refine (tag_any (tagI 0 [5]) none [] 0 wz (by decide) (fun h => absurd rfl h)).mono ?_
    rintro e w9 ⟨rfl, hb⟩
    exact hK.out _ _ rfl trivial hb
  simp only [Act.put, List.setIfInBounds_toArray, List.set_cons_zero, List.set_cons_succ]
  refine flowL_det (fun wz hz hd => stepF_reads (by rfl) ?_) ?_
  · go_simp; try rfl
  simp only [Act.put, List.setIfInBounds_toArray, List.set_cons_zero, List.set_cons_succ]
  intro w3 ps hb3 hF hap
  clear hF hap
  go_upto_region 5 with fail
  have hbZ := hbY.trans (hb3.mono hbY.size)
  have up : ∀ wz, Below w3.heap.size w3 wz → Below Y.heap.size Y wz := fun wz hz => hb3.trans (hz.mono hb3.size)
  have ja0 := fun (wz : World) (hz : Below w3.heap.size w3 wz) => ka0 wz (up wz hz)
  have jb0 := fun (wz : World) (hz : Below w3.heap.size w3 wz) => kb0 wz (up wz hz)
  have RA := fun (wz : World) (hz : Below w3.heap.size w3 wz) => readL_any Aa ja [] [[5]] ca wz (Byt.keep hja2.out (up wz hz)) ja_b8 (by rw [ja_len]; decide) (by rw [ja_len]; exact ga1) ja_reads
  have RB := fun (wz : World) (hz : Below w3.heap.size w3 wz) => readL_any Ab jb [] [[5], []] cb wz (Byt.keep hjb.out (up wz hz)) jb_b8 (by rw [jb_len]; decide) (by rw [jb_len]; exact gb1) jb_reads
  have RS := fun (wz : World) (hz : Below w3.heap.size w3 wz) => readL_any Aa (ja.take 31) (ja.take 31) [] ca wz ((Byt.keep hja2.out (up wz hz)).take 31) (fun x hx => ja_b8 x (List.mem_of_mem_take hx)) (by rw [List.length_take, ja_len]; decide) (by rw [List.length_take, ja_len]; exact Nat.le_trans (by decide) ga1) ja_short
  rw [ja_len] at RA
  rw [jb_len] at RB
  rw [ja31] at RS
  clear WA WB ka1 kb1
  refine wp_region_flow 13 [.det (.pointer (some ⟨Na, 0, none⟩)), .det (.slice Aa 32 ca), readS [[5]] 0 0, .det (.pointer (some ⟨Nb, 0, none⟩)), .det (.slice Ab 56 cb), readS [[5], []] 0 0, .det (.pointer (some ⟨Na, 0, none⟩)), .det (.slice Aa 32 ca), .det (.slice Aa 31 ca), readS [] 31 60, allocS #[.slice none 0 0, .slice none 0 0, .int .i64 0, .int .i64 0, .int .u64 0], allocS #[.slice none 0 0, .slice none 0 0, .int .i64 0, .int .i64 0, .int .u64 0], allocS #[.slice none 0 0, .slice none 0 0, .int .i64 0, .int .i64 0, .int .u64 0]] (by kernel_rfl) (by kernel_rfl) rfl ?_
  simp only [List.take_succ_cons, List.take_zero, List.drop_succ_cons, List.drop_zero]
  refine flowL_det (fun wz hz hd => stepF_reads (by rfl) ?_) ?_
  · go_simp; try rfl
  simp only [Act.put, List.setIfInBounds_toArray, List.set_cons_zero, List.set_cons_succ]
  refine flowL_det (fun wz hz hd => stepF_reads (by rfl) ?_) ?_
  · have q := ja0 wz hz; go_simp; try rfl
  simp only [Act.put, List.setIfInBounds_toArray, List.set_cons_zero, List.set_cons_succ]
  refine flowL_make (⟨_, none, 0, none, 0, rfl⟩) (fun wz hz hd => stepF_walk (by rfl) (fun K hK => ?_)) (fun v hv => ?_)
  · go_wp2_with fail
    go_at_call 12
    refine (RA wz hz).mono ?_
    rintro e w9 ⟨A1, c1, B1, d1, rfl, _, _, _, hL, _, hb⟩
    exact hK.out _ _ ⟨A1, c1, B1, d1, rfl⟩ (fun A c B d e => by cases e; exact hL) hb
  obtain ⟨Ax, cx, Bx, dx, rfl⟩ := hv
  simp only [Act.put, List.setIfInBounds_toArray, List.set_cons_zero, List.set_cons_succ]
  refine flowL_det (fun wz hz hd => stepF_reads (by rfl) ?_) ?_
  · go_simp; try rfl
  simp only [Act.put, List.setIfInBounds_toArray, List.set_cons_zero, List.set_cons_succ]
  refine flowL_det (fun wz hz hd => stepF_reads (by rfl) ?_) ?_
  · have q := jb0 wz hz; go_simp; try rfl
  simp only [Act.put, List.setIfInBounds_toArray, List.set_cons_zero, List.set_cons_succ]
  refine flowL_make (⟨_, none, 0, none, 0, rfl⟩) (fun wz hz hd => stepF_walk (by rfl) (fun K hK => ?_)) (fun v hv => ?_)
  · go_wp2_with fail
    go_at_call 12
    refine (RB wz hz).mono ?_
    rintro e w9 ⟨A1, c1, B1, d1, rfl, _, _, _, hL, _, hb⟩
    exact hK.out _ _ ⟨A1, c1, B1, d1, rfl⟩ (fun A c B d e => by cases e; exact hL) hb
  obtain ⟨Ay, cy, By, dy, rfl⟩ := hv
  simp only [Act.put, List.setIfInBounds_toArray, List.set_cons_zero, List.set_cons_succ]
  refine flowL_det (fun wz hz hd => stepF_reads (by rfl) ?_) ?_
  · go_simp; try rfl
  simp only [Act.put, List.setIfInBounds_toArray, List.set_cons_zero, List.set_cons_succ]
  refine flowL_det (fun wz hz hd => stepF_reads (by rfl) ?_) ?_
  · have q := ja0 wz hz; go_simp; try rfl
  simp only [Act.put, List.setIfInBounds_toArray, List.set_cons_zero, List.set_cons_succ]
  refine flowL_det (fun wz hz hd => stepF_reads (by rfl) ?_) ?_
  · go_simp; try (intro h; exact absurd h (by omega))
  simp only [Act.put, List.setIfInBounds_toArray, List.set_cons_zero, List.set_cons_succ]
  refine flowL_make (⟨_, none, 0, none, 0, rfl⟩) (fun wz hz hd => stepF_walk (by rfl) (fun K hK => ?_)) (fun v hv => ?_)
  · go_wp2_with fail
    go_at_call 12
    refine (RS wz hz).mono ?_
    rintro e w9 ⟨A1, c1, B1, d1, rfl, _, _, _, hL, _, hb⟩
    rw [ja31, errR_31] at *
    exact hK.out _ _ ⟨A1, c1, B1, d1, rfl⟩ (fun A c B d e => by cases e; exact hL) hb
  obtain ⟨Az, cz, Bz, dz, rfl⟩ := hv
  simp only [Act.put, List.setIfInBounds_toArray, List.set_cons_zero, List.set_cons_succ]
  refine flowL_make (⟨_, 0, rfl⟩) (fun wz hz hd => stepF_walk (by rfl) (fun K hK => ?_)) (fun v hv => ?_)
  · go_simp
    exact hK.out _ _ ⟨_, rfl⟩ ⟨rfl, BoxL.new _ _ _, World.size_alloc _ _⟩ ((Below.refl _ _).alloc (Nat.le_refl _) _)
  obtain ⟨Nx, rfl⟩ := hv
  simp only [Act.put, List.setIfInBounds_toArray, List.set_cons_zero, List.set_cons_succ]
  refine flowL_make (⟨_, 0, rfl⟩) (fun wz hz hd => stepF_walk (by rfl) (fun K hK => ?_)) (fun v hv => ?_)
  · go_simp
    exact hK.out _ _ ⟨_, rfl⟩ ⟨rfl, BoxL.new _ _ _, World.size_alloc _ _⟩ ((Below.refl _ _).alloc (Nat.le_refl _) _)
  obtain ⟨Ny, rfl⟩ := hv
  simp only [Act.put, List.setIfInBounds_toArray, List.set_cons_zero, List.set_cons_succ]
  refine flowL_make (⟨_, 0, rfl⟩) (fun wz hz hd => stepF_walk (by rfl) (fun K hK => ?_)) (fun v hv => ?_)
  · go_simp
    exact hK.out _ _ ⟨_, rfl⟩ ⟨rfl, BoxL.new _ _ _, World.size_alloc _ _⟩ ((Below.refl _ _).alloc (Nat.le_refl _) _)
  obtain ⟨Nz, rfl⟩ := hv
  simp only [Act.put, List.setIfInBounds_toArray, List.set_cons_zero, List.set_cons_succ]
  intro w4 ps hb4 hF hap
  have dx : Did (readS [[5]] 0 0) (ps 2) _ w4 := (hF 2 (by decide)).1
  have dy : Did (readS [[5], []] 0 0) (ps 5) _ w4 := (hF 5 (by decide)).1
  have ax : Did (allocS #[.slice none 0 0, .slice none 0 0, .int .i64 0, .int .i64 0, .int .u64 0]) (ps 10) _ w4 := (hF 10 (by decide)).1
  have ay : Did (allocS #[.slice none 0 0, .slice none 0 0, .int .i64 0, .int .i64 0, .int .u64 0]) (ps 11) _ w4 := (hF 11 (by decide)).1
  have az : Did (allocS #[.slice none 0 0, .slice none 0 0, .int .i64 0, .int .i64 0, .int .u64 0]) (ps 12) _ w4 := (hF 12 (by decide)).1
  have bx2 := (hF 2 (by decide)).2.size
  have bxx := (hF 10 (by decide)).2.size
  have bxy := (hF 11 (by decide)).2.size
  have bxz := (hF 12 (by decide)).2.size
  have q1 := hap 10 11 (by decide) (by decide) (by decide)
  have q2 := hap 10 12 (by decide) (by decide) (by decide)
  have q3 := hap 11 12 (by decide) (by decide) (by decide)
  have q4 := hap 2 10 (by decide) (by decide) (by decide)
  have q5 := hap 2 11 (by decide) (by decide) (by decide)
  have q6 := hap 2 12 (by decide) (by decide) (by decide)
  have q7 := hap 5 10 (by decide) (by decide) (by decide)
  have q8 := hap 5 11 (by decide) (by decide) (by decide)
  have q9 := hap 5 12 (by decide) (by decide) (by decide)
  clear hF hap
  obtain ⟨ex, hx1, hx2⟩ := ax.post
  obtain ⟨ey, hy1, hy2⟩ := ay.post
  obtain ⟨ez, hz1, hz2⟩ := az.post
  have ex' : Nx = (ps 10).1.heap.size := by injection ex with e; injection e with e; injection e
  have ey' : Ny = (ps 11).1.heap.size := by injection ey with e; injection e with e; injection e
  have ez' : Nz = (ps 12).1.heap.size := by injection ez with e; injection e with e; injection e
  rw [← ex'] at hx1 hx2 q4 q7 q1 q2
  rw [← ey'] at hy1 hy2 q5 q8 q1 q3
  rw [← ez'] at hz1 hz2 q6 q9 q2 q3
  rw [hx2] at q1 q2 q4 q7
  rw [hy2] at q1 q3 q5 q8
  rw [hz2] at q2 q3 q6 q9
  have mx := hx1.keep ax.since
  have my := hy1.keep ay.since
  have mz := hz1.keep az.since
  have hLx := dx.post _ _ _ _ rfl
  have hLy := dy.post _ _ _ _ rfl
  have gx := dx.since
  have gy := dy.since
  have sx := dx.step.size
  have sy := dy.step.size
  rw [← ex'] at bxx
  rw [← ey'] at bxy
  rw [← ez'] at bxz
  clear ax ay az dx dy ex ey ez hx1 hx2 hy1 hy2 hz1 hz2 ex' ey' ez' RA RB RS
  generalize (ps 2).1 = p1 at *
  generalize (ps 2).2 = p2 at *
  generalize (ps 5).1 = r1 at *
  generalize (ps 5).2 = r2 at *
  have nxy : Nx ≠ Ny := ne_of q1
  have nxz : Nx ≠ Nz := ne_of q2
  have nyz : Ny ≠ Nz := ne_of q3
  obtain ⟨fx0, fx1, fx2, fx3, fx4⟩ := mx.f5
  obtain ⟨cx0, cx1, cx2, cx3, cx4⟩ := mx.c5
  have mx1 := mx.s5 (.slice Ax 1 cx) (.slice Bx 0 dx) (.int .i64 0) (.int .i64 0) (.int .u64 0)
  have my1 := my.z5 nxy (.slice Ax 1 cx) (.slice Bx 0 dx) (.int .i64 0) (.int .i64 0) (.int .u64 0)
  have mz1 := mz.z5 nxz (.slice Ax 1 cx) (.slice Bx 0 dx) (.int .i64 0) (.int .i64 0) (.int .u64 0)
  obtain ⟨fy0, fy1, fy2, fy3, fy4⟩ := my1.f5
  obtain ⟨cy0, cy1, cy2, cy3, cy4⟩ := my1.c5
  have mx2 := mx1.z5 (Ne.symm nxy) (.slice Ay 2 cy) (.slice By 0 dy) (.int .i64 0) (.int .i64 0) (.int .u64 0)
  have my2 := my1.s5 (.slice Ay 2 cy) (.slice By 0 dy) (.int .i64 0) (.int .i64 0) (.int .u64 0)
  have mz2 := mz1.z5 nyz (.slice Ay 2 cy) (.slice By 0 dy) (.int .i64 0) (.int .i64 0) (.int .u64 0)
  obtain ⟨fz0, fz1, fz2, fz3, fz4⟩ := mz2.f5
  obtain ⟨cz0, cz1, cz2, cz3, cz4⟩ := mz2.c5
  have mx3 := mx2.z5 (Ne.symm nxz) (.slice Az 0 cz) (.slice Bz 31 dz) (.int .i64 60) (.int .i64 0) (.int .u64 0)
  have my3 := my2.z5 (Ne.symm nyz) (.slice Az 0 cz) (.slice Bz 31 dz) (.int .i64 60) (.int .i64 0) (.int .u64 0)
  have mz3 := mz2.s5 (.slice Az 0 cz) (.slice Bz 31 dz) (.int .i64 60) (.int .i64 0) (.int .u64 0)
  have MX := Lib.hid mx3
  have MY := Lib.hid my3
  have MZ := Lib.hid mz3
  clear mx my mz mx1 my1 mz1 mx2 my2 mz2 mx3 my3 mz3
  have kV : ∀ b, b < w4.heap.size → b ≠ Nx → b ≠ Ny → b ≠ Nz → ((((((((((((((((w4.setCell ⟨Nx, 0, none⟩ (.slice Ax 1 cx)).setCell ⟨Nx, 1, none⟩ (.slice Bx 0 dx)).setCell ⟨Nx, 2, none⟩ (.int .i64 0)).setCell ⟨Nx, 3, none⟩ (.int .i64 0)).setCell ⟨Nx, 4, none⟩ (.int .u64 0)).setCell ⟨Ny, 0, none⟩ (.slice Ay 2 cy)).setCell ⟨Ny, 1, none⟩ (.slice By 0 dy)).setCell ⟨Ny, 2, none⟩ (.int .i64 0)).setCell ⟨Ny, 3, none⟩ (.int .i64 0)).setCell ⟨Ny, 4, none⟩ (.int .u64 0)).setCell ⟨Nz, 0, none⟩ (.slice Az 0 cz)).setCell ⟨Nz, 1, none⟩ (.slice Bz 31 dz)).setCell ⟨Nz, 2, none⟩ (.int .i64 60)).setCell ⟨Nz, 3, none⟩ (.int .i64 0)).setCell ⟨Nz, 4, none⟩ (.int .u64 0))).heap[b]? = w4.heap[b]? := fun b _ h1 h2 h3 => (set5_heap _ _ _ _ _ _ _ _ h3).trans ((set5_heap _ _ _ _ _ _ _ _ h2).trans (set5_heap _ _ _ _ _ _ _ _ h1))
  have hsV : ((((((((((((((((w4.setCell ⟨Nx, 0, none⟩ (.slice Ax 1 cx)).setCell ⟨Nx, 1, none⟩ (.slice Bx 0 dx)).setCell ⟨Nx, 2, none⟩ (.int .i64 0)).setCell ⟨Nx, 3, none⟩ (.int .i64 0)).setCell ⟨Nx, 4, none⟩ (.int .u64 0)).setCell ⟨Ny, 0, none⟩ (.slice Ay 2 cy)).setCell ⟨Ny, 1, none⟩ (.slice By 0 dy)).setCell ⟨Ny, 2, none⟩ (.int .i64 0)).setCell ⟨Ny, 3, none⟩ (.int .i64 0)).setCell ⟨Ny, 4, none⟩ (.int .u64 0)).setCell ⟨Nz, 0, none⟩ (.slice Az 0 cz)).setCell ⟨Nz, 1, none⟩ (.slice Bz 31 dz)).setCell ⟨Nz, 2, none⟩ (.int .i64 60)).setCell ⟨Nz, 3, none⟩ (.int .i64 0)).setCell ⟨Nz, 4, none⟩ (.int .u64 0))).heap.size = w4.heap.size := (set5_size _ _ _ _ _ _ _).trans ((set5_size _ _ _ _ _ _ _).trans (set5_size _ _ _ _ _ _ _))
  have hbV : Below w3.heap.size w3 ((((((((((((((((w4.setCell ⟨Nx, 0, none⟩ (.slice Ax 1 cx)).setCell ⟨Nx, 1, none⟩ (.slice Bx 0 dx)).setCell ⟨Nx, 2, none⟩ (.int .i64 0)).setCell ⟨Nx, 3, none⟩ (.int .i64 0)).setCell ⟨Nx, 4, none⟩ (.int .u64 0)).setCell ⟨Ny, 0, none⟩ (.slice Ay 2 cy)).setCell ⟨Ny, 1, none⟩ (.slice By 0 dy)).setCell ⟨Ny, 2, none⟩ (.int .i64 0)).setCell ⟨Ny, 3, none⟩ (.int .i64 0)).setCell ⟨Ny, 4, none⟩ (.int .u64 0)).setCell ⟨Nz, 0, none⟩ (.slice Az 0 cz)).setCell ⟨Nz, 1, none⟩ (.slice Bz 31 dz)).setCell ⟨Nz, 2, none⟩ (.int .i64 60)).setCell ⟨Nz, 3, none⟩ (.int .i64 0)).setCell ⟨Nz, 4, none⟩ (.int .u64 0))) := set5_below (set5_below (set5_below hb4 bxx _ _ _ _ _) bxy _ _ _ _ _) bxz _ _ _ _ _
  go_upto_region 6 with fail
  generalize (((((((((((((((w4.setCell ⟨Nx, 0, none⟩ (.slice Ax 1 cx)).setCell ⟨Nx, 1, none⟩ (.slice Bx 0 dx)).setCell ⟨Nx, 2, none⟩ (.int .i64 0)).setCell ⟨Nx, 3, none⟩ (.int .i64 0)).setCell ⟨Nx, 4, none⟩ (.int .u64 0)).setCell ⟨Ny, 0, none⟩ (.slice Ay 2 cy)).setCell ⟨Ny, 1, none⟩ (.slice By 0 dy)).setCell ⟨Ny, 2, none⟩ (.int .i64 0)).setCell ⟨Ny, 3, none⟩ (.int .i64 0)).setCell ⟨Ny, 4, none⟩ (.int .u64 0)).setCell ⟨Nz, 0, none⟩ (.slice Az 0 cz)).setCell ⟨Nz, 1, none⟩ (.slice Bz 31 dz)).setCell ⟨Nz, 2, none⟩ (.int .i64 60)).setCell ⟨Nz, 3, none⟩ (.int .i64 0)).setCell ⟨Nz, 4, none⟩ (.int .u64 0)) = V at *
  clear cx0 cx1 cx2 cx3 cx4 fx0 fx1 fx2 fx3 fx4 cy0 cy1 cy2 cy3 cy4 fy0 fy1 fy2 fy3 fy4 cz0 cz1 cz2 cz3 cz4 fz0 fz1 fz2 fz3 fz4
  have hLX : LL V Ax [[5]] := hLx.same (by rw [hsV]; exact gx.size) (fun b h1 h2 => (kV b (Nat.lt_of_lt_of_le h2 gx.size) (apart_ne h1 h2 q4) (apart_ne h1 h2 q5) (apart_ne h1 h2 q6)).trans (gx.block b h2))
  have hLY : LL V Ay [[5], []] := hLy.same (by rw [hsV]; exact gy.size) (fun b h1 h2 => (kV b (Nat.lt_of_lt_of_le h2 gy.size) (apart_ne h1 h2 q7) (apart_ne h1 h2 q8) (apart_ne h1 h2 q9)).trans (gy.block b h2))
  have bV := up V hbV
  have hbF := hbY.trans (bV.mono hbY.size)
  have va0 := ka0 V bV
  have vb0 := kb0 V bV
  have LX := Lib.hid hLX
  have LY := Lib.hid hLY
  have JA := Lib.hid (Byt.keep hja2.out bV)
  have JB := Lib.hid (Byt.keep hjb.out bV)
  have PA := Lib.hid ((hbA2.keep bV))
  have PB := Lib.hid ((hbB.keep bV))
  clear hLx hLy gx gy q1 q2 q3 q4 q5 q6 q7 q8 q9 kV hsV hbV hb4 hb3 up ja0 jb0 hLX hLY ka0 kb0 hja2 hjb hbA2 hbB hbZ hbY sx sy bx2 bxx bxy bxz va0 vb0 hsY nxy nxz nyz
  have C : Hid (∀ U, Below V.heap.size V U → U.cell? ⟨Nx, 0, none⟩ = some (.slice Ax 1 cx) ∧ U.cell? ⟨Nx, 2, none⟩ = some (.int .i64 0) ∧ U.cell? ⟨Ny, 0, none⟩ = some (.slice Ay 2 cy) ∧ U.cell? ⟨Ny, 2, none⟩ = some (.int .i64 0) ∧ U.cell? ⟨Nz, 0, none⟩ = some (.slice Az 0 cz) ∧ U.cell? ⟨Nz, 1, none⟩ = some (.slice Bz 31 dz) ∧ U.cell? ⟨Nz, 2, none⟩ = some (.int .i64 60) ∧ U.cell? ⟨Na, 0, none⟩ = some (.slice Aa 32 ca) ∧ U.cell? ⟨Nb, 0, none⟩ = some (.slice Ab 56 cb)) := Lib.hid fun U hU => ⟨(MX.out.keep hU).get (i := 0) rfl, (MX.out.keep hU).get (i := 2) rfl, (MY.out.keep hU).get (i := 0) rfl, (MY.out.keep hU).get (i := 2) rfl, (MZ.out.keep hU).get (i := 0) rfl, (MZ.out.keep hU).get (i := 1) rfl, (MZ.out.keep hU).get (i := 2) rfl, (PA.out.keep hU).get (i := 0) rfl, (PB.out.keep hU).get (i := 0) rfl⟩
  obtain ⟨kx0, kx2, ky0, ky2, kz0, kz1, kz2, ka0, kb0⟩ := C.out _ (Below.refl _ _)
  go_wp2_with fail
  go_at_call 16
  have e1 : Below V.heap.size V ((V.alloc (.cells #[.int .i64 5] 3)).alloc (.cells #[.slice (some ⟨V.heap.size, 0, none⟩) 1 1] 29)) := ((Below.refl _ V).alloc (Nat.le_refl _) _).alloc (by simp) _
  refine (records_same Ax (some ⟨V.heap.size + 1, 0, none⟩) [[5]] [[5]] cx 1 _ (LX.out.keep e1) (ll_lit1 V) (by decide) (by decide) (by decide) (by decide)).mono ?_
  rintro e u1 ⟨rfl, hu1⟩
  have e2 := e1.trans (hu1.mono e1.size)
  clear kx0 kx2 ky0 ky2 kz0 kz1 kz2 ka0 kb0
  obtain ⟨kx0, kx2, ky0, ky2, kz0, kz1, kz2, ka0, kb0⟩ := C.out _ e2
  clear e1 hu1
  go_wp2_with fail
  go_at_call 16
  have e3 : Below u1.heap.size u1 (((u1.alloc (.cells #[.int .i64 5] 3)).alloc (.cells #[] 3)).alloc (.cells #[.slice (some ⟨u1.heap.size, 0, none⟩) 1 1, .slice (some ⟨u1.heap.size + 1, 0, none⟩) 0 0] 29)) := (((Below.refl _ u1).alloc (Nat.le_refl _) _).alloc (by simp) _).alloc (by simp; omega) _
  have e4 := e2.trans (e3.mono e2.size)
  refine (records_same Ay (some ⟨u1.heap.size + 1 + 1, 0, none⟩) [[5], []] [[5], []] cy 2 _ (LY.out.keep e4) (ll_lit2 u1) (by decide) (by decide) (by decide) (by decide)).mono ?_
  rintro e u2 ⟨rfl, hu2⟩
  have e5 := e4.trans (hu2.mono e4.size)
  clear kx0 kx2 ky0 ky2 kz0 kz1 kz2 ka0 kb0
  obtain ⟨kx0, kx2, ky0, ky2, kz0, kz1, kz2, ka0, kb0⟩ := C.out _ e5
  clear e3 e4 hu2 e2
  go_wp2_with fail
  have hp1 := putL_any Aa none (ja.take 31) (ja.take 31) [] [] ca 0 u2 ((Byt.keep JA.out e5).take 31) (fun e => absurd e HA) (fun x hx => ja_b8 x (List.mem_of_mem_take hx)) (by rw [ja31]; decide) (by rw [ja31]; exact Nat.le_trans (by decide) ga1) ja_short (fun h => absurd rfl h) (fun x hx => by cases hx) (by decide)
  rw [put_short, ja31] at hp1
  go_at_call 14
  refine hp1.mono ?_
  rintro e u3 ⟨A3, c3, rfl, _, _, _, hu3⟩
  have e6 := e5.trans (hu3.mono e5.size)
  clear kx0 kx2 ky0 ky2 kz0 kz1 kz2 ka0 kb0
  obtain ⟨kx0, kx2, ky0, ky2, kz0, kz1, kz2, ka0, kb0⟩ := C.out _ e6
  clear hp1 hu3 e5
  have hmk := run_make_row' (P := Try.prog) 29 3 (.int .i64 0) 8 Try.underlying29 infoInt rfl .i64 .i64 257 (by omega) (by omega)
  rw [show ((257 : Nat) : Int) = 257 from rfl] at hmk
  go_wp2_with fail
  have e7 : Below V.heap.size V (u3.alloc (.cells (madeCells #[.int .i64 0] 257) 3)) := e6.alloc e6.size _
  have hp2 := putL_any none (some ⟨u3.heap.size, 0, none⟩) [] [] (List.replicate 257 0) [] 0 257 (u3.alloc (.cells (madeCells #[.int .i64 0] 257) 3)) (fun h => absurd rfl h) (fun _ => ⟨rfl, rfl⟩) (fun x hx => by cases hx) (by decide) (by decide) parses_nil (arr_zeros u3 257 _) (fun x hx => by rw [List.eq_of_mem_replicate hx]; unfold I64; omega) (by rw [List.length_replicate]; decide)
  rw [put_long, List.length_replicate] at hp2
  go_at_call 14
  refine hp2.mono ?_
  rintro e u4 ⟨A4, c4, rfl, _, _, _, hu4⟩
  have e8 := e7.trans (hu4.mono e7.size)
  clear kx0 kx2 ky0 ky2 kz0 kz1 kz2 ka0 kb0
  obtain ⟨kx0, kx2, ky0, ky2, kz0, kz1, kz2, ka0, kb0⟩ := C.out _ e8
  clear hp2 hu4 e6 e7 hmk
  go_wp2_with fail
  have hw := whole_any Ab (jb.take 50) ((jb.take 50).drop 32) [[5]] cb u4 ((Byt.keep JB.out e8).take 50) (fun e => absurd e HB) (fun x hx => jb_b8 x (List.mem_of_mem_take hx)) (by rw [jb50]; decide) (by rw [jb50]; exact Nat.le_trans (by decide) gb1) jb_short
  rw [jb50] at hw
  go_at_call 18
  refine hw.mono ?_
  rintro e u5 ⟨A5, c5, rfl, _, _, _, hu5⟩
  rw [show (jour 0 [[5]]).length = 32 from ja_len]
  have e9 := e8.trans (hu5.mono e8.size)
  clear kx0 kx2 ky0 ky2 kz0 kz1 kz2 ka0 kb0
  obtain ⟨kx0, kx2, ky0, ky2, kz0, kz1, kz2, ka0, kb0⟩ := C.out _ e9
  clear hw hu5 e8
  go_wp2_with fail
  have hc1 := cut_any Aa ja ca 7 u5 (Byt.keep JA.out e9) (fun e => absurd e HA) (by rw [ja_len]; decide) (by rw [ja_len]; exact ga1) (by unfold I64; omega)
  rw [ja_len] at hc1
  go_at_call 20
  refine hc1.mono ?_
  rintro e u6 ⟨A6, c6, rfl, _, _, _, hu6⟩
  rw [show (ja.take (7 : Int).toNat).length = 7 by rw [List.length_take, ja_len]; rfl]
  have e10 := e9.trans (hu6.mono e9.size)
  clear kx0 kx2 ky0 ky2 kz0 kz1 kz2 ka0 kb0
  obtain ⟨kx0, kx2, ky0, ky2, kz0, kz1, kz2, ka0, kb0⟩ := C.out _ e10
  clear hc1 hu6 e9
  go_wp2_with fail
  have hc2 := cut_any Aa ja ca (-1) u6 (Byt.keep JA.out e10) (fun e => absurd e HA) (by rw [ja_len]; decide) (by rw [ja_len]; exact ga1) (by unfold I64; omega)
  rw [ja_len] at hc2
  go_at_call 20
  refine hc2.mono ?_
  rintro e u7 ⟨A7, c7, rfl, _, _, _, hu7⟩
  rw [show (ja.take (-1 : Int).toNat).length = 0 from rfl]
  have e11 := e10.trans (hu7.mono e10.size)
  clear kx0 kx2 ky0 ky2 kz0 kz1 kz2 ka0 kb0
  go_wp2_with fail
  go_ret
  exact ⟨rfl, hbF.trans (e11.mono hbF.size)⟩
end Jn
end Go.Proofs.Ytcdoalfpaldbmaa
