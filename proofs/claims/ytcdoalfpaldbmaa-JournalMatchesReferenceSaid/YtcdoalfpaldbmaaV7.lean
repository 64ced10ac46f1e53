/- The reference's Journal; what is kept when blocks beside are written. -/
import Derived.Test.YtcdoalfpaldbmaaV6
import Derived.Test.YtcdoalfpaldbmaaWJ
namespace Go.Proofs.Ytcdoalfpaldbmaa
open Go.RowKit Sl Fr Dg
namespace Jn
set_option linter.unusedVariables false
attribute [local go_sem] field_b0 field_b1 field_r0 field_r3

def OwnAt (w : World) (rs : List (List Int)) (k : Nat) (j : Value) (wr : World) : Prop := Own w.heap.size wr j (jour 0 (rs.take k)) ∧ Below w.heap.size w wr

set_option maxRecDepth 20000 in
set_option maxHeartbeats 4000000 in
theorem rjournal_any (A : Option Addr) (rs : List (List Int)) (c : Nat) (w : World) (hA : LL w A rs) (hok : ∀ r ∈ rs, OkR r) (hl : (jour 0 rs).length ≤ 65536) (hn : rs.length ≤ 65536) :
    Calls Try.prog 11 #[.slice A rs.length c] w fun e w' => ∃ v, e = .returned v ∧ Own w.heap.size w' v (jour 0 rs) ∧ Below w.heap.size w w' := by
  obtain ⟨b, o, hb⟩ := hA.open_
  have HA := Lib.hid hb
  have HOK := Lib.hid hok
  have HL := Lib.hid hl
  have h0 : OwnAt w rs 0 (.slice (some ⟨w.heap.size, 0, none⟩) 0 0) (w.alloc (.cells #[] 5)) := ⟨own_empty w w.heap.size (Nat.le_refl _), (Below.refl _ w).alloc (Nat.le_refl _) _⟩
  have H0 := Lib.hid h0
  clear hb hA hok h0 hl
  go_enter Try.func11, Try.ntmps11
  go_wp2
  go_loopw [3, 4] (fun j i wr => ∃ k : Nat, k ≤ rs.length ∧ i = .int .i64 k ∧ OwnAt w rs k j wr) (fun _ i _ => rs.length - (intOf i).toNat)
  case atStart => exact ⟨0, Nat.zero_le _, rfl, H0.out⟩
  case round =>
    clear H0
    obtain ⟨k, hk, rfl, how, hbl⟩ := hrel
    have hjl : (jour 0 (rs.take k)).length ≤ 65536 := Nat.le_trans (jour_take_le rs 0 k) HL.out
    by_cases hlt : k < rs.length
    · obtain ⟨Aj, cj, hvj, hcj, hnj, hj⟩ := own_form how
      subst hvj
      obtain ⟨r, hr⟩ := get_ex hlt
      obtain ⟨rfl, hbs, hc⟩ := HA.out (by intro h; subst h; simp at hlt)
      obtain ⟨A2, c2, q1, q2, q3⟩ := hc k r hr
      have hok := HOK.out r (List.mem_of_getElem? hr)
      have hput := rputin_own Aj A2 (jour 0 (rs.take k)) [] r (rs.take k) cj c2 wr hj.arr hnj (jour_B8 _ _) (by omega) hcj (parses_jour 0 fun x hx => HOK.out x (List.mem_of_mem_take hx)) (q3.keep hbl) hok.2 (by have := hok.1; omega)
      rw [putF_ok hr hok HL.out] at hput
      have hck := (hbl.cell (p := ⟨b, o + k, none⟩) hbs).trans q1
      have HBL := Lib.hid hbl
      clear hc hr q1 q2 q3 hok hj hnj hcj HA HOK HL how
      generalize hjk : jour 0 (rs.take k) = jk at *
      generalize hjk1 : jour 0 (rs.take (k + 1)) = jk1 at *
      go_wp2_with (go_at_call 15; refine hput.mono ?_; rintro e w1 ⟨A1, c1, rfl, g1, g2, g3, g4, hb1⟩)
      have hfin : OwnAt w rs (k + 1) (.slice A1 jk1.length c1) w1 := ⟨by rw [hjk1]; exact World.ownsRow.mono (g4 (by trivial)) HBL.out.size, HBL.out.trans (hb1.mono HBL.out.size)⟩
      go_roundw
      case rel => exact ⟨k + 1, by omega, by go_num, hfin⟩
      case measure => simp [intOf]; omega
    · obtain rfl : k = rs.length := by omega
      have htl : rs.take rs.length = rs := List.take_length
      rw [htl] at how
      have HO := Lib.hid how
      clear how
      go_wp2
      go_ret
      exact ⟨_, rfl, HO.out, hbl⟩

theorem LLF.thru {wm w4 V : World} {lo : Nat} {A : Option Addr} {rs : List (List Int)} (h : LLF wm lo A rs) (g : Below wm.heap.size wm w4) (hs : w4.heap.size ≤ V.heap.size) (k : ∀ b, lo ≤ b → b < wm.heap.size → V.heap[b]? = w4.heap[b]?) : LL V A rs :=
  h.same (Nat.le_trans g.size hs) fun b h1 h2 => (k b h1 h2).trans (g.block b h2)
theorem arrF_thru {wm w4 V : World} {lo : Nat} {A : Option Addr} {vs : List Value} (h : ArrF wm lo A vs) (g : Below wm.heap.size wm w4) (hs : w4.heap.size ≤ V.heap.size) (k : ∀ b, lo ≤ b → b < wm.heap.size → V.heap[b]? = w4.heap[b]?) : Arr V A vs := fun hne => by
  obtain ⟨b, o, e, h1, h2, hc⟩ := h hne
  exact ⟨b, o, e, Nat.lt_of_lt_of_le h2 (Nat.le_trans g.size hs), fun j u hu => (World.cell?_of_block ((k b h1 h2).trans (g.block b h2))).trans (hc j u hu)⟩
theorem set2_heap (W : World) (N : Nat) (a b : Value) (k : Nat) (h : k ≠ N) : ((W.setCell ⟨N, 0, none⟩ a).setCell ⟨N, 1, none⟩ b).heap[k]? = W.heap[k]? :=
  (Below.heap_setCell _ ⟨N, 1, none⟩ b k h).trans (Below.heap_setCell _ ⟨N, 0, none⟩ a k h)

def readS2 (k n : Nat) (x : Int) (rs : List (List Int)) (rest : List Int) : FSpec := ⟨fun v => ∃ A c B d, v = .agg #[.slice A k c, .slice B n d, .int .i64 x, .int .i64 0, .int .u64 0], fun wi v wm => ∀ A c B d, v = .agg #[.slice A k c, .slice B n d, .int .i64 x, .int .i64 0, .int .u64 0] → LLF wm wi.heap.size A rs ∧ ArrF wm wi.heap.size B (u8s rest)⟩
def readI (k n : Nat) (x : Int) (S : Option Addr) (sc : Nat) (E key : Int) (rs : List (List Int)) : FSpec := ⟨fun v => ∃ A c, v = .agg #[.slice A k c, .slice S n sc, .int .i64 x, .int .i64 E, .int .u64 key], fun wi v wm => ∀ A c, v = .agg #[.slice A k c, .slice S n sc, .int .i64 x, .int .i64 E, .int .u64 key] → LLF wm wi.heap.size A rs⟩
def putS (n : Nat) (x : Int) (l : List Int) : FSpec := ⟨fun v => ∃ A c, v = .agg #[.slice A n c, .int .i64 x], fun wi v wm => ∀ A c, v = .agg #[.slice A n c, .int .i64 x] → ArrF wm wi.heap.size A (u8s l)⟩

/-- What the law compares: bytes and what they begin with. -/
structure Case (V : World) (v : Value) (Ai : Option Addr) (bi : List Int) (ci : Nat) (ri : List (List Int)) (resti : List Int) : Prop where
  val : v = .slice Ai bi.length ci
  arr : Byt V Ai bi
  nil : Ai = none → bi = [] ∧ ci = 0
  cap : bi.length ≤ ci
  b8 : B8 bi
  len : bi.length ≤ 2000
  par : Parses 0 bi ri resti
theorem putin_len {bs rest r : List Int} {rs : List (List Int)} (hb : bs.length ≤ 2000) (hr : r.length ≤ 300) : (putF bs rest rs r).1.length ≤ 10000 := by
  unfold putF
  by_cases h1 : 256 < r.length
  · rw [if_pos h1]; simp
  · rw [if_neg h1]
    by_cases h2 : rest ≠ []
    · rw [if_pos h2]; simp
    · rw [if_neg h2]
      by_cases h3 : 65536 < bs.length + 8 * (r.length + 3)
      · rw [if_pos h3]; simp
      · rw [if_neg h3, List.length_append, enc_length]; omega
end Jn
end Go.Proofs.Ytcdoalfpaldbmaa
