/- What the cursor of package journal reads: a word; how many elements follow. -/
import Derived.Test.YtcdoalfpaldbmaaW1
import Derived.Test.YtcdoalfpaldbmaaL8
import Derived.Test.YtcdoalfpaldbmaaL5
import Derived.WalkSmall
import Derived.BigQuiet
import Derived.Outline
import Derived.Deep.AppendLies
import Derived.Deep.CutBlock
import Derived.Deep.LoopGhost
import Derived.Lib.ItoaNum
import Derived.Deep.RegionHeld3
import Derived.Deep.DrawnRows
import Derived.Deep.DeepCutAuto
import Derived.Test.YtcdoalfpaldbmaaL9
namespace Go.Proofs.Ytcdoalfpaldbmaa
open Go.RowKit Sl Fr Dg
namespace Jn
set_option linter.unusedVariables false

def u8s (l : List Int) : List Value := l.map (Value.int .u8)
def i64s (l : List Int) : List Value := l.map (Value.int .i64)
theorem u8s_length (l : List Int) : (u8s l).length = l.length := by simp [u8s]
theorem i64s_length (l : List Int) : (i64s l).length = l.length := by simp [i64s]
/-- The slice at A reads as these bytes. -/
def Byt (w : World) (A : Option Addr) (bs : List Int) : Prop := Arr w A (u8s bs)
theorem Byt.keep {w w' : World} {A : Option Addr} {bs : List Int} (h : Byt w A bs) (hb : Below w.heap.size w w') : Byt w' A bs := Arr.keep h hb
theorem Byt.at {w : World} {A : Option Addr} {bs : List Int} (h : Byt w A bs) (hne : bs ≠ []) : ∃ b o, A = some ⟨b, o, none⟩ ∧ b < w.heap.size ∧ ∀ j, j < bs.length → w.cell? ⟨b, o + j, none⟩ = some (.int .u8 (bs[j]?.getD 0)) := Arr.at_ h hne

theorem encodedBytes_any (n : Int) (w : World) (h0 : 0 ≤ n) (h1 : n ≤ 1000000) : Calls Try.prog 38 #[.int .i64 n] w fun e w' => e = .returned (.int .i64 (8 * (n + 3))) ∧ w = w' := by
  go_enter Try.func38, Try.ntmps38
  go_wp2
  go_ret
  exact ⟨rfl, rfl⟩

/-- A cursor's own cells. -/
structure Cur (n₀ : Nat) (w : World) (C : Nat) (bs : List Int) (key : Int) : Prop where
  ex : ∃ A cap, BoxL w C #[.slice A bs.length cap, .int .u64 key] ∧ ArrX w (some C) A (u8s bs) ∧ bs.length ≤ cap ∧ ∀ b o q, A = some ⟨b, o, q⟩ → bs ≠ [] → b < n₀
  b8 : B8 bs
  big : bs.length ≤ 100000
theorem Cur.keep {n₀ : Nat} {w w' : World} {C : Nat} {bs : List Int} {key : Int} (h : Cur n₀ w C bs key) (hb : Below w.heap.size w w') : Cur n₀ w' C bs key := by
  obtain ⟨⟨A, cap, h1, h2, h3⟩, h4, h5⟩ := h
  exact ⟨⟨A, cap, h1.keep hb, h2.keep hb, h3⟩, h4, h5⟩
theorem Cur.lt {n₀ : Nat} {w : World} {C : Nat} {bs : List Int} {key : Int} (h : Cur n₀ w C bs key) : C < w.heap.size := by
  obtain ⟨⟨A, cap, h1, _⟩, _⟩ := h
  exact h1.lt

/-- The word as far as it is read. -/
def wordUp (bs : List Int) (i k : Nat) : Int := wordTo ((bs.drop (8 * i)).take 8) k
set_option maxHeartbeats 400000 in
theorem word_any {n₀ : Nat} (C i : Nat) (bs : List Int) (key : Int) (w : World) (h : Cur n₀ w C bs key) (hi : 8 * (i + 1) ≤ bs.length) :
    Calls Try.prog 48 #[.pointer (some ⟨C, 0, none⟩), .int .i64 i] w fun e w' => e = .returned (.int .u64 (wordAt bs i)) ∧ w = w' := by
  obtain ⟨⟨A, cap, h1, h2, h3, _⟩, h4, h5⟩ := h
  obtain ⟨b, o, rfl, hb, hc⟩ := Byt.at (ArrX.arr h2) (by intro e; subst e; simp at hi)
  have hg : ∀ k, k < 8 → w.cell? ⟨b, o + 8 * i + k, none⟩ = some (.int .u8 (((bs.drop (8 * i)).take 8)[k]?.getD 0)) := fun k hk => by
    rw [List.getElem?_take_of_lt hk, List.getElem?_drop, Nat.add_assoc]
    exact hc _ (by omega)
  have hs : ∀ k, k < 8 → bits .or .u64 (wordUp bs i k) (IntKind.u64.wrap (IntKind.u64.wrap (((bs.drop (8 * i)).take 8)[k]?.getD 0) * 2 ^ (8 * k))) = wordUp bs i (k + 1) := fun k hk =>
    wordTo_succ _ k (fun x hx => h4 x (List.mem_of_mem_drop (List.mem_of_mem_take hx))) (by simp; omega) (by simp; omega)
  have hall : wordUp bs i 8 = wordAt bs i := by
    unfold wordUp wordTo wordAt
    rw [List.take_of_length_le (by simp; omega)]
  have h0 : wordUp bs i 0 = 0 := rfl
  have hc0 := h1.get (i := 0) rfl
  have HG := Lib.hid hg
  have HS := Lib.hid hs
  have HA := Lib.hid hall
  have hcap : 8 * (i + 1) ≤ cap := by omega
  clear hg hs hall hc h2 h1
  generalize hw : wordUp bs i = wu at *
  generalize ((bs.drop (8 * i)).take 8) = gs at *
  go_enter Try.func48, Try.ntmps48
  go_wp2
  go_loop [5, 19] (fun g i => ∃ k : Nat, k ≤ 8 ∧ i = .int .i64 k ∧ g = .int .u64 (wu k)) (fun _ i => 8 - (intOf i).toNat)
  case atStart => exact ⟨0, Nat.zero_le _, rfl, by rw [h0]⟩
  case round =>
    obtain ⟨k, hk, rfl, rfl⟩ := hrel
    by_cases hlt : k < 8
    · have hcx := HG.out k hlt
      have hs := HS.out k hlt
      generalize gs[k]?.getD 0 = x at hcx hs
      have HX := Lib.hid hs
      clear hs
      go_wp2
      go_round
      case rel => exact ⟨k + 1, by omega, by go_num, congrArg (Value.int .u64) HX.out⟩
      case measure => simp [intOf]; omega
    · go_wp2
      go_ret
      have : k = 8 := by omega
      subst this
      exact ⟨ret_int HA.out, rfl⟩
end Jn
end Go.Proofs.Ytcdoalfpaldbmaa
