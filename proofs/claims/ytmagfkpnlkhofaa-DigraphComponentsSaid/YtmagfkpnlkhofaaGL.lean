/- Slices of edges made and appended to, wherever they lie; what walk returns. -/
import Derived.Test.YtmagfkpnlkhofaaGK
import Derived.Test.YtmagfkpnlkhofaaG8
namespace Go.Proofs.Ytmagfkpnlkhofaa
open Go.RowKit Sl Fr
namespace Gp
set_option linter.unusedVariables false

section
variable {o : Oper} {a : Act} {X : World} {K : Act → World → Prop} {Q : Exit → Act → World → Prop}
theorem wp_build0 (ho : o.op = .buildSlice 25 0 #[]) (base : Nat) (hb : base ≤ X.heap.size) (h : ∀ b W', Below X.heap.size X W' → W'.ownsRow base 55 2 (.slice (some ⟨b, 0, none⟩) 0 0) 0 (fl []) → X.heap.size = b → b < W'.heap.size → K (a.put o.dst (.slice (some ⟨b, 0, none⟩) 0 0)) W') : o.wp Try.prog a X K Q := by
  have h2 := h _ _ ((Below.refl _ X).alloc (Nat.le_refl _) (.cells #[] 55)) (World.ownsRow_lit (e := 55) (size := 2) X #[] 0 hb (by unfold maxLen; omega) rfl) rfl (by simp)
  clear h
  unfold Oper.wp
  unfold execOp
  rw [ho]
  go_simp
  exact h2
theorem wp_build1 {x : Operand} (ho : o.op = .buildSlice 25 1 #[(0, x)]) {p q : Int} (hx : a.eval x = .agg #[.int .i64 p, .int .i64 q]) (h : ∀ b W', Below X.heap.size X W' → (∀ j u, [Value.int .i64 p, Value.int .i64 q][j]? = some u → W'.cell? ((⟨b, 0, none⟩ : Addr).add j) = some u) → X.heap.size = b → b < W'.heap.size → K (a.put o.dst (.slice (some ⟨b, 0, none⟩) 1 1)) W') : o.wp Try.prog a X K Q := by
  have h2 := h _ _ ((Below.refl _ X).alloc (Nat.le_refl _) (.cells #[.int .i64 p, .int .i64 q] 55)) (World.news_of_block (cs := #[.int .i64 p, .int .i64 q]) (t := 55) (fr := (0, 0)) (heap_alloc_new X _)) rfl (by simp)
  clear h
  unfold Oper.wp
  generalize a.eval = ev at hx ⊢
  unfold execOp
  rw [ho]
  go_simp
  exact h2
theorem wp_append_fl (s x : Operand) (ho : o.op = .call { callee := .builtin .append, args := #[s, x], argTypes := #[25, 25] }) (base : Nat) {v : Value} {n : Nat} {xs : List Value} (hs : a.eval s = v) (hown : X.ownsRow base 55 2 v n xs)
    {A : Option Addr} {m c : Nat} {es : Dgr.Edges} (hx : a.eval x = .slice A m c) (he : es.length = m) (hE : EdgesA X A es) (hnil : es = [] → A = none ∧ c = 0) (hbase : base ≤ X.heap.size) (hbig : n + m ≤ 1000)
    (h : ∀ v' W', W'.ownsRow base 55 2 v' (n + m) (xs ++ fl es) → X.grownBy W' v.ownBlock → (v'.ownBlock = v.ownBlock ∨ v'.ownBlock = some X.heap.size) → K (a.put o.dst v') W') : o.wp Try.prog a X K Q := by
  obtain ⟨i0, hi0, hz0, hz1, hz2⟩ := parts_of infoEdge
  unfold Oper.wp
  unfold execOp
  rw [ho]
  simp only [resolve, invoke, builtin, Sem.run_bind, Sem.run_pure, Result.andThen_ok, List.map_toArray, List.map_cons, List.map_nil, hs, hx]
  by_cases hes : es = []
  · obtain ⟨rfl, rfl⟩ := hnil hes
    subst hes
    obtain rfl : m = 0 := he.symm
    rw [run_append_owned_none (P := Try.prog) X base 25 o.type 55 i0 2 Try.underlying25 hi0 v n xs hown]
    exact h v X (by simpa [fl, flat2, natE] using hown) (World.grownBy.refl _ _) (.inl rfl)
  · obtain ⟨b, o', hA, hlt, hc⟩ := hE (by cases es with | nil => exact absurd rfl hes | cons e l => simp [natE, flat2])
    subst hA
    obtain ⟨v', w', hr, h2, h3, _, h5⟩ := run_append_own_at (P := Try.prog) X base 25 o.type 55 i0 (.agg #[.int .i64 0, .int .i64 0]) 2 16 Try.underlying25 hi0 hz0 hz1 hz2 rfl (by decide) v n xs hown ⟨b, o', none⟩ m c (fl es) (by rw [fl_length, he]) (fun j u hu => by rw [Addr.add_lit]; exact hc j u hu) (fl_one es) (by unfold maxLen; omega) (by omega) hbase
    rw [hr]
    exact h v' w' h2 h3 h5
end

def stepB (es : Dgr.Edges) (m : Nat → Bool) : Nat → Bool := fun y => es.any fun e => m e.1 && e.2 == y
theorem stepB_snoc (es : Dgr.Edges) (u v : Nat) (m : Nat → Bool) (y : Nat) : stepB (es ++ [(u, v)]) m y = (stepB es m y || (m u && v == y)) := by simp [stepB]
/-- A list of marks is given back. -/
def GiveB (W : World) (n : Nat) (m : Nat → Bool) (e : Ending) (w' : World) : Prop := ∃ M, e = .returned (.slice (some ⟨M, 0, none⟩) n n) ∧ W.heap.size ≤ M ∧ CellsV w' M n (bF m) ∧ Below W.heap.size W w'

set_option maxRecDepth 100000 in
set_option maxHeartbeats 3200000 in
theorem walk_any (n N c d : Nat) (A : Option Addr) (es : Dgr.Edges) (m : Nat → Bool) (w : World) (hG : IsG w n es A c d) (hC : CellsV w N n (bF m)) :
    Calls Try.prog 30 #[.agg #[.int .i64 n, .slice A c d], .slice (some ⟨N, 0, none⟩) n n] w (GiveB w n (stepB es m)) := by
  have hn := hG.n12
  have hl := hG.big
  have hlen := hG.len
  subst hlen
  obtain ⟨b, o, hb⟩ := hG.arr.open
  have hmk := run_make_row' (P := Try.prog) 49 4 (.bool false) 1 Try.underlying49 infoBool rfl .i64 .i64 n (by omega) (by omega)
  have HB := Lib.hid hb
  have HO := Lib.hid hG.ok
  have HC := Lib.hid hC
  have hNlt := hC.lt
  have hst := start1 w #[.int .i64 n, .slice A es.length d] 31
  have hCM : Hid (CellsV ((w.alloc (.cells #[.int .i64 n, .slice A es.length d] 31)).alloc (.cells (madeCells #[.bool false] n) 4)) (w.heap.size + 1) n (bF (stepB (es.take 0) m))) := Lib.hid (by
    have := CellsV.made (w.alloc (.cells #[.int .i64 n, .slice A es.length d] 31)) (.bool false) n 4
    simpa using this.congr (G := bF (stepB (es.take 0) m)) fun i _ => by simp [bF, stepB])
  have hbA := (Below.refl _ (w.alloc (.cells #[.int .i64 n, .slice A es.length d] 31))).alloc (Nat.le_refl _) (.cells (madeCells #[.bool false] n) 4)
  have HB2 := Lib.hid (hst.1.keep hbA)
  have HBL := Lib.hid (hst.2.trans (hbA.mono hst.2.size))
  clear hb hG hC hst hbA
  go_enter Try.func30, Try.ntmps30
  go_wp2
  go_loopg [6] es.length (fun g i wr => ∃ k : Nat, i = .int .i64 k ∧ k ≤ es.length ∧ g = es.length - k ∧ CellsV wr (w.heap.size + 1) n (bF (stepB (es.take k) m)) ∧ BoxL wr w.heap.size #[.int .i64 n, .slice A es.length d] ∧ Below w.heap.size w wr)
  case atStart => exact ⟨0, rfl, Nat.zero_le _, rfl, hCM.out, HB2.out, HBL.out⟩
  case round =>
    obtain ⟨k, rfl, hk, rfl, hC2, hG, hbl⟩ := hrel
    clear hCM HB2 HBL hmk
    have HC2 := Lib.hid hC2
    have HG := Lib.hid hG
    obtain ⟨g0, g1⟩ := hG.c2
    clear hC2 hG
    by_cases hlt : k < es.length
    · obtain ⟨⟨u, v⟩, huv⟩ := get_ex hlt
      obtain ⟨rfl, hbs, hc⟩ := HB.out (by intro h; subst h; simp at hlt)
      obtain ⟨hu, hv⟩ := hc k u v huv
      have hcu := (hbl.cell (p := ⟨b, o + k * 2, none⟩) hbs).trans hu
      have hcv := (hbl.cell (p := ⟨b, o + k * 2 + 1, none⟩) hbs).trans hv
      have hun : u < n := (HO.out _ (List.mem_of_getElem? huv)).1
      have hvn : v < n := (HO.out _ (List.mem_of_getElem? huv)).2
      have hcm : wr.cell? ⟨N, u, none⟩ = some (.bool (m u)) := (hbl.cell (p := ⟨N, u, none⟩) hNlt).trans (HC.out.cell u hun)
      have hu1 : (0 : Int) ≤ (u : Int) := Int.natCast_nonneg _
      have hu2 : (u : Int) < (n : Int) := by omega
      have hv1 : (0 : Int) ≤ (v : Int) := Int.natCast_nonneg _
      have hv2 : (v : Int) < (n : Int) := by omega
      have hcy := HC2.out.cell v hvn
      have hmy := HC2.out.mark v hvn
      have HE := Lib.hid huv
      clear hc hu hv huv HB
      cases hmu : m u with
      | true =>
        rw [hmu] at hcm
        have HMU := Lib.hid hmu
        clear hmu
        go_wp2
        go_roundg (es.length - (k + 1))
        case measure => omega
        case rel =>
          refine ⟨k + 1, by go_num, by omega, rfl, HC2.out.set hvn ?_ (fun j hj => ?_), HG.out.far1 (by omega) _ _, hbl.setCell (p := ⟨w.heap.size + 1, v, none⟩) (by show _ ≤ w.heap.size + 1; omega) _⟩
          · rw [bF, take_snoc HE.out, stepB_snoc, HMU.out]; simp
          · rw [bF, bF, take_snoc HE.out, stepB_snoc]; simp [Ne.symm hj]
      | false =>
        rw [hmu] at hcm
        have HMU := Lib.hid hmu
        clear hmu
        go_wp2
        go_roundg (es.length - (k + 1))
        case measure => omega
        case rel => exact ⟨k + 1, by go_num, by omega, rfl, HC2.out.congr fun j _ => by rw [bF, bF, take_snoc HE.out, stepB_snoc, HMU.out]; simp, HG.out, hbl⟩
    · clear HB
      go_wp2
      go_ret
      have hC2 := HC2.out
      rw [List.take_of_length_le (by omega)] at hC2
      exact ⟨w.heap.size + 1, rfl, by omega, hC2, hbl⟩

end Gp
end Go.Proofs.Ytmagfkpnlkhofaa
