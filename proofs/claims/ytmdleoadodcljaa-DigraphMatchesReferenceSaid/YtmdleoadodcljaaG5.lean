/- What distances returns. -/
import Derived.Test.YtmdleoadodcljaaZC
import Derived.Test.YtmdleoadodcljaaG3
import Derived.Test.YtmdleoadodcljaaG4
namespace Go.Proofs.Ytmdleoadodcljaa
open Go.RowKit Sl Fr
namespace Gp
set_option linter.unusedVariables false

def iF (f : Nat → Int) : Nat → Value := fun i => .int .i64 (f i)
/-- Distances are given back. -/
def GiveD (n : Nat) (es : Dgr.Edges) (s : Nat) (W : World) (e : Ending) (w' : World) : Prop :=
  ∃ N f, e = .returned (.slice (some ⟨N, 0, none⟩) n n) ∧ W.heap.size ≤ N ∧ CellsV w' N n (iF f) ∧ Dgr.DistF n es s f ∧ Below W.heap.size W w'

def fill (k : Nat) : Nat → Int := fun j => if j < k then -1 else 0
/-- What holds at the head of the search. -/
def SearchAt (n : Nat) (es : Dgr.Edges) (s : Nat) (w : World) (g : Nat) (v : Value) (wr : World) : Prop :=
  ∃ (q : List Nat) (f : Nat → Int) (b off cap : Nat), v = .slice (some ⟨b, off, none⟩) q.length cap ∧ Tail wr (w.heap.size + 1) b off cap (nv q) ∧ CellsV wr w.heap.size n (iF f) ∧ Dgr.BfsQ n es s q f ∧ g = Dgr.undis f n + q.length ∧ g ≤ n + 1 ∧ Below w.heap.size w wr
/-- .. and at the head of the inner loop. -/
def MeetAt (n : Nat) (es : Dgr.Edges) (s u : Nat) (l : List Nat) (w : World) (M : Nat) (g : Nat) (v i : Value) (wr : World) : Prop :=
  ∃ (k : Nat) (q : List Nat) (f : Nat → Int) (b off cap : Nat), i = .int .i64 k ∧ k ≤ l.length ∧ g = l.length - k ∧ v = .slice (some ⟨b, off, none⟩) q.length cap ∧ Tail wr (w.heap.size + 1) b off cap (nv q) ∧ CellsV wr w.heap.size n (iF f) ∧ Dgr.BfsP n es s u q f (l.take k) ∧ Dgr.undis f n + q.length = M ∧ Below w.heap.size w wr

set_option maxRecDepth 100000 in
set_option maxHeartbeats 3200000 in
theorem dist_any (n s c : Nat) (A : Option Addr) (es : Dgr.Edges) (rows : List (List Nat)) (w : World) (hA : Rows w 0 A rows) (hadj : Adj n es rows) (ok : Dgr.Ok n es) (hs : s < n) (hn : n ≤ 200) (hel : es.length ≤ 2000) :
    Calls Try.prog 33 #[.slice A n c, .int .i64 s] w (GiveD n es s w) := by
  obtain ⟨b, o, hb⟩ := hA.open
  obtain ⟨rfl, _, hbs, hrow⟩ := hb (by intro h; have := hadj.len; rw [h] at this; simp at this; omega)
  have HR := Lib.hid hrow
  have HJ := Lib.hid hadj
  have HO := Lib.hid ok
  clear hb hA hadj ok hrow
  obtain ⟨i0, hi0, hz0, hz1, hz2⟩ := parts_of infoInt
  have hmk := run_make_row' (P := Try.prog) 26 3 (.int .i64 0) 8 Try.underlying26 infoInt rfl .i64 .i64 n (by omega) (by omega)
  have HC : Hid (CellsV (w.alloc (.cells (madeCells #[.int .i64 0] n) 3)) w.heap.size n (iF (fill 0))) := Lib.hid (CellsV.made w _ n _)
  go_enter Try.func33, Try.ntmps33
  go_wp2
  go_loopg [16] n (fun g i wr => ∃ k : Nat, k ≤ n ∧ i = .int .i64 k ∧ g = n - k ∧ CellsV wr w.heap.size n (iF (fill k)) ∧ Below w.heap.size w wr)
  case atStart => exact ⟨0, Nat.zero_le _, rfl, rfl, HC.out, (Below.refl _ _).alloc (Nat.le_refl _) _⟩
  case round =>
    obtain ⟨k, hk, rfl, rfl, hC, hbl⟩ := hrel
    clear HC hmk
    have HC := Lib.hid hC
    clear hC
    by_cases hlt : k < n
    · have hc0 := HC.out.cell k hlt
      have hm0 := HC.out.mark k hlt
      generalize iF (fill k) k = x at hc0
      go_wp2
      go_roundg (n - (k + 1))
      case measure => omega
      case rel =>
        refine ⟨k + 1, by omega, by go_num, rfl, HC.out.set hlt (by simp [iF, fill]) (fun j hj => ?_), hbl.setCell (p := ⟨w.heap.size, k, none⟩) (Nat.le_refl _) _⟩
        simp only [iF, fill]
        by_cases h1 : j < k
        · rw [if_pos h1, if_pos (by omega)]
        · rw [if_neg h1, if_neg (by omega)]
    · have hc0 := HC.out.cell s hs
      have hm0 := HC.out.mark s hs
      generalize iF (fill k) s = x at hc0
      have HC2 : Hid (CellsV (wr.setCell ⟨w.heap.size, s, none⟩ (.int .i64 0)) w.heap.size n (iF (up (fun _ => -1) s 0))) := Lib.hid (by
        refine (HC.out.congr (G := iF (fun _ => -1)) fun i hi => ?_).set hs (by simp [iF, up_same]) (fun j hj => by simp [iF, up_ne _ _ hj])
        simp only [iF, fill]
        rw [if_pos (by omega)])
      have hbl2 := hbl.setCell (p := ⟨w.heap.size, s, none⟩) (Nat.le_refl _) (.int .i64 0)
      have hNlt := HC.out.lt
      have HS : Hid (SearchAt n es s w (Dgr.undis (up (fun _ => (-1 : Int)) s 0) n + 1) (.slice (some ⟨wr.heap.size, 0, none⟩) 1 1) ((wr.setCell ⟨w.heap.size, s, none⟩ (.int .i64 0)).alloc (.cells #[.int .i64 (s : Int)] 3))) := Lib.hid (by
        have hbA := (Below.refl _ (wr.setCell ⟨w.heap.size, s, none⟩ (.int .i64 0))).alloc (Nat.le_refl _) (.cells #[.int .i64 (s : Int)] 3)
        refine ⟨[s], up (fun _ => -1) s 0, wr.heap.size, 0, 1, rfl, ?_, HC2.out.keep hbA, ⟨0, [s], [], rfl, Dgr.Bfs.start hs (up_same _ _ _) (fun v hv => up_ne _ _ hv)⟩, rfl, by have := Dgr.undis_le (up (fun _ => (-1 : Int)) s 0) n; omega, hbl2.trans (hbA.mono hbl2.size)⟩
        have := Tail.new (base := w.heap.size + 1) (wr.setCell ⟨w.heap.size, s, none⟩ (.int .i64 0)) (.int .i64 (s : Int)) (by simp; omega)
        simpa [nv] using this)
      clear HC HC2 hbl2
      go_wp2
      go_loopg [7] (Dgr.undis (up (fun _ => (-1 : Int)) s 0) n + 1) (fun g v wr => SearchAt n es s w g v wr)
      case atStart => exact HS.out
      case round =>
        obtain ⟨q, f, bq, off, cap, rfl, hT, hC, hB, rfl, hgn, hbl⟩ := hrel
        clear HS
        have HT := Lib.hid hT
        have HC := Lib.hid hC
        have HBq := Lib.hid hB
        clear hT hC hB
        cases q with
        | nil =>
          have hl0 : ([] : List Nat).length = 0 := rfl
          go_wp2
          go_ret
          exact ⟨w.heap.size, f, rfl, Nat.le_refl _, HC.out, HBq.out.end HO.out hs, hbl⟩
        | cons u q =>
          have hun := HBq.out.lt
          have hq0 := HT.out.cell 0 (.int .i64 (u : Int)) rfl
          rw [Nat.add_zero] at hq0
          have hcap := HT.out.le
          simp only [nv_length, List.length_cons] at hcap
          obtain ⟨l, hl1, hl2, hl3⟩ := HJ.out.mem u hun
          obtain ⟨A', c', hc1, hc2, hc3⟩ := HR.out u l hl1
          have hcr := (hbl.cell (p := ⟨b, o + u, none⟩) hbs).trans hc1
          obtain ⟨b2, o2, hb2⟩ := hc3.open
          have HB2 := Lib.hid hb2
          have HL2 := Lib.hid hl2
          have hu1 : (0 : Int) ≤ (u : Int) := Int.natCast_nonneg _
          have hu2 : (u : Int) < (n : Int) := by omega
          have hl4 : l.length ≤ 2000 := by omega
          have hlen : (u :: q).length = q.length + 1 := rfl
          rw [hlen] at hgn
          obtain ⟨off2, ho2, hsl⟩ := slice_one bq off q.length cap hcap
          have HM : Hid (MeetAt n es s u l w (Dgr.undis f n + q.length) l.length (.slice (some ⟨bq, off2, none⟩) q.length (cap - 1)) (.int .i64 ((0 : Nat) : Int)) wr) := Lib.hid
            ⟨0, q, f, bq, off2, cap - 1, rfl, Nat.zero_le _, rfl, rfl, HT.out.drop' ho2, HC.out, HBq.out.pop HO.out hs, rfl, hbl⟩
          clear hc1 hc2 hc3 hb2 hl1 hl2 HT HC HBq ho2
          rw [hlen]
          go_wp2
          go_loopg [7, 41] l.length (fun g v i wr => MeetAt n es s u l w (Dgr.undis f n + q.length) g v i wr)
          case atStart => exact HM.out
          case round =>
            obtain ⟨k, q2, f2, b3, off3, cap3, rfl, hk2, rfl, rfl, hT, hC, hP, hM, hbl2⟩ := hrel
            clear HM
            have HT := Lib.hid hT
            have HC := Lib.hid hC
            have HP := Lib.hid hP
            have HM := Lib.hid hM
            clear hT hC hP hM
            have hcap3 := HT.out.le
            rw [nv_length] at hcap3
            by_cases hlt2 : k < l.length
            · obtain ⟨x, hx⟩ := get_ex hlt2
              obtain ⟨rfl, _, hbs2, hc⟩ := HB2.out (by intro h; subst h; simp at hlt2)
              have hcx := (hbl2.cell (p := ⟨b2, o2 + k, none⟩) hbs2).trans (hc k x hx)
              have hmem := (HL2.out x).1 (List.mem_of_getElem? hx)
              have hxn : x < n := (HO.out _ hmem).2
              have hx1 : (0 : Int) ≤ (x : Int) := Int.natCast_nonneg _
              have hx2 : (x : Int) < (n : Int) := by omega
              have hfx : wr.cell? ⟨w.heap.size, x, none⟩ = some (.int .i64 (f2 x)) := HC.out.cell x hxn
              have hfu : wr.cell? ⟨w.heap.size, u, none⟩ = some (.int .i64 (f2 u)) := HC.out.cell u hun
              have hmx := HC.out.mark x hxn
              have hbd := HP.out.bound HO.out hs
              have HX := Lib.hid hx
              have HE := Lib.hid hmem
              have hNlt2 := HC.out.lt
              have hb3 := HT.out.low
              clear hc hx hmem HB2
              by_cases hf : f2 x = -1
              · rw [hf] at hfx
                have HF := Lib.hid hf
                clear hf
                have hq2 : q2.length ≤ n := by have := HM.out; omega
                go_wp2_with (at_builtin; refine wpList_append_tail _ rfl _ _ 26 rfl (w.heap.size + 1) i0 (.int .i64 0) 8 Try.underlying26 hi0 hz0 hz1 hz2 rfl (nv_length q2) rfl ((HT.out.far (by simp; omega) _).keep ((Below.refl _ _).alloc (Nat.le_refl _) _)) (by simp; omega) ⟨wr.heap.size, 0, none⟩ 1 (.int .i64 (x : Int)) rfl (cell_new_at (by simp)) rfl (by unfold maxLen; omega) (by omega) ?_; intro b4 off4 cap4 w1 hT1 hg1 hor1)
                go_roundg (l.length - (k + 1))
                case measure => omega
                case rel =>
                  have hbA := (Below.refl _ (wr.setCell ⟨w.heap.size, x, none⟩ (.int .i64 (f2 u + 1)))).alloc (Nat.le_refl _) (.cells #[.int .i64 (x : Int)] 3)
                  refine ⟨k + 1, q2 ++ [x], up f2 x (f2 u + 1), b4, off4, cap4, by go_num, by omega, rfl, by simp, by rw [nv_append]; exact hT1, ?_, ?_, ?_, ?_⟩
                  · exact (((HC.out.set hxn (G := iF (up f2 x (f2 u + 1))) (by simp [iF, up_same]) (fun j hj => by simp [iF, up_ne _ _ hj])).keep hbA).grown hg1 (fun e => by cases e; omega))
                  · rw [take_snoc HX.out]
                    exact HP.out.push HE.out hxn HF.out (up_same _ _ _) (fun v hv => up_ne _ _ hv)
                  · have h1 := Dgr.undis_up (g := up f2 x (f2 u + 1)) HF.out (by rw [up_same]; omega) (fun v hv => up_ne _ _ hv) n
                    rw [if_pos hxn] at h1
                    have h2 := HM.out
                    simp only [List.length_append, List.length_cons, List.length_nil]
                    omega
                  · have hb5 := hbl2.setCell (p := ⟨w.heap.size, x, none⟩) (Nat.le_refl _) (.int .i64 (f2 u + 1))
                    exact (hb5.trans (hbA.mono hb5.size)).grown hg1 (by simp; omega) (fun g' hg' => by cases hg'; omega)
              · have HF := Lib.hid hf
                have hfd : (f2 x == -1) = false := by simpa using hf
                go_wp2
                go_roundg (l.length - (k + 1))
                case measure => omega
                case rel => exact ⟨k + 1, q2, f2, b3, off3, cap3, by go_num, by omega, rfl, rfl, HT.out, HC.out, by rw [take_snoc HX.out]; exact HP.out.skip HF.out, HM.out, hbl2⟩
            · clear HB2
              go_wp2
              go_roundg (Dgr.undis f2 n + q2.length)
              case measure => have := HM.out; omega
              case rel =>
                refine ⟨q2, f2, b3, off3, cap3, rfl, HT.out, HC.out, HP.out.done fun y hy => ?_, rfl, by have := HM.out; omega, hbl2⟩
                rw [List.take_of_length_le (by omega)]
                exact (HL2.out y).2 hy

end Gp
end Go.Proofs.Ytmdleoadodcljaa
