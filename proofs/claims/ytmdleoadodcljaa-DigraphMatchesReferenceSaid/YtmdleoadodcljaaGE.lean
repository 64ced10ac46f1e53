/- What places returns. -/
import Derived.Test.YtmdleoadodcljaaGD
namespace Go.Proofs.Ytmdleoadodcljaa
open Go.RowKit Sl Fr
namespace Gp
set_option linter.unusedVariables false

/-- Nodes as integers. -/
def zl (l : List Nat) : List Int := l.map fun (v : Nat) => (v : Int)
theorem zl_length (l : List Nat) : (zl l).length = l.length := by simp [zl]
theorem zl_get {l : List Nat} {i v : Nat} (h : l[i]? = some v) : (zl l)[i]? = some (v : Int) := by simp [zl, h]
theorem nv_zl (l : List Nat) : nv l = (zl l).map (Value.int .i64) := by simp [nv, zl]
/-- Each node once. -/
def Perm (n : Nat) (L : List Int) : Prop := ∃ l : List Nat, L = zl l ∧ l.length = n ∧ l.Nodup ∧ ∀ v ∈ l, v < n
/-- The places of the first k numbers. -/
structure Placed (n : Nat) (L : List Int) (k : Nat) (f : Nat → Int) : Prop where
  at_ : ∀ j, j < k → ∃ v, v < n ∧ L[j]? = some (v : Int) ∧ f v = j
  val : ∀ v, v < n → f v = -1 ∨ ∃ j, j < k ∧ L[j]? = some (v : Int) ∧ f v = j
theorem Placed.start (n : Nat) (L : List Int) {f : Nat → Int} (h : ∀ v, v < n → f v = -1) : Placed n L 0 f := ⟨fun j hj => by omega, fun v hv => .inl (h v hv)⟩
theorem Placed.step {n : Nat} {L : List Int} {k v : Nat} {f g : Nat → Int} (h : Placed n L k f) (hv : v < n) (hL : L[k]? = some (v : Int)) (h0 : f v = -1) (hg : g v = k) (hg' : ∀ w, w ≠ v → g w = f w) : Placed n L (k + 1) g := by
  refine ⟨fun j hj => ?_, fun w hw => ?_⟩
  · by_cases hjk : j = k
    · subst hjk; exact ⟨v, hv, hL, hg⟩
    · obtain ⟨u, h1, h2, h3⟩ := h.at_ j (by omega)
      refine ⟨u, h1, h2, ?_⟩
      rw [hg' u (fun e => by subst e; omega)]
      exact h3
  · by_cases hwv : w = v
    · subst hwv; exact .inr ⟨k, by omega, hL, hg⟩
    · rw [hg' w hwv]
      rcases h.val w hw with h1 | ⟨j, h1, h2, h3⟩
      · exact .inl h1
      · exact .inr ⟨j, by omega, h2, h3⟩
theorem zl_inj {l : List Nat} {i : Nat} {v : Nat} (h : (zl l)[i]? = some (v : Int)) : l[i]? = some v := by
  simp only [zl, List.getElem?_map, Option.map_eq_some_iff] at h
  obtain ⟨a, h1, h2⟩ := h
  rw [h1, show a = v by omega]
theorem Placed.perm {n : Nat} {L : List Int} {f : Nat → Int} (h : Placed n L n f) (hl : L.length = n) : Perm n L := by
  have hnn : ∀ x ∈ L, ∃ v : Nat, v < n ∧ x = (v : Int) := fun x hx => by
    obtain ⟨j, hj, e⟩ := List.getElem_of_mem hx
    obtain ⟨v, h1, h2, _⟩ := h.at_ j (by omega)
    rw [List.getElem?_eq_getElem hj, e] at h2
    exact ⟨v, h1, Option.some.inj h2⟩
  have e : L = zl (L.map Int.toNat) := by
    refine List.ext_getElem? fun i => ?_
    rw [zl, List.getElem?_map, List.getElem?_map]
    cases hx : L[i]? with
    | none => rfl
    | some x =>
      obtain ⟨v, _, rfl⟩ := hnn x (List.mem_of_getElem? hx)
      simp
  refine ⟨L.map Int.toNat, e, by simp [hl], ?_, fun v hv => ?_⟩
  · refine Dgr.nodup_of_inj fun i j v hi hj => ?_
    have hi' := zl_get hi
    have hj' := zl_get hj
    rw [← e] at hi' hj'
    obtain ⟨u, _, h1, h2⟩ := h.at_ i (by rw [← hl]; exact get_lt hi')
    obtain ⟨u', _, h3, h4⟩ := h.at_ j (by rw [← hl]; exact get_lt hj')
    have e1 : u = v := by rw [h1] at hi'; have := Option.some.inj hi'; omega
    have e2 : u' = v := by rw [h3] at hj'; have := Option.some.inj hj'; omega
    subst e1
    subst e2
    omega
  · obtain ⟨x, hx, rfl⟩ := List.mem_map.1 hv
    obtain ⟨v, h1, rfl⟩ := hnn x hx
    simpa using h1
theorem Perm.node {n : Nat} {L : List Int} (h : Perm n L) {k : Nat} {x : Int} (hx : L[k]? = some x) : 0 ≤ x ∧ x < n := by
  obtain ⟨l, rfl, _, _, hlt⟩ := h
  simp only [zl, List.getElem?_map, Option.map_eq_some_iff] at hx
  obtain ⟨a, h1, rfl⟩ := hx
  have := hlt a (List.mem_of_getElem? h1)
  omega
theorem Perm.once {n : Nat} {L : List Int} (h : Perm n L) {i j : Nat} {x : Int} (hi : L[i]? = some x) (hj : L[j]? = some x) : i = j := by
  obtain ⟨l, rfl, _, hnd, hlt⟩ := h
  simp only [zl, List.getElem?_map, Option.map_eq_some_iff] at hi hj
  obtain ⟨a, h1, rfl⟩ := hi
  obtain ⟨c, h2, e⟩ := hj
  obtain rfl : c = a := by omega
  exact (List.getElem?_inj (get_lt h1) hnd).1 (h1.trans h2.symm)

/-- What places gives back. -/
def GiveP (W : World) (n : Nat) (L : List Int) (e : Ending) (w' : World) : Prop :=
  (¬ Perm n L ∧ e = .returned (.tuple #[.slice none 0 0, .bool false]) ∨ ∃ N f, L.length = n ∧ Placed n L n f ∧ e = .returned (.tuple #[.slice (some ⟨N, 0, none⟩) n n, .bool true]) ∧ CellsV w' N n (iF f)) ∧ Below W.heap.size W w'
def ArrZ (w : World) (A : Option Addr) (L : List Int) : Prop := Arr w A (L.map (Value.int .i64))
theorem Row.arrZ {w : World} {base : Nat} {A : Option Addr} {l : List Nat} (h : Row w base A l) : ArrZ w A (zl l) := by
  have := ArrF.arr h
  rwa [nv_zl] at this
theorem ArrZ.keep {w w' : World} {A : Option Addr} {L : List Int} (h : ArrZ w A L) (hb : Below w.heap.size w w') : ArrZ w' A L := Arr.keep h hb
theorem ArrZ.open {w : World} {A : Option Addr} {L : List Int} (h : ArrZ w A L) : ∃ b o, L ≠ [] → A = some ⟨b, o, none⟩ ∧ b < w.heap.size ∧ ∀ (j : Nat) (x : Int), L[j]? = some x → w.cell? ⟨b, o + j, none⟩ = some (.int .i64 x) := by
  by_cases hl : L = []
  · exact ⟨0, 0, fun h' => absurd hl h'⟩
  · obtain ⟨b, o, h1, h2, h3⟩ := h (by simpa using hl)
    exact ⟨b, o, fun _ => ⟨h1, h2, fun j x hx => h3 j _ (by simp [hx])⟩⟩

set_option maxRecDepth 100000 in
set_option maxHeartbeats 3200000 in
theorem places_any (n : Nat) (B : Option Addr) (L : List Int) (c : Nat) (w : World) (hB : ArrZ w B L) (hn : n ≤ 200) :
    Calls Try.prog 32 #[.int .i64 n, .slice B L.length c] w (GiveP w n L) := by
  by_cases hln : L.length = n
  case neg =>
    have hd : ((L.length : Int) != (n : Int)) = true := by simp; omega
    have hnp : ¬ Perm n L := fun ⟨l, h1, h2, _⟩ => hln (by rw [h1, zl_length, h2])
    have HNP := Lib.hid hnp
    clear hnp hln
    go_enter Try.func32, Try.ntmps32
    go_wp2
    go_ret2
    exact ⟨.inl ⟨HNP.out, rfl⟩, Below.refl _ _⟩
  obtain ⟨b, o, hb⟩ := hB.open
  have HB := Lib.hid hb
  have HLN := Lib.hid hln
  have hmk := run_make_row' (P := Try.prog) 26 3 (.int .i64 0) 8 Try.underlying26 infoInt rfl .i64 .i64 n (by omega) (by omega)
  have HC : Hid (CellsV (w.alloc (.cells (madeCells #[.int .i64 0] n) 3)) w.heap.size n (iF (fill 0))) := Lib.hid (CellsV.made w _ n _)
  rw [hln]
  clear hb hB hln
  go_enter Try.func32, Try.ntmps32
  go_wp2
  go_loopg [18] n (fun g i wr => ∃ k : Nat, k ≤ n ∧ i = .int .i64 k ∧ g = n - k ∧ CellsV wr w.heap.size n (iF (fill k)) ∧ Below w.heap.size w wr)
  case atStart => exact ⟨0, Nat.zero_le _, rfl, rfl, HC.out, (Below.refl _ _).alloc (Nat.le_refl _) _⟩
  case round =>
    obtain ⟨k, hk, rfl, rfl, hC, hbl⟩ := hrel
    clear HC hmk
    have HC := Lib.hid hC
    clear hC
    by_cases hlt : k < n
    · have hc0 := HC.out.cell k hlt
      have hm0 := HC.out.mark k hlt
      generalize iF (fill k) k = x at hc0
      go_wp2
      go_roundg (n - (k + 1))
      case measure => omega
      case rel =>
        refine ⟨k + 1, by omega, by go_num, rfl, HC.out.set hlt (by simp [iF, fill]) (fun j hj => ?_), hbl.setCell (p := ⟨w.heap.size, k, none⟩) (Nat.le_refl _) _⟩
        simp only [iF, fill]
        by_cases h1 : j < k
        · rw [if_pos h1, if_pos (by omega)]
        · rw [if_neg h1, if_neg (by omega)]
    · have HC2 : Hid (CellsV wr w.heap.size n (iF (fun _ => -1))) := Lib.hid (HC.out.congr fun i hi => by simp only [iF, fill]; rw [if_pos (by omega)])
      clear HC
      go_wp2
      go_loopg [27] n (fun g i wr => ∃ (k : Nat) (f : Nat → Int), k ≤ n ∧ i = .int .i64 k ∧ g = n - k ∧ Placed n L k f ∧ CellsV wr w.heap.size n (iF f) ∧ Below w.heap.size w wr)
      case atStart => exact ⟨0, fun _ => -1, Nat.zero_le _, rfl, rfl, Placed.start n L fun _ _ => rfl, HC2.out, hbl⟩
      case round =>
        obtain ⟨k, f, hk, rfl, rfl, hP, hC, hbl⟩ := hrel
        clear HC2
        have HP := Lib.hid hP
        have HC := Lib.hid hC
        clear hP hC
        by_cases hlt2 : k < n
        · obtain ⟨x, hx⟩ := get_ex (l := L) (j := k) (by have := HLN.out; omega)
          obtain ⟨rfl, hbs, hc⟩ := HB.out (by intro h; subst h; simp at hx)
          have hcx := (hbl.cell (p := ⟨b, o + k, none⟩) hbs).trans (hc k x hx)
          have HX := Lib.hid hx
          clear hc hx HB
          by_cases hin : 0 ≤ x ∧ x < n
          · obtain ⟨v, rfl⟩ : ∃ v : Nat, x = (v : Int) := ⟨x.toNat, by omega⟩
            have hvn : v < n := by omega
            have hd : decide ((0 : Int) ≤ (v : Int) ∧ (v : Int) < (n : Int)) = true := decide_eq_true hin
            have hv1 : (0 : Int) ≤ (v : Int) := Int.natCast_nonneg _
            have hv2 : (v : Int) < (n : Int) := by omega
            have hcm : wr.cell? ⟨w.heap.size, v, none⟩ = some (.int .i64 (f v)) := HC.out.cell v hvn
            have hmm := HC.out.mark v hvn
            by_cases hf : f v = -1
            · have HF := Lib.hid hf
              rw [hf] at hcm
              clear hf hin
              go_wp2_with (go_at_call 24; refine (isNode_any _ _ _).mono ?_; rintro e w' ⟨rfl, rfl⟩)
              go_roundg (n - (k + 1))
              case measure => omega
              case rel => exact ⟨k + 1, up f v k, by omega, by go_num, rfl, HP.out.step hvn HX.out HF.out (up_same _ _ _) (fun w hw => up_ne _ _ hw), HC.out.set hvn (by simp [iF, up_same]) (fun j hj => by simp [iF, up_ne _ _ hj]), hbl.setCell (p := ⟨w.heap.size, v, none⟩) (Nat.le_refl _) _⟩
            · have HF := Lib.hid hf
              have hfd : (f v != -1) = true := by simpa using hf
              clear hf hin
              go_wp2_with (go_at_call 24; refine (isNode_any _ _ _).mono ?_; rintro e w' ⟨rfl, rfl⟩)
              go_ret2
              refine ⟨.inl ⟨fun hp => ?_, rfl⟩, hbl⟩
              rcases HP.out.val v hvn with h1 | ⟨j, h1, h2, _⟩
              · exact HF.out h1
              · have := hp.once h2 HX.out
                omega
          · have hd : decide ((0 : Int) ≤ x ∧ x < (n : Int)) = false := decide_eq_false hin
            have HIN := Lib.hid hin
            clear hin
            go_wp2_with (go_at_call 24; refine (isNode_any _ _ _).mono ?_; rintro e w' ⟨rfl, rfl⟩)
            go_ret2
            exact ⟨.inl ⟨fun hp => HIN.out (hp.node HX.out), rfl⟩, hbl⟩
        · clear HB
          go_wp2
          go_ret2
          obtain rfl : k = n := by omega
          exact ⟨.inr ⟨w.heap.size, f, HLN.out, HP.out, rfl, HC.out⟩, hbl⟩

end Gp
end Go.Proofs.Ytmdleoadodcljaa
