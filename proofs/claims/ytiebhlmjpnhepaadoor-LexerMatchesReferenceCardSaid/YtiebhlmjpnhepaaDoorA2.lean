/- The law for statements that leave the order of their operations open and make variables beside. -/
import Derived.Test.YtiebhlmjpnhepaaDoorA1
import Derived.Laws.NewBlocks
namespace Go.Proofs.YtiebhlmjpnhepaaDoor
open Go.RowKit
namespace Fr
set_option linter.unusedVariables false

section
variable {P : Program} {ops hd : Array Oper} {md : Region.Mode}

theorem count_set {la : Array Bool} {i F : Nat} (hi : la.getD i true = false) (h : la.toList.count false = F + 1) : (la.setIfInBounds i true).toList.count false = F := by
  have hlt : i < la.size := by
    rcases Nat.lt_or_ge i la.size with h' | h'
    · exact h'
    · simp [Array.getElem?_eq_none h'] at hi
  have hv : la.toList[i]'(by simpa using hlt) = false := by simpa [hlt] using hi
  have := List.count_set (a := true) (b := false) (l := la.toList) (i := i) (by simpa using hlt)
  rw [Array.toList_setIfInBounds, this, hv, h]
  simp

/-- What is asked of one operation that makes a variable. -/
def MakesAt (P : Program) (md : Region.Mode) (ops : Array Oper) (i d : Nat) (ob : Obj) : Prop :=
  ∃ o, ops[i]? = some o ∧ o.guard = none ∧ o.dst = some d ∧ (∀ e ∈ o.after, Region.binds md e = true → e.on < i) ∧ ∀ (a : Act) (w : World), (execOp a.eval o).run P w = .ok (.value (ptr w.heap.size)) (w.alloc ob)

structure Shape (P : Program) (md : Region.Mode) (ops hd : Array Oper) (n m : Nat) (D : Nat → Nat) (O : Nat → Obj) : Prop where
  head : ∀ j, j < n → hd[j]? = ops[j]?
  hsize : hd.size = n
  lt : n + m < ops.size
  sel : Region.noSelect ops = true
  headB : headB md ops n = true
  waits : ∀ i, i < n + m → Region.waitsFor md ops (n + m) i = true
  chain : ∀ t, n + m < t → t < ops.size → Region.waitsFor md ops t (t - 1) = true
  makes : ∀ j, j < m → MakesAt P md ops (n + j) (D j) (O j)
  apart : ∀ i, i < n → ∀ o, ops[i]? = some o → ∀ j, j < m → D j ∉ o.looksAt ops ∧ o.dst ≠ some (D j)
  dist : ∀ i k, i < n → k < n → i ≠ k → ∀ o o', ops[i]? = some o → ops[k]? = some o' → ∀ d, o.dst = some d → o'.dst ≠ some d
  inj : ∀ j k, j < m → k < m → D j = D k → j = k

theorem grow_any {n m g : Nat} {D : Nat → Nat} {O : Nat → Obj} {W : World} {A : Act} {Q' : Exit → Act → World → Prop} {full : Array Bool} (S : Shape P md ops hd n m D O)
    (hfz : full.size = ops.size) (hf : ∀ j, j < ops.size → full.getD j true = decide (j < n + m)) (hg : full.toList.count false = g)
    (hQ : ∀ a w β, (∀ j, j < m → ∃ B, β j = some B) → Made W m O β w → Agr D m β a A → wpAny P md ops Q' g full a w) :
    ∀ (F : Nat) (la lh : Array Bool) (aq a : Act) (β : Nat → Option Nat) (w : World) (fh : Nat), la.toList.count false = F → la.size = ops.size → lh.size = n → (∀ j, j < n → la.getD j true = lh.getD j true) →
      (∀ j, j < m → la.getD (n + j) true = (β j).isSome) → (∀ t, n + m ≤ t → t < ops.size → la.getD t true = false) → Made W m O β w → Agr D m β a aq →
      (∀ c : Cls W, wpAnyQ P md hd c.C (fun a' => a' = A) fh lh aq) → wpAny P md ops Q' F la a w := by
  intro F
  induction F with
  | zero =>
    intro la lh aq a β w fh hc hz hlz hh hm ht hM hA hW
    exfalso
    have h1 := ht (n + m) (Nat.le_refl _) S.lt
    have h2 : n + m < la.size := by rw [hz]; exact S.lt
    have h3 : false ∈ la.toList := by
      have : la[n + m] = false := by simpa [h2] using h1
      rw [← this]
      simp
    have := List.count_pos_iff.2 h3
    omega
  | succ F ih =>
    intro la lh aq a β w fh hc hz hlz hh hm ht hM hA hW
    have both : ∀ j, j < ops.size → la.getD j true = la.getD j false := fun j hj => by
      have : j < la.size := by rw [hz]; exact hj
      simp [this]
    have bothh : ∀ j, j < n → lh.getD j false = la.getD j false := fun j hj => by
      have h1 : j < lh.size := by omega
      have h2 := S.lt
      rw [← both j (by omega), hh j hj]
      simp [h1]
    have same : ∀ i, i < n → (i ∈ Region.ready md ops la ↔ i ∈ Region.ready md hd lh) := fun i hi => by
      rw [mem_ready, mem_ready, hh i hi, S.head i hi]
      refine and_congr_right fun _ => ⟨fun ⟨o, ho, h⟩ => ⟨o, ho, fun e he hb => ?_⟩, fun ⟨o, ho, h⟩ => ⟨o, ho, fun e he hb => ?_⟩⟩
      · have := (headB_spec S.headB hi ho).2 e he hb
        rw [bothh e.on (by omega)]; exact h e he hb
      · have := (headB_spec S.headB hi ho).2 e he hb
        rw [← bothh e.on (by omega)]; exact h e he hb
    by_cases hall : ∀ j, j < n + m → la.getD j true = true
    · -- all have come up but those in one order
      have e : la = full := by
        refine Array.ext (hz.trans hfz.symm) fun j h1 h2 => ?_
        have hjo : j < ops.size := by rw [← hz]; exact h1
        have e1 : la.getD j true = full.getD j true := by
          rw [hf j hjo]
          by_cases hj : j < n + m
          · rw [hall j hj]; simp [hj]
          · rw [ht j (by omega) hjo]; simp [hj]
        simpa [h1, h2] using e1
      have hgF : g = F + 1 := by rw [← hg, ← e, hc]
      rw [e, ← hgF]
      refine hQ a w β (fun j hj => ?_) hM ?_
      · have := hm j hj
        rw [hall (n + j) (by omega)] at this
        exact Option.isSome_iff_exists.1 this.symm
      · have hnil : Region.ready md hd lh = [] := by
          refine List.eq_nil_iff_forall_not_mem.2 fun j hj => ?_
          have hjn : j < n := by
            obtain ⟨_, o, ho, _⟩ := mem_ready.1 hj
            have := (Array.getElem?_eq_some_iff.1 ho).1
            have := S.hsize
            omega
          have h1 := (mem_ready.1 hj).1
          rw [← hh j hjn, hall j (by omega)] at h1
          cases h1
        have hEq : aq = A := by
          have := hW hM.cls
          cases fh with
          | zero => exact this.2
          | succ f => exact this.1 hnil
        rw [← hEq]
        exact hA
    · -- some have not
      obtain ⟨i0, hi0⟩ := Classical.not_forall.1 hall
      obtain ⟨hi0, hun0⟩ := Classical.not_imp.1 hi0
      have hun0 : la.getD i0 true = false := by simpa using hun0
      have hlow : ∀ t, t ∈ Region.ready md ops la → t < n + m := fun t hr => by
        rcases Nat.lt_or_ge t (n + m) with h' | h'
        · exact h'
        · exfalso
          obtain ⟨_, ot, hot, hallt⟩ := mem_ready.1 hr
          have htlt : t < ops.size := (Array.getElem?_eq_some_iff.1 hot).1
          by_cases htn : t = n + m
          · subst htn
            obtain ⟨o', ho', e, he, hb, hon⟩ := Region.waitsFor_spec (S.waits i0 hi0)
            have : o' = ot := Option.some.inj (ho'.symm.trans hot)
            subst this
            have h2 := hallt e he hb
            rw [hon, getD_both hun0] at h2
            cases h2
          · obtain ⟨o', ho', e, he, hb, hon⟩ := Region.waitsFor_spec (S.chain t (by omega) htlt)
            have : o' = ot := Option.some.inj (ho'.symm.trans hot)
            subst this
            have h2 := hallt e he hb
            rw [hon, getD_both (ht (t - 1) (by omega) (by omega))] at h2
            cases h2
      -- one of them may come up
      have hsome : ∃ k, k ∈ Region.ready md ops la := by
        have : ∀ i, i < n + m → la.getD i true = false → ∃ k, k ∈ Region.ready md ops la := by
          intro i
          induction i using Nat.strongRecOn with
          | _ i ihs =>
            intro hi hun
            have hlt := S.lt
            obtain ⟨o, ho⟩ : ∃ o, ops[i]? = some o := ⟨_, Array.getElem?_eq_getElem (by omega)⟩
            have hback : ∀ e ∈ o.after, Region.binds md e = true → e.on < i := by
              by_cases hin : i < n
              · exact (headB_spec S.headB hin ho).2
              · obtain ⟨o', ho', _, _, hb, _⟩ := S.makes (i - n) (by omega)
                rw [show n + (i - n) = i by omega] at ho' hb
                have : o' = o := Option.some.inj (ho'.symm.trans ho)
                subst this
                exact hb
            by_cases hallb : ∀ e ∈ o.after, Region.binds md e = true → la.getD e.on false = true
            · exact ⟨i, mem_ready.2 ⟨hun, o, ho, hallb⟩⟩
            · obtain ⟨e, he⟩ := Classical.not_forall.1 hallb
              obtain ⟨he, h2⟩ := Classical.not_imp.1 he
              obtain ⟨hb, h3⟩ := Classical.not_imp.1 h2
              have hlte := hback e he hb
              exact ihs e.on hlte (by omega) (by rw [both e.on (by omega)]; simpa using h3)
        exact this i0 hi0 hun0
      refine ⟨fun h0 => ?_, fun i hi => ?_⟩
      · obtain ⟨k, hk⟩ := hsome
        rw [h0] at hk
        cases hk
      · have hin := hlow i hi
        obtain ⟨hun, o, ho, _⟩ := mem_ready.1 hi
        have hcnt := count_set hun hc
        have hlt := S.lt
        by_cases hhead : i < n
        · -- an operation that reads or calls
          have hrh := (same i hhead).1 hi
          obtain ⟨f, rfl⟩ : ∃ f, fh = f + 1 := by
            cases fh with
            | zero =>
              have := (hW hM.cls).1
              rw [this] at hrh
              cases hrh
            | succ f => exact ⟨f, rfl⟩
          have hoh : hd[i]? = some o := by rw [S.head i hhead]; exact ho
          have hap := S.apart i hhead o ho
          have hgoal : ∀ v, (∀ c : Cls W, wpAnyQ P md hd c.C (fun a' => a' = A) f (lh.setIfInBounds i true) (aq.put o.dst v)) → ∀ w', Made W m O β w' → wpAny P md ops Q' F (la.setIfInBounds i true) (a.put o.dst v) w' := fun v hv w' hM' => by
            refine ih _ (lh.setIfInBounds i true) (aq.put o.dst v) (a.put o.dst v) β w' f hcnt (by simpa using hz) (by simpa using hlz) (fun j hj => ?_) (fun j hj => ?_) (fun t h1 h2 => ?_) hM' (hA.put (fun d hd j hj e => (hap j hj).2 (by rw [hd, e])) v) hv
            · by_cases hij : i = j
              · subst hij
                have h1 : i < la.size := by omega
                have h2 : i < lh.size := by omega
                simp [h1, h2]
              · rw [getD_set_ne true hij, getD_set_ne true hij]; exact hh j hj
            · rw [getD_set_ne true (by omega)]; exact hm j hj
            · rw [getD_set_ne true (by omega)]; exact ht t h1 h2
          have hwant : Region.wanted o (yielded hd aq.tmps) = Region.wanted o (yielded ops aq.tmps) := wanted_head S.head S.headB hhead ho aq.tmps
          have hwantA : Region.wanted o (yielded ops a.tmps) = Region.wanted o (yielded ops aq.tmps) := hA.wanted fun j hj => (hap j hj).1
          have hq := (hW hM.cls).2 i hrh
          unfold qOp at hq
          simp only [hoh] at hq
          rw [hwant] at hq
          unfold wpOp
          simp only [ho]
          rw [hwantA]
          split
          · rename_i hwt
            simp only [hwt, if_true] at hq
            obtain ⟨v, hv1, hv2⟩ := hq
            have hall2 : ∀ c : Cls W, wpAnyQ P md hd c.C (fun a' => a' = A) f (lh.setIfInBounds i true) (aq.put o.dst v) := fun c => by
              have hq2 := (hW c).2 i hrh
              unfold qOp at hq2
              simp only [hoh] at hq2
              rw [hwant] at hq2
              simp only [hwt, if_true] at hq2
              obtain ⟨v2, _, hv3⟩ := hq2
              have e : aq.put o.dst v2 = aq.put o.dst v := by
                cases hdst : o.dst with
                | none => rfl
                | some d =>
                  have hno : ∀ k ok, hd[k]? = some ok → (lh.setIfInBounds i true).getD k true = false → ok.dst ≠ some d := fun k ok hk hku => by
                    have hkn : k < n := by
                      have := (Array.getElem?_eq_some_iff.1 hk).1
                      have := S.hsize
                      omega
                    by_cases hik : i = k
                    · subst hik
                      have h2 : i < lh.size := by omega
                      simp [h2] at hku
                    · rw [S.head k hkn] at hk
                      exact S.dist i k hhead hkn hik o ok ho hk d hdst
                  have s1 := slot_stays f _ _ hno hv3
                  have s2 := slot_stays f _ _ hno hv2
                  rw [hdst] at s1 s2
                  have s3 := s1.1.trans s2.1.symm
                  simp only [Act.put, Array.getElem?_setIfInBounds_self] at s3
                  by_cases hdl : d < aq.tmps.size
                  · simp only [hdl, if_true, Option.some.injEq] at s3
                    rw [s3]
                  · have z1 : aq.tmps.setIfInBounds d v2 = aq.tmps := Array.setIfInBounds_eq_of_size_le (Nat.le_of_not_lt hdl)
                    have z2 : aq.tmps.setIfInBounds d v = aq.tmps := Array.setIfInBounds_eq_of_size_le (Nat.le_of_not_lt hdl)
                    show ({ aq with tmps := aq.tmps.setIfInBounds d v2 } : Act) = { aq with tmps := aq.tmps.setIfInBounds d v }
                    rw [z1, z2]
              rw [← e]
              exact hv3
            refine .inl (Oper.wp_of_quiet (C := Made W m O β) (K := fun a' => a' = a.put o.dst v) hM (fun a' w' hM' ha' => by subst ha'; exact hgoal v hall2 w' hM') ⟨v, fun w' hw' => ?_, rfl⟩)
            have := hv1 w' hw'
            unfold Oper.quietAt at *
            rw [hA.eval (fun j hj => (hap j hj).1) (fun cs b => Region.noSelect_spec S.sel i o cs b ho)]
            exact this
          · rename_i hwt
            simp only [hwt] at hq
            refine hgoal undef (fun c => ?_) w hM
            have hq2 := (hW c).2 i hrh
            unfold qOp at hq2
            simp only [hoh] at hq2
            rw [hwant] at hq2
            simpa [hwt] using hq2
        · -- an operation that makes a variable
          obtain ⟨j, rfl⟩ : ∃ j, i = n + j := ⟨i - n, by omega⟩
          have hj : j < m := by omega
          obtain ⟨o', ho', hgu, hdst, _, hrun⟩ := S.makes j hj
          have : o' = o := Option.some.inj (ho'.symm.trans ho)
          subst this
          unfold wpOp
          simp only [ho]
          have hwt : Region.wanted o' (yielded ops a.tmps) = true := by unfold Region.wanted; rw [hgu]
          simp only [hwt, if_true]
          refine .inl ?_
          unfold Oper.wp
          rw [hrun a w]
          show wpAny P md ops Q' F (la.setIfInBounds (n + j) true) (a.put o'.dst (ptr w.heap.size)) (w.alloc (O j))
          rw [hdst]
          have hnone : β j = none := by
            have := hm j hj
            rw [hun] at this
            cases hb : β j with
            | none => rfl
            | some B => rw [hb] at this; simp at this
          refine ih _ lh aq (a.put (some (D j)) (ptr w.heap.size)) (fun k => if k = j then some w.heap.size else β k) (w.alloc (O j)) fh hcnt (by simpa using hz) hlz (fun k hk => ?_) (fun k hk => ?_) (fun t h1 h2 => ?_) ?_ (hA.make S.inj hj _) hW
          · rw [getD_set_ne true (by omega)]; exact hh k hk
          · by_cases hkj : k = j
            · subst hkj
              have h1 : n + k < la.size := by omega
              simp [h1]
            · rw [getD_set_ne true (by omega)]; simp only [hkj, if_false]; exact hm k hk
          · rw [getD_set_ne true (by omega)]; exact ht t h1 h2
          · refine ⟨hM.1.alloc hM.1.size _, fun k hk B hB => ?_, fun k l hk hl B hB1 hB2 => ?_⟩
            · by_cases hkj : k = j
              · subst hkj
                simp only [if_true, Option.some.injEq] at hB
                subst hB
                exact ⟨hM.1.size, by unfold World.alloc; exact Array.getElem?_push_size⟩
              · simp only [hkj, if_false] at hB
                have := hM.2.1 k hk B hB
                have hlt' := hM.lt hk hB
                refine ⟨this.1, ?_⟩
                exact (Below.heap_alloc _ _ _ hlt').trans this.2
            · by_cases hkj : k = j
              · by_cases hlj : l = j
                · rw [hkj, hlj]
                · simp only [hkj, if_true, Option.some.injEq] at hB1
                  simp only [hlj, if_false] at hB2
                  have := hM.lt hl hB2
                  omega
              · by_cases hlj : l = j
                · simp only [hlj, if_true, Option.some.injEq] at hB2
                  simp only [hkj, if_false] at hB1
                  have := hM.lt hk hB1
                  omega
                · simp only [hkj, if_false] at hB1
                  simp only [hlj, if_false] at hB2
                  exact hM.2.2 k l hk hl B hB1 hB2
end

end Fr
end Go.Proofs.YtiebhlmjpnhepaaDoor
