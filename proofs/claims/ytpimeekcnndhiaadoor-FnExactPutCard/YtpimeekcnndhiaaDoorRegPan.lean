/- A statement that draws its order, one of whose operations panics: from the same invariant. Nothing of the program is said here. -/
import Derived.Test.YtpimeekcnndhiaaDoorRegSl
namespace Go.Proofs.YtpimeekcnndhiaaDoor
open Go

section
variable {P : Program} {Q : Exit → Act → World → Prop}

/-- One operation, in whatever state what it looks at is there: what else the frame holds is told too. -/
def OpOkQ (P : Program) (ops : Array Oper) (C : World → Prop) (St : World → World → Prop) (V : Nat → Value → World → Prop) (a0 : Act) (Q : Exit → Act → World → Prop) (o : Oper) : Prop :=
  ∀ (a : Act) (w : World), C w → (∀ t, Operand.tmp t ∈ o.op.operands → oldB .any ops o t = false → V t (a.eval (.tmp t)) w) → (∀ t, Operand.tmp t ∈ o.op.operands → oldB .any ops o t = true → a.eval (.tmp t) = a0.eval (.tmp t)) →
    a.defers = a0.defers → a.tmps.size = a0.tmps.size → (∀ t, (∀ p ∈ ops.toList, p.dst ≠ some t) → a.tmps.getD t undef = a0.tmps.getD t undef) →
    o.wp P a w (fun a' w' => ∃ v, a' = a.put o.dst v ∧ C w' ∧ St w w' ∧ ∀ d, o.dst = some d → V d v w') Q
theorem opQ_of {ops : Array Oper} {C : World → Prop} {St : World → World → Prop} {V : Nat → Value → World → Prop} {a0 : Act} {o : Oper} (h : OpOk P ops C St V a0 o) : OpOkQ P ops C St V a0 Q o := fun a w hC hV hI _ _ _ => h Q a w hC hV hI
theorem wp_region_invQ {id : Nat} {a0 : Act} {w0 : World} {l : List Oper} (hm : P.follows .mixedOrders = true) (C : World → Prop) (St : World → World → Prop) (V : Nat → Value → World → Prop) (hB : regB .any l.toArray a0.tmps.size = true)
    (hC : C { w0 with drawn := w0.drawn + 1 }) (hV : ∀ d v w w', C w → St w w' → V d v w → V d v w') (hops : ∀ o ∈ l, OpOkQ P l.toArray C St V a0 Q o)
    (hend : ∀ (f : Nat → Value) (w : World), C w → (∀ o ∈ l, ∀ d, o.dst = some d → V d (f d) w) → Q .normal (putAll f l a0) w) : (Code.region id l.toArray true).wp P Q a0 w0 := by
  refine wp_region_any hm (wpAny_inv (RegI .any l.toArray C V a0) ?_ ?_ _ _ _ _ ?_ ?_)
  · intro listed a w hI i hi
    obtain ⟨hun, o, ho, hall⟩ := mem_ready.1 hi
    have hat := regB_at hB ho
    have hwant : Region.wanted o (yielded l.toArray a.tmps) = true := by simp [Region.wanted, hat.1]
    have hmem : o ∈ l := by
      have := Array.mem_of_getElem? ho
      simpa using this
    have hrun := hops o hmem a w hI.cls (fun t ht hin => ?_) (fun t ht hin => ?_) hI.defers hI.tsize (fun t ht => hI.old t (fun j p hp _ => ht p (by have := Array.mem_of_getElem? hp; simpa using this)))
    · unfold wpOp
      simp only [ho, hwant, if_true]
      refine .inl (Oper.wp_mono (fun a' w' h' => ?_) hrun)
      obtain ⟨v, rfl, hC', hSt, hv⟩ := h'
      have hltl : i < listed.size := by rw [hI.size]; exact (Array.getElem?_eq_some_iff.1 ho).1
      refine ⟨by simpa using hI.size, fun j p hp hl e he hb => ?_, hC', ?_, ?_, fun t ht => ?_, fun j p d hp hl hd => ?_⟩
      · have hup : ∀ k, listed.getD k false = true → (listed.setIfInBounds i true).getD k false = true := fun k hk => by
          by_cases q : k = i
          · subst q; exact set_getD_self hltl
          · rw [set_getD_ne q]; exact hk
        by_cases hj : j = i
        · subst hj
          rw [ho] at hp
          obtain rfl := Option.some.inj hp
          exact hup _ (hall e he hb)
        · rw [set_getD_ne hj] at hl
          exact hup _ (hI.clo j p hp hl e he hb)
      · cases hdst : o.dst <;> simp [Act.put, hI.defers]
      · cases hdst : o.dst <;> simp [Act.put, hI.tsize]
      · have hne : o.dst ≠ some t := ht i o ho (set_getD_self hltl)
        have h1 := hI.old t (fun j p hp hl => ht j p hp (by
          by_cases hj : j = i
          · subst hj; exact set_getD_self hltl
          · rw [set_getD_ne hj]; exact hl))
        rw [← h1]
        cases hdst : o.dst with
        | none => rfl
        | some d =>
          have hdt : d ≠ t := fun e => hne (by rw [hdst, e])
          exact getD_put_ne hdt
      · by_cases hj : j = i
        · subst hj
          rw [ho] at hp
          obtain rfl := Option.some.inj hp
          have hdl := hat.2.1 d hd
          have : (a.put o.dst v).tmps.getD d undef = v := by
            rw [hd]; simp [Act.put, Array.getD, hI.tsize, hdl]
          rw [this]
          exact hv d hd
        · have hl' : listed.getD j false = true := by rw [set_getD_ne hj] at hl; exact hl
          have hne : o.dst ≠ some d := ((hat.2.2.2 j p d hp hd).1).resolve_left (Ne.symm hj)
          have hold := hI.new j p d hp hl' hd
          have : (a.put o.dst v).tmps.getD d undef = a.tmps.getD d undef := by
            cases hdst : o.dst with
            | none => rfl
            | some d' =>
              have hdt : d' ≠ d := fun e => hne (by rw [hdst, e])
              exact getD_put_ne hdt
          rw [this]
          exact hV d _ _ _ hI.cls hSt hold
    · obtain ⟨j, p, hp, hd⟩ := oldB_f hin
      obtain ⟨e, he, hb, rfl⟩ := (hat.2.2.2 j p t hp hd).2 (by simpa using ht) hin
      exact hI.new e.on p t hp (hall e he hb) hd
    · refine hI.old t (fun j p hp hl hd => ?_)
      obtain ⟨d, hod, e, he, hb, hq⟩ := oldB_t hin hp hd
      have hel := hI.clo j p hp hl e he hb
      cases hqq : l.toArray[e.on]? with
      | none => rw [hqq] at hq; cases hq
      | some q =>
        rw [hqq] at hq
        rcases (hat.2.2.2 e.on q d hqq hq).1 with rfl | h
        · have hlt : e.on < listed.size := by rw [hI.size]; exact (Array.getElem?_eq_some_iff.1 hqq).1
          simp only [Array.getD, hlt, dif_pos] at hel hun
          rw [hel] at hun
          cases hun
        · exact h hod
  · intro listed a w hI hr
    have hal := all_listed hB hI.size hr
    have hput := putAll_facts (fun d => a.tmps.getD d undef) l a0
    have ha : a = putAll (fun d => a.tmps.getD d undef) l a0 := by
      refine act_ext (hI.defers.trans hput.1.symm) (hI.tsize.trans hput.2.1.symm) (fun t ht => ?_)
      rw [hput.2.1] at ht
      rw [hput.2.2 t ht]
      by_cases h : l.any (fun o => o.dst == some t) = true
      · rw [if_pos h]
      · rw [if_neg h]
        refine hI.old t (fun i o ho _ hd => h ?_)
        rw [List.any_eq_true]
        exact ⟨o, by have := Array.mem_of_getElem? ho; simpa using this, by rw [hd]; simp⟩
    rw [ha]
    refine hend _ w hI.cls (fun o ho d hd => ?_)
    obtain ⟨i, hi⟩ := List.mem_iff_getElem?.1 ho
    have hi' : l.toArray[i]? = some o := by simpa using hi
    exact hI.new i o d hi' (hal i (Array.getElem?_eq_some_iff.1 hi').1) hd
  · unfold openOps
    exact Nat.le_trans (List.length_filter_le _ _) (by simp)
  · refine ⟨by simp, fun j p _ hl => ?_, hC, rfl, rfl, fun t _ => rfl, fun i o d ho hl _ => ?_⟩
    · simp [Array.getD] at hl
    · simp [Array.getD] at hl
/-- A call that panics. -/
theorem op_pan {N : Act → World → Prop} {o : Oper} {a : Act} {w : World} {f : FuncId} {args : Array Value} {ch : List PanicEntry} (h : (execOp a.eval o).run P w = .ok (.enter f args) w)
    (hc : Calls P f args w fun e w' => e = .panicked ch ∧ Q (.panic ch) a w') : o.wp P a w N Q := by
  unfold Oper.wp
  rw [h]
  refine Calls.mono hc (fun e w' he => ?_)
  obtain ⟨rfl, hq⟩ := he
  exact hq
end
end Go.Proofs.YtpimeekcnndhiaaDoor
