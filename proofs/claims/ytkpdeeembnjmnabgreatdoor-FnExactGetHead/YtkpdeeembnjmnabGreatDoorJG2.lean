/- Texts joined: RegTail, ReadS, HeadS, PutHeadS, GetHdS, EntEq, GetHeadLaw. -/
import Derived.Test.YtkpdeeembnjmnabGreatDoorHeadSum
import Derived.Maps.AppendAt
import Derived.Deep.RegionHeld3
import Derived.Test.YtkpdeeembnjmnabGreatDoorEntL
import Derived.Deep.RegionWith
import Derived.Test.YtkpdeeembnjmnabGreatDoorJG1
/- A statement that draws its order but for its last operations, which come behind all others in their own order. Nothing of the program is said here. -/
namespace Go.Proofs.YtkpdeeembnjmnabGreatDoor
open Go

section
variable {P : Program} {Q : Exit → Act → World → Prop}

/-- Each operation ahead of i has one behind it, up to i, that waits for it. -/
def covB (md : Region.Mode) (ops : Array Oper) (i : Nat) : Bool :=
  (List.range i).all fun k => (List.range (i + 1)).any fun k' => decide (k < k') && (match ops[k']? with | some o => o.after.any (fun e => Region.binds md e && e.on == k) | none => false)
def tailB (md : Region.Mode) (l t : List Oper) : Bool :=
  t.all (fun o => o.guard.isNone) && (List.range t.length).all (fun j => covB md (l ++ t).toArray (l.length + j)) && (List.range t.length).all (fun j => match (l ++ t).toArray[l.length + j]? with | some o => o.after.all (fun e => !Region.binds md e || decide (e.on < l.length + j)) | none => true)
theorem cov_all {md : Region.Mode} {ops : Array Oper} {i : Nat} {o : Oper} {listed : Array Bool} (hc : covB md ops i = true) (ho : ops[i]? = some o)
    (clo : ∀ j p, ops[j]? = some p → listed.getD j false = true → ∀ e ∈ p.after, Region.binds md e = true → listed.getD e.on false = true)
    (hall : ∀ e ∈ o.after, Region.binds md e = true → listed.getD e.on false = true) : ∀ k, k < i → listed.getD k false = true := by
  have key : ∀ n k, k < i → i - k ≤ n → listed.getD k false = true := by
    intro n
    induction n with
    | zero => intro k hk hn; omega
    | succ n ih =>
      intro k hk hn
      have h1 := List.all_eq_true.1 hc k (List.mem_range.2 hk)
      obtain ⟨k', hk', h2⟩ := List.any_eq_true.1 h1
      rw [List.mem_range] at hk'
      simp only [Bool.and_eq_true, decide_eq_true_eq] at h2
      cases hp : ops[k']? with
      | none => rw [hp] at h2; simp at h2
      | some p =>
        rw [hp] at h2
        simp only [Array.any_eq_true', Bool.and_eq_true, beq_iff_eq] at h2
        obtain ⟨hlt, e, he, hb, rfl⟩ := h2
        by_cases q : k' = i
        · subst q
          rw [ho] at hp
          obtain rfl := Option.some.inj hp
          exact hall e he hb
        · exact clo k' p hp (ih k' (by omega) (by omega)) e he hb
  exact fun k hk => key (i - k) k hk (Nat.le_refl _)
theorem wp_region_tail {id : Nat} {a0 : Act} {w0 : World} (l t : List Oper) (hm : P.follows .mixedOrders = true) (C : World → Prop) (St : World → World → Prop) (V : Nat → Value → World → Prop) (hB : regB .any l.toArray a0.tmps.size = true) (hTl : tailB .any l t = true)
    (hC : C { w0 with drawn := w0.drawn + 1 }) (hV : ∀ d v w w', C w → St w w' → V d v w → V d v w') (hne : l ≠ []) (hops : ∀ o ∈ l, OpOk P l.toArray C St V a0 o)
    (hend : ∀ (f : Nat → Value) (w : World), C w → (∀ o ∈ l, ∀ d, o.dst = some d → V d (f d) w) → wpList P (l ++ t).toArray Q t (putAll f l a0) w) : (Code.region id (l ++ t).toArray true).wp P Q a0 w0 := by
  simp only [tailB, Bool.and_eq_true] at hTl
  obtain ⟨⟨hg, hcov⟩, hlt⟩ := hTl
  have hsz : (l ++ t).toArray.size = l.length + t.length := by simp
  have hleft : ∀ i o, i < l.length → ((l ++ t).toArray[i]? = some o ↔ l.toArray[i]? = some o) := by
    intro i o hi
    simp [List.getElem?_append_left hi]
  refine wp_region_any hm (wpAny_inv (fun listed a w => listed.size = (l ++ t).toArray.size ∧ (∀ j p, (l ++ t).toArray[j]? = some p → listed.getD j false = true → ∀ e ∈ p.after, Region.binds .any e = true → listed.getD e.on false = true) ∧
    ((∃ k, k ≤ t.length ∧ (∀ i, i < l.length + k → listed.getD i false = true) ∧ (∀ i, l.length + k ≤ i → listed.getD i false = false) ∧ wpList P (l ++ t).toArray Q (t.drop k) a w) ∨
     ((∃ i, i < l.length ∧ listed.getD i false = false) ∧ (∀ i, l.length ≤ i → listed.getD i false = false) ∧ C w ∧ a.defers = a0.defers ∧ a.tmps.size = a0.tmps.size ∧
      (∀ s, (∀ i o, l.toArray[i]? = some o → listed.getD i false = true → o.dst ≠ some s) → a.tmps.getD s undef = a0.tmps.getD s undef) ∧
      (∀ i o d, l.toArray[i]? = some o → listed.getD i false = true → o.dst = some d → V d (a.tmps.getD d undef) w)))) ?_ ?_ _ _ _ _ ?_ ?_)
  · rintro listed a w ⟨hs, clo, hI⟩ i hi
    obtain ⟨hun, o, ho, hall⟩ := mem_ready.1 hi
    have hil : i < listed.size := by rw [hs]; exact (Array.getElem?_eq_some_iff.1 ho).1
    have hun' : listed.getD i false = false := by simp only [Array.getD, hil, dif_pos] at hun ⊢; exact hun
    have hup : ∀ k, listed.getD k false = true → (listed.setIfInBounds i true).getD k false = true := fun k hk => by
      by_cases q : k = i
      · subst q; exact set_getD_self hil
      · rw [set_getD_ne q]; exact hk
    have clo' : ∀ j p, (l ++ t).toArray[j]? = some p → (listed.setIfInBounds i true).getD j false = true → ∀ e ∈ p.after, Region.binds .any e = true → (listed.setIfInBounds i true).getD e.on false = true := by
      intro j p hp hl e he hb
      by_cases hj : j = i
      · subst hj
        rw [ho] at hp
        obtain rfl := Option.some.inj hp
        exact hup _ (hall e he hb)
      · rw [set_getD_ne hj] at hl
        exact hup _ (clo j p hp hl e he hb)
    rcases hI with ⟨k, hk, h1, h2, hw⟩ | ⟨⟨i0, hi0, hu0⟩, hnt, hCw, hd, hts, hold, hnew⟩
    · have hik : l.length + k ≤ i := by
        by_cases q : l.length + k ≤ i
        · exact q
        · rw [h1 i (by omega)] at hun'; cases hun'
      have hit : i < l.length + t.length := by rw [← hsz]; exact (Array.getElem?_eq_some_iff.1 ho).1
      have hcv : covB .any (l ++ t).toArray i = true := by
        have := List.all_eq_true.1 hcov (i - l.length) (List.mem_range.2 (by omega))
        rwa [show l.length + (i - l.length) = i from by omega] at this
      have hbef := cov_all hcv ho clo hall
      obtain rfl : i = l.length + k := by
        by_cases q : i = l.length + k
        · exact q
        · have := hbef (l.length + k) (by omega)
          rw [h2 _ (Nat.le_refl _)] at this
          cases this
      have hkt : k < t.length := by omega
      have hot : t[k]? = some o := by
        have : (l ++ t)[l.length + k]? = some o := by simpa using ho
        rw [List.getElem?_append_right (by omega)] at this
        simpa using this
      have hgd : o.guard = none := by
        have := List.all_eq_true.1 hg o (List.mem_of_getElem? hot)
        simpa using this
      have hwant : Region.wanted o (yielded (l ++ t).toArray a.tmps) = true := by simp [Region.wanted, hgd]
      have hdrop : t.drop k = o :: t.drop (k + 1) := by
        rw [List.drop_eq_getElem_cons hkt]
        congr 1
        have := List.getElem?_eq_getElem hkt
        rw [hot] at this
        exact (Option.some.inj this).symm
      rw [hdrop, wpList, if_pos hwant] at hw
      unfold wpOp
      simp only [ho, hwant, if_true]
      refine hw.imp (Oper.wp_mono (fun a' w' h' => ?_)) (fun x => x)
      refine ⟨by simpa using hs, clo', .inl ⟨k + 1, by omega, fun j hj => ?_, fun j hj => ?_, h'⟩⟩
      · by_cases q : j = l.length + k
        · subst q; exact set_getD_self hil
        · rw [set_getD_ne q]; exact h1 j (by omega)
      · rw [set_getD_ne (by omega)]; exact h2 j (by omega)
    · have him : i < l.length := by
        by_cases q : i < l.length
        · exact q
        · have hit : i < l.length + t.length := by rw [← hsz]; exact (Array.getElem?_eq_some_iff.1 ho).1
          have hcv : covB .any (l ++ t).toArray i = true := by
            have := List.all_eq_true.1 hcov (i - l.length) (List.mem_range.2 (by omega))
            rwa [show l.length + (i - l.length) = i from by omega] at this
          have := cov_all hcv ho clo hall i0 (by omega)
          rw [hu0] at this
          cases this
      have hol := (hleft i o him).1 ho
      have hat := regB_at hB hol
      have hmem : o ∈ l := by
        have := Array.mem_of_getElem? hol
        simpa using this
      have hwant : Region.wanted o (yielded (l ++ t).toArray a.tmps) = true := by simp [Region.wanted, hat.1]
      have hrun := hops o hmem Q a w hCw (fun s hs' hin => ?_) (fun s hs' hin => ?_)
      · unfold wpOp
        simp only [ho, hwant, if_true]
        refine .inl (Oper.wp_mono (fun a' w' h' => ?_) hrun)
        obtain ⟨v, rfl, hC', hSt, hv⟩ := h'
        have hd' : (a.put o.dst v).defers = a0.defers := by cases hdst : o.dst <;> simp [Act.put, hd]
        have hts' : (a.put o.dst v).tmps.size = a0.tmps.size := by cases hdst : o.dst <;> simp [Act.put, hts]
        have hold' : ∀ s, (∀ j p, l.toArray[j]? = some p → (listed.setIfInBounds i true).getD j false = true → p.dst ≠ some s) → (a.put o.dst v).tmps.getD s undef = a0.tmps.getD s undef := by
          intro s hs'
          have hne' : o.dst ≠ some s := hs' i o hol (set_getD_self hil)
          have h1 := hold s (fun j p hp hl => hs' j p hp (hup j hl))
          rw [← h1]
          cases hdst : o.dst with
          | none => rfl
          | some d =>
            have hdt : d ≠ s := fun e => hne' (by rw [hdst, e])
            exact getD_put_ne hdt
        have hnew' : ∀ j p d, l.toArray[j]? = some p → (listed.setIfInBounds i true).getD j false = true → p.dst = some d → V d ((a.put o.dst v).tmps.getD d undef) w' := by
          intro j p d hp hl hd2
          by_cases hj : j = i
          · subst hj
            rw [hol] at hp
            obtain rfl := Option.some.inj hp
            have hdl := hat.2.1 d hd2
            have : (a.put o.dst v).tmps.getD d undef = v := by
              rw [hd2]; simp [Act.put, Array.getD, hts, hdl]
            rw [this]
            exact hv d hd2
          · have hl' : listed.getD j false = true := by rw [set_getD_ne hj] at hl; exact hl
            have hne' : o.dst ≠ some d := ((hat.2.2.2 j p d hp hd2).1).resolve_left (Ne.symm hj)
            have hold2 := hnew j p d hp hl' hd2
            have : (a.put o.dst v).tmps.getD d undef = a.tmps.getD d undef := by
              cases hdst : o.dst with
              | none => rfl
              | some d' =>
                have hdt : d' ≠ d := fun e => hne' (by rw [hdst, e])
                exact getD_put_ne hdt
            rw [this]
            exact hV d _ _ _ hCw hSt hold2
        have hnt' : ∀ j, l.length ≤ j → (listed.setIfInBounds i true).getD j false = false := fun j hj => by rw [set_getD_ne (by omega)]; exact hnt j hj
        refine ⟨by simpa using hs, clo', ?_⟩
        by_cases hfull : ∀ j, j < l.length → (listed.setIfInBounds i true).getD j false = true
        · refine .inl ⟨0, Nat.zero_le _, fun j hj => hfull j (by omega), fun j hj => hnt' j (by omega), ?_⟩
          have hput := putAll_facts (fun d => (a.put o.dst v).tmps.getD d undef) l a0
          have ha : a.put o.dst v = putAll (fun d => (a.put o.dst v).tmps.getD d undef) l a0 := by
            refine act_ext (hd'.trans hput.1.symm) (hts'.trans hput.2.1.symm) (fun s hs' => ?_)
            rw [hput.2.1] at hs'
            rw [hput.2.2 s hs']
            by_cases h : l.any (fun o => o.dst == some s) = true
            · rw [if_pos h]
            · rw [if_neg h]
              refine hold' s (fun j p hp _ hd2 => h ?_)
              rw [List.any_eq_true]
              exact ⟨p, by have := Array.mem_of_getElem? hp; simpa using this, by rw [hd2]; simp⟩
          rw [List.drop_zero, ha]
          refine hend _ w' hC' (fun p hp d hd2 => ?_)
          obtain ⟨j, hj⟩ := List.mem_iff_getElem?.1 hp
          have hj' : l.toArray[j]? = some p := by simpa using hj
          exact hnew' j p d hj' (hfull j (List.getElem?_eq_some_iff.1 hj).1) hd2
        · refine .inr ⟨?_, hnt', hC', hd', hts', hold', hnew'⟩
          obtain ⟨j, hj⟩ := Classical.not_forall.1 hfull
          obtain ⟨hj1, hj2⟩ := Classical.not_imp.1 hj
          exact ⟨j, hj1, by simpa using hj2⟩
      · obtain ⟨j, p, hp, hd2⟩ := oldB_f hin
        obtain ⟨e, he, hb, rfl⟩ := (hat.2.2.2 j p s hp hd2).2 (by simpa using hs') hin
        exact hnew e.on p s hp (hall e he hb) hd2
      · refine hold s (fun j p hp hl hd2 => ?_)
        obtain ⟨d, hod, e, he, hb, hq⟩ := oldB_t hin hp hd2
        have hjl : j < l.length := by have := (Array.getElem?_eq_some_iff.1 hp).1; simpa using this
        have hel := clo j p ((hleft j p hjl).2 hp) hl e he hb
        cases hqq : l.toArray[e.on]? with
        | none => rw [hqq] at hq; cases hq
        | some q =>
          rw [hqq] at hq
          rcases (hat.2.2.2 e.on q d hqq hq).1 with rfl | h
          · rw [hun'] at hel; cases hel
          · exact h hod
  · rintro listed a w ⟨hs, clo, hI⟩ hr
    have hal : ∀ i, i < (l ++ t).toArray.size → listed.getD i false = true := by
      intro i
      induction i using Nat.strongRecOn with
      | ind i ih =>
        intro hi
        cases h : listed.getD i false with
        | true => rfl
        | false =>
          have ho : (l ++ t).toArray[i]? = some (l ++ t).toArray[i] := Array.getElem?_eq_getElem hi
          have hmem : i ∈ Region.ready .any (l ++ t).toArray listed := by
            have hil : i < listed.size := by rw [hs]; exact hi
            refine mem_ready.2 ⟨by simp only [Array.getD, hil, dif_pos] at h ⊢; exact h, _, ho, fun e he hb => ?_⟩
            have hlt2 : e.on < i := by
              by_cases q : i < l.length
              · exact (regB_at hB ((hleft i _ q).1 ho)).2.2.1 e he hb
              · have h3 := List.all_eq_true.1 hlt (i - l.length) (List.mem_range.2 (by omega))
                rw [show l.length + (i - l.length) = i from by omega, ho] at h3
                have := Array.all_eq_true'.1 h3 e he
                simpa [hb] using this
            exact ih e.on hlt2 (by omega)
          rw [hr] at hmem
          cases hmem
    rcases hI with ⟨k, hk, h1, h2, hw⟩ | ⟨⟨i0, hi0, hu0⟩, _⟩
    · obtain rfl : k = t.length := by
        by_cases q : k = t.length
        · exact q
        · have := hal (l.length + k) (by omega)
          rw [h2 _ (Nat.le_refl _)] at this
          cases this
      rw [List.drop_length] at hw
      exact hw
    · have := hal i0 (by omega)
      rw [hu0] at this
      cases this
  · unfold openOps
    exact Nat.le_trans (List.length_filter_le _ _) (by simp)
  · have hf : ∀ i, (Array.replicate (l ++ t).toArray.size false).getD i false = false := fun i => by
      simp [Array.getD]
    have hpos : 0 < l.length := by
      cases l with
      | nil => exact absurd rfl hne
      | cons _ _ => simp
    refine ⟨by simp, ?_, .inr ⟨⟨0, hpos, hf 0⟩, fun i _ => hf i, hC, rfl, rfl, fun s _ => rfl, ?_⟩⟩
    · intro j p _ hl
      rw [hf] at hl; cases hl
    · intro i o d _ hl
      rw [hf] at hl; cases hl
theorem wp_region_cut {id : Nat} {a0 : Act} {w0 : World} {full : List Oper} (K : Nat) (hm : P.follows .mixedOrders = true) (C : World → Prop) (St : World → World → Prop) (V : Nat → Value → World → Prop) (hB : regB .any (full.take K).toArray a0.tmps.size = true) (hTl : tailB .any (full.take K) (full.drop K) = true)
    (hC : C { w0 with drawn := w0.drawn + 1 }) (hV : ∀ d v w w', C w → St w w' → V d v w → V d v w') (hne : full.take K ≠ []) (hops : ∀ o ∈ full.take K, OpOk P (full.take K).toArray C St V a0 o)
    (hend : ∀ (f : Nat → Value) (w : World), C w → (∀ o ∈ full.take K, ∀ d, o.dst = some d → V d (f d) w) → wpList P full.toArray Q (full.drop K) (putAll f (full.take K) a0) w) : (Code.region id full.toArray true).wp P Q a0 w0 := by
  have h := wp_region_tail (P := P) (Q := Q) (id := id) (a0 := a0) (w0 := w0) (full.take K) (full.drop K) hm C St V hB hTl hC hV hne hops (by rw [List.take_append_drop]; exact hend)
  rw [List.take_append_drop] at h
  exact h
end
end Go.Proofs.YtkpdeeembnjmnabGreatDoor

/- Contract of spec.l04Read. -/
namespace Go.Proofs.YtkpdeeembnjmnabGreatDoor
open Go.ChangeShapes Go.WideShapes Go.ChangeAt Go.RowKit

def rdc (s : ByteArray) : Int := if s.size < 512 then 1 else if sumOkv s = false then 2 else if headOk (lOf s) = false then 3 else 0
def readS (s : ByteArray) : Value := if rdc s = 0 then .tuple #[.agg (entL (lOf s)).cells.toArray, .string (fW (lOf s) 7), .int .i64 (fnumv (fW (lOf s) 4)), .int .i64 0] else .tuple #[.agg zEnt, .string ⟨#[]⟩, .int .i64 0, .int .i64 (rdc s)]
theorem readS_bad {s : ByteArray} {c : Int} (h : rdc s = c) (hc : ¬ c = 0) : readS s = .tuple #[.agg zEnt, .string ⟨#[]⟩, .int .i64 0, .int .i64 c] := by rw [readS, h, if_neg hc]
theorem Tryz.infoInt : (Tryz.prog.info? 3).map (fun i => (i.zero, i.size, i.bytes)) = some (some (.int .i64 0), 1, 8) := by kernel_rfl
theorem cell_setRow_other {w : World} {g k o : Nat} {cs : Array Value} (h : k ≠ g) : (w.setRow g cs).cell? ⟨k, o, none⟩ = w.cell? ⟨k, o, none⟩ := by
  unfold World.cell?
  rw [setRow_other _ _ _ _ h]
def vBox (B : Nat) (V : Nat → Value → Prop) (d : Nat) (v : Value) (w : World) : Prop := if d = 15 then ∃ G, v = .pointer (some ⟨G, 0, none⟩) ∧ B ≤ G ∧ w.heap[G]? = some (.cells zEnt 23 (0, 0)) else V d v
theorem vBox_keep {C : World → Prop} (B : Nat) (V : Nat → Value → Prop) : ∀ d v x y, C x → Below x.heap.size x y → vBox B V d v x → vBox B V d v y := by
  intro d v x y _ hb h
  unfold vBox at h ⊢
  split at h
  · rename_i hd
    rw [if_pos hd]
    obtain ⟨G, h1, h2, h3⟩ := h
    exact ⟨G, h1, h2, (hb.block _ (obj_lt h3)).trans h3⟩
  · rename_i hd
    rw [if_neg hd]
    exact h
/-- The first i numbers of a header. -/
def nl (l : List UInt8) (i : Nat) : List Value := (List.range i).map fun j => .int .i64 (fnumv (fW l (j + 1)))
theorem nl_len (l : List UInt8) (i : Nat) : (nl l i).length = i := by simp [nl]
theorem nl_succ (l : List UInt8) (i : Nat) : nl l (i + 1) = nl l i ++ [.int .i64 (fnumv (fW l (i + 1)))] := by simp [nl, List.range_succ]
set_option maxHeartbeats 6400000 in
set_option maxRecDepth 8000 in
theorem read_spec (s : ByteArray) (w : World) (hs : s.size ≤ 1048576) :
    Calls Tryz.prog 21 #[.string s] w fun e w' => e = .returned (readS s) ∧ Below w.heap.size w w' := by
  have B0 := Lib.hid ((Below.refl w.heap.size w).alloc (Nat.le_refl _) (.cells zEnt 23))
  have R0 : Hid ((w.alloc (.cells zEnt 23)).heap[w.heap.size]? = some (.cells zEnt 23 (0, 0))) := Lib.hid (heap_alloc_last _ _)
  have HSt0 := Lib.hid (run_storeVar_new (P := Tryz.prog) w 23 zEnt zEnt (by rw [Tryz.sizeEnt]; rfl) rfl (by simp [zEnt, Value.oneCell']))
  by_cases h5 : (s.size : Int) < 512
  · have HE := Lib.hid (readS_bad (s := s) (c := 1) (by rw [rdc, if_pos (by omega)]) (by omega))
    go_enter Tryz.func21, Tryz.ntmps21
    go_wp2_with ((with_reducible refine wpList_store_eq rfl 23 _ _ rfl ⟨w.heap.size, 0, none⟩ ?_ ?_ HSt0.out ?_); rfl; rfl)
    refine bodyPost_ret (results_cell4 rfl _ _ w.heap.size _ zEnt (0, 0) _ rfl R0.out Tryz.underlying23 rfl (by rw [Tryz.sizeEnt]; rfl)) rfl ?_
    rw [HE.out]
    exact ⟨rfl, B0.out⟩
  · have h512 : 512 ≤ s.size := by omega
    have H1 := Lib.hid (fun w => getOct_spec (s.extract 148 154) w (by rw [ByteArray.size_extract]; omega))
    have H2 := Lib.hid (fun w => headSum_spec s w hs)
    have HQ := Lib.hid (sum_iff h512)
    have HR2 : Hid (sumOkv s = false → rdc s = 2) := Lib.hid (fun h => by rw [rdc, if_neg (by omega), if_pos h])
    have HR3 : Hid (sumOkv s = true → headOk (lOf s) = false → rdc s = 3) := Lib.hid (fun h h2 => by rw [rdc, if_neg (by omega), if_neg (by rw [h]; simp), if_pos h2])
    have HR0 : Hid (sumOkv s = true → headOk (lOf s) = true → rdc s = 0) := Lib.hid (fun h h2 => by rw [rdc, if_neg (by omega), if_neg (by rw [h]; simp), if_neg (by rw [h2]; simp)])
    generalize getOctv (s.extract 148 154).data.toList = pr at *
    obtain ⟨n6, o6⟩ := pr
    simp only at H1 HQ
    have c1 : (154 : Int) ≤ (s.size : Int) := by omega
    have c2 : (156 : Int) ≤ (s.size : Int) := by omega
    have bad : ∀ w1, Below (w.alloc (.cells zEnt 23)).heap.size (w.alloc (.cells zEnt 23)) w1 → w1.heap[w.heap.size]? = some (.cells zEnt 23 (0, 0)) ∧ Below w.heap.size w w1 := fun w1 hb => ⟨(hb.block _ (obj_lt R0.out)).trans R0.out, B0.out.trans (hb.mono B0.out.size)⟩
    have BAD := Lib.hid bad
    clear bad
    cases o6 with
    | false =>
      have HE := Lib.hid (readS_bad (s := s) (c := 2) (HR2.out (by cases h : sumOkv s with | false => rfl | true => have := (HQ.out.1 h).1; cases this)) (by omega))
      go_enter Tryz.func21, Tryz.ntmps21
      go_wp2_with fail
      refine (H1.out _).mono ?_
      rintro e w1 ⟨rfl, rfl⟩
      go_wp2_with ((with_reducible refine wpList_store_eq rfl 23 _ _ rfl ⟨w.heap.size, 0, none⟩ ?_ ?_ HSt0.out ?_); rfl; rfl)
      refine bodyPost_ret (results_cell4 rfl _ _ w.heap.size _ zEnt (0, 0) _ rfl R0.out Tryz.underlying23 rfl (by rw [Tryz.sizeEnt]; rfl)) rfl ?_
      rw [HE.out]
      exact ⟨rfl, B0.out⟩
    | true =>
      by_cases h2 : s.extract 154 156 = ⟨#[0, 32]⟩
      · have q2 := lit_eq (s := s.extract 154 156) (l := [0, 32]) h2
        by_cases h3 : n6 = headSumv s
        · have hok : sumOkv s = true := HQ.out.2 ⟨rfl, h2, h3⟩
          have HS3 := Lib.hid (HR3.out hok)
          have HS0 := Lib.hid (HR0.out hok)
          subst h3
          have q3 : (headSumv s != headSumv s) = false := by simp
          clear HQ HR2 HR3 HR0 hok h2
          generalize headSumv s = hsv at *
          go_enter Tryz.func21, Tryz.ntmps21
          go_wp2_with fail
          refine (H1.out _).mono ?_
          rintro e w1 ⟨rfl, rfl⟩
          go_wp2_with fail
          refine (H2.out _).mono ?_
          rintro e w1 ⟨rfl, hb⟩
          obtain ⟨R1, B1⟩ := BAD.out w1 hb
          clear hb
          -- LOOP
          have RO1 := Lib.hid R1
          have BW1 := Lib.hid B1
          have zR := obj_lt R1
          clear R1 B1 H1 H2 BAD HSt0 R0 B0 q2 q3
          obtain ⟨i0, hi0, hz0, hz1, hz2⟩ := info_parts Tryz.infoInt
          have c148 : (148 : Int) ≤ (s.size : Int) := by omega
          go_wp2_with fail
          go_loopw [8, 10] (fun v u wr => ∃ i : Nat, u = .int .i64 i ∧ i ≤ 5 ∧ ok5 (lOf s) i = true ∧ wr.ownsRow w1.heap.size 3 1 v i (nl (lOf s) i) ∧ (∃ gb cp, v = .slice (some ⟨gb, 0, none⟩) i cp ∧ gb ≠ w1.heap.size + 1) ∧ wr.heap[w1.heap.size + 1]? = some (.cells #[.int .i64 100, .int .i64 108, .int .i64 116, .int .i64 124, .int .i64 136, .int .i64 148] 3 (0, 0)) ∧ Below w1.heap.size w1 wr) (fun _ u _ => 5 - (intOf u).toNat)
          case atStart =>
            have h0 := World.ownsRow_lit (base := w1.heap.size) (e := 3) (size := 1) w1 #[] 0 (Nat.le_refl _) (by simp) rfl
            exact ⟨0, rfl, by omega, rfl, World.ownsRow.alloc h0 _, ⟨_, _, rfl, by omega⟩, (two_obj w1 _ _).2.1, (two_obj w1 _ _).2.2.1⟩
          case round =>
            obtain ⟨i, rfl, hi, hok, ho, ⟨gb, cp, rfl, hgb⟩, hA, hD⟩ := hrel
            have O := Lib.hid ho
            have AO := Lib.hid hA
            have D := Lib.hid hD
            have OK := Lib.hid hok
            clear ho hA hD hok
            by_cases h5' : i = 5
            · subst h5'
              have n0 : wr.cell? ⟨gb, 0, none⟩ = some (.int .i64 (fnumv (fW (lOf s) 1))) := World.ownsRow.cells O.out rfl 0 _ rfl
              have n1 : wr.cell? ⟨gb, 1, none⟩ = some (.int .i64 (fnumv (fW (lOf s) 2))) := World.ownsRow.cells O.out rfl 1 _ rfl
              have n2 : wr.cell? ⟨gb, 2, none⟩ = some (.int .i64 (fnumv (fW (lOf s) 3))) := World.ownsRow.cells O.out rfl 2 _ rfl
              have n3 : wr.cell? ⟨gb, 3, none⟩ = some (.int .i64 (fnumv (fW (lOf s) 4))) := World.ownsRow.cells O.out rfl 3 _ rfl
              have n4 : wr.cell? ⟨gb, 4, none⟩ = some (.int .i64 (fnumv (fW (lOf s) 5))) := World.ownsRow.cells O.out rfl 4 _ rfl
              have RO3 := Lib.hid ((D.out.block _ zR).trans RO1.out)
              have B3 := Lib.hid (BW1.out.trans (D.out.mono BW1.out.size))
              have zgb : gb < wr.heap.size := (World.ownsRow.lt O.out gb rfl).2
              have zgR : w.heap.size < gb := Nat.lt_of_lt_of_le zR (World.ownsRow.lt O.out gb rfl).1
              by_cases hz : fnumv (fW (lOf s) 4) ≤ 3000
              · have hh : headOk (lOf s) = true := by rw [headOk, OK.out]; simpa using hz
                have HE : Hid (readS s = .tuple #[.agg #[.int .i64 0, .string (pathL (lOf s)), .string (cutv (fW (lOf s) 8)), .int .i64 (fnumv (fW (lOf s) 1)), .int .i64 (fnumv (fW (lOf s) 2)), .int .i64 (fnumv (fW (lOf s) 3)), .int .i64 (fnumv (fW (lOf s) 5)), .string (cutv (fW (lOf s) 10)), .string (cutv (fW (lOf s) 11)), .string ⟨#[]⟩], .string (fW (lOf s) 7), .int .i64 (fnumv (fW (lOf s) 4)), .int .i64 0]) := Lib.hid (by rw [readS, HS0.out hh, if_pos rfl]; rfl)
                have HP : Hid (pathL (lOf s) = if (cutv (fW (lOf s) 14)).size = 0 then cutv (fW (lOf s) 0) else cutv (fW (lOf s) 14) ++ ⟨#[47]⟩ ++ cutv (fW (lOf s) 0)) := Lib.hid rfl
                have C0 := Lib.hid (fun w => cut_spec (s.extract 0 100) w (by rw [ByteArray.size_extract]; omega))
                have C14 := Lib.hid (fun w => cut_spec (s.extract 345 500) w (by rw [ByteArray.size_extract]; omega))
                have C8 := Lib.hid (fun w => cut_spec (s.extract 157 257) w (by rw [ByteArray.size_extract]; omega))
                have C10 := Lib.hid (fun w => cut_spec (s.extract 265 297) w (by rw [ByteArray.size_extract]; omega))
                have C11 := Lib.hid (fun w => cut_spec (s.extract 297 329) w (by rw [ByteArray.size_extract]; omega))
                rw [show cutv (s.extract 0 100) = cutv (fW (lOf s) 0) from by rw [fW_ext s 0 100 (by omega) rfl]; rfl] at C0
                rw [show cutv (s.extract 345 500) = cutv (fW (lOf s) 14) from by rw [fW_ext s 14 155 (by omega) rfl]; rfl] at C14
                rw [show cutv (s.extract 157 257) = cutv (fW (lOf s) 8) from by rw [fW_ext s 8 100 (by omega) rfl]; rfl] at C8
                rw [show cutv (s.extract 265 297) = cutv (fW (lOf s) 10) from by rw [fW_ext s 10 32 (by omega) rfl]; rfl] at C10
                rw [show cutv (s.extract 297 329) = cutv (fW (lOf s) 11) from by rw [fW_ext s 11 32 (by omega) rfl]; rfl] at C11
                have z0 := fW_small (lOf s) 0
                have z14 := fW_small (lOf s) 14
                have hfl7 : fW (lOf s) 7 = s.extract 156 157 := fW_ext s 7 1 (by omega) rfl
                rw [hfl7] at HE
                generalize pathL (lOf s) = pth at *
                generalize cutv (fW (lOf s) 0) = t0 at *
                generalize cutv (fW (lOf s) 8) = t8 at *
                generalize cutv (fW (lOf s) 10) = t10 at *
                generalize cutv (fW (lOf s) 11) = t11 at *
                generalize cutv (fW (lOf s) 14) = t14 at *
                generalize fnumv (fW (lOf s) 1) = nm at *
                generalize fnumv (fW (lOf s) 2) = nu at *
                generalize fnumv (fW (lOf s) 3) = ng at *
                generalize fnumv (fW (lOf s) 4) = nz at *
                generalize fnumv (fW (lOf s) 5) = nt at *
                have d1 : (100 : Int) ≤ (s.size : Int) := by omega
                have d2 : (500 : Int) ≤ (s.size : Int) := by omega
                have d3 : (257 : Int) ≤ (s.size : Int) := by omega
                have d4 : (297 : Int) ≤ (s.size : Int) := by omega
                have d5 : (329 : Int) ≤ (s.size : Int) := by omega
                clear hh HS3 HS0 OK O AO hfl7
                go_wp2_with fail
                -- END0
                refine (C0.out _).mono ?_
                rintro e w3 ⟨rfl, rfl⟩
                go_wp2_with fail
                refine (C14.out _).mono ?_
                rintro e w3 ⟨rfl, rfl⟩
                have KC : Hid (∀ w', Below wr.heap.size wr w' → w'.cell? ⟨gb, 0, none⟩ = some (.int .i64 nm) ∧ w'.cell? ⟨gb, 1, none⟩ = some (.int .i64 nu) ∧ w'.cell? ⟨gb, 2, none⟩ = some (.int .i64 ng) ∧ w'.cell? ⟨gb, 3, none⟩ = some (.int .i64 nz) ∧ w'.cell? ⟨gb, 4, none⟩ = some (.int .i64 nt)) := Lib.hid (fun w' hb => ⟨(hb.cell (p := ⟨gb, 0, none⟩) zgb).trans n0, (hb.cell (p := ⟨gb, 1, none⟩) zgb).trans n1, (hb.cell (p := ⟨gb, 2, none⟩) zgb).trans n2, (hb.cell (p := ⟨gb, 3, none⟩) zgb).trans n3, (hb.cell (p := ⟨gb, 4, none⟩) zgb).trans n4⟩)
                clear n0 n1 n2 n3 n4
                have d6 : (157 : Int) ≤ (s.size : Int) := by omega
                by_cases hq : t14.size = 0
                · have HP2 : pth = t0 := HP.out.trans (if_pos hq)
                  have hq1 := empty_t hq
                  rw [HP2] at HE
                  clear HP HP2 C0 C14 hq
                  go_wp2_with fail
                  refine wp_region_cut 24 (by kernel_rfl) (fun w' => Below wr.heap.size wr w') (fun x y => Below x.heap.size x y) (vBox wr.heap.size (fun d v => match d with | 85 => v = .string t0 | 86 => v = .string s | 87 => v = .string (s.extract 157 257) | 88 => v = .string t8 | 89 => v = .slice (some ⟨gb, 0, none⟩) 5 cp | 90 => v = .pointer (some ⟨gb, 0, none⟩) | 91 => v = .int .i64 nm | 92 => v = .slice (some ⟨gb, 0, none⟩) 5 cp | 93 => v = .pointer (some ⟨gb, 1, none⟩) | 94 => v = .int .i64 nu | 95 => v = .slice (some ⟨gb, 0, none⟩) 5 cp | 96 => v = .pointer (some ⟨gb, 2, none⟩) | 97 => v = .int .i64 ng | 98 => v = .slice (some ⟨gb, 0, none⟩) 5 cp | 99 => v = .pointer (some ⟨gb, 4, none⟩) | 100 => v = .int .i64 nt | 101 => v = .string s | 102 => v = .string (s.extract 265 297) | 103 => v = .string t10 | 104 => v = .string s | 105 => v = .string (s.extract 297 329) | 106 => v = .string t11 | 107 => v = .agg #[.int .i64 0, .string t0, .string t8, .int .i64 nm, .int .i64 nu, .int .i64 ng, .int .i64 nt, .string t10, .string t11, .string ⟨#[]⟩] | _ => True)) (by kernel_rfl) (by kernel_rfl) ((Below.refl _ _).drew) (vBox_keep _ _) (by simp) ?hops ?hend
                  case hops =>
                    simp only [List.take_succ_cons, List.take_zero, List.forall_mem_cons]
                    refine ⟨?o85, ?o86, ?o87, ?o88, ?o89, ?o90, ?o91, ?o92, ?o93, ?o94, ?o95, ?o96, ?o97, ?o98, ?o99, ?o100, ?o101, ?o102, ?o103, ?o104, ?o105, ?o106, ?o107, ?o15, fun _ h => by cases h⟩
                    case o85 =>
                      intro Q a w2 hC hV hI
                      have e13 : a.eval (.tmp 13) = .string t0 := (hI 13 (by simp [Op.operands]) (by kernel_rfl)).trans rfl
                      have f13 : a.tmps.getD 13 undef = .string t0 := e13
                      have g13 : a.tmps[13]?.getD undef = .string t0 := by rw [← Array.getD_eq_getD_getElem?]; exact e13
                      refine op_val (.string t0) ?_ hC (Below.refl _ _) (by intro d hd; cases hd; exact rfl)
                      (clear hV hI hC; go_simp <;> (first | rfl | simp))
                    case o86 =>
                      intro Q a w2 hC hV hI
                      have e0 : a.eval (.tmp 0) = .string s := (hI 0 (by simp [Op.operands]) (by kernel_rfl)).trans rfl
                      have f0 : a.tmps.getD 0 undef = .string s := e0
                      have g0 : a.tmps[0]?.getD undef = .string s := by rw [← Array.getD_eq_getD_getElem?]; exact e0
                      refine op_val (.string s) ?_ hC (Below.refl _ _) (by intro d hd; cases hd; exact rfl)
                      (clear hV hI hC; go_simp <;> (first | rfl | simp))
                    case o87 =>
                      intro Q a w2 hC hV hI
                      have e86 : a.eval (.tmp 86) = .string s := hV 86 (by simp [Op.operands]) (by kernel_rfl)
                      have f86 : a.tmps.getD 86 undef = .string s := e86
                      have g86 : a.tmps[86]?.getD undef = .string s := by rw [← Array.getD_eq_getD_getElem?]; exact e86
                      refine op_val (.string (s.extract 157 257)) ?_ hC (Below.refl _ _) (by intro d hd; cases hd; exact rfl)
                      (clear hV hI hC; go_simp <;> (first | rfl | simp))
                    case o88 =>
                      intro Q a w2 hC hV hI
                      have e87 : a.eval (.tmp 87) = .string (s.extract 157 257) := hV 87 (by simp [Op.operands, Call.operands]) (by kernel_rfl)
                      have f87 : a.tmps.getD 87 undef = .string (s.extract 157 257) := e87
                      have g87 : a.tmps[87]?.getD undef = .string (s.extract 157 257) := by rw [← Array.getD_eq_getD_getElem?]; exact e87
                      refine op_call (f := 46) (args := #[.string (s.extract 157 257)]) (R := fun v y => v = .string t8 ∧ w2 = y) ?_ ((C8.out w2).mono ?_) ?_
                      · (clear hV hI hC; go_simp <;> (first | rfl | simp))
                      · rintro e y ⟨rfl, rfl⟩; exact ⟨_, rfl, rfl, rfl⟩
                      · rintro v y ⟨rfl, rfl⟩; exact ⟨hC, Below.refl _ _, by intro d hd; cases hd; exact rfl⟩
                    case o89 =>
                      intro Q a w2 hC hV hI
                      have e8 : a.eval (.tmp 8) = .slice (some ⟨gb, 0, none⟩) 5 cp := (hI 8 (by simp [Op.operands]) (by kernel_rfl)).trans rfl
                      have f8 : a.tmps.getD 8 undef = .slice (some ⟨gb, 0, none⟩) 5 cp := e8
                      have g8 : a.tmps[8]?.getD undef = .slice (some ⟨gb, 0, none⟩) 5 cp := by rw [← Array.getD_eq_getD_getElem?]; exact e8
                      refine op_val (.slice (some ⟨gb, 0, none⟩) 5 cp) ?_ hC (Below.refl _ _) (by intro d hd; cases hd; exact rfl)
                      (clear hV hI hC; go_simp <;> (first | rfl | simp))
                    case o90 =>
                      intro Q a w2 hC hV hI
                      have e89 : a.eval (.tmp 89) = .slice (some ⟨gb, 0, none⟩) 5 cp := hV 89 (by simp [Op.operands]) (by kernel_rfl)
                      have f89 : a.tmps.getD 89 undef = .slice (some ⟨gb, 0, none⟩) 5 cp := e89
                      have g89 : a.tmps[89]?.getD undef = .slice (some ⟨gb, 0, none⟩) 5 cp := by rw [← Array.getD_eq_getD_getElem?]; exact e89
                      refine op_val (.pointer (some ⟨gb, 0, none⟩)) ?_ hC (Below.refl _ _) (by intro d hd; cases hd; exact rfl)
                      (clear hV hI hC; go_simp <;> (first | rfl | simp))
                    case o91 =>
                      intro Q a w2 hC hV hI
                      have e90 : a.eval (.tmp 90) = .pointer (some ⟨gb, 0, none⟩) := hV 90 (by simp [Op.operands]) (by kernel_rfl)
                      have f90 : a.tmps.getD 90 undef = .pointer (some ⟨gb, 0, none⟩) := e90
                      have g90 : a.tmps[90]?.getD undef = .pointer (some ⟨gb, 0, none⟩) := by rw [← Array.getD_eq_getD_getElem?]; exact e90
                      have hK := KC.out w2 hC
                      refine op_val (.int .i64 nm) ?_ hC (Below.refl _ _) (by intro d hd; cases hd; exact rfl)
                      (clear hV hI hC; go_simp <;> (first | rfl | simp))
                    case o92 =>
                      intro Q a w2 hC hV hI
                      have e8 : a.eval (.tmp 8) = .slice (some ⟨gb, 0, none⟩) 5 cp := (hI 8 (by simp [Op.operands]) (by kernel_rfl)).trans rfl
                      have f8 : a.tmps.getD 8 undef = .slice (some ⟨gb, 0, none⟩) 5 cp := e8
                      have g8 : a.tmps[8]?.getD undef = .slice (some ⟨gb, 0, none⟩) 5 cp := by rw [← Array.getD_eq_getD_getElem?]; exact e8
                      refine op_val (.slice (some ⟨gb, 0, none⟩) 5 cp) ?_ hC (Below.refl _ _) (by intro d hd; cases hd; exact rfl)
                      (clear hV hI hC; go_simp <;> (first | rfl | simp))
                    case o93 =>
                      intro Q a w2 hC hV hI
                      have e92 : a.eval (.tmp 92) = .slice (some ⟨gb, 0, none⟩) 5 cp := hV 92 (by simp [Op.operands]) (by kernel_rfl)
                      have f92 : a.tmps.getD 92 undef = .slice (some ⟨gb, 0, none⟩) 5 cp := e92
                      have g92 : a.tmps[92]?.getD undef = .slice (some ⟨gb, 0, none⟩) 5 cp := by rw [← Array.getD_eq_getD_getElem?]; exact e92
                      refine op_val (.pointer (some ⟨gb, 1, none⟩)) ?_ hC (Below.refl _ _) (by intro d hd; cases hd; exact rfl)
                      (clear hV hI hC; go_simp <;> (first | rfl | simp))
                    case o94 =>
                      intro Q a w2 hC hV hI
                      have e93 : a.eval (.tmp 93) = .pointer (some ⟨gb, 1, none⟩) := hV 93 (by simp [Op.operands]) (by kernel_rfl)
                      have f93 : a.tmps.getD 93 undef = .pointer (some ⟨gb, 1, none⟩) := e93
                      have g93 : a.tmps[93]?.getD undef = .pointer (some ⟨gb, 1, none⟩) := by rw [← Array.getD_eq_getD_getElem?]; exact e93
                      have hK := KC.out w2 hC
                      refine op_val (.int .i64 nu) ?_ hC (Below.refl _ _) (by intro d hd; cases hd; exact rfl)
                      (clear hV hI hC; go_simp <;> (first | rfl | simp))
                    case o95 =>
                      intro Q a w2 hC hV hI
                      have e8 : a.eval (.tmp 8) = .slice (some ⟨gb, 0, none⟩) 5 cp := (hI 8 (by simp [Op.operands]) (by kernel_rfl)).trans rfl
                      have f8 : a.tmps.getD 8 undef = .slice (some ⟨gb, 0, none⟩) 5 cp := e8
                      have g8 : a.tmps[8]?.getD undef = .slice (some ⟨gb, 0, none⟩) 5 cp := by rw [← Array.getD_eq_getD_getElem?]; exact e8
                      refine op_val (.slice (some ⟨gb, 0, none⟩) 5 cp) ?_ hC (Below.refl _ _) (by intro d hd; cases hd; exact rfl)
                      (clear hV hI hC; go_simp <;> (first | rfl | simp))
                    case o96 =>
                      intro Q a w2 hC hV hI
                      have e95 : a.eval (.tmp 95) = .slice (some ⟨gb, 0, none⟩) 5 cp := hV 95 (by simp [Op.operands]) (by kernel_rfl)
                      have f95 : a.tmps.getD 95 undef = .slice (some ⟨gb, 0, none⟩) 5 cp := e95
                      have g95 : a.tmps[95]?.getD undef = .slice (some ⟨gb, 0, none⟩) 5 cp := by rw [← Array.getD_eq_getD_getElem?]; exact e95
                      refine op_val (.pointer (some ⟨gb, 2, none⟩)) ?_ hC (Below.refl _ _) (by intro d hd; cases hd; exact rfl)
                      (clear hV hI hC; go_simp <;> (first | rfl | simp))
                    case o97 =>
                      intro Q a w2 hC hV hI
                      have e96 : a.eval (.tmp 96) = .pointer (some ⟨gb, 2, none⟩) := hV 96 (by simp [Op.operands]) (by kernel_rfl)
                      have f96 : a.tmps.getD 96 undef = .pointer (some ⟨gb, 2, none⟩) := e96
                      have g96 : a.tmps[96]?.getD undef = .pointer (some ⟨gb, 2, none⟩) := by rw [← Array.getD_eq_getD_getElem?]; exact e96
                      have hK := KC.out w2 hC
                      refine op_val (.int .i64 ng) ?_ hC (Below.refl _ _) (by intro d hd; cases hd; exact rfl)
                      (clear hV hI hC; go_simp <;> (first | rfl | simp))
                    case o98 =>
                      intro Q a w2 hC hV hI
                      have e8 : a.eval (.tmp 8) = .slice (some ⟨gb, 0, none⟩) 5 cp := (hI 8 (by simp [Op.operands]) (by kernel_rfl)).trans rfl
                      have f8 : a.tmps.getD 8 undef = .slice (some ⟨gb, 0, none⟩) 5 cp := e8
                      have g8 : a.tmps[8]?.getD undef = .slice (some ⟨gb, 0, none⟩) 5 cp := by rw [← Array.getD_eq_getD_getElem?]; exact e8
                      refine op_val (.slice (some ⟨gb, 0, none⟩) 5 cp) ?_ hC (Below.refl _ _) (by intro d hd; cases hd; exact rfl)
                      (clear hV hI hC; go_simp <;> (first | rfl | simp))
                    case o99 =>
                      intro Q a w2 hC hV hI
                      have e98 : a.eval (.tmp 98) = .slice (some ⟨gb, 0, none⟩) 5 cp := hV 98 (by simp [Op.operands]) (by kernel_rfl)
                      have f98 : a.tmps.getD 98 undef = .slice (some ⟨gb, 0, none⟩) 5 cp := e98
                      have g98 : a.tmps[98]?.getD undef = .slice (some ⟨gb, 0, none⟩) 5 cp := by rw [← Array.getD_eq_getD_getElem?]; exact e98
                      refine op_val (.pointer (some ⟨gb, 4, none⟩)) ?_ hC (Below.refl _ _) (by intro d hd; cases hd; exact rfl)
                      (clear hV hI hC; go_simp <;> (first | rfl | simp))
                    case o100 =>
                      intro Q a w2 hC hV hI
                      have e99 : a.eval (.tmp 99) = .pointer (some ⟨gb, 4, none⟩) := hV 99 (by simp [Op.operands]) (by kernel_rfl)
                      have f99 : a.tmps.getD 99 undef = .pointer (some ⟨gb, 4, none⟩) := e99
                      have g99 : a.tmps[99]?.getD undef = .pointer (some ⟨gb, 4, none⟩) := by rw [← Array.getD_eq_getD_getElem?]; exact e99
                      have hK := KC.out w2 hC
                      refine op_val (.int .i64 nt) ?_ hC (Below.refl _ _) (by intro d hd; cases hd; exact rfl)
                      (clear hV hI hC; go_simp <;> (first | rfl | simp))
                    case o101 =>
                      intro Q a w2 hC hV hI
                      have e0 : a.eval (.tmp 0) = .string s := (hI 0 (by simp [Op.operands]) (by kernel_rfl)).trans rfl
                      have f0 : a.tmps.getD 0 undef = .string s := e0
                      have g0 : a.tmps[0]?.getD undef = .string s := by rw [← Array.getD_eq_getD_getElem?]; exact e0
                      refine op_val (.string s) ?_ hC (Below.refl _ _) (by intro d hd; cases hd; exact rfl)
                      (clear hV hI hC; go_simp <;> (first | rfl | simp))
                    case o102 =>
                      intro Q a w2 hC hV hI
                      have e101 : a.eval (.tmp 101) = .string s := hV 101 (by simp [Op.operands]) (by kernel_rfl)
                      have f101 : a.tmps.getD 101 undef = .string s := e101
                      have g101 : a.tmps[101]?.getD undef = .string s := by rw [← Array.getD_eq_getD_getElem?]; exact e101
                      refine op_val (.string (s.extract 265 297)) ?_ hC (Below.refl _ _) (by intro d hd; cases hd; exact rfl)
                      (clear hV hI hC; go_simp <;> (first | rfl | simp))
                    case o103 =>
                      intro Q a w2 hC hV hI
                      have e102 : a.eval (.tmp 102) = .string (s.extract 265 297) := hV 102 (by simp [Op.operands, Call.operands]) (by kernel_rfl)
                      have f102 : a.tmps.getD 102 undef = .string (s.extract 265 297) := e102
                      have g102 : a.tmps[102]?.getD undef = .string (s.extract 265 297) := by rw [← Array.getD_eq_getD_getElem?]; exact e102
                      refine op_call (f := 46) (args := #[.string (s.extract 265 297)]) (R := fun v y => v = .string t10 ∧ w2 = y) ?_ ((C10.out w2).mono ?_) ?_
                      · (clear hV hI hC; go_simp <;> (first | rfl | simp))
                      · rintro e y ⟨rfl, rfl⟩; exact ⟨_, rfl, rfl, rfl⟩
                      · rintro v y ⟨rfl, rfl⟩; exact ⟨hC, Below.refl _ _, by intro d hd; cases hd; exact rfl⟩
                    case o104 =>
                      intro Q a w2 hC hV hI
                      have e0 : a.eval (.tmp 0) = .string s := (hI 0 (by simp [Op.operands]) (by kernel_rfl)).trans rfl
                      have f0 : a.tmps.getD 0 undef = .string s := e0
                      have g0 : a.tmps[0]?.getD undef = .string s := by rw [← Array.getD_eq_getD_getElem?]; exact e0
                      refine op_val (.string s) ?_ hC (Below.refl _ _) (by intro d hd; cases hd; exact rfl)
                      (clear hV hI hC; go_simp <;> (first | rfl | simp))
                    case o105 =>
                      intro Q a w2 hC hV hI
                      have e104 : a.eval (.tmp 104) = .string s := hV 104 (by simp [Op.operands]) (by kernel_rfl)
                      have f104 : a.tmps.getD 104 undef = .string s := e104
                      have g104 : a.tmps[104]?.getD undef = .string s := by rw [← Array.getD_eq_getD_getElem?]; exact e104
                      refine op_val (.string (s.extract 297 329)) ?_ hC (Below.refl _ _) (by intro d hd; cases hd; exact rfl)
                      (clear hV hI hC; go_simp <;> (first | rfl | simp))
                    case o106 =>
                      intro Q a w2 hC hV hI
                      have e105 : a.eval (.tmp 105) = .string (s.extract 297 329) := hV 105 (by simp [Op.operands, Call.operands]) (by kernel_rfl)
                      have f105 : a.tmps.getD 105 undef = .string (s.extract 297 329) := e105
                      have g105 : a.tmps[105]?.getD undef = .string (s.extract 297 329) := by rw [← Array.getD_eq_getD_getElem?]; exact e105
                      refine op_call (f := 46) (args := #[.string (s.extract 297 329)]) (R := fun v y => v = .string t11 ∧ w2 = y) ?_ ((C11.out w2).mono ?_) ?_
                      · (clear hV hI hC; go_simp <;> (first | rfl | simp))
                      · rintro e y ⟨rfl, rfl⟩; exact ⟨_, rfl, rfl, rfl⟩
                      · rintro v y ⟨rfl, rfl⟩; exact ⟨hC, Below.refl _ _, by intro d hd; cases hd; exact rfl⟩
                    case o107 =>
                      intro Q a w2 hC hV hI
                      have e85 : a.eval (.tmp 85) = .string t0 := hV 85 (by simp [Op.operands]) (by kernel_rfl)
                      have f85 : a.tmps.getD 85 undef = .string t0 := e85
                      have g85 : a.tmps[85]?.getD undef = .string t0 := by rw [← Array.getD_eq_getD_getElem?]; exact e85
                      have e88 : a.eval (.tmp 88) = .string t8 := hV 88 (by simp [Op.operands]) (by kernel_rfl)
                      have f88 : a.tmps.getD 88 undef = .string t8 := e88
                      have g88 : a.tmps[88]?.getD undef = .string t8 := by rw [← Array.getD_eq_getD_getElem?]; exact e88
                      have e91 : a.eval (.tmp 91) = .int .i64 nm := hV 91 (by simp [Op.operands]) (by kernel_rfl)
                      have f91 : a.tmps.getD 91 undef = .int .i64 nm := e91
                      have g91 : a.tmps[91]?.getD undef = .int .i64 nm := by rw [← Array.getD_eq_getD_getElem?]; exact e91
                      have e94 : a.eval (.tmp 94) = .int .i64 nu := hV 94 (by simp [Op.operands]) (by kernel_rfl)
                      have f94 : a.tmps.getD 94 undef = .int .i64 nu := e94
                      have g94 : a.tmps[94]?.getD undef = .int .i64 nu := by rw [← Array.getD_eq_getD_getElem?]; exact e94
                      have e97 : a.eval (.tmp 97) = .int .i64 ng := hV 97 (by simp [Op.operands]) (by kernel_rfl)
                      have f97 : a.tmps.getD 97 undef = .int .i64 ng := e97
                      have g97 : a.tmps[97]?.getD undef = .int .i64 ng := by rw [← Array.getD_eq_getD_getElem?]; exact e97
                      have e100 : a.eval (.tmp 100) = .int .i64 nt := hV 100 (by simp [Op.operands]) (by kernel_rfl)
                      have f100 : a.tmps.getD 100 undef = .int .i64 nt := e100
                      have g100 : a.tmps[100]?.getD undef = .int .i64 nt := by rw [← Array.getD_eq_getD_getElem?]; exact e100
                      have e103 : a.eval (.tmp 103) = .string t10 := hV 103 (by simp [Op.operands]) (by kernel_rfl)
                      have f103 : a.tmps.getD 103 undef = .string t10 := e103
                      have g103 : a.tmps[103]?.getD undef = .string t10 := by rw [← Array.getD_eq_getD_getElem?]; exact e103
                      have e106 : a.eval (.tmp 106) = .string t11 := hV 106 (by simp [Op.operands]) (by kernel_rfl)
                      have f106 : a.tmps.getD 106 undef = .string t11 := e106
                      have g106 : a.tmps[106]?.getD undef = .string t11 := by rw [← Array.getD_eq_getD_getElem?]; exact e106
                      refine op_val (.agg #[.int .i64 0, .string t0, .string t8, .int .i64 nm, .int .i64 nu, .int .i64 ng, .int .i64 nt, .string t10, .string t11, .string ⟨#[]⟩]) ?_ hC (Below.refl _ _) (by intro d hd; cases hd; exact rfl)
                      (clear hV hI hC; go_simp <;> (first | rfl | simp))
                    case o15 =>
                      intro Q a w2 hC hV hI
                      refine op_val (.pointer (some ⟨w2.heap.size, 0, none⟩)) (w' := w2.alloc (.cells zEnt 23)) ?_ (hC.alloc hC.size _) ((Below.refl _ _).alloc (Nat.le_refl _) _) ?_
                      · (clear hV hI hC; go_simp <;> (first | rfl | simp))
                      · intro d hd; cases hd; exact ⟨w2.heap.size, rfl, hC.size, heap_alloc_last _ _⟩
                  case hend =>
                    intro f w5 hC hall
                    simp only [List.take_succ_cons, List.take_zero, List.drop_succ_cons, List.drop_zero] at hall ⊢
                    simp only [List.forall_mem_cons] at hall
                    obtain ⟨h85, h86, h87, h88, h89, h90, h91, h92, h93, h94, h95, h96, h97, h98, h99, h100, h101, h102, h103, h104, h105, h106, h107, h15, _⟩ := hall
                    replace h85 : f 85 = .string t0 := h85 85 rfl
                    replace h86 : f 86 = .string s := h86 86 rfl
                    replace h87 : f 87 = .string (s.extract 157 257) := h87 87 rfl
                    replace h88 : f 88 = .string t8 := h88 88 rfl
                    replace h89 : f 89 = .slice (some ⟨gb, 0, none⟩) 5 cp := h89 89 rfl
                    replace h90 : f 90 = .pointer (some ⟨gb, 0, none⟩) := h90 90 rfl
                    replace h91 : f 91 = .int .i64 nm := h91 91 rfl
                    replace h92 : f 92 = .slice (some ⟨gb, 0, none⟩) 5 cp := h92 92 rfl
                    replace h93 : f 93 = .pointer (some ⟨gb, 1, none⟩) := h93 93 rfl
                    replace h94 : f 94 = .int .i64 nu := h94 94 rfl
                    replace h95 : f 95 = .slice (some ⟨gb, 0, none⟩) 5 cp := h95 95 rfl
                    replace h96 : f 96 = .pointer (some ⟨gb, 2, none⟩) := h96 96 rfl
                    replace h97 : f 97 = .int .i64 ng := h97 97 rfl
                    replace h98 : f 98 = .slice (some ⟨gb, 0, none⟩) 5 cp := h98 98 rfl
                    replace h99 : f 99 = .pointer (some ⟨gb, 4, none⟩) := h99 99 rfl
                    replace h100 : f 100 = .int .i64 nt := h100 100 rfl
                    replace h101 : f 101 = .string s := h101 101 rfl
                    replace h102 : f 102 = .string (s.extract 265 297) := h102 102 rfl
                    replace h103 : f 103 = .string t10 := h103 103 rfl
                    replace h104 : f 104 = .string s := h104 104 rfl
                    replace h105 : f 105 = .string (s.extract 297 329) := h105 105 rfl
                    replace h106 : f 106 = .string t11 := h106 106 rfl
                    replace h107 : f 107 = .agg #[.int .i64 0, .string t0, .string t8, .int .i64 nm, .int .i64 nu, .int .i64 ng, .int .i64 nt, .string t10, .string t11, .string ⟨#[]⟩] := h107 107 rfl
                    obtain ⟨G, hG15, hGB, hGO⟩ : ∃ G, f 15 = .pointer (some ⟨G, 0, none⟩) ∧ wr.heap.size ≤ G ∧ w5.heap[G]? = some (.cells zEnt 23 (0, 0)) := h15 15 rfl
                    simp only [putAll, Act.put, List.setIfInBounds_toArray, List.set_cons_succ, List.set_cons_zero, h85, h86, h87, h88, h89, h90, h91, h92, h93, h94, h95, h96, h97, h98, h99, h100, h101, h102, h103, h104, h105, h106, h107, hG15]
                    clear h85 h86 h87 h88 h89 h90 h91 h92 h93 h94 h95 h96 h97 h98 h99 h100 h101 h102 h103 h104 h105 h106 h107 hG15
                    have HS1 := Lib.hid (run_storeVar_row (P := Tryz.prog) w5 G 23 23 zEnt #[.int .i64 0, .string t0, .string t8, .int .i64 nm, .int .i64 nu, .int .i64 ng, .int .i64 nt, .string t10, .string t11, .string ⟨#[]⟩] hGO (by rw [Tryz.sizeEnt]; rfl) rfl (by simp [Value.oneCell']))
                    have OG := setRow_heap _ _ _ #[.int .i64 0, .string t0, .string t8, .int .i64 nm, .int .i64 nu, .int .i64 ng, .int .i64 nt, .string t10, .string t11, .string ⟨#[]⟩] _ _ hGO
                    have BG := hC.trans (below_set (w := w5) hGB #[.int .i64 0, .string t0, .string t8, .int .i64 nm, .int .i64 nu, .int .i64 ng, .int .i64 nt, .string t10, .string t11, .string ⟨#[]⟩])
                    go_wp2_with ((with_reducible refine wpList_store_eq rfl 23 _ _ rfl ⟨G, 0, none⟩ ?_ ?_ HS1.out ?_); rfl; rfl)
                    clear HS1 hGO hC
                    generalize w5.setRow G #[.int .i64 0, .string t0, .string t8, .int .i64 nm, .int .i64 nu, .int .i64 ng, .int .i64 nt, .string t10, .string t11, .string ⟨#[]⟩] = w6 at *
                    have zG := obj_lt OG
                    have HLG : Hid (∀ w' : World, w'.heap[G]? = some (.cells #[.int .i64 0, .string t0, .string t8, .int .i64 nm, .int .i64 nu, .int .i64 ng, .int .i64 nt, .string t10, .string t11, .string ⟨#[]⟩] 23 (0, 0)) → w'.cell? ⟨G, 0, none⟩ = some (.int .i64 0) ∧ w'.cell? ⟨G, 1, none⟩ = some (.string t0) ∧ w'.cell? ⟨G, 2, none⟩ = some (.string t8) ∧ w'.cell? ⟨G, 3, none⟩ = some (.int .i64 nm) ∧ w'.cell? ⟨G, 4, none⟩ = some (.int .i64 nu) ∧ w'.cell? ⟨G, 5, none⟩ = some (.int .i64 ng) ∧ w'.cell? ⟨G, 6, none⟩ = some (.int .i64 nt) ∧ w'.cell? ⟨G, 7, none⟩ = some (.string t10) ∧ w'.cell? ⟨G, 8, none⟩ = some (.string t11) ∧ w'.cell? ⟨G, 9, none⟩ = some (.string ⟨#[]⟩)) := Lib.hid (fun w' h1 => by refine ⟨?_, ?_, ?_, ?_, ?_, ?_, ?_, ?_, ?_, ?_⟩ <;> (rw [cell_of_row _ _ _ _ _ _ h1]; rfl))
                    have N3 := Lib.hid (KC.out w6 BG).2.2.2.1
                    have RO6 := Lib.hid ((BG.block _ (obj_lt RO3.out)).trans RO3.out)
                    have B6 := Lib.hid (B3.out.trans (BG.mono B3.out.size))
                    have zRG : w.heap.size < G := Nat.lt_of_lt_of_le (obj_lt RO3.out) hGB
                    have OG6 := Lib.hid OG
                    clear BG OG KC
                    refine wp_region_u (by kernel_rfl) (fun w' => Below w.heap.size w w' ∧ w'.heap[G]? = some (.cells #[.int .i64 0, .string t0, .string t8, .int .i64 nm, .int .i64 nu, .int .i64 ng, .int .i64 nt, .string t10, .string t11, .string ⟨#[]⟩] 23 (0, 0)) ∧ w'.cell? ⟨gb, 3, none⟩ = some (.int .i64 nz) ∧ (w'.heap[w.heap.size]? = some (.cells zEnt 23 (0, 0)) ∨ w'.heap[w.heap.size]? = some (.cells #[.int .i64 0, .string t0, .string t8, .int .i64 nm, .int .i64 nu, .int .i64 ng, .int .i64 nt, .string t10, .string t11, .string ⟨#[]⟩] 23 (0, 0)))) (fun x y => y.heap[w.heap.size]? = x.heap[w.heap.size]? ∨ y.heap[w.heap.size]? = some (.cells #[.int .i64 0, .string t0, .string t8, .int .i64 nm, .int .i64 nu, .int .i64 ng, .int .i64 nt, .string t10, .string t11, .string ⟨#[]⟩] 23 (0, 0))) (fun d v _ => match d with | 108 => v = .agg #[.int .i64 0, .string t0, .string t8, .int .i64 nm, .int .i64 nu, .int .i64 ng, .int .i64 nt, .string t10, .string t11, .string ⟨#[]⟩] | 109 => v = .string s | 110 => v = .string (s.extract 156 157) | 111 => v = .slice (some ⟨gb, 0, none⟩) 5 cp | 112 => v = .pointer (some ⟨gb, 3, none⟩) | 113 => v = .int .i64 nz | 3 => v = .string (s.extract 156 157) | 4 => v = .int .i64 nz | 5 => v = .int .i64 0 | _ => True) (fun o w' => o.dst = none → w'.heap[w.heap.size]? = some (.cells #[.int .i64 0, .string t0, .string t8, .int .i64 nm, .int .i64 nu, .int .i64 ng, .int .i64 nt, .string t10, .string t11, .string ⟨#[]⟩] 23 (0, 0))) (by kernel_rfl) ⟨B6.out.drew, OG6.out, N3.out, .inl RO6.out⟩ (fun _ _ _ _ _ _ h => h) (fun _ _ _ _ hs hu hd => Or.elim hs (fun h => h.trans (hu hd)) (fun h => h)) ?hops ?hend
                    case hops =>
                      simp only [List.forall_mem_cons]
                      refine ⟨?o108, ?o109, ?o110, ?o111, ?o112, ?o113, ?os, ?o3, ?o4, ?o5, fun _ h => by cases h⟩
                      case o108 =>
                        intro Q a w2 hC hV hI
                        have e15 : a.eval (.tmp 15) = .pointer (some ⟨G, 0, none⟩) := (hI 15 (by simp [Op.operands]) (by kernel_rfl)).trans rfl
                        have f15 : a.tmps.getD 15 undef = .pointer (some ⟨G, 0, none⟩) := e15
                        have g15 : a.tmps[15]?.getD undef = .pointer (some ⟨G, 0, none⟩) := by rw [← Array.getD_eq_getD_getElem?]; exact e15
                        have hK := HLG.out w2 hC.2.1
                        refine opU_val (C := fun w' => Below w.heap.size w w' ∧ w'.heap[G]? = some (.cells #[.int .i64 0, .string t0, .string t8, .int .i64 nm, .int .i64 nu, .int .i64 ng, .int .i64 nt, .string t10, .string t11, .string ⟨#[]⟩] 23 (0, 0)) ∧ w'.cell? ⟨gb, 3, none⟩ = some (.int .i64 nz) ∧ (w'.heap[w.heap.size]? = some (.cells zEnt 23 (0, 0)) ∨ w'.heap[w.heap.size]? = some (.cells #[.int .i64 0, .string t0, .string t8, .int .i64 nm, .int .i64 nu, .int .i64 ng, .int .i64 nt, .string t10, .string t11, .string ⟨#[]⟩] 23 (0, 0)))) (St := fun x y => y.heap[w.heap.size]? = x.heap[w.heap.size]? ∨ y.heap[w.heap.size]? = some (.cells #[.int .i64 0, .string t0, .string t8, .int .i64 nm, .int .i64 nu, .int .i64 ng, .int .i64 nt, .string t10, .string t11, .string ⟨#[]⟩] 23 (0, 0))) (V := fun d v _ => match d with | 108 => v = .agg #[.int .i64 0, .string t0, .string t8, .int .i64 nm, .int .i64 nu, .int .i64 ng, .int .i64 nt, .string t10, .string t11, .string ⟨#[]⟩] | 109 => v = .string s | 110 => v = .string (s.extract 156 157) | 111 => v = .slice (some ⟨gb, 0, none⟩) 5 cp | 112 => v = .pointer (some ⟨gb, 3, none⟩) | 113 => v = .int .i64 nz | 3 => v = .string (s.extract 156 157) | 4 => v = .int .i64 nz | 5 => v = .int .i64 0 | _ => True) (U := fun o w' => o.dst = none → w'.heap[w.heap.size]? = some (.cells #[.int .i64 0, .string t0, .string t8, .int .i64 nm, .int .i64 nu, .int .i64 ng, .int .i64 nt, .string t10, .string t11, .string ⟨#[]⟩] 23 (0, 0))) (w' := w2) (.agg #[.int .i64 0, .string t0, .string t8, .int .i64 nm, .int .i64 nu, .int .i64 ng, .int .i64 nt, .string t10, .string t11, .string ⟨#[]⟩]) ?_ ?_ ?_ ?_ ?_
                        · (clear hV hI hC; go_simp <;> (first | rfl | simp))
                        · exact hC
                        · exact Or.inl rfl
                        · intro d hd; cases hd; exact rfl
                        · intro h; cases h
                      case o109 =>
                        intro Q a w2 hC hV hI
                        have e0 : a.eval (.tmp 0) = .string s := (hI 0 (by simp [Op.operands]) (by kernel_rfl)).trans rfl
                        have f0 : a.tmps.getD 0 undef = .string s := e0
                        have g0 : a.tmps[0]?.getD undef = .string s := by rw [← Array.getD_eq_getD_getElem?]; exact e0
                        refine opU_val (C := fun w' => Below w.heap.size w w' ∧ w'.heap[G]? = some (.cells #[.int .i64 0, .string t0, .string t8, .int .i64 nm, .int .i64 nu, .int .i64 ng, .int .i64 nt, .string t10, .string t11, .string ⟨#[]⟩] 23 (0, 0)) ∧ w'.cell? ⟨gb, 3, none⟩ = some (.int .i64 nz) ∧ (w'.heap[w.heap.size]? = some (.cells zEnt 23 (0, 0)) ∨ w'.heap[w.heap.size]? = some (.cells #[.int .i64 0, .string t0, .string t8, .int .i64 nm, .int .i64 nu, .int .i64 ng, .int .i64 nt, .string t10, .string t11, .string ⟨#[]⟩] 23 (0, 0)))) (St := fun x y => y.heap[w.heap.size]? = x.heap[w.heap.size]? ∨ y.heap[w.heap.size]? = some (.cells #[.int .i64 0, .string t0, .string t8, .int .i64 nm, .int .i64 nu, .int .i64 ng, .int .i64 nt, .string t10, .string t11, .string ⟨#[]⟩] 23 (0, 0))) (V := fun d v _ => match d with | 108 => v = .agg #[.int .i64 0, .string t0, .string t8, .int .i64 nm, .int .i64 nu, .int .i64 ng, .int .i64 nt, .string t10, .string t11, .string ⟨#[]⟩] | 109 => v = .string s | 110 => v = .string (s.extract 156 157) | 111 => v = .slice (some ⟨gb, 0, none⟩) 5 cp | 112 => v = .pointer (some ⟨gb, 3, none⟩) | 113 => v = .int .i64 nz | 3 => v = .string (s.extract 156 157) | 4 => v = .int .i64 nz | 5 => v = .int .i64 0 | _ => True) (U := fun o w' => o.dst = none → w'.heap[w.heap.size]? = some (.cells #[.int .i64 0, .string t0, .string t8, .int .i64 nm, .int .i64 nu, .int .i64 ng, .int .i64 nt, .string t10, .string t11, .string ⟨#[]⟩] 23 (0, 0))) (w' := w2) (.string s) ?_ ?_ ?_ ?_ ?_
                        · (clear hV hI hC; go_simp <;> (first | rfl | simp))
                        · exact hC
                        · exact Or.inl rfl
                        · intro d hd; cases hd; exact rfl
                        · intro h; cases h
                      case o110 =>
                        intro Q a w2 hC hV hI
                        have e109 : a.eval (.tmp 109) = .string s := hV 109 (by simp [Op.operands]) (by kernel_rfl)
                        have f109 : a.tmps.getD 109 undef = .string s := e109
                        have g109 : a.tmps[109]?.getD undef = .string s := by rw [← Array.getD_eq_getD_getElem?]; exact e109
                        refine opU_val (C := fun w' => Below w.heap.size w w' ∧ w'.heap[G]? = some (.cells #[.int .i64 0, .string t0, .string t8, .int .i64 nm, .int .i64 nu, .int .i64 ng, .int .i64 nt, .string t10, .string t11, .string ⟨#[]⟩] 23 (0, 0)) ∧ w'.cell? ⟨gb, 3, none⟩ = some (.int .i64 nz) ∧ (w'.heap[w.heap.size]? = some (.cells zEnt 23 (0, 0)) ∨ w'.heap[w.heap.size]? = some (.cells #[.int .i64 0, .string t0, .string t8, .int .i64 nm, .int .i64 nu, .int .i64 ng, .int .i64 nt, .string t10, .string t11, .string ⟨#[]⟩] 23 (0, 0)))) (St := fun x y => y.heap[w.heap.size]? = x.heap[w.heap.size]? ∨ y.heap[w.heap.size]? = some (.cells #[.int .i64 0, .string t0, .string t8, .int .i64 nm, .int .i64 nu, .int .i64 ng, .int .i64 nt, .string t10, .string t11, .string ⟨#[]⟩] 23 (0, 0))) (V := fun d v _ => match d with | 108 => v = .agg #[.int .i64 0, .string t0, .string t8, .int .i64 nm, .int .i64 nu, .int .i64 ng, .int .i64 nt, .string t10, .string t11, .string ⟨#[]⟩] | 109 => v = .string s | 110 => v = .string (s.extract 156 157) | 111 => v = .slice (some ⟨gb, 0, none⟩) 5 cp | 112 => v = .pointer (some ⟨gb, 3, none⟩) | 113 => v = .int .i64 nz | 3 => v = .string (s.extract 156 157) | 4 => v = .int .i64 nz | 5 => v = .int .i64 0 | _ => True) (U := fun o w' => o.dst = none → w'.heap[w.heap.size]? = some (.cells #[.int .i64 0, .string t0, .string t8, .int .i64 nm, .int .i64 nu, .int .i64 ng, .int .i64 nt, .string t10, .string t11, .string ⟨#[]⟩] 23 (0, 0))) (w' := w2) (.string (s.extract 156 157)) ?_ ?_ ?_ ?_ ?_
                        · (clear hV hI hC; go_simp <;> (first | rfl | simp))
                        · exact hC
                        · exact Or.inl rfl
                        · intro d hd; cases hd; exact rfl
                        · intro h; cases h
                      case o111 =>
                        intro Q a w2 hC hV hI
                        have e8 : a.eval (.tmp 8) = .slice (some ⟨gb, 0, none⟩) 5 cp := (hI 8 (by simp [Op.operands]) (by kernel_rfl)).trans rfl
                        have f8 : a.tmps.getD 8 undef = .slice (some ⟨gb, 0, none⟩) 5 cp := e8
                        have g8 : a.tmps[8]?.getD undef = .slice (some ⟨gb, 0, none⟩) 5 cp := by rw [← Array.getD_eq_getD_getElem?]; exact e8
                        refine opU_val (C := fun w' => Below w.heap.size w w' ∧ w'.heap[G]? = some (.cells #[.int .i64 0, .string t0, .string t8, .int .i64 nm, .int .i64 nu, .int .i64 ng, .int .i64 nt, .string t10, .string t11, .string ⟨#[]⟩] 23 (0, 0)) ∧ w'.cell? ⟨gb, 3, none⟩ = some (.int .i64 nz) ∧ (w'.heap[w.heap.size]? = some (.cells zEnt 23 (0, 0)) ∨ w'.heap[w.heap.size]? = some (.cells #[.int .i64 0, .string t0, .string t8, .int .i64 nm, .int .i64 nu, .int .i64 ng, .int .i64 nt, .string t10, .string t11, .string ⟨#[]⟩] 23 (0, 0)))) (St := fun x y => y.heap[w.heap.size]? = x.heap[w.heap.size]? ∨ y.heap[w.heap.size]? = some (.cells #[.int .i64 0, .string t0, .string t8, .int .i64 nm, .int .i64 nu, .int .i64 ng, .int .i64 nt, .string t10, .string t11, .string ⟨#[]⟩] 23 (0, 0))) (V := fun d v _ => match d with | 108 => v = .agg #[.int .i64 0, .string t0, .string t8, .int .i64 nm, .int .i64 nu, .int .i64 ng, .int .i64 nt, .string t10, .string t11, .string ⟨#[]⟩] | 109 => v = .string s | 110 => v = .string (s.extract 156 157) | 111 => v = .slice (some ⟨gb, 0, none⟩) 5 cp | 112 => v = .pointer (some ⟨gb, 3, none⟩) | 113 => v = .int .i64 nz | 3 => v = .string (s.extract 156 157) | 4 => v = .int .i64 nz | 5 => v = .int .i64 0 | _ => True) (U := fun o w' => o.dst = none → w'.heap[w.heap.size]? = some (.cells #[.int .i64 0, .string t0, .string t8, .int .i64 nm, .int .i64 nu, .int .i64 ng, .int .i64 nt, .string t10, .string t11, .string ⟨#[]⟩] 23 (0, 0))) (w' := w2) (.slice (some ⟨gb, 0, none⟩) 5 cp) ?_ ?_ ?_ ?_ ?_
                        · (clear hV hI hC; go_simp <;> (first | rfl | simp))
                        · exact hC
                        · exact Or.inl rfl
                        · intro d hd; cases hd; exact rfl
                        · intro h; cases h
                      case o112 =>
                        intro Q a w2 hC hV hI
                        have e111 : a.eval (.tmp 111) = .slice (some ⟨gb, 0, none⟩) 5 cp := hV 111 (by simp [Op.operands]) (by kernel_rfl)
                        have f111 : a.tmps.getD 111 undef = .slice (some ⟨gb, 0, none⟩) 5 cp := e111
                        have g111 : a.tmps[111]?.getD undef = .slice (some ⟨gb, 0, none⟩) 5 cp := by rw [← Array.getD_eq_getD_getElem?]; exact e111
                        refine opU_val (C := fun w' => Below w.heap.size w w' ∧ w'.heap[G]? = some (.cells #[.int .i64 0, .string t0, .string t8, .int .i64 nm, .int .i64 nu, .int .i64 ng, .int .i64 nt, .string t10, .string t11, .string ⟨#[]⟩] 23 (0, 0)) ∧ w'.cell? ⟨gb, 3, none⟩ = some (.int .i64 nz) ∧ (w'.heap[w.heap.size]? = some (.cells zEnt 23 (0, 0)) ∨ w'.heap[w.heap.size]? = some (.cells #[.int .i64 0, .string t0, .string t8, .int .i64 nm, .int .i64 nu, .int .i64 ng, .int .i64 nt, .string t10, .string t11, .string ⟨#[]⟩] 23 (0, 0)))) (St := fun x y => y.heap[w.heap.size]? = x.heap[w.heap.size]? ∨ y.heap[w.heap.size]? = some (.cells #[.int .i64 0, .string t0, .string t8, .int .i64 nm, .int .i64 nu, .int .i64 ng, .int .i64 nt, .string t10, .string t11, .string ⟨#[]⟩] 23 (0, 0))) (V := fun d v _ => match d with | 108 => v = .agg #[.int .i64 0, .string t0, .string t8, .int .i64 nm, .int .i64 nu, .int .i64 ng, .int .i64 nt, .string t10, .string t11, .string ⟨#[]⟩] | 109 => v = .string s | 110 => v = .string (s.extract 156 157) | 111 => v = .slice (some ⟨gb, 0, none⟩) 5 cp | 112 => v = .pointer (some ⟨gb, 3, none⟩) | 113 => v = .int .i64 nz | 3 => v = .string (s.extract 156 157) | 4 => v = .int .i64 nz | 5 => v = .int .i64 0 | _ => True) (U := fun o w' => o.dst = none → w'.heap[w.heap.size]? = some (.cells #[.int .i64 0, .string t0, .string t8, .int .i64 nm, .int .i64 nu, .int .i64 ng, .int .i64 nt, .string t10, .string t11, .string ⟨#[]⟩] 23 (0, 0))) (w' := w2) (.pointer (some ⟨gb, 3, none⟩)) ?_ ?_ ?_ ?_ ?_
                        · (clear hV hI hC; go_simp <;> (first | rfl | simp))
                        · exact hC
                        · exact Or.inl rfl
                        · intro d hd; cases hd; exact rfl
                        · intro h; cases h
                      case o113 =>
                        intro Q a w2 hC hV hI
                        have e112 : a.eval (.tmp 112) = .pointer (some ⟨gb, 3, none⟩) := hV 112 (by simp [Op.operands]) (by kernel_rfl)
                        have f112 : a.tmps.getD 112 undef = .pointer (some ⟨gb, 3, none⟩) := e112
                        have g112 : a.tmps[112]?.getD undef = .pointer (some ⟨gb, 3, none⟩) := by rw [← Array.getD_eq_getD_getElem?]; exact e112
                        have hK := hC.2.2.1
                        refine opU_val (C := fun w' => Below w.heap.size w w' ∧ w'.heap[G]? = some (.cells #[.int .i64 0, .string t0, .string t8, .int .i64 nm, .int .i64 nu, .int .i64 ng, .int .i64 nt, .string t10, .string t11, .string ⟨#[]⟩] 23 (0, 0)) ∧ w'.cell? ⟨gb, 3, none⟩ = some (.int .i64 nz) ∧ (w'.heap[w.heap.size]? = some (.cells zEnt 23 (0, 0)) ∨ w'.heap[w.heap.size]? = some (.cells #[.int .i64 0, .string t0, .string t8, .int .i64 nm, .int .i64 nu, .int .i64 ng, .int .i64 nt, .string t10, .string t11, .string ⟨#[]⟩] 23 (0, 0)))) (St := fun x y => y.heap[w.heap.size]? = x.heap[w.heap.size]? ∨ y.heap[w.heap.size]? = some (.cells #[.int .i64 0, .string t0, .string t8, .int .i64 nm, .int .i64 nu, .int .i64 ng, .int .i64 nt, .string t10, .string t11, .string ⟨#[]⟩] 23 (0, 0))) (V := fun d v _ => match d with | 108 => v = .agg #[.int .i64 0, .string t0, .string t8, .int .i64 nm, .int .i64 nu, .int .i64 ng, .int .i64 nt, .string t10, .string t11, .string ⟨#[]⟩] | 109 => v = .string s | 110 => v = .string (s.extract 156 157) | 111 => v = .slice (some ⟨gb, 0, none⟩) 5 cp | 112 => v = .pointer (some ⟨gb, 3, none⟩) | 113 => v = .int .i64 nz | 3 => v = .string (s.extract 156 157) | 4 => v = .int .i64 nz | 5 => v = .int .i64 0 | _ => True) (U := fun o w' => o.dst = none → w'.heap[w.heap.size]? = some (.cells #[.int .i64 0, .string t0, .string t8, .int .i64 nm, .int .i64 nu, .int .i64 ng, .int .i64 nt, .string t10, .string t11, .string ⟨#[]⟩] 23 (0, 0))) (w' := w2) (.int .i64 nz) ?_ ?_ ?_ ?_ ?_
                        · (clear hV hI hC; go_simp <;> (first | rfl | simp))
                        · exact hC
                        · exact Or.inl rfl
                        · intro d hd; cases hd; exact rfl
                        · intro h; cases h
                      case os =>
                        intro Q a w2 hC hV hI
                        have e2 : a.eval (.tmp 2) = .pointer (some ⟨w.heap.size, 0, none⟩) := (hI 2 (by simp [Op.operands]) (by kernel_rfl)).trans rfl
                        have f2 : a.tmps.getD 2 undef = .pointer (some ⟨w.heap.size, 0, none⟩) := e2
                        have g2 : a.tmps[2]?.getD undef = .pointer (some ⟨w.heap.size, 0, none⟩) := by rw [← Array.getD_eq_getD_getElem?]; exact e2
                        have e108 : a.eval (.tmp 108) = .agg #[.int .i64 0, .string t0, .string t8, .int .i64 nm, .int .i64 nu, .int .i64 ng, .int .i64 nt, .string t10, .string t11, .string ⟨#[]⟩] := hV 108 (by simp [Op.operands]) (by kernel_rfl)
                        have f108 : a.tmps.getD 108 undef = .agg #[.int .i64 0, .string t0, .string t8, .int .i64 nm, .int .i64 nu, .int .i64 ng, .int .i64 nt, .string t10, .string t11, .string ⟨#[]⟩] := e108
                        have g108 : a.tmps[108]?.getD undef = .agg #[.int .i64 0, .string t0, .string t8, .int .i64 nm, .int .i64 nu, .int .i64 ng, .int .i64 nt, .string t10, .string t11, .string ⟨#[]⟩] := by rw [← Array.getD_eq_getD_getElem?]; exact e108
                        have hS : ∀ cs : Array Value, cs.size = 10 → w2.heap[w.heap.size]? = some (.cells cs 23 (0, 0)) → _ := fun cs hc hR => run_storeVar_row (P := Tryz.prog) w2 w.heap.size 23 23 cs #[.int .i64 0, .string t0, .string t8, .int .i64 nm, .int .i64 nu, .int .i64 ng, .int .i64 nt, .string t10, .string t11, .string ⟨#[]⟩] hR (by rw [Tryz.sizeEnt]; rfl) hc (by simp [Value.oneCell'])
                        have hR2 : (w2.setRow w.heap.size #[.int .i64 0, .string t0, .string t8, .int .i64 nm, .int .i64 nu, .int .i64 ng, .int .i64 nt, .string t10, .string t11, .string ⟨#[]⟩]).heap[w.heap.size]? = some (.cells #[.int .i64 0, .string t0, .string t8, .int .i64 nm, .int .i64 nu, .int .i64 ng, .int .i64 nt, .string t10, .string t11, .string ⟨#[]⟩] 23 (0, 0)) := hC.2.2.2.elim (fun h => setRow_heap _ _ _ _ _ _ h) (fun h => setRow_heap _ _ _ _ _ _ h)
                        refine opU_store (C := fun w' => Below w.heap.size w w' ∧ w'.heap[G]? = some (.cells #[.int .i64 0, .string t0, .string t8, .int .i64 nm, .int .i64 nu, .int .i64 ng, .int .i64 nt, .string t10, .string t11, .string ⟨#[]⟩] 23 (0, 0)) ∧ w'.cell? ⟨gb, 3, none⟩ = some (.int .i64 nz) ∧ (w'.heap[w.heap.size]? = some (.cells zEnt 23 (0, 0)) ∨ w'.heap[w.heap.size]? = some (.cells #[.int .i64 0, .string t0, .string t8, .int .i64 nm, .int .i64 nu, .int .i64 ng, .int .i64 nt, .string t10, .string t11, .string ⟨#[]⟩] 23 (0, 0)))) (St := fun x y => y.heap[w.heap.size]? = x.heap[w.heap.size]? ∨ y.heap[w.heap.size]? = some (.cells #[.int .i64 0, .string t0, .string t8, .int .i64 nm, .int .i64 nu, .int .i64 ng, .int .i64 nt, .string t10, .string t11, .string ⟨#[]⟩] 23 (0, 0))) (V := fun d v _ => match d with | 108 => v = .agg #[.int .i64 0, .string t0, .string t8, .int .i64 nm, .int .i64 nu, .int .i64 ng, .int .i64 nt, .string t10, .string t11, .string ⟨#[]⟩] | 109 => v = .string s | 110 => v = .string (s.extract 156 157) | 111 => v = .slice (some ⟨gb, 0, none⟩) 5 cp | 112 => v = .pointer (some ⟨gb, 3, none⟩) | 113 => v = .int .i64 nz | 3 => v = .string (s.extract 156 157) | 4 => v = .int .i64 nz | 5 => v = .int .i64 0 | _ => True) (U := fun o w' => o.dst = none → w'.heap[w.heap.size]? = some (.cells #[.int .i64 0, .string t0, .string t8, .int .i64 nm, .int .i64 nu, .int .i64 ng, .int .i64 nt, .string t10, .string t11, .string ⟨#[]⟩] 23 (0, 0))) 23 _ _ rfl rfl ⟨w.heap.size, 0, none⟩ e2 e108 (hC.2.2.2.elim (fun h => hS _ rfl h) (fun h => hS _ rfl h)) ?_ ?_ ?_
                        · exact ⟨hC.1.trans (below_set (Nat.le_refl _) _), by rw [setRow_other _ _ _ _ (by omega)]; exact hC.2.1, (cell_setRow_other (by omega)).trans hC.2.2.1, Or.inr hR2⟩
                        · exact Or.inr hR2
                        · intro _; exact hR2
                      case o3 =>
                        intro Q a w2 hC hV hI
                        have e110 : a.eval (.tmp 110) = .string (s.extract 156 157) := hV 110 (by simp [Op.operands]) (by kernel_rfl)
                        have f110 : a.tmps.getD 110 undef = .string (s.extract 156 157) := e110
                        have g110 : a.tmps[110]?.getD undef = .string (s.extract 156 157) := by rw [← Array.getD_eq_getD_getElem?]; exact e110
                        refine opU_val (C := fun w' => Below w.heap.size w w' ∧ w'.heap[G]? = some (.cells #[.int .i64 0, .string t0, .string t8, .int .i64 nm, .int .i64 nu, .int .i64 ng, .int .i64 nt, .string t10, .string t11, .string ⟨#[]⟩] 23 (0, 0)) ∧ w'.cell? ⟨gb, 3, none⟩ = some (.int .i64 nz) ∧ (w'.heap[w.heap.size]? = some (.cells zEnt 23 (0, 0)) ∨ w'.heap[w.heap.size]? = some (.cells #[.int .i64 0, .string t0, .string t8, .int .i64 nm, .int .i64 nu, .int .i64 ng, .int .i64 nt, .string t10, .string t11, .string ⟨#[]⟩] 23 (0, 0)))) (St := fun x y => y.heap[w.heap.size]? = x.heap[w.heap.size]? ∨ y.heap[w.heap.size]? = some (.cells #[.int .i64 0, .string t0, .string t8, .int .i64 nm, .int .i64 nu, .int .i64 ng, .int .i64 nt, .string t10, .string t11, .string ⟨#[]⟩] 23 (0, 0))) (V := fun d v _ => match d with | 108 => v = .agg #[.int .i64 0, .string t0, .string t8, .int .i64 nm, .int .i64 nu, .int .i64 ng, .int .i64 nt, .string t10, .string t11, .string ⟨#[]⟩] | 109 => v = .string s | 110 => v = .string (s.extract 156 157) | 111 => v = .slice (some ⟨gb, 0, none⟩) 5 cp | 112 => v = .pointer (some ⟨gb, 3, none⟩) | 113 => v = .int .i64 nz | 3 => v = .string (s.extract 156 157) | 4 => v = .int .i64 nz | 5 => v = .int .i64 0 | _ => True) (U := fun o w' => o.dst = none → w'.heap[w.heap.size]? = some (.cells #[.int .i64 0, .string t0, .string t8, .int .i64 nm, .int .i64 nu, .int .i64 ng, .int .i64 nt, .string t10, .string t11, .string ⟨#[]⟩] 23 (0, 0))) (w' := w2) (.string (s.extract 156 157)) ?_ ?_ ?_ ?_ ?_
                        · (clear hV hI hC; go_simp <;> (first | rfl | simp))
                        · exact hC
                        · exact Or.inl rfl
                        · intro d hd; cases hd; exact rfl
                        · intro h; cases h
                      case o4 =>
                        intro Q a w2 hC hV hI
                        have e113 : a.eval (.tmp 113) = .int .i64 nz := hV 113 (by simp [Op.operands]) (by kernel_rfl)
                        have f113 : a.tmps.getD 113 undef = .int .i64 nz := e113
                        have g113 : a.tmps[113]?.getD undef = .int .i64 nz := by rw [← Array.getD_eq_getD_getElem?]; exact e113
                        refine opU_val (C := fun w' => Below w.heap.size w w' ∧ w'.heap[G]? = some (.cells #[.int .i64 0, .string t0, .string t8, .int .i64 nm, .int .i64 nu, .int .i64 ng, .int .i64 nt, .string t10, .string t11, .string ⟨#[]⟩] 23 (0, 0)) ∧ w'.cell? ⟨gb, 3, none⟩ = some (.int .i64 nz) ∧ (w'.heap[w.heap.size]? = some (.cells zEnt 23 (0, 0)) ∨ w'.heap[w.heap.size]? = some (.cells #[.int .i64 0, .string t0, .string t8, .int .i64 nm, .int .i64 nu, .int .i64 ng, .int .i64 nt, .string t10, .string t11, .string ⟨#[]⟩] 23 (0, 0)))) (St := fun x y => y.heap[w.heap.size]? = x.heap[w.heap.size]? ∨ y.heap[w.heap.size]? = some (.cells #[.int .i64 0, .string t0, .string t8, .int .i64 nm, .int .i64 nu, .int .i64 ng, .int .i64 nt, .string t10, .string t11, .string ⟨#[]⟩] 23 (0, 0))) (V := fun d v _ => match d with | 108 => v = .agg #[.int .i64 0, .string t0, .string t8, .int .i64 nm, .int .i64 nu, .int .i64 ng, .int .i64 nt, .string t10, .string t11, .string ⟨#[]⟩] | 109 => v = .string s | 110 => v = .string (s.extract 156 157) | 111 => v = .slice (some ⟨gb, 0, none⟩) 5 cp | 112 => v = .pointer (some ⟨gb, 3, none⟩) | 113 => v = .int .i64 nz | 3 => v = .string (s.extract 156 157) | 4 => v = .int .i64 nz | 5 => v = .int .i64 0 | _ => True) (U := fun o w' => o.dst = none → w'.heap[w.heap.size]? = some (.cells #[.int .i64 0, .string t0, .string t8, .int .i64 nm, .int .i64 nu, .int .i64 ng, .int .i64 nt, .string t10, .string t11, .string ⟨#[]⟩] 23 (0, 0))) (w' := w2) (.int .i64 nz) ?_ ?_ ?_ ?_ ?_
                        · (clear hV hI hC; go_simp <;> (first | rfl | simp))
                        · exact hC
                        · exact Or.inl rfl
                        · intro d hd; cases hd; exact rfl
                        · intro h; cases h
                      case o5 =>
                        intro Q a w2 hC hV hI
                        refine opU_val (C := fun w' => Below w.heap.size w w' ∧ w'.heap[G]? = some (.cells #[.int .i64 0, .string t0, .string t8, .int .i64 nm, .int .i64 nu, .int .i64 ng, .int .i64 nt, .string t10, .string t11, .string ⟨#[]⟩] 23 (0, 0)) ∧ w'.cell? ⟨gb, 3, none⟩ = some (.int .i64 nz) ∧ (w'.heap[w.heap.size]? = some (.cells zEnt 23 (0, 0)) ∨ w'.heap[w.heap.size]? = some (.cells #[.int .i64 0, .string t0, .string t8, .int .i64 nm, .int .i64 nu, .int .i64 ng, .int .i64 nt, .string t10, .string t11, .string ⟨#[]⟩] 23 (0, 0)))) (St := fun x y => y.heap[w.heap.size]? = x.heap[w.heap.size]? ∨ y.heap[w.heap.size]? = some (.cells #[.int .i64 0, .string t0, .string t8, .int .i64 nm, .int .i64 nu, .int .i64 ng, .int .i64 nt, .string t10, .string t11, .string ⟨#[]⟩] 23 (0, 0))) (V := fun d v _ => match d with | 108 => v = .agg #[.int .i64 0, .string t0, .string t8, .int .i64 nm, .int .i64 nu, .int .i64 ng, .int .i64 nt, .string t10, .string t11, .string ⟨#[]⟩] | 109 => v = .string s | 110 => v = .string (s.extract 156 157) | 111 => v = .slice (some ⟨gb, 0, none⟩) 5 cp | 112 => v = .pointer (some ⟨gb, 3, none⟩) | 113 => v = .int .i64 nz | 3 => v = .string (s.extract 156 157) | 4 => v = .int .i64 nz | 5 => v = .int .i64 0 | _ => True) (U := fun o w' => o.dst = none → w'.heap[w.heap.size]? = some (.cells #[.int .i64 0, .string t0, .string t8, .int .i64 nm, .int .i64 nu, .int .i64 ng, .int .i64 nt, .string t10, .string t11, .string ⟨#[]⟩] 23 (0, 0))) (w' := w2) (.int .i64 0) ?_ ?_ ?_ ?_ ?_
                        · (clear hV hI hC; go_simp <;> (first | rfl | simp))
                        · exact hC
                        · exact Or.inl rfl
                        · intro d hd; cases hd; exact rfl
                        · intro h; cases h
                    case hend =>
                      intro f w7 hC hall huall
                      simp only [List.forall_mem_cons] at hall
                      obtain ⟨h108, h109, h110, h111, h112, h113, _, h3, h4, h5, _⟩ := hall
                      simp only [List.forall_mem_cons] at huall
                      obtain ⟨_, _, _, _, _, _, hus, _, _, _, _⟩ := huall
                      replace h108 : f 108 = .agg #[.int .i64 0, .string t0, .string t8, .int .i64 nm, .int .i64 nu, .int .i64 ng, .int .i64 nt, .string t10, .string t11, .string ⟨#[]⟩] := h108 108 rfl
                      replace h109 : f 109 = .string s := h109 109 rfl
                      replace h110 : f 110 = .string (s.extract 156 157) := h110 110 rfl
                      replace h111 : f 111 = .slice (some ⟨gb, 0, none⟩) 5 cp := h111 111 rfl
                      replace h112 : f 112 = .pointer (some ⟨gb, 3, none⟩) := h112 112 rfl
                      replace h113 : f 113 = .int .i64 nz := h113 113 rfl
                      replace h3 : f 3 = .string (s.extract 156 157) := h3 3 rfl
                      replace h4 : f 4 = .int .i64 nz := h4 4 rfl
                      replace h5 : f 5 = .int .i64 0 := h5 5 rfl
                      simp only [putAll, Act.put, List.setIfInBounds_toArray, List.set_cons_succ, List.set_cons_zero, h108, h109, h110, h111, h112, h113, h3, h4, h5]
                      clear h108 h109 h110 h111 h112 h113 h3 h4 h5
                      have R5 := Lib.hid (hus trivial)
                      have B5 := Lib.hid hC.1
                      clear hC hus
                      go_wp2
                      refine bodyPost_ret (results_cell4 rfl _ _ w.heap.size _ #[.int .i64 0, .string t0, .string t8, .int .i64 nm, .int .i64 nu, .int .i64 ng, .int .i64 nt, .string t10, .string t11, .string ⟨#[]⟩] (0, 0) _ rfl R5.out Tryz.underlying23 rfl (by rw [Tryz.sizeEnt]; rfl)) rfl ?_
                      rw [HE.out]
                      exact ⟨rfl, B5.out⟩
                · have HP2 := HP.out.trans (if_neg hq)
                  have hq1 := empty_f hq
                  have HP3 := Lib.hid HP2
                  clear HP HP2 C0 C14 hq
                  go_wp2_with fail
                  rw [← HP3.out]
                  refine wp_region_cut 24 (by kernel_rfl) (fun w' => Below wr.heap.size wr w') (fun x y => Below x.heap.size x y) (vBox wr.heap.size (fun d v => match d with | 85 => v = .string pth | 86 => v = .string s | 87 => v = .string (s.extract 157 257) | 88 => v = .string t8 | 89 => v = .slice (some ⟨gb, 0, none⟩) 5 cp | 90 => v = .pointer (some ⟨gb, 0, none⟩) | 91 => v = .int .i64 nm | 92 => v = .slice (some ⟨gb, 0, none⟩) 5 cp | 93 => v = .pointer (some ⟨gb, 1, none⟩) | 94 => v = .int .i64 nu | 95 => v = .slice (some ⟨gb, 0, none⟩) 5 cp | 96 => v = .pointer (some ⟨gb, 2, none⟩) | 97 => v = .int .i64 ng | 98 => v = .slice (some ⟨gb, 0, none⟩) 5 cp | 99 => v = .pointer (some ⟨gb, 4, none⟩) | 100 => v = .int .i64 nt | 101 => v = .string s | 102 => v = .string (s.extract 265 297) | 103 => v = .string t10 | 104 => v = .string s | 105 => v = .string (s.extract 297 329) | 106 => v = .string t11 | 107 => v = .agg #[.int .i64 0, .string pth, .string t8, .int .i64 nm, .int .i64 nu, .int .i64 ng, .int .i64 nt, .string t10, .string t11, .string ⟨#[]⟩] | _ => True)) (by kernel_rfl) (by kernel_rfl) ((Below.refl _ _).drew) (vBox_keep _ _) (by simp) ?hops ?hend
                  case hops =>
                    simp only [List.take_succ_cons, List.take_zero, List.forall_mem_cons]
                    refine ⟨?o85, ?o86, ?o87, ?o88, ?o89, ?o90, ?o91, ?o92, ?o93, ?o94, ?o95, ?o96, ?o97, ?o98, ?o99, ?o100, ?o101, ?o102, ?o103, ?o104, ?o105, ?o106, ?o107, ?o15, fun _ h => by cases h⟩
                    case o85 =>
                      intro Q a w2 hC hV hI
                      have e13 : a.eval (.tmp 13) = .string pth := (hI 13 (by simp [Op.operands]) (by kernel_rfl)).trans rfl
                      have f13 : a.tmps.getD 13 undef = .string pth := e13
                      have g13 : a.tmps[13]?.getD undef = .string pth := by rw [← Array.getD_eq_getD_getElem?]; exact e13
                      refine op_val (.string pth) ?_ hC (Below.refl _ _) (by intro d hd; cases hd; exact rfl)
                      (clear hV hI hC; go_simp <;> (first | rfl | simp))
                    case o86 =>
                      intro Q a w2 hC hV hI
                      have e0 : a.eval (.tmp 0) = .string s := (hI 0 (by simp [Op.operands]) (by kernel_rfl)).trans rfl
                      have f0 : a.tmps.getD 0 undef = .string s := e0
                      have g0 : a.tmps[0]?.getD undef = .string s := by rw [← Array.getD_eq_getD_getElem?]; exact e0
                      refine op_val (.string s) ?_ hC (Below.refl _ _) (by intro d hd; cases hd; exact rfl)
                      (clear hV hI hC; go_simp <;> (first | rfl | simp))
                    case o87 =>
                      intro Q a w2 hC hV hI
                      have e86 : a.eval (.tmp 86) = .string s := hV 86 (by simp [Op.operands]) (by kernel_rfl)
                      have f86 : a.tmps.getD 86 undef = .string s := e86
                      have g86 : a.tmps[86]?.getD undef = .string s := by rw [← Array.getD_eq_getD_getElem?]; exact e86
                      refine op_val (.string (s.extract 157 257)) ?_ hC (Below.refl _ _) (by intro d hd; cases hd; exact rfl)
                      (clear hV hI hC; go_simp <;> (first | rfl | simp))
                    case o88 =>
                      intro Q a w2 hC hV hI
                      have e87 : a.eval (.tmp 87) = .string (s.extract 157 257) := hV 87 (by simp [Op.operands, Call.operands]) (by kernel_rfl)
                      have f87 : a.tmps.getD 87 undef = .string (s.extract 157 257) := e87
                      have g87 : a.tmps[87]?.getD undef = .string (s.extract 157 257) := by rw [← Array.getD_eq_getD_getElem?]; exact e87
                      refine op_call (f := 46) (args := #[.string (s.extract 157 257)]) (R := fun v y => v = .string t8 ∧ w2 = y) ?_ ((C8.out w2).mono ?_) ?_
                      · (clear hV hI hC; go_simp <;> (first | rfl | simp))
                      · rintro e y ⟨rfl, rfl⟩; exact ⟨_, rfl, rfl, rfl⟩
                      · rintro v y ⟨rfl, rfl⟩; exact ⟨hC, Below.refl _ _, by intro d hd; cases hd; exact rfl⟩
                    case o89 =>
                      intro Q a w2 hC hV hI
                      have e8 : a.eval (.tmp 8) = .slice (some ⟨gb, 0, none⟩) 5 cp := (hI 8 (by simp [Op.operands]) (by kernel_rfl)).trans rfl
                      have f8 : a.tmps.getD 8 undef = .slice (some ⟨gb, 0, none⟩) 5 cp := e8
                      have g8 : a.tmps[8]?.getD undef = .slice (some ⟨gb, 0, none⟩) 5 cp := by rw [← Array.getD_eq_getD_getElem?]; exact e8
                      refine op_val (.slice (some ⟨gb, 0, none⟩) 5 cp) ?_ hC (Below.refl _ _) (by intro d hd; cases hd; exact rfl)
                      (clear hV hI hC; go_simp <;> (first | rfl | simp))
                    case o90 =>
                      intro Q a w2 hC hV hI
                      have e89 : a.eval (.tmp 89) = .slice (some ⟨gb, 0, none⟩) 5 cp := hV 89 (by simp [Op.operands]) (by kernel_rfl)
                      have f89 : a.tmps.getD 89 undef = .slice (some ⟨gb, 0, none⟩) 5 cp := e89
                      have g89 : a.tmps[89]?.getD undef = .slice (some ⟨gb, 0, none⟩) 5 cp := by rw [← Array.getD_eq_getD_getElem?]; exact e89
                      refine op_val (.pointer (some ⟨gb, 0, none⟩)) ?_ hC (Below.refl _ _) (by intro d hd; cases hd; exact rfl)
                      (clear hV hI hC; go_simp <;> (first | rfl | simp))
                    case o91 =>
                      intro Q a w2 hC hV hI
                      have e90 : a.eval (.tmp 90) = .pointer (some ⟨gb, 0, none⟩) := hV 90 (by simp [Op.operands]) (by kernel_rfl)
                      have f90 : a.tmps.getD 90 undef = .pointer (some ⟨gb, 0, none⟩) := e90
                      have g90 : a.tmps[90]?.getD undef = .pointer (some ⟨gb, 0, none⟩) := by rw [← Array.getD_eq_getD_getElem?]; exact e90
                      have hK := KC.out w2 hC
                      refine op_val (.int .i64 nm) ?_ hC (Below.refl _ _) (by intro d hd; cases hd; exact rfl)
                      (clear hV hI hC; go_simp <;> (first | rfl | simp))
                    case o92 =>
                      intro Q a w2 hC hV hI
                      have e8 : a.eval (.tmp 8) = .slice (some ⟨gb, 0, none⟩) 5 cp := (hI 8 (by simp [Op.operands]) (by kernel_rfl)).trans rfl
                      have f8 : a.tmps.getD 8 undef = .slice (some ⟨gb, 0, none⟩) 5 cp := e8
                      have g8 : a.tmps[8]?.getD undef = .slice (some ⟨gb, 0, none⟩) 5 cp := by rw [← Array.getD_eq_getD_getElem?]; exact e8
                      refine op_val (.slice (some ⟨gb, 0, none⟩) 5 cp) ?_ hC (Below.refl _ _) (by intro d hd; cases hd; exact rfl)
                      (clear hV hI hC; go_simp <;> (first | rfl | simp))
                    case o93 =>
                      intro Q a w2 hC hV hI
                      have e92 : a.eval (.tmp 92) = .slice (some ⟨gb, 0, none⟩) 5 cp := hV 92 (by simp [Op.operands]) (by kernel_rfl)
                      have f92 : a.tmps.getD 92 undef = .slice (some ⟨gb, 0, none⟩) 5 cp := e92
                      have g92 : a.tmps[92]?.getD undef = .slice (some ⟨gb, 0, none⟩) 5 cp := by rw [← Array.getD_eq_getD_getElem?]; exact e92
                      refine op_val (.pointer (some ⟨gb, 1, none⟩)) ?_ hC (Below.refl _ _) (by intro d hd; cases hd; exact rfl)
                      (clear hV hI hC; go_simp <;> (first | rfl | simp))
                    case o94 =>
                      intro Q a w2 hC hV hI
                      have e93 : a.eval (.tmp 93) = .pointer (some ⟨gb, 1, none⟩) := hV 93 (by simp [Op.operands]) (by kernel_rfl)
                      have f93 : a.tmps.getD 93 undef = .pointer (some ⟨gb, 1, none⟩) := e93
                      have g93 : a.tmps[93]?.getD undef = .pointer (some ⟨gb, 1, none⟩) := by rw [← Array.getD_eq_getD_getElem?]; exact e93
                      have hK := KC.out w2 hC
                      refine op_val (.int .i64 nu) ?_ hC (Below.refl _ _) (by intro d hd; cases hd; exact rfl)
                      (clear hV hI hC; go_simp <;> (first | rfl | simp))
                    case o95 =>
                      intro Q a w2 hC hV hI
                      have e8 : a.eval (.tmp 8) = .slice (some ⟨gb, 0, none⟩) 5 cp := (hI 8 (by simp [Op.operands]) (by kernel_rfl)).trans rfl
                      have f8 : a.tmps.getD 8 undef = .slice (some ⟨gb, 0, none⟩) 5 cp := e8
                      have g8 : a.tmps[8]?.getD undef = .slice (some ⟨gb, 0, none⟩) 5 cp := by rw [← Array.getD_eq_getD_getElem?]; exact e8
                      refine op_val (.slice (some ⟨gb, 0, none⟩) 5 cp) ?_ hC (Below.refl _ _) (by intro d hd; cases hd; exact rfl)
                      (clear hV hI hC; go_simp <;> (first | rfl | simp))
                    case o96 =>
                      intro Q a w2 hC hV hI
                      have e95 : a.eval (.tmp 95) = .slice (some ⟨gb, 0, none⟩) 5 cp := hV 95 (by simp [Op.operands]) (by kernel_rfl)
                      have f95 : a.tmps.getD 95 undef = .slice (some ⟨gb, 0, none⟩) 5 cp := e95
                      have g95 : a.tmps[95]?.getD undef = .slice (some ⟨gb, 0, none⟩) 5 cp := by rw [← Array.getD_eq_getD_getElem?]; exact e95
                      refine op_val (.pointer (some ⟨gb, 2, none⟩)) ?_ hC (Below.refl _ _) (by intro d hd; cases hd; exact rfl)
                      (clear hV hI hC; go_simp <;> (first | rfl | simp))
                    case o97 =>
                      intro Q a w2 hC hV hI
                      have e96 : a.eval (.tmp 96) = .pointer (some ⟨gb, 2, none⟩) := hV 96 (by simp [Op.operands]) (by kernel_rfl)
                      have f96 : a.tmps.getD 96 undef = .pointer (some ⟨gb, 2, none⟩) := e96
                      have g96 : a.tmps[96]?.getD undef = .pointer (some ⟨gb, 2, none⟩) := by rw [← Array.getD_eq_getD_getElem?]; exact e96
                      have hK := KC.out w2 hC
                      refine op_val (.int .i64 ng) ?_ hC (Below.refl _ _) (by intro d hd; cases hd; exact rfl)
                      (clear hV hI hC; go_simp <;> (first | rfl | simp))
                    case o98 =>
                      intro Q a w2 hC hV hI
                      have e8 : a.eval (.tmp 8) = .slice (some ⟨gb, 0, none⟩) 5 cp := (hI 8 (by simp [Op.operands]) (by kernel_rfl)).trans rfl
                      have f8 : a.tmps.getD 8 undef = .slice (some ⟨gb, 0, none⟩) 5 cp := e8
                      have g8 : a.tmps[8]?.getD undef = .slice (some ⟨gb, 0, none⟩) 5 cp := by rw [← Array.getD_eq_getD_getElem?]; exact e8
                      refine op_val (.slice (some ⟨gb, 0, none⟩) 5 cp) ?_ hC (Below.refl _ _) (by intro d hd; cases hd; exact rfl)
                      (clear hV hI hC; go_simp <;> (first | rfl | simp))
                    case o99 =>
                      intro Q a w2 hC hV hI
                      have e98 : a.eval (.tmp 98) = .slice (some ⟨gb, 0, none⟩) 5 cp := hV 98 (by simp [Op.operands]) (by kernel_rfl)
                      have f98 : a.tmps.getD 98 undef = .slice (some ⟨gb, 0, none⟩) 5 cp := e98
                      have g98 : a.tmps[98]?.getD undef = .slice (some ⟨gb, 0, none⟩) 5 cp := by rw [← Array.getD_eq_getD_getElem?]; exact e98
                      refine op_val (.pointer (some ⟨gb, 4, none⟩)) ?_ hC (Below.refl _ _) (by intro d hd; cases hd; exact rfl)
                      (clear hV hI hC; go_simp <;> (first | rfl | simp))
                    case o100 =>
                      intro Q a w2 hC hV hI
                      have e99 : a.eval (.tmp 99) = .pointer (some ⟨gb, 4, none⟩) := hV 99 (by simp [Op.operands]) (by kernel_rfl)
                      have f99 : a.tmps.getD 99 undef = .pointer (some ⟨gb, 4, none⟩) := e99
                      have g99 : a.tmps[99]?.getD undef = .pointer (some ⟨gb, 4, none⟩) := by rw [← Array.getD_eq_getD_getElem?]; exact e99
                      have hK := KC.out w2 hC
                      refine op_val (.int .i64 nt) ?_ hC (Below.refl _ _) (by intro d hd; cases hd; exact rfl)
                      (clear hV hI hC; go_simp <;> (first | rfl | simp))
                    case o101 =>
                      intro Q a w2 hC hV hI
                      have e0 : a.eval (.tmp 0) = .string s := (hI 0 (by simp [Op.operands]) (by kernel_rfl)).trans rfl
                      have f0 : a.tmps.getD 0 undef = .string s := e0
                      have g0 : a.tmps[0]?.getD undef = .string s := by rw [← Array.getD_eq_getD_getElem?]; exact e0
                      refine op_val (.string s) ?_ hC (Below.refl _ _) (by intro d hd; cases hd; exact rfl)
                      (clear hV hI hC; go_simp <;> (first | rfl | simp))
                    case o102 =>
                      intro Q a w2 hC hV hI
                      have e101 : a.eval (.tmp 101) = .string s := hV 101 (by simp [Op.operands]) (by kernel_rfl)
                      have f101 : a.tmps.getD 101 undef = .string s := e101
                      have g101 : a.tmps[101]?.getD undef = .string s := by rw [← Array.getD_eq_getD_getElem?]; exact e101
                      refine op_val (.string (s.extract 265 297)) ?_ hC (Below.refl _ _) (by intro d hd; cases hd; exact rfl)
                      (clear hV hI hC; go_simp <;> (first | rfl | simp))
                    case o103 =>
                      intro Q a w2 hC hV hI
                      have e102 : a.eval (.tmp 102) = .string (s.extract 265 297) := hV 102 (by simp [Op.operands, Call.operands]) (by kernel_rfl)
                      have f102 : a.tmps.getD 102 undef = .string (s.extract 265 297) := e102
                      have g102 : a.tmps[102]?.getD undef = .string (s.extract 265 297) := by rw [← Array.getD_eq_getD_getElem?]; exact e102
                      refine op_call (f := 46) (args := #[.string (s.extract 265 297)]) (R := fun v y => v = .string t10 ∧ w2 = y) ?_ ((C10.out w2).mono ?_) ?_
                      · (clear hV hI hC; go_simp <;> (first | rfl | simp))
                      · rintro e y ⟨rfl, rfl⟩; exact ⟨_, rfl, rfl, rfl⟩
                      · rintro v y ⟨rfl, rfl⟩; exact ⟨hC, Below.refl _ _, by intro d hd; cases hd; exact rfl⟩
                    case o104 =>
                      intro Q a w2 hC hV hI
                      have e0 : a.eval (.tmp 0) = .string s := (hI 0 (by simp [Op.operands]) (by kernel_rfl)).trans rfl
                      have f0 : a.tmps.getD 0 undef = .string s := e0
                      have g0 : a.tmps[0]?.getD undef = .string s := by rw [← Array.getD_eq_getD_getElem?]; exact e0
                      refine op_val (.string s) ?_ hC (Below.refl _ _) (by intro d hd; cases hd; exact rfl)
                      (clear hV hI hC; go_simp <;> (first | rfl | simp))
                    case o105 =>
                      intro Q a w2 hC hV hI
                      have e104 : a.eval (.tmp 104) = .string s := hV 104 (by simp [Op.operands]) (by kernel_rfl)
                      have f104 : a.tmps.getD 104 undef = .string s := e104
                      have g104 : a.tmps[104]?.getD undef = .string s := by rw [← Array.getD_eq_getD_getElem?]; exact e104
                      refine op_val (.string (s.extract 297 329)) ?_ hC (Below.refl _ _) (by intro d hd; cases hd; exact rfl)
                      (clear hV hI hC; go_simp <;> (first | rfl | simp))
                    case o106 =>
                      intro Q a w2 hC hV hI
                      have e105 : a.eval (.tmp 105) = .string (s.extract 297 329) := hV 105 (by simp [Op.operands, Call.operands]) (by kernel_rfl)
                      have f105 : a.tmps.getD 105 undef = .string (s.extract 297 329) := e105
                      have g105 : a.tmps[105]?.getD undef = .string (s.extract 297 329) := by rw [← Array.getD_eq_getD_getElem?]; exact e105
                      refine op_call (f := 46) (args := #[.string (s.extract 297 329)]) (R := fun v y => v = .string t11 ∧ w2 = y) ?_ ((C11.out w2).mono ?_) ?_
                      · (clear hV hI hC; go_simp <;> (first | rfl | simp))
                      · rintro e y ⟨rfl, rfl⟩; exact ⟨_, rfl, rfl, rfl⟩
                      · rintro v y ⟨rfl, rfl⟩; exact ⟨hC, Below.refl _ _, by intro d hd; cases hd; exact rfl⟩
                    case o107 =>
                      intro Q a w2 hC hV hI
                      have e85 : a.eval (.tmp 85) = .string pth := hV 85 (by simp [Op.operands]) (by kernel_rfl)
                      have f85 : a.tmps.getD 85 undef = .string pth := e85
                      have g85 : a.tmps[85]?.getD undef = .string pth := by rw [← Array.getD_eq_getD_getElem?]; exact e85
                      have e88 : a.eval (.tmp 88) = .string t8 := hV 88 (by simp [Op.operands]) (by kernel_rfl)
                      have f88 : a.tmps.getD 88 undef = .string t8 := e88
                      have g88 : a.tmps[88]?.getD undef = .string t8 := by rw [← Array.getD_eq_getD_getElem?]; exact e88
                      have e91 : a.eval (.tmp 91) = .int .i64 nm := hV 91 (by simp [Op.operands]) (by kernel_rfl)
                      have f91 : a.tmps.getD 91 undef = .int .i64 nm := e91
                      have g91 : a.tmps[91]?.getD undef = .int .i64 nm := by rw [← Array.getD_eq_getD_getElem?]; exact e91
                      have e94 : a.eval (.tmp 94) = .int .i64 nu := hV 94 (by simp [Op.operands]) (by kernel_rfl)
                      have f94 : a.tmps.getD 94 undef = .int .i64 nu := e94
                      have g94 : a.tmps[94]?.getD undef = .int .i64 nu := by rw [← Array.getD_eq_getD_getElem?]; exact e94
                      have e97 : a.eval (.tmp 97) = .int .i64 ng := hV 97 (by simp [Op.operands]) (by kernel_rfl)
                      have f97 : a.tmps.getD 97 undef = .int .i64 ng := e97
                      have g97 : a.tmps[97]?.getD undef = .int .i64 ng := by rw [← Array.getD_eq_getD_getElem?]; exact e97
                      have e100 : a.eval (.tmp 100) = .int .i64 nt := hV 100 (by simp [Op.operands]) (by kernel_rfl)
                      have f100 : a.tmps.getD 100 undef = .int .i64 nt := e100
                      have g100 : a.tmps[100]?.getD undef = .int .i64 nt := by rw [← Array.getD_eq_getD_getElem?]; exact e100
                      have e103 : a.eval (.tmp 103) = .string t10 := hV 103 (by simp [Op.operands]) (by kernel_rfl)
                      have f103 : a.tmps.getD 103 undef = .string t10 := e103
                      have g103 : a.tmps[103]?.getD undef = .string t10 := by rw [← Array.getD_eq_getD_getElem?]; exact e103
                      have e106 : a.eval (.tmp 106) = .string t11 := hV 106 (by simp [Op.operands]) (by kernel_rfl)
                      have f106 : a.tmps.getD 106 undef = .string t11 := e106
                      have g106 : a.tmps[106]?.getD undef = .string t11 := by rw [← Array.getD_eq_getD_getElem?]; exact e106
                      refine op_val (.agg #[.int .i64 0, .string pth, .string t8, .int .i64 nm, .int .i64 nu, .int .i64 ng, .int .i64 nt, .string t10, .string t11, .string ⟨#[]⟩]) ?_ hC (Below.refl _ _) (by intro d hd; cases hd; exact rfl)
                      (clear hV hI hC; go_simp <;> (first | rfl | simp))
                    case o15 =>
                      intro Q a w2 hC hV hI
                      refine op_val (.pointer (some ⟨w2.heap.size, 0, none⟩)) (w' := w2.alloc (.cells zEnt 23)) ?_ (hC.alloc hC.size _) ((Below.refl _ _).alloc (Nat.le_refl _) _) ?_
                      · (clear hV hI hC; go_simp <;> (first | rfl | simp))
                      · intro d hd; cases hd; exact ⟨w2.heap.size, rfl, hC.size, heap_alloc_last _ _⟩
                  case hend =>
                    intro f w5 hC hall
                    simp only [List.take_succ_cons, List.take_zero, List.drop_succ_cons, List.drop_zero] at hall ⊢
                    simp only [List.forall_mem_cons] at hall
                    obtain ⟨h85, h86, h87, h88, h89, h90, h91, h92, h93, h94, h95, h96, h97, h98, h99, h100, h101, h102, h103, h104, h105, h106, h107, h15, _⟩ := hall
                    replace h85 : f 85 = .string pth := h85 85 rfl
                    replace h86 : f 86 = .string s := h86 86 rfl
                    replace h87 : f 87 = .string (s.extract 157 257) := h87 87 rfl
                    replace h88 : f 88 = .string t8 := h88 88 rfl
                    replace h89 : f 89 = .slice (some ⟨gb, 0, none⟩) 5 cp := h89 89 rfl
                    replace h90 : f 90 = .pointer (some ⟨gb, 0, none⟩) := h90 90 rfl
                    replace h91 : f 91 = .int .i64 nm := h91 91 rfl
                    replace h92 : f 92 = .slice (some ⟨gb, 0, none⟩) 5 cp := h92 92 rfl
                    replace h93 : f 93 = .pointer (some ⟨gb, 1, none⟩) := h93 93 rfl
                    replace h94 : f 94 = .int .i64 nu := h94 94 rfl
                    replace h95 : f 95 = .slice (some ⟨gb, 0, none⟩) 5 cp := h95 95 rfl
                    replace h96 : f 96 = .pointer (some ⟨gb, 2, none⟩) := h96 96 rfl
                    replace h97 : f 97 = .int .i64 ng := h97 97 rfl
                    replace h98 : f 98 = .slice (some ⟨gb, 0, none⟩) 5 cp := h98 98 rfl
                    replace h99 : f 99 = .pointer (some ⟨gb, 4, none⟩) := h99 99 rfl
                    replace h100 : f 100 = .int .i64 nt := h100 100 rfl
                    replace h101 : f 101 = .string s := h101 101 rfl
                    replace h102 : f 102 = .string (s.extract 265 297) := h102 102 rfl
                    replace h103 : f 103 = .string t10 := h103 103 rfl
                    replace h104 : f 104 = .string s := h104 104 rfl
                    replace h105 : f 105 = .string (s.extract 297 329) := h105 105 rfl
                    replace h106 : f 106 = .string t11 := h106 106 rfl
                    replace h107 : f 107 = .agg #[.int .i64 0, .string pth, .string t8, .int .i64 nm, .int .i64 nu, .int .i64 ng, .int .i64 nt, .string t10, .string t11, .string ⟨#[]⟩] := h107 107 rfl
                    obtain ⟨G, hG15, hGB, hGO⟩ : ∃ G, f 15 = .pointer (some ⟨G, 0, none⟩) ∧ wr.heap.size ≤ G ∧ w5.heap[G]? = some (.cells zEnt 23 (0, 0)) := h15 15 rfl
                    simp only [putAll, Act.put, List.setIfInBounds_toArray, List.set_cons_succ, List.set_cons_zero, h85, h86, h87, h88, h89, h90, h91, h92, h93, h94, h95, h96, h97, h98, h99, h100, h101, h102, h103, h104, h105, h106, h107, hG15]
                    clear h85 h86 h87 h88 h89 h90 h91 h92 h93 h94 h95 h96 h97 h98 h99 h100 h101 h102 h103 h104 h105 h106 h107 hG15
                    have HS1 := Lib.hid (run_storeVar_row (P := Tryz.prog) w5 G 23 23 zEnt #[.int .i64 0, .string pth, .string t8, .int .i64 nm, .int .i64 nu, .int .i64 ng, .int .i64 nt, .string t10, .string t11, .string ⟨#[]⟩] hGO (by rw [Tryz.sizeEnt]; rfl) rfl (by simp [Value.oneCell']))
                    have OG := setRow_heap _ _ _ #[.int .i64 0, .string pth, .string t8, .int .i64 nm, .int .i64 nu, .int .i64 ng, .int .i64 nt, .string t10, .string t11, .string ⟨#[]⟩] _ _ hGO
                    have BG := hC.trans (below_set (w := w5) hGB #[.int .i64 0, .string pth, .string t8, .int .i64 nm, .int .i64 nu, .int .i64 ng, .int .i64 nt, .string t10, .string t11, .string ⟨#[]⟩])
                    go_wp2_with ((with_reducible refine wpList_store_eq rfl 23 _ _ rfl ⟨G, 0, none⟩ ?_ ?_ HS1.out ?_); rfl; rfl)
                    clear HS1 hGO hC
                    generalize w5.setRow G #[.int .i64 0, .string pth, .string t8, .int .i64 nm, .int .i64 nu, .int .i64 ng, .int .i64 nt, .string t10, .string t11, .string ⟨#[]⟩] = w6 at *
                    have zG := obj_lt OG
                    have HLG : Hid (∀ w' : World, w'.heap[G]? = some (.cells #[.int .i64 0, .string pth, .string t8, .int .i64 nm, .int .i64 nu, .int .i64 ng, .int .i64 nt, .string t10, .string t11, .string ⟨#[]⟩] 23 (0, 0)) → w'.cell? ⟨G, 0, none⟩ = some (.int .i64 0) ∧ w'.cell? ⟨G, 1, none⟩ = some (.string pth) ∧ w'.cell? ⟨G, 2, none⟩ = some (.string t8) ∧ w'.cell? ⟨G, 3, none⟩ = some (.int .i64 nm) ∧ w'.cell? ⟨G, 4, none⟩ = some (.int .i64 nu) ∧ w'.cell? ⟨G, 5, none⟩ = some (.int .i64 ng) ∧ w'.cell? ⟨G, 6, none⟩ = some (.int .i64 nt) ∧ w'.cell? ⟨G, 7, none⟩ = some (.string t10) ∧ w'.cell? ⟨G, 8, none⟩ = some (.string t11) ∧ w'.cell? ⟨G, 9, none⟩ = some (.string ⟨#[]⟩)) := Lib.hid (fun w' h1 => by refine ⟨?_, ?_, ?_, ?_, ?_, ?_, ?_, ?_, ?_, ?_⟩ <;> (rw [cell_of_row _ _ _ _ _ _ h1]; rfl))
                    have N3 := Lib.hid (KC.out w6 BG).2.2.2.1
                    have RO6 := Lib.hid ((BG.block _ (obj_lt RO3.out)).trans RO3.out)
                    have B6 := Lib.hid (B3.out.trans (BG.mono B3.out.size))
                    have zRG : w.heap.size < G := Nat.lt_of_lt_of_le (obj_lt RO3.out) hGB
                    have OG6 := Lib.hid OG
                    clear BG OG KC
                    refine wp_region_u (by kernel_rfl) (fun w' => Below w.heap.size w w' ∧ w'.heap[G]? = some (.cells #[.int .i64 0, .string pth, .string t8, .int .i64 nm, .int .i64 nu, .int .i64 ng, .int .i64 nt, .string t10, .string t11, .string ⟨#[]⟩] 23 (0, 0)) ∧ w'.cell? ⟨gb, 3, none⟩ = some (.int .i64 nz) ∧ (w'.heap[w.heap.size]? = some (.cells zEnt 23 (0, 0)) ∨ w'.heap[w.heap.size]? = some (.cells #[.int .i64 0, .string pth, .string t8, .int .i64 nm, .int .i64 nu, .int .i64 ng, .int .i64 nt, .string t10, .string t11, .string ⟨#[]⟩] 23 (0, 0)))) (fun x y => y.heap[w.heap.size]? = x.heap[w.heap.size]? ∨ y.heap[w.heap.size]? = some (.cells #[.int .i64 0, .string pth, .string t8, .int .i64 nm, .int .i64 nu, .int .i64 ng, .int .i64 nt, .string t10, .string t11, .string ⟨#[]⟩] 23 (0, 0))) (fun d v _ => match d with | 108 => v = .agg #[.int .i64 0, .string pth, .string t8, .int .i64 nm, .int .i64 nu, .int .i64 ng, .int .i64 nt, .string t10, .string t11, .string ⟨#[]⟩] | 109 => v = .string s | 110 => v = .string (s.extract 156 157) | 111 => v = .slice (some ⟨gb, 0, none⟩) 5 cp | 112 => v = .pointer (some ⟨gb, 3, none⟩) | 113 => v = .int .i64 nz | 3 => v = .string (s.extract 156 157) | 4 => v = .int .i64 nz | 5 => v = .int .i64 0 | _ => True) (fun o w' => o.dst = none → w'.heap[w.heap.size]? = some (.cells #[.int .i64 0, .string pth, .string t8, .int .i64 nm, .int .i64 nu, .int .i64 ng, .int .i64 nt, .string t10, .string t11, .string ⟨#[]⟩] 23 (0, 0))) (by kernel_rfl) ⟨B6.out.drew, OG6.out, N3.out, .inl RO6.out⟩ (fun _ _ _ _ _ _ h => h) (fun _ _ _ _ hs hu hd => Or.elim hs (fun h => h.trans (hu hd)) (fun h => h)) ?hops ?hend
                    case hops =>
                      simp only [List.forall_mem_cons]
                      refine ⟨?o108, ?o109, ?o110, ?o111, ?o112, ?o113, ?os, ?o3, ?o4, ?o5, fun _ h => by cases h⟩
                      case o108 =>
                        intro Q a w2 hC hV hI
                        have e15 : a.eval (.tmp 15) = .pointer (some ⟨G, 0, none⟩) := (hI 15 (by simp [Op.operands]) (by kernel_rfl)).trans rfl
                        have f15 : a.tmps.getD 15 undef = .pointer (some ⟨G, 0, none⟩) := e15
                        have g15 : a.tmps[15]?.getD undef = .pointer (some ⟨G, 0, none⟩) := by rw [← Array.getD_eq_getD_getElem?]; exact e15
                        have hK := HLG.out w2 hC.2.1
                        refine opU_val (C := fun w' => Below w.heap.size w w' ∧ w'.heap[G]? = some (.cells #[.int .i64 0, .string pth, .string t8, .int .i64 nm, .int .i64 nu, .int .i64 ng, .int .i64 nt, .string t10, .string t11, .string ⟨#[]⟩] 23 (0, 0)) ∧ w'.cell? ⟨gb, 3, none⟩ = some (.int .i64 nz) ∧ (w'.heap[w.heap.size]? = some (.cells zEnt 23 (0, 0)) ∨ w'.heap[w.heap.size]? = some (.cells #[.int .i64 0, .string pth, .string t8, .int .i64 nm, .int .i64 nu, .int .i64 ng, .int .i64 nt, .string t10, .string t11, .string ⟨#[]⟩] 23 (0, 0)))) (St := fun x y => y.heap[w.heap.size]? = x.heap[w.heap.size]? ∨ y.heap[w.heap.size]? = some (.cells #[.int .i64 0, .string pth, .string t8, .int .i64 nm, .int .i64 nu, .int .i64 ng, .int .i64 nt, .string t10, .string t11, .string ⟨#[]⟩] 23 (0, 0))) (V := fun d v _ => match d with | 108 => v = .agg #[.int .i64 0, .string pth, .string t8, .int .i64 nm, .int .i64 nu, .int .i64 ng, .int .i64 nt, .string t10, .string t11, .string ⟨#[]⟩] | 109 => v = .string s | 110 => v = .string (s.extract 156 157) | 111 => v = .slice (some ⟨gb, 0, none⟩) 5 cp | 112 => v = .pointer (some ⟨gb, 3, none⟩) | 113 => v = .int .i64 nz | 3 => v = .string (s.extract 156 157) | 4 => v = .int .i64 nz | 5 => v = .int .i64 0 | _ => True) (U := fun o w' => o.dst = none → w'.heap[w.heap.size]? = some (.cells #[.int .i64 0, .string pth, .string t8, .int .i64 nm, .int .i64 nu, .int .i64 ng, .int .i64 nt, .string t10, .string t11, .string ⟨#[]⟩] 23 (0, 0))) (w' := w2) (.agg #[.int .i64 0, .string pth, .string t8, .int .i64 nm, .int .i64 nu, .int .i64 ng, .int .i64 nt, .string t10, .string t11, .string ⟨#[]⟩]) ?_ ?_ ?_ ?_ ?_
                        · (clear hV hI hC; go_simp <;> (first | rfl | simp))
                        · exact hC
                        · exact Or.inl rfl
                        · intro d hd; cases hd; exact rfl
                        · intro h; cases h
                      case o109 =>
                        intro Q a w2 hC hV hI
                        have e0 : a.eval (.tmp 0) = .string s := (hI 0 (by simp [Op.operands]) (by kernel_rfl)).trans rfl
                        have f0 : a.tmps.getD 0 undef = .string s := e0
                        have g0 : a.tmps[0]?.getD undef = .string s := by rw [← Array.getD_eq_getD_getElem?]; exact e0
                        refine opU_val (C := fun w' => Below w.heap.size w w' ∧ w'.heap[G]? = some (.cells #[.int .i64 0, .string pth, .string t8, .int .i64 nm, .int .i64 nu, .int .i64 ng, .int .i64 nt, .string t10, .string t11, .string ⟨#[]⟩] 23 (0, 0)) ∧ w'.cell? ⟨gb, 3, none⟩ = some (.int .i64 nz) ∧ (w'.heap[w.heap.size]? = some (.cells zEnt 23 (0, 0)) ∨ w'.heap[w.heap.size]? = some (.cells #[.int .i64 0, .string pth, .string t8, .int .i64 nm, .int .i64 nu, .int .i64 ng, .int .i64 nt, .string t10, .string t11, .string ⟨#[]⟩] 23 (0, 0)))) (St := fun x y => y.heap[w.heap.size]? = x.heap[w.heap.size]? ∨ y.heap[w.heap.size]? = some (.cells #[.int .i64 0, .string pth, .string t8, .int .i64 nm, .int .i64 nu, .int .i64 ng, .int .i64 nt, .string t10, .string t11, .string ⟨#[]⟩] 23 (0, 0))) (V := fun d v _ => match d with | 108 => v = .agg #[.int .i64 0, .string pth, .string t8, .int .i64 nm, .int .i64 nu, .int .i64 ng, .int .i64 nt, .string t10, .string t11, .string ⟨#[]⟩] | 109 => v = .string s | 110 => v = .string (s.extract 156 157) | 111 => v = .slice (some ⟨gb, 0, none⟩) 5 cp | 112 => v = .pointer (some ⟨gb, 3, none⟩) | 113 => v = .int .i64 nz | 3 => v = .string (s.extract 156 157) | 4 => v = .int .i64 nz | 5 => v = .int .i64 0 | _ => True) (U := fun o w' => o.dst = none → w'.heap[w.heap.size]? = some (.cells #[.int .i64 0, .string pth, .string t8, .int .i64 nm, .int .i64 nu, .int .i64 ng, .int .i64 nt, .string t10, .string t11, .string ⟨#[]⟩] 23 (0, 0))) (w' := w2) (.string s) ?_ ?_ ?_ ?_ ?_
                        · (clear hV hI hC; go_simp <;> (first | rfl | simp))
                        · exact hC
                        · exact Or.inl rfl
                        · intro d hd; cases hd; exact rfl
                        · intro h; cases h
                      case o110 =>
                        intro Q a w2 hC hV hI
                        have e109 : a.eval (.tmp 109) = .string s := hV 109 (by simp [Op.operands]) (by kernel_rfl)
                        have f109 : a.tmps.getD 109 undef = .string s := e109
                        have g109 : a.tmps[109]?.getD undef = .string s := by rw [← Array.getD_eq_getD_getElem?]; exact e109
                        refine opU_val (C := fun w' => Below w.heap.size w w' ∧ w'.heap[G]? = some (.cells #[.int .i64 0, .string pth, .string t8, .int .i64 nm, .int .i64 nu, .int .i64 ng, .int .i64 nt, .string t10, .string t11, .string ⟨#[]⟩] 23 (0, 0)) ∧ w'.cell? ⟨gb, 3, none⟩ = some (.int .i64 nz) ∧ (w'.heap[w.heap.size]? = some (.cells zEnt 23 (0, 0)) ∨ w'.heap[w.heap.size]? = some (.cells #[.int .i64 0, .string pth, .string t8, .int .i64 nm, .int .i64 nu, .int .i64 ng, .int .i64 nt, .string t10, .string t11, .string ⟨#[]⟩] 23 (0, 0)))) (St := fun x y => y.heap[w.heap.size]? = x.heap[w.heap.size]? ∨ y.heap[w.heap.size]? = some (.cells #[.int .i64 0, .string pth, .string t8, .int .i64 nm, .int .i64 nu, .int .i64 ng, .int .i64 nt, .string t10, .string t11, .string ⟨#[]⟩] 23 (0, 0))) (V := fun d v _ => match d with | 108 => v = .agg #[.int .i64 0, .string pth, .string t8, .int .i64 nm, .int .i64 nu, .int .i64 ng, .int .i64 nt, .string t10, .string t11, .string ⟨#[]⟩] | 109 => v = .string s | 110 => v = .string (s.extract 156 157) | 111 => v = .slice (some ⟨gb, 0, none⟩) 5 cp | 112 => v = .pointer (some ⟨gb, 3, none⟩) | 113 => v = .int .i64 nz | 3 => v = .string (s.extract 156 157) | 4 => v = .int .i64 nz | 5 => v = .int .i64 0 | _ => True) (U := fun o w' => o.dst = none → w'.heap[w.heap.size]? = some (.cells #[.int .i64 0, .string pth, .string t8, .int .i64 nm, .int .i64 nu, .int .i64 ng, .int .i64 nt, .string t10, .string t11, .string ⟨#[]⟩] 23 (0, 0))) (w' := w2) (.string (s.extract 156 157)) ?_ ?_ ?_ ?_ ?_
                        · (clear hV hI hC; go_simp <;> (first | rfl | simp))
                        · exact hC
                        · exact Or.inl rfl
                        · intro d hd; cases hd; exact rfl
                        · intro h; cases h
                      case o111 =>
                        intro Q a w2 hC hV hI
                        have e8 : a.eval (.tmp 8) = .slice (some ⟨gb, 0, none⟩) 5 cp := (hI 8 (by simp [Op.operands]) (by kernel_rfl)).trans rfl
                        have f8 : a.tmps.getD 8 undef = .slice (some ⟨gb, 0, none⟩) 5 cp := e8
                        have g8 : a.tmps[8]?.getD undef = .slice (some ⟨gb, 0, none⟩) 5 cp := by rw [← Array.getD_eq_getD_getElem?]; exact e8
                        refine opU_val (C := fun w' => Below w.heap.size w w' ∧ w'.heap[G]? = some (.cells #[.int .i64 0, .string pth, .string t8, .int .i64 nm, .int .i64 nu, .int .i64 ng, .int .i64 nt, .string t10, .string t11, .string ⟨#[]⟩] 23 (0, 0)) ∧ w'.cell? ⟨gb, 3, none⟩ = some (.int .i64 nz) ∧ (w'.heap[w.heap.size]? = some (.cells zEnt 23 (0, 0)) ∨ w'.heap[w.heap.size]? = some (.cells #[.int .i64 0, .string pth, .string t8, .int .i64 nm, .int .i64 nu, .int .i64 ng, .int .i64 nt, .string t10, .string t11, .string ⟨#[]⟩] 23 (0, 0)))) (St := fun x y => y.heap[w.heap.size]? = x.heap[w.heap.size]? ∨ y.heap[w.heap.size]? = some (.cells #[.int .i64 0, .string pth, .string t8, .int .i64 nm, .int .i64 nu, .int .i64 ng, .int .i64 nt, .string t10, .string t11, .string ⟨#[]⟩] 23 (0, 0))) (V := fun d v _ => match d with | 108 => v = .agg #[.int .i64 0, .string pth, .string t8, .int .i64 nm, .int .i64 nu, .int .i64 ng, .int .i64 nt, .string t10, .string t11, .string ⟨#[]⟩] | 109 => v = .string s | 110 => v = .string (s.extract 156 157) | 111 => v = .slice (some ⟨gb, 0, none⟩) 5 cp | 112 => v = .pointer (some ⟨gb, 3, none⟩) | 113 => v = .int .i64 nz | 3 => v = .string (s.extract 156 157) | 4 => v = .int .i64 nz | 5 => v = .int .i64 0 | _ => True) (U := fun o w' => o.dst = none → w'.heap[w.heap.size]? = some (.cells #[.int .i64 0, .string pth, .string t8, .int .i64 nm, .int .i64 nu, .int .i64 ng, .int .i64 nt, .string t10, .string t11, .string ⟨#[]⟩] 23 (0, 0))) (w' := w2) (.slice (some ⟨gb, 0, none⟩) 5 cp) ?_ ?_ ?_ ?_ ?_
                        · (clear hV hI hC; go_simp <;> (first | rfl | simp))
                        · exact hC
                        · exact Or.inl rfl
                        · intro d hd; cases hd; exact rfl
                        · intro h; cases h
                      case o112 =>
                        intro Q a w2 hC hV hI
                        have e111 : a.eval (.tmp 111) = .slice (some ⟨gb, 0, none⟩) 5 cp := hV 111 (by simp [Op.operands]) (by kernel_rfl)
                        have f111 : a.tmps.getD 111 undef = .slice (some ⟨gb, 0, none⟩) 5 cp := e111
                        have g111 : a.tmps[111]?.getD undef = .slice (some ⟨gb, 0, none⟩) 5 cp := by rw [← Array.getD_eq_getD_getElem?]; exact e111
                        refine opU_val (C := fun w' => Below w.heap.size w w' ∧ w'.heap[G]? = some (.cells #[.int .i64 0, .string pth, .string t8, .int .i64 nm, .int .i64 nu, .int .i64 ng, .int .i64 nt, .string t10, .string t11, .string ⟨#[]⟩] 23 (0, 0)) ∧ w'.cell? ⟨gb, 3, none⟩ = some (.int .i64 nz) ∧ (w'.heap[w.heap.size]? = some (.cells zEnt 23 (0, 0)) ∨ w'.heap[w.heap.size]? = some (.cells #[.int .i64 0, .string pth, .string t8, .int .i64 nm, .int .i64 nu, .int .i64 ng, .int .i64 nt, .string t10, .string t11, .string ⟨#[]⟩] 23 (0, 0)))) (St := fun x y => y.heap[w.heap.size]? = x.heap[w.heap.size]? ∨ y.heap[w.heap.size]? = some (.cells #[.int .i64 0, .string pth, .string t8, .int .i64 nm, .int .i64 nu, .int .i64 ng, .int .i64 nt, .string t10, .string t11, .string ⟨#[]⟩] 23 (0, 0))) (V := fun d v _ => match d with | 108 => v = .agg #[.int .i64 0, .string pth, .string t8, .int .i64 nm, .int .i64 nu, .int .i64 ng, .int .i64 nt, .string t10, .string t11, .string ⟨#[]⟩] | 109 => v = .string s | 110 => v = .string (s.extract 156 157) | 111 => v = .slice (some ⟨gb, 0, none⟩) 5 cp | 112 => v = .pointer (some ⟨gb, 3, none⟩) | 113 => v = .int .i64 nz | 3 => v = .string (s.extract 156 157) | 4 => v = .int .i64 nz | 5 => v = .int .i64 0 | _ => True) (U := fun o w' => o.dst = none → w'.heap[w.heap.size]? = some (.cells #[.int .i64 0, .string pth, .string t8, .int .i64 nm, .int .i64 nu, .int .i64 ng, .int .i64 nt, .string t10, .string t11, .string ⟨#[]⟩] 23 (0, 0))) (w' := w2) (.pointer (some ⟨gb, 3, none⟩)) ?_ ?_ ?_ ?_ ?_
                        · (clear hV hI hC; go_simp <;> (first | rfl | simp))
                        · exact hC
                        · exact Or.inl rfl
                        · intro d hd; cases hd; exact rfl
                        · intro h; cases h
                      case o113 =>
                        intro Q a w2 hC hV hI
                        have e112 : a.eval (.tmp 112) = .pointer (some ⟨gb, 3, none⟩) := hV 112 (by simp [Op.operands]) (by kernel_rfl)
                        have f112 : a.tmps.getD 112 undef = .pointer (some ⟨gb, 3, none⟩) := e112
                        have g112 : a.tmps[112]?.getD undef = .pointer (some ⟨gb, 3, none⟩) := by rw [← Array.getD_eq_getD_getElem?]; exact e112
                        have hK := hC.2.2.1
                        refine opU_val (C := fun w' => Below w.heap.size w w' ∧ w'.heap[G]? = some (.cells #[.int .i64 0, .string pth, .string t8, .int .i64 nm, .int .i64 nu, .int .i64 ng, .int .i64 nt, .string t10, .string t11, .string ⟨#[]⟩] 23 (0, 0)) ∧ w'.cell? ⟨gb, 3, none⟩ = some (.int .i64 nz) ∧ (w'.heap[w.heap.size]? = some (.cells zEnt 23 (0, 0)) ∨ w'.heap[w.heap.size]? = some (.cells #[.int .i64 0, .string pth, .string t8, .int .i64 nm, .int .i64 nu, .int .i64 ng, .int .i64 nt, .string t10, .string t11, .string ⟨#[]⟩] 23 (0, 0)))) (St := fun x y => y.heap[w.heap.size]? = x.heap[w.heap.size]? ∨ y.heap[w.heap.size]? = some (.cells #[.int .i64 0, .string pth, .string t8, .int .i64 nm, .int .i64 nu, .int .i64 ng, .int .i64 nt, .string t10, .string t11, .string ⟨#[]⟩] 23 (0, 0))) (V := fun d v _ => match d with | 108 => v = .agg #[.int .i64 0, .string pth, .string t8, .int .i64 nm, .int .i64 nu, .int .i64 ng, .int .i64 nt, .string t10, .string t11, .string ⟨#[]⟩] | 109 => v = .string s | 110 => v = .string (s.extract 156 157) | 111 => v = .slice (some ⟨gb, 0, none⟩) 5 cp | 112 => v = .pointer (some ⟨gb, 3, none⟩) | 113 => v = .int .i64 nz | 3 => v = .string (s.extract 156 157) | 4 => v = .int .i64 nz | 5 => v = .int .i64 0 | _ => True) (U := fun o w' => o.dst = none → w'.heap[w.heap.size]? = some (.cells #[.int .i64 0, .string pth, .string t8, .int .i64 nm, .int .i64 nu, .int .i64 ng, .int .i64 nt, .string t10, .string t11, .string ⟨#[]⟩] 23 (0, 0))) (w' := w2) (.int .i64 nz) ?_ ?_ ?_ ?_ ?_
                        · (clear hV hI hC; go_simp <;> (first | rfl | simp))
                        · exact hC
                        · exact Or.inl rfl
                        · intro d hd; cases hd; exact rfl
                        · intro h; cases h
                      case os =>
                        intro Q a w2 hC hV hI
                        have e2 : a.eval (.tmp 2) = .pointer (some ⟨w.heap.size, 0, none⟩) := (hI 2 (by simp [Op.operands]) (by kernel_rfl)).trans rfl
                        have f2 : a.tmps.getD 2 undef = .pointer (some ⟨w.heap.size, 0, none⟩) := e2
                        have g2 : a.tmps[2]?.getD undef = .pointer (some ⟨w.heap.size, 0, none⟩) := by rw [← Array.getD_eq_getD_getElem?]; exact e2
                        have e108 : a.eval (.tmp 108) = .agg #[.int .i64 0, .string pth, .string t8, .int .i64 nm, .int .i64 nu, .int .i64 ng, .int .i64 nt, .string t10, .string t11, .string ⟨#[]⟩] := hV 108 (by simp [Op.operands]) (by kernel_rfl)
                        have f108 : a.tmps.getD 108 undef = .agg #[.int .i64 0, .string pth, .string t8, .int .i64 nm, .int .i64 nu, .int .i64 ng, .int .i64 nt, .string t10, .string t11, .string ⟨#[]⟩] := e108
                        have g108 : a.tmps[108]?.getD undef = .agg #[.int .i64 0, .string pth, .string t8, .int .i64 nm, .int .i64 nu, .int .i64 ng, .int .i64 nt, .string t10, .string t11, .string ⟨#[]⟩] := by rw [← Array.getD_eq_getD_getElem?]; exact e108
                        have hS : ∀ cs : Array Value, cs.size = 10 → w2.heap[w.heap.size]? = some (.cells cs 23 (0, 0)) → _ := fun cs hc hR => run_storeVar_row (P := Tryz.prog) w2 w.heap.size 23 23 cs #[.int .i64 0, .string pth, .string t8, .int .i64 nm, .int .i64 nu, .int .i64 ng, .int .i64 nt, .string t10, .string t11, .string ⟨#[]⟩] hR (by rw [Tryz.sizeEnt]; rfl) hc (by simp [Value.oneCell'])
                        have hR2 : (w2.setRow w.heap.size #[.int .i64 0, .string pth, .string t8, .int .i64 nm, .int .i64 nu, .int .i64 ng, .int .i64 nt, .string t10, .string t11, .string ⟨#[]⟩]).heap[w.heap.size]? = some (.cells #[.int .i64 0, .string pth, .string t8, .int .i64 nm, .int .i64 nu, .int .i64 ng, .int .i64 nt, .string t10, .string t11, .string ⟨#[]⟩] 23 (0, 0)) := hC.2.2.2.elim (fun h => setRow_heap _ _ _ _ _ _ h) (fun h => setRow_heap _ _ _ _ _ _ h)
                        refine opU_store (C := fun w' => Below w.heap.size w w' ∧ w'.heap[G]? = some (.cells #[.int .i64 0, .string pth, .string t8, .int .i64 nm, .int .i64 nu, .int .i64 ng, .int .i64 nt, .string t10, .string t11, .string ⟨#[]⟩] 23 (0, 0)) ∧ w'.cell? ⟨gb, 3, none⟩ = some (.int .i64 nz) ∧ (w'.heap[w.heap.size]? = some (.cells zEnt 23 (0, 0)) ∨ w'.heap[w.heap.size]? = some (.cells #[.int .i64 0, .string pth, .string t8, .int .i64 nm, .int .i64 nu, .int .i64 ng, .int .i64 nt, .string t10, .string t11, .string ⟨#[]⟩] 23 (0, 0)))) (St := fun x y => y.heap[w.heap.size]? = x.heap[w.heap.size]? ∨ y.heap[w.heap.size]? = some (.cells #[.int .i64 0, .string pth, .string t8, .int .i64 nm, .int .i64 nu, .int .i64 ng, .int .i64 nt, .string t10, .string t11, .string ⟨#[]⟩] 23 (0, 0))) (V := fun d v _ => match d with | 108 => v = .agg #[.int .i64 0, .string pth, .string t8, .int .i64 nm, .int .i64 nu, .int .i64 ng, .int .i64 nt, .string t10, .string t11, .string ⟨#[]⟩] | 109 => v = .string s | 110 => v = .string (s.extract 156 157) | 111 => v = .slice (some ⟨gb, 0, none⟩) 5 cp | 112 => v = .pointer (some ⟨gb, 3, none⟩) | 113 => v = .int .i64 nz | 3 => v = .string (s.extract 156 157) | 4 => v = .int .i64 nz | 5 => v = .int .i64 0 | _ => True) (U := fun o w' => o.dst = none → w'.heap[w.heap.size]? = some (.cells #[.int .i64 0, .string pth, .string t8, .int .i64 nm, .int .i64 nu, .int .i64 ng, .int .i64 nt, .string t10, .string t11, .string ⟨#[]⟩] 23 (0, 0))) 23 _ _ rfl rfl ⟨w.heap.size, 0, none⟩ e2 e108 (hC.2.2.2.elim (fun h => hS _ rfl h) (fun h => hS _ rfl h)) ?_ ?_ ?_
                        · exact ⟨hC.1.trans (below_set (Nat.le_refl _) _), by rw [setRow_other _ _ _ _ (by omega)]; exact hC.2.1, (cell_setRow_other (by omega)).trans hC.2.2.1, Or.inr hR2⟩
                        · exact Or.inr hR2
                        · intro _; exact hR2
                      case o3 =>
                        intro Q a w2 hC hV hI
                        have e110 : a.eval (.tmp 110) = .string (s.extract 156 157) := hV 110 (by simp [Op.operands]) (by kernel_rfl)
                        have f110 : a.tmps.getD 110 undef = .string (s.extract 156 157) := e110
                        have g110 : a.tmps[110]?.getD undef = .string (s.extract 156 157) := by rw [← Array.getD_eq_getD_getElem?]; exact e110
                        refine opU_val (C := fun w' => Below w.heap.size w w' ∧ w'.heap[G]? = some (.cells #[.int .i64 0, .string pth, .string t8, .int .i64 nm, .int .i64 nu, .int .i64 ng, .int .i64 nt, .string t10, .string t11, .string ⟨#[]⟩] 23 (0, 0)) ∧ w'.cell? ⟨gb, 3, none⟩ = some (.int .i64 nz) ∧ (w'.heap[w.heap.size]? = some (.cells zEnt 23 (0, 0)) ∨ w'.heap[w.heap.size]? = some (.cells #[.int .i64 0, .string pth, .string t8, .int .i64 nm, .int .i64 nu, .int .i64 ng, .int .i64 nt, .string t10, .string t11, .string ⟨#[]⟩] 23 (0, 0)))) (St := fun x y => y.heap[w.heap.size]? = x.heap[w.heap.size]? ∨ y.heap[w.heap.size]? = some (.cells #[.int .i64 0, .string pth, .string t8, .int .i64 nm, .int .i64 nu, .int .i64 ng, .int .i64 nt, .string t10, .string t11, .string ⟨#[]⟩] 23 (0, 0))) (V := fun d v _ => match d with | 108 => v = .agg #[.int .i64 0, .string pth, .string t8, .int .i64 nm, .int .i64 nu, .int .i64 ng, .int .i64 nt, .string t10, .string t11, .string ⟨#[]⟩] | 109 => v = .string s | 110 => v = .string (s.extract 156 157) | 111 => v = .slice (some ⟨gb, 0, none⟩) 5 cp | 112 => v = .pointer (some ⟨gb, 3, none⟩) | 113 => v = .int .i64 nz | 3 => v = .string (s.extract 156 157) | 4 => v = .int .i64 nz | 5 => v = .int .i64 0 | _ => True) (U := fun o w' => o.dst = none → w'.heap[w.heap.size]? = some (.cells #[.int .i64 0, .string pth, .string t8, .int .i64 nm, .int .i64 nu, .int .i64 ng, .int .i64 nt, .string t10, .string t11, .string ⟨#[]⟩] 23 (0, 0))) (w' := w2) (.string (s.extract 156 157)) ?_ ?_ ?_ ?_ ?_
                        · (clear hV hI hC; go_simp <;> (first | rfl | simp))
                        · exact hC
                        · exact Or.inl rfl
                        · intro d hd; cases hd; exact rfl
                        · intro h; cases h
                      case o4 =>
                        intro Q a w2 hC hV hI
                        have e113 : a.eval (.tmp 113) = .int .i64 nz := hV 113 (by simp [Op.operands]) (by kernel_rfl)
                        have f113 : a.tmps.getD 113 undef = .int .i64 nz := e113
                        have g113 : a.tmps[113]?.getD undef = .int .i64 nz := by rw [← Array.getD_eq_getD_getElem?]; exact e113
                        refine opU_val (C := fun w' => Below w.heap.size w w' ∧ w'.heap[G]? = some (.cells #[.int .i64 0, .string pth, .string t8, .int .i64 nm, .int .i64 nu, .int .i64 ng, .int .i64 nt, .string t10, .string t11, .string ⟨#[]⟩] 23 (0, 0)) ∧ w'.cell? ⟨gb, 3, none⟩ = some (.int .i64 nz) ∧ (w'.heap[w.heap.size]? = some (.cells zEnt 23 (0, 0)) ∨ w'.heap[w.heap.size]? = some (.cells #[.int .i64 0, .string pth, .string t8, .int .i64 nm, .int .i64 nu, .int .i64 ng, .int .i64 nt, .string t10, .string t11, .string ⟨#[]⟩] 23 (0, 0)))) (St := fun x y => y.heap[w.heap.size]? = x.heap[w.heap.size]? ∨ y.heap[w.heap.size]? = some (.cells #[.int .i64 0, .string pth, .string t8, .int .i64 nm, .int .i64 nu, .int .i64 ng, .int .i64 nt, .string t10, .string t11, .string ⟨#[]⟩] 23 (0, 0))) (V := fun d v _ => match d with | 108 => v = .agg #[.int .i64 0, .string pth, .string t8, .int .i64 nm, .int .i64 nu, .int .i64 ng, .int .i64 nt, .string t10, .string t11, .string ⟨#[]⟩] | 109 => v = .string s | 110 => v = .string (s.extract 156 157) | 111 => v = .slice (some ⟨gb, 0, none⟩) 5 cp | 112 => v = .pointer (some ⟨gb, 3, none⟩) | 113 => v = .int .i64 nz | 3 => v = .string (s.extract 156 157) | 4 => v = .int .i64 nz | 5 => v = .int .i64 0 | _ => True) (U := fun o w' => o.dst = none → w'.heap[w.heap.size]? = some (.cells #[.int .i64 0, .string pth, .string t8, .int .i64 nm, .int .i64 nu, .int .i64 ng, .int .i64 nt, .string t10, .string t11, .string ⟨#[]⟩] 23 (0, 0))) (w' := w2) (.int .i64 nz) ?_ ?_ ?_ ?_ ?_
                        · (clear hV hI hC; go_simp <;> (first | rfl | simp))
                        · exact hC
                        · exact Or.inl rfl
                        · intro d hd; cases hd; exact rfl
                        · intro h; cases h
                      case o5 =>
                        intro Q a w2 hC hV hI
                        refine opU_val (C := fun w' => Below w.heap.size w w' ∧ w'.heap[G]? = some (.cells #[.int .i64 0, .string pth, .string t8, .int .i64 nm, .int .i64 nu, .int .i64 ng, .int .i64 nt, .string t10, .string t11, .string ⟨#[]⟩] 23 (0, 0)) ∧ w'.cell? ⟨gb, 3, none⟩ = some (.int .i64 nz) ∧ (w'.heap[w.heap.size]? = some (.cells zEnt 23 (0, 0)) ∨ w'.heap[w.heap.size]? = some (.cells #[.int .i64 0, .string pth, .string t8, .int .i64 nm, .int .i64 nu, .int .i64 ng, .int .i64 nt, .string t10, .string t11, .string ⟨#[]⟩] 23 (0, 0)))) (St := fun x y => y.heap[w.heap.size]? = x.heap[w.heap.size]? ∨ y.heap[w.heap.size]? = some (.cells #[.int .i64 0, .string pth, .string t8, .int .i64 nm, .int .i64 nu, .int .i64 ng, .int .i64 nt, .string t10, .string t11, .string ⟨#[]⟩] 23 (0, 0))) (V := fun d v _ => match d with | 108 => v = .agg #[.int .i64 0, .string pth, .string t8, .int .i64 nm, .int .i64 nu, .int .i64 ng, .int .i64 nt, .string t10, .string t11, .string ⟨#[]⟩] | 109 => v = .string s | 110 => v = .string (s.extract 156 157) | 111 => v = .slice (some ⟨gb, 0, none⟩) 5 cp | 112 => v = .pointer (some ⟨gb, 3, none⟩) | 113 => v = .int .i64 nz | 3 => v = .string (s.extract 156 157) | 4 => v = .int .i64 nz | 5 => v = .int .i64 0 | _ => True) (U := fun o w' => o.dst = none → w'.heap[w.heap.size]? = some (.cells #[.int .i64 0, .string pth, .string t8, .int .i64 nm, .int .i64 nu, .int .i64 ng, .int .i64 nt, .string t10, .string t11, .string ⟨#[]⟩] 23 (0, 0))) (w' := w2) (.int .i64 0) ?_ ?_ ?_ ?_ ?_
                        · (clear hV hI hC; go_simp <;> (first | rfl | simp))
                        · exact hC
                        · exact Or.inl rfl
                        · intro d hd; cases hd; exact rfl
                        · intro h; cases h
                    case hend =>
                      intro f w7 hC hall huall
                      simp only [List.forall_mem_cons] at hall
                      obtain ⟨h108, h109, h110, h111, h112, h113, _, h3, h4, h5, _⟩ := hall
                      simp only [List.forall_mem_cons] at huall
                      obtain ⟨_, _, _, _, _, _, hus, _, _, _, _⟩ := huall
                      replace h108 : f 108 = .agg #[.int .i64 0, .string pth, .string t8, .int .i64 nm, .int .i64 nu, .int .i64 ng, .int .i64 nt, .string t10, .string t11, .string ⟨#[]⟩] := h108 108 rfl
                      replace h109 : f 109 = .string s := h109 109 rfl
                      replace h110 : f 110 = .string (s.extract 156 157) := h110 110 rfl
                      replace h111 : f 111 = .slice (some ⟨gb, 0, none⟩) 5 cp := h111 111 rfl
                      replace h112 : f 112 = .pointer (some ⟨gb, 3, none⟩) := h112 112 rfl
                      replace h113 : f 113 = .int .i64 nz := h113 113 rfl
                      replace h3 : f 3 = .string (s.extract 156 157) := h3 3 rfl
                      replace h4 : f 4 = .int .i64 nz := h4 4 rfl
                      replace h5 : f 5 = .int .i64 0 := h5 5 rfl
                      simp only [putAll, Act.put, List.setIfInBounds_toArray, List.set_cons_succ, List.set_cons_zero, h108, h109, h110, h111, h112, h113, h3, h4, h5]
                      clear h108 h109 h110 h111 h112 h113 h3 h4 h5
                      have R5 := Lib.hid (hus trivial)
                      have B5 := Lib.hid hC.1
                      clear hC hus
                      go_wp2
                      refine bodyPost_ret (results_cell4 rfl _ _ w.heap.size _ #[.int .i64 0, .string pth, .string t8, .int .i64 nm, .int .i64 nu, .int .i64 ng, .int .i64 nt, .string t10, .string t11, .string ⟨#[]⟩] (0, 0) _ rfl R5.out Tryz.underlying23 rfl (by rw [Tryz.sizeEnt]; rfl)) rfl ?_
                      rw [HE.out]
                      exact ⟨rfl, B5.out⟩
              · have HE := Lib.hid (readS_bad (HS3.out (by rw [headOk]; simp [hz])) (by omega))
                have HSt := Lib.hid (run_storeVar_row (P := Tryz.prog) wr w.heap.size 23 23 zEnt zEnt RO3.out (by rw [Tryz.sizeEnt]; rfl) rfl (by simp [zEnt, Value.oneCell']))
                go_wp2_with ((with_reducible refine wpList_store_eq rfl 23 _ _ rfl ⟨w.heap.size, 0, none⟩ ?_ ?_ HSt.out ?_); rfl; rfl)
                refine bodyPost_ret (results_cell4 rfl _ _ w.heap.size _ zEnt (0, 0) _ rfl (setRow_heap _ _ _ _ _ _ RO3.out) Tryz.underlying23 rfl (by rw [Tryz.sizeEnt]; rfl)) rfl ?_
                rw [HE.out]
                exact ⟨rfl, B3.out.trans (below_set (Nat.le_refl _) _)⟩
            · rcases (show i = 0 ∨ i = 1 ∨ i = 2 ∨ i = 3 ∨ i = 4 by omega) with rfl | rfl | rfl | rfl | rfl
              · have HN := Lib.hid (fun w => num_spec (s.extract 100 108) w (by rw [ByteArray.size_extract]; omega) (by rw [ByteArray.size_extract]; omega))
                have HV : Hid (s.extract 100 108 = fW (lOf s) 1) := Lib.hid (fW_ext s 1 8 (by omega) rfl).symm
                have hfv : fnumv (s.extract 100 108) = fnumv (fW (lOf s) 1) := by rw [HV.out]
                have hfo : fnumOk (s.extract 100 108) = fnumOk (fW (lOf s) 1) := by rw [HV.out]
                rw [hfv, hfo] at HN
                have HSU := Lib.hid (nl_succ (lOf s) 0)
                generalize fnumv (fW (lOf s) 1) = nv at HN HSU
                clear hfv hfo HV
                have cb : (108 : Int) ≤ (s.size : Int) := by omega
                have hA0 : wr.cell? ⟨w1.heap.size + 1, 0, none⟩ = some (.int .i64 100) ∧ wr.cell? ⟨w1.heap.size + 1, 1, none⟩ = some (.int .i64 108) := ⟨by rw [cell_of_row _ _ _ _ _ _ AO.out]; rfl, by rw [cell_of_row _ _ _ _ _ _ AO.out]; rfl⟩
                have zA := obj_lt AO.out
                obtain ⟨ca, cb2⟩ := hA0
                rw [show ((0 : Nat) : Int) = 0 from rfl]
                go_wp2_with fail
                have hw : IntKind.i64.wrap ((0 : Int) + 1) = 1 := by decide
                have hw2 : IntKind.i64.wrap (1 : Int) = 1 := by decide
                go_region_held3 (fun w' => w'.cell? ⟨w1.heap.size + 1, 0, none⟩ = some (.int .i64 100) ∧ w'.cell? ⟨w1.heap.size + 1, 1, none⟩ = some (.int .i64 108)) (first | assumption | exact ca | exact cb2 | exact ⟨ca, cb2⟩) (first | (go_at_call 45; refine (HN.out _).mono ?_; rintro e w3 ⟨rfl, hb⟩; have d3 : w3.cell? ⟨w1.heap.size + 1, 0, none⟩ = some (.int .i64 100) ∧ w3.cell? ⟨w1.heap.size + 1, 1, none⟩ = some (.int .i64 108) := ⟨(hb.cell (p := ⟨w1.heap.size + 1, 0, none⟩) zA).trans ca, (hb.cell (p := ⟨w1.heap.size + 1, 1, none⟩) zA).trans cb2⟩; have BB := Lib.hid hb; clear hb))
                have AO3 := Lib.hid ((BB.out.block _ zA).trans AO.out)
                have D3 := Lib.hid (bl_sp BB.out D.out.os D.out.tape D.out.output D.out.size D.out.block)
                have O3 := Lib.hid (World.ownsRow.kept O.out (row := none) (show wr.grownBy w3 none from ⟨BB.out.os, BB.out.tape, BB.out.output, BB.out.size, fun k hk _ => BB.out.block k hk⟩) (by simp [Value.ownBlock]))
                have zA3 := obj_lt AO3.out
                clear BB d3 ca cb2 O AO D zA
                cases hob : fnumOk (fW (lOf s) 1) with
                | false =>
                  have HE := Lib.hid (readS_bad (HS3.out (ok5_bad (l := lOf s) (i := 0) (by omega) hob)) (by omega))
                  have RO3 := Lib.hid ((D3.out.block _ zR).trans RO1.out)
                  have HSt := Lib.hid (run_storeVar_row (P := Tryz.prog) w3 w.heap.size 23 23 zEnt zEnt RO3.out (by rw [Tryz.sizeEnt]; rfl) rfl (by simp [zEnt, Value.oneCell']))
                  have B3 := Lib.hid (BW1.out.trans (D3.out.mono BW1.out.size))
                  clear hob O3 AO3
                  go_wp2_with ((with_reducible refine wpList_store_eq rfl 23 _ _ rfl ⟨w.heap.size, 0, none⟩ ?_ ?_ HSt.out ?_); rfl; rfl)
                  refine bodyPost_ret (results_cell4 rfl _ _ w.heap.size _ zEnt (0, 0) _ rfl (setRow_heap _ _ _ _ _ _ RO3.out) Tryz.underlying23 rfl (by rw [Tryz.sizeEnt]; rfl)) rfl ?_
                  rw [HE.out]
                  exact ⟨rfl, B3.out.trans (below_set (Nat.le_refl _) _)⟩
                | true =>
                  have HK : Hid (ok5 (lOf s) 1 = true) := Lib.hid (by rw [ok5, OK.out, hob]; rfl)
                  have sD := D3.out.size
                  clear hob
                  go_wp2_with (at_builtin; refine wpList_append_own_at _ rfl _ _ 68 rfl w1.heap.size 3 i0 (.int .i64 0) 1 8 Tryz.underlying68 hi0 hz0 hz1 hz2 rfl (by decide) _ _ _ rfl (World.ownsRow.alloc O3.out _) ⟨w3.heap.size, 0, none⟩ 1 1 [.int .i64 nv] rfl rfl ?c1 ?c2 ?c3 ?c4 ?c5 ?_)
                  case c1 => exact cell_one_new _ _ _
                  case c2 => intro u hu; simp at hu; subst hu; rfl
                  case c3 => simp only [maxLen]; omega
                  case c4 => omega
                  case c5 => simp; omega
                  · intro v4 w4 hown4 hgrow4 _ hob4
                    have O4 : Hid (w4.ownsRow w1.heap.size 3 1 v4 1 (nl (lOf s) 1)) := Lib.hid (by rw [HSU.out]; exact hown4)
                    have V4 : Hid (∃ gb cp, v4 = .slice (some ⟨gb, 0, none⟩) 1 cp ∧ gb ≠ w1.heap.size + 1) := Lib.hid (by
                      rcases hown4.2 with ⟨_, hn⟩ | ⟨g', cap', cur, rfl, _⟩
                      · omega
                      · refine ⟨g', cap', rfl, ?_⟩
                        rcases hob4 with h | h
                        · simp only [Value.ownBlock, Option.some.injEq] at h; omega
                        · simp only [Value.ownBlock, Option.some.injEq] at h; omega)
                    have A4 : Hid (w4.heap[w1.heap.size + 1]? = some (.cells #[.int .i64 100, .int .i64 108, .int .i64 116, .int .i64 124, .int .i64 136, .int .i64 148] 3 (0, 0))) := Lib.hid (by
                      rw [hgrow4.block _ (by simp; omega) (by simp [Value.ownBlock]; omega), ((Below.refl w3.heap.size w3).alloc (Nat.le_refl _) _).block _ zA3]
                      exact AO3.out)
                    have D4 : Hid (Below w1.heap.size w1 w4) := Lib.hid ((D3.out.alloc sD _).grown hgrow4 (by simp; omega) (fun b hb => (World.ownsRow.lt O3.out b hb).1))
                    clear hown4 hgrow4 hob4 O3 AO3 D3
                    go_wp2_with fail
                    go_roundw
                    case rel => exact ⟨1, by go_num, by omega, HK.out, O4.out, V4.out, A4.out, D4.out⟩
                    case measure => simp [intOf]
              · have HN := Lib.hid (fun w => num_spec (s.extract 108 116) w (by rw [ByteArray.size_extract]; omega) (by rw [ByteArray.size_extract]; omega))
                have HV : Hid (s.extract 108 116 = fW (lOf s) 2) := Lib.hid (fW_ext s 2 8 (by omega) rfl).symm
                have hfv : fnumv (s.extract 108 116) = fnumv (fW (lOf s) 2) := by rw [HV.out]
                have hfo : fnumOk (s.extract 108 116) = fnumOk (fW (lOf s) 2) := by rw [HV.out]
                rw [hfv, hfo] at HN
                have HSU := Lib.hid (nl_succ (lOf s) 1)
                generalize fnumv (fW (lOf s) 2) = nv at HN HSU
                clear hfv hfo HV
                have cb : (116 : Int) ≤ (s.size : Int) := by omega
                have hA0 : wr.cell? ⟨w1.heap.size + 1, 1, none⟩ = some (.int .i64 108) ∧ wr.cell? ⟨w1.heap.size + 1, 2, none⟩ = some (.int .i64 116) := ⟨by rw [cell_of_row _ _ _ _ _ _ AO.out]; rfl, by rw [cell_of_row _ _ _ _ _ _ AO.out]; rfl⟩
                have zA := obj_lt AO.out
                obtain ⟨ca, cb2⟩ := hA0
                rw [show ((1 : Nat) : Int) = 1 from rfl]
                go_wp2_with fail
                have hw : IntKind.i64.wrap ((1 : Int) + 1) = 2 := by decide
                have hw2 : IntKind.i64.wrap (2 : Int) = 2 := by decide
                go_region_held3 (fun w' => w'.cell? ⟨w1.heap.size + 1, 1, none⟩ = some (.int .i64 108) ∧ w'.cell? ⟨w1.heap.size + 1, 2, none⟩ = some (.int .i64 116)) (first | assumption | exact ca | exact cb2 | exact ⟨ca, cb2⟩) (first | (go_at_call 45; refine (HN.out _).mono ?_; rintro e w3 ⟨rfl, hb⟩; have d3 : w3.cell? ⟨w1.heap.size + 1, 1, none⟩ = some (.int .i64 108) ∧ w3.cell? ⟨w1.heap.size + 1, 2, none⟩ = some (.int .i64 116) := ⟨(hb.cell (p := ⟨w1.heap.size + 1, 1, none⟩) zA).trans ca, (hb.cell (p := ⟨w1.heap.size + 1, 2, none⟩) zA).trans cb2⟩; have BB := Lib.hid hb; clear hb))
                have AO3 := Lib.hid ((BB.out.block _ zA).trans AO.out)
                have D3 := Lib.hid (bl_sp BB.out D.out.os D.out.tape D.out.output D.out.size D.out.block)
                have O3 := Lib.hid (World.ownsRow.kept O.out (row := none) (show wr.grownBy w3 none from ⟨BB.out.os, BB.out.tape, BB.out.output, BB.out.size, fun k hk _ => BB.out.block k hk⟩) (by simp [Value.ownBlock]))
                have zA3 := obj_lt AO3.out
                clear BB d3 ca cb2 O AO D zA
                cases hob : fnumOk (fW (lOf s) 2) with
                | false =>
                  have HE := Lib.hid (readS_bad (HS3.out (ok5_bad (l := lOf s) (i := 1) (by omega) hob)) (by omega))
                  have RO3 := Lib.hid ((D3.out.block _ zR).trans RO1.out)
                  have HSt := Lib.hid (run_storeVar_row (P := Tryz.prog) w3 w.heap.size 23 23 zEnt zEnt RO3.out (by rw [Tryz.sizeEnt]; rfl) rfl (by simp [zEnt, Value.oneCell']))
                  have B3 := Lib.hid (BW1.out.trans (D3.out.mono BW1.out.size))
                  clear hob O3 AO3
                  go_wp2_with ((with_reducible refine wpList_store_eq rfl 23 _ _ rfl ⟨w.heap.size, 0, none⟩ ?_ ?_ HSt.out ?_); rfl; rfl)
                  refine bodyPost_ret (results_cell4 rfl _ _ w.heap.size _ zEnt (0, 0) _ rfl (setRow_heap _ _ _ _ _ _ RO3.out) Tryz.underlying23 rfl (by rw [Tryz.sizeEnt]; rfl)) rfl ?_
                  rw [HE.out]
                  exact ⟨rfl, B3.out.trans (below_set (Nat.le_refl _) _)⟩
                | true =>
                  have HK : Hid (ok5 (lOf s) 2 = true) := Lib.hid (by rw [ok5, OK.out, hob]; rfl)
                  have sD := D3.out.size
                  clear hob
                  go_wp2_with (at_builtin; refine wpList_append_own_at _ rfl _ _ 68 rfl w1.heap.size 3 i0 (.int .i64 0) 1 8 Tryz.underlying68 hi0 hz0 hz1 hz2 rfl (by decide) _ _ _ rfl (World.ownsRow.alloc O3.out _) ⟨w3.heap.size, 0, none⟩ 1 1 [.int .i64 nv] rfl rfl ?c1 ?c2 ?c3 ?c4 ?c5 ?_)
                  case c1 => exact cell_one_new _ _ _
                  case c2 => intro u hu; simp at hu; subst hu; rfl
                  case c3 => simp only [maxLen]; omega
                  case c4 => omega
                  case c5 => simp; omega
                  · intro v4 w4 hown4 hgrow4 _ hob4
                    have O4 : Hid (w4.ownsRow w1.heap.size 3 1 v4 2 (nl (lOf s) 2)) := Lib.hid (by rw [HSU.out]; exact hown4)
                    have V4 : Hid (∃ gb cp, v4 = .slice (some ⟨gb, 0, none⟩) 2 cp ∧ gb ≠ w1.heap.size + 1) := Lib.hid (by
                      rcases hown4.2 with ⟨_, hn⟩ | ⟨g', cap', cur, rfl, _⟩
                      · omega
                      · refine ⟨g', cap', rfl, ?_⟩
                        rcases hob4 with h | h
                        · simp only [Value.ownBlock, Option.some.injEq] at h; omega
                        · simp only [Value.ownBlock, Option.some.injEq] at h; omega)
                    have A4 : Hid (w4.heap[w1.heap.size + 1]? = some (.cells #[.int .i64 100, .int .i64 108, .int .i64 116, .int .i64 124, .int .i64 136, .int .i64 148] 3 (0, 0))) := Lib.hid (by
                      rw [hgrow4.block _ (by simp; omega) (by simp [Value.ownBlock]; omega), ((Below.refl w3.heap.size w3).alloc (Nat.le_refl _) _).block _ zA3]
                      exact AO3.out)
                    have D4 : Hid (Below w1.heap.size w1 w4) := Lib.hid ((D3.out.alloc sD _).grown hgrow4 (by simp; omega) (fun b hb => (World.ownsRow.lt O3.out b hb).1))
                    clear hown4 hgrow4 hob4 O3 AO3 D3
                    go_wp2_with fail
                    go_roundw
                    case rel => exact ⟨2, by go_num, by omega, HK.out, O4.out, V4.out, A4.out, D4.out⟩
                    case measure => simp [intOf]
              · have HN := Lib.hid (fun w => num_spec (s.extract 116 124) w (by rw [ByteArray.size_extract]; omega) (by rw [ByteArray.size_extract]; omega))
                have HV : Hid (s.extract 116 124 = fW (lOf s) 3) := Lib.hid (fW_ext s 3 8 (by omega) rfl).symm
                have hfv : fnumv (s.extract 116 124) = fnumv (fW (lOf s) 3) := by rw [HV.out]
                have hfo : fnumOk (s.extract 116 124) = fnumOk (fW (lOf s) 3) := by rw [HV.out]
                rw [hfv, hfo] at HN
                have HSU := Lib.hid (nl_succ (lOf s) 2)
                generalize fnumv (fW (lOf s) 3) = nv at HN HSU
                clear hfv hfo HV
                have cb : (124 : Int) ≤ (s.size : Int) := by omega
                have hA0 : wr.cell? ⟨w1.heap.size + 1, 2, none⟩ = some (.int .i64 116) ∧ wr.cell? ⟨w1.heap.size + 1, 3, none⟩ = some (.int .i64 124) := ⟨by rw [cell_of_row _ _ _ _ _ _ AO.out]; rfl, by rw [cell_of_row _ _ _ _ _ _ AO.out]; rfl⟩
                have zA := obj_lt AO.out
                obtain ⟨ca, cb2⟩ := hA0
                rw [show ((2 : Nat) : Int) = 2 from rfl]
                go_wp2_with fail
                have hw : IntKind.i64.wrap ((2 : Int) + 1) = 3 := by decide
                have hw2 : IntKind.i64.wrap (3 : Int) = 3 := by decide
                go_region_held3 (fun w' => w'.cell? ⟨w1.heap.size + 1, 2, none⟩ = some (.int .i64 116) ∧ w'.cell? ⟨w1.heap.size + 1, 3, none⟩ = some (.int .i64 124)) (first | assumption | exact ca | exact cb2 | exact ⟨ca, cb2⟩) (first | (go_at_call 45; refine (HN.out _).mono ?_; rintro e w3 ⟨rfl, hb⟩; have d3 : w3.cell? ⟨w1.heap.size + 1, 2, none⟩ = some (.int .i64 116) ∧ w3.cell? ⟨w1.heap.size + 1, 3, none⟩ = some (.int .i64 124) := ⟨(hb.cell (p := ⟨w1.heap.size + 1, 2, none⟩) zA).trans ca, (hb.cell (p := ⟨w1.heap.size + 1, 3, none⟩) zA).trans cb2⟩; have BB := Lib.hid hb; clear hb))
                have AO3 := Lib.hid ((BB.out.block _ zA).trans AO.out)
                have D3 := Lib.hid (bl_sp BB.out D.out.os D.out.tape D.out.output D.out.size D.out.block)
                have O3 := Lib.hid (World.ownsRow.kept O.out (row := none) (show wr.grownBy w3 none from ⟨BB.out.os, BB.out.tape, BB.out.output, BB.out.size, fun k hk _ => BB.out.block k hk⟩) (by simp [Value.ownBlock]))
                have zA3 := obj_lt AO3.out
                clear BB d3 ca cb2 O AO D zA
                cases hob : fnumOk (fW (lOf s) 3) with
                | false =>
                  have HE := Lib.hid (readS_bad (HS3.out (ok5_bad (l := lOf s) (i := 2) (by omega) hob)) (by omega))
                  have RO3 := Lib.hid ((D3.out.block _ zR).trans RO1.out)
                  have HSt := Lib.hid (run_storeVar_row (P := Tryz.prog) w3 w.heap.size 23 23 zEnt zEnt RO3.out (by rw [Tryz.sizeEnt]; rfl) rfl (by simp [zEnt, Value.oneCell']))
                  have B3 := Lib.hid (BW1.out.trans (D3.out.mono BW1.out.size))
                  clear hob O3 AO3
                  go_wp2_with ((with_reducible refine wpList_store_eq rfl 23 _ _ rfl ⟨w.heap.size, 0, none⟩ ?_ ?_ HSt.out ?_); rfl; rfl)
                  refine bodyPost_ret (results_cell4 rfl _ _ w.heap.size _ zEnt (0, 0) _ rfl (setRow_heap _ _ _ _ _ _ RO3.out) Tryz.underlying23 rfl (by rw [Tryz.sizeEnt]; rfl)) rfl ?_
                  rw [HE.out]
                  exact ⟨rfl, B3.out.trans (below_set (Nat.le_refl _) _)⟩
                | true =>
                  have HK : Hid (ok5 (lOf s) 3 = true) := Lib.hid (by rw [ok5, OK.out, hob]; rfl)
                  have sD := D3.out.size
                  clear hob
                  go_wp2_with (at_builtin; refine wpList_append_own_at _ rfl _ _ 68 rfl w1.heap.size 3 i0 (.int .i64 0) 1 8 Tryz.underlying68 hi0 hz0 hz1 hz2 rfl (by decide) _ _ _ rfl (World.ownsRow.alloc O3.out _) ⟨w3.heap.size, 0, none⟩ 1 1 [.int .i64 nv] rfl rfl ?c1 ?c2 ?c3 ?c4 ?c5 ?_)
                  case c1 => exact cell_one_new _ _ _
                  case c2 => intro u hu; simp at hu; subst hu; rfl
                  case c3 => simp only [maxLen]; omega
                  case c4 => omega
                  case c5 => simp; omega
                  · intro v4 w4 hown4 hgrow4 _ hob4
                    have O4 : Hid (w4.ownsRow w1.heap.size 3 1 v4 3 (nl (lOf s) 3)) := Lib.hid (by rw [HSU.out]; exact hown4)
                    have V4 : Hid (∃ gb cp, v4 = .slice (some ⟨gb, 0, none⟩) 3 cp ∧ gb ≠ w1.heap.size + 1) := Lib.hid (by
                      rcases hown4.2 with ⟨_, hn⟩ | ⟨g', cap', cur, rfl, _⟩
                      · omega
                      · refine ⟨g', cap', rfl, ?_⟩
                        rcases hob4 with h | h
                        · simp only [Value.ownBlock, Option.some.injEq] at h; omega
                        · simp only [Value.ownBlock, Option.some.injEq] at h; omega)
                    have A4 : Hid (w4.heap[w1.heap.size + 1]? = some (.cells #[.int .i64 100, .int .i64 108, .int .i64 116, .int .i64 124, .int .i64 136, .int .i64 148] 3 (0, 0))) := Lib.hid (by
                      rw [hgrow4.block _ (by simp; omega) (by simp [Value.ownBlock]; omega), ((Below.refl w3.heap.size w3).alloc (Nat.le_refl _) _).block _ zA3]
                      exact AO3.out)
                    have D4 : Hid (Below w1.heap.size w1 w4) := Lib.hid ((D3.out.alloc sD _).grown hgrow4 (by simp; omega) (fun b hb => (World.ownsRow.lt O3.out b hb).1))
                    clear hown4 hgrow4 hob4 O3 AO3 D3
                    go_wp2_with fail
                    go_roundw
                    case rel => exact ⟨3, by go_num, by omega, HK.out, O4.out, V4.out, A4.out, D4.out⟩
                    case measure => simp [intOf]
              · have HN := Lib.hid (fun w => num_spec (s.extract 124 136) w (by rw [ByteArray.size_extract]; omega) (by rw [ByteArray.size_extract]; omega))
                have HV : Hid (s.extract 124 136 = fW (lOf s) 4) := Lib.hid (fW_ext s 4 12 (by omega) rfl).symm
                have hfv : fnumv (s.extract 124 136) = fnumv (fW (lOf s) 4) := by rw [HV.out]
                have hfo : fnumOk (s.extract 124 136) = fnumOk (fW (lOf s) 4) := by rw [HV.out]
                rw [hfv, hfo] at HN
                have HSU := Lib.hid (nl_succ (lOf s) 3)
                generalize fnumv (fW (lOf s) 4) = nv at HN HSU
                clear hfv hfo HV
                have cb : (136 : Int) ≤ (s.size : Int) := by omega
                have hA0 : wr.cell? ⟨w1.heap.size + 1, 3, none⟩ = some (.int .i64 124) ∧ wr.cell? ⟨w1.heap.size + 1, 4, none⟩ = some (.int .i64 136) := ⟨by rw [cell_of_row _ _ _ _ _ _ AO.out]; rfl, by rw [cell_of_row _ _ _ _ _ _ AO.out]; rfl⟩
                have zA := obj_lt AO.out
                obtain ⟨ca, cb2⟩ := hA0
                rw [show ((3 : Nat) : Int) = 3 from rfl]
                go_wp2_with fail
                have hw : IntKind.i64.wrap ((3 : Int) + 1) = 4 := by decide
                have hw2 : IntKind.i64.wrap (4 : Int) = 4 := by decide
                go_region_held3 (fun w' => w'.cell? ⟨w1.heap.size + 1, 3, none⟩ = some (.int .i64 124) ∧ w'.cell? ⟨w1.heap.size + 1, 4, none⟩ = some (.int .i64 136)) (first | assumption | exact ca | exact cb2 | exact ⟨ca, cb2⟩) (first | (go_at_call 45; refine (HN.out _).mono ?_; rintro e w3 ⟨rfl, hb⟩; have d3 : w3.cell? ⟨w1.heap.size + 1, 3, none⟩ = some (.int .i64 124) ∧ w3.cell? ⟨w1.heap.size + 1, 4, none⟩ = some (.int .i64 136) := ⟨(hb.cell (p := ⟨w1.heap.size + 1, 3, none⟩) zA).trans ca, (hb.cell (p := ⟨w1.heap.size + 1, 4, none⟩) zA).trans cb2⟩; have BB := Lib.hid hb; clear hb))
                have AO3 := Lib.hid ((BB.out.block _ zA).trans AO.out)
                have D3 := Lib.hid (bl_sp BB.out D.out.os D.out.tape D.out.output D.out.size D.out.block)
                have O3 := Lib.hid (World.ownsRow.kept O.out (row := none) (show wr.grownBy w3 none from ⟨BB.out.os, BB.out.tape, BB.out.output, BB.out.size, fun k hk _ => BB.out.block k hk⟩) (by simp [Value.ownBlock]))
                have zA3 := obj_lt AO3.out
                clear BB d3 ca cb2 O AO D zA
                cases hob : fnumOk (fW (lOf s) 4) with
                | false =>
                  have HE := Lib.hid (readS_bad (HS3.out (ok5_bad (l := lOf s) (i := 3) (by omega) hob)) (by omega))
                  have RO3 := Lib.hid ((D3.out.block _ zR).trans RO1.out)
                  have HSt := Lib.hid (run_storeVar_row (P := Tryz.prog) w3 w.heap.size 23 23 zEnt zEnt RO3.out (by rw [Tryz.sizeEnt]; rfl) rfl (by simp [zEnt, Value.oneCell']))
                  have B3 := Lib.hid (BW1.out.trans (D3.out.mono BW1.out.size))
                  clear hob O3 AO3
                  go_wp2_with ((with_reducible refine wpList_store_eq rfl 23 _ _ rfl ⟨w.heap.size, 0, none⟩ ?_ ?_ HSt.out ?_); rfl; rfl)
                  refine bodyPost_ret (results_cell4 rfl _ _ w.heap.size _ zEnt (0, 0) _ rfl (setRow_heap _ _ _ _ _ _ RO3.out) Tryz.underlying23 rfl (by rw [Tryz.sizeEnt]; rfl)) rfl ?_
                  rw [HE.out]
                  exact ⟨rfl, B3.out.trans (below_set (Nat.le_refl _) _)⟩
                | true =>
                  have HK : Hid (ok5 (lOf s) 4 = true) := Lib.hid (by rw [ok5, OK.out, hob]; rfl)
                  have sD := D3.out.size
                  clear hob
                  go_wp2_with (at_builtin; refine wpList_append_own_at _ rfl _ _ 68 rfl w1.heap.size 3 i0 (.int .i64 0) 1 8 Tryz.underlying68 hi0 hz0 hz1 hz2 rfl (by decide) _ _ _ rfl (World.ownsRow.alloc O3.out _) ⟨w3.heap.size, 0, none⟩ 1 1 [.int .i64 nv] rfl rfl ?c1 ?c2 ?c3 ?c4 ?c5 ?_)
                  case c1 => exact cell_one_new _ _ _
                  case c2 => intro u hu; simp at hu; subst hu; rfl
                  case c3 => simp only [maxLen]; omega
                  case c4 => omega
                  case c5 => simp; omega
                  · intro v4 w4 hown4 hgrow4 _ hob4
                    have O4 : Hid (w4.ownsRow w1.heap.size 3 1 v4 4 (nl (lOf s) 4)) := Lib.hid (by rw [HSU.out]; exact hown4)
                    have V4 : Hid (∃ gb cp, v4 = .slice (some ⟨gb, 0, none⟩) 4 cp ∧ gb ≠ w1.heap.size + 1) := Lib.hid (by
                      rcases hown4.2 with ⟨_, hn⟩ | ⟨g', cap', cur, rfl, _⟩
                      · omega
                      · refine ⟨g', cap', rfl, ?_⟩
                        rcases hob4 with h | h
                        · simp only [Value.ownBlock, Option.some.injEq] at h; omega
                        · simp only [Value.ownBlock, Option.some.injEq] at h; omega)
                    have A4 : Hid (w4.heap[w1.heap.size + 1]? = some (.cells #[.int .i64 100, .int .i64 108, .int .i64 116, .int .i64 124, .int .i64 136, .int .i64 148] 3 (0, 0))) := Lib.hid (by
                      rw [hgrow4.block _ (by simp; omega) (by simp [Value.ownBlock]; omega), ((Below.refl w3.heap.size w3).alloc (Nat.le_refl _) _).block _ zA3]
                      exact AO3.out)
                    have D4 : Hid (Below w1.heap.size w1 w4) := Lib.hid ((D3.out.alloc sD _).grown hgrow4 (by simp; omega) (fun b hb => (World.ownsRow.lt O3.out b hb).1))
                    clear hown4 hgrow4 hob4 O3 AO3 D3
                    go_wp2_with fail
                    go_roundw
                    case rel => exact ⟨4, by go_num, by omega, HK.out, O4.out, V4.out, A4.out, D4.out⟩
                    case measure => simp [intOf]
              · have HN := Lib.hid (fun w => num_spec (s.extract 136 148) w (by rw [ByteArray.size_extract]; omega) (by rw [ByteArray.size_extract]; omega))
                have HV : Hid (s.extract 136 148 = fW (lOf s) 5) := Lib.hid (fW_ext s 5 12 (by omega) rfl).symm
                have hfv : fnumv (s.extract 136 148) = fnumv (fW (lOf s) 5) := by rw [HV.out]
                have hfo : fnumOk (s.extract 136 148) = fnumOk (fW (lOf s) 5) := by rw [HV.out]
                rw [hfv, hfo] at HN
                have HSU := Lib.hid (nl_succ (lOf s) 4)
                generalize fnumv (fW (lOf s) 5) = nv at HN HSU
                clear hfv hfo HV
                have cb : (148 : Int) ≤ (s.size : Int) := by omega
                have hA0 : wr.cell? ⟨w1.heap.size + 1, 4, none⟩ = some (.int .i64 136) ∧ wr.cell? ⟨w1.heap.size + 1, 5, none⟩ = some (.int .i64 148) := ⟨by rw [cell_of_row _ _ _ _ _ _ AO.out]; rfl, by rw [cell_of_row _ _ _ _ _ _ AO.out]; rfl⟩
                have zA := obj_lt AO.out
                obtain ⟨ca, cb2⟩ := hA0
                rw [show ((4 : Nat) : Int) = 4 from rfl]
                go_wp2_with fail
                have hw : IntKind.i64.wrap ((4 : Int) + 1) = 5 := by decide
                have hw2 : IntKind.i64.wrap (5 : Int) = 5 := by decide
                go_region_held3 (fun w' => w'.cell? ⟨w1.heap.size + 1, 4, none⟩ = some (.int .i64 136) ∧ w'.cell? ⟨w1.heap.size + 1, 5, none⟩ = some (.int .i64 148)) (first | assumption | exact ca | exact cb2 | exact ⟨ca, cb2⟩) (first | (go_at_call 45; refine (HN.out _).mono ?_; rintro e w3 ⟨rfl, hb⟩; have d3 : w3.cell? ⟨w1.heap.size + 1, 4, none⟩ = some (.int .i64 136) ∧ w3.cell? ⟨w1.heap.size + 1, 5, none⟩ = some (.int .i64 148) := ⟨(hb.cell (p := ⟨w1.heap.size + 1, 4, none⟩) zA).trans ca, (hb.cell (p := ⟨w1.heap.size + 1, 5, none⟩) zA).trans cb2⟩; have BB := Lib.hid hb; clear hb))
                have AO3 := Lib.hid ((BB.out.block _ zA).trans AO.out)
                have D3 := Lib.hid (bl_sp BB.out D.out.os D.out.tape D.out.output D.out.size D.out.block)
                have O3 := Lib.hid (World.ownsRow.kept O.out (row := none) (show wr.grownBy w3 none from ⟨BB.out.os, BB.out.tape, BB.out.output, BB.out.size, fun k hk _ => BB.out.block k hk⟩) (by simp [Value.ownBlock]))
                have zA3 := obj_lt AO3.out
                clear BB d3 ca cb2 O AO D zA
                cases hob : fnumOk (fW (lOf s) 5) with
                | false =>
                  have HE := Lib.hid (readS_bad (HS3.out (ok5_bad (l := lOf s) (i := 4) (by omega) hob)) (by omega))
                  have RO3 := Lib.hid ((D3.out.block _ zR).trans RO1.out)
                  have HSt := Lib.hid (run_storeVar_row (P := Tryz.prog) w3 w.heap.size 23 23 zEnt zEnt RO3.out (by rw [Tryz.sizeEnt]; rfl) rfl (by simp [zEnt, Value.oneCell']))
                  have B3 := Lib.hid (BW1.out.trans (D3.out.mono BW1.out.size))
                  clear hob O3 AO3
                  go_wp2_with ((with_reducible refine wpList_store_eq rfl 23 _ _ rfl ⟨w.heap.size, 0, none⟩ ?_ ?_ HSt.out ?_); rfl; rfl)
                  refine bodyPost_ret (results_cell4 rfl _ _ w.heap.size _ zEnt (0, 0) _ rfl (setRow_heap _ _ _ _ _ _ RO3.out) Tryz.underlying23 rfl (by rw [Tryz.sizeEnt]; rfl)) rfl ?_
                  rw [HE.out]
                  exact ⟨rfl, B3.out.trans (below_set (Nat.le_refl _) _)⟩
                | true =>
                  have HK : Hid (ok5 (lOf s) 5 = true) := Lib.hid (by rw [ok5, OK.out, hob]; rfl)
                  have sD := D3.out.size
                  clear hob
                  go_wp2_with (at_builtin; refine wpList_append_own_at _ rfl _ _ 68 rfl w1.heap.size 3 i0 (.int .i64 0) 1 8 Tryz.underlying68 hi0 hz0 hz1 hz2 rfl (by decide) _ _ _ rfl (World.ownsRow.alloc O3.out _) ⟨w3.heap.size, 0, none⟩ 1 1 [.int .i64 nv] rfl rfl ?c1 ?c2 ?c3 ?c4 ?c5 ?_)
                  case c1 => exact cell_one_new _ _ _
                  case c2 => intro u hu; simp at hu; subst hu; rfl
                  case c3 => simp only [maxLen]; omega
                  case c4 => omega
                  case c5 => simp; omega
                  · intro v4 w4 hown4 hgrow4 _ hob4
                    have O4 : Hid (w4.ownsRow w1.heap.size 3 1 v4 5 (nl (lOf s) 5)) := Lib.hid (by rw [HSU.out]; exact hown4)
                    have V4 : Hid (∃ gb cp, v4 = .slice (some ⟨gb, 0, none⟩) 5 cp ∧ gb ≠ w1.heap.size + 1) := Lib.hid (by
                      rcases hown4.2 with ⟨_, hn⟩ | ⟨g', cap', cur, rfl, _⟩
                      · omega
                      · refine ⟨g', cap', rfl, ?_⟩
                        rcases hob4 with h | h
                        · simp only [Value.ownBlock, Option.some.injEq] at h; omega
                        · simp only [Value.ownBlock, Option.some.injEq] at h; omega)
                    have A4 : Hid (w4.heap[w1.heap.size + 1]? = some (.cells #[.int .i64 100, .int .i64 108, .int .i64 116, .int .i64 124, .int .i64 136, .int .i64 148] 3 (0, 0))) := Lib.hid (by
                      rw [hgrow4.block _ (by simp; omega) (by simp [Value.ownBlock]; omega), ((Below.refl w3.heap.size w3).alloc (Nat.le_refl _) _).block _ zA3]
                      exact AO3.out)
                    have D4 : Hid (Below w1.heap.size w1 w4) := Lib.hid ((D3.out.alloc sD _).grown hgrow4 (by simp; omega) (fun b hb => (World.ownsRow.lt O3.out b hb).1))
                    clear hown4 hgrow4 hob4 O3 AO3 D3
                    go_wp2_with fail
                    go_roundw
                    case rel => exact ⟨5, by go_num, by omega, HK.out, O4.out, V4.out, A4.out, D4.out⟩
                    case measure => simp [intOf]
        · have HE := Lib.hid (readS_bad (s := s) (c := 2) (HR2.out (by cases h : sumOkv s with | false => rfl | true => exact absurd (HQ.out.1 h).2.2 h3)) (by omega))
          have q3 : (n6 != headSumv s) = true := by simp [h3]
          clear HQ HR2 HR3 HR0 h2 h3
          generalize headSumv s = hsv at *
          go_enter Tryz.func21, Tryz.ntmps21
          go_wp2_with fail
          refine (H1.out _).mono ?_
          rintro e w1 ⟨rfl, rfl⟩
          go_wp2_with fail
          refine (H2.out _).mono ?_
          rintro e w1 ⟨rfl, hb⟩
          obtain ⟨R1, B1⟩ := BAD.out w1 hb
          have HSt := Lib.hid (run_storeVar_row (P := Tryz.prog) w1 w.heap.size 23 23 zEnt zEnt R1 (by rw [Tryz.sizeEnt]; rfl) rfl (by simp [zEnt, Value.oneCell']))
          clear hb
          go_wp2_with ((with_reducible refine wpList_store_eq rfl 23 _ _ rfl ⟨w.heap.size, 0, none⟩ ?_ ?_ HSt.out ?_); rfl; rfl)
          refine bodyPost_ret (results_cell4 rfl _ _ w.heap.size _ zEnt (0, 0) _ rfl (setRow_heap _ _ _ _ _ _ R1) Tryz.underlying23 rfl (by rw [Tryz.sizeEnt]; rfl)) rfl ?_
          rw [HE.out]
          exact ⟨rfl, B1.trans (below_set (Nat.le_refl _) _)⟩
      · have HE := Lib.hid (readS_bad (s := s) (c := 2) (HR2.out (by cases h : sumOkv s with | false => rfl | true => exact absurd (HQ.out.1 h).2.1 h2)) (by omega))
        have q2 := lit_ne (s := s.extract 154 156) (l := [0, 32]) h2
        clear HQ HR2 HR3 HR0 h2
        go_enter Tryz.func21, Tryz.ntmps21
        go_wp2_with fail
        refine (H1.out _).mono ?_
        rintro e w1 ⟨rfl, rfl⟩
        go_wp2_with ((with_reducible refine wpList_store_eq rfl 23 _ _ rfl ⟨w.heap.size, 0, none⟩ ?_ ?_ HSt0.out ?_); rfl; rfl)
        refine bodyPost_ret (results_cell4 rfl _ _ w.heap.size _ zEnt (0, 0) _ rfl R0.out Tryz.underlying23 rfl (by rw [Tryz.sizeEnt]; rfl)) rfl ?_
        rw [HE.out]
        exact ⟨rfl, B0.out⟩
end Go.Proofs.YtkpdeeembnjmnabGreatDoor

/- Contracts of spec.l04Head and spec.PutHead. -/
namespace Go.Proofs.YtkpdeeembnjmnabGreatDoor
open Go.ChangeShapes Go.WideShapes Go.ChangeAt Go.RowKit Go.Deep

set_option maxHeartbeats 6400000 in
set_option maxRecDepth 8000 in
theorem l04Head_spec (k : Int) (p l : ByteArray) (m u g t : Int) (us gr b nm pf fl : ByteArray) (sz : Int) (mg : ByteArray) (w : World) (hl : l.size ≤ 100000) (hus : us.size ≤ 100000) (hgr : gr.size ≤ 100000) (hnm : nm.size ≤ 100000) (hpf : pf.size ≤ 100000) (hfl : fl.size ≤ 100000) (hmg : mg.size ≤ 100000) :
    Calls Tryz.prog 49 #[.agg #[.int .i64 k, .string p, .string l, .int .i64 m, .int .i64 u, .int .i64 g, .int .i64 t, .string us, .string gr, .string b], .string nm, .string pf, .string fl, .int .i64 sz, .string mg] w fun e w' => e = .returned (.string (headv ⟨k, p, l, m, u, g, t, us, gr, b⟩ nm pf fl sz mg)) ∧ Below w.heap.size w w' := by
  have HN := Lib.hid (fun w => fill_spec nm 100 w (by omega))
  have HLk := Lib.hid (fun w => fill_spec l 100 w (by omega))
  have HU := Lib.hid (fun w => fill_spec us 32 w (by omega))
  have HG := Lib.hid (fun w => fill_spec gr 32 w (by omega))
  have HP := Lib.hid (fun w => fill_spec pf 155 w (by omega))
  have HZ := Lib.hid (fun w => nuls_spec 12 w (by omega))
  have HOm := Lib.hid (fun w => l04Oct_spec m 8 w (by omega) (by omega))
  have HOu := Lib.hid (fun w => l04Oct_spec u 8 w (by omega) (by omega))
  have HOg := Lib.hid (fun w => l04Oct_spec g 8 w (by omega) (by omega))
  have HOs := Lib.hid (fun w => l04Oct_spec sz 12 w (by omega) (by omega))
  have HOt := Lib.hid (fun w => l04Oct_spec t 12 w (by omega) (by omega))
  have HO0 := Lib.hid (fun w => l04Oct_spec 0 8 w (by omega) (by omega))
  have zfn := fill_size nm 100 (by omega)
  have zfl := fill_size l 100 (by omega)
  have zfu := fill_size us 32 (by omega)
  have zfg := fill_size gr 32 (by omega)
  have zfp := fill_size pf 155 (by omega)
  have zz := nulv_size 12
  have zom := octz_size m 8
  have zou := octz_size u 8
  have zog := octz_size g 8
  have zos := octz_size sz 12
  have zot := octz_size t 12
  have zo0 := octz_size 0 8
  have HE : Hid (headv ⟨k, p, l, m, u, g, t, us, gr, b⟩ nm pf fl sz mg = headA ⟨k, p, l, m, u, g, t, us, gr, b⟩ nm sz ++ (putOctv (sumv (headA ⟨k, p, l, m, u, g, t, us, gr, b⟩ nm sz).data.toList + 256 + sumv (headB ⟨k, p, l, m, u, g, t, us, gr, b⟩ pf fl mg).data.toList) 6).1 ++ ⟨#[0, 32]⟩ ++ headB ⟨k, p, l, m, u, g, t, us, gr, b⟩ pf fl mg) := Lib.hid rfl
  have HEA : Hid (headA ⟨k, p, l, m, u, g, t, us, gr, b⟩ nm sz = fillv nm 100 ++ octz m 8 ++ octz u 8 ++ octz g 8 ++ octz sz 12 ++ octz t 12) := Lib.hid rfl
  have HEB : Hid (headB ⟨k, p, l, m, u, g, t, us, gr, b⟩ pf fl mg = fl ++ fillv l 100 ++ mg ++ fillv us 32 ++ fillv gr 32 ++ octz 0 8 ++ octz 0 8 ++ fillv pf 155 ++ nulv 12) := Lib.hid rfl
  generalize headv ⟨k, p, l, m, u, g, t, us, gr, b⟩ nm pf fl sz mg = r at HE
  generalize headA ⟨k, p, l, m, u, g, t, us, gr, b⟩ nm sz = hA at HE HEA
  generalize headB ⟨k, p, l, m, u, g, t, us, gr, b⟩ pf fl mg = hB at HE HEB
  rw [show ((12 : Int).toNat) = 12 from rfl] at HZ
  generalize fillv nm 100 = fn at *
  generalize fillv l 100 = fll at *
  generalize fillv us 32 = fu at *
  generalize fillv gr 32 = fg at *
  generalize fillv pf 155 = fp at *
  generalize nulv 12 = z12 at *
  generalize octz m 8 = om at *
  generalize octz u 8 = ou at *
  generalize octz g 8 = og at *
  generalize octz sz 12 = os at *
  generalize octz t 12 = ot at *
  generalize octz 0 8 = o0 at *
  simp only [show ((100 : Int).toNat) = 100 from rfl, show ((32 : Int).toNat) = 32 from rfl, show ((155 : Int).toNat) = 155 from rfl] at zfn zfl zfu zfg zfp
  go_enter Tryz.func49, Tryz.ntmps49
  go_wp2_with fail
  have E0 := EntAt.new w ⟨k, p, l, m, u, g, t, us, gr, b⟩ 23
  have B0 := (Below.refl w.heap.size w).alloc (Nat.le_refl _) (.cells (Ent.cells ⟨k, p, l, m, u, g, t, us, gr, b⟩).toArray 23)
  have z0 : w.heap.size < (w.alloc (.cells (Ent.cells ⟨k, p, l, m, u, g, t, us, gr, b⟩).toArray 23)).heap.size := by simp
  simp only [Ent.cells] at E0 B0 z0
  generalize w.alloc (.cells #[.int .i64 k, .string p, .string l, .int .i64 m, .int .i64 u, .int .i64 g, .int .i64 t, .string us, .string gr, .string b] 23) = w1 at *
  have E1 := Lib.hid E0
  have B1 := Lib.hid B0
  clear E0 B0
  have KC : Hid (∀ w', Below w1.heap.size w1 w' → w'.cell? ⟨w.heap.size, 1, none⟩ = some (.string p) ∧ w'.cell? ⟨w.heap.size, 2, none⟩ = some (.string l) ∧ w'.cell? ⟨w.heap.size, 3, none⟩ = some (.int .i64 m) ∧ w'.cell? ⟨w.heap.size, 4, none⟩ = some (.int .i64 u) ∧ w'.cell? ⟨w.heap.size, 5, none⟩ = some (.int .i64 g) ∧ w'.cell? ⟨w.heap.size, 6, none⟩ = some (.int .i64 t) ∧ w'.cell? ⟨w.heap.size, 7, none⟩ = some (.string us) ∧ w'.cell? ⟨w.heap.size, 8, none⟩ = some (.string gr)) := Lib.hid (fun w' hb => by obtain ⟨c0, c1, c2, c3, c4, c5, c6, c7, c8, c9⟩ := (E1.out.below hb z0).zero; exact ⟨c1, c2, c3, c4, c5, c6, c7, c8⟩)
  obtain ⟨x22, hx22⟩ : ∃ x : ByteArray, x = fn ++ om := ⟨_, rfl⟩
  obtain ⟨x26, hx26⟩ : ∃ x : ByteArray, x = x22 ++ ou := ⟨_, rfl⟩
  obtain ⟨x30, hx30⟩ : ∃ x : ByteArray, x = x26 ++ og := ⟨_, rfl⟩
  obtain ⟨x33, hx33⟩ : ∃ x : ByteArray, x = x30 ++ os := ⟨_, rfl⟩
  obtain ⟨x37, hx37⟩ : ∃ x : ByteArray, x = x33 ++ ot := ⟨_, rfl⟩
  have zx22 : x22.size ≤ 100121 := by rw [hx22, ByteArray.size_append]; omega
  have zx26 : x26.size ≤ 100142 := by rw [hx26, ByteArray.size_append]; omega
  have zx30 : x30.size ≤ 100163 := by rw [hx30, ByteArray.size_append]; omega
  have zx33 : x33.size ≤ 100184 := by rw [hx33, ByteArray.size_append]; omega
  have zx37 : x37.size ≤ 100205 := by rw [hx37, ByteArray.size_append]; omega
  have HA22 : Hid (∀ w, (Op.stringOp .add fn om).run Tryz.prog w = .ok (.string x22) w) := Lib.hid (fun w => by rw [hx22]; exact run_string_add_sum w _ _ (by omega))
  have HA26 : Hid (∀ w, (Op.stringOp .add x22 ou).run Tryz.prog w = .ok (.string x26) w) := Lib.hid (fun w => by rw [hx26]; exact run_string_add_sum w _ _ (by omega))
  have HA30 : Hid (∀ w, (Op.stringOp .add x26 og).run Tryz.prog w = .ok (.string x30) w) := Lib.hid (fun w => by rw [hx30]; exact run_string_add_sum w _ _ (by omega))
  have HA33 : Hid (∀ w, (Op.stringOp .add x30 os).run Tryz.prog w = .ok (.string x33) w) := Lib.hid (fun w => by rw [hx33]; exact run_string_add_sum w _ _ (by omega))
  have HA37 : Hid (∀ w, (Op.stringOp .add x33 ot).run Tryz.prog w = .ok (.string x37) w) := Lib.hid (fun w => by rw [hx37]; exact run_string_add_sum w _ _ (by omega))
  have HX22 := Lib.hid hx22
  have HX26 := Lib.hid hx26
  have HX30 := Lib.hid hx30
  have HX33 := Lib.hid hx33
  have HX37 := Lib.hid hx37
  clear hx22 hx26 hx30 hx33 hx37
  refine wp_region_inv (by kernel_rfl) (fun w' => Below w1.heap.size w1 w') (fun x y => Below x.heap.size x y) (fun d v _ => match d with | 17 => v = .string nm | 18 => v = .string fn | 19 => v = .pointer (some ⟨w.heap.size, 3, none⟩) | 20 => v = .int .i64 m | 21 => v = .string om | 22 => v = .string x22 | 23 => v = .pointer (some ⟨w.heap.size, 4, none⟩) | 24 => v = .int .i64 u | 25 => v = .string ou | 26 => v = .string x26 | 27 => v = .pointer (some ⟨w.heap.size, 5, none⟩) | 28 => v = .int .i64 g | 29 => v = .string og | 30 => v = .string x30 | 31 => v = .int .i64 sz | 32 => v = .string os | 33 => v = .string x33 | 34 => v = .pointer (some ⟨w.heap.size, 6, none⟩) | 35 => v = .int .i64 t | 36 => v = .string ot | 37 => v = .string x37 | 13 => v = .string x37 | _ => True) (by kernel_rfl) ((Below.refl _ _).drew) (fun _ _ _ _ _ _ h => h) ?hops ?hend
  case hops =>
    simp only [List.forall_mem_cons]
    refine ⟨?o17, ?o18, ?o19, ?o20, ?o21, ?o22, ?o23, ?o24, ?o25, ?o26, ?o27, ?o28, ?o29, ?o30, ?o31, ?o32, ?o33, ?o34, ?o35, ?o36, ?o37, ?o13, fun _ h => by cases h⟩
    case o17 =>
      intro Q a w2 hC hV hI
      have e1 : a.eval (.tmp 1) = .string nm := (hI 1 (by simp [Op.operands]) (by kernel_rfl)).trans rfl
      have f1 : a.tmps.getD 1 undef = .string nm := e1
      have g1 : a.tmps[1]?.getD undef = .string nm := by rw [← Array.getD_eq_getD_getElem?]; exact e1
      refine op_val (.string nm) ?_ hC (Below.refl _ _) (by intro d hd; cases hd; rfl)
      (clear hV hI hC; go_simp <;> (first | rfl | simp))
    case o18 =>
      intro Q a w2 hC hV hI
      have e17 : a.eval (.tmp 17) = .string nm := hV 17 (by simp [Op.operands, Call.operands]) (by kernel_rfl)
      have f17 : a.tmps.getD 17 undef = .string nm := e17
      have g17 : a.tmps[17]?.getD undef = .string nm := by rw [← Array.getD_eq_getD_getElem?]; exact e17
      refine op_call (f := 74) (args := #[.string nm, .int .i64 100]) (R := fun v y => v = .string fn ∧ Below w2.heap.size w2 y) ?_ ((HN.out w2).mono ?_) ?_
      · (clear hV hI hC; go_simp <;> (first | rfl | simp))
      · rintro e y ⟨rfl, hb⟩; exact ⟨_, rfl, rfl, hb⟩
      · rintro v y ⟨rfl, hb⟩; exact ⟨hC.trans (hb.mono hC.size), hb, by intro d hd; cases hd; rfl⟩
    case o19 =>
      intro Q a w2 hC hV hI
      have e6 : a.eval (.tmp 6) = .pointer (some ⟨w.heap.size, 0, none⟩) := (hI 6 (by simp [Op.operands]) (by kernel_rfl)).trans rfl
      have f6 : a.tmps.getD 6 undef = .pointer (some ⟨w.heap.size, 0, none⟩) := e6
      have g6 : a.tmps[6]?.getD undef = .pointer (some ⟨w.heap.size, 0, none⟩) := by rw [← Array.getD_eq_getD_getElem?]; exact e6
      refine op_val (.pointer (some ⟨w.heap.size, 3, none⟩)) ?_ hC (Below.refl _ _) (by intro d hd; cases hd; rfl)
      (clear hV hI hC; go_simp <;> (first | rfl | simp))
    case o20 =>
      intro Q a w2 hC hV hI
      have e19 : a.eval (.tmp 19) = .pointer (some ⟨w.heap.size, 3, none⟩) := hV 19 (by simp [Op.operands]) (by kernel_rfl)
      have f19 : a.tmps.getD 19 undef = .pointer (some ⟨w.heap.size, 3, none⟩) := e19
      have g19 : a.tmps[19]?.getD undef = .pointer (some ⟨w.heap.size, 3, none⟩) := by rw [← Array.getD_eq_getD_getElem?]; exact e19
      have hK := KC.out w2 hC
      refine op_val (.int .i64 m) ?_ hC (Below.refl _ _) (by intro d hd; cases hd; rfl)
      (clear hV hI hC; go_simp <;> (first | rfl | simp))
    case o21 =>
      intro Q a w2 hC hV hI
      have e20 : a.eval (.tmp 20) = .int .i64 m := hV 20 (by simp [Op.operands, Call.operands]) (by kernel_rfl)
      have f20 : a.tmps.getD 20 undef = .int .i64 m := e20
      have g20 : a.tmps[20]?.getD undef = .int .i64 m := by rw [← Array.getD_eq_getD_getElem?]; exact e20
      refine op_call (f := 75) (args := #[.int .i64 m, .int .i64 8]) (R := fun v y => v = .string om ∧ w2 = y) ?_ ((HOm.out w2).mono ?_) ?_
      · (clear hV hI hC; go_simp <;> (first | rfl | simp))
      · rintro e y ⟨rfl, rfl⟩; exact ⟨_, rfl, rfl, rfl⟩
      · rintro v y ⟨rfl, rfl⟩; exact ⟨hC, Below.refl _ _, by intro d hd; cases hd; rfl⟩
    case o22 =>
      intro Q a w2 hC hV hI
      have e18 : a.eval (.tmp 18) = .string fn := hV 18 (by simp [Op.operands]) (by kernel_rfl)
      have f18 : a.tmps.getD 18 undef = .string fn := e18
      have g18 : a.tmps[18]?.getD undef = .string fn := by rw [← Array.getD_eq_getD_getElem?]; exact e18
      have e21 : a.eval (.tmp 21) = .string om := hV 21 (by simp [Op.operands]) (by kernel_rfl)
      have f21 : a.tmps.getD 21 undef = .string om := e21
      have g21 : a.tmps[21]?.getD undef = .string om := by rw [← Array.getD_eq_getD_getElem?]; exact e21
      refine op_val (.string x22) ?_ hC (Below.refl _ _) (by intro d hd; cases hd; rfl)
      have q := HA22.out w2
      (clear hV hI hC; go_simp <;> (first | rfl | simp))
    case o23 =>
      intro Q a w2 hC hV hI
      have e6 : a.eval (.tmp 6) = .pointer (some ⟨w.heap.size, 0, none⟩) := (hI 6 (by simp [Op.operands]) (by kernel_rfl)).trans rfl
      have f6 : a.tmps.getD 6 undef = .pointer (some ⟨w.heap.size, 0, none⟩) := e6
      have g6 : a.tmps[6]?.getD undef = .pointer (some ⟨w.heap.size, 0, none⟩) := by rw [← Array.getD_eq_getD_getElem?]; exact e6
      refine op_val (.pointer (some ⟨w.heap.size, 4, none⟩)) ?_ hC (Below.refl _ _) (by intro d hd; cases hd; rfl)
      (clear hV hI hC; go_simp <;> (first | rfl | simp))
    case o24 =>
      intro Q a w2 hC hV hI
      have e23 : a.eval (.tmp 23) = .pointer (some ⟨w.heap.size, 4, none⟩) := hV 23 (by simp [Op.operands]) (by kernel_rfl)
      have f23 : a.tmps.getD 23 undef = .pointer (some ⟨w.heap.size, 4, none⟩) := e23
      have g23 : a.tmps[23]?.getD undef = .pointer (some ⟨w.heap.size, 4, none⟩) := by rw [← Array.getD_eq_getD_getElem?]; exact e23
      have hK := KC.out w2 hC
      refine op_val (.int .i64 u) ?_ hC (Below.refl _ _) (by intro d hd; cases hd; rfl)
      (clear hV hI hC; go_simp <;> (first | rfl | simp))
    case o25 =>
      intro Q a w2 hC hV hI
      have e24 : a.eval (.tmp 24) = .int .i64 u := hV 24 (by simp [Op.operands, Call.operands]) (by kernel_rfl)
      have f24 : a.tmps.getD 24 undef = .int .i64 u := e24
      have g24 : a.tmps[24]?.getD undef = .int .i64 u := by rw [← Array.getD_eq_getD_getElem?]; exact e24
      refine op_call (f := 75) (args := #[.int .i64 u, .int .i64 8]) (R := fun v y => v = .string ou ∧ w2 = y) ?_ ((HOu.out w2).mono ?_) ?_
      · (clear hV hI hC; go_simp <;> (first | rfl | simp))
      · rintro e y ⟨rfl, rfl⟩; exact ⟨_, rfl, rfl, rfl⟩
      · rintro v y ⟨rfl, rfl⟩; exact ⟨hC, Below.refl _ _, by intro d hd; cases hd; rfl⟩
    case o26 =>
      intro Q a w2 hC hV hI
      have e22 : a.eval (.tmp 22) = .string x22 := hV 22 (by simp [Op.operands]) (by kernel_rfl)
      have f22 : a.tmps.getD 22 undef = .string x22 := e22
      have g22 : a.tmps[22]?.getD undef = .string x22 := by rw [← Array.getD_eq_getD_getElem?]; exact e22
      have e25 : a.eval (.tmp 25) = .string ou := hV 25 (by simp [Op.operands]) (by kernel_rfl)
      have f25 : a.tmps.getD 25 undef = .string ou := e25
      have g25 : a.tmps[25]?.getD undef = .string ou := by rw [← Array.getD_eq_getD_getElem?]; exact e25
      refine op_val (.string x26) ?_ hC (Below.refl _ _) (by intro d hd; cases hd; rfl)
      have q := HA26.out w2
      (clear hV hI hC; go_simp <;> (first | rfl | simp))
    case o27 =>
      intro Q a w2 hC hV hI
      have e6 : a.eval (.tmp 6) = .pointer (some ⟨w.heap.size, 0, none⟩) := (hI 6 (by simp [Op.operands]) (by kernel_rfl)).trans rfl
      have f6 : a.tmps.getD 6 undef = .pointer (some ⟨w.heap.size, 0, none⟩) := e6
      have g6 : a.tmps[6]?.getD undef = .pointer (some ⟨w.heap.size, 0, none⟩) := by rw [← Array.getD_eq_getD_getElem?]; exact e6
      refine op_val (.pointer (some ⟨w.heap.size, 5, none⟩)) ?_ hC (Below.refl _ _) (by intro d hd; cases hd; rfl)
      (clear hV hI hC; go_simp <;> (first | rfl | simp))
    case o28 =>
      intro Q a w2 hC hV hI
      have e27 : a.eval (.tmp 27) = .pointer (some ⟨w.heap.size, 5, none⟩) := hV 27 (by simp [Op.operands]) (by kernel_rfl)
      have f27 : a.tmps.getD 27 undef = .pointer (some ⟨w.heap.size, 5, none⟩) := e27
      have g27 : a.tmps[27]?.getD undef = .pointer (some ⟨w.heap.size, 5, none⟩) := by rw [← Array.getD_eq_getD_getElem?]; exact e27
      have hK := KC.out w2 hC
      refine op_val (.int .i64 g) ?_ hC (Below.refl _ _) (by intro d hd; cases hd; rfl)
      (clear hV hI hC; go_simp <;> (first | rfl | simp))
    case o29 =>
      intro Q a w2 hC hV hI
      have e28 : a.eval (.tmp 28) = .int .i64 g := hV 28 (by simp [Op.operands, Call.operands]) (by kernel_rfl)
      have f28 : a.tmps.getD 28 undef = .int .i64 g := e28
      have g28 : a.tmps[28]?.getD undef = .int .i64 g := by rw [← Array.getD_eq_getD_getElem?]; exact e28
      refine op_call (f := 75) (args := #[.int .i64 g, .int .i64 8]) (R := fun v y => v = .string og ∧ w2 = y) ?_ ((HOg.out w2).mono ?_) ?_
      · (clear hV hI hC; go_simp <;> (first | rfl | simp))
      · rintro e y ⟨rfl, rfl⟩; exact ⟨_, rfl, rfl, rfl⟩
      · rintro v y ⟨rfl, rfl⟩; exact ⟨hC, Below.refl _ _, by intro d hd; cases hd; rfl⟩
    case o30 =>
      intro Q a w2 hC hV hI
      have e26 : a.eval (.tmp 26) = .string x26 := hV 26 (by simp [Op.operands]) (by kernel_rfl)
      have f26 : a.tmps.getD 26 undef = .string x26 := e26
      have g26 : a.tmps[26]?.getD undef = .string x26 := by rw [← Array.getD_eq_getD_getElem?]; exact e26
      have e29 : a.eval (.tmp 29) = .string og := hV 29 (by simp [Op.operands]) (by kernel_rfl)
      have f29 : a.tmps.getD 29 undef = .string og := e29
      have g29 : a.tmps[29]?.getD undef = .string og := by rw [← Array.getD_eq_getD_getElem?]; exact e29
      refine op_val (.string x30) ?_ hC (Below.refl _ _) (by intro d hd; cases hd; rfl)
      have q := HA30.out w2
      (clear hV hI hC; go_simp <;> (first | rfl | simp))
    case o31 =>
      intro Q a w2 hC hV hI
      have e4 : a.eval (.tmp 4) = .int .i64 sz := (hI 4 (by simp [Op.operands]) (by kernel_rfl)).trans rfl
      have f4 : a.tmps.getD 4 undef = .int .i64 sz := e4
      have g4 : a.tmps[4]?.getD undef = .int .i64 sz := by rw [← Array.getD_eq_getD_getElem?]; exact e4
      refine op_val (.int .i64 sz) ?_ hC (Below.refl _ _) (by intro d hd; cases hd; rfl)
      (clear hV hI hC; go_simp <;> (first | rfl | simp))
    case o32 =>
      intro Q a w2 hC hV hI
      have e31 : a.eval (.tmp 31) = .int .i64 sz := hV 31 (by simp [Op.operands, Call.operands]) (by kernel_rfl)
      have f31 : a.tmps.getD 31 undef = .int .i64 sz := e31
      have g31 : a.tmps[31]?.getD undef = .int .i64 sz := by rw [← Array.getD_eq_getD_getElem?]; exact e31
      refine op_call (f := 75) (args := #[.int .i64 sz, .int .i64 12]) (R := fun v y => v = .string os ∧ w2 = y) ?_ ((HOs.out w2).mono ?_) ?_
      · (clear hV hI hC; go_simp <;> (first | rfl | simp))
      · rintro e y ⟨rfl, rfl⟩; exact ⟨_, rfl, rfl, rfl⟩
      · rintro v y ⟨rfl, rfl⟩; exact ⟨hC, Below.refl _ _, by intro d hd; cases hd; rfl⟩
    case o33 =>
      intro Q a w2 hC hV hI
      have e30 : a.eval (.tmp 30) = .string x30 := hV 30 (by simp [Op.operands]) (by kernel_rfl)
      have f30 : a.tmps.getD 30 undef = .string x30 := e30
      have g30 : a.tmps[30]?.getD undef = .string x30 := by rw [← Array.getD_eq_getD_getElem?]; exact e30
      have e32 : a.eval (.tmp 32) = .string os := hV 32 (by simp [Op.operands]) (by kernel_rfl)
      have f32 : a.tmps.getD 32 undef = .string os := e32
      have g32 : a.tmps[32]?.getD undef = .string os := by rw [← Array.getD_eq_getD_getElem?]; exact e32
      refine op_val (.string x33) ?_ hC (Below.refl _ _) (by intro d hd; cases hd; rfl)
      have q := HA33.out w2
      (clear hV hI hC; go_simp <;> (first | rfl | simp))
    case o34 =>
      intro Q a w2 hC hV hI
      have e6 : a.eval (.tmp 6) = .pointer (some ⟨w.heap.size, 0, none⟩) := (hI 6 (by simp [Op.operands]) (by kernel_rfl)).trans rfl
      have f6 : a.tmps.getD 6 undef = .pointer (some ⟨w.heap.size, 0, none⟩) := e6
      have g6 : a.tmps[6]?.getD undef = .pointer (some ⟨w.heap.size, 0, none⟩) := by rw [← Array.getD_eq_getD_getElem?]; exact e6
      refine op_val (.pointer (some ⟨w.heap.size, 6, none⟩)) ?_ hC (Below.refl _ _) (by intro d hd; cases hd; rfl)
      (clear hV hI hC; go_simp <;> (first | rfl | simp))
    case o35 =>
      intro Q a w2 hC hV hI
      have e34 : a.eval (.tmp 34) = .pointer (some ⟨w.heap.size, 6, none⟩) := hV 34 (by simp [Op.operands]) (by kernel_rfl)
      have f34 : a.tmps.getD 34 undef = .pointer (some ⟨w.heap.size, 6, none⟩) := e34
      have g34 : a.tmps[34]?.getD undef = .pointer (some ⟨w.heap.size, 6, none⟩) := by rw [← Array.getD_eq_getD_getElem?]; exact e34
      have hK := KC.out w2 hC
      refine op_val (.int .i64 t) ?_ hC (Below.refl _ _) (by intro d hd; cases hd; rfl)
      (clear hV hI hC; go_simp <;> (first | rfl | simp))
    case o36 =>
      intro Q a w2 hC hV hI
      have e35 : a.eval (.tmp 35) = .int .i64 t := hV 35 (by simp [Op.operands, Call.operands]) (by kernel_rfl)
      have f35 : a.tmps.getD 35 undef = .int .i64 t := e35
      have g35 : a.tmps[35]?.getD undef = .int .i64 t := by rw [← Array.getD_eq_getD_getElem?]; exact e35
      refine op_call (f := 75) (args := #[.int .i64 t, .int .i64 12]) (R := fun v y => v = .string ot ∧ w2 = y) ?_ ((HOt.out w2).mono ?_) ?_
      · (clear hV hI hC; go_simp <;> (first | rfl | simp))
      · rintro e y ⟨rfl, rfl⟩; exact ⟨_, rfl, rfl, rfl⟩
      · rintro v y ⟨rfl, rfl⟩; exact ⟨hC, Below.refl _ _, by intro d hd; cases hd; rfl⟩
    case o37 =>
      intro Q a w2 hC hV hI
      have e33 : a.eval (.tmp 33) = .string x33 := hV 33 (by simp [Op.operands]) (by kernel_rfl)
      have f33 : a.tmps.getD 33 undef = .string x33 := e33
      have g33 : a.tmps[33]?.getD undef = .string x33 := by rw [← Array.getD_eq_getD_getElem?]; exact e33
      have e36 : a.eval (.tmp 36) = .string ot := hV 36 (by simp [Op.operands]) (by kernel_rfl)
      have f36 : a.tmps.getD 36 undef = .string ot := e36
      have g36 : a.tmps[36]?.getD undef = .string ot := by rw [← Array.getD_eq_getD_getElem?]; exact e36
      refine op_val (.string x37) ?_ hC (Below.refl _ _) (by intro d hd; cases hd; rfl)
      have q := HA37.out w2
      (clear hV hI hC; go_simp <;> (first | rfl | simp))
    case o13 =>
      intro Q a w2 hC hV hI
      have e37 : a.eval (.tmp 37) = .string x37 := hV 37 (by simp [Op.operands]) (by kernel_rfl)
      have f37 : a.tmps.getD 37 undef = .string x37 := e37
      have g37 : a.tmps[37]?.getD undef = .string x37 := by rw [← Array.getD_eq_getD_getElem?]; exact e37
      refine op_val (.string x37) ?_ hC (Below.refl _ _) (by intro d hd; cases hd; rfl)
      (clear hV hI hC; go_simp <;> (first | rfl | simp))
  case hend =>
    intro f w3 hC hall
    clear HA22 HA26 HA30 HA33 HA37
    simp only [List.forall_mem_cons] at hall
    obtain ⟨h17, h18, h19, h20, h21, h22, h23, h24, h25, h26, h27, h28, h29, h30, h31, h32, h33, h34, h35, h36, h37, h13, _⟩ := hall
    replace h17 : f 17 = .string nm := h17 17 rfl
    replace h18 : f 18 = .string fn := h18 18 rfl
    replace h19 : f 19 = .pointer (some ⟨w.heap.size, 3, none⟩) := h19 19 rfl
    replace h20 : f 20 = .int .i64 m := h20 20 rfl
    replace h21 : f 21 = .string om := h21 21 rfl
    replace h22 : f 22 = .string x22 := h22 22 rfl
    replace h23 : f 23 = .pointer (some ⟨w.heap.size, 4, none⟩) := h23 23 rfl
    replace h24 : f 24 = .int .i64 u := h24 24 rfl
    replace h25 : f 25 = .string ou := h25 25 rfl
    replace h26 : f 26 = .string x26 := h26 26 rfl
    replace h27 : f 27 = .pointer (some ⟨w.heap.size, 5, none⟩) := h27 27 rfl
    replace h28 : f 28 = .int .i64 g := h28 28 rfl
    replace h29 : f 29 = .string og := h29 29 rfl
    replace h30 : f 30 = .string x30 := h30 30 rfl
    replace h31 : f 31 = .int .i64 sz := h31 31 rfl
    replace h32 : f 32 = .string os := h32 32 rfl
    replace h33 : f 33 = .string x33 := h33 33 rfl
    replace h34 : f 34 = .pointer (some ⟨w.heap.size, 6, none⟩) := h34 34 rfl
    replace h35 : f 35 = .int .i64 t := h35 35 rfl
    replace h36 : f 36 = .string ot := h36 36 rfl
    replace h37 : f 37 = .string x37 := h37 37 rfl
    replace h13 : f 13 = .string x37 := h13 13 rfl
    simp only [putAll, Act.put, List.setIfInBounds_toArray, List.set_cons_succ, List.set_cons_zero, h17, h18, h19, h20, h21, h22, h23, h24, h25, h26, h27, h28, h29, h30, h31, h32, h33, h34, h35, h36, h37, h13]
    clear h17 h18 h19 h20 h21 h22 h23 h24 h25 h26 h27 h28 h29 h30 h31 h32 h33 h34 h35 h36 h37 h13
    have HXA : Hid (hA = x37) := Lib.hid (by rw [HEA.out, HX37.out, HX33.out, HX30.out, HX26.out, HX22.out])
    have E3 := Lib.hid (E1.out.below hC z0)
    have B3 := Lib.hid (btE B1.out hC)
    replace z0 := Nat.lt_of_lt_of_le z0 hC.size
    clear hC KC E1 B1 HX22 HX26 HX30 HX33 HX37
    go_wp2_with fail
    have KC : Hid (∀ w', Below w3.heap.size w3 w' → w'.cell? ⟨w.heap.size, 1, none⟩ = some (.string p) ∧ w'.cell? ⟨w.heap.size, 2, none⟩ = some (.string l) ∧ w'.cell? ⟨w.heap.size, 3, none⟩ = some (.int .i64 m) ∧ w'.cell? ⟨w.heap.size, 4, none⟩ = some (.int .i64 u) ∧ w'.cell? ⟨w.heap.size, 5, none⟩ = some (.int .i64 g) ∧ w'.cell? ⟨w.heap.size, 6, none⟩ = some (.int .i64 t) ∧ w'.cell? ⟨w.heap.size, 7, none⟩ = some (.string us) ∧ w'.cell? ⟨w.heap.size, 8, none⟩ = some (.string gr)) := Lib.hid (fun w' hb => by obtain ⟨c0, c1, c2, c3, c4, c5, c6, c7, c8, c9⟩ := (E3.out.below hb z0).zero; exact ⟨c1, c2, c3, c4, c5, c6, c7, c8⟩)
    obtain ⟨x42, hx42⟩ : ∃ x : ByteArray, x = fl ++ fll := ⟨_, rfl⟩
    obtain ⟨x44, hx44⟩ : ∃ x : ByteArray, x = x42 ++ mg := ⟨_, rfl⟩
    obtain ⟨x48, hx48⟩ : ∃ x : ByteArray, x = x44 ++ fu := ⟨_, rfl⟩
    obtain ⟨x52, hx52⟩ : ∃ x : ByteArray, x = x48 ++ fg := ⟨_, rfl⟩
    obtain ⟨x54, hx54⟩ : ∃ x : ByteArray, x = x52 ++ o0 := ⟨_, rfl⟩
    obtain ⟨x56, hx56⟩ : ∃ x : ByteArray, x = x54 ++ o0 := ⟨_, rfl⟩
    obtain ⟨x59, hx59⟩ : ∃ x : ByteArray, x = x56 ++ fp := ⟨_, rfl⟩
    obtain ⟨x61, hx61⟩ : ∃ x : ByteArray, x = x59 ++ z12 := ⟨_, rfl⟩
    have zx42 : x42.size ≤ 200100 := by rw [hx42, ByteArray.size_append]; omega
    have zx44 : x44.size ≤ 300100 := by rw [hx44, ByteArray.size_append]; omega
    have zx48 : x48.size ≤ 400132 := by rw [hx48, ByteArray.size_append]; omega
    have zx52 : x52.size ≤ 500164 := by rw [hx52, ByteArray.size_append]; omega
    have zx54 : x54.size ≤ 500185 := by rw [hx54, ByteArray.size_append]; omega
    have zx56 : x56.size ≤ 500206 := by rw [hx56, ByteArray.size_append]; omega
    have zx59 : x59.size ≤ 600361 := by rw [hx59, ByteArray.size_append]; omega
    have zx61 : x61.size ≤ 600373 := by rw [hx61, ByteArray.size_append]; omega
    have HA42 : Hid (∀ w, (Op.stringOp .add fl fll).run Tryz.prog w = .ok (.string x42) w) := Lib.hid (fun w => by rw [hx42]; exact run_string_add_sum w _ _ (by omega))
    have HA44 : Hid (∀ w, (Op.stringOp .add x42 mg).run Tryz.prog w = .ok (.string x44) w) := Lib.hid (fun w => by rw [hx44]; exact run_string_add_sum w _ _ (by omega))
    have HA48 : Hid (∀ w, (Op.stringOp .add x44 fu).run Tryz.prog w = .ok (.string x48) w) := Lib.hid (fun w => by rw [hx48]; exact run_string_add_sum w _ _ (by omega))
    have HA52 : Hid (∀ w, (Op.stringOp .add x48 fg).run Tryz.prog w = .ok (.string x52) w) := Lib.hid (fun w => by rw [hx52]; exact run_string_add_sum w _ _ (by omega))
    have HA54 : Hid (∀ w, (Op.stringOp .add x52 o0).run Tryz.prog w = .ok (.string x54) w) := Lib.hid (fun w => by rw [hx54]; exact run_string_add_sum w _ _ (by omega))
    have HA56 : Hid (∀ w, (Op.stringOp .add x54 o0).run Tryz.prog w = .ok (.string x56) w) := Lib.hid (fun w => by rw [hx56]; exact run_string_add_sum w _ _ (by omega))
    have HA59 : Hid (∀ w, (Op.stringOp .add x56 fp).run Tryz.prog w = .ok (.string x59) w) := Lib.hid (fun w => by rw [hx59]; exact run_string_add_sum w _ _ (by omega))
    have HA61 : Hid (∀ w, (Op.stringOp .add x59 z12).run Tryz.prog w = .ok (.string x61) w) := Lib.hid (fun w => by rw [hx61]; exact run_string_add_sum w _ _ (by omega))
    have HX42 := Lib.hid hx42
    have HX44 := Lib.hid hx44
    have HX48 := Lib.hid hx48
    have HX52 := Lib.hid hx52
    have HX54 := Lib.hid hx54
    have HX56 := Lib.hid hx56
    have HX59 := Lib.hid hx59
    have HX61 := Lib.hid hx61
    clear hx42 hx44 hx48 hx52 hx54 hx56 hx59 hx61
    refine wp_region_inv (by kernel_rfl) (fun w' => Below w3.heap.size w3 w') (fun x y => Below x.heap.size x y) (fun d v _ => match d with | 38 => v = .string fl | 39 => v = .pointer (some ⟨w.heap.size, 2, none⟩) | 40 => v = .string l | 41 => v = .string fll | 42 => v = .string x42 | 43 => v = .string mg | 44 => v = .string x44 | 45 => v = .pointer (some ⟨w.heap.size, 7, none⟩) | 46 => v = .string us | 47 => v = .string fu | 48 => v = .string x48 | 49 => v = .pointer (some ⟨w.heap.size, 8, none⟩) | 50 => v = .string gr | 51 => v = .string fg | 52 => v = .string x52 | 53 => v = .string o0 | 54 => v = .string x54 | 55 => v = .string o0 | 56 => v = .string x56 | 57 => v = .string pf | 58 => v = .string fp | 59 => v = .string x59 | 60 => v = .string z12 | 61 => v = .string x61 | 14 => v = .string x61 | _ => True) (by kernel_rfl) ((Below.refl _ _).drew) (fun _ _ _ _ _ _ h => h) ?hops ?hend
    case hops =>
      simp only [List.forall_mem_cons]
      refine ⟨?o38, ?o39, ?o40, ?o41, ?o42, ?o43, ?o44, ?o45, ?o46, ?o47, ?o48, ?o49, ?o50, ?o51, ?o52, ?o53, ?o54, ?o55, ?o56, ?o57, ?o58, ?o59, ?o60, ?o61, ?o14, fun _ h => by cases h⟩
      case o38 =>
        intro Q a w2 hC hV hI
        have e3 : a.eval (.tmp 3) = .string fl := (hI 3 (by simp [Op.operands]) (by kernel_rfl)).trans rfl
        have f3 : a.tmps.getD 3 undef = .string fl := e3
        have g3 : a.tmps[3]?.getD undef = .string fl := by rw [← Array.getD_eq_getD_getElem?]; exact e3
        refine op_val (.string fl) ?_ hC (Below.refl _ _) (by intro d hd; cases hd; rfl)
        (clear hV hI hC; go_simp <;> (first | rfl | simp))
      case o39 =>
        intro Q a w2 hC hV hI
        have e6 : a.eval (.tmp 6) = .pointer (some ⟨w.heap.size, 0, none⟩) := (hI 6 (by simp [Op.operands]) (by kernel_rfl)).trans rfl
        have f6 : a.tmps.getD 6 undef = .pointer (some ⟨w.heap.size, 0, none⟩) := e6
        have g6 : a.tmps[6]?.getD undef = .pointer (some ⟨w.heap.size, 0, none⟩) := by rw [← Array.getD_eq_getD_getElem?]; exact e6
        refine op_val (.pointer (some ⟨w.heap.size, 2, none⟩)) ?_ hC (Below.refl _ _) (by intro d hd; cases hd; rfl)
        (clear hV hI hC; go_simp <;> (first | rfl | simp))
      case o40 =>
        intro Q a w2 hC hV hI
        have e39 : a.eval (.tmp 39) = .pointer (some ⟨w.heap.size, 2, none⟩) := hV 39 (by simp [Op.operands]) (by kernel_rfl)
        have f39 : a.tmps.getD 39 undef = .pointer (some ⟨w.heap.size, 2, none⟩) := e39
        have g39 : a.tmps[39]?.getD undef = .pointer (some ⟨w.heap.size, 2, none⟩) := by rw [← Array.getD_eq_getD_getElem?]; exact e39
        have hK := KC.out w2 hC
        refine op_val (.string l) ?_ hC (Below.refl _ _) (by intro d hd; cases hd; rfl)
        (clear hV hI hC; go_simp <;> (first | rfl | simp))
      case o41 =>
        intro Q a w2 hC hV hI
        have e40 : a.eval (.tmp 40) = .string l := hV 40 (by simp [Op.operands, Call.operands]) (by kernel_rfl)
        have f40 : a.tmps.getD 40 undef = .string l := e40
        have g40 : a.tmps[40]?.getD undef = .string l := by rw [← Array.getD_eq_getD_getElem?]; exact e40
        refine op_call (f := 74) (args := #[.string l, .int .i64 100]) (R := fun v y => v = .string fll ∧ Below w2.heap.size w2 y) ?_ ((HLk.out w2).mono ?_) ?_
        · (clear hV hI hC; go_simp <;> (first | rfl | simp))
        · rintro e y ⟨rfl, hb⟩; exact ⟨_, rfl, rfl, hb⟩
        · rintro v y ⟨rfl, hb⟩; exact ⟨hC.trans (hb.mono hC.size), hb, by intro d hd; cases hd; rfl⟩
      case o42 =>
        intro Q a w2 hC hV hI
        have e38 : a.eval (.tmp 38) = .string fl := hV 38 (by simp [Op.operands]) (by kernel_rfl)
        have f38 : a.tmps.getD 38 undef = .string fl := e38
        have g38 : a.tmps[38]?.getD undef = .string fl := by rw [← Array.getD_eq_getD_getElem?]; exact e38
        have e41 : a.eval (.tmp 41) = .string fll := hV 41 (by simp [Op.operands]) (by kernel_rfl)
        have f41 : a.tmps.getD 41 undef = .string fll := e41
        have g41 : a.tmps[41]?.getD undef = .string fll := by rw [← Array.getD_eq_getD_getElem?]; exact e41
        refine op_val (.string x42) ?_ hC (Below.refl _ _) (by intro d hd; cases hd; rfl)
        have q := HA42.out w2
        (clear hV hI hC; go_simp <;> (first | rfl | simp))
      case o43 =>
        intro Q a w2 hC hV hI
        have e5 : a.eval (.tmp 5) = .string mg := (hI 5 (by simp [Op.operands]) (by kernel_rfl)).trans rfl
        have f5 : a.tmps.getD 5 undef = .string mg := e5
        have g5 : a.tmps[5]?.getD undef = .string mg := by rw [← Array.getD_eq_getD_getElem?]; exact e5
        refine op_val (.string mg) ?_ hC (Below.refl _ _) (by intro d hd; cases hd; rfl)
        (clear hV hI hC; go_simp <;> (first | rfl | simp))
      case o44 =>
        intro Q a w2 hC hV hI
        have e42 : a.eval (.tmp 42) = .string x42 := hV 42 (by simp [Op.operands]) (by kernel_rfl)
        have f42 : a.tmps.getD 42 undef = .string x42 := e42
        have g42 : a.tmps[42]?.getD undef = .string x42 := by rw [← Array.getD_eq_getD_getElem?]; exact e42
        have e43 : a.eval (.tmp 43) = .string mg := hV 43 (by simp [Op.operands]) (by kernel_rfl)
        have f43 : a.tmps.getD 43 undef = .string mg := e43
        have g43 : a.tmps[43]?.getD undef = .string mg := by rw [← Array.getD_eq_getD_getElem?]; exact e43
        refine op_val (.string x44) ?_ hC (Below.refl _ _) (by intro d hd; cases hd; rfl)
        have q := HA44.out w2
        (clear hV hI hC; go_simp <;> (first | rfl | simp))
      case o45 =>
        intro Q a w2 hC hV hI
        have e6 : a.eval (.tmp 6) = .pointer (some ⟨w.heap.size, 0, none⟩) := (hI 6 (by simp [Op.operands]) (by kernel_rfl)).trans rfl
        have f6 : a.tmps.getD 6 undef = .pointer (some ⟨w.heap.size, 0, none⟩) := e6
        have g6 : a.tmps[6]?.getD undef = .pointer (some ⟨w.heap.size, 0, none⟩) := by rw [← Array.getD_eq_getD_getElem?]; exact e6
        refine op_val (.pointer (some ⟨w.heap.size, 7, none⟩)) ?_ hC (Below.refl _ _) (by intro d hd; cases hd; rfl)
        (clear hV hI hC; go_simp <;> (first | rfl | simp))
      case o46 =>
        intro Q a w2 hC hV hI
        have e45 : a.eval (.tmp 45) = .pointer (some ⟨w.heap.size, 7, none⟩) := hV 45 (by simp [Op.operands]) (by kernel_rfl)
        have f45 : a.tmps.getD 45 undef = .pointer (some ⟨w.heap.size, 7, none⟩) := e45
        have g45 : a.tmps[45]?.getD undef = .pointer (some ⟨w.heap.size, 7, none⟩) := by rw [← Array.getD_eq_getD_getElem?]; exact e45
        have hK := KC.out w2 hC
        refine op_val (.string us) ?_ hC (Below.refl _ _) (by intro d hd; cases hd; rfl)
        (clear hV hI hC; go_simp <;> (first | rfl | simp))
      case o47 =>
        intro Q a w2 hC hV hI
        have e46 : a.eval (.tmp 46) = .string us := hV 46 (by simp [Op.operands, Call.operands]) (by kernel_rfl)
        have f46 : a.tmps.getD 46 undef = .string us := e46
        have g46 : a.tmps[46]?.getD undef = .string us := by rw [← Array.getD_eq_getD_getElem?]; exact e46
        refine op_call (f := 74) (args := #[.string us, .int .i64 32]) (R := fun v y => v = .string fu ∧ Below w2.heap.size w2 y) ?_ ((HU.out w2).mono ?_) ?_
        · (clear hV hI hC; go_simp <;> (first | rfl | simp))
        · rintro e y ⟨rfl, hb⟩; exact ⟨_, rfl, rfl, hb⟩
        · rintro v y ⟨rfl, hb⟩; exact ⟨hC.trans (hb.mono hC.size), hb, by intro d hd; cases hd; rfl⟩
      case o48 =>
        intro Q a w2 hC hV hI
        have e44 : a.eval (.tmp 44) = .string x44 := hV 44 (by simp [Op.operands]) (by kernel_rfl)
        have f44 : a.tmps.getD 44 undef = .string x44 := e44
        have g44 : a.tmps[44]?.getD undef = .string x44 := by rw [← Array.getD_eq_getD_getElem?]; exact e44
        have e47 : a.eval (.tmp 47) = .string fu := hV 47 (by simp [Op.operands]) (by kernel_rfl)
        have f47 : a.tmps.getD 47 undef = .string fu := e47
        have g47 : a.tmps[47]?.getD undef = .string fu := by rw [← Array.getD_eq_getD_getElem?]; exact e47
        refine op_val (.string x48) ?_ hC (Below.refl _ _) (by intro d hd; cases hd; rfl)
        have q := HA48.out w2
        (clear hV hI hC; go_simp <;> (first | rfl | simp))
      case o49 =>
        intro Q a w2 hC hV hI
        have e6 : a.eval (.tmp 6) = .pointer (some ⟨w.heap.size, 0, none⟩) := (hI 6 (by simp [Op.operands]) (by kernel_rfl)).trans rfl
        have f6 : a.tmps.getD 6 undef = .pointer (some ⟨w.heap.size, 0, none⟩) := e6
        have g6 : a.tmps[6]?.getD undef = .pointer (some ⟨w.heap.size, 0, none⟩) := by rw [← Array.getD_eq_getD_getElem?]; exact e6
        refine op_val (.pointer (some ⟨w.heap.size, 8, none⟩)) ?_ hC (Below.refl _ _) (by intro d hd; cases hd; rfl)
        (clear hV hI hC; go_simp <;> (first | rfl | simp))
      case o50 =>
        intro Q a w2 hC hV hI
        have e49 : a.eval (.tmp 49) = .pointer (some ⟨w.heap.size, 8, none⟩) := hV 49 (by simp [Op.operands]) (by kernel_rfl)
        have f49 : a.tmps.getD 49 undef = .pointer (some ⟨w.heap.size, 8, none⟩) := e49
        have g49 : a.tmps[49]?.getD undef = .pointer (some ⟨w.heap.size, 8, none⟩) := by rw [← Array.getD_eq_getD_getElem?]; exact e49
        have hK := KC.out w2 hC
        refine op_val (.string gr) ?_ hC (Below.refl _ _) (by intro d hd; cases hd; rfl)
        (clear hV hI hC; go_simp <;> (first | rfl | simp))
      case o51 =>
        intro Q a w2 hC hV hI
        have e50 : a.eval (.tmp 50) = .string gr := hV 50 (by simp [Op.operands, Call.operands]) (by kernel_rfl)
        have f50 : a.tmps.getD 50 undef = .string gr := e50
        have g50 : a.tmps[50]?.getD undef = .string gr := by rw [← Array.getD_eq_getD_getElem?]; exact e50
        refine op_call (f := 74) (args := #[.string gr, .int .i64 32]) (R := fun v y => v = .string fg ∧ Below w2.heap.size w2 y) ?_ ((HG.out w2).mono ?_) ?_
        · (clear hV hI hC; go_simp <;> (first | rfl | simp))
        · rintro e y ⟨rfl, hb⟩; exact ⟨_, rfl, rfl, hb⟩
        · rintro v y ⟨rfl, hb⟩; exact ⟨hC.trans (hb.mono hC.size), hb, by intro d hd; cases hd; rfl⟩
      case o52 =>
        intro Q a w2 hC hV hI
        have e48 : a.eval (.tmp 48) = .string x48 := hV 48 (by simp [Op.operands]) (by kernel_rfl)
        have f48 : a.tmps.getD 48 undef = .string x48 := e48
        have g48 : a.tmps[48]?.getD undef = .string x48 := by rw [← Array.getD_eq_getD_getElem?]; exact e48
        have e51 : a.eval (.tmp 51) = .string fg := hV 51 (by simp [Op.operands]) (by kernel_rfl)
        have f51 : a.tmps.getD 51 undef = .string fg := e51
        have g51 : a.tmps[51]?.getD undef = .string fg := by rw [← Array.getD_eq_getD_getElem?]; exact e51
        refine op_val (.string x52) ?_ hC (Below.refl _ _) (by intro d hd; cases hd; rfl)
        have q := HA52.out w2
        (clear hV hI hC; go_simp <;> (first | rfl | simp))
      case o53 =>
        intro Q a w2 hC hV hI
        refine op_call (f := 75) (args := #[.int .i64 0, .int .i64 8]) (R := fun v y => v = .string o0 ∧ w2 = y) ?_ ((HO0.out w2).mono ?_) ?_
        · (clear hV hI hC; go_simp <;> (first | rfl | simp))
        · rintro e y ⟨rfl, rfl⟩; exact ⟨_, rfl, rfl, rfl⟩
        · rintro v y ⟨rfl, rfl⟩; exact ⟨hC, Below.refl _ _, by intro d hd; cases hd; rfl⟩
      case o54 =>
        intro Q a w2 hC hV hI
        have e52 : a.eval (.tmp 52) = .string x52 := hV 52 (by simp [Op.operands]) (by kernel_rfl)
        have f52 : a.tmps.getD 52 undef = .string x52 := e52
        have g52 : a.tmps[52]?.getD undef = .string x52 := by rw [← Array.getD_eq_getD_getElem?]; exact e52
        have e53 : a.eval (.tmp 53) = .string o0 := hV 53 (by simp [Op.operands]) (by kernel_rfl)
        have f53 : a.tmps.getD 53 undef = .string o0 := e53
        have g53 : a.tmps[53]?.getD undef = .string o0 := by rw [← Array.getD_eq_getD_getElem?]; exact e53
        refine op_val (.string x54) ?_ hC (Below.refl _ _) (by intro d hd; cases hd; rfl)
        have q := HA54.out w2
        (clear hV hI hC; go_simp <;> (first | rfl | simp))
      case o55 =>
        intro Q a w2 hC hV hI
        refine op_call (f := 75) (args := #[.int .i64 0, .int .i64 8]) (R := fun v y => v = .string o0 ∧ w2 = y) ?_ ((HO0.out w2).mono ?_) ?_
        · (clear hV hI hC; go_simp <;> (first | rfl | simp))
        · rintro e y ⟨rfl, rfl⟩; exact ⟨_, rfl, rfl, rfl⟩
        · rintro v y ⟨rfl, rfl⟩; exact ⟨hC, Below.refl _ _, by intro d hd; cases hd; rfl⟩
      case o56 =>
        intro Q a w2 hC hV hI
        have e54 : a.eval (.tmp 54) = .string x54 := hV 54 (by simp [Op.operands]) (by kernel_rfl)
        have f54 : a.tmps.getD 54 undef = .string x54 := e54
        have g54 : a.tmps[54]?.getD undef = .string x54 := by rw [← Array.getD_eq_getD_getElem?]; exact e54
        have e55 : a.eval (.tmp 55) = .string o0 := hV 55 (by simp [Op.operands]) (by kernel_rfl)
        have f55 : a.tmps.getD 55 undef = .string o0 := e55
        have g55 : a.tmps[55]?.getD undef = .string o0 := by rw [← Array.getD_eq_getD_getElem?]; exact e55
        refine op_val (.string x56) ?_ hC (Below.refl _ _) (by intro d hd; cases hd; rfl)
        have q := HA56.out w2
        (clear hV hI hC; go_simp <;> (first | rfl | simp))
      case o57 =>
        intro Q a w2 hC hV hI
        have e2 : a.eval (.tmp 2) = .string pf := (hI 2 (by simp [Op.operands]) (by kernel_rfl)).trans rfl
        have f2 : a.tmps.getD 2 undef = .string pf := e2
        have g2 : a.tmps[2]?.getD undef = .string pf := by rw [← Array.getD_eq_getD_getElem?]; exact e2
        refine op_val (.string pf) ?_ hC (Below.refl _ _) (by intro d hd; cases hd; rfl)
        (clear hV hI hC; go_simp <;> (first | rfl | simp))
      case o58 =>
        intro Q a w2 hC hV hI
        have e57 : a.eval (.tmp 57) = .string pf := hV 57 (by simp [Op.operands, Call.operands]) (by kernel_rfl)
        have f57 : a.tmps.getD 57 undef = .string pf := e57
        have g57 : a.tmps[57]?.getD undef = .string pf := by rw [← Array.getD_eq_getD_getElem?]; exact e57
        refine op_call (f := 74) (args := #[.string pf, .int .i64 155]) (R := fun v y => v = .string fp ∧ Below w2.heap.size w2 y) ?_ ((HP.out w2).mono ?_) ?_
        · (clear hV hI hC; go_simp <;> (first | rfl | simp))
        · rintro e y ⟨rfl, hb⟩; exact ⟨_, rfl, rfl, hb⟩
        · rintro v y ⟨rfl, hb⟩; exact ⟨hC.trans (hb.mono hC.size), hb, by intro d hd; cases hd; rfl⟩
      case o59 =>
        intro Q a w2 hC hV hI
        have e56 : a.eval (.tmp 56) = .string x56 := hV 56 (by simp [Op.operands]) (by kernel_rfl)
        have f56 : a.tmps.getD 56 undef = .string x56 := e56
        have g56 : a.tmps[56]?.getD undef = .string x56 := by rw [← Array.getD_eq_getD_getElem?]; exact e56
        have e58 : a.eval (.tmp 58) = .string fp := hV 58 (by simp [Op.operands]) (by kernel_rfl)
        have f58 : a.tmps.getD 58 undef = .string fp := e58
        have g58 : a.tmps[58]?.getD undef = .string fp := by rw [← Array.getD_eq_getD_getElem?]; exact e58
        refine op_val (.string x59) ?_ hC (Below.refl _ _) (by intro d hd; cases hd; rfl)
        have q := HA59.out w2
        (clear hV hI hC; go_simp <;> (first | rfl | simp))
      case o60 =>
        intro Q a w2 hC hV hI
        refine op_call (f := 31) (args := #[.int .i64 12]) (R := fun v y => v = .string z12 ∧ Below w2.heap.size w2 y) ?_ ((HZ.out w2).mono ?_) ?_
        · (clear hV hI hC; go_simp <;> (first | rfl | simp))
        · rintro e y ⟨rfl, hb⟩; exact ⟨_, rfl, rfl, hb⟩
        · rintro v y ⟨rfl, hb⟩; exact ⟨hC.trans (hb.mono hC.size), hb, by intro d hd; cases hd; rfl⟩
      case o61 =>
        intro Q a w2 hC hV hI
        have e59 : a.eval (.tmp 59) = .string x59 := hV 59 (by simp [Op.operands]) (by kernel_rfl)
        have f59 : a.tmps.getD 59 undef = .string x59 := e59
        have g59 : a.tmps[59]?.getD undef = .string x59 := by rw [← Array.getD_eq_getD_getElem?]; exact e59
        have e60 : a.eval (.tmp 60) = .string z12 := hV 60 (by simp [Op.operands]) (by kernel_rfl)
        have f60 : a.tmps.getD 60 undef = .string z12 := e60
        have g60 : a.tmps[60]?.getD undef = .string z12 := by rw [← Array.getD_eq_getD_getElem?]; exact e60
        refine op_val (.string x61) ?_ hC (Below.refl _ _) (by intro d hd; cases hd; rfl)
        have q := HA61.out w2
        (clear hV hI hC; go_simp <;> (first | rfl | simp))
      case o14 =>
        intro Q a w2 hC hV hI
        have e61 : a.eval (.tmp 61) = .string x61 := hV 61 (by simp [Op.operands]) (by kernel_rfl)
        have f61 : a.tmps.getD 61 undef = .string x61 := e61
        have g61 : a.tmps[61]?.getD undef = .string x61 := by rw [← Array.getD_eq_getD_getElem?]; exact e61
        refine op_val (.string x61) ?_ hC (Below.refl _ _) (by intro d hd; cases hd; rfl)
        (clear hV hI hC; go_simp <;> (first | rfl | simp))
    case hend =>
      intro f w4 hC hall
      clear HA42 HA44 HA48 HA52 HA54 HA56 HA59 HA61
      simp only [List.forall_mem_cons] at hall
      obtain ⟨h38, h39, h40, h41, h42, h43, h44, h45, h46, h47, h48, h49, h50, h51, h52, h53, h54, h55, h56, h57, h58, h59, h60, h61, h14, _⟩ := hall
      replace h38 : f 38 = .string fl := h38 38 rfl
      replace h39 : f 39 = .pointer (some ⟨w.heap.size, 2, none⟩) := h39 39 rfl
      replace h40 : f 40 = .string l := h40 40 rfl
      replace h41 : f 41 = .string fll := h41 41 rfl
      replace h42 : f 42 = .string x42 := h42 42 rfl
      replace h43 : f 43 = .string mg := h43 43 rfl
      replace h44 : f 44 = .string x44 := h44 44 rfl
      replace h45 : f 45 = .pointer (some ⟨w.heap.size, 7, none⟩) := h45 45 rfl
      replace h46 : f 46 = .string us := h46 46 rfl
      replace h47 : f 47 = .string fu := h47 47 rfl
      replace h48 : f 48 = .string x48 := h48 48 rfl
      replace h49 : f 49 = .pointer (some ⟨w.heap.size, 8, none⟩) := h49 49 rfl
      replace h50 : f 50 = .string gr := h50 50 rfl
      replace h51 : f 51 = .string fg := h51 51 rfl
      replace h52 : f 52 = .string x52 := h52 52 rfl
      replace h53 : f 53 = .string o0 := h53 53 rfl
      replace h54 : f 54 = .string x54 := h54 54 rfl
      replace h55 : f 55 = .string o0 := h55 55 rfl
      replace h56 : f 56 = .string x56 := h56 56 rfl
      replace h57 : f 57 = .string pf := h57 57 rfl
      replace h58 : f 58 = .string fp := h58 58 rfl
      replace h59 : f 59 = .string x59 := h59 59 rfl
      replace h60 : f 60 = .string z12 := h60 60 rfl
      replace h61 : f 61 = .string x61 := h61 61 rfl
      replace h14 : f 14 = .string x61 := h14 14 rfl
      simp only [putAll, Act.put, List.setIfInBounds_toArray, List.set_cons_succ, List.set_cons_zero, h38, h39, h40, h41, h42, h43, h44, h45, h46, h47, h48, h49, h50, h51, h52, h53, h54, h55, h56, h57, h58, h59, h60, h61, h14]
      clear h38 h39 h40 h41 h42 h43 h44 h45 h46 h47 h48 h49 h50 h51 h52 h53 h54 h55 h56 h57 h58 h59 h60 h61 h14
      have HXB : Hid (hB = x61) := Lib.hid (by rw [HEB.out, HX61.out, HX59.out, HX56.out, HX54.out, HX52.out, HX48.out, HX44.out, HX42.out])
      have B4 := Lib.hid (btE B3.out hC)
      clear hC KC E3 B3 HX42 HX44 HX48 HX52 HX54 HX56 HX59 HX61
      rw [HXA.out, HXB.out] at HE
      clear HXA HXB HEA HEB HN HLk HU HG HP HZ HOm HOu HOg HOs HOt HO0
      have S1 := Lib.hid (fun w => sum_spec x37 w (by omega))
      have S2 := Lib.hid (fun w => sum_spec x61 w (by omega))
      have b1 := sumv_bd x37.data.toList
      have b2 := sumv_bd x61.data.toList
      have l1 : x37.data.toList.length ≤ 100205 := by simp; omega
      have l2 : x61.data.toList.length ≤ 600373 := by simp; omega
      have S3 := Lib.hid (fun w => putOct_spec (sumv x37.data.toList + 256 + sumv x61.data.toList) 6 w)
      have zo := putOct_size (sumv x37.data.toList + 256 + sumv x61.data.toList) 6
      generalize putOctv (sumv x37.data.toList + 256 + sumv x61.data.toList) 6 = pr at HE S3 zo
      obtain ⟨od, ob⟩ := pr
      simp only at HE S3 zo
      generalize sumv x37.data.toList = s1 at *
      generalize sumv x61.data.toList = s2 at *
      go_wp2_with fail
      refine (S1.out _).mono ?_
      rintro e w5 ⟨rfl, rfl⟩
      go_wp2_with fail
      refine (S2.out _).mono ?_
      rintro e w5 ⟨rfl, rfl⟩
      go_wp2_with fail
      refine (S3.out _).mono ?_
      rintro e w5 ⟨rfl, rfl⟩
      have zc : (x37 ++ od).size ≤ 100225 := by rw [ByteArray.size_append]; omega
      have zc2 : (x37 ++ od ++ (⟨#[0, 32]⟩ : ByteArray)).size ≤ 100227 := by rw [ByteArray.size_append]; have : (⟨#[0, 32]⟩ : ByteArray).size = 2 := rfl; omega
      go_wp2
      go_ret
      exact ⟨ret_str HE.out.symm, B4.out⟩
end Go.Proofs.YtkpdeeembnjmnabGreatDoor

/- Contract of spec.PutHead. -/
namespace Go.Proofs.YtkpdeeembnjmnabGreatDoor
open Go.ChangeShapes Go.WideShapes Go.ChangeAt Go.RowKit Go.Deep

set_option maxHeartbeats 1600000 in
set_option maxRecDepth 8000 in
theorem putHead_spec (k : Int) (p l : ByteArray) (m u g t : Int) (us gr b fl : ByteArray) (sz : Int) (w : World) (hp : p.size ≤ 4194304) (hl : l.size ≤ 4194304) (hus : us.size ≤ 4194304) (hgr : gr.size ≤ 4194304) (hbz : b.size ≤ 4194304) :
    Calls Tryz.prog 22 #[.agg #[.int .i64 k, .string p, .string l, .int .i64 m, .int .i64 u, .int .i64 g, .int .i64 t, .string us, .string gr, .string b], .string fl, .int .i64 sz] w fun e w' => e = .returned (.string (putHeadv ⟨k, p, l, m, u, g, t, us, gr, b⟩ fl sz)) ∧ Below w.heap.size w w' := by
  have H1 := Lib.hid (fun w => fits_spec k p l m u g t us gr b w hp hl hus hgr hbz)
  have H2 := Lib.hid (fun w => in_any sz 0 3000 w)
  have H3 := Lib.hid (fun w => split_spec p w hp)
  by_cases hy : fitsv ⟨k, p, l, m, u, g, t, us, gr, b⟩ = true ∧ fl.size = 1 ∧ (0 ≤ sz ∧ sz ≤ 3000)
  · have HE : Hid (putHeadv ⟨k, p, l, m, u, g, t, us, gr, b⟩ fl sz = headv ⟨k, p, l, m, u, g, t, us, gr, b⟩ (splitN p) (splitP p) fl sz magicU) := Lib.hid (by rw [putHeadv, if_pos hy])
    obtain ⟨hf, hfl, hs⟩ := hy
    obtain ⟨-, -, -, -, zl, zus, zgr, hso⟩ := fits_nums hf
    simp only at zl zus zgr hso
    obtain ⟨zn, zp⟩ := split_sizes hso
    have H4 := Lib.hid (fun w => l04Head_spec k p l m u g t us gr b (splitN p) (splitP p) fl sz magicU w (by omega) (by omega) (by omega) (by omega) (by omega) (by omega) (by decide))
    rw [hf] at H1
    rw [inB_t hs] at H2
    rw [← HE.out, show magicU = ⟨#[117, 115, 116, 97, 114, 0, 48, 48]⟩ from rfl] at H4
    generalize putHeadv ⟨k, p, l, m, u, g, t, us, gr, b⟩ fl sz = r at *
    generalize splitN p = sn at *
    generalize splitP p = sp at *
    generalize splitOk p = so at *
    have hfl' : (fl.size : Int) = 1 := by omega
    clear HE hf hfl zl zus zgr zn zp hs hso hp hl hus hgr hbz
    go_enter Tryz.func22, Tryz.ntmps22
    go_wp2_with fail
    refine (H1.out _).mono ?_
    rintro e w1 ⟨rfl, hb⟩
    obtain ⟨k1, bb1, z1⟩ := one_new (e1 := ⟨k, p, l, m, u, g, t, us, gr, b⟩) hb
    have E1 := Lib.hid k1
    have B1 := Lib.hid bb1
    clear hb k1 bb1 H1
    go_wp2_with fail
    refine (H2.out _).mono ?_
    rintro e w2 ⟨rfl, rfl⟩
    obtain ⟨_, c1, _⟩ := E1.out.zero
    go_wp2_with fail
    refine (H3.out _).mono ?_
    rintro e w2 ⟨rfl, hb⟩
    have E2 := Lib.hid (E1.out.below hb (by omega))
    have B2 := Lib.hid (btE B1.out hb)
    clear hb c1 E1 B1
    obtain ⟨c0, c1, c2, c3, c4, c5, c6, c7, c8, c9⟩ := E2.out.zero
    go_wp2_with fail
    refine (H4.out _).mono ?_
    rintro e w3 ⟨rfl, hb⟩
    go_wp2
    go_ret
    exact ⟨rfl, btE B2.out hb⟩
  · have HE := Lib.hid (putHead_no hy)
    generalize putHeadv ⟨k, p, l, m, u, g, t, us, gr, b⟩ fl sz = r at HE
    generalize fitsv ⟨k, p, l, m, u, g, t, us, gr, b⟩ = bf at H1 hy
    clear hp hl hus hgr hbz H3
    cases bf with
    | false =>
      clear hy
      go_enter Tryz.func22, Tryz.ntmps22
      go_wp2_with fail
      refine (H1.out _).mono ?_
      rintro e w1 ⟨rfl, hb⟩
      obtain ⟨-, bb1, -⟩ := one_new (e1 := ⟨k, p, l, m, u, g, t, us, gr, b⟩) hb
      have B1 := Lib.hid bb1
      clear hb bb1
      go_wp2
      go_ret
      exact ⟨ret_str HE.out.symm, B1.out⟩
    | true =>
      by_cases h1 : (fl.size : Int) = 1
      · have h2 : inB sz 0 3000 = false := inB_f (fun h => hy ⟨rfl, by omega, h⟩)
        rw [h2] at H2
        clear hy h2
        go_enter Tryz.func22, Tryz.ntmps22
        go_wp2_with fail
        refine (H1.out _).mono ?_
        rintro e w1 ⟨rfl, hb⟩
        obtain ⟨-, bb1, -⟩ := one_new (e1 := ⟨k, p, l, m, u, g, t, us, gr, b⟩) hb
        have B1 := Lib.hid bb1
        clear hb bb1
        go_wp2_with fail
        refine (H2.out _).mono ?_
        rintro e w2 ⟨rfl, rfl⟩
        go_wp2
        go_ret
        exact ⟨ret_str HE.out.symm, B1.out⟩
      · clear hy
        go_enter Tryz.func22, Tryz.ntmps22
        go_wp2_with fail
        refine (H1.out _).mono ?_
        rintro e w1 ⟨rfl, hb⟩
        obtain ⟨-, bb1, -⟩ := one_new (e1 := ⟨k, p, l, m, u, g, t, us, gr, b⟩) hb
        have B1 := Lib.hid bb1
        clear hb bb1
        go_wp2
        go_ret
        exact ⟨ret_str HE.out.symm, B1.out⟩
end Go.Proofs.YtkpdeeembnjmnabGreatDoor

/- Contract of spec.GetHead. -/
namespace Go.Proofs.YtkpdeeembnjmnabGreatDoor
open Go.ChangeShapes Go.WideShapes Go.ChangeAt Go.RowKit

theorem hdc_bad {s : ByteArray} (h : ¬ rdc s = 0) : hdc s = rdc s := by
  unfold rdc at h ⊢
  unfold hdc
  split
  · rfl
  · rename_i h1
    rw [if_neg h1] at h
    split
    · rfl
    · rename_i h2
      rw [if_neg h2] at h
      split
      · rfl
      · rename_i h3
        rw [if_neg h3] at h
        exact absurd rfl h
theorem hdc_good {s : ByteArray} (h : rdc s = 0) : 512 ≤ s.size ∧ hdc s = if againOk (lOf s) = true then 0 else 4 := by
  unfold rdc at h
  split at h
  · omega
  · rename_i h1
    split at h
    · omega
    · rename_i h2
      split at h
      · omega
      · rename_i h3
        exact ⟨by omega, by rw [hdc, if_neg h1, if_neg h2, if_neg h3]⟩
theorem lOf_whole (s : ByteArray) : (⟨(lOf s).toArray⟩ : ByteArray) = s.extract 0 512 := by
  apply ba_ext
  simp [lOf, ByteArray.data_extract]
set_option maxHeartbeats 6400000 in
set_option maxRecDepth 8000 in
theorem getHead_spec (s : ByteArray) (w : World) (hs : s.size ≤ 1048576) :
    Calls Tryz.prog 7 #[.string s] w fun e w' => e = .returned (getV s) ∧ Below w.heap.size w w' := by
  have B0 := Lib.hid ((Below.refl w.heap.size w).alloc (Nat.le_refl _) (.cells zEnt 23))
  have R0 : Hid ((w.alloc (.cells zEnt 23)).heap[w.heap.size]? = some (.cells zEnt 23 (0, 0))) := Lib.hid (heap_alloc_last _ _)
  have H1 := Lib.hid (fun w => read_spec s w hs)
  by_cases h0 : rdc s = 0
  · rw [readS, if_pos h0] at H1
    obtain ⟨h512, hh⟩ := hdc_good h0
    have HA : Hid (againOk (lOf s) = decide (putHeadv (withKind (entL (lOf s)) (fW (lOf s) 7)) (fW (lOf s) 7) (fnumv (fW (lOf s) 4)) = s.extract 0 512)) := Lib.hid (by rw [← lOf_whole s]; rfl)
    have HH := Lib.hid hh
    have HG : Hid (getV s = if hdc s = 0 then .tuple #[.agg (entL (lOf s)).cells.toArray, .string (fW (lOf s) 7), .int .i64 (fnumv (fW (lOf s) 4)), .int .i64 0] else .tuple #[.agg zEnt, .string ⟨#[]⟩, .int .i64 0, .int .i64 (hdc s)]) := Lib.hid rfl
    have HEN : Hid (entL (lOf s) = ⟨0, pathL (lOf s), cutv (fW (lOf s) 8), fnumv (fW (lOf s) 1), fnumv (fW (lOf s) 2), fnumv (fW (lOf s) 3), fnumv (fW (lOf s) 5), cutv (fW (lOf s) 10), cutv (fW (lOf s) 11), ⟨#[]⟩⟩) := Lib.hid rfl
    have zp : (pathL (lOf s)).size ≤ 311 := by
      have a := fW_small (lOf s) 0
      have b := fW_small (lOf s) 14
      unfold pathL
      split
      · omega
      · rw [ByteArray.size_append, ByteArray.size_append]; have : (⟨#[47]⟩ : ByteArray).size = 1 := rfl; omega
    have zl := fW_small (lOf s) 8
    have zu := fW_small (lOf s) 10
    have zgr := fW_small (lOf s) 11
    rw [HEN.out] at HA HG H1
    generalize againOk (lOf s) = ag at *
    generalize pathL (lOf s) = pth at *
    generalize cutv (fW (lOf s) 8) = lk at *
    generalize cutv (fW (lOf s) 10) = us at *
    generalize cutv (fW (lOf s) 11) = gr at *
    generalize fnumv (fW (lOf s) 1) = nm at *
    generalize fnumv (fW (lOf s) 2) = nu at *
    generalize fnumv (fW (lOf s) 3) = ng at *
    generalize fnumv (fW (lOf s) 5) = nt at *
    generalize fnumv (fW (lOf s) 4) = nz at *
    generalize fW (lOf s) 7 = fl at *
    have HK := Lib.hid (fun w => kindS_any pth lk nm nu ng nt us gr ⟨#[]⟩ fl w)
    obtain ⟨kk, hkk⟩ : ∃ kk, (if 0 ≤ kindv fl then kindv fl else 0) = kk := ⟨_, rfl⟩
    have HWK : Hid (withKind ⟨0, pth, lk, nm, nu, ng, nt, us, gr, ⟨#[]⟩⟩ fl = ⟨kk, pth, lk, nm, nu, ng, nt, us, gr, ⟨#[]⟩⟩) := Lib.hid (by rw [← hkk, withKind])
    rw [hkk] at HK
    rw [HWK.out] at HA
    have HPH := Lib.hid (fun w => putHead_spec kk pth lk nm nu ng nt us gr ⟨#[]⟩ fl nz w (by omega) (by omega) (by omega) (by omega) (by decide))
    generalize putHeadv ⟨kk, pth, lk, nm, nu, ng, nt, us, gr, ⟨#[]⟩⟩ fl nz = hd at HA HPH
    have HE : Hid (getV s = if hd = s.extract 0 512 then .tuple #[.agg #[.int .i64 0, .string pth, .string lk, .int .i64 nm, .int .i64 nu, .int .i64 ng, .int .i64 nt, .string us, .string gr, .string ⟨#[]⟩], .string fl, .int .i64 nz, .int .i64 0] else .tuple #[.agg zEnt, .string ⟨#[]⟩, .int .i64 0, .int .i64 4]) := Lib.hid (by
      rw [HG.out, HH.out, HA.out]
      by_cases q : hd = s.extract 0 512
      · rw [if_pos q, if_pos (decide_eq_true q), if_pos rfl]; rfl
      · rw [if_neg q, if_neg (fun h => q (of_decide_eq_true h)), if_neg (by decide)])
    have d1 : (512 : Int) ≤ (s.size : Int) := by omega
    clear hh HH HG HEN HA HWK hkk h0
    go_enter Tryz.func7, Tryz.ntmps7
    go_wp2_with fail
    refine (H1.out _).mono ?_
    rintro e w1 ⟨rfl, hb⟩
    have R1 := (hb.block _ (obj_lt R0.out)).trans R0.out
    have B1 := B0.out.trans (hb.mono B0.out.size)
    have HSn := Lib.hid (run_storeVar_new (P := Tryz.prog) w1 23 zEnt #[.int .i64 0, .string pth, .string lk, .int .i64 nm, .int .i64 nu, .int .i64 ng, .int .i64 nt, .string us, .string gr, .string ⟨#[]⟩] (by rw [Tryz.sizeEnt]; rfl) rfl (by simp [Value.oneCell']))
    have OB := heap_alloc_last w1 (.cells #[.int .i64 0, .string pth, .string lk, .int .i64 nm, .int .i64 nu, .int .i64 ng, .int .i64 nt, .string us, .string gr, .string ⟨#[]⟩] 23)
    have BX := (Below.refl w1.heap.size w1).alloc (Nat.le_refl _) (.cells #[.int .i64 0, .string pth, .string lk, .int .i64 nm, .int .i64 nu, .int .i64 ng, .int .i64 nt, .string us, .string gr, .string ⟨#[]⟩] 23)
    clear hb R0 B0 H1
    go_wp2_with ((with_reducible refine wpList_store_eq rfl 23 _ _ rfl ⟨w1.heap.size, 0, none⟩ ?_ ?_ HSn.out ?_); rfl; rfl)
    clear HSn
    generalize w1.alloc (.cells #[.int .i64 0, .string pth, .string lk, .int .i64 nm, .int .i64 nu, .int .i64 ng, .int .i64 nt, .string us, .string gr, .string ⟨#[]⟩] 23) = w4 at *
    have RO4 := Lib.hid ((BX.block _ (obj_lt R1)).trans R1)
    have B4 := Lib.hid (B1.trans (BX.mono B1.size))
    have zR4 := obj_lt RO4.out
    have OB' := Lib.hid OB
    have KC : Hid (∀ w' : World, Below w4.heap.size w4 w' → w'.cell? ⟨w1.heap.size, 0, none⟩ = some (.int .i64 0) ∧ w'.cell? ⟨w1.heap.size, 1, none⟩ = some (.string pth) ∧ w'.cell? ⟨w1.heap.size, 2, none⟩ = some (.string lk) ∧ w'.cell? ⟨w1.heap.size, 3, none⟩ = some (.int .i64 nm) ∧ w'.cell? ⟨w1.heap.size, 4, none⟩ = some (.int .i64 nu) ∧ w'.cell? ⟨w1.heap.size, 5, none⟩ = some (.int .i64 ng) ∧ w'.cell? ⟨w1.heap.size, 6, none⟩ = some (.int .i64 nt) ∧ w'.cell? ⟨w1.heap.size, 7, none⟩ = some (.string us) ∧ w'.cell? ⟨w1.heap.size, 8, none⟩ = some (.string gr) ∧ w'.cell? ⟨w1.heap.size, 9, none⟩ = some (.string ⟨#[]⟩)) := Lib.hid (fun w' hb => by
      have h1 := (hb.block _ (obj_lt OB'.out)).trans OB'.out
      refine ⟨?_, ?_, ?_, ?_, ?_, ?_, ?_, ?_, ?_, ?_⟩ <;> (rw [cell_of_row _ _ _ _ _ _ h1]; rfl))
    clear OB BX R1 B1
    by_cases hq : hd = s.extract 0 512
    · have q := ba_eq hq
      have HE2 := Lib.hid (HE.out.trans (if_pos hq))
      clear HE hq
      refine wp_region_inv (by kernel_rfl) (fun w' => Below w4.heap.size w4 w') (fun x y => Below x.heap.size x y) (fun d v _ => match d with | 21 => v = .agg #[.int .i64 0, .string pth, .string lk, .int .i64 nm, .int .i64 nu, .int .i64 ng, .int .i64 nt, .string us, .string gr, .string ⟨#[]⟩] | 22 => v = .string fl | 23 => v = .agg #[.int .i64 kk, .string pth, .string lk, .int .i64 nm, .int .i64 nu, .int .i64 ng, .int .i64 nt, .string us, .string gr, .string ⟨#[]⟩] | 24 => v = .string fl | 25 => v = .int .i64 nz | 26 => v = .string hd | 27 => v = .string s | 28 => v = .string (s.extract 0 512) | 29 => v = .bool false | _ => True) (by kernel_rfl) ((Below.refl _ _).drew) (fun _ _ _ _ _ _ h => h) ?hops ?hend
      case hops =>
        simp only [List.forall_mem_cons]
        refine ⟨?o21, ?o22, ?o23, ?o24, ?o25, ?o26, ?o27, ?o28, ?o29, fun _ h => by cases h⟩
        case o21 =>
          intro Q a w2 hC hV hI
          have e6 : a.eval (.tmp 6) = .pointer (some ⟨w1.heap.size, 0, none⟩) := (hI 6 (by simp [Op.operands]) (by kernel_rfl)).trans rfl
          have f6 : a.tmps.getD 6 undef = .pointer (some ⟨w1.heap.size, 0, none⟩) := e6
          have g6 : a.tmps[6]?.getD undef = .pointer (some ⟨w1.heap.size, 0, none⟩) := by rw [← Array.getD_eq_getD_getElem?]; exact e6
          have hK := KC.out w2 hC
          refine op_val (.agg #[.int .i64 0, .string pth, .string lk, .int .i64 nm, .int .i64 nu, .int .i64 ng, .int .i64 nt, .string us, .string gr, .string ⟨#[]⟩]) ?_ hC (Below.refl _ _) (by intro d hd; cases hd; rfl)
          (clear hV hI hC; go_simp <;> (first | rfl | simp))
        case o22 =>
          intro Q a w2 hC hV hI
          have e7 : a.eval (.tmp 7) = .string fl := (hI 7 (by simp [Op.operands]) (by kernel_rfl)).trans rfl
          have f7 : a.tmps.getD 7 undef = .string fl := e7
          have g7 : a.tmps[7]?.getD undef = .string fl := by rw [← Array.getD_eq_getD_getElem?]; exact e7
          refine op_val (.string fl) ?_ hC (Below.refl _ _) (by intro d hd; cases hd; rfl)
          (clear hV hI hC; go_simp <;> (first | rfl | simp))
        case o23 =>
          intro Q a w2 hC hV hI
          have e21 : a.eval (.tmp 21) = .agg #[.int .i64 0, .string pth, .string lk, .int .i64 nm, .int .i64 nu, .int .i64 ng, .int .i64 nt, .string us, .string gr, .string ⟨#[]⟩] := hV 21 (by simp [Op.operands, Call.operands]) (by kernel_rfl)
          have f21 : a.tmps.getD 21 undef = .agg #[.int .i64 0, .string pth, .string lk, .int .i64 nm, .int .i64 nu, .int .i64 ng, .int .i64 nt, .string us, .string gr, .string ⟨#[]⟩] := e21
          have g21 : a.tmps[21]?.getD undef = .agg #[.int .i64 0, .string pth, .string lk, .int .i64 nm, .int .i64 nu, .int .i64 ng, .int .i64 nt, .string us, .string gr, .string ⟨#[]⟩] := by rw [← Array.getD_eq_getD_getElem?]; exact e21
          have e22 : a.eval (.tmp 22) = .string fl := hV 22 (by simp [Op.operands, Call.operands]) (by kernel_rfl)
          have f22 : a.tmps.getD 22 undef = .string fl := e22
          have g22 : a.tmps[22]?.getD undef = .string fl := by rw [← Array.getD_eq_getD_getElem?]; exact e22
          refine op_call (f := 23) (args := #[.agg #[.int .i64 0, .string pth, .string lk, .int .i64 nm, .int .i64 nu, .int .i64 ng, .int .i64 nt, .string us, .string gr, .string ⟨#[]⟩], .string fl]) (R := fun v y => v = .agg #[.int .i64 kk, .string pth, .string lk, .int .i64 nm, .int .i64 nu, .int .i64 ng, .int .i64 nt, .string us, .string gr, .string ⟨#[]⟩] ∧ Below w2.heap.size w2 y) ?_ ((HK.out w2).mono ?_) ?_
          · (clear hV hI hC; go_simp <;> (first | rfl | simp))
          · rintro e y ⟨rfl, hb⟩; exact ⟨_, rfl, rfl, hb⟩
          · rintro v y ⟨rfl, hb⟩; exact ⟨hC.trans (hb.mono hC.size), hb, by intro d hd; cases hd; rfl⟩
        case o24 =>
          intro Q a w2 hC hV hI
          have e7 : a.eval (.tmp 7) = .string fl := (hI 7 (by simp [Op.operands]) (by kernel_rfl)).trans rfl
          have f7 : a.tmps.getD 7 undef = .string fl := e7
          have g7 : a.tmps[7]?.getD undef = .string fl := by rw [← Array.getD_eq_getD_getElem?]; exact e7
          refine op_val (.string fl) ?_ hC (Below.refl _ _) (by intro d hd; cases hd; rfl)
          (clear hV hI hC; go_simp <;> (first | rfl | simp))
        case o25 =>
          intro Q a w2 hC hV hI
          have e8 : a.eval (.tmp 8) = .int .i64 nz := (hI 8 (by simp [Op.operands]) (by kernel_rfl)).trans rfl
          have f8 : a.tmps.getD 8 undef = .int .i64 nz := e8
          have g8 : a.tmps[8]?.getD undef = .int .i64 nz := by rw [← Array.getD_eq_getD_getElem?]; exact e8
          refine op_val (.int .i64 nz) ?_ hC (Below.refl _ _) (by intro d hd; cases hd; rfl)
          (clear hV hI hC; go_simp <;> (first | rfl | simp))
        case o26 =>
          intro Q a w2 hC hV hI
          have e23 : a.eval (.tmp 23) = .agg #[.int .i64 kk, .string pth, .string lk, .int .i64 nm, .int .i64 nu, .int .i64 ng, .int .i64 nt, .string us, .string gr, .string ⟨#[]⟩] := hV 23 (by simp [Op.operands, Call.operands]) (by kernel_rfl)
          have f23 : a.tmps.getD 23 undef = .agg #[.int .i64 kk, .string pth, .string lk, .int .i64 nm, .int .i64 nu, .int .i64 ng, .int .i64 nt, .string us, .string gr, .string ⟨#[]⟩] := e23
          have g23 : a.tmps[23]?.getD undef = .agg #[.int .i64 kk, .string pth, .string lk, .int .i64 nm, .int .i64 nu, .int .i64 ng, .int .i64 nt, .string us, .string gr, .string ⟨#[]⟩] := by rw [← Array.getD_eq_getD_getElem?]; exact e23
          have e24 : a.eval (.tmp 24) = .string fl := hV 24 (by simp [Op.operands, Call.operands]) (by kernel_rfl)
          have f24 : a.tmps.getD 24 undef = .string fl := e24
          have g24 : a.tmps[24]?.getD undef = .string fl := by rw [← Array.getD_eq_getD_getElem?]; exact e24
          have e25 : a.eval (.tmp 25) = .int .i64 nz := hV 25 (by simp [Op.operands, Call.operands]) (by kernel_rfl)
          have f25 : a.tmps.getD 25 undef = .int .i64 nz := e25
          have g25 : a.tmps[25]?.getD undef = .int .i64 nz := by rw [← Array.getD_eq_getD_getElem?]; exact e25
          refine op_call (f := 22) (args := #[.agg #[.int .i64 kk, .string pth, .string lk, .int .i64 nm, .int .i64 nu, .int .i64 ng, .int .i64 nt, .string us, .string gr, .string ⟨#[]⟩], .string fl, .int .i64 nz]) (R := fun v y => v = .string hd ∧ Below w2.heap.size w2 y) ?_ ((HPH.out w2).mono ?_) ?_
          · (clear hV hI hC; go_simp <;> (first | rfl | simp))
          · rintro e y ⟨rfl, hb⟩; exact ⟨_, rfl, rfl, hb⟩
          · rintro v y ⟨rfl, hb⟩; exact ⟨hC.trans (hb.mono hC.size), hb, by intro d hd; cases hd; rfl⟩
        case o27 =>
          intro Q a w2 hC hV hI
          have e0 : a.eval (.tmp 0) = .string s := (hI 0 (by simp [Op.operands]) (by kernel_rfl)).trans rfl
          have f0 : a.tmps.getD 0 undef = .string s := e0
          have g0 : a.tmps[0]?.getD undef = .string s := by rw [← Array.getD_eq_getD_getElem?]; exact e0
          refine op_val (.string s) ?_ hC (Below.refl _ _) (by intro d hd; cases hd; rfl)
          (clear hV hI hC; go_simp <;> (first | rfl | simp))
        case o28 =>
          intro Q a w2 hC hV hI
          have e27 : a.eval (.tmp 27) = .string s := hV 27 (by simp [Op.operands]) (by kernel_rfl)
          have f27 : a.tmps.getD 27 undef = .string s := e27
          have g27 : a.tmps[27]?.getD undef = .string s := by rw [← Array.getD_eq_getD_getElem?]; exact e27
          refine op_val (.string (s.extract 0 512)) ?_ hC (Below.refl _ _) (by intro d hd; cases hd; rfl)
          (clear hV hI hC; go_simp <;> (first | rfl | simp))
        case o29 =>
          intro Q a w2 hC hV hI
          have e26 : a.eval (.tmp 26) = .string hd := hV 26 (by simp [Op.operands]) (by kernel_rfl)
          have f26 : a.tmps.getD 26 undef = .string hd := e26
          have g26 : a.tmps[26]?.getD undef = .string hd := by rw [← Array.getD_eq_getD_getElem?]; exact e26
          have e28 : a.eval (.tmp 28) = .string (s.extract 0 512) := hV 28 (by simp [Op.operands]) (by kernel_rfl)
          have f28 : a.tmps.getD 28 undef = .string (s.extract 0 512) := e28
          have g28 : a.tmps[28]?.getD undef = .string (s.extract 0 512) := by rw [← Array.getD_eq_getD_getElem?]; exact e28
          refine op_val (.bool false) ?_ hC (Below.refl _ _) (by intro d hd; cases hd; rfl)
          (clear hV hI hC; go_simp <;> (first | rfl | simp))
      case hend =>
        intro f w9 hC hall
        simp only [List.forall_mem_cons] at hall
        obtain ⟨h21, h22, h23, h24, h25, h26, h27, h28, h29, _⟩ := hall
        replace h21 : f 21 = .agg #[.int .i64 0, .string pth, .string lk, .int .i64 nm, .int .i64 nu, .int .i64 ng, .int .i64 nt, .string us, .string gr, .string ⟨#[]⟩] := h21 21 rfl
        replace h22 : f 22 = .string fl := h22 22 rfl
        replace h23 : f 23 = .agg #[.int .i64 kk, .string pth, .string lk, .int .i64 nm, .int .i64 nu, .int .i64 ng, .int .i64 nt, .string us, .string gr, .string ⟨#[]⟩] := h23 23 rfl
        replace h24 : f 24 = .string fl := h24 24 rfl
        replace h25 : f 25 = .int .i64 nz := h25 25 rfl
        replace h26 : f 26 = .string hd := h26 26 rfl
        replace h27 : f 27 = .string s := h27 27 rfl
        replace h28 : f 28 = .string (s.extract 0 512) := h28 28 rfl
        replace h29 : f 29 = .bool false := h29 29 rfl
        simp only [putAll, Act.put, List.setIfInBounds_toArray, List.set_cons_succ, List.set_cons_zero, h21, h22, h23, h24, h25, h26, h27, h28, h29]
        clear h21 h22 h23 h24 h25 h26 h27 h28 h29
        have h9 := (hC.block _ (obj_lt OB'.out)).trans OB'.out
        have RO9 := Lib.hid ((hC.block _ zR4).trans RO4.out)
        have B9 := Lib.hid (B4.out.trans (hC.mono B4.out.size))
        have HLd := Lib.hid (run_loadVar_row (P := Tryz.prog) _ _ 23 23 _ (0, 0) _ h9 Tryz.underlying23 rfl (by rw [Tryz.sizeEnt]; rfl))
        have HSt := Lib.hid (run_storeVar_row (P := Tryz.prog) _ w.heap.size 23 23 zEnt #[.int .i64 0, .string pth, .string lk, .int .i64 nm, .int .i64 nu, .int .i64 ng, .int .i64 nt, .string us, .string gr, .string ⟨#[]⟩] RO9.out (by rw [Tryz.sizeEnt]; rfl) rfl (by simp [Value.oneCell']))
        clear hC h9
        go_wp2_with (first | ((with_reducible refine wpList_load_eq rfl 23 _ rfl ⟨w1.heap.size, 0, none⟩ ?_ HLd.out ?_); rfl) | ((with_reducible refine wpList_store_eq rfl 23 _ _ rfl ⟨w.heap.size, 0, none⟩ ?_ ?_ HSt.out ?_); rfl; rfl))
        refine bodyPost_ret (results_cell4 rfl _ _ w.heap.size _ #[.int .i64 0, .string pth, .string lk, .int .i64 nm, .int .i64 nu, .int .i64 ng, .int .i64 nt, .string us, .string gr, .string ⟨#[]⟩] (0, 0) _ rfl (setRow_heap _ _ _ _ _ _ RO9.out) Tryz.underlying23 rfl (by rw [Tryz.sizeEnt]; rfl)) rfl ?_
        rw [HE2.out]
        exact ⟨rfl, B9.out.trans (below_set (Nat.le_refl _) _)⟩
    · have q := ba_ne hq
      have HE2 := Lib.hid (HE.out.trans (if_neg hq))
      clear HE hq
      refine wp_region_inv (by kernel_rfl) (fun w' => Below w4.heap.size w4 w') (fun x y => Below x.heap.size x y) (fun d v _ => match d with | 21 => v = .agg #[.int .i64 0, .string pth, .string lk, .int .i64 nm, .int .i64 nu, .int .i64 ng, .int .i64 nt, .string us, .string gr, .string ⟨#[]⟩] | 22 => v = .string fl | 23 => v = .agg #[.int .i64 kk, .string pth, .string lk, .int .i64 nm, .int .i64 nu, .int .i64 ng, .int .i64 nt, .string us, .string gr, .string ⟨#[]⟩] | 24 => v = .string fl | 25 => v = .int .i64 nz | 26 => v = .string hd | 27 => v = .string s | 28 => v = .string (s.extract 0 512) | 29 => v = .bool true | _ => True) (by kernel_rfl) ((Below.refl _ _).drew) (fun _ _ _ _ _ _ h => h) ?hops ?hend
      case hops =>
        simp only [List.forall_mem_cons]
        refine ⟨?o21, ?o22, ?o23, ?o24, ?o25, ?o26, ?o27, ?o28, ?o29, fun _ h => by cases h⟩
        case o21 =>
          intro Q a w2 hC hV hI
          have e6 : a.eval (.tmp 6) = .pointer (some ⟨w1.heap.size, 0, none⟩) := (hI 6 (by simp [Op.operands]) (by kernel_rfl)).trans rfl
          have f6 : a.tmps.getD 6 undef = .pointer (some ⟨w1.heap.size, 0, none⟩) := e6
          have g6 : a.tmps[6]?.getD undef = .pointer (some ⟨w1.heap.size, 0, none⟩) := by rw [← Array.getD_eq_getD_getElem?]; exact e6
          have hK := KC.out w2 hC
          refine op_val (.agg #[.int .i64 0, .string pth, .string lk, .int .i64 nm, .int .i64 nu, .int .i64 ng, .int .i64 nt, .string us, .string gr, .string ⟨#[]⟩]) ?_ hC (Below.refl _ _) (by intro d hd; cases hd; rfl)
          (clear hV hI hC; go_simp <;> (first | rfl | simp))
        case o22 =>
          intro Q a w2 hC hV hI
          have e7 : a.eval (.tmp 7) = .string fl := (hI 7 (by simp [Op.operands]) (by kernel_rfl)).trans rfl
          have f7 : a.tmps.getD 7 undef = .string fl := e7
          have g7 : a.tmps[7]?.getD undef = .string fl := by rw [← Array.getD_eq_getD_getElem?]; exact e7
          refine op_val (.string fl) ?_ hC (Below.refl _ _) (by intro d hd; cases hd; rfl)
          (clear hV hI hC; go_simp <;> (first | rfl | simp))
        case o23 =>
          intro Q a w2 hC hV hI
          have e21 : a.eval (.tmp 21) = .agg #[.int .i64 0, .string pth, .string lk, .int .i64 nm, .int .i64 nu, .int .i64 ng, .int .i64 nt, .string us, .string gr, .string ⟨#[]⟩] := hV 21 (by simp [Op.operands, Call.operands]) (by kernel_rfl)
          have f21 : a.tmps.getD 21 undef = .agg #[.int .i64 0, .string pth, .string lk, .int .i64 nm, .int .i64 nu, .int .i64 ng, .int .i64 nt, .string us, .string gr, .string ⟨#[]⟩] := e21
          have g21 : a.tmps[21]?.getD undef = .agg #[.int .i64 0, .string pth, .string lk, .int .i64 nm, .int .i64 nu, .int .i64 ng, .int .i64 nt, .string us, .string gr, .string ⟨#[]⟩] := by rw [← Array.getD_eq_getD_getElem?]; exact e21
          have e22 : a.eval (.tmp 22) = .string fl := hV 22 (by simp [Op.operands, Call.operands]) (by kernel_rfl)
          have f22 : a.tmps.getD 22 undef = .string fl := e22
          have g22 : a.tmps[22]?.getD undef = .string fl := by rw [← Array.getD_eq_getD_getElem?]; exact e22
          refine op_call (f := 23) (args := #[.agg #[.int .i64 0, .string pth, .string lk, .int .i64 nm, .int .i64 nu, .int .i64 ng, .int .i64 nt, .string us, .string gr, .string ⟨#[]⟩], .string fl]) (R := fun v y => v = .agg #[.int .i64 kk, .string pth, .string lk, .int .i64 nm, .int .i64 nu, .int .i64 ng, .int .i64 nt, .string us, .string gr, .string ⟨#[]⟩] ∧ Below w2.heap.size w2 y) ?_ ((HK.out w2).mono ?_) ?_
          · (clear hV hI hC; go_simp <;> (first | rfl | simp))
          · rintro e y ⟨rfl, hb⟩; exact ⟨_, rfl, rfl, hb⟩
          · rintro v y ⟨rfl, hb⟩; exact ⟨hC.trans (hb.mono hC.size), hb, by intro d hd; cases hd; rfl⟩
        case o24 =>
          intro Q a w2 hC hV hI
          have e7 : a.eval (.tmp 7) = .string fl := (hI 7 (by simp [Op.operands]) (by kernel_rfl)).trans rfl
          have f7 : a.tmps.getD 7 undef = .string fl := e7
          have g7 : a.tmps[7]?.getD undef = .string fl := by rw [← Array.getD_eq_getD_getElem?]; exact e7
          refine op_val (.string fl) ?_ hC (Below.refl _ _) (by intro d hd; cases hd; rfl)
          (clear hV hI hC; go_simp <;> (first | rfl | simp))
        case o25 =>
          intro Q a w2 hC hV hI
          have e8 : a.eval (.tmp 8) = .int .i64 nz := (hI 8 (by simp [Op.operands]) (by kernel_rfl)).trans rfl
          have f8 : a.tmps.getD 8 undef = .int .i64 nz := e8
          have g8 : a.tmps[8]?.getD undef = .int .i64 nz := by rw [← Array.getD_eq_getD_getElem?]; exact e8
          refine op_val (.int .i64 nz) ?_ hC (Below.refl _ _) (by intro d hd; cases hd; rfl)
          (clear hV hI hC; go_simp <;> (first | rfl | simp))
        case o26 =>
          intro Q a w2 hC hV hI
          have e23 : a.eval (.tmp 23) = .agg #[.int .i64 kk, .string pth, .string lk, .int .i64 nm, .int .i64 nu, .int .i64 ng, .int .i64 nt, .string us, .string gr, .string ⟨#[]⟩] := hV 23 (by simp [Op.operands, Call.operands]) (by kernel_rfl)
          have f23 : a.tmps.getD 23 undef = .agg #[.int .i64 kk, .string pth, .string lk, .int .i64 nm, .int .i64 nu, .int .i64 ng, .int .i64 nt, .string us, .string gr, .string ⟨#[]⟩] := e23
          have g23 : a.tmps[23]?.getD undef = .agg #[.int .i64 kk, .string pth, .string lk, .int .i64 nm, .int .i64 nu, .int .i64 ng, .int .i64 nt, .string us, .string gr, .string ⟨#[]⟩] := by rw [← Array.getD_eq_getD_getElem?]; exact e23
          have e24 : a.eval (.tmp 24) = .string fl := hV 24 (by simp [Op.operands, Call.operands]) (by kernel_rfl)
          have f24 : a.tmps.getD 24 undef = .string fl := e24
          have g24 : a.tmps[24]?.getD undef = .string fl := by rw [← Array.getD_eq_getD_getElem?]; exact e24
          have e25 : a.eval (.tmp 25) = .int .i64 nz := hV 25 (by simp [Op.operands, Call.operands]) (by kernel_rfl)
          have f25 : a.tmps.getD 25 undef = .int .i64 nz := e25
          have g25 : a.tmps[25]?.getD undef = .int .i64 nz := by rw [← Array.getD_eq_getD_getElem?]; exact e25
          refine op_call (f := 22) (args := #[.agg #[.int .i64 kk, .string pth, .string lk, .int .i64 nm, .int .i64 nu, .int .i64 ng, .int .i64 nt, .string us, .string gr, .string ⟨#[]⟩], .string fl, .int .i64 nz]) (R := fun v y => v = .string hd ∧ Below w2.heap.size w2 y) ?_ ((HPH.out w2).mono ?_) ?_
          · (clear hV hI hC; go_simp <;> (first | rfl | simp))
          · rintro e y ⟨rfl, hb⟩; exact ⟨_, rfl, rfl, hb⟩
          · rintro v y ⟨rfl, hb⟩; exact ⟨hC.trans (hb.mono hC.size), hb, by intro d hd; cases hd; rfl⟩
        case o27 =>
          intro Q a w2 hC hV hI
          have e0 : a.eval (.tmp 0) = .string s := (hI 0 (by simp [Op.operands]) (by kernel_rfl)).trans rfl
          have f0 : a.tmps.getD 0 undef = .string s := e0
          have g0 : a.tmps[0]?.getD undef = .string s := by rw [← Array.getD_eq_getD_getElem?]; exact e0
          refine op_val (.string s) ?_ hC (Below.refl _ _) (by intro d hd; cases hd; rfl)
          (clear hV hI hC; go_simp <;> (first | rfl | simp))
        case o28 =>
          intro Q a w2 hC hV hI
          have e27 : a.eval (.tmp 27) = .string s := hV 27 (by simp [Op.operands]) (by kernel_rfl)
          have f27 : a.tmps.getD 27 undef = .string s := e27
          have g27 : a.tmps[27]?.getD undef = .string s := by rw [← Array.getD_eq_getD_getElem?]; exact e27
          refine op_val (.string (s.extract 0 512)) ?_ hC (Below.refl _ _) (by intro d hd; cases hd; rfl)
          (clear hV hI hC; go_simp <;> (first | rfl | simp))
        case o29 =>
          intro Q a w2 hC hV hI
          have e26 : a.eval (.tmp 26) = .string hd := hV 26 (by simp [Op.operands]) (by kernel_rfl)
          have f26 : a.tmps.getD 26 undef = .string hd := e26
          have g26 : a.tmps[26]?.getD undef = .string hd := by rw [← Array.getD_eq_getD_getElem?]; exact e26
          have e28 : a.eval (.tmp 28) = .string (s.extract 0 512) := hV 28 (by simp [Op.operands]) (by kernel_rfl)
          have f28 : a.tmps.getD 28 undef = .string (s.extract 0 512) := e28
          have g28 : a.tmps[28]?.getD undef = .string (s.extract 0 512) := by rw [← Array.getD_eq_getD_getElem?]; exact e28
          refine op_val (.bool true) ?_ hC (Below.refl _ _) (by intro d hd; cases hd; rfl)
          (clear hV hI hC; go_simp <;> (first | rfl | simp))
      case hend =>
        intro f w9 hC hall
        simp only [List.forall_mem_cons] at hall
        obtain ⟨h21, h22, h23, h24, h25, h26, h27, h28, h29, _⟩ := hall
        replace h21 : f 21 = .agg #[.int .i64 0, .string pth, .string lk, .int .i64 nm, .int .i64 nu, .int .i64 ng, .int .i64 nt, .string us, .string gr, .string ⟨#[]⟩] := h21 21 rfl
        replace h22 : f 22 = .string fl := h22 22 rfl
        replace h23 : f 23 = .agg #[.int .i64 kk, .string pth, .string lk, .int .i64 nm, .int .i64 nu, .int .i64 ng, .int .i64 nt, .string us, .string gr, .string ⟨#[]⟩] := h23 23 rfl
        replace h24 : f 24 = .string fl := h24 24 rfl
        replace h25 : f 25 = .int .i64 nz := h25 25 rfl
        replace h26 : f 26 = .string hd := h26 26 rfl
        replace h27 : f 27 = .string s := h27 27 rfl
        replace h28 : f 28 = .string (s.extract 0 512) := h28 28 rfl
        replace h29 : f 29 = .bool true := h29 29 rfl
        simp only [putAll, Act.put, List.setIfInBounds_toArray, List.set_cons_succ, List.set_cons_zero, h21, h22, h23, h24, h25, h26, h27, h28, h29]
        clear h21 h22 h23 h24 h25 h26 h27 h28 h29
        have RO9 := Lib.hid ((hC.block _ zR4).trans RO4.out)
        have B9 := Lib.hid (B4.out.trans (hC.mono B4.out.size))
        have HSt := Lib.hid (run_storeVar_row (P := Tryz.prog) _ w.heap.size 23 23 zEnt zEnt RO9.out (by rw [Tryz.sizeEnt]; rfl) rfl (by simp [zEnt, Value.oneCell']))
        clear hC
        go_wp2_with ((with_reducible refine wpList_store_eq rfl 23 _ _ rfl ⟨w.heap.size, 0, none⟩ ?_ ?_ HSt.out ?_); rfl; rfl)
        refine bodyPost_ret (results_cell4 rfl _ _ w.heap.size _ zEnt (0, 0) _ rfl (setRow_heap _ _ _ _ _ _ RO9.out) Tryz.underlying23 rfl (by rw [Tryz.sizeEnt]; rfl)) rfl ?_
        rw [HE2.out]
        exact ⟨rfl, B9.out.trans (below_set (Nat.le_refl _) _)⟩
  · have HE : Hid (getV s = .tuple #[.agg zEnt, .string ⟨#[]⟩, .int .i64 0, .int .i64 (rdc s)]) := Lib.hid (by rw [getV, hdc_bad h0, if_neg h0])
    rw [readS_bad rfl h0] at H1
    generalize rdc s = cd at *
    go_enter Tryz.func7, Tryz.ntmps7
    go_wp2_with fail
    refine (H1.out _).mono ?_
    rintro e w1 ⟨rfl, hb⟩
    have R1 := (hb.block _ (obj_lt R0.out)).trans R0.out
    have B1 := B0.out.trans (hb.mono B0.out.size)
    have HSn := Lib.hid (run_storeVar_new (P := Tryz.prog) w1 23 zEnt zEnt (by rw [Tryz.sizeEnt]; rfl) rfl (by simp [zEnt, Value.oneCell']))
    have BX := (Below.refl w1.heap.size w1).alloc (Nat.le_refl _) (.cells zEnt 23)
    have RO7 := Lib.hid ((BX.block _ (obj_lt R1)).trans R1)
    have B7 := Lib.hid (B1.trans (BX.mono B1.size))
    have HSt := Lib.hid (run_storeVar_row (P := Tryz.prog) _ w.heap.size 23 23 zEnt zEnt RO7.out (by rw [Tryz.sizeEnt]; rfl) rfl (by simp [zEnt, Value.oneCell']))
    clear hb R0 B0 H1 BX R1 B1
    go_wp2_with (first | ((with_reducible refine wpList_store_eq rfl 23 _ _ rfl ⟨w1.heap.size, 0, none⟩ ?_ ?_ HSn.out ?_); rfl; rfl) | ((with_reducible refine wpList_store_eq rfl 23 _ _ rfl ⟨w.heap.size, 0, none⟩ ?_ ?_ HSt.out ?_); rfl; rfl))
    refine bodyPost_ret (results_cell4 rfl _ _ w.heap.size _ zEnt (0, 0) _ rfl (setRow_heap _ _ _ _ _ _ RO7.out) Tryz.underlying23 rfl (by rw [Tryz.sizeEnt]; rfl)) rfl ?_
    rw [HE.out]
    exact ⟨rfl, B7.out.trans (below_set (Nat.le_refl _) _)⟩
end Go.Proofs.YtkpdeeembnjmnabGreatDoor

/- Contracts of laws.eqEntry and laws.eqEntryS where both are the same. -/
namespace Go.Proofs.YtkpdeeembnjmnabGreatDoor
open Go.ChangeShapes Go.WideShapes Go.ChangeAt Go.RowKit Go.Deep

theorem eqEntry_self (k : Int) (p l : ByteArray) (m u g t : Int) (us gr b : ByteArray) (w : World) :
    Calls Tryz.prog 9 #[.agg #[.int .i64 k, .string p, .string l, .int .i64 m, .int .i64 u, .int .i64 g, .int .i64 t, .string us, .string gr, .string b], .agg #[.int .i64 k, .string p, .string l, .int .i64 m, .int .i64 u, .int .i64 g, .int .i64 t, .string us, .string gr, .string b]] w fun e w' => e = .returned (.bool true) ∧ Below w.heap.size w w' := by
  have q1 : (p.toList == p.toList) = true := by simp
  have q2 : (l.toList == l.toList) = true := by simp
  have q3 : (us.toList == us.toList) = true := by simp
  have q4 : (gr.toList == gr.toList) = true := by simp
  have q5 : (b.toList == b.toList) = true := by simp
  go_enter Tryz.func9, Tryz.ntmps9
  go_wp2_with fail
  go_ret
  exact ⟨rfl, ((Below.refl _ w).alloc (Nat.le_refl _) _).alloc (by simp) _⟩
theorem bl_ch {w x w1 : World} (h1 : Below x.heap.size x w1) (os : x.os = w.os) (tape : x.tape = w.tape) (out : x.output = w.output) (hs : w.heap.size ≤ x.heap.size) (B : Nat) (hB : B ≤ x.heap.size) (hb : ∀ k, k < B → x.heap[k]? = w.heap[k]?) : Below B w w1 :=
  ⟨h1.os.trans os, h1.tape.trans tape, h1.output.trans out, Nat.le_trans hs h1.size, fun k hk => (h1.block k (Nat.lt_of_lt_of_le hk hB)).trans (hb k hk)⟩
theorem getE {L : List Ent} {i : Nat} (h : i < L.length) : ∃ e, L[i]? = some e := ⟨L[i], List.getElem?_eq_getElem h⟩
set_option maxHeartbeats 1600000 in
theorem eqEntryS_any (L : List Ent) (n g g2 ca cb : Nat) (w : World) (hn : n = L.length) (hm : n ≤ 4194304) (hg : g < w.heap.size) (hg2 : g2 < w.heap.size) (h1 : RowE w g L) (h2 : RowE w g2 L) :
    Calls Tryz.prog 14 #[.slice (some ⟨g, 0, none⟩) n ca, .slice (some ⟨g2, 0, none⟩) n cb] w fun e w' => e = .returned (.bool true) ∧ Below w.heap.size w w' := by
  have H1 := Lib.hid h1
  have H2 := Lib.hid h2
  have HG : Hid (∀ i, i < n → ∃ e, L[i]? = some e) := Lib.hid (fun i hi => getE (by omega))
  clear h1 h2 hn
  go_enter Tryz.func14, Tryz.ntmps14
  go_wp2_with fail
  go_loopw [5] (fun u wr => ∃ i : Nat, u = .int .i64 i ∧ i ≤ n ∧ Below w.heap.size w wr) (fun u _ => n - (intOf u).toNat)
  case atStart => exact ⟨0, rfl, Nat.zero_le _, Below.refl _ _⟩
  case round =>
    obtain ⟨i, rfl, hi, hb⟩ := hrel
    have B := Lib.hid hb
    clear hb
    by_cases hlt : i < n
    · have hlt2 : (i : Int) < (n : Int) := by omega
      obtain ⟨e, he⟩ := HG.out i hlt
      have R1 := Lib.hid (H1.out.below B.out hg)
      have R2 := Lib.hid (H2.out.below B.out hg2)
      obtain ⟨c0, c1, c2, c3, c4, c5, c6, c7, c8, c9⟩ := R1.out.ten he
      obtain ⟨d0, d1, d2, d3, d4, d5, d6, d7, d8, d9⟩ := R2.out.ten he
      clear he R1 R2
      obtain ⟨k, p, l, m, u, g0, t, us, gr, b⟩ := e
      have HQ := Lib.hid (fun w => eqEntry_self k p l m u g0 t us gr b w)
      go_wp2_with fail
      have hsz := B.out.size
      go_region_with (go_at_call 9; refine (HQ.out _).mono ?_; rintro e w1 ⟨rfl, hb1⟩; have B1 := Lib.hid (bl_ch hb1 B.out.os B.out.tape B.out.output hsz w.heap.size hsz B.out.block); clear hb1)
      all_goals
        go_wp2_with fail
        go_roundw
        case rel => exact ⟨i + 1, by go_num, by omega, B1.out.os, B1.out.tape, B1.out.output, B1.out.size, B1.out.block⟩
        case measure => simp [intOf]; omega
    · have hlt2 : ¬ (i : Int) < (n : Int) := by omega
      go_wp2_with fail
      go_ret
      exact ⟨rfl, B.out⟩
end Go.Proofs.YtkpdeeembnjmnabGreatDoor

/- The law laws.FnExactGetHead returns true. -/
namespace Go.Proofs.YtkpdeeembnjmnabGreatDoor
open Go.ChangeShapes Go.WideShapes Go.ChangeAt Go.RowKit

theorem getV_form (s : ByteArray) : ∃ (k : Int) (p l : ByteArray) (m u g t : Int) (us gr b fl : ByteArray) (z c : Int), getV s = .tuple #[.agg #[.int .i64 k, .string p, .string l, .int .i64 m, .int .i64 u, .int .i64 g, .int .i64 t, .string us, .string gr, .string b], .string fl, .int .i64 z, .int .i64 c] := by
  unfold getV
  split
  · exact ⟨_, _, _, _, _, _, _, _, _, _, _, _, _, rfl⟩
  · exact ⟨_, _, _, _, _, _, _, _, _, _, _, _, _, rfl⟩
set_option maxHeartbeats 1600000 in
set_option maxRecDepth 8000 in
theorem getHead_law (s : ByteArray) (w : World) (hT : Tabs w) (hF : FW w) (hH : Handle w) :
    Calls Tryz.prog 3 #[.string s] w fun e w' => e = .returned (.bool true) ∧ Below w.heap.size w w' := by
  by_cases hs : (s.size : Int) ≤ 1048576
  · have S1 := Lib.hid (fun w => getHead_spec s w (by omega))
    have S2 := Lib.hid (fun w hT hF hH => getHead_impl s w (by omega) hT hF hH)
    obtain ⟨k, p, l, m, u, g, t, us, gr, b, fl, z, c, hg⟩ := getV_form s
    rw [hg] at S1 S2
    have HQ := Lib.hid (fun w => eqEntry_self k p l m u g t us gr b w)
    have q : (fl.toList == fl.toList) = true := by simp
    have HT := Lib.hid hT
    have HF := Lib.hid hF
    have HH := Lib.hid hH
    clear hT hF hH hg
    go_enter Tryz.func3, Tryz.ntmps3
    go_wp2_with fail
    refine (S1.out _).mono ?_
    rintro e w1 ⟨rfl, hb⟩
    have B1 := Lib.hid hb
    have HS1 := Lib.hid (run_storeVar_new (P := Tryz.prog) w1 23 zEnt #[.int .i64 k, .string p, .string l, .int .i64 m, .int .i64 u, .int .i64 g, .int .i64 t, .string us, .string gr, .string b] (by rw [Tryz.sizeEnt]; rfl) rfl (by simp [Value.oneCell']))
    have O2 := heap_alloc_last w1 (.cells #[.int .i64 k, .string p, .string l, .int .i64 m, .int .i64 u, .int .i64 g, .int .i64 t, .string us, .string gr, .string b] 23)
    have B2 := Lib.hid (B1.out.alloc B1.out.size (.cells #[.int .i64 k, .string p, .string l, .int .i64 m, .int .i64 u, .int .i64 g, .int .i64 t, .string us, .string gr, .string b] 23))
    clear hb S1
    go_wp2_with ((with_reducible refine wpList_store_eq rfl 23 _ _ rfl ⟨w1.heap.size, 0, none⟩ ?_ ?_ HS1.out ?_); rfl; rfl)
    clear HS1
    generalize w1.alloc (.cells #[.int .i64 k, .string p, .string l, .int .i64 m, .int .i64 u, .int .i64 g, .int .i64 t, .string us, .string gr, .string b] 23) = w2 at *
    refine (S2.out _ (HT.out.below B2.out) (HF.out.below B2.out) (HH.out.below B2.out)).mono ?_
    rintro e w3 ⟨rfl, hb⟩
    have O3 := (hb.block _ (obj_lt O2)).trans O2
    have B3 := Lib.hid (B2.out.trans (hb.mono B2.out.size))
    have HS2 := Lib.hid (run_storeVar_new (P := Tryz.prog) w3 23 zEnt #[.int .i64 k, .string p, .string l, .int .i64 m, .int .i64 u, .int .i64 g, .int .i64 t, .string us, .string gr, .string b] (by rw [Tryz.sizeEnt]; rfl) rfl (by simp [Value.oneCell']))
    have O4 := heap_alloc_last w3 (.cells #[.int .i64 k, .string p, .string l, .int .i64 m, .int .i64 u, .int .i64 g, .int .i64 t, .string us, .string gr, .string b] 23)
    have B4 := Lib.hid (B3.out.alloc B3.out.size (.cells #[.int .i64 k, .string p, .string l, .int .i64 m, .int .i64 u, .int .i64 g, .int .i64 t, .string us, .string gr, .string b] 23))
    have O5 := (((Below.refl w3.heap.size w3).alloc (Nat.le_refl _) (.cells #[.int .i64 k, .string p, .string l, .int .i64 m, .int .i64 u, .int .i64 g, .int .i64 t, .string us, .string gr, .string b] 23)).block _ (obj_lt O3)).trans O3
    have HL1 := Lib.hid (run_loadVar_row (P := Tryz.prog) _ _ 23 23 _ (0, 0) _ O4 Tryz.underlying23 rfl (by rw [Tryz.sizeEnt]; rfl))
    have HL2 := Lib.hid (run_loadVar_row (P := Tryz.prog) _ _ 23 23 _ (0, 0) _ O5 Tryz.underlying23 rfl (by rw [Tryz.sizeEnt]; rfl))
    clear hb S2 HT HF HH O2 O3 O4 O5 B1 B2 B3
    go_wp2_with (first | ((with_reducible refine wpList_store_eq rfl 23 _ _ rfl ⟨w3.heap.size, 0, none⟩ ?_ ?_ HS2.out ?_); rfl; rfl) | ((with_reducible refine wpList_load_eq rfl 23 _ rfl ⟨w3.heap.size, 0, none⟩ ?_ HL1.out ?_); rfl) | ((with_reducible refine wpList_load_eq rfl 23 _ rfl ⟨w1.heap.size, 0, none⟩ ?_ HL2.out ?_); rfl))
    refine (HQ.out _).mono ?_
    rintro e w5 ⟨rfl, hb⟩
    have B5 := Lib.hid (B4.out.trans (hb.mono B4.out.size))
    clear hb
    go_wp2_with fail
    go_ret
    exact ⟨rfl, B5.out⟩
  · go_enter Tryz.func3, Tryz.ntmps3
    go_wp2_with fail
    go_ret
    exact ⟨rfl, Below.refl _ _⟩
end Go.Proofs.YtkpdeeembnjmnabGreatDoor
