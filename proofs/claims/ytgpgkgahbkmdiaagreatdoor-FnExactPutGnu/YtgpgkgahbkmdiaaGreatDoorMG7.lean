/- Texts joined: RegTail, PutGnuI, GnuT. -/
import Derived.Test.YtgpgkgahbkmdiaaGreatDoorMG6
/- A statement that draws its order but for its last operations, which come behind all others in their own order. Nothing of the program is said here. -/
namespace Go.Proofs.YtgpgkgahbkmdiaaGreatDoor
open Go

section
variable {P : Program} {Q : Exit → Act → World → Prop}

/-- Each operation ahead of i has one behind it, up to i, that waits for it. -/
def covB (md : Region.Mode) (ops : Array Oper) (i : Nat) : Bool :=
  (List.range i).all fun k => (List.range (i + 1)).any fun k' => decide (k < k') && (match ops[k']? with | some o => o.after.any (fun e => Region.binds md e && e.on == k) | none => false)
def tailB (md : Region.Mode) (l t : List Oper) : Bool :=
  t.all (fun o => o.guard.isNone) && (List.range t.length).all (fun j => covB md (l ++ t).toArray (l.length + j)) && (List.range t.length).all (fun j => match (l ++ t).toArray[l.length + j]? with | some o => o.after.all (fun e => !Region.binds md e || decide (e.on < l.length + j)) | none => true)
theorem cov_all {md : Region.Mode} {ops : Array Oper} {i : Nat} {o : Oper} {listed : Array Bool} (hc : covB md ops i = true) (ho : ops[i]? = some o)
    (clo : ∀ j p, ops[j]? = some p → listed.getD j false = true → ∀ e ∈ p.after, Region.binds md e = true → listed.getD e.on false = true)
    (hall : ∀ e ∈ o.after, Region.binds md e = true → listed.getD e.on false = true) : ∀ k, k < i → listed.getD k false = true := by
  have key : ∀ n k, k < i → i - k ≤ n → listed.getD k false = true := by
    intro n
    induction n with
    | zero => intro k hk hn; omega
    | succ n ih =>
      intro k hk hn
      have h1 := List.all_eq_true.1 hc k (List.mem_range.2 hk)
      obtain ⟨k', hk', h2⟩ := List.any_eq_true.1 h1
      rw [List.mem_range] at hk'
      simp only [Bool.and_eq_true, decide_eq_true_eq] at h2
      cases hp : ops[k']? with
      | none => rw [hp] at h2; simp at h2
      | some p =>
        rw [hp] at h2
        simp only [Array.any_eq_true', Bool.and_eq_true, beq_iff_eq] at h2
        obtain ⟨hlt, e, he, hb, rfl⟩ := h2
        by_cases q : k' = i
        · subst q
          rw [ho] at hp
          obtain rfl := Option.some.inj hp
          exact hall e he hb
        · exact clo k' p hp (ih k' (by omega) (by omega)) e he hb
  exact fun k hk => key (i - k) k hk (Nat.le_refl _)
theorem wp_region_tail {id : Nat} {a0 : Act} {w0 : World} (l t : List Oper) (hm : P.follows .mixedOrders = true) (C : World → Prop) (St : World → World → Prop) (V : Nat → Value → World → Prop) (hB : regB .any l.toArray a0.tmps.size = true) (hTl : tailB .any l t = true)
    (hC : C { w0 with drawn := w0.drawn + 1 }) (hV : ∀ d v w w', C w → St w w' → V d v w → V d v w') (hne : l ≠ []) (hops : ∀ o ∈ l, OpOk P l.toArray C St V a0 o)
    (hend : ∀ (f : Nat → Value) (w : World), C w → (∀ o ∈ l, ∀ d, o.dst = some d → V d (f d) w) → wpList P (l ++ t).toArray Q t (putAll f l a0) w) : (Code.region id (l ++ t).toArray true).wp P Q a0 w0 := by
  simp only [tailB, Bool.and_eq_true] at hTl
  obtain ⟨⟨hg, hcov⟩, hlt⟩ := hTl
  have hsz : (l ++ t).toArray.size = l.length + t.length := by simp
  have hleft : ∀ i o, i < l.length → ((l ++ t).toArray[i]? = some o ↔ l.toArray[i]? = some o) := by
    intro i o hi
    simp [List.getElem?_append_left hi]
  refine wp_region_any hm (wpAny_inv (fun listed a w => listed.size = (l ++ t).toArray.size ∧ (∀ j p, (l ++ t).toArray[j]? = some p → listed.getD j false = true → ∀ e ∈ p.after, Region.binds .any e = true → listed.getD e.on false = true) ∧
    ((∃ k, k ≤ t.length ∧ (∀ i, i < l.length + k → listed.getD i false = true) ∧ (∀ i, l.length + k ≤ i → listed.getD i false = false) ∧ wpList P (l ++ t).toArray Q (t.drop k) a w) ∨
     ((∃ i, i < l.length ∧ listed.getD i false = false) ∧ (∀ i, l.length ≤ i → listed.getD i false = false) ∧ C w ∧ a.defers = a0.defers ∧ a.tmps.size = a0.tmps.size ∧
      (∀ s, (∀ i o, l.toArray[i]? = some o → listed.getD i false = true → o.dst ≠ some s) → a.tmps.getD s undef = a0.tmps.getD s undef) ∧
      (∀ i o d, l.toArray[i]? = some o → listed.getD i false = true → o.dst = some d → V d (a.tmps.getD d undef) w)))) ?_ ?_ _ _ _ _ ?_ ?_)
  · rintro listed a w ⟨hs, clo, hI⟩ i hi
    obtain ⟨hun, o, ho, hall⟩ := mem_ready.1 hi
    have hil : i < listed.size := by rw [hs]; exact (Array.getElem?_eq_some_iff.1 ho).1
    have hun' : listed.getD i false = false := by simp only [Array.getD, hil, dif_pos] at hun ⊢; exact hun
    have hup : ∀ k, listed.getD k false = true → (listed.setIfInBounds i true).getD k false = true := fun k hk => by
      by_cases q : k = i
      · subst q; exact set_getD_self hil
      · rw [set_getD_ne q]; exact hk
    have clo' : ∀ j p, (l ++ t).toArray[j]? = some p → (listed.setIfInBounds i true).getD j false = true → ∀ e ∈ p.after, Region.binds .any e = true → (listed.setIfInBounds i true).getD e.on false = true := by
      intro j p hp hl e he hb
      by_cases hj : j = i
      · subst hj
        rw [ho] at hp
        obtain rfl := Option.some.inj hp
        exact hup _ (hall e he hb)
      · rw [set_getD_ne hj] at hl
        exact hup _ (clo j p hp hl e he hb)
    rcases hI with ⟨k, hk, h1, h2, hw⟩ | ⟨⟨i0, hi0, hu0⟩, hnt, hCw, hd, hts, hold, hnew⟩
    · have hik : l.length + k ≤ i := by
        by_cases q : l.length + k ≤ i
        · exact q
        · rw [h1 i (by omega)] at hun'; cases hun'
      have hit : i < l.length + t.length := by rw [← hsz]; exact (Array.getElem?_eq_some_iff.1 ho).1
      have hcv : covB .any (l ++ t).toArray i = true := by
        have := List.all_eq_true.1 hcov (i - l.length) (List.mem_range.2 (by omega))
        rwa [show l.length + (i - l.length) = i from by omega] at this
      have hbef := cov_all hcv ho clo hall
      obtain rfl : i = l.length + k := by
        by_cases q : i = l.length + k
        · exact q
        · have := hbef (l.length + k) (by omega)
          rw [h2 _ (Nat.le_refl _)] at this
          cases this
      have hkt : k < t.length := by omega
      have hot : t[k]? = some o := by
        have : (l ++ t)[l.length + k]? = some o := by simpa using ho
        rw [List.getElem?_append_right (by omega)] at this
        simpa using this
      have hgd : o.guard = none := by
        have := List.all_eq_true.1 hg o (List.mem_of_getElem? hot)
        simpa using this
      have hwant : Region.wanted o (yielded (l ++ t).toArray a.tmps) = true := by simp [Region.wanted, hgd]
      have hdrop : t.drop k = o :: t.drop (k + 1) := by
        rw [List.drop_eq_getElem_cons hkt]
        congr 1
        have := List.getElem?_eq_getElem hkt
        rw [hot] at this
        exact (Option.some.inj this).symm
      rw [hdrop, wpList, if_pos hwant] at hw
      unfold wpOp
      simp only [ho, hwant, if_true]
      refine hw.imp (Oper.wp_mono (fun a' w' h' => ?_)) (fun x => x)
      refine ⟨by simpa using hs, clo', .inl ⟨k + 1, by omega, fun j hj => ?_, fun j hj => ?_, h'⟩⟩
      · by_cases q : j = l.length + k
        · subst q; exact set_getD_self hil
        · rw [set_getD_ne q]; exact h1 j (by omega)
      · rw [set_getD_ne (by omega)]; exact h2 j (by omega)
    · have him : i < l.length := by
        by_cases q : i < l.length
        · exact q
        · have hit : i < l.length + t.length := by rw [← hsz]; exact (Array.getElem?_eq_some_iff.1 ho).1
          have hcv : covB .any (l ++ t).toArray i = true := by
            have := List.all_eq_true.1 hcov (i - l.length) (List.mem_range.2 (by omega))
            rwa [show l.length + (i - l.length) = i from by omega] at this
          have := cov_all hcv ho clo hall i0 (by omega)
          rw [hu0] at this
          cases this
      have hol := (hleft i o him).1 ho
      have hat := regB_at hB hol
      have hmem : o ∈ l := by
        have := Array.mem_of_getElem? hol
        simpa using this
      have hwant : Region.wanted o (yielded (l ++ t).toArray a.tmps) = true := by simp [Region.wanted, hat.1]
      have hrun := hops o hmem Q a w hCw (fun s hs' hin => ?_) (fun s hs' hin => ?_)
      · unfold wpOp
        simp only [ho, hwant, if_true]
        refine .inl (Oper.wp_mono (fun a' w' h' => ?_) hrun)
        obtain ⟨v, rfl, hC', hSt, hv⟩ := h'
        have hd' : (a.put o.dst v).defers = a0.defers := by cases hdst : o.dst <;> simp [Act.put, hd]
        have hts' : (a.put o.dst v).tmps.size = a0.tmps.size := by cases hdst : o.dst <;> simp [Act.put, hts]
        have hold' : ∀ s, (∀ j p, l.toArray[j]? = some p → (listed.setIfInBounds i true).getD j false = true → p.dst ≠ some s) → (a.put o.dst v).tmps.getD s undef = a0.tmps.getD s undef := by
          intro s hs'
          have hne' : o.dst ≠ some s := hs' i o hol (set_getD_self hil)
          have h1 := hold s (fun j p hp hl => hs' j p hp (hup j hl))
          rw [← h1]
          cases hdst : o.dst with
          | none => rfl
          | some d =>
            have hdt : d ≠ s := fun e => hne' (by rw [hdst, e])
            exact getD_put_ne hdt
        have hnew' : ∀ j p d, l.toArray[j]? = some p → (listed.setIfInBounds i true).getD j false = true → p.dst = some d → V d ((a.put o.dst v).tmps.getD d undef) w' := by
          intro j p d hp hl hd2
          by_cases hj : j = i
          · subst hj
            rw [hol] at hp
            obtain rfl := Option.some.inj hp
            have hdl := hat.2.1 d hd2
            have : (a.put o.dst v).tmps.getD d undef = v := by
              rw [hd2]; simp [Act.put, Array.getD, hts, hdl]
            rw [this]
            exact hv d hd2
          · have hl' : listed.getD j false = true := by rw [set_getD_ne hj] at hl; exact hl
            have hne' : o.dst ≠ some d := ((hat.2.2.2 j p d hp hd2).1).resolve_left (Ne.symm hj)
            have hold2 := hnew j p d hp hl' hd2
            have : (a.put o.dst v).tmps.getD d undef = a.tmps.getD d undef := by
              cases hdst : o.dst with
              | none => rfl
              | some d' =>
                have hdt : d' ≠ d := fun e => hne' (by rw [hdst, e])
                exact getD_put_ne hdt
            rw [this]
            exact hV d _ _ _ hCw hSt hold2
        have hnt' : ∀ j, l.length ≤ j → (listed.setIfInBounds i true).getD j false = false := fun j hj => by rw [set_getD_ne (by omega)]; exact hnt j hj
        refine ⟨by simpa using hs, clo', ?_⟩
        by_cases hfull : ∀ j, j < l.length → (listed.setIfInBounds i true).getD j false = true
        · refine .inl ⟨0, Nat.zero_le _, fun j hj => hfull j (by omega), fun j hj => hnt' j (by omega), ?_⟩
          have hput := putAll_facts (fun d => (a.put o.dst v).tmps.getD d undef) l a0
          have ha : a.put o.dst v = putAll (fun d => (a.put o.dst v).tmps.getD d undef) l a0 := by
            refine act_ext (hd'.trans hput.1.symm) (hts'.trans hput.2.1.symm) (fun s hs' => ?_)
            rw [hput.2.1] at hs'
            rw [hput.2.2 s hs']
            by_cases h : l.any (fun o => o.dst == some s) = true
            · rw [if_pos h]
            · rw [if_neg h]
              refine hold' s (fun j p hp _ hd2 => h ?_)
              rw [List.any_eq_true]
              exact ⟨p, by have := Array.mem_of_getElem? hp; simpa using this, by rw [hd2]; simp⟩
          rw [List.drop_zero, ha]
          refine hend _ w' hC' (fun p hp d hd2 => ?_)
          obtain ⟨j, hj⟩ := List.mem_iff_getElem?.1 hp
          have hj' : l.toArray[j]? = some p := by simpa using hj
          exact hnew' j p d hj' (hfull j (List.getElem?_eq_some_iff.1 hj).1) hd2
        · refine .inr ⟨?_, hnt', hC', hd', hts', hold', hnew'⟩
          obtain ⟨j, hj⟩ := Classical.not_forall.1 hfull
          obtain ⟨hj1, hj2⟩ := Classical.not_imp.1 hj
          exact ⟨j, hj1, by simpa using hj2⟩
      · obtain ⟨j, p, hp, hd2⟩ := oldB_f hin
        obtain ⟨e, he, hb, rfl⟩ := (hat.2.2.2 j p s hp hd2).2 (by simpa using hs') hin
        exact hnew e.on p s hp (hall e he hb) hd2
      · refine hold s (fun j p hp hl hd2 => ?_)
        obtain ⟨d, hod, e, he, hb, hq⟩ := oldB_t hin hp hd2
        have hjl : j < l.length := by have := (Array.getElem?_eq_some_iff.1 hp).1; simpa using this
        have hel := clo j p ((hleft j p hjl).2 hp) hl e he hb
        cases hqq : l.toArray[e.on]? with
        | none => rw [hqq] at hq; cases hq
        | some q =>
          rw [hqq] at hq
          rcases (hat.2.2.2 e.on q d hqq hq).1 with rfl | h
          · rw [hun'] at hel; cases hel
          · exact h hod
  · rintro listed a w ⟨hs, clo, hI⟩ hr
    have hal : ∀ i, i < (l ++ t).toArray.size → listed.getD i false = true := by
      intro i
      induction i using Nat.strongRecOn with
      | ind i ih =>
        intro hi
        cases h : listed.getD i false with
        | true => rfl
        | false =>
          have ho : (l ++ t).toArray[i]? = some (l ++ t).toArray[i] := Array.getElem?_eq_getElem hi
          have hmem : i ∈ Region.ready .any (l ++ t).toArray listed := by
            have hil : i < listed.size := by rw [hs]; exact hi
            refine mem_ready.2 ⟨by simp only [Array.getD, hil, dif_pos] at h ⊢; exact h, _, ho, fun e he hb => ?_⟩
            have hlt2 : e.on < i := by
              by_cases q : i < l.length
              · exact (regB_at hB ((hleft i _ q).1 ho)).2.2.1 e he hb
              · have h3 := List.all_eq_true.1 hlt (i - l.length) (List.mem_range.2 (by omega))
                rw [show l.length + (i - l.length) = i from by omega, ho] at h3
                have := Array.all_eq_true'.1 h3 e he
                simpa [hb] using this
            exact ih e.on hlt2 (by omega)
          rw [hr] at hmem
          cases hmem
    rcases hI with ⟨k, hk, h1, h2, hw⟩ | ⟨⟨i0, hi0, hu0⟩, _⟩
    · obtain rfl : k = t.length := by
        by_cases q : k = t.length
        · exact q
        · have := hal (l.length + k) (by omega)
          rw [h2 _ (Nat.le_refl _)] at this
          cases this
      rw [List.drop_length] at hw
      exact hw
    · have := hal i0 (by omega)
      rw [hu0] at this
      cases this
  · unfold openOps
    exact Nat.le_trans (List.length_filter_le _ _) (by simp)
  · have hf : ∀ i, (Array.replicate (l ++ t).toArray.size false).getD i false = false := fun i => by
      simp [Array.getD]
    have hpos : 0 < l.length := by
      cases l with
      | nil => exact absurd rfl hne
      | cons _ _ => simp
    refine ⟨by simp, ?_, .inr ⟨⟨0, hpos, hf 0⟩, fun i _ => hf i, hC, rfl, rfl, fun s _ => rfl, ?_⟩⟩
    · intro j p _ hl
      rw [hf] at hl; cases hl
    · intro i o d _ hl
      rw [hf] at hl; cases hl
theorem wp_region_cut {id : Nat} {a0 : Act} {w0 : World} {full : List Oper} (K : Nat) (hm : P.follows .mixedOrders = true) (C : World → Prop) (St : World → World → Prop) (V : Nat → Value → World → Prop) (hB : regB .any (full.take K).toArray a0.tmps.size = true) (hTl : tailB .any (full.take K) (full.drop K) = true)
    (hC : C { w0 with drawn := w0.drawn + 1 }) (hV : ∀ d v w w', C w → St w w' → V d v w → V d v w') (hne : full.take K ≠ []) (hops : ∀ o ∈ full.take K, OpOk P (full.take K).toArray C St V a0 o)
    (hend : ∀ (f : Nat → Value) (w : World), C w → (∀ o ∈ full.take K, ∀ d, o.dst = some d → V d (f d) w) → wpList P full.toArray Q (full.drop K) (putAll f (full.take K) a0) w) : (Code.region id full.toArray true).wp P Q a0 w0 := by
  have h := wp_region_tail (P := P) (Q := Q) (id := id) (a0 := a0) (w0 := w0) (full.take K) (full.drop K) hm C St V hB hTl hC hV hne hops (by rw [List.take_append_drop]; exact hend)
  rw [List.take_append_drop] at h
  exact h
end
end Go.Proofs.YtgpgkgahbkmdiaaGreatDoor

/- Contract of impl.PutGnu. -/
namespace Go.Proofs.YtgpgkgahbkmdiaaGreatDoor
open Go.ChangeShapes Go.WideShapes Go.ChangeAt Go.RowKit Go.Deep

set_option maxHeartbeats 12800000 in
set_option maxRecDepth 8000 in
theorem putGnu_impl (L : List Ent) (n g cap : Nat) (w : World) (hn : n = L.length) (hm : n ≤ 1048576) (hg : g < w.heap.size) (hsm : SmallL L) (htab : Tabs w) (hfw : FW w) (h1 : RowE w g L) :
    Calls Tryz.prog 9 #[.slice (some ⟨g, 0, none⟩) n cap] w fun e w' => e = .returned (.tuple #[.string (putGnuv L).1, .bool (putGnuv L).2]) ∧ Below w.heap.size w w' := by
  obtain ⟨i0, hi0, hz0, hz1, hz2⟩ := info_parts Tryz.info5
  have HLO := Lib.hid (fun w h0 h1 => listOk_impl L n g cap w hn (by omega) h0 hsm h1)
  have H1 := Lib.hid h1
  have HTab := Lib.hid htab
  have HFw := Lib.hid hfw
  cases hlo : listOkv L with
  | false =>
    have HE := Lib.hid (gnu_bad hlo)
    generalize putGnuv L = r at HE
    rw [hlo] at HLO
    clear h1 hlo hsm hn htab hfw
    go_enter Tryz.func9, Tryz.ntmps9
    go_wp2_with fail
    refine (HLO.out _ hg H1.out).mono ?_
    rintro e w1 ⟨rfl, hb⟩
    go_wp2
    go_ret2
    exact ⟨ret_sb2 HE.out rfl rfl, hb⟩
  | true =>
    have HG : Hid (∀ i, i < n → ∃ e, L[i]? = some e ∧ esz e ≤ 4194304 ∧ entOkv e = true) := Lib.hid (fun i hi => by obtain ⟨e, he⟩ := getE' (L := L) (i := i) (by omega); exact ⟨e, he, hsm.get he, listOk_ent hlo he⟩)
    have HY : Hid (putGnuv L = (gpiecesTo L n ++ nulv 1024, true)) := Lib.hid (by rw [hn]; exact gnu_yes hlo)
    have HZ : Hid (∀ i, i ≤ n → (gpiecesTo L i).size ≤ 6600 * i) := Lib.hid (fun i hi => gpieces_size hlo i (by omega))
    have h30 : n ≤ 30 := by rw [hn]; exact listOk_30 hlo
    have HN := Lib.hid (fun w => nulsI_any 1024 w (by omega))
    rw [show ((1024 : Int).toNat) = 1024 from rfl] at HN
    have zn := nulv_size 1024
    generalize nulv 1024 = n1024 at *
    generalize putGnuv L = r at HY
    rw [hlo] at HLO
    clear h1 hlo hsm hn htab hfw
    go_enter Tryz.func9, Tryz.ntmps9
    go_wp2_with fail
    refine (HLO.out _ hg H1.out).mono ?_
    rintro e w1 ⟨rfl, hb1⟩
    have B1 := Lib.hid hb1
    clear hb1 HLO
    go_wp2_with fail
    go_loopw [4, 12] (fun v u wr => ∃ (i : Nat) (v0 : Value), v0 = v ∧ u = .int .i64 i ∧ i ≤ n ∧ OwnB wr w.heap.size v (gpiecesTo L i).data.toList ∧ Below w.heap.size w wr) (fun _ u _ => n - (intOf u).toNat)
    case atStart => exact ⟨0, _, rfl, rfl, Nat.zero_le _, World.ownsRow_nil _ _ _ _, B1.out⟩
    case round =>
      obtain ⟨i, v0, rfl, rfl, hi, ho, hb⟩ := hrel
      have B := Lib.hid hb
      have O := Lib.hid ho
      clear hb ho B1
      by_cases hlt : i < n
      · have hlt2 : (i : Int) < (n : Int) := by omega
        obtain ⟨e, he, hz, hok⟩ := HG.out i hlt
        obtain ⟨c0, c1, c2, c3, c4, c5, c6, c7, c8, c9⟩ := (H1.out.below B.out hg).ten he
        have HS := Lib.hid (gpieces_step he)
        have y1 := HZ.out i hi
        have hsz := small_parts hz
        have hkb := entOk_kb hok
        have zb := body_size e.body
        clear he hz hok
        obtain ⟨k, p, l, m, u, g0, t, us, gr, b⟩ := e
        dsimp only at hsz c0 c1 c2 c3 c4 c5 c6 c7 c8 c9 hkb zb HS
        have zbk := hkb.2
        have HFl := Lib.hid (fun w => flag_impl k w)
        have HH := Lib.hid (fun w' hT hF => putLong_impl k p l m u g0 t us gr b (flagv k) b.size w' hsz.1 hsz.2.1 hsz.2.2.1 hsz.2.2.2.1 hT hF)
        have HLn := Lib.hid (fun w' hT hF => longName_impl flagL p w' hsz.1 hT hF)
        have HKn := Lib.hid (fun w' hT hF => longName_impl flagK l w' hsz.2.1 hT hF)
        have HBd := Lib.hid (fun w => padded_any b w (by omega))
        have zh := putLong_size (e := ⟨k, p, l, m, u, g0, t, us, gr, b⟩) (flag := flagv k) (size := (b.size : Int))
        have zlp := long_size flagL p
        have zlk := long_size flagK l
        have eAy : Hid ((100 : Int) < p.size → gnuA (gpiecesTo L i) ⟨k, p, l, m, u, g0, t, us, gr, b⟩ = gpiecesTo L i ++ longv flagL p) := Lib.hid (gnuA_yes (e := ⟨k, p, l, m, u, g0, t, us, gr, b⟩))
        have eAn : Hid (¬ (100 : Int) < p.size → gnuA (gpiecesTo L i) ⟨k, p, l, m, u, g0, t, us, gr, b⟩ = gpiecesTo L i) := Lib.hid (gnuA_no (e := ⟨k, p, l, m, u, g0, t, us, gr, b⟩))
        have eBy : Hid (∀ T, (100 : Int) < l.size → gnuB T ⟨k, p, l, m, u, g0, t, us, gr, b⟩ = T ++ longv flagK l) := Lib.hid (fun T => gnuB_yes (e := ⟨k, p, l, m, u, g0, t, us, gr, b⟩))
        have eBn : Hid (∀ T, ¬ (100 : Int) < l.size → gnuB T ⟨k, p, l, m, u, g0, t, us, gr, b⟩ = T) := Lib.hid (fun T => gnuB_no (e := ⟨k, p, l, m, u, g0, t, us, gr, b⟩))
        rw [show flagL = ⟨#[76]⟩ from rfl] at HLn zlp eAy
        rw [show flagK = ⟨#[75]⟩ from rfl] at HKn zlk eBy
        generalize putLongv ⟨k, p, l, m, u, g0, t, us, gr, b⟩ (flagv k) b.size = hd at HS HH zh
        generalize flagv k = fl at HH HFl
        generalize bodyP b = bb at *
        generalize longv ⟨#[76]⟩ p = lp at *
        generalize longv ⟨#[75]⟩ l = lk at *
        generalize gnuA (gpiecesTo L i) ⟨k, p, l, m, u, g0, t, us, gr, b⟩ = TA at *
        generalize gpiecesTo L i = T at *
        have yT : T.size ≤ 198000 := by omega
        have sB := B.out.size
        clear hsz y1 hkb
        by_cases q1 : (100 : Int) < p.size
        · have eA := Lib.hid (eAy.out q1)
          clear eAy eAn
          by_cases q2 : (100 : Int) < l.size
          · have eB := Lib.hid (eBy.out TA q2)
            clear eBy eBn
            go_wp2_with fail
            have E0 := EntAt.new wr ⟨k, p, l, m, u, g0, t, us, gr, b⟩ 34
            have B0 := (Below.refl wr.heap.size wr).alloc (Nat.le_refl _) (.cells (Ent.cells ⟨k, p, l, m, u, g0, t, us, gr, b⟩).toArray 34)
            have X0 : (wr.alloc (.cells (Ent.cells ⟨k, p, l, m, u, g0, t, us, gr, b⟩).toArray 34)).heap[wr.heap.size]? = some (.cells (Ent.cells ⟨k, p, l, m, u, g0, t, us, gr, b⟩).toArray 34 (0, 0)) := heap_alloc_last _ _
            have z0 : wr.heap.size < (wr.alloc (.cells (Ent.cells ⟨k, p, l, m, u, g0, t, us, gr, b⟩).toArray 34)).heap.size := by simp
            simp only [Ent.cells] at E0 B0 z0 X0
            generalize wr.alloc (.cells #[.int .i64 k, .string p, .string l, .int .i64 m, .int .i64 u, .int .i64 g0, .int .i64 t, .string us, .string gr, .string b] 34) = w10 at *
            have E1 := Lib.hid E0
            have X1 := Lib.hid X0
            have B1 := Lib.hid (btE B.out B0)
            have O1 := Lib.hid (ownB_belowU O.out B0)
            clear E0 B0 X0 B O c0 c1 c2 c3 c4 c5 c6 c7 c8 c9
            have X10 : Hid (EntO w10 wr.heap.size ⟨k, p, l, m, u, g0, t, us, gr, b⟩) := X1
            have B10 := B1
            have O10 := O1
            clear E1 X1 B1 O1 z0
            refine (HLn.out _ (HTab.out.below B10.out) (HFw.out.below B10.out)).mono ?_
            rintro e w11 ⟨rfl, hb⟩
            have O11 := Lib.hid (ownB_belowU O10.out hb)
            have B11 := Lib.hid (btE B10.out hb)
            have X11 := Lib.hid (EntO.below X10.out hb X10.out.lt)
            clear hb O10 B10 X10
            have zl1 : T.data.toList.length = T.size := by simp
            have sb1 := B11.out.size
            go_wp2_with (at_builtin; refine Lib.wpList_append_own_string _ rfl _ _ 40 9 rfl w.heap.size 5 i0 Tryz.underlying40 Tryz.underlying9 hi0 hz0 hz1 hz2 _ _ _ rfl O11.out lp rfl ?ap1 ?aq1 ?ar1 ?_)
            case ap1 => simp only [maxLen]; omega
            case aq1 => omega
            case ar1 => omega
            · intro v21 w21 hown hgrow _
              obtain ⟨T1, hT1⟩ : ∃ x : ByteArray, x = T ++ lp := ⟨_, rfl⟩
              have zT1 : T1.size ≤ 199275 := by rw [hT1, ByteArray.size_append]; omega
              have O21 : Hid (OwnB w21 w.heap.size v21 T1.data.toList) := Lib.hid (OwnB.textT hT1 (by simp <;> omega) hown)
              have B21 : Hid (Below w.heap.size w w21) := Lib.hid (B11.out.grown hgrow (by omega) (fun b hb => (World.ownsRow.lt O11.out b hb).1))
              have X21 := Lib.hid (boxK O11.out X11.out hgrow)
              have HT1 := Lib.hid hT1
              clear hT1 hown hgrow O11 B11 X11 zl1 sb1
              obtain ⟨c0, c1, c2, c3, c4, c5, c6, c7, c8, c9⟩ := X21.out.at.zero
              go_wp2_with fail
              refine (HKn.out _ (HTab.out.below B21.out) (HFw.out.below B21.out)).mono ?_
              rintro e w12 ⟨rfl, hb⟩
              have O12 := Lib.hid (ownB_belowU O21.out hb)
              have B12 := Lib.hid (btE B21.out hb)
              have X12 := Lib.hid (EntO.below X21.out hb X21.out.lt)
              clear hb O21 B21 X21
              clear c0 c1 c2 c3 c4 c5 c6 c7 c8 c9
              have zl2 : T1.data.toList.length = T1.size := by simp
              have sb2 := B12.out.size
              go_wp2_with (at_builtin; refine Lib.wpList_append_own_string _ rfl _ _ 40 9 rfl w.heap.size 5 i0 Tryz.underlying40 Tryz.underlying9 hi0 hz0 hz1 hz2 _ _ _ rfl O12.out lk rfl ?ap2 ?aq2 ?ar2 ?_)
              case ap2 => simp only [maxLen]; omega
              case aq2 => omega
              case ar2 => omega
              · intro v22 w22 hown hgrow _
                obtain ⟨T2, hT2⟩ : ∃ x : ByteArray, x = T1 ++ lk := ⟨_, rfl⟩
                have zT2 : T2.size ≤ 200550 := by rw [hT2, ByteArray.size_append]; omega
                have O22 : Hid (OwnB w22 w.heap.size v22 T2.data.toList) := Lib.hid (OwnB.textT hT2 (by simp <;> omega) hown)
                have B22 : Hid (Below w.heap.size w w22) := Lib.hid (B12.out.grown hgrow (by omega) (fun b hb => (World.ownsRow.lt O12.out b hb).1))
                have X22 := Lib.hid (boxK O12.out X12.out hgrow)
                have HT2 := Lib.hid hT2
                clear hT2 hown hgrow O12 B12 X12 zl2 sb2
                obtain ⟨c0, c1, c2, c3, c4, c5, c6, c7, c8, c9⟩ := X22.out.at.zero
                go_wp2_with fail
                clear c0 c1 c2 c3 c4 c5 c6 c7 c8 c9
                have KC : Hid (∀ w', Below w22.heap.size w22 w' → w'.cell? ⟨wr.heap.size, 0, none⟩ = some (.int .i64 k) ∧ w'.cell? ⟨wr.heap.size, 1, none⟩ = some (.string p) ∧ w'.cell? ⟨wr.heap.size, 2, none⟩ = some (.string l) ∧ w'.cell? ⟨wr.heap.size, 3, none⟩ = some (.int .i64 m) ∧ w'.cell? ⟨wr.heap.size, 4, none⟩ = some (.int .i64 u) ∧ w'.cell? ⟨wr.heap.size, 5, none⟩ = some (.int .i64 g0) ∧ w'.cell? ⟨wr.heap.size, 6, none⟩ = some (.int .i64 t) ∧ w'.cell? ⟨wr.heap.size, 7, none⟩ = some (.string us) ∧ w'.cell? ⟨wr.heap.size, 8, none⟩ = some (.string gr) ∧ w'.cell? ⟨wr.heap.size, 9, none⟩ = some (.string b)) := Lib.hid (fun w' hb => by obtain ⟨c0, c1, c2, c3, c4, c5, c6, c7, c8, c9⟩ := (X22.out.below hb X22.out.lt).at.zero; exact ⟨c0, c1, c2, c3, c4, c5, c6, c7, c8, c9⟩)
                refine wp_region_cut 9 (by kernel_rfl) (fun w' => Below w22.heap.size w22 w') (fun x y => Below x.heap.size x y) (fun d v _ => match d with | 34 => v = v22 | 35 => v = .agg #[.int .i64 k, .string p, .string l, .int .i64 m, .int .i64 u, .int .i64 g0, .int .i64 t, .string us, .string gr, .string b] | 36 => v = .pointer (some ⟨wr.heap.size, 0, none⟩) | 37 => v = .int .i64 k | 38 => v = .string fl | 39 => v = .pointer (some ⟨wr.heap.size, 9, none⟩) | 40 => v = .string b | 41 => v = .int .i64 (b.size : Int) | 42 => v = .string hd | _ => True) (by kernel_rfl) (by kernel_rfl) ((Below.refl _ _).drew) (fun _ _ _ _ _ _ h => h) (by simp) ?hops ?hend
                case hops =>
                  simp only [List.take_succ_cons, List.take_zero, List.forall_mem_cons]
                  refine ⟨?o34, ?o35, ?o36, ?o37, ?o38, ?o39, ?o40, ?o41, ?o42, fun _ h => by cases h⟩
                  case o34 =>
                    intro Q a w2 hC hV hI
                    have e4 : a.eval (.tmp 4) = v22 := (hI 4 (by simp [Op.operands]) (by kernel_rfl)).trans rfl
                    have f4 : a.tmps.getD 4 undef = v22 := e4
                    have g4 : a.tmps[4]?.getD undef = v22 := by rw [← Array.getD_eq_getD_getElem?]; exact e4
                    refine op_val (v22) ?_ hC (Below.refl _ _) (by intro d hd; cases hd; rfl)
                    (clear hV hI hC; go_simp <;> (first | rfl | simp))
                  case o35 =>
                    intro Q a w2 hC hV hI
                    have e6 : a.eval (.tmp 6) = .pointer (some ⟨wr.heap.size, 0, none⟩) := (hI 6 (by simp [Op.operands]) (by kernel_rfl)).trans rfl
                    have f6 : a.tmps.getD 6 undef = .pointer (some ⟨wr.heap.size, 0, none⟩) := e6
                    have g6 : a.tmps[6]?.getD undef = .pointer (some ⟨wr.heap.size, 0, none⟩) := by rw [← Array.getD_eq_getD_getElem?]; exact e6
                    have hK := KC.out w2 hC
                    refine op_val (.agg #[.int .i64 k, .string p, .string l, .int .i64 m, .int .i64 u, .int .i64 g0, .int .i64 t, .string us, .string gr, .string b]) ?_ hC (Below.refl _ _) (by intro d hd; cases hd; rfl)
                    (clear hV hI hC; go_simp <;> (first | rfl | simp))
                  case o36 =>
                    intro Q a w2 hC hV hI
                    have e6 : a.eval (.tmp 6) = .pointer (some ⟨wr.heap.size, 0, none⟩) := (hI 6 (by simp [Op.operands]) (by kernel_rfl)).trans rfl
                    have f6 : a.tmps.getD 6 undef = .pointer (some ⟨wr.heap.size, 0, none⟩) := e6
                    have g6 : a.tmps[6]?.getD undef = .pointer (some ⟨wr.heap.size, 0, none⟩) := by rw [← Array.getD_eq_getD_getElem?]; exact e6
                    refine op_val (.pointer (some ⟨wr.heap.size, 0, none⟩)) ?_ hC (Below.refl _ _) (by intro d hd; cases hd; rfl)
                    (clear hV hI hC; go_simp <;> (first | rfl | simp))
                  case o37 =>
                    intro Q a w2 hC hV hI
                    have e36 : a.eval (.tmp 36) = .pointer (some ⟨wr.heap.size, 0, none⟩) := hV 36 (by simp [Op.operands]) (by kernel_rfl)
                    have f36 : a.tmps.getD 36 undef = .pointer (some ⟨wr.heap.size, 0, none⟩) := e36
                    have g36 : a.tmps[36]?.getD undef = .pointer (some ⟨wr.heap.size, 0, none⟩) := by rw [← Array.getD_eq_getD_getElem?]; exact e36
                    have hK := KC.out w2 hC
                    refine op_val (.int .i64 k) ?_ hC (Below.refl _ _) (by intro d hd; cases hd; rfl)
                    (clear hV hI hC; go_simp <;> (first | rfl | simp))
                  case o38 =>
                    intro Q a w2 hC hV hI
                    have e37 : a.eval (.tmp 37) = .int .i64 k := hV 37 (by simp [Op.operands, Call.operands]) (by kernel_rfl)
                    have f37 : a.tmps.getD 37 undef = .int .i64 k := e37
                    have g37 : a.tmps[37]?.getD undef = .int .i64 k := by rw [← Array.getD_eq_getD_getElem?]; exact e37
                    refine op_call (f := 26) (args := #[.int .i64 k]) (R := fun v y => v = .string fl ∧ w2 = y) ?_ ((HFl.out w2).mono ?_) ?_
                    · (clear hV hI hC; go_simp <;> (first | rfl | simp))
                    · rintro e y ⟨rfl, rfl⟩; exact ⟨_, rfl, rfl, rfl⟩
                    · rintro v y ⟨rfl, rfl⟩; exact ⟨hC, Below.refl _ _, by intro d hd; cases hd; rfl⟩
                  case o39 =>
                    intro Q a w2 hC hV hI
                    have e6 : a.eval (.tmp 6) = .pointer (some ⟨wr.heap.size, 0, none⟩) := (hI 6 (by simp [Op.operands]) (by kernel_rfl)).trans rfl
                    have f6 : a.tmps.getD 6 undef = .pointer (some ⟨wr.heap.size, 0, none⟩) := e6
                    have g6 : a.tmps[6]?.getD undef = .pointer (some ⟨wr.heap.size, 0, none⟩) := by rw [← Array.getD_eq_getD_getElem?]; exact e6
                    refine op_val (.pointer (some ⟨wr.heap.size, 9, none⟩)) ?_ hC (Below.refl _ _) (by intro d hd; cases hd; rfl)
                    (clear hV hI hC; go_simp <;> (first | rfl | simp))
                  case o40 =>
                    intro Q a w2 hC hV hI
                    have e39 : a.eval (.tmp 39) = .pointer (some ⟨wr.heap.size, 9, none⟩) := hV 39 (by simp [Op.operands]) (by kernel_rfl)
                    have f39 : a.tmps.getD 39 undef = .pointer (some ⟨wr.heap.size, 9, none⟩) := e39
                    have g39 : a.tmps[39]?.getD undef = .pointer (some ⟨wr.heap.size, 9, none⟩) := by rw [← Array.getD_eq_getD_getElem?]; exact e39
                    have hK := KC.out w2 hC
                    refine op_val (.string b) ?_ hC (Below.refl _ _) (by intro d hd; cases hd; rfl)
                    (clear hV hI hC; go_simp <;> (first | rfl | simp))
                  case o41 =>
                    intro Q a w2 hC hV hI
                    have e40 : a.eval (.tmp 40) = .string b := hV 40 (by simp [Op.operands, Call.operands]) (by kernel_rfl)
                    have f40 : a.tmps.getD 40 undef = .string b := e40
                    have g40 : a.tmps[40]?.getD undef = .string b := by rw [← Array.getD_eq_getD_getElem?]; exact e40
                    refine op_val (.int .i64 (b.size : Int)) ?_ hC (Below.refl _ _) (by intro d hd; cases hd; rfl)
                    (clear hV hI hC; go_simp <;> (first | rfl | simp))
                  case o42 =>
                    intro Q a w2 hC hV hI
                    have e35 : a.eval (.tmp 35) = .agg #[.int .i64 k, .string p, .string l, .int .i64 m, .int .i64 u, .int .i64 g0, .int .i64 t, .string us, .string gr, .string b] := hV 35 (by simp [Op.operands, Call.operands]) (by kernel_rfl)
                    have f35 : a.tmps.getD 35 undef = .agg #[.int .i64 k, .string p, .string l, .int .i64 m, .int .i64 u, .int .i64 g0, .int .i64 t, .string us, .string gr, .string b] := e35
                    have g35 : a.tmps[35]?.getD undef = .agg #[.int .i64 k, .string p, .string l, .int .i64 m, .int .i64 u, .int .i64 g0, .int .i64 t, .string us, .string gr, .string b] := by rw [← Array.getD_eq_getD_getElem?]; exact e35
                    have e38 : a.eval (.tmp 38) = .string fl := hV 38 (by simp [Op.operands, Call.operands]) (by kernel_rfl)
                    have f38 : a.tmps.getD 38 undef = .string fl := e38
                    have g38 : a.tmps[38]?.getD undef = .string fl := by rw [← Array.getD_eq_getD_getElem?]; exact e38
                    have e41 : a.eval (.tmp 41) = .int .i64 (b.size : Int) := hV 41 (by simp [Op.operands, Call.operands]) (by kernel_rfl)
                    have f41 : a.tmps.getD 41 undef = .int .i64 (b.size : Int) := e41
                    have g41 : a.tmps[41]?.getD undef = .int .i64 (b.size : Int) := by rw [← Array.getD_eq_getD_getElem?]; exact e41
                    refine op_call (f := 25) (args := #[.agg #[.int .i64 k, .string p, .string l, .int .i64 m, .int .i64 u, .int .i64 g0, .int .i64 t, .string us, .string gr, .string b], .string fl, .int .i64 (b.size : Int)]) (R := fun v y => v = .string hd ∧ Below w2.heap.size w2 y) ?_ ((HH.out w2 (HTab.out.below (btE B22.out hC)) (HFw.out.below (btE B22.out hC))).mono ?_) ?_
                    · (clear hV hI hC; go_simp <;> (first | rfl | simp))
                    · rintro e y ⟨rfl, hb⟩; exact ⟨_, rfl, rfl, hb⟩
                    · rintro v y ⟨rfl, hb⟩; exact ⟨hC.trans (hb.mono hC.size), hb, by intro d hd; cases hd; rfl⟩
                case hend =>
                  intro f w13 hC hall
                  simp only [List.take_succ_cons, List.take_zero, List.drop_succ_cons, List.drop_zero] at hall ⊢
                  simp only [List.forall_mem_cons] at hall
                  obtain ⟨h34, h35, h36, h37, h38, h39, h40, h41, h42, _⟩ := hall
                  replace h34 : f 34 = v22 := h34 34 rfl
                  replace h35 : f 35 = .agg #[.int .i64 k, .string p, .string l, .int .i64 m, .int .i64 u, .int .i64 g0, .int .i64 t, .string us, .string gr, .string b] := h35 35 rfl
                  replace h36 : f 36 = .pointer (some ⟨wr.heap.size, 0, none⟩) := h36 36 rfl
                  replace h37 : f 37 = .int .i64 k := h37 37 rfl
                  replace h38 : f 38 = .string fl := h38 38 rfl
                  replace h39 : f 39 = .pointer (some ⟨wr.heap.size, 9, none⟩) := h39 39 rfl
                  replace h40 : f 40 = .string b := h40 40 rfl
                  replace h41 : f 41 = .int .i64 (b.size : Int) := h41 41 rfl
                  replace h42 : f 42 = .string hd := h42 42 rfl
                  simp only [putAll, Act.put, List.setIfInBounds_toArray, List.set_cons_succ, List.set_cons_zero, h34, h35, h36, h37, h38, h39, h40, h41, h42]
                  clear h34 h35 h36 h37 h38 h39 h40 h41 h42
                  have B13 := Lib.hid (btE B22.out hC)
                  have O13 := Lib.hid (ownB_belowU O22.out hC)
                  have X13 := Lib.hid (EntO.below X22.out hC X22.out.lt)
                  clear hC KC B22 O22 X22
                  have zl3 : T2.data.toList.length = T2.size := by simp
                  have sb3 := B13.out.size
                  go_wp2_with (at_builtin; refine Lib.wpList_append_own_string _ rfl _ _ 40 9 rfl w.heap.size 5 i0 Tryz.underlying40 Tryz.underlying9 hi0 hz0 hz1 hz2 _ _ _ rfl O13.out hd rfl ?ap3 ?aq3 ?ar3 ?_)
                  case ap3 => simp only [maxLen]; omega
                  case aq3 => omega
                  case ar3 => omega
                  · intro v23 w23 hown hgrow _
                    obtain ⟨T3, hT3⟩ : ∃ x : ByteArray, x = T2 ++ hd := ⟨_, rfl⟩
                    have zT3 : T3.size ≤ 201100 := by rw [hT3, ByteArray.size_append]; omega
                    have O23 : Hid (OwnB w23 w.heap.size v23 T3.data.toList) := Lib.hid (OwnB.textT hT3 (by simp <;> omega) hown)
                    have B23 : Hid (Below w.heap.size w w23) := Lib.hid (B13.out.grown hgrow (by omega) (fun b hb => (World.ownsRow.lt O13.out b hb).1))
                    have X23 := Lib.hid (boxK O13.out X13.out hgrow)
                    have HT3 := Lib.hid hT3
                    clear hT3 hown hgrow O13 B13 X13 zl3 sb3
                    obtain ⟨c0, c1, c2, c3, c4, c5, c6, c7, c8, c9⟩ := X23.out.at.zero
                    go_wp2_with fail
                    refine (HBd.out _).mono ?_
                    rintro e w14 ⟨rfl, hb⟩
                    have O14 := Lib.hid (ownB_belowU O23.out hb)
                    have B14 := Lib.hid (btE B23.out hb)
                    have X14 := Lib.hid (EntO.below X23.out hb X23.out.lt)
                    clear hb O23 B23 X23
                    clear c0 c1 c2 c3 c4 c5 c6 c7 c8 c9
                    have zl4 : T3.data.toList.length = T3.size := by simp
                    have sb4 := B14.out.size
                    go_wp2_with (at_builtin; refine Lib.wpList_append_own_string _ rfl _ _ 40 9 rfl w.heap.size 5 i0 Tryz.underlying40 Tryz.underlying9 hi0 hz0 hz1 hz2 _ _ _ rfl O14.out bb rfl ?ap4 ?aq4 ?ar4 ?_)
                    case ap4 => simp only [maxLen]; omega
                    case aq4 => omega
                    case ar4 => omega
                    · intro v24 w24 hown hgrow _
                      obtain ⟨T4, hT4⟩ : ∃ x : ByteArray, x = T3 ++ bb := ⟨_, rfl⟩
                      have zT4 : T4.size ≤ 204700 := by rw [hT4, ByteArray.size_append]; omega
                      have O24 : Hid (OwnB w24 w.heap.size v24 T4.data.toList) := Lib.hid (OwnB.textT hT4 (by simp <;> omega) hown)
                      have B24 : Hid (Below w.heap.size w w24) := Lib.hid (B14.out.grown hgrow (by omega) (fun b hb => (World.ownsRow.lt O14.out b hb).1))
                      have X24 := Lib.hid (boxK O14.out X14.out hgrow)
                      have HT4 := Lib.hid hT4
                      clear hT4 hown hgrow O14 B14 X14 zl4 sb4
                      have HXX : Hid (gpiecesTo L (i + 1) = T4) := Lib.hid (by rw [HS.out, eB.out, eA.out, HT4.out, HT3.out, HT2.out, HT1.out])
                      go_wp2_with fail
                      go_roundw
                      case rel => exact ⟨i + 1, _, rfl, by go_num, by omega, by rw [HXX.out]; exact O24.out, B24.out⟩
                      case measure => simp [intOf]; omega
          · have eB := Lib.hid (eBn.out TA q2)
            clear eBy eBn
            go_wp2_with fail
            have E0 := EntAt.new wr ⟨k, p, l, m, u, g0, t, us, gr, b⟩ 34
            have B0 := (Below.refl wr.heap.size wr).alloc (Nat.le_refl _) (.cells (Ent.cells ⟨k, p, l, m, u, g0, t, us, gr, b⟩).toArray 34)
            have X0 : (wr.alloc (.cells (Ent.cells ⟨k, p, l, m, u, g0, t, us, gr, b⟩).toArray 34)).heap[wr.heap.size]? = some (.cells (Ent.cells ⟨k, p, l, m, u, g0, t, us, gr, b⟩).toArray 34 (0, 0)) := heap_alloc_last _ _
            have z0 : wr.heap.size < (wr.alloc (.cells (Ent.cells ⟨k, p, l, m, u, g0, t, us, gr, b⟩).toArray 34)).heap.size := by simp
            simp only [Ent.cells] at E0 B0 z0 X0
            generalize wr.alloc (.cells #[.int .i64 k, .string p, .string l, .int .i64 m, .int .i64 u, .int .i64 g0, .int .i64 t, .string us, .string gr, .string b] 34) = w10 at *
            have E1 := Lib.hid E0
            have X1 := Lib.hid X0
            have B1 := Lib.hid (btE B.out B0)
            have O1 := Lib.hid (ownB_belowU O.out B0)
            clear E0 B0 X0 B O c0 c1 c2 c3 c4 c5 c6 c7 c8 c9
            have X10 : Hid (EntO w10 wr.heap.size ⟨k, p, l, m, u, g0, t, us, gr, b⟩) := X1
            have B10 := B1
            have O10 := O1
            clear E1 X1 B1 O1 z0
            refine (HLn.out _ (HTab.out.below B10.out) (HFw.out.below B10.out)).mono ?_
            rintro e w11 ⟨rfl, hb⟩
            have O11 := Lib.hid (ownB_belowU O10.out hb)
            have B11 := Lib.hid (btE B10.out hb)
            have X11 := Lib.hid (EntO.below X10.out hb X10.out.lt)
            clear hb O10 B10 X10
            have zl1 : T.data.toList.length = T.size := by simp
            have sb1 := B11.out.size
            go_wp2_with (at_builtin; refine Lib.wpList_append_own_string _ rfl _ _ 40 9 rfl w.heap.size 5 i0 Tryz.underlying40 Tryz.underlying9 hi0 hz0 hz1 hz2 _ _ _ rfl O11.out lp rfl ?bp1 ?bq1 ?br1 ?_)
            case bp1 => simp only [maxLen]; omega
            case bq1 => omega
            case br1 => omega
            · intro v21 w21 hown hgrow _
              obtain ⟨T1, hT1⟩ : ∃ x : ByteArray, x = T ++ lp := ⟨_, rfl⟩
              have zT1 : T1.size ≤ 199275 := by rw [hT1, ByteArray.size_append]; omega
              have O21 : Hid (OwnB w21 w.heap.size v21 T1.data.toList) := Lib.hid (OwnB.textT hT1 (by simp <;> omega) hown)
              have B21 : Hid (Below w.heap.size w w21) := Lib.hid (B11.out.grown hgrow (by omega) (fun b hb => (World.ownsRow.lt O11.out b hb).1))
              have X21 := Lib.hid (boxK O11.out X11.out hgrow)
              have HT1 := Lib.hid hT1
              clear hT1 hown hgrow O11 B11 X11 zl1 sb1
              obtain ⟨c0, c1, c2, c3, c4, c5, c6, c7, c8, c9⟩ := X21.out.at.zero
              go_wp2_with fail
              clear c0 c1 c2 c3 c4 c5 c6 c7 c8 c9
              have KC : Hid (∀ w', Below w21.heap.size w21 w' → w'.cell? ⟨wr.heap.size, 0, none⟩ = some (.int .i64 k) ∧ w'.cell? ⟨wr.heap.size, 1, none⟩ = some (.string p) ∧ w'.cell? ⟨wr.heap.size, 2, none⟩ = some (.string l) ∧ w'.cell? ⟨wr.heap.size, 3, none⟩ = some (.int .i64 m) ∧ w'.cell? ⟨wr.heap.size, 4, none⟩ = some (.int .i64 u) ∧ w'.cell? ⟨wr.heap.size, 5, none⟩ = some (.int .i64 g0) ∧ w'.cell? ⟨wr.heap.size, 6, none⟩ = some (.int .i64 t) ∧ w'.cell? ⟨wr.heap.size, 7, none⟩ = some (.string us) ∧ w'.cell? ⟨wr.heap.size, 8, none⟩ = some (.string gr) ∧ w'.cell? ⟨wr.heap.size, 9, none⟩ = some (.string b)) := Lib.hid (fun w' hb => by obtain ⟨c0, c1, c2, c3, c4, c5, c6, c7, c8, c9⟩ := (X21.out.below hb X21.out.lt).at.zero; exact ⟨c0, c1, c2, c3, c4, c5, c6, c7, c8, c9⟩)
              refine wp_region_cut 9 (by kernel_rfl) (fun w' => Below w21.heap.size w21 w') (fun x y => Below x.heap.size x y) (fun d v _ => match d with | 34 => v = v21 | 35 => v = .agg #[.int .i64 k, .string p, .string l, .int .i64 m, .int .i64 u, .int .i64 g0, .int .i64 t, .string us, .string gr, .string b] | 36 => v = .pointer (some ⟨wr.heap.size, 0, none⟩) | 37 => v = .int .i64 k | 38 => v = .string fl | 39 => v = .pointer (some ⟨wr.heap.size, 9, none⟩) | 40 => v = .string b | 41 => v = .int .i64 (b.size : Int) | 42 => v = .string hd | _ => True) (by kernel_rfl) (by kernel_rfl) ((Below.refl _ _).drew) (fun _ _ _ _ _ _ h => h) (by simp) ?hops ?hend
              case hops =>
                simp only [List.take_succ_cons, List.take_zero, List.forall_mem_cons]
                refine ⟨?o34, ?o35, ?o36, ?o37, ?o38, ?o39, ?o40, ?o41, ?o42, fun _ h => by cases h⟩
                case o34 =>
                  intro Q a w2 hC hV hI
                  have e4 : a.eval (.tmp 4) = v21 := (hI 4 (by simp [Op.operands]) (by kernel_rfl)).trans rfl
                  have f4 : a.tmps.getD 4 undef = v21 := e4
                  have g4 : a.tmps[4]?.getD undef = v21 := by rw [← Array.getD_eq_getD_getElem?]; exact e4
                  refine op_val (v21) ?_ hC (Below.refl _ _) (by intro d hd; cases hd; rfl)
                  (clear hV hI hC; go_simp <;> (first | rfl | simp))
                case o35 =>
                  intro Q a w2 hC hV hI
                  have e6 : a.eval (.tmp 6) = .pointer (some ⟨wr.heap.size, 0, none⟩) := (hI 6 (by simp [Op.operands]) (by kernel_rfl)).trans rfl
                  have f6 : a.tmps.getD 6 undef = .pointer (some ⟨wr.heap.size, 0, none⟩) := e6
                  have g6 : a.tmps[6]?.getD undef = .pointer (some ⟨wr.heap.size, 0, none⟩) := by rw [← Array.getD_eq_getD_getElem?]; exact e6
                  have hK := KC.out w2 hC
                  refine op_val (.agg #[.int .i64 k, .string p, .string l, .int .i64 m, .int .i64 u, .int .i64 g0, .int .i64 t, .string us, .string gr, .string b]) ?_ hC (Below.refl _ _) (by intro d hd; cases hd; rfl)
                  (clear hV hI hC; go_simp <;> (first | rfl | simp))
                case o36 =>
                  intro Q a w2 hC hV hI
                  have e6 : a.eval (.tmp 6) = .pointer (some ⟨wr.heap.size, 0, none⟩) := (hI 6 (by simp [Op.operands]) (by kernel_rfl)).trans rfl
                  have f6 : a.tmps.getD 6 undef = .pointer (some ⟨wr.heap.size, 0, none⟩) := e6
                  have g6 : a.tmps[6]?.getD undef = .pointer (some ⟨wr.heap.size, 0, none⟩) := by rw [← Array.getD_eq_getD_getElem?]; exact e6
                  refine op_val (.pointer (some ⟨wr.heap.size, 0, none⟩)) ?_ hC (Below.refl _ _) (by intro d hd; cases hd; rfl)
                  (clear hV hI hC; go_simp <;> (first | rfl | simp))
                case o37 =>
                  intro Q a w2 hC hV hI
                  have e36 : a.eval (.tmp 36) = .pointer (some ⟨wr.heap.size, 0, none⟩) := hV 36 (by simp [Op.operands]) (by kernel_rfl)
                  have f36 : a.tmps.getD 36 undef = .pointer (some ⟨wr.heap.size, 0, none⟩) := e36
                  have g36 : a.tmps[36]?.getD undef = .pointer (some ⟨wr.heap.size, 0, none⟩) := by rw [← Array.getD_eq_getD_getElem?]; exact e36
                  have hK := KC.out w2 hC
                  refine op_val (.int .i64 k) ?_ hC (Below.refl _ _) (by intro d hd; cases hd; rfl)
                  (clear hV hI hC; go_simp <;> (first | rfl | simp))
                case o38 =>
                  intro Q a w2 hC hV hI
                  have e37 : a.eval (.tmp 37) = .int .i64 k := hV 37 (by simp [Op.operands, Call.operands]) (by kernel_rfl)
                  have f37 : a.tmps.getD 37 undef = .int .i64 k := e37
                  have g37 : a.tmps[37]?.getD undef = .int .i64 k := by rw [← Array.getD_eq_getD_getElem?]; exact e37
                  refine op_call (f := 26) (args := #[.int .i64 k]) (R := fun v y => v = .string fl ∧ w2 = y) ?_ ((HFl.out w2).mono ?_) ?_
                  · (clear hV hI hC; go_simp <;> (first | rfl | simp))
                  · rintro e y ⟨rfl, rfl⟩; exact ⟨_, rfl, rfl, rfl⟩
                  · rintro v y ⟨rfl, rfl⟩; exact ⟨hC, Below.refl _ _, by intro d hd; cases hd; rfl⟩
                case o39 =>
                  intro Q a w2 hC hV hI
                  have e6 : a.eval (.tmp 6) = .pointer (some ⟨wr.heap.size, 0, none⟩) := (hI 6 (by simp [Op.operands]) (by kernel_rfl)).trans rfl
                  have f6 : a.tmps.getD 6 undef = .pointer (some ⟨wr.heap.size, 0, none⟩) := e6
                  have g6 : a.tmps[6]?.getD undef = .pointer (some ⟨wr.heap.size, 0, none⟩) := by rw [← Array.getD_eq_getD_getElem?]; exact e6
                  refine op_val (.pointer (some ⟨wr.heap.size, 9, none⟩)) ?_ hC (Below.refl _ _) (by intro d hd; cases hd; rfl)
                  (clear hV hI hC; go_simp <;> (first | rfl | simp))
                case o40 =>
                  intro Q a w2 hC hV hI
                  have e39 : a.eval (.tmp 39) = .pointer (some ⟨wr.heap.size, 9, none⟩) := hV 39 (by simp [Op.operands]) (by kernel_rfl)
                  have f39 : a.tmps.getD 39 undef = .pointer (some ⟨wr.heap.size, 9, none⟩) := e39
                  have g39 : a.tmps[39]?.getD undef = .pointer (some ⟨wr.heap.size, 9, none⟩) := by rw [← Array.getD_eq_getD_getElem?]; exact e39
                  have hK := KC.out w2 hC
                  refine op_val (.string b) ?_ hC (Below.refl _ _) (by intro d hd; cases hd; rfl)
                  (clear hV hI hC; go_simp <;> (first | rfl | simp))
                case o41 =>
                  intro Q a w2 hC hV hI
                  have e40 : a.eval (.tmp 40) = .string b := hV 40 (by simp [Op.operands, Call.operands]) (by kernel_rfl)
                  have f40 : a.tmps.getD 40 undef = .string b := e40
                  have g40 : a.tmps[40]?.getD undef = .string b := by rw [← Array.getD_eq_getD_getElem?]; exact e40
                  refine op_val (.int .i64 (b.size : Int)) ?_ hC (Below.refl _ _) (by intro d hd; cases hd; rfl)
                  (clear hV hI hC; go_simp <;> (first | rfl | simp))
                case o42 =>
                  intro Q a w2 hC hV hI
                  have e35 : a.eval (.tmp 35) = .agg #[.int .i64 k, .string p, .string l, .int .i64 m, .int .i64 u, .int .i64 g0, .int .i64 t, .string us, .string gr, .string b] := hV 35 (by simp [Op.operands, Call.operands]) (by kernel_rfl)
                  have f35 : a.tmps.getD 35 undef = .agg #[.int .i64 k, .string p, .string l, .int .i64 m, .int .i64 u, .int .i64 g0, .int .i64 t, .string us, .string gr, .string b] := e35
                  have g35 : a.tmps[35]?.getD undef = .agg #[.int .i64 k, .string p, .string l, .int .i64 m, .int .i64 u, .int .i64 g0, .int .i64 t, .string us, .string gr, .string b] := by rw [← Array.getD_eq_getD_getElem?]; exact e35
                  have e38 : a.eval (.tmp 38) = .string fl := hV 38 (by simp [Op.operands, Call.operands]) (by kernel_rfl)
                  have f38 : a.tmps.getD 38 undef = .string fl := e38
                  have g38 : a.tmps[38]?.getD undef = .string fl := by rw [← Array.getD_eq_getD_getElem?]; exact e38
                  have e41 : a.eval (.tmp 41) = .int .i64 (b.size : Int) := hV 41 (by simp [Op.operands, Call.operands]) (by kernel_rfl)
                  have f41 : a.tmps.getD 41 undef = .int .i64 (b.size : Int) := e41
                  have g41 : a.tmps[41]?.getD undef = .int .i64 (b.size : Int) := by rw [← Array.getD_eq_getD_getElem?]; exact e41
                  refine op_call (f := 25) (args := #[.agg #[.int .i64 k, .string p, .string l, .int .i64 m, .int .i64 u, .int .i64 g0, .int .i64 t, .string us, .string gr, .string b], .string fl, .int .i64 (b.size : Int)]) (R := fun v y => v = .string hd ∧ Below w2.heap.size w2 y) ?_ ((HH.out w2 (HTab.out.below (btE B21.out hC)) (HFw.out.below (btE B21.out hC))).mono ?_) ?_
                  · (clear hV hI hC; go_simp <;> (first | rfl | simp))
                  · rintro e y ⟨rfl, hb⟩; exact ⟨_, rfl, rfl, hb⟩
                  · rintro v y ⟨rfl, hb⟩; exact ⟨hC.trans (hb.mono hC.size), hb, by intro d hd; cases hd; rfl⟩
              case hend =>
                intro f w13 hC hall
                simp only [List.take_succ_cons, List.take_zero, List.drop_succ_cons, List.drop_zero] at hall ⊢
                simp only [List.forall_mem_cons] at hall
                obtain ⟨h34, h35, h36, h37, h38, h39, h40, h41, h42, _⟩ := hall
                replace h34 : f 34 = v21 := h34 34 rfl
                replace h35 : f 35 = .agg #[.int .i64 k, .string p, .string l, .int .i64 m, .int .i64 u, .int .i64 g0, .int .i64 t, .string us, .string gr, .string b] := h35 35 rfl
                replace h36 : f 36 = .pointer (some ⟨wr.heap.size, 0, none⟩) := h36 36 rfl
                replace h37 : f 37 = .int .i64 k := h37 37 rfl
                replace h38 : f 38 = .string fl := h38 38 rfl
                replace h39 : f 39 = .pointer (some ⟨wr.heap.size, 9, none⟩) := h39 39 rfl
                replace h40 : f 40 = .string b := h40 40 rfl
                replace h41 : f 41 = .int .i64 (b.size : Int) := h41 41 rfl
                replace h42 : f 42 = .string hd := h42 42 rfl
                simp only [putAll, Act.put, List.setIfInBounds_toArray, List.set_cons_succ, List.set_cons_zero, h34, h35, h36, h37, h38, h39, h40, h41, h42]
                clear h34 h35 h36 h37 h38 h39 h40 h41 h42
                have B13 := Lib.hid (btE B21.out hC)
                have O13 := Lib.hid (ownB_belowU O21.out hC)
                have X13 := Lib.hid (EntO.below X21.out hC X21.out.lt)
                clear hC KC B21 O21 X21
                have zl2 : T1.data.toList.length = T1.size := by simp
                have sb2 := B13.out.size
                go_wp2_with (at_builtin; refine Lib.wpList_append_own_string _ rfl _ _ 40 9 rfl w.heap.size 5 i0 Tryz.underlying40 Tryz.underlying9 hi0 hz0 hz1 hz2 _ _ _ rfl O13.out hd rfl ?bp2 ?bq2 ?br2 ?_)
                case bp2 => simp only [maxLen]; omega
                case bq2 => omega
                case br2 => omega
                · intro v22 w22 hown hgrow _
                  obtain ⟨T2, hT2⟩ : ∃ x : ByteArray, x = T1 ++ hd := ⟨_, rfl⟩
                  have zT2 : T2.size ≤ 201100 := by rw [hT2, ByteArray.size_append]; omega
                  have O22 : Hid (OwnB w22 w.heap.size v22 T2.data.toList) := Lib.hid (OwnB.textT hT2 (by simp <;> omega) hown)
                  have B22 : Hid (Below w.heap.size w w22) := Lib.hid (B13.out.grown hgrow (by omega) (fun b hb => (World.ownsRow.lt O13.out b hb).1))
                  have X22 := Lib.hid (boxK O13.out X13.out hgrow)
                  have HT2 := Lib.hid hT2
                  clear hT2 hown hgrow O13 B13 X13 zl2 sb2
                  obtain ⟨c0, c1, c2, c3, c4, c5, c6, c7, c8, c9⟩ := X22.out.at.zero
                  go_wp2_with fail
                  refine (HBd.out _).mono ?_
                  rintro e w14 ⟨rfl, hb⟩
                  have O14 := Lib.hid (ownB_belowU O22.out hb)
                  have B14 := Lib.hid (btE B22.out hb)
                  have X14 := Lib.hid (EntO.below X22.out hb X22.out.lt)
                  clear hb O22 B22 X22
                  clear c0 c1 c2 c3 c4 c5 c6 c7 c8 c9
                  have zl3 : T2.data.toList.length = T2.size := by simp
                  have sb3 := B14.out.size
                  go_wp2_with (at_builtin; refine Lib.wpList_append_own_string _ rfl _ _ 40 9 rfl w.heap.size 5 i0 Tryz.underlying40 Tryz.underlying9 hi0 hz0 hz1 hz2 _ _ _ rfl O14.out bb rfl ?bp3 ?bq3 ?br3 ?_)
                  case bp3 => simp only [maxLen]; omega
                  case bq3 => omega
                  case br3 => omega
                  · intro v23 w23 hown hgrow _
                    obtain ⟨T3, hT3⟩ : ∃ x : ByteArray, x = T2 ++ bb := ⟨_, rfl⟩
                    have zT3 : T3.size ≤ 204700 := by rw [hT3, ByteArray.size_append]; omega
                    have O23 : Hid (OwnB w23 w.heap.size v23 T3.data.toList) := Lib.hid (OwnB.textT hT3 (by simp <;> omega) hown)
                    have B23 : Hid (Below w.heap.size w w23) := Lib.hid (B14.out.grown hgrow (by omega) (fun b hb => (World.ownsRow.lt O14.out b hb).1))
                    have X23 := Lib.hid (boxK O14.out X14.out hgrow)
                    have HT3 := Lib.hid hT3
                    clear hT3 hown hgrow O14 B14 X14 zl3 sb3
                    have HXX : Hid (gpiecesTo L (i + 1) = T3) := Lib.hid (by rw [HS.out, eB.out, eA.out, HT3.out, HT2.out, HT1.out])
                    go_wp2_with fail
                    go_roundw
                    case rel => exact ⟨i + 1, _, rfl, by go_num, by omega, by rw [HXX.out]; exact O23.out, B23.out⟩
                    case measure => simp [intOf]; omega
        · have eA := Lib.hid (eAn.out q1)
          clear eAy eAn
          by_cases q2 : (100 : Int) < l.size
          · have eB := Lib.hid (eBy.out TA q2)
            clear eBy eBn
            go_wp2_with fail
            have E0 := EntAt.new wr ⟨k, p, l, m, u, g0, t, us, gr, b⟩ 34
            have B0 := (Below.refl wr.heap.size wr).alloc (Nat.le_refl _) (.cells (Ent.cells ⟨k, p, l, m, u, g0, t, us, gr, b⟩).toArray 34)
            have X0 : (wr.alloc (.cells (Ent.cells ⟨k, p, l, m, u, g0, t, us, gr, b⟩).toArray 34)).heap[wr.heap.size]? = some (.cells (Ent.cells ⟨k, p, l, m, u, g0, t, us, gr, b⟩).toArray 34 (0, 0)) := heap_alloc_last _ _
            have z0 : wr.heap.size < (wr.alloc (.cells (Ent.cells ⟨k, p, l, m, u, g0, t, us, gr, b⟩).toArray 34)).heap.size := by simp
            simp only [Ent.cells] at E0 B0 z0 X0
            generalize wr.alloc (.cells #[.int .i64 k, .string p, .string l, .int .i64 m, .int .i64 u, .int .i64 g0, .int .i64 t, .string us, .string gr, .string b] 34) = w10 at *
            have E1 := Lib.hid E0
            have X1 := Lib.hid X0
            have B1 := Lib.hid (btE B.out B0)
            have O1 := Lib.hid (ownB_belowU O.out B0)
            clear E0 B0 X0 B O c0 c1 c2 c3 c4 c5 c6 c7 c8 c9
            have X10 : Hid (EntO w10 wr.heap.size ⟨k, p, l, m, u, g0, t, us, gr, b⟩) := X1
            have B10 := B1
            have O10 := O1
            clear E1 X1 B1 O1 z0
            refine (HKn.out _ (HTab.out.below B10.out) (HFw.out.below B10.out)).mono ?_
            rintro e w12 ⟨rfl, hb⟩
            have O12 := Lib.hid (ownB_belowU O10.out hb)
            have B12 := Lib.hid (btE B10.out hb)
            have X12 := Lib.hid (EntO.below X10.out hb X10.out.lt)
            clear hb O10 B10 X10
            have zl1 : T.data.toList.length = T.size := by simp
            have sb1 := B12.out.size
            go_wp2_with (at_builtin; refine Lib.wpList_append_own_string _ rfl _ _ 40 9 rfl w.heap.size 5 i0 Tryz.underlying40 Tryz.underlying9 hi0 hz0 hz1 hz2 _ _ _ rfl O12.out lk rfl ?cp1 ?cq1 ?cr1 ?_)
            case cp1 => simp only [maxLen]; omega
            case cq1 => omega
            case cr1 => omega
            · intro v21 w21 hown hgrow _
              obtain ⟨T1, hT1⟩ : ∃ x : ByteArray, x = T ++ lk := ⟨_, rfl⟩
              have zT1 : T1.size ≤ 200550 := by rw [hT1, ByteArray.size_append]; omega
              have O21 : Hid (OwnB w21 w.heap.size v21 T1.data.toList) := Lib.hid (OwnB.textT hT1 (by simp <;> omega) hown)
              have B21 : Hid (Below w.heap.size w w21) := Lib.hid (B12.out.grown hgrow (by omega) (fun b hb => (World.ownsRow.lt O12.out b hb).1))
              have X21 := Lib.hid (boxK O12.out X12.out hgrow)
              have HT1 := Lib.hid hT1
              clear hT1 hown hgrow O12 B12 X12 zl1 sb1
              obtain ⟨c0, c1, c2, c3, c4, c5, c6, c7, c8, c9⟩ := X21.out.at.zero
              go_wp2_with fail
              clear c0 c1 c2 c3 c4 c5 c6 c7 c8 c9
              have KC : Hid (∀ w', Below w21.heap.size w21 w' → w'.cell? ⟨wr.heap.size, 0, none⟩ = some (.int .i64 k) ∧ w'.cell? ⟨wr.heap.size, 1, none⟩ = some (.string p) ∧ w'.cell? ⟨wr.heap.size, 2, none⟩ = some (.string l) ∧ w'.cell? ⟨wr.heap.size, 3, none⟩ = some (.int .i64 m) ∧ w'.cell? ⟨wr.heap.size, 4, none⟩ = some (.int .i64 u) ∧ w'.cell? ⟨wr.heap.size, 5, none⟩ = some (.int .i64 g0) ∧ w'.cell? ⟨wr.heap.size, 6, none⟩ = some (.int .i64 t) ∧ w'.cell? ⟨wr.heap.size, 7, none⟩ = some (.string us) ∧ w'.cell? ⟨wr.heap.size, 8, none⟩ = some (.string gr) ∧ w'.cell? ⟨wr.heap.size, 9, none⟩ = some (.string b)) := Lib.hid (fun w' hb => by obtain ⟨c0, c1, c2, c3, c4, c5, c6, c7, c8, c9⟩ := (X21.out.below hb X21.out.lt).at.zero; exact ⟨c0, c1, c2, c3, c4, c5, c6, c7, c8, c9⟩)
              refine wp_region_cut 9 (by kernel_rfl) (fun w' => Below w21.heap.size w21 w') (fun x y => Below x.heap.size x y) (fun d v _ => match d with | 34 => v = v21 | 35 => v = .agg #[.int .i64 k, .string p, .string l, .int .i64 m, .int .i64 u, .int .i64 g0, .int .i64 t, .string us, .string gr, .string b] | 36 => v = .pointer (some ⟨wr.heap.size, 0, none⟩) | 37 => v = .int .i64 k | 38 => v = .string fl | 39 => v = .pointer (some ⟨wr.heap.size, 9, none⟩) | 40 => v = .string b | 41 => v = .int .i64 (b.size : Int) | 42 => v = .string hd | _ => True) (by kernel_rfl) (by kernel_rfl) ((Below.refl _ _).drew) (fun _ _ _ _ _ _ h => h) (by simp) ?hops ?hend
              case hops =>
                simp only [List.take_succ_cons, List.take_zero, List.forall_mem_cons]
                refine ⟨?o34, ?o35, ?o36, ?o37, ?o38, ?o39, ?o40, ?o41, ?o42, fun _ h => by cases h⟩
                case o34 =>
                  intro Q a w2 hC hV hI
                  have e4 : a.eval (.tmp 4) = v21 := (hI 4 (by simp [Op.operands]) (by kernel_rfl)).trans rfl
                  have f4 : a.tmps.getD 4 undef = v21 := e4
                  have g4 : a.tmps[4]?.getD undef = v21 := by rw [← Array.getD_eq_getD_getElem?]; exact e4
                  refine op_val (v21) ?_ hC (Below.refl _ _) (by intro d hd; cases hd; rfl)
                  (clear hV hI hC; go_simp <;> (first | rfl | simp))
                case o35 =>
                  intro Q a w2 hC hV hI
                  have e6 : a.eval (.tmp 6) = .pointer (some ⟨wr.heap.size, 0, none⟩) := (hI 6 (by simp [Op.operands]) (by kernel_rfl)).trans rfl
                  have f6 : a.tmps.getD 6 undef = .pointer (some ⟨wr.heap.size, 0, none⟩) := e6
                  have g6 : a.tmps[6]?.getD undef = .pointer (some ⟨wr.heap.size, 0, none⟩) := by rw [← Array.getD_eq_getD_getElem?]; exact e6
                  have hK := KC.out w2 hC
                  refine op_val (.agg #[.int .i64 k, .string p, .string l, .int .i64 m, .int .i64 u, .int .i64 g0, .int .i64 t, .string us, .string gr, .string b]) ?_ hC (Below.refl _ _) (by intro d hd; cases hd; rfl)
                  (clear hV hI hC; go_simp <;> (first | rfl | simp))
                case o36 =>
                  intro Q a w2 hC hV hI
                  have e6 : a.eval (.tmp 6) = .pointer (some ⟨wr.heap.size, 0, none⟩) := (hI 6 (by simp [Op.operands]) (by kernel_rfl)).trans rfl
                  have f6 : a.tmps.getD 6 undef = .pointer (some ⟨wr.heap.size, 0, none⟩) := e6
                  have g6 : a.tmps[6]?.getD undef = .pointer (some ⟨wr.heap.size, 0, none⟩) := by rw [← Array.getD_eq_getD_getElem?]; exact e6
                  refine op_val (.pointer (some ⟨wr.heap.size, 0, none⟩)) ?_ hC (Below.refl _ _) (by intro d hd; cases hd; rfl)
                  (clear hV hI hC; go_simp <;> (first | rfl | simp))
                case o37 =>
                  intro Q a w2 hC hV hI
                  have e36 : a.eval (.tmp 36) = .pointer (some ⟨wr.heap.size, 0, none⟩) := hV 36 (by simp [Op.operands]) (by kernel_rfl)
                  have f36 : a.tmps.getD 36 undef = .pointer (some ⟨wr.heap.size, 0, none⟩) := e36
                  have g36 : a.tmps[36]?.getD undef = .pointer (some ⟨wr.heap.size, 0, none⟩) := by rw [← Array.getD_eq_getD_getElem?]; exact e36
                  have hK := KC.out w2 hC
                  refine op_val (.int .i64 k) ?_ hC (Below.refl _ _) (by intro d hd; cases hd; rfl)
                  (clear hV hI hC; go_simp <;> (first | rfl | simp))
                case o38 =>
                  intro Q a w2 hC hV hI
                  have e37 : a.eval (.tmp 37) = .int .i64 k := hV 37 (by simp [Op.operands, Call.operands]) (by kernel_rfl)
                  have f37 : a.tmps.getD 37 undef = .int .i64 k := e37
                  have g37 : a.tmps[37]?.getD undef = .int .i64 k := by rw [← Array.getD_eq_getD_getElem?]; exact e37
                  refine op_call (f := 26) (args := #[.int .i64 k]) (R := fun v y => v = .string fl ∧ w2 = y) ?_ ((HFl.out w2).mono ?_) ?_
                  · (clear hV hI hC; go_simp <;> (first | rfl | simp))
                  · rintro e y ⟨rfl, rfl⟩; exact ⟨_, rfl, rfl, rfl⟩
                  · rintro v y ⟨rfl, rfl⟩; exact ⟨hC, Below.refl _ _, by intro d hd; cases hd; rfl⟩
                case o39 =>
                  intro Q a w2 hC hV hI
                  have e6 : a.eval (.tmp 6) = .pointer (some ⟨wr.heap.size, 0, none⟩) := (hI 6 (by simp [Op.operands]) (by kernel_rfl)).trans rfl
                  have f6 : a.tmps.getD 6 undef = .pointer (some ⟨wr.heap.size, 0, none⟩) := e6
                  have g6 : a.tmps[6]?.getD undef = .pointer (some ⟨wr.heap.size, 0, none⟩) := by rw [← Array.getD_eq_getD_getElem?]; exact e6
                  refine op_val (.pointer (some ⟨wr.heap.size, 9, none⟩)) ?_ hC (Below.refl _ _) (by intro d hd; cases hd; rfl)
                  (clear hV hI hC; go_simp <;> (first | rfl | simp))
                case o40 =>
                  intro Q a w2 hC hV hI
                  have e39 : a.eval (.tmp 39) = .pointer (some ⟨wr.heap.size, 9, none⟩) := hV 39 (by simp [Op.operands]) (by kernel_rfl)
                  have f39 : a.tmps.getD 39 undef = .pointer (some ⟨wr.heap.size, 9, none⟩) := e39
                  have g39 : a.tmps[39]?.getD undef = .pointer (some ⟨wr.heap.size, 9, none⟩) := by rw [← Array.getD_eq_getD_getElem?]; exact e39
                  have hK := KC.out w2 hC
                  refine op_val (.string b) ?_ hC (Below.refl _ _) (by intro d hd; cases hd; rfl)
                  (clear hV hI hC; go_simp <;> (first | rfl | simp))
                case o41 =>
                  intro Q a w2 hC hV hI
                  have e40 : a.eval (.tmp 40) = .string b := hV 40 (by simp [Op.operands, Call.operands]) (by kernel_rfl)
                  have f40 : a.tmps.getD 40 undef = .string b := e40
                  have g40 : a.tmps[40]?.getD undef = .string b := by rw [← Array.getD_eq_getD_getElem?]; exact e40
                  refine op_val (.int .i64 (b.size : Int)) ?_ hC (Below.refl _ _) (by intro d hd; cases hd; rfl)
                  (clear hV hI hC; go_simp <;> (first | rfl | simp))
                case o42 =>
                  intro Q a w2 hC hV hI
                  have e35 : a.eval (.tmp 35) = .agg #[.int .i64 k, .string p, .string l, .int .i64 m, .int .i64 u, .int .i64 g0, .int .i64 t, .string us, .string gr, .string b] := hV 35 (by simp [Op.operands, Call.operands]) (by kernel_rfl)
                  have f35 : a.tmps.getD 35 undef = .agg #[.int .i64 k, .string p, .string l, .int .i64 m, .int .i64 u, .int .i64 g0, .int .i64 t, .string us, .string gr, .string b] := e35
                  have g35 : a.tmps[35]?.getD undef = .agg #[.int .i64 k, .string p, .string l, .int .i64 m, .int .i64 u, .int .i64 g0, .int .i64 t, .string us, .string gr, .string b] := by rw [← Array.getD_eq_getD_getElem?]; exact e35
                  have e38 : a.eval (.tmp 38) = .string fl := hV 38 (by simp [Op.operands, Call.operands]) (by kernel_rfl)
                  have f38 : a.tmps.getD 38 undef = .string fl := e38
                  have g38 : a.tmps[38]?.getD undef = .string fl := by rw [← Array.getD_eq_getD_getElem?]; exact e38
                  have e41 : a.eval (.tmp 41) = .int .i64 (b.size : Int) := hV 41 (by simp [Op.operands, Call.operands]) (by kernel_rfl)
                  have f41 : a.tmps.getD 41 undef = .int .i64 (b.size : Int) := e41
                  have g41 : a.tmps[41]?.getD undef = .int .i64 (b.size : Int) := by rw [← Array.getD_eq_getD_getElem?]; exact e41
                  refine op_call (f := 25) (args := #[.agg #[.int .i64 k, .string p, .string l, .int .i64 m, .int .i64 u, .int .i64 g0, .int .i64 t, .string us, .string gr, .string b], .string fl, .int .i64 (b.size : Int)]) (R := fun v y => v = .string hd ∧ Below w2.heap.size w2 y) ?_ ((HH.out w2 (HTab.out.below (btE B21.out hC)) (HFw.out.below (btE B21.out hC))).mono ?_) ?_
                  · (clear hV hI hC; go_simp <;> (first | rfl | simp))
                  · rintro e y ⟨rfl, hb⟩; exact ⟨_, rfl, rfl, hb⟩
                  · rintro v y ⟨rfl, hb⟩; exact ⟨hC.trans (hb.mono hC.size), hb, by intro d hd; cases hd; rfl⟩
              case hend =>
                intro f w13 hC hall
                simp only [List.take_succ_cons, List.take_zero, List.drop_succ_cons, List.drop_zero] at hall ⊢
                simp only [List.forall_mem_cons] at hall
                obtain ⟨h34, h35, h36, h37, h38, h39, h40, h41, h42, _⟩ := hall
                replace h34 : f 34 = v21 := h34 34 rfl
                replace h35 : f 35 = .agg #[.int .i64 k, .string p, .string l, .int .i64 m, .int .i64 u, .int .i64 g0, .int .i64 t, .string us, .string gr, .string b] := h35 35 rfl
                replace h36 : f 36 = .pointer (some ⟨wr.heap.size, 0, none⟩) := h36 36 rfl
                replace h37 : f 37 = .int .i64 k := h37 37 rfl
                replace h38 : f 38 = .string fl := h38 38 rfl
                replace h39 : f 39 = .pointer (some ⟨wr.heap.size, 9, none⟩) := h39 39 rfl
                replace h40 : f 40 = .string b := h40 40 rfl
                replace h41 : f 41 = .int .i64 (b.size : Int) := h41 41 rfl
                replace h42 : f 42 = .string hd := h42 42 rfl
                simp only [putAll, Act.put, List.setIfInBounds_toArray, List.set_cons_succ, List.set_cons_zero, h34, h35, h36, h37, h38, h39, h40, h41, h42]
                clear h34 h35 h36 h37 h38 h39 h40 h41 h42
                have B13 := Lib.hid (btE B21.out hC)
                have O13 := Lib.hid (ownB_belowU O21.out hC)
                have X13 := Lib.hid (EntO.below X21.out hC X21.out.lt)
                clear hC KC B21 O21 X21
                have zl2 : T1.data.toList.length = T1.size := by simp
                have sb2 := B13.out.size
                go_wp2_with (at_builtin; refine Lib.wpList_append_own_string _ rfl _ _ 40 9 rfl w.heap.size 5 i0 Tryz.underlying40 Tryz.underlying9 hi0 hz0 hz1 hz2 _ _ _ rfl O13.out hd rfl ?cp2 ?cq2 ?cr2 ?_)
                case cp2 => simp only [maxLen]; omega
                case cq2 => omega
                case cr2 => omega
                · intro v22 w22 hown hgrow _
                  obtain ⟨T2, hT2⟩ : ∃ x : ByteArray, x = T1 ++ hd := ⟨_, rfl⟩
                  have zT2 : T2.size ≤ 201100 := by rw [hT2, ByteArray.size_append]; omega
                  have O22 : Hid (OwnB w22 w.heap.size v22 T2.data.toList) := Lib.hid (OwnB.textT hT2 (by simp <;> omega) hown)
                  have B22 : Hid (Below w.heap.size w w22) := Lib.hid (B13.out.grown hgrow (by omega) (fun b hb => (World.ownsRow.lt O13.out b hb).1))
                  have X22 := Lib.hid (boxK O13.out X13.out hgrow)
                  have HT2 := Lib.hid hT2
                  clear hT2 hown hgrow O13 B13 X13 zl2 sb2
                  obtain ⟨c0, c1, c2, c3, c4, c5, c6, c7, c8, c9⟩ := X22.out.at.zero
                  go_wp2_with fail
                  refine (HBd.out _).mono ?_
                  rintro e w14 ⟨rfl, hb⟩
                  have O14 := Lib.hid (ownB_belowU O22.out hb)
                  have B14 := Lib.hid (btE B22.out hb)
                  have X14 := Lib.hid (EntO.below X22.out hb X22.out.lt)
                  clear hb O22 B22 X22
                  clear c0 c1 c2 c3 c4 c5 c6 c7 c8 c9
                  have zl3 : T2.data.toList.length = T2.size := by simp
                  have sb3 := B14.out.size
                  go_wp2_with (at_builtin; refine Lib.wpList_append_own_string _ rfl _ _ 40 9 rfl w.heap.size 5 i0 Tryz.underlying40 Tryz.underlying9 hi0 hz0 hz1 hz2 _ _ _ rfl O14.out bb rfl ?cp3 ?cq3 ?cr3 ?_)
                  case cp3 => simp only [maxLen]; omega
                  case cq3 => omega
                  case cr3 => omega
                  · intro v23 w23 hown hgrow _
                    obtain ⟨T3, hT3⟩ : ∃ x : ByteArray, x = T2 ++ bb := ⟨_, rfl⟩
                    have zT3 : T3.size ≤ 204700 := by rw [hT3, ByteArray.size_append]; omega
                    have O23 : Hid (OwnB w23 w.heap.size v23 T3.data.toList) := Lib.hid (OwnB.textT hT3 (by simp <;> omega) hown)
                    have B23 : Hid (Below w.heap.size w w23) := Lib.hid (B14.out.grown hgrow (by omega) (fun b hb => (World.ownsRow.lt O14.out b hb).1))
                    have X23 := Lib.hid (boxK O14.out X14.out hgrow)
                    have HT3 := Lib.hid hT3
                    clear hT3 hown hgrow O14 B14 X14 zl3 sb3
                    have HXX : Hid (gpiecesTo L (i + 1) = T3) := Lib.hid (by rw [HS.out, eB.out, eA.out, HT3.out, HT2.out, HT1.out])
                    go_wp2_with fail
                    go_roundw
                    case rel => exact ⟨i + 1, _, rfl, by go_num, by omega, by rw [HXX.out]; exact O23.out, B23.out⟩
                    case measure => simp [intOf]; omega
          · have eB := Lib.hid (eBn.out TA q2)
            clear eBy eBn
            go_wp2_with fail
            have E0 := EntAt.new wr ⟨k, p, l, m, u, g0, t, us, gr, b⟩ 34
            have B0 := (Below.refl wr.heap.size wr).alloc (Nat.le_refl _) (.cells (Ent.cells ⟨k, p, l, m, u, g0, t, us, gr, b⟩).toArray 34)
            have X0 : (wr.alloc (.cells (Ent.cells ⟨k, p, l, m, u, g0, t, us, gr, b⟩).toArray 34)).heap[wr.heap.size]? = some (.cells (Ent.cells ⟨k, p, l, m, u, g0, t, us, gr, b⟩).toArray 34 (0, 0)) := heap_alloc_last _ _
            have z0 : wr.heap.size < (wr.alloc (.cells (Ent.cells ⟨k, p, l, m, u, g0, t, us, gr, b⟩).toArray 34)).heap.size := by simp
            simp only [Ent.cells] at E0 B0 z0 X0
            generalize wr.alloc (.cells #[.int .i64 k, .string p, .string l, .int .i64 m, .int .i64 u, .int .i64 g0, .int .i64 t, .string us, .string gr, .string b] 34) = w10 at *
            have E1 := Lib.hid E0
            have X1 := Lib.hid X0
            have B1 := Lib.hid (btE B.out B0)
            have O1 := Lib.hid (ownB_belowU O.out B0)
            clear E0 B0 X0 B O c0 c1 c2 c3 c4 c5 c6 c7 c8 c9
            have X10 : Hid (EntO w10 wr.heap.size ⟨k, p, l, m, u, g0, t, us, gr, b⟩) := X1
            have B10 := B1
            have O10 := O1
            clear E1 X1 B1 O1 z0
            have KC : Hid (∀ w', Below w10.heap.size w10 w' → w'.cell? ⟨wr.heap.size, 0, none⟩ = some (.int .i64 k) ∧ w'.cell? ⟨wr.heap.size, 1, none⟩ = some (.string p) ∧ w'.cell? ⟨wr.heap.size, 2, none⟩ = some (.string l) ∧ w'.cell? ⟨wr.heap.size, 3, none⟩ = some (.int .i64 m) ∧ w'.cell? ⟨wr.heap.size, 4, none⟩ = some (.int .i64 u) ∧ w'.cell? ⟨wr.heap.size, 5, none⟩ = some (.int .i64 g0) ∧ w'.cell? ⟨wr.heap.size, 6, none⟩ = some (.int .i64 t) ∧ w'.cell? ⟨wr.heap.size, 7, none⟩ = some (.string us) ∧ w'.cell? ⟨wr.heap.size, 8, none⟩ = some (.string gr) ∧ w'.cell? ⟨wr.heap.size, 9, none⟩ = some (.string b)) := Lib.hid (fun w' hb => by obtain ⟨c0, c1, c2, c3, c4, c5, c6, c7, c8, c9⟩ := (X10.out.below hb X10.out.lt).at.zero; exact ⟨c0, c1, c2, c3, c4, c5, c6, c7, c8, c9⟩)
            refine wp_region_cut 9 (by kernel_rfl) (fun w' => Below w10.heap.size w10 w') (fun x y => Below x.heap.size x y) (fun d v _ => match d with | 34 => v = v0 | 35 => v = .agg #[.int .i64 k, .string p, .string l, .int .i64 m, .int .i64 u, .int .i64 g0, .int .i64 t, .string us, .string gr, .string b] | 36 => v = .pointer (some ⟨wr.heap.size, 0, none⟩) | 37 => v = .int .i64 k | 38 => v = .string fl | 39 => v = .pointer (some ⟨wr.heap.size, 9, none⟩) | 40 => v = .string b | 41 => v = .int .i64 (b.size : Int) | 42 => v = .string hd | _ => True) (by kernel_rfl) (by kernel_rfl) ((Below.refl _ _).drew) (fun _ _ _ _ _ _ h => h) (by simp) ?hops ?hend
            case hops =>
              simp only [List.take_succ_cons, List.take_zero, List.forall_mem_cons]
              refine ⟨?o34, ?o35, ?o36, ?o37, ?o38, ?o39, ?o40, ?o41, ?o42, fun _ h => by cases h⟩
              case o34 =>
                intro Q a w2 hC hV hI
                have e4 : a.eval (.tmp 4) = v0 := (hI 4 (by simp [Op.operands]) (by kernel_rfl)).trans rfl
                have f4 : a.tmps.getD 4 undef = v0 := e4
                have g4 : a.tmps[4]?.getD undef = v0 := by rw [← Array.getD_eq_getD_getElem?]; exact e4
                refine op_val (v0) ?_ hC (Below.refl _ _) (by intro d hd; cases hd; rfl)
                (clear hV hI hC; go_simp <;> (first | rfl | simp))
              case o35 =>
                intro Q a w2 hC hV hI
                have e6 : a.eval (.tmp 6) = .pointer (some ⟨wr.heap.size, 0, none⟩) := (hI 6 (by simp [Op.operands]) (by kernel_rfl)).trans rfl
                have f6 : a.tmps.getD 6 undef = .pointer (some ⟨wr.heap.size, 0, none⟩) := e6
                have g6 : a.tmps[6]?.getD undef = .pointer (some ⟨wr.heap.size, 0, none⟩) := by rw [← Array.getD_eq_getD_getElem?]; exact e6
                have hK := KC.out w2 hC
                refine op_val (.agg #[.int .i64 k, .string p, .string l, .int .i64 m, .int .i64 u, .int .i64 g0, .int .i64 t, .string us, .string gr, .string b]) ?_ hC (Below.refl _ _) (by intro d hd; cases hd; rfl)
                (clear hV hI hC; go_simp <;> (first | rfl | simp))
              case o36 =>
                intro Q a w2 hC hV hI
                have e6 : a.eval (.tmp 6) = .pointer (some ⟨wr.heap.size, 0, none⟩) := (hI 6 (by simp [Op.operands]) (by kernel_rfl)).trans rfl
                have f6 : a.tmps.getD 6 undef = .pointer (some ⟨wr.heap.size, 0, none⟩) := e6
                have g6 : a.tmps[6]?.getD undef = .pointer (some ⟨wr.heap.size, 0, none⟩) := by rw [← Array.getD_eq_getD_getElem?]; exact e6
                refine op_val (.pointer (some ⟨wr.heap.size, 0, none⟩)) ?_ hC (Below.refl _ _) (by intro d hd; cases hd; rfl)
                (clear hV hI hC; go_simp <;> (first | rfl | simp))
              case o37 =>
                intro Q a w2 hC hV hI
                have e36 : a.eval (.tmp 36) = .pointer (some ⟨wr.heap.size, 0, none⟩) := hV 36 (by simp [Op.operands]) (by kernel_rfl)
                have f36 : a.tmps.getD 36 undef = .pointer (some ⟨wr.heap.size, 0, none⟩) := e36
                have g36 : a.tmps[36]?.getD undef = .pointer (some ⟨wr.heap.size, 0, none⟩) := by rw [← Array.getD_eq_getD_getElem?]; exact e36
                have hK := KC.out w2 hC
                refine op_val (.int .i64 k) ?_ hC (Below.refl _ _) (by intro d hd; cases hd; rfl)
                (clear hV hI hC; go_simp <;> (first | rfl | simp))
              case o38 =>
                intro Q a w2 hC hV hI
                have e37 : a.eval (.tmp 37) = .int .i64 k := hV 37 (by simp [Op.operands, Call.operands]) (by kernel_rfl)
                have f37 : a.tmps.getD 37 undef = .int .i64 k := e37
                have g37 : a.tmps[37]?.getD undef = .int .i64 k := by rw [← Array.getD_eq_getD_getElem?]; exact e37
                refine op_call (f := 26) (args := #[.int .i64 k]) (R := fun v y => v = .string fl ∧ w2 = y) ?_ ((HFl.out w2).mono ?_) ?_
                · (clear hV hI hC; go_simp <;> (first | rfl | simp))
                · rintro e y ⟨rfl, rfl⟩; exact ⟨_, rfl, rfl, rfl⟩
                · rintro v y ⟨rfl, rfl⟩; exact ⟨hC, Below.refl _ _, by intro d hd; cases hd; rfl⟩
              case o39 =>
                intro Q a w2 hC hV hI
                have e6 : a.eval (.tmp 6) = .pointer (some ⟨wr.heap.size, 0, none⟩) := (hI 6 (by simp [Op.operands]) (by kernel_rfl)).trans rfl
                have f6 : a.tmps.getD 6 undef = .pointer (some ⟨wr.heap.size, 0, none⟩) := e6
                have g6 : a.tmps[6]?.getD undef = .pointer (some ⟨wr.heap.size, 0, none⟩) := by rw [← Array.getD_eq_getD_getElem?]; exact e6
                refine op_val (.pointer (some ⟨wr.heap.size, 9, none⟩)) ?_ hC (Below.refl _ _) (by intro d hd; cases hd; rfl)
                (clear hV hI hC; go_simp <;> (first | rfl | simp))
              case o40 =>
                intro Q a w2 hC hV hI
                have e39 : a.eval (.tmp 39) = .pointer (some ⟨wr.heap.size, 9, none⟩) := hV 39 (by simp [Op.operands]) (by kernel_rfl)
                have f39 : a.tmps.getD 39 undef = .pointer (some ⟨wr.heap.size, 9, none⟩) := e39
                have g39 : a.tmps[39]?.getD undef = .pointer (some ⟨wr.heap.size, 9, none⟩) := by rw [← Array.getD_eq_getD_getElem?]; exact e39
                have hK := KC.out w2 hC
                refine op_val (.string b) ?_ hC (Below.refl _ _) (by intro d hd; cases hd; rfl)
                (clear hV hI hC; go_simp <;> (first | rfl | simp))
              case o41 =>
                intro Q a w2 hC hV hI
                have e40 : a.eval (.tmp 40) = .string b := hV 40 (by simp [Op.operands, Call.operands]) (by kernel_rfl)
                have f40 : a.tmps.getD 40 undef = .string b := e40
                have g40 : a.tmps[40]?.getD undef = .string b := by rw [← Array.getD_eq_getD_getElem?]; exact e40
                refine op_val (.int .i64 (b.size : Int)) ?_ hC (Below.refl _ _) (by intro d hd; cases hd; rfl)
                (clear hV hI hC; go_simp <;> (first | rfl | simp))
              case o42 =>
                intro Q a w2 hC hV hI
                have e35 : a.eval (.tmp 35) = .agg #[.int .i64 k, .string p, .string l, .int .i64 m, .int .i64 u, .int .i64 g0, .int .i64 t, .string us, .string gr, .string b] := hV 35 (by simp [Op.operands, Call.operands]) (by kernel_rfl)
                have f35 : a.tmps.getD 35 undef = .agg #[.int .i64 k, .string p, .string l, .int .i64 m, .int .i64 u, .int .i64 g0, .int .i64 t, .string us, .string gr, .string b] := e35
                have g35 : a.tmps[35]?.getD undef = .agg #[.int .i64 k, .string p, .string l, .int .i64 m, .int .i64 u, .int .i64 g0, .int .i64 t, .string us, .string gr, .string b] := by rw [← Array.getD_eq_getD_getElem?]; exact e35
                have e38 : a.eval (.tmp 38) = .string fl := hV 38 (by simp [Op.operands, Call.operands]) (by kernel_rfl)
                have f38 : a.tmps.getD 38 undef = .string fl := e38
                have g38 : a.tmps[38]?.getD undef = .string fl := by rw [← Array.getD_eq_getD_getElem?]; exact e38
                have e41 : a.eval (.tmp 41) = .int .i64 (b.size : Int) := hV 41 (by simp [Op.operands, Call.operands]) (by kernel_rfl)
                have f41 : a.tmps.getD 41 undef = .int .i64 (b.size : Int) := e41
                have g41 : a.tmps[41]?.getD undef = .int .i64 (b.size : Int) := by rw [← Array.getD_eq_getD_getElem?]; exact e41
                refine op_call (f := 25) (args := #[.agg #[.int .i64 k, .string p, .string l, .int .i64 m, .int .i64 u, .int .i64 g0, .int .i64 t, .string us, .string gr, .string b], .string fl, .int .i64 (b.size : Int)]) (R := fun v y => v = .string hd ∧ Below w2.heap.size w2 y) ?_ ((HH.out w2 (HTab.out.below (btE B10.out hC)) (HFw.out.below (btE B10.out hC))).mono ?_) ?_
                · (clear hV hI hC; go_simp <;> (first | rfl | simp))
                · rintro e y ⟨rfl, hb⟩; exact ⟨_, rfl, rfl, hb⟩
                · rintro v y ⟨rfl, hb⟩; exact ⟨hC.trans (hb.mono hC.size), hb, by intro d hd; cases hd; rfl⟩
            case hend =>
              intro f w13 hC hall
              simp only [List.take_succ_cons, List.take_zero, List.drop_succ_cons, List.drop_zero] at hall ⊢
              simp only [List.forall_mem_cons] at hall
              obtain ⟨h34, h35, h36, h37, h38, h39, h40, h41, h42, _⟩ := hall
              replace h34 : f 34 = v0 := h34 34 rfl
              replace h35 : f 35 = .agg #[.int .i64 k, .string p, .string l, .int .i64 m, .int .i64 u, .int .i64 g0, .int .i64 t, .string us, .string gr, .string b] := h35 35 rfl
              replace h36 : f 36 = .pointer (some ⟨wr.heap.size, 0, none⟩) := h36 36 rfl
              replace h37 : f 37 = .int .i64 k := h37 37 rfl
              replace h38 : f 38 = .string fl := h38 38 rfl
              replace h39 : f 39 = .pointer (some ⟨wr.heap.size, 9, none⟩) := h39 39 rfl
              replace h40 : f 40 = .string b := h40 40 rfl
              replace h41 : f 41 = .int .i64 (b.size : Int) := h41 41 rfl
              replace h42 : f 42 = .string hd := h42 42 rfl
              simp only [putAll, Act.put, List.setIfInBounds_toArray, List.set_cons_succ, List.set_cons_zero, h34, h35, h36, h37, h38, h39, h40, h41, h42]
              clear h34 h35 h36 h37 h38 h39 h40 h41 h42
              have B13 := Lib.hid (btE B10.out hC)
              have O13 := Lib.hid (ownB_belowU O10.out hC)
              have X13 := Lib.hid (EntO.below X10.out hC X10.out.lt)
              clear hC KC B10 O10 X10
              have zl1 : T.data.toList.length = T.size := by simp
              have sb1 := B13.out.size
              go_wp2_with (at_builtin; refine Lib.wpList_append_own_string _ rfl _ _ 40 9 rfl w.heap.size 5 i0 Tryz.underlying40 Tryz.underlying9 hi0 hz0 hz1 hz2 _ _ _ rfl O13.out hd rfl ?dp1 ?dq1 ?dr1 ?_)
              case dp1 => simp only [maxLen]; omega
              case dq1 => omega
              case dr1 => omega
              · intro v21 w21 hown hgrow _
                obtain ⟨T1, hT1⟩ : ∃ x : ByteArray, x = T ++ hd := ⟨_, rfl⟩
                have zT1 : T1.size ≤ 201100 := by rw [hT1, ByteArray.size_append]; omega
                have O21 : Hid (OwnB w21 w.heap.size v21 T1.data.toList) := Lib.hid (OwnB.textT hT1 (by simp <;> omega) hown)
                have B21 : Hid (Below w.heap.size w w21) := Lib.hid (B13.out.grown hgrow (by omega) (fun b hb => (World.ownsRow.lt O13.out b hb).1))
                have X21 := Lib.hid (boxK O13.out X13.out hgrow)
                have HT1 := Lib.hid hT1
                clear hT1 hown hgrow O13 B13 X13 zl1 sb1
                obtain ⟨c0, c1, c2, c3, c4, c5, c6, c7, c8, c9⟩ := X21.out.at.zero
                go_wp2_with fail
                refine (HBd.out _).mono ?_
                rintro e w14 ⟨rfl, hb⟩
                have O14 := Lib.hid (ownB_belowU O21.out hb)
                have B14 := Lib.hid (btE B21.out hb)
                have X14 := Lib.hid (EntO.below X21.out hb X21.out.lt)
                clear hb O21 B21 X21
                clear c0 c1 c2 c3 c4 c5 c6 c7 c8 c9
                have zl2 : T1.data.toList.length = T1.size := by simp
                have sb2 := B14.out.size
                go_wp2_with (at_builtin; refine Lib.wpList_append_own_string _ rfl _ _ 40 9 rfl w.heap.size 5 i0 Tryz.underlying40 Tryz.underlying9 hi0 hz0 hz1 hz2 _ _ _ rfl O14.out bb rfl ?dp2 ?dq2 ?dr2 ?_)
                case dp2 => simp only [maxLen]; omega
                case dq2 => omega
                case dr2 => omega
                · intro v22 w22 hown hgrow _
                  obtain ⟨T2, hT2⟩ : ∃ x : ByteArray, x = T1 ++ bb := ⟨_, rfl⟩
                  have zT2 : T2.size ≤ 204700 := by rw [hT2, ByteArray.size_append]; omega
                  have O22 : Hid (OwnB w22 w.heap.size v22 T2.data.toList) := Lib.hid (OwnB.textT hT2 (by simp <;> omega) hown)
                  have B22 : Hid (Below w.heap.size w w22) := Lib.hid (B14.out.grown hgrow (by omega) (fun b hb => (World.ownsRow.lt O14.out b hb).1))
                  have X22 := Lib.hid (boxK O14.out X14.out hgrow)
                  have HT2 := Lib.hid hT2
                  clear hT2 hown hgrow O14 B14 X14 zl2 sb2
                  have HXX : Hid (gpiecesTo L (i + 1) = T2) := Lib.hid (by rw [HS.out, eB.out, eA.out, HT2.out, HT1.out])
                  go_wp2_with fail
                  go_roundw
                  case rel => exact ⟨i + 1, _, rfl, by go_num, by omega, by rw [HXX.out]; exact O22.out, B22.out⟩
                  case measure => simp [intOf]; omega
      · obtain rfl : i = n := by omega
        have hlt2 : ¬ (i : Int) < (i : Int) := by omega
        have HE := HY
        have y1 := HZ.out i (Nat.le_refl _)
        generalize gpiecesTo L i = T at HE y1 O
        have yT : T.size ≤ 198000 := by omega
        have zT : T.data.toList.length = T.size := by simp
        go_wp2_with fail
        refine (HN.out _).mono ?_
        rintro e w2 ⟨rfl, hb⟩
        have O2 := Lib.hid (ownB_belowU O.out hb)
        have B2 := Lib.hid (btE B.out hb)
        clear hb O B
        have s2 := B2.out.size
        go_wp2_with (at_builtin; refine Lib.wpList_append_own_string _ rfl _ _ 40 9 rfl w.heap.size 5 i0 Tryz.underlying40 Tryz.underlying9 hi0 hz0 hz1 hz2 _ _ _ rfl O2.out n1024 rfl ?f3 ?f4 ?f5 ?_)
        case f3 => simp only [maxLen]; omega
        case f4 => omega
        case f5 => omega
        · intro v3 w3 hown3 hgrow3 _
          have O3 : OwnB w3 w.heap.size v3 (T.data.toList ++ n1024.data.toList) := OwnB.textU (by simp <;> omega) hown3
          have B3 : Hid (Below w.heap.size w w3) := Lib.hid (B2.out.grown hgrow3 (by omega) (fun b hb => (World.ownsRow.lt O2.out b hb).1))
          have hc := O3.conv
          rw [show (⟨(T.data.toList ++ n1024.data.toList).toArray⟩ : ByteArray) = T ++ n1024 from ba_ext (by simp)] at hc
          clear hown3 hgrow3 O2 B2 O3
          go_wp2_with fail
          go_ret2
          exact ⟨ret_sb2 HE.out rfl rfl, B3.out⟩
end Go.Proofs.YtgpgkgahbkmdiaaGreatDoor

/- PutGnu, as the law asks it. -/
namespace Go.Proofs.YtgpgkgahbkmdiaaGreatDoor
open Go.ChangeShapes Go.WideShapes Go.ChangeAt Go.RowKit Go.Deep

def TabsF (w : World) : Prop := Tabs w ∧ FW w
theorem TabsF.below {w w' : World} (h : TabsF w) (hb : Below w.heap.size w w') : TabsF w' := ⟨h.1.below hb, h.2.below hb⟩
theorem gnu_spec (L : List Ent) (n g cap : Nat) (w : World) (hn : n = L.length) (hm : n ≤ 1048576) (hcap : n ≤ cap) (hg : g < w.heap.size) (hsm : SmallL L) (h1 : RowE w g L) :
    Calls Tryz.prog 7 #[.slice (some ⟨g, 0, none⟩) n cap] w fun e w' => e = .returned (.tuple #[.string (putGnuv L).1, .bool (putGnuv L).2]) ∧ Below w.heap.size w w' := putGnu_spec L n g cap w hn hm hcap hg hsm h1
theorem gnu_impl (L : List Ent) (n g cap : Nat) (w : World) (hn : n = L.length) (hm : n ≤ 1048576) (hg : g < w.heap.size) (hsm : SmallL L) (ht : TabsF w) (h1 : RowE w g L) :
    Calls Tryz.prog 9 #[.slice (some ⟨g, 0, none⟩) n cap] w fun e w' => e = .returned (.tuple #[.string (putGnuv L).1, .bool (putGnuv L).2]) ∧ Below w.heap.size w w' := putGnu_impl L n g cap w hn hm hg hsm ht.1 ht.2 h1
end Go.Proofs.YtgpgkgahbkmdiaaGreatDoor
