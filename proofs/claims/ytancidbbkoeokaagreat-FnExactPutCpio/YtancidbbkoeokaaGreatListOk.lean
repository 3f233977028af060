/- Contract of spec.ListOk. -/
import Derived.Test.YtancidbbkoeokaaGreatEntOk
import Derived.Test.YtancidbbkoeokaaGreatFindE
import Derived.Deep.RegionWith
import Derived.Deep.RegionHeld3
namespace Go.Proofs.YtancidbbkoeokaaGreat
open Go.ChangeShapes Go.WideShapes Go.ChangeAt Go.RowKit Go.Deep

/-- No entry's texts are longer than a bound that no argument comes near. -/
def SmallL (L : List Ent) : Prop := ∀ e ∈ L, esz e ≤ 4194304
theorem findFrom_cases (L : List Ent) (p : ByteArray) (i : Nat) : findFrom L p i = -1 ∨ ∃ (a : Nat) (e : Ent), findFrom L p i = ((i + a : Nat) : Int) ∧ L[a]? = some e ∧ e.path = p := by
  induction L generalizing i with
  | nil => exact .inl rfl
  | cons e L ih =>
    rw [findFrom]
    by_cases h : e.path = p
    · rw [if_pos h]
      exact .inr ⟨0, e, by simp, rfl, h⟩
    · rw [if_neg h]
      rcases ih (i + 1) with h1 | ⟨a, e', h1, h2, h3⟩
      · exact .inl h1
      · exact .inr ⟨a + 1, e', by rw [h1]; congr 1; omega, by simpa using h2, h3⟩
theorem find_cases (L : List Ent) (p : ByteArray) : findv L p = -1 ∨ ∃ (a : Nat) (e : Ent), findv L p = ((a : Nat) : Int) ∧ L[a]? = some e ∧ e.path = p := by
  rcases findFrom_cases L p 0 with h | ⟨a, e, h, h1, h2⟩
  · exact .inl h
  · exact .inr ⟨a, e, by rw [findv, h]; simp, h1, h2⟩
/-- The file that a hard link among the entries behind L asks for. -/
def fileIn (L : List Ent) (p : ByteArray) : Bool := L.any fun e => decide (e.path = p) && decide (e.kind = 0)
def fileAt (L : List Ent) (p : ByteArray) : Bool := if findv L p < 0 then false else decide ((L.getD (findv L p).toNat entD).kind = 0)
theorem fileAt_none {L : List Ent} {p : ByteArray} (h : findv L p = -1) : fileAt L p = false := by simp [fileAt, h]
theorem fileAt_some {L : List Ent} {p : ByteArray} {a : Nat} {e : Ent} (h : findv L p = (a : Int)) (he : L[a]? = some e) : fileAt L p = decide (e.kind = 0) := by
  rw [fileAt, h, if_neg (by omega)]
  simp [List.getD, he]
/-- What the i-th entry e of L must be. -/
def entAtOk (L : List Ent) (i : Nat) (e : Ent) : Bool := entOkv e && decide (findv L e.path = (i : Int)) && (if e.kind = 3 then fileAt (L.take i) e.link else true)
def listOkv (L : List Ent) : Bool := ((List.range L.length).all fun i => entAtOk L i (L.getD i entD)) && decide (L.length ≤ 30)
def OksTo (L : List Ent) (i : Nat) : Prop := ∀ j, j < i → entAtOk L j (L.getD j entD) = true
theorem OksTo.step {L : List Ent} {i : Nat} {e : Ent} (h : OksTo L i) (he : L[i]? = some e) (hk : entAtOk L i e = true) : OksTo L (i + 1) := by
  intro j hj
  by_cases e1 : j = i
  · subst e1; simpa [List.getD, he] using hk
  · exact h j (by omega)
theorem listOk_bad {L : List Ent} {i : Nat} {e : Ent} (he : L[i]? = some e) (hk : entAtOk L i e = false) : listOkv L = false := by
  have hlt : i < L.length := (List.getElem?_eq_some_iff.1 he).1
  cases h : listOkv L with
  | false => rfl
  | true =>
    simp only [listOkv, Bool.and_eq_true, List.all_eq_true] at h
    have := h.1 i (List.mem_range.2 hlt)
    simp only [List.getD, he, Option.getD_some] at this
    rw [hk] at this; cases this
theorem listOk_done {L : List Ent} (h : OksTo L L.length) : listOkv L = decide (L.length ≤ 30) := by
  have : ((List.range L.length).all fun i => entAtOk L i (L.getD i entD)) = true := List.all_eq_true.2 (fun i hi => h i (List.mem_range.1 hi))
  rw [listOkv, this]; simp
theorem small_parts {e : Ent} (h : esz e ≤ 4194304) : e.path.size ≤ 4194304 ∧ e.link.size ≤ 4194304 ∧ e.user.size ≤ 4194304 ∧ e.group.size ≤ 4194304 ∧ e.body.size ≤ 4194304 := by
  simp only [esz] at h
  omega
theorem SmallL.get {L : List Ent} (h : SmallL L) {i : Nat} {e : Ent} (he : L[i]? = some e) : esz e ≤ 4194304 := h e (List.mem_of_getElem? he)
theorem kept_cellF {x w1 : World} {g k : Nat} {t : Value} (h1 : Below x.heap.size x w1) (hg : g + 1 ≤ x.heap.size) (hc : x.cell? ⟨g, k, none⟩ = .some t) : w1.cell? ⟨g, k, none⟩ = .some t := (h1.cell (p := ⟨g, k, none⟩) hg).trans hc
set_option maxHeartbeats 1600000 in
theorem listOk_spec (L : List Ent) (n g cap : Nat) (w : World) (hn : n = L.length) (hm : n ≤ 4194304) (hcap : n ≤ cap) (hg : g < w.heap.size) (hsm : SmallL L) (h1 : RowE w g L) :
    Calls Tryz.prog 15 #[.slice (some ⟨g, 0, none⟩) n cap] w fun e w' => e = .returned (.bool (listOkv L)) ∧ Below w.heap.size w w' := by
  have H1 := Lib.hid h1
  have HG : Hid (∀ i, i < n → ∃ e, L[i]? = some e ∧ esz e ≤ 4194304) := Lib.hid (fun i hi => by obtain ⟨e, he⟩ := getE' (L := L) (i := i) (by omega); exact ⟨e, he, hsm.get he⟩)
  have HBad : Hid (∀ i e, L[i]? = some e → entAtOk L i e = false → listOkv L = false) := Lib.hid (fun i e he hk => listOk_bad he hk)
  have HDone : Hid (OksTo L n → listOkv L = decide (n ≤ 30)) := Lib.hid (by rw [hn]; exact listOk_done)
  have HF := Lib.hid (fun p w (hg : g < w.heap.size) (h : RowE w g L) => find_spec L p n g cap w hn hm hg h)
  have HFt := Lib.hid (fun i p w (hi : i ≤ n) (hg : g < w.heap.size) (h : RowE w g L) => find_spec (L.take i) p i g cap w (by simp; omega) (by omega) hg (h.take i))
  generalize listOkv L = r at HBad HDone
  clear h1 hn hsm
  go_enter Tryz.func15, Tryz.ntmps15
  go_wp2_with fail
  go_loopw [3] (fun u wr => ∃ i : Nat, u = .int .i64 i ∧ i ≤ n ∧ OksTo L i ∧ Below w.heap.size w wr) (fun u _ => n - (intOf u).toNat)
  case atStart => exact ⟨0, rfl, Nat.zero_le _, fun j hj => by omega, Below.refl _ _⟩
  case round =>
    obtain ⟨i, rfl, hi, hr, hb⟩ := hrel
    have HR := Lib.hid hr
    have B := Lib.hid hb
    clear hr hb
    by_cases hlt : i < n
    · have hlt2 : (i : Int) < (n : Int) := by omega
      obtain ⟨e, he, hz⟩ := HG.out i hlt
      have R := Lib.hid (H1.out.below B.out hg)
      obtain ⟨c0, c1, c2, c3, c4, c5, c6, c7, c8, c9⟩ := R.out.ten he
      have HBi := Lib.hid (HBad.out i e he)
      have HSi := Lib.hid (fun hk => HR.out.step he hk)
      clear he HBad HG
      have hsz := small_parts hz
      obtain ⟨k, p, l, m, u, g0, t, us, gr, b⟩ := e
      have HO := Lib.hid (fun w => entryOk_spec k p l m u g0 t us gr b w hsz.1 hsz.2.1 hsz.2.2.1 hsz.2.2.2.1 hsz.2.2.2.2)
      have HA : Hid (entAtOk L i ⟨k, p, l, m, u, g0, t, us, gr, b⟩ = (entOkv ⟨k, p, l, m, u, g0, t, us, gr, b⟩ && decide (findv L p = (i : Int)) && (if k = 3 then fileAt (L.take i) l else true))) := Lib.hid rfl
      generalize entAtOk L i ⟨k, p, l, m, u, g0, t, us, gr, b⟩ = ra at HA HBi HSi
      generalize entOkv ⟨k, p, l, m, u, g0, t, us, gr, b⟩ = b1 at HA HO
      have HFi := Lib.hid (HF.out p)
      have HFl := Lib.hid (fun w => HFt.out i l w hi)
      have HFc := Lib.hid (find_cases (L.take i) l)
      have HTk : Hid (∀ a e, (L.take i)[a]? = some e → a < i ∧ L[a]? = some e) := Lib.hid (fun a e h => by
        rw [List.getElem?_take] at h
        split at h
        · exact ⟨by assumption, h⟩
        · cases h)
      have HA1 : Hid (findv (L.take i) l = -1 → fileAt (L.take i) l = false) := Lib.hid fileAt_none
      have HA2 : Hid (∀ (a : Nat) e, findv (L.take i) l = (a : Int) → (L.take i)[a]? = some e → fileAt (L.take i) l = decide (e.kind = 0)) := Lib.hid (fun a e h he => fileAt_some h he)
      generalize findv L p = f1 at HA HFi
      generalize findv (L.take i) l = f2 at HFl HFc HA1 HA2
      generalize fileAt (L.take i) l = rf at HA HA1 HA2
      have zr : g < wr.heap.size := by have := B.out.size; omega
      go_wp2_with fail
      refine (HO.out _).mono ?_
      rintro e w1 ⟨rfl, hb⟩
      obtain ⟨k1, bb, z1⟩ := one_new (e1 := ⟨k, p, l, m, u, g0, t, us, gr, b⟩) hb
      have E1 := Lib.hid k1
      have R1 := Lib.hid (R.out.below bb zr)
      have B1 := Lib.hid (btE B.out bb)
      clear hb k1 bb c0 c1 c2 c3 c4 c5 c6 c7 c8 c9 R B HO
      obtain ⟨c0, c1, c2, c3, c4, c5, c6, c7, c8, c9⟩ := E1.out.zero
      cases b1 with
      | false =>
        go_wp2_with fail
        go_ret
        exact ⟨ret_bool (HBi.out (by rw [HA.out]; simp)).symm, B1.out⟩
      | true =>
        go_wp2_with fail
        refine (HFi.out _ (by omega) R1.out).mono ?_
        rintro e w2 ⟨rfl, hb⟩
        have E2 := Lib.hid (E1.out.below hb (by omega))
        have R2 := Lib.hid (R1.out.below hb (by omega))
        have B2 := Lib.hid (btE B1.out hb)
        have z2 := Nat.le_trans z1 hb.size
        clear hb c0 c1 c2 c3 c4 c5 c6 c7 c8 c9 E1 R1 B1 HFi
        obtain ⟨c0, c1, c2, c3, c4, c5, c6, c7, c8, c9⟩ := E2.out.zero
        by_cases hf : f1 = (i : Int)
        · by_cases hk : k = 3
          · subst hk
            have hic : (i : Int) ≤ (cap : Int) := by omega
            go_wp2_with fail
            have R3 : Hid (RowE w2.drew g L) := Lib.hid R2.out
            have B3 : Hid (Below w.heap.size w w2.drew) := Lib.hid B2.out.drew
            have z3 : wr.heap.size + 1 ≤ w2.drew.heap.size := z2
            have zg : g < w2.drew.heap.size := by omega
            clear R2 B2 z2
            go_region_held3 (fun w' => w'.cell? ⟨wr.heap.size, 2, none⟩ = some (.string l)) (assumption) (first | (go_at_call 31; refine (HFl.out _ zg R3.out).mono ?_; rintro e w3 ⟨rfl, hb⟩; have d2 := kept_cellF hb z3 c2; replace R3 := Lib.hid (R3.out.below hb zg); replace B3 := Lib.hid (btE B3.out hb); replace z3 := Nat.le_trans z3 hb.size; replace zg := Nat.lt_of_lt_of_le zg hb.size; clear hb))
            clear c0 c1 c2 c3 c4 c5 c6 c7 c8 c9 E2 HFl
            rcases HFc.out with h | ⟨a, e, h, he, _⟩
            · have HX : Hid (r = false) := Lib.hid (HBi.out (by rw [HA.out, HA1.out h]; simp))
              subst h
              clear HA HBi HSi HA1 HA2 HFc HTk
              go_wp2_with fail
              go_ret
              exact ⟨ret_bool HX.out.symm, B3.out⟩
            · subst h
              obtain ⟨ha, hLa⟩ := HTk.out a e he
              have HQ := Lib.hid (HA2.out a e rfl he)
              have ha2 : (a : Int) < (n : Int) := by omega
              obtain ⟨d0, _⟩ := R3.out.ten hLa
              clear he hLa
              generalize e.kind = ek at d0 HQ
              by_cases hek : ek = 0
              · subst hek
                have HS := Lib.hid (HSi.out (by rw [HA.out, HQ.out]; simp [hf]))
                clear HA HBi HSi HA1 HA2 HFc HTk HQ
                go_wp2_with fail
                go_roundw
                case rel => exact ⟨i + 1, by go_num, by omega, HS.out, B3.out⟩
                case measure => simp [intOf]; omega
              · have HX : Hid (r = false) := Lib.hid (HBi.out (by rw [HA.out, HQ.out]; simp [hek]))
                have hek2 : (ek != 0) = true := by simpa using hek
                clear HA HBi HSi HA1 HA2 HFc HTk HQ hek
                go_wp2_with fail
                go_ret
                exact ⟨ret_bool HX.out.symm, B3.out⟩
          · have HS := Lib.hid (HSi.out (by rw [HA.out]; simp [hf, hk]))
            clear HA HBi HSi HA1 HA2 HFc HTk
            go_wp2_with fail
            go_roundw
            case rel => exact ⟨i + 1, by go_num, by omega, HS.out, B2.out⟩
            case measure => simp [intOf]; omega
        · have HX : Hid (r = false) := Lib.hid (HBi.out (by rw [HA.out]; simp [hf]))
          clear HA HBi HSi HA1 HA2 HFc HTk
          go_wp2_with fail
          go_ret
          exact ⟨ret_bool HX.out.symm, B2.out⟩
    · obtain rfl : i = n := by omega
      have hlt2 : ¬ (i : Int) < (i : Int) := by omega
      have HFin := Lib.hid (HDone.out HR.out)
      go_wp2_with fail
      go_ret
      exact ⟨ret_bool (by rw [HFin.out]; simp; try omega), B.out⟩
end Go.Proofs.YtancidbbkoeokaaGreat
