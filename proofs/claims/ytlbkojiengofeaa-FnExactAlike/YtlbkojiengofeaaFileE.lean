/- Contracts of spec.l03File and spec.Body. -/
import Derived.Test.YtlbkojiengofeaaListOk
namespace Go.Proofs.Ytlbkojiengofeaa
open Go.ChangeShapes Go.WideShapes Go.ChangeAt Go.RowKit Go.Deep

/-- A place, if a file stands there. -/
def fileTo (L : List Ent) (a : Int) : Int := if a < 0 then -1 else if (L.getD a.toNat entD).kind = 0 then a else -1
/-- The place of the file that a path means, or -1. -/
def filev (L : List Ent) (p : ByteArray) : Int := if findv L p < 0 then -1 else if (L.getD (findv L p).toNat entD).kind = 3 then fileTo L (findv L (L.getD (findv L p).toNat entD).link) else fileTo L (findv L p)
theorem fileTo_none (L : List Ent) : fileTo L (-1) = -1 := by simp [fileTo]
theorem fileTo_some {L : List Ent} {a : Nat} {e : Ent} (h : L[a]? = some e) : fileTo L (a : Int) = if e.kind = 0 then (a : Int) else -1 := by
  rw [fileTo, if_neg (by omega)]
  simp [List.getD, h]
theorem filev_none {L : List Ent} {p : ByteArray} (h : findv L p = -1) : filev L p = -1 := by simp [filev, h]
theorem filev_some {L : List Ent} {p : ByteArray} {a : Nat} {e : Ent} (h : findv L p = (a : Int)) (he : L[a]? = some e) : filev L p = if e.kind = 3 then fileTo L (findv L e.link) else fileTo L (a : Int) := by
  rw [filev, h, if_neg (by omega)]
  simp [List.getD, he]
theorem fileTo_cases (L : List Ent) (a : Int) (ha : a = -1 ∨ ∃ (k : Nat) (e : Ent), a = (k : Int) ∧ L[k]? = some e) : fileTo L a = -1 ∨ ∃ (k : Nat) (e : Ent), fileTo L a = (k : Int) ∧ L[k]? = some e ∧ e.kind = 0 := by
  rcases ha with rfl | ⟨k, e, rfl, he⟩
  · exact .inl (fileTo_none L)
  · rw [fileTo_some he]
    by_cases h : e.kind = 0
    · rw [if_pos h]; exact .inr ⟨k, e, rfl, he, h⟩
    · rw [if_neg h]; exact .inl rfl
theorem filev_cases (L : List Ent) (p : ByteArray) : filev L p = -1 ∨ ∃ (k : Nat) (e : Ent), filev L p = (k : Int) ∧ L[k]? = some e ∧ e.kind = 0 := by
  rcases find_cases L p with h | ⟨a, e, h, he, _⟩
  · exact .inl (filev_none h)
  · rw [filev_some h he]
    split
    · refine fileTo_cases L _ ?_
      rcases find_cases L e.link with h' | ⟨a', e', h', he', _⟩
      · exact .inl h'
      · exact .inr ⟨a', e', h', he'⟩
    · exact fileTo_cases L _ (.inr ⟨a, e, rfl, he⟩)
set_option maxHeartbeats 1600000 in
theorem file_spec (L : List Ent) (p : ByteArray) (n g cap : Nat) (w : World) (hn : n = L.length) (hm : n ≤ 4194304) (hg : g < w.heap.size) (h1 : RowE w g L) :
    Calls Try.prog 52 #[.slice (some ⟨g, 0, none⟩) n cap, .string p] w fun e w' => e = .returned (.int .i64 (filev L p)) ∧ Below w.heap.size w w' := by
  have H1 := Lib.hid h1
  have HL : Hid (∀ (a : Nat) (e : Ent), L[a]? = some e → a < n) := Lib.hid (fun a e h => by rw [hn]; exact (List.getElem?_eq_some_iff.1 h).1)
  have HF := Lib.hid (fun p w (hg : g < w.heap.size) (h : RowE w g L) => find_spec L p n g cap w hn hm hg h)
  clear h1 hn
  have HP := Lib.hid (HF.out p)
  rcases find_cases L p with h | ⟨a, e, h, he, _⟩
  · have HE := Lib.hid (filev_none h)
    generalize filev L p = r at HE
    rw [h] at HP
    clear h
    go_enter Try.func52, Try.ntmps52
    go_wp2_with fail
    refine (HP.out _ hg H1.out).mono ?_
    rintro e w1 ⟨rfl, hb⟩
    go_wp2_with fail
    go_ret
    exact ⟨ret_int HE.out.symm, hb⟩
  · have ha := HL.out a e he
    have HE := Lib.hid (filev_some h he)
    generalize filev L p = r at HE
    rw [h] at HP
    have ha2 : (a : Int) < (n : Int) := by omega
    clear h
    by_cases hk : e.kind = 3
    · rw [if_pos hk] at HE
      have HQ := Lib.hid (HF.out e.link)
      rcases find_cases L e.link with h' | ⟨a', e', h', he', _⟩
      · rw [h', fileTo_none] at HE
        rw [h'] at HQ
        clear h'
        go_enter Try.func52, Try.ntmps52
        go_wp2_with fail
        refine (HP.out _ hg H1.out).mono ?_
        rintro e1 w1 ⟨rfl, hb⟩
        have B1 := Lib.hid hb
        have R1 := Lib.hid (H1.out.below hb hg)
        have z1 : g < w1.heap.size := by have := hb.size; omega
        obtain ⟨c0, c1, c2, c3, c4, c5, c6, c7, c8, c9⟩ := R1.out.ten he
        clear hb he c1 c3 c4 c5 c6 c7 c8 c9
        rw [hk] at c0
        generalize e.link = l at c2 HQ
        go_wp2_with fail
        refine (HQ.out _ z1 R1.out).mono ?_
        rintro e2 w2 ⟨rfl, hb⟩
        have B2 := Lib.hid (btE B1.out hb)
        have R2 := Lib.hid (R1.out.below hb z1)
        clear hb B1 R1 c0 c2
        go_wp2_with fail
        go_ret
        exact ⟨ret_int HE.out.symm, B2.out⟩
      · rw [h', fileTo_some he'] at HE
        rw [h'] at HQ
        have hb2 := HL.out a' e' he'
        have hb3 : (a' : Int) < (n : Int) := by omega
        clear h'
        go_enter Try.func52, Try.ntmps52
        go_wp2_with fail
        refine (HP.out _ hg H1.out).mono ?_
        rintro e1 w1 ⟨rfl, hb⟩
        have B1 := Lib.hid hb
        have R1 := Lib.hid (H1.out.below hb hg)
        have z1 : g < w1.heap.size := by have := hb.size; omega
        obtain ⟨c0, c1, c2, c3, c4, c5, c6, c7, c8, c9⟩ := R1.out.ten he
        clear hb he c1 c3 c4 c5 c6 c7 c8 c9
        rw [hk] at c0
        generalize e.link = l at c2 HQ
        go_wp2_with fail
        refine (HQ.out _ z1 R1.out).mono ?_
        rintro e2 w2 ⟨rfl, hb⟩
        have B2 := Lib.hid (btE B1.out hb)
        have R2 := Lib.hid (R1.out.below hb z1)
        clear hb B1 R1 c0 c2
        obtain ⟨d0, d1, d2, d3, d4, d5, d6, d7, d8, d9⟩ := R2.out.ten he'
        clear he' d1 d2 d3 d4 d5 d6 d7 d8 d9
        generalize e'.kind = q at d0 HE
        by_cases hq : q = 0
        · subst hq
          have HX : Hid (r = a') := Lib.hid (by rw [HE.out]; simp)
          clear HE
          go_wp2_with fail
          go_ret
          exact ⟨ret_int HX.out.symm, B2.out⟩
        · have HX : Hid (r = -1) := Lib.hid (by rw [HE.out, if_neg hq])
          have hq2 : (q != 0) = true := by simpa using hq
          clear HE hq
          go_wp2_with fail
          go_ret
          exact ⟨ret_int HX.out.symm, B2.out⟩
    · rw [if_neg hk, fileTo_some he] at HE
      go_enter Try.func52, Try.ntmps52
      go_wp2_with fail
      refine (HP.out _ hg H1.out).mono ?_
      rintro e1 w1 ⟨rfl, hb⟩
      have B1 := Lib.hid hb
      have R1 := Lib.hid (H1.out.below hb hg)
      have z1 : g < w1.heap.size := by have := hb.size; omega
      obtain ⟨c0, c1, c2, c3, c4, c5, c6, c7, c8, c9⟩ := R1.out.ten he
      clear hb he c1 c3 c4 c5 c6 c7 c8 c9
      generalize e.kind = q at c0 HE hk
      have hk2 : decide (q = 3) = false := by simpa using hk
      have hk3 : (q == 3) = false := by simpa using hk
      by_cases hq : q = 0
      · subst hq
        have HX : Hid (r = a) := Lib.hid (by rw [HE.out]; simp)
        clear HE
        go_wp2_with fail
        go_ret
        exact ⟨ret_int HX.out.symm, B1.out⟩
      · have HX : Hid (r = -1) := Lib.hid (by rw [HE.out, if_neg hq])
        have hq2 : (q != 0) = true := by simpa using hq
        clear HE hq
        go_wp2_with fail
        go_ret
        exact ⟨ret_int HX.out.symm, B1.out⟩
/-- The body that a path means. -/
def bodyv (L : List Ent) (p : ByteArray) : ByteArray := if filev L p < 0 then ⟨#[]⟩ else (L.getD (filev L p).toNat entD).body
def bodyOk (L : List Ent) (p : ByteArray) : Bool := decide (0 ≤ filev L p)
set_option maxHeartbeats 1600000 in
theorem body_spec (L : List Ent) (p : ByteArray) (n g cap : Nat) (w : World) (hn : n = L.length) (hm : n ≤ 4194304) (hg : g < w.heap.size) (h1 : RowE w g L) :
    Calls Try.prog 29 #[.slice (some ⟨g, 0, none⟩) n cap, .string p] w fun e w' => e = .returned (.tuple #[.string (bodyv L p), .bool (bodyOk L p)]) ∧ Below w.heap.size w w' := by
  have H1 := Lib.hid h1
  have HF := Lib.hid (fun w (hg : g < w.heap.size) (h : RowE w g L) => file_spec L p n g cap w hn hm hg h)
  have HL : Hid (∀ (a : Nat) (e : Ent), L[a]? = some e → a < n) := Lib.hid (fun a e h => by rw [hn]; exact (List.getElem?_eq_some_iff.1 h).1)
  clear h1 hn
  rcases filev_cases L p with h | ⟨a, e, h, he, _⟩
  · have HB : Hid (bodyv L p = ⟨#[]⟩) := Lib.hid (by simp [bodyv, h])
    have HO : Hid (bodyOk L p = false) := Lib.hid (by simp [bodyOk, h])
    generalize bodyv L p = r at HB
    generalize bodyOk L p = r2 at HO
    rw [h] at HF
    clear h
    go_enter Try.func29, Try.ntmps29
    go_wp2_with fail
    refine (HF.out _ hg H1.out).mono ?_
    rintro e w1 ⟨rfl, hb⟩
    go_wp2_with fail
    go_ret2
    exact ⟨by have h := HB.out; have h2 := HO.out; subst h; subst h2; rfl, hb⟩
  · have HB : Hid (bodyv L p = e.body) := Lib.hid (by rw [bodyv, h, if_neg (by omega)]; simp [List.getD, he])
    have HO : Hid (bodyOk L p = true) := Lib.hid (by simp [bodyOk, h])
    have ha := HL.out a e he
    have ha2 : (a : Int) < (n : Int) := by omega
    generalize bodyv L p = r at HB
    generalize bodyOk L p = r2 at HO
    rw [h] at HF
    clear h
    go_enter Try.func29, Try.ntmps29
    go_wp2_with fail
    refine (HF.out _ hg H1.out).mono ?_
    rintro e1 w1 ⟨rfl, hb⟩
    have R1 := Lib.hid (H1.out.below hb hg)
    obtain ⟨c0, c1, c2, c3, c4, c5, c6, c7, c8, c9⟩ := R1.out.ten he
    clear he c0 c1 c2 c3 c4 c5 c6 c7 c8
    generalize e.body = bd at c9 HB
    go_wp2_with fail
    go_ret2
    exact ⟨by have h := HB.out; have h2 := HO.out; subst h; subst h2; rfl, hb⟩
end Go.Proofs.Ytlbkojiengofeaa
