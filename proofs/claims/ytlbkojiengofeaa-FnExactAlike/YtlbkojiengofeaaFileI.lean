/- Contract of impl.Body. -/
import Derived.Test.YtlbkojiengofeaaFileE
import Derived.Test.YtlbkojiengofeaaFindI
import Derived.Test.YtlbkojiengofeaaClone
namespace Go.Proofs.Ytlbkojiengofeaa
open Go.ChangeShapes Go.WideShapes Go.ChangeAt Go.RowKit Go.Deep

set_option maxHeartbeats 1600000 in
theorem file_impl (L : List Ent) (p : ByteArray) (n g cap : Nat) (w : World) (hn : n = L.length) (hm : n ≤ 4194304) (hg : g < w.heap.size) (h1 : RowE w g L) :
    Calls Try.prog 53 #[.slice (some ⟨g, 0, none⟩) n cap, .string p] w fun e w' => e = .returned (.int .i64 (filev L p)) ∧ Below w.heap.size w w' := by
  have H1 := Lib.hid h1
  have HL : Hid (∀ (a : Nat) (e : Ent), L[a]? = some e → a < n) := Lib.hid (fun a e h => by rw [hn]; exact (List.getElem?_eq_some_iff.1 h).1)
  have HF := Lib.hid (fun p w (hg : g < w.heap.size) (h : RowE w g L) => find_impl L p n g cap w hn hm hg h)
  clear h1 hn
  have HP := Lib.hid (HF.out p)
  rcases find_cases L p with h | ⟨a, e, h, he, _⟩
  · have HE := Lib.hid (filev_none h)
    generalize filev L p = r at HE
    rw [h] at HP
    clear h
    go_enter Try.func53, Try.ntmps53
    go_wp2_with fail
    refine (HP.out _ hg H1.out).mono ?_
    rintro e w1 ⟨rfl, hb⟩
    go_wp2_with fail
    go_ret
    exact ⟨ret_int HE.out.symm, hb⟩
  · have ha := HL.out a e he
    have HE := Lib.hid (filev_some h he)
    generalize filev L p = r at HE
    rw [h] at HP
    have ha2 : (a : Int) < (n : Int) := by omega
    clear h
    by_cases hk : e.kind = 3
    · rw [if_pos hk] at HE
      have HQ := Lib.hid (HF.out e.link)
      rcases find_cases L e.link with h' | ⟨a', e', h', he', _⟩
      · rw [h', fileTo_none] at HE
        rw [h'] at HQ
        clear h'
        go_enter Try.func53, Try.ntmps53
        go_wp2_with fail
        refine (HP.out _ hg H1.out).mono ?_
        rintro e1 w1 ⟨rfl, hb⟩
        have B1 := Lib.hid hb
        have R1 := Lib.hid (H1.out.below hb hg)
        have z1 : g < w1.heap.size := by have := hb.size; omega
        obtain ⟨c0, c1, c2, c3, c4, c5, c6, c7, c8, c9⟩ := R1.out.ten he
        clear hb he c1 c3 c4 c5 c6 c7 c8 c9
        rw [hk] at c0
        generalize e.link = l at c2 HQ
        go_wp2_with fail
        refine (HQ.out _ z1 R1.out).mono ?_
        rintro e2 w2 ⟨rfl, hb⟩
        have B2 := Lib.hid (btE B1.out hb)
        have R2 := Lib.hid (R1.out.below hb z1)
        clear hb B1 R1 c0 c2
        go_wp2_with fail
        go_ret
        exact ⟨ret_int HE.out.symm, B2.out⟩
      · rw [h', fileTo_some he'] at HE
        rw [h'] at HQ
        have hb2 := HL.out a' e' he'
        have hb3 : (a' : Int) < (n : Int) := by omega
        clear h'
        go_enter Try.func53, Try.ntmps53
        go_wp2_with fail
        refine (HP.out _ hg H1.out).mono ?_
        rintro e1 w1 ⟨rfl, hb⟩
        have B1 := Lib.hid hb
        have R1 := Lib.hid (H1.out.below hb hg)
        have z1 : g < w1.heap.size := by have := hb.size; omega
        obtain ⟨c0, c1, c2, c3, c4, c5, c6, c7, c8, c9⟩ := R1.out.ten he
        clear hb he c1 c3 c4 c5 c6 c7 c8 c9
        rw [hk] at c0
        generalize e.link = l at c2 HQ
        go_wp2_with fail
        refine (HQ.out _ z1 R1.out).mono ?_
        rintro e2 w2 ⟨rfl, hb⟩
        have B2 := Lib.hid (btE B1.out hb)
        have R2 := Lib.hid (R1.out.below hb z1)
        clear hb B1 R1 c0 c2
        obtain ⟨d0, d1, d2, d3, d4, d5, d6, d7, d8, d9⟩ := R2.out.ten he'
        clear he' d1 d2 d3 d4 d5 d6 d7 d8 d9
        generalize e'.kind = q at d0 HE
        by_cases hq : q = 0
        · subst hq
          have HX : Hid (r = a') := Lib.hid (by rw [HE.out]; simp)
          clear HE
          go_wp2_with fail
          go_ret
          exact ⟨ret_int HX.out.symm, B2.out⟩
        · have HX : Hid (r = -1) := Lib.hid (by rw [HE.out, if_neg hq])
          have hq2 : (q != 0) = true := by simpa using hq
          clear HE hq
          go_wp2_with fail
          go_ret
          exact ⟨ret_int HX.out.symm, B2.out⟩
    · rw [if_neg hk, fileTo_some he] at HE
      go_enter Try.func53, Try.ntmps53
      go_wp2_with fail
      refine (HP.out _ hg H1.out).mono ?_
      rintro e1 w1 ⟨rfl, hb⟩
      have B1 := Lib.hid hb
      have R1 := Lib.hid (H1.out.below hb hg)
      have z1 : g < w1.heap.size := by have := hb.size; omega
      obtain ⟨c0, c1, c2, c3, c4, c5, c6, c7, c8, c9⟩ := R1.out.ten he
      clear hb he c1 c3 c4 c5 c6 c7 c8 c9
      generalize e.kind = q at c0 HE hk
      have hk2 : decide (q = 3) = false := by simpa using hk
      have hk3 : (q == 3) = false := by simpa using hk
      by_cases hq : q = 0
      · subst hq
        have HX : Hid (r = a) := Lib.hid (by rw [HE.out]; simp)
        clear HE
        go_wp2_with fail
        go_ret
        exact ⟨ret_int HX.out.symm, B1.out⟩
      · have HX : Hid (r = -1) := Lib.hid (by rw [HE.out, if_neg hq])
        have hq2 : (q != 0) = true := by simpa using hq
        clear HE hq
        go_wp2_with fail
        go_ret
        exact ⟨ret_int HX.out.symm, B1.out⟩
set_option maxHeartbeats 1600000 in
theorem body_impl (L : List Ent) (p : ByteArray) (n g cap : Nat) (w : World) (hn : n = L.length) (hm : n ≤ 4194304) (hg : g < w.heap.size) (hsm : SmallL L) (h1 : RowE w g L) :
    Calls Try.prog 30 #[.slice (some ⟨g, 0, none⟩) n cap, .string p] w fun e w' => e = .returned (.tuple #[.string (bodyv L p), .bool (bodyOk L p)]) ∧ Below w.heap.size w w' := by
  have H1 := Lib.hid h1
  have HF := Lib.hid (fun w (hg : g < w.heap.size) (h : RowE w g L) => file_impl L p n g cap w hn hm hg h)
  have HL : Hid (∀ (a : Nat) (e : Ent), L[a]? = some e → a < n) := Lib.hid (fun a e h => by rw [hn]; exact (List.getElem?_eq_some_iff.1 h).1)
  clear h1 hn
  rcases filev_cases L p with h | ⟨a, e, h, he, _⟩
  · have HB : Hid (bodyv L p = ⟨#[]⟩) := Lib.hid (by simp [bodyv, h])
    have HO : Hid (bodyOk L p = false) := Lib.hid (by simp [bodyOk, h])
    generalize bodyv L p = r at HB
    generalize bodyOk L p = r2 at HO
    rw [h] at HF
    clear h
    go_enter Try.func30, Try.ntmps30
    go_wp2_with fail
    refine (HF.out _ hg H1.out).mono ?_
    rintro e w1 ⟨rfl, hb⟩
    go_wp2_with fail
    go_ret2
    exact ⟨by have h := HB.out; have h2 := HO.out; subst h; subst h2; rfl, hb⟩
  · have HB : Hid (bodyv L p = e.body) := Lib.hid (by rw [bodyv, h, if_neg (by omega)]; simp [List.getD, he])
    have HO : Hid (bodyOk L p = true) := Lib.hid (by simp [bodyOk, h])
    have ha := HL.out a e he
    have ha2 : (a : Int) < (n : Int) := by omega
    generalize bodyv L p = r at HB
    generalize bodyOk L p = r2 at HO
    rw [h] at HF
    clear h
    go_enter Try.func30, Try.ntmps30
    go_wp2_with fail
    refine (HF.out _ hg H1.out).mono ?_
    rintro e1 w1 ⟨rfl, hb⟩
    have R1 := Lib.hid (H1.out.below hb hg)
    obtain ⟨c0, c1, c2, c3, c4, c5, c6, c7, c8, c9⟩ := R1.out.ten he
    have hz := (small_parts (hsm.get he)).2.2.2.2
    clear he c0 c1 c2 c3 c4 c5 c6 c7 c8
    generalize e.body = bd at c9 HB hz
    have HC := Lib.hid (fun w => clone_any bd w (by omega))
    go_wp2_with fail
    refine (HC.out _).mono ?_
    rintro e2 w2 ⟨rfl, hb2⟩
    go_wp2_with fail
    go_ret2
    exact ⟨by have h := HB.out; have h2 := HO.out; subst h; subst h2; rfl, btE hb hb2⟩
end Go.Proofs.Ytlbkojiengofeaa
