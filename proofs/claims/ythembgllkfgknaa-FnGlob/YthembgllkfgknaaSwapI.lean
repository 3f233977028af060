/- Contract of impl.Swap. -/
import Derived.Test.YthembgllkfgknaaSwap
namespace Go.Proofs.Ythembgllkfgknaa
open Go.RowKit Go.Shelf

theorem swap_impl (s f t : ByteArray) (w : World) (hs : s.size ≤ 1048576) (hf : f.size ≤ 1048576) (ht : t.size ≤ 1048576) :
    Calls Try.prog 10 #[.string s, .string f, .string t] w fun e w' => e = .returned (.string (swapv s f t)) ∧ Below w.heap.size w w' := by
  have H1 := Lib.hid (fun w => pathOk_impl s w (by omega))
  have HU := Lib.hid (fun w => under_impl s f w (by omega) (by omega))
  have HT := Lib.hid (fun w => pathOk_impl t w (by omega))
  have hzx : (t ++ s.extract f.size s.size).size ≤ 4194304 := by rw [ByteArray.size_append, ByteArray.size_extract]; omega
  have HX := Lib.hid (fun w => pathOk_impl (t ++ s.extract f.size s.size) w (by omega))
  have HKX := Lib.hid (fun w => clone_any (t ++ s.extract f.size s.size) w (by omega))
  have HKT := Lib.hid (fun w => clone_any t w (by omega))
  have HKS := Lib.hid (fun w => clone_any s w (by omega))
  clear hzx
  by_cases he : s = f
  · have q := ba_eq he
    have hu : underv s f = false := by rw [← he]; exact under_self s
    rw [hu] at HU
    cases hp : pathOkv s with
    | false =>
      have HE := Lib.hid (swap_a (s := s) (f := f) (t := t) hp)
      rw [hp] at H1
      generalize swapv s f t = r at HE
      clear hp hu he HX HT
      go_enter Try.func10, Try.ntmps10
      go_wp2_with fail
      refine (H1.out _).mono ?_
      rintro e w1 ⟨rfl, hb1⟩
      have B1 := Lib.hid hb1
      clear hb1
      go_wp2_with fail
      refine (HKS.out _).mono ?_
      rintro e w2 ⟨rfl, hb2⟩
      have B2 := Lib.hid (B1.out.trans (hb2.mono B1.out.size))
      clear hb2
      go_wp2_with fail
      go_ret
      exact ⟨by have h := HE.out; subst h; rfl, B2.out⟩
    | true =>
      have HE : Hid (swapv s f t = if pathOkv t = true then t else s) := Lib.hid (by rw [← he]; exact swap_b s t hp)
      rw [hp] at H1
      generalize swapv s f t = r at HE
      generalize pathOkv t = b at HT HE
      clear hp hu he HX
      cases b with
      | true =>
        go_enter Try.func10, Try.ntmps10
        go_wp2_with fail
        refine (H1.out _).mono ?_
        rintro e w1 ⟨rfl, hb1⟩
        have B1 := Lib.hid hb1
        clear hb1
        go_wp2_with fail
        refine (HT.out _).mono ?_
        rintro e w2 ⟨rfl, hb2⟩
        have B2 := Lib.hid (B1.out.trans (hb2.mono B1.out.size))
        clear hb2
        go_wp2_with fail
        refine (HKT.out _).mono ?_
        rintro e w3 ⟨rfl, hb3⟩
        have B3 := Lib.hid (B2.out.trans (hb3.mono B2.out.size))
        clear hb3
        go_wp2_with fail
        go_ret
        exact ⟨by have h := HE.out; subst h; rfl, B3.out⟩
      | false =>
        go_enter Try.func10, Try.ntmps10
        go_wp2_with fail
        refine (H1.out _).mono ?_
        rintro e w1 ⟨rfl, hb1⟩
        have B1 := Lib.hid hb1
        clear hb1
        go_wp2_with fail
        refine (HT.out _).mono ?_
        rintro e w2 ⟨rfl, hb2⟩
        have B2 := Lib.hid (B1.out.trans (hb2.mono B1.out.size))
        clear hb2
        go_wp2_with fail
        refine (HKS.out _).mono ?_
        rintro e w3 ⟨rfl, hb3⟩
        have B3 := Lib.hid (B2.out.trans (hb3.mono B2.out.size))
        clear hb3
        go_wp2_with fail
        go_ret
        exact ⟨by have h := HE.out; subst h; rfl, B3.out⟩
  · have q := ba_ne he
    cases hu : underv s f with
    | false =>
      have HE := Lib.hid (swap_d (t := t) he hu)
      rw [hu] at HU
      generalize swapv s f t = r at HE
      generalize pathOkv s = b at H1
      clear hu he HX HT
      cases b with
      | true =>
        go_enter Try.func10, Try.ntmps10
        go_wp2_with fail
        refine (HU.out _).mono ?_
        rintro e w1 ⟨rfl, hb1⟩
        have B1 := Lib.hid hb1
        clear hb1
        go_wp2_with fail
        refine (H1.out _).mono ?_
        rintro e w2 ⟨rfl, hb2⟩
        have B2 := Lib.hid (B1.out.trans (hb2.mono B1.out.size))
        clear hb2
        go_wp2_with fail
        refine (H1.out _).mono ?_
        rintro e w3 ⟨rfl, hb3⟩
        have B3 := Lib.hid (B2.out.trans (hb3.mono B2.out.size))
        clear hb3
        go_wp2_with fail
        refine (HKS.out _).mono ?_
        rintro e w4 ⟨rfl, hb4⟩
        have B4 := Lib.hid (B3.out.trans (hb4.mono B3.out.size))
        clear hb4
        go_wp2_with fail
        go_ret
        exact ⟨by have h := HE.out; subst h; rfl, B4.out⟩
      | false =>
        go_enter Try.func10, Try.ntmps10
        go_wp2_with fail
        refine (HU.out _).mono ?_
        rintro e w1 ⟨rfl, hb1⟩
        have B1 := Lib.hid hb1
        clear hb1
        go_wp2_with fail
        refine (H1.out _).mono ?_
        rintro e w2 ⟨rfl, hb2⟩
        have B2 := Lib.hid (B1.out.trans (hb2.mono B1.out.size))
        clear hb2
        go_wp2_with fail
        refine (HKS.out _).mono ?_
        rintro e w3 ⟨rfl, hb3⟩
        have B3 := Lib.hid (B2.out.trans (hb3.mono B2.out.size))
        clear hb3
        go_wp2_with fail
        go_ret
        exact ⟨by have h := HE.out; subst h; rfl, B3.out⟩
    | true =>
      have HE := Lib.hid (swap_c t hu)
      have hl := under_lt hu
      have hp := under_path hu
      rw [hp] at H1
      clear hp
      have hl2 : (f.size : Int) ≤ (s.size : Int) := by omega
      rw [hu] at HU
      generalize swapv s f t = r at HE
      generalize pathOkv (t ++ s.extract f.size s.size) = b at HX HE
      clear hu he HT
      cases b with
      | true =>
        go_enter Try.func10, Try.ntmps10
        go_wp2_with fail
        refine (HU.out _).mono ?_
        rintro e w1 ⟨rfl, hb1⟩
        have B1 := Lib.hid hb1
        clear hb1
        go_wp2_with fail
        refine (H1.out _).mono ?_
        rintro e w2 ⟨rfl, hb2⟩
        have B2 := Lib.hid (B1.out.trans (hb2.mono B1.out.size))
        clear hb2
        go_wp2_with fail
        refine (HX.out _).mono ?_
        rintro e w3 ⟨rfl, hb3⟩
        have B3 := Lib.hid (B2.out.trans (hb3.mono B2.out.size))
        clear hb3
        go_wp2_with fail
        refine (HKX.out _).mono ?_
        rintro e w4 ⟨rfl, hb4⟩
        have B4 := Lib.hid (B3.out.trans (hb4.mono B3.out.size))
        clear hb4
        go_wp2_with fail
        go_ret
        exact ⟨by have h := HE.out; subst h; rfl, B4.out⟩
      | false =>
        go_enter Try.func10, Try.ntmps10
        go_wp2_with fail
        refine (HU.out _).mono ?_
        rintro e w1 ⟨rfl, hb1⟩
        have B1 := Lib.hid hb1
        clear hb1
        go_wp2_with fail
        refine (H1.out _).mono ?_
        rintro e w2 ⟨rfl, hb2⟩
        have B2 := Lib.hid (B1.out.trans (hb2.mono B1.out.size))
        clear hb2
        go_wp2_with fail
        refine (HX.out _).mono ?_
        rintro e w3 ⟨rfl, hb3⟩
        have B3 := Lib.hid (B2.out.trans (hb3.mono B2.out.size))
        clear hb3
        go_wp2_with fail
        refine (HKS.out _).mono ?_
        rintro e w4 ⟨rfl, hb4⟩
        have B4 := Lib.hid (B3.out.trans (hb4.mono B3.out.size))
        clear hb4
        go_wp2_with fail
        go_ret
        exact ⟨by have h := HE.out; subst h; rfl, B4.out⟩
end Go.Proofs.Ythembgllkfgknaa
