/- Contracts of spec.Swap and impl.Swap. -/
import Derived.Test.YthembgllkfgknaaUnder
import Derived.Test.YthembgllkfgknaaClone
namespace Go.Proofs.Ythembgllkfgknaa
open Go.RowKit Go.Shelf

def swapped (s f t : ByteArray) : ByteArray := if underv s f = true then t ++ s.extract f.size s.size else if pathOkv s = true ∧ s = f then t else s
def swapv (s f t : ByteArray) : ByteArray := if pathOkv (swapped s f t) = true then swapped s f t else s
theorem under_path {s f : ByteArray} (h : underv s f = true) : pathOkv s = true := by
  cases hp : pathOkv s with
  | true => rfl
  | false => simp [underv, hp] at h
theorem under_lt {s f : ByteArray} (h : underv s f = true) : f.size < s.size := by
  by_cases hl : f.size < s.size
  · exact hl
  · simp [underv, pref_short hl] at h
theorem under_self (s : ByteArray) : underv s s = false := by
  cases h : underv s s with
  | false => rfl
  | true => exact absurd (under_lt h) (Nat.lt_irrefl _)
theorem swap_a {s f t : ByteArray} (h : pathOkv s = false) : swapv s f t = s := by
  have hu : ¬ underv s f = true := fun e => by rw [under_path e] at h; cases h
  simp [swapv, swapped, hu, h]
theorem swap_d {s f t : ByteArray} (h : ¬ s = f) (hu : underv s f = false) : swapv s f t = s := by
  simp [swapv, swapped, hu, h]
theorem swap_b (s t : ByteArray) (h : pathOkv s = true) : swapv s s t = if pathOkv t = true then t else s := by
  simp [swapv, swapped, under_self, h]
theorem swap_c {s f : ByteArray} (t : ByteArray) (h : underv s f = true) : swapv s f t = if pathOkv (t ++ s.extract f.size s.size) = true then t ++ s.extract f.size s.size else s := by
  simp [swapv, swapped, h]
/-- What is swapped is the text itself, or a path. -/
theorem swap_path (s f t : ByteArray) : swapv s f t = s ∨ pathOkv (swapv s f t) = true := by
  by_cases h : pathOkv (swapped s f t) = true
  · exact .inr (by simp only [swapv, if_pos h]; exact h)
  · exact .inl (by simp only [swapv, if_neg h])
theorem swap_size (s f t : ByteArray) : (swapv s f t).size ≤ s.size + 200 := by
  rcases swap_path s f t with h | h
  · rw [h]; omega
  · by_cases h2 : (swapv s f t).size ≤ 200
    · omega
    · rw [pathOk_long h2] at h; cases h

theorem swap_spec (s f t : ByteArray) (w : World) (hs : s.size ≤ 1048576) (hf : f.size ≤ 1048576) (ht : t.size ≤ 1048576) :
    Calls Try.prog 14 #[.string s, .string f, .string t] w fun e w' => e = .returned (.string (swapv s f t)) ∧ Below w.heap.size w w' := by
  have H1 := Lib.hid (fun w => pathOk_spec s w (by omega))
  have HU := Lib.hid (fun w => under_spec s f w (by omega) (by omega))
  have HT := Lib.hid (fun w => pathOk_spec t w (by omega))
  have hzx : (t ++ s.extract f.size s.size).size ≤ 4194304 := by rw [ByteArray.size_append, ByteArray.size_extract]; omega
  have HX := Lib.hid (fun w => pathOk_spec (t ++ s.extract f.size s.size) w hzx)
  clear hzx
  cases hp : pathOkv s with
  | false =>
    have hu : underv s f = false := by
      cases hu : underv s f with
      | false => rfl
      | true => rw [under_path hu] at hp; cases hp
    have HE := Lib.hid (swap_a (s := s) (f := f) (t := t) hp)
    rw [hp] at H1
    rw [hu] at HU
    generalize swapv s f t = r at HE
    clear hp hu HX HT
    go_enter Try.func14, Try.ntmps14
    go_wp2_with fail
    refine (H1.out _).mono ?_
    rintro e w1 ⟨rfl, hb1⟩
    go_wp2_with fail
    refine (HU.out _).mono ?_
    rintro e w2 ⟨rfl, hb2⟩
    go_wp2_with fail
    refine (H1.out _).mono ?_
    rintro e w3 ⟨rfl, hb3⟩
    go_wp2_with fail
    go_ret
    have b2 := hb1.trans (hb2.mono hb1.size)
    exact ⟨by have h := HE.out; subst h; rfl, b2.trans (hb3.mono b2.size)⟩
  | true =>
    by_cases he : s = f
    · subst he
      have HE := Lib.hid (swap_b s t hp)
      have q : (s.toList == s.toList) = true := by simp
      rw [hp] at H1
      rw [under_self] at HU
      generalize swapv s s t = r at HE
      generalize pathOkv t = b at HT HE
      clear hp HX
      cases b with
      | true =>
        go_enter Try.func14, Try.ntmps14
        go_wp2_with fail
        refine (H1.out _).mono ?_
        rintro e w1 ⟨rfl, hb1⟩
        go_wp2_with fail
        refine (HU.out _).mono ?_
        rintro e w2 ⟨rfl, hb2⟩
        go_wp2_with fail
        refine (HT.out _).mono ?_
        rintro e w3 ⟨rfl, hb3⟩
        go_wp2_with fail
        go_ret
        have b2 := hb1.trans (hb2.mono hb1.size)
        exact ⟨by have h := HE.out; subst h; rfl, b2.trans (hb3.mono b2.size)⟩
      | false =>
        go_enter Try.func14, Try.ntmps14
        go_wp2_with fail
        refine (H1.out _).mono ?_
        rintro e w1 ⟨rfl, hb1⟩
        go_wp2_with fail
        refine (HU.out _).mono ?_
        rintro e w2 ⟨rfl, hb2⟩
        go_wp2_with fail
        refine (HT.out _).mono ?_
        rintro e w3 ⟨rfl, hb3⟩
        go_wp2_with fail
        go_ret
        have b2 := hb1.trans (hb2.mono hb1.size)
        exact ⟨by have h := HE.out; subst h; rfl, b2.trans (hb3.mono b2.size)⟩
    · have q := ba_ne he
      rw [hp] at H1
      cases hu : underv s f with
      | false =>
        have HE := Lib.hid (swap_d (t := t) he hu)
        rw [hu] at HU
        generalize swapv s f t = r at HE
        clear hp hu he HX HT
        go_enter Try.func14, Try.ntmps14
        go_wp2_with fail
        refine (H1.out _).mono ?_
        rintro e w1 ⟨rfl, hb1⟩
        go_wp2_with fail
        refine (HU.out _).mono ?_
        rintro e w2 ⟨rfl, hb2⟩
        go_wp2_with fail
        refine (H1.out _).mono ?_
        rintro e w3 ⟨rfl, hb3⟩
        go_wp2_with fail
        go_ret
        have b2 := hb1.trans (hb2.mono hb1.size)
        exact ⟨by have h := HE.out; subst h; rfl, b2.trans (hb3.mono b2.size)⟩
      | true =>
        have HE := Lib.hid (swap_c t hu)
        have hl := under_lt hu
        have hl2 : (f.size : Int) ≤ (s.size : Int) := by omega
        rw [hu] at HU
        generalize swapv s f t = r at HE
        generalize pathOkv (t ++ s.extract f.size s.size) = b at HX HE
        clear hp hu he HT
        cases b with
        | true =>
          go_enter Try.func14, Try.ntmps14
          go_wp2_with fail
          refine (H1.out _).mono ?_
          rintro e w1 ⟨rfl, hb1⟩
          go_wp2_with fail
          refine (HU.out _).mono ?_
          rintro e w2 ⟨rfl, hb2⟩
          go_wp2_with fail
          refine (HX.out _).mono ?_
          rintro e w3 ⟨rfl, hb3⟩
          go_wp2_with fail
          go_ret
          have b2 := hb1.trans (hb2.mono hb1.size)
          exact ⟨by have h := HE.out; subst h; rfl, b2.trans (hb3.mono b2.size)⟩
        | false =>
          go_enter Try.func14, Try.ntmps14
          go_wp2_with fail
          refine (H1.out _).mono ?_
          rintro e w1 ⟨rfl, hb1⟩
          go_wp2_with fail
          refine (HU.out _).mono ?_
          rintro e w2 ⟨rfl, hb2⟩
          go_wp2_with fail
          refine (HX.out _).mono ?_
          rintro e w3 ⟨rfl, hb3⟩
          go_wp2_with fail
          go_ret
          have b2 := hb1.trans (hb2.mono hb1.size)
          exact ⟨by have h := HE.out; subst h; rfl, b2.trans (hb3.mono b2.size)⟩
end Go.Proofs.Ythembgllkfgknaa
