/- Contracts of spec.Follow and impl.Follow. -/
import Derived.Test.YtifkgihhdmmhdabClean
namespace Go.Proofs.Ytifkgihhdmmhdab
open Go.RowKit Go.Shelf

def rooted (l : ByteArray) : Bool := Lib.hasPrefix l.data.toList [47]
def followv (d l : ByteArray) : ByteArray × Bool := if rooted l = true ∨ d.size = 0 then cleanv l else cleanv (d ++ ⟨#[47]⟩ ++ l)
theorem dsl_size (d l : ByteArray) : (d ++ ⟨#[47]⟩ ++ l).size = d.size + 1 + l.size := by
  rw [ByteArray.size_append, ByteArray.size_append]; rfl
theorem rooted_none {l : ByteArray} (h : l.size = 0) : rooted l = false := by
  have : l.data.toList = [] := List.eq_nil_of_length_eq_zero (by simpa using h)
  rw [rooted, this]; rfl
theorem rooted_at {l : ByteArray} (h : 0 < l.size) : rooted l = decide ((l[0].toNat : Int) = 47) := by
  have e := drop_at l 0 h
  rw [List.drop_zero] at e
  rw [rooted, e]
  by_cases hc : l[0] = 47
  · rw [hc]; rfl
  · have h2 : ¬ (l[0].toNat : Int) = 47 := fun e => hc (UInt8.toNat_inj.1 (show l[0].toNat = 47 by omega))
    simp [Lib.hasPrefix, List.isPrefixOf, h2, Ne.symm hc]

theorem follow_spec (d l : ByteArray) (w : World) (hd : d.size ≤ 1048576) (hl : l.size ≤ 1048576) :
    Calls Try.prog 42 #[.string d, .string l] w fun e w' => e = .returned (.tuple #[.string (followv d l).1, .bool (followv d l).2]) ∧ Below w.heap.size w w' := by
  have H1 := Lib.hid (fun w => clean_spec l w (by omega))
  have H2 := Lib.hid (fun w => clean_spec (d ++ ⟨#[47]⟩ ++ l) w (by rw [dsl_size]; omega))
  have HF : Hid (followv d l = if rooted l = true ∨ d.size = 0 then cleanv l else cleanv (d ++ ⟨#[47]⟩ ++ l)) := Lib.hid rfl
  generalize cleanv l = c1 at H1 HF
  generalize cleanv (d ++ ⟨#[47]⟩ ++ l) = c2 at H2 HF
  generalize followv d l = r at HF
  obtain ⟨a1, b1⟩ := c1
  obtain ⟨a2, b2⟩ := c2
  by_cases h0 : (0 : Int) < (l.size : Int)
  · have h00 : 0 < l.size := by omega
    by_cases hc : (l[0].toNat : Int) = 47
    · have hq : ((l[0].toNat : Int) == 47) = true := by simp [hc]
      have HE : Hid (r = (a1, b1)) := Lib.hid (by rw [HF.out, if_pos (.inl (by rw [rooted_at h00]; simp [hc]))])
      clear hc HF
      go_enter Try.func42, Try.ntmps42
      go_wp2_with fail
      refine (H1.out _).mono ?_
      rintro e w1 ⟨rfl, hb1⟩
      go_wp2_with fail
      go_ret2
      exact ⟨ret_sb HE.out, hb1⟩
    · have hq : ((l[0].toNat : Int) == 47) = false := by simpa using hc
      have hr : ¬ rooted l = true := by rw [rooted_at h00]; simpa using hc
      by_cases hd0 : d.size = 0
      · have q0 := empty_t hd0
        have HE : Hid (r = (a1, b1)) := Lib.hid (by rw [HF.out, if_pos (.inr hd0)])
        clear hc HF hd0 hr
        go_enter Try.func42, Try.ntmps42
        go_wp2_with fail
        refine (H1.out _).mono ?_
        rintro e w1 ⟨rfl, hb1⟩
        go_wp2_with fail
        go_ret2
        exact ⟨ret_sb HE.out, hb1⟩
      · have q0 := empty_f hd0
        have HE : Hid (r = (a2, b2)) := Lib.hid (by rw [HF.out, if_neg (fun h => h.elim hr hd0)])
        clear hc HF hd0 hr
        go_enter Try.func42, Try.ntmps42
        go_wp2_with fail
        refine (H2.out _).mono ?_
        rintro e w1 ⟨rfl, hb1⟩
        go_wp2_with fail
        go_ret2
        exact ⟨ret_sb HE.out, hb1⟩
  · have hr : ¬ rooted l = true := by rw [rooted_none (by omega)]; simp
    by_cases hd0 : d.size = 0
    · have q0 := empty_t hd0
      have HE : Hid (r = (a1, b1)) := Lib.hid (by rw [HF.out, if_pos (.inr hd0)])
      clear HF hd0 hr
      go_enter Try.func42, Try.ntmps42
      go_wp2_with fail
      refine (H1.out _).mono ?_
      rintro e w1 ⟨rfl, hb1⟩
      go_wp2_with fail
      go_ret2
      exact ⟨ret_sb HE.out, hb1⟩
    · have q0 := empty_f hd0
      have HE : Hid (r = (a2, b2)) := Lib.hid (by rw [HF.out, if_neg (fun h => h.elim hr hd0)])
      clear HF hd0 hr
      go_enter Try.func42, Try.ntmps42
      go_wp2_with fail
      refine (H2.out _).mono ?_
      rintro e w1 ⟨rfl, hb1⟩
      go_wp2_with fail
      go_ret2
      exact ⟨ret_sb HE.out, hb1⟩

theorem follow_impl (d l : ByteArray) (w : World) (hd : d.size ≤ 1048576) (hl : l.size ≤ 1048576) :
    Calls Try.prog 41 #[.string d, .string l] w fun e w' => e = .returned (.tuple #[.string (followv d l).1, .bool (followv d l).2]) ∧ Below w.heap.size w w' := by
  have H1 := Lib.hid (fun w => clean_impl l w (by omega))
  have H2 := Lib.hid (fun w => clean_impl (d ++ ⟨#[47]⟩ ++ l) w (by rw [dsl_size]; omega))
  have H3 := Lib.hid (fun w => Try.strings_HasPrefix l ⟨#[47]⟩ w)
  rw [show Lib.hasPrefix l.data.toList (⟨#[47]⟩ : ByteArray).data.toList = rooted l from rfl] at H3
  have HF : Hid (followv d l = if rooted l = true ∨ d.size = 0 then cleanv l else cleanv (d ++ ⟨#[47]⟩ ++ l)) := Lib.hid rfl
  generalize cleanv l = c1 at H1 HF
  generalize cleanv (d ++ ⟨#[47]⟩ ++ l) = c2 at H2 HF
  generalize followv d l = r at HF
  generalize rooted l = ro at HF H3
  obtain ⟨a1, b1⟩ := c1
  obtain ⟨a2, b2⟩ := c2
  by_cases hd0 : d.size = 0
  · have q0 := empty_t hd0
    have HE : Hid (r = (a1, b1)) := Lib.hid (by rw [HF.out, if_pos (.inr hd0)])
    clear HF hd0
    go_enter Try.func41, Try.ntmps41
    go_wp2_with fail
    refine (H1.out _).mono ?_
    rintro e w1 ⟨rfl, hb1⟩
    go_wp2_with fail
    go_ret2
    exact ⟨ret_sb HE.out, hb1⟩
  · have q0 := empty_f hd0
    cases ro with
    | true =>
      have HE : Hid (r = (a1, b1)) := Lib.hid (by rw [HF.out, if_pos (.inl rfl)])
      clear HF hd0
      go_enter Try.func41, Try.ntmps41
      go_wp2_with fail
      refine (H3.out _).mono ?_
      rintro e w0 ⟨rfl, rfl⟩
      go_wp2_with fail
      refine (H1.out _).mono ?_
      rintro e w1 ⟨rfl, hb1⟩
      go_wp2_with fail
      go_ret2
      exact ⟨ret_sb HE.out, hb1⟩
    | false =>
      have HE : Hid (r = (a2, b2)) := Lib.hid (by rw [HF.out, if_neg (fun h => h.elim (by simp) hd0)])
      clear HF hd0
      go_enter Try.func41, Try.ntmps41
      go_wp2_with fail
      refine (H3.out _).mono ?_
      rintro e w0 ⟨rfl, rfl⟩
      go_wp2_with fail
      refine (H2.out _).mono ?_
      rintro e w1 ⟨rfl, hb1⟩
      go_wp2_with fail
      go_ret2
      exact ⟨ret_sb HE.out, hb1⟩
end Go.Proofs.Ytifkgihhdmmhdab
