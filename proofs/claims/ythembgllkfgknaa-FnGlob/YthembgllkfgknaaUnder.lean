/- Contracts of spec.Under and impl.Under. -/
import Derived.Test.YthembgllkfgknaaPathOk
namespace Go.Proofs.Ythembgllkfgknaa
open Go.RowKit Go.Shelf

def prefv (s d : ByteArray) : Bool := Lib.hasPrefix s.data.toList (d ++ ⟨#[47]⟩).data.toList
def underv (s d : ByteArray) : Bool := pathOkv s && (pathOkv d && prefv s d)

theorem pref_iff (s d : ByteArray) : prefv s d = true ↔ ∃ t, s.data.toList = d.data.toList ++ 47 :: t := by
  unfold prefv Lib.hasPrefix
  rw [List.isPrefixOf_iff_prefix]
  constructor
  · rintro ⟨t, ht⟩; exact ⟨t, by rw [← ht]; simp⟩
  · rintro ⟨t, ht⟩; exact ⟨t, by rw [ht]; simp⟩
theorem pref_short {s d : ByteArray} (h : ¬ d.size < s.size) : prefv s d = false := by
  cases hp : prefv s d with
  | false => rfl
  | true =>
    obtain ⟨t, ht⟩ := (pref_iff s d).1 hp
    have := congrArg List.length ht
    simp at this; omega
theorem pref_at {s d : ByteArray} (h : d.size < s.size) : prefv s d = (decide (s.extract 0 d.size = d) && decide ((s[d.size].toNat : Int) = 47)) := by
  have hd : s.data.toList = s.data.toList.take d.size ++ s[d.size] :: s.data.toList.drop (d.size + 1) := by
    rw [← drop_at s d.size h, List.take_append_drop]
  have he : (s.extract 0 d.size).data.toList = s.data.toList.take d.size := by simp
  by_cases h1 : s.extract 0 d.size = d
  · by_cases h2 : (s[d.size].toNat : Int) = 47
    · rw [(pref_iff s d).2 ⟨s.data.toList.drop (d.size + 1), ?_⟩]
      · simp [h1, h2]
      · have e : s[d.size] = 47 := UInt8.toNat_inj.1 (show s[d.size].toNat = 47 by omega)
        rw [h1] at he
        rw [he, ← e]; exact hd
    · cases hp : prefv s d with
      | false => simp [h2]
      | true =>
        exfalso
        obtain ⟨t, ht⟩ := (pref_iff s d).1 hp
        have e2 := congrArg (fun l => l[d.size]?) ht
        simp at e2
        rw [Array.getElem?_eq_getElem (show d.size < s.data.size from h)] at e2
        simp at e2
        have : s[d.size] = 47 := e2
        rw [this] at h2
        exact h2 rfl
  · cases hp : prefv s d with
    | false => simp [h1]
    | true =>
      exfalso
      obtain ⟨t, ht⟩ := (pref_iff s d).1 hp
      apply h1
      apply ba_ext
      rw [he, ht]
      rw [List.take_append_of_le_length (by simp)]
      exact List.take_of_length_le (by simp)

theorem under_spec (s d : ByteArray) (w : World) (hs : s.size ≤ 4194304) (hd : d.size ≤ 4194304) :
    Calls Try.prog 39 #[.string s, .string d] w fun e w' => e = .returned (.bool (underv s d)) ∧ Below w.heap.size w w' := by
  have H1 := Lib.hid (fun w => pathOk_spec s w (by omega))
  have H2 := Lib.hid (fun w => pathOk_spec d w (by omega))
  have HU : Hid (underv s d = (pathOkv s && (pathOkv d && prefv s d))) := Lib.hid rfl
  generalize pathOkv s = b1 at H1 HU
  generalize pathOkv d = b2 at H2 HU
  generalize underv s d = u at HU
  cases b1 with
  | false =>
    go_enter Try.func39, Try.ntmps39
    go_wp2_with fail
    refine (H1.out _).mono ?_
    rintro e w1 ⟨rfl, hb1⟩
    go_wp2_with fail
    go_ret
    exact ⟨ret_bool HU.out.symm, hb1⟩
  | true =>
    cases b2 with
    | false =>
      go_enter Try.func39, Try.ntmps39
      go_wp2_with fail
      refine (H1.out _).mono ?_
      rintro e w1 ⟨rfl, hb1⟩
      go_wp2_with fail
      refine (H2.out _).mono ?_
      rintro e w2 ⟨rfl, hb2⟩
      go_wp2_with fail
      go_ret
      exact ⟨ret_bool HU.out.symm, hb1.trans (hb2.mono hb1.size)⟩
    | true =>
      by_cases hl : d.size < s.size
      · have HP := Lib.hid (pref_at hl)
        have hl2 : (d.size : Int) < (s.size : Int) := by omega
        by_cases h1 : s.extract 0 d.size = d
        · have q1 := ba_eq h1
          by_cases h2 : (s[d.size].toNat : Int) = 47
          · have hq : ((s[d.size].toNat : Int) == 47) = true := by simp [h2]
            have HF : Hid (u = true) := Lib.hid (by rw [HU.out, HP.out]; simp [h1, h2])
            clear h1 h2 HU HP
            go_enter Try.func39, Try.ntmps39
            go_wp2_with fail
            refine (H1.out _).mono ?_
            rintro e w1 ⟨rfl, hb1⟩
            go_wp2_with fail
            refine (H2.out _).mono ?_
            rintro e w2 ⟨rfl, hb2⟩
            go_wp2_with fail
            go_ret
            exact ⟨ret_bool HF.out.symm, hb1.trans (hb2.mono hb1.size)⟩
          · have hq : ((s[d.size].toNat : Int) == 47) = false := by simpa using h2
            have HF : Hid (u = false) := Lib.hid (by rw [HU.out, HP.out]; simp [h1, h2])
            clear h1 h2 HU HP
            go_enter Try.func39, Try.ntmps39
            go_wp2_with fail
            refine (H1.out _).mono ?_
            rintro e w1 ⟨rfl, hb1⟩
            go_wp2_with fail
            refine (H2.out _).mono ?_
            rintro e w2 ⟨rfl, hb2⟩
            go_wp2_with fail
            go_ret
            exact ⟨ret_bool HF.out.symm, hb1.trans (hb2.mono hb1.size)⟩
        · have q1 := ba_ne h1
          have HF : Hid (u = false) := Lib.hid (by rw [HU.out, HP.out]; simp [h1])
          clear h1 HU HP
          go_enter Try.func39, Try.ntmps39
          go_wp2_with fail
          refine (H1.out _).mono ?_
          rintro e w1 ⟨rfl, hb1⟩
          go_wp2_with fail
          refine (H2.out _).mono ?_
          rintro e w2 ⟨rfl, hb2⟩
          go_wp2_with fail
          go_ret
          exact ⟨ret_bool HF.out.symm, hb1.trans (hb2.mono hb1.size)⟩
      · have HF : Hid (u = false) := Lib.hid (by rw [HU.out, pref_short hl]; rfl)
        have hl2 : ¬ (d.size : Int) < (s.size : Int) := by omega
        clear HU
        go_enter Try.func39, Try.ntmps39
        go_wp2_with fail
        refine (H1.out _).mono ?_
        rintro e w1 ⟨rfl, hb1⟩
        go_wp2_with fail
        refine (H2.out _).mono ?_
        rintro e w2 ⟨rfl, hb2⟩
        go_wp2_with fail
        go_ret
        exact ⟨ret_bool HF.out.symm, hb1.trans (hb2.mono hb1.size)⟩

theorem under_impl (s d : ByteArray) (w : World) (hs : s.size ≤ 4194304) (hd : d.size ≤ 4194304) :
    Calls Try.prog 30 #[.string s, .string d] w fun e w' => e = .returned (.bool (underv s d)) ∧ Below w.heap.size w w' := by
  have H1 := Lib.hid (fun w => pathOk_impl s w (by omega))
  have H2 := Lib.hid (fun w => pathOk_impl d w (by omega))
  have H3 := Lib.hid (fun w => Try.strings_HasPrefix s (d ++ ⟨#[47]⟩) w)
  rw [show Lib.hasPrefix s.data.toList (d ++ ⟨#[47]⟩).data.toList = prefv s d from rfl] at H3
  have HU : Hid (underv s d = (pathOkv s && (pathOkv d && prefv s d))) := Lib.hid rfl
  generalize pathOkv s = b1 at H1 HU
  generalize pathOkv d = b2 at H2 HU
  generalize prefv s d = b3 at H3 HU
  generalize underv s d = u at HU
  cases b1 with
  | false =>
    go_enter Try.func30, Try.ntmps30
    go_wp2_with fail
    refine (H1.out _).mono ?_
    rintro e w1 ⟨rfl, hb1⟩
    go_wp2_with fail
    go_ret
    exact ⟨ret_bool HU.out.symm, hb1⟩
  | true =>
    cases b2 with
    | false =>
      go_enter Try.func30, Try.ntmps30
      go_wp2_with fail
      refine (H1.out _).mono ?_
      rintro e w1 ⟨rfl, hb1⟩
      go_wp2_with fail
      refine (H2.out _).mono ?_
      rintro e w2 ⟨rfl, hb2⟩
      go_wp2_with fail
      go_ret
      exact ⟨ret_bool HU.out.symm, hb1.trans (hb2.mono hb1.size)⟩
    | true =>
      have HF : Hid (u = b3) := Lib.hid (by rw [HU.out]; simp)
      clear HU
      go_enter Try.func30, Try.ntmps30
      go_wp2_with fail
      refine (H1.out _).mono ?_
      rintro e w1 ⟨rfl, hb1⟩
      go_wp2_with fail
      refine (H2.out _).mono ?_
      rintro e w2 ⟨rfl, hb2⟩
      go_wp2_with fail
      refine (H3.out _).mono ?_
      rintro e w3 ⟨rfl, rfl⟩
      go_wp2_with fail
      go_ret
      exact ⟨ret_bool HF.out.symm, hb1.trans (hb2.mono hb1.size)⟩
end Go.Proofs.Ythembgllkfgknaa
