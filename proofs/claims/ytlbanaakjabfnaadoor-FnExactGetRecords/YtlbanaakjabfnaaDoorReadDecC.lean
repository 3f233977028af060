/- Contracts of spec.ReadDec and impl.ReadDec, for every string, in a dump without GetDec (ReadDecB.t again, where PartMath.t and PutBase.t are there). -/
import Derived.Test.YtlbanaakjabfnaaDoorLead
import Derived.Test.YtlbanaakjabfnaaDoorPartMath
import Derived.Test.YtlbanaakjabfnaaDoorPutBase
import Derived.Test.YtlbanaakjabfnaaDoorValue
import Derived.Test.YtlbanaakjabfnaaDoorBack
import Derived.Test.YtlbanaakjabfnaaDoorDecText
namespace Go.Proofs.YtlbanaakjabfnaaDoor
open Go.ChangeShapes Go.WideShapes Go.ChangeAt Go.RowKit

def cand2 (l : List UInt8) : Int := (lead 10 0 l).1
def readDecv (s : ByteArray) : Int := if cand2 s.data.toList ≤ 999999 ∧ decTextv (cand2 s.data.toList) = s then cand2 s.data.toList else -1
theorem decText_lead {c : Int} {s : ByteArray} (h0 : 0 ≤ c) (h1 : c ≤ 9007199254740991) (h : decTextv c = s) : cand2 s.data.toList = c ∧ vals 10 0 s.data.toList = c := by
  obtain ⟨u, rfl⟩ := Int.eq_ofNat_of_zero_le h0
  have hn : lead (10 : Int) 0 (numeral 10 u) = ((u : Int), (numeral 10 u).length) := lead_numeral 10 (by omega) (by omega) u h1
  have hs : s.data.toList = numeral 10 u := by
    rw [← h, decTextv, decText, if_neg (by omega)]; rfl
  rw [cand2, hs, vals_lead 10 (by omega) 0 _ (by omega), hn]
  simp
theorem vals_bd (b : Int) (hb : 0 ≤ b) (l : List UInt8) : -1 ≤ vals b 0 l ∧ vals b 0 l ≤ 9007199254740991 := by
  have := lead_bd b hb 0 l (by omega) (by omega)
  rw [vals_lead b hb 0 l (by omega)]
  split <;> omega
theorem decTextv_size (c : Int) (h0 : 0 ≤ c) : (decTextv c).size = (numeral 10 c.toNat).length := by
  rw [decTextv, ba_size, decText, if_neg (by omega)]
theorem readDec_eq (s : ByteArray) : (if s.size = 0 ∨ 6 < s.size ∨ ¬ decTextv (vals 10 0 s.data.toList) = s then -1 else vals 10 0 s.data.toList) = readDecv s := by
  have hb := vals_bd 10 (by omega) s.data.toList
  have hl := lead_bd 10 (by omega) 0 s.data.toList (by omega) (by omega)
  unfold readDecv
  by_cases hacc : cand2 s.data.toList ≤ 999999 ∧ decTextv (cand2 s.data.toList) = s
  · obtain ⟨h1, h2⟩ := hacc
    have h3 := (decText_lead hl.1 hl.2 h2).2
    have h4 := decTextv_size (cand2 s.data.toList) hl.1
    rw [h2] at h4
    have h5 := numeral_len (b := 10) (u := (cand2 s.data.toList).toNat) (k := 6) (by omega) (by omega) (by omega)
    have h6 := numeral_pos (b := 10) (u := (cand2 s.data.toList).toNat) (by omega)
    have h3' : vals 10 0 s.data.toList = cand2 s.data.toList := h3
    have hnr : ¬ (s.size = 0 ∨ 6 < s.size ∨ ¬ decTextv (vals 10 0 s.data.toList) = s) := by
      rw [h3']
      rintro (h | h | h)
      · omega
      · omega
      · exact h h2
    rw [if_neg hnr, if_pos ⟨h1, h2⟩]
    exact h3'
  · rw [if_neg hacc]
    by_cases hr : s.size = 0 ∨ 6 < s.size ∨ ¬ decTextv (vals 10 0 s.data.toList) = s
    · rw [if_pos hr]
    · rw [if_neg hr]
      have hr1 : s.size ≤ 6 := by omega
      have hr2 : decTextv (vals 10 0 s.data.toList) = s := by
        rcases Classical.em (decTextv (vals 10 0 s.data.toList) = s) with h | h
        · exact h
        · exact absurd (.inr (.inr h)) hr
      by_cases hv : 0 ≤ vals 10 0 s.data.toList
      · have h3 := (decText_lead hv hb.2 hr2).1
        have h4 := decTextv_size _ hv
        rw [hr2] at h4
        have h5 := numeral_lt (b := 10) (by omega) 6 (vals 10 0 s.data.toList).toNat (by omega)
        exact absurd ⟨by rw [h3]; omega, by rw [h3]; exact hr2⟩ hacc
      · omega

theorem readDec_spec (s : ByteArray) (w : World) (hs : s.size ≤ 9223372036854775807) :
    Calls Tryd.prog 27 #[.string s] w fun e w' => e = .returned (.int .i64 (readDecv s)) ∧ w = w' := by
  have hb := vals_bd 10 (by omega) s.data.toList
  have HC := Lib.hid (fun w => value_10 s w hs)
  have HD := Lib.hid (fun w => decText_spec (vals 10 0 s.data.toList) (by omega) (by omega) w)
  have HV := Lib.hid (show ((s.size = 0 ∨ 6 < s.size ∨ ¬ decTextv (vals 10 0 s.data.toList) = s) → readDecv s = -1) ∧ (¬ (s.size = 0 ∨ 6 < s.size ∨ ¬ decTextv (vals 10 0 s.data.toList) = s) → readDecv s = vals 10 0 s.data.toList) from
    ⟨fun h => by rw [← readDec_eq, if_pos h], fun h => by rw [← readDec_eq, if_neg h]⟩)
  generalize vals 10 0 s.data.toList = n at HC HD HV hb
  generalize decTextv n = r at HD HV
  by_cases h0 : s.size = 0
  · have hz : s = ⟨#[]⟩ := ba_ext (by have : s.data.toList.length = 0 := by simpa using h0
                                      exact List.eq_nil_of_length_eq_zero this)
    have HS := Lib.hid (HV.out.1 (.inl h0))
    have hem : s.toList.isEmpty = true := by rw [hz]; simp
    have H0 := Lib.hid hz
    clear hz h0
    go_enter Tryd.func27, Tryd.ntmps27
    go_wp2_with fail
    refine (HC.out _).mono ?_
    rintro e w1 ⟨rfl, rfl⟩
    go_wp2_with fail
    go_ret
    exact ⟨ret_int HS.out.symm, rfl⟩
  · have hem : s.toList.isEmpty = false := by
      rw [ba_toList]
      cases hl : s.data.toList with
      | nil => have h2 : s.data.toList.length = s.size := by simp
               rw [hl] at h2; simp at h2; omega
      | cons a t => rfl
    by_cases h6 : 6 < s.size
    · have HS := Lib.hid (HV.out.1 (.inr (.inl h6)))
      go_enter Tryd.func27, Tryd.ntmps27
      go_wp2_with fail
      refine (HC.out _).mono ?_
      rintro e w1 ⟨rfl, rfl⟩
      go_wp2_with fail
      go_ret
      exact ⟨ret_int HS.out.symm, rfl⟩
    · by_cases hrs : r = s
      · have heq := ba_eq hrs
        have HRS := Lib.hid hrs
        clear hrs
        go_enter Tryd.func27, Tryd.ntmps27
        go_wp2_with fail
        refine (HC.out _).mono ?_
        rintro e w1 ⟨rfl, rfl⟩
        go_wp2_with fail
        refine (HD.out _).mono ?_
        rintro e w2 ⟨rfl, rfl⟩
        go_wp2_with fail
        go_ret
        exact ⟨ret_int (HV.out.2 (fun h => by rcases h with h | h | h; exact h0 h; exact h6 h; exact h HRS.out)).symm, rfl⟩
      · have hne := ba_ne hrs
        have HRS := Lib.hid hrs
        clear hrs
        go_enter Tryd.func27, Tryd.ntmps27
        go_wp2_with fail
        refine (HC.out _).mono ?_
        rintro e w1 ⟨rfl, rfl⟩
        go_wp2_with fail
        refine (HD.out _).mono ?_
        rintro e w2 ⟨rfl, rfl⟩
        go_wp2_with fail
        go_ret
        exact ⟨ret_int (HV.out.1 (.inr (.inr HRS.out))).symm, rfl⟩

end Go.Proofs.YtlbanaakjabfnaaDoor
