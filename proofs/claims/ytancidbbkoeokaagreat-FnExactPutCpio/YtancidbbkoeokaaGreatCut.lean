/- Contracts of spec.Cut, impl.Cut and the law laws.FnExactCut: the bytes before the first NUL. -/
import Derived.Test.YtancidbbkoeokaaGreatCom
import Derived.Test.YtancidbbkoeokaaGreatShelf
import Derived.Test.YtancidbbkoeokaaGreatClone
import Derived.WalkSmall
import Derived.IntWalk
namespace Go.Proofs.YtancidbbkoeokaaGreat
open Go.ChangeShapes Go.WideShapes Go.ChangeAt Go.RowKit

def nulFree (l : List UInt8) : List UInt8 := l.takeWhile (· != 0)
def cutv (s : ByteArray) : ByteArray := ⟨(nulFree s.data.toList).toArray⟩
def Nz (l : List UInt8) : Prop := ∀ c ∈ l, c ≠ 0

theorem nz_snoc {l : List UInt8} {c : UInt8} (h : Nz l) (hc : c ≠ 0) : Nz (l ++ [c]) := by
  intro d hd
  rcases List.mem_append.1 hd with hd | hd
  · exact h d hd
  · simp at hd; exact hd ▸ hc
theorem nulFree_append {a b : List UInt8} (h : Nz a) : nulFree (a ++ b) = a ++ nulFree b :=
  List.takeWhile_append_of_pos (by intro c hc; simpa using h c hc)
theorem nulFree_self {a : List UInt8} (h : Nz a) : nulFree a = a := by
  have := nulFree_append (a := a) (b := []) h
  simpa [nulFree] using this
theorem nulFree_at (l : List UInt8) (k : Nat) (hk : k < l.length) (h : Nz (l.take k)) (h0 : l[k] = 0) : nulFree l = l.take k := by
  have e : l = l.take k ++ (l[k] :: l.drop (k + 1)) := by simp
  have h1 : nulFree (l.take k ++ (l[k] :: l.drop (k + 1))) = l.take k := by
    rw [nulFree_append h, h0]; simp [nulFree]
  rw [← e] at h1
  exact h1
theorem nulFree_index (l : List UInt8) : (Lib.indexByte l 0 = -1 → nulFree l = l) ∧ (0 ≤ Lib.indexByte l 0 → nulFree l = l.take (Lib.indexByte l 0).toNat ∧ Lib.indexByte l 0 < l.length) := by
  induction l with
  | nil => simp [Lib.indexByte, nulFree]
  | cons c l ih =>
    by_cases hc : c = 0
    · subst hc; simp [Lib.indexByte, nulFree]
    · have hn : nulFree (c :: l) = c :: nulFree l := by simp [nulFree, hc]
      have hi : Lib.indexByte (c :: l) 0 = if Lib.indexByte l 0 == -1 then -1 else Lib.indexByte l 0 + 1 := by simp [Lib.indexByte, hc]
      have hge := Lib.indexByte_ge l 0
      rw [hn, hi]
      by_cases hm : Lib.indexByte l 0 = -1
      · simp [hm, ih.1 hm]
      · obtain ⟨h1, h2⟩ := ih.2 (by omega)
        have hb : (Lib.indexByte l 0 == -1) = false := by simp [hm]
        rw [hb]
        have e : (Lib.indexByte l 0 + 1).toNat = (Lib.indexByte l 0).toNat + 1 := by omega
        simp [e, h1]
        omega

theorem cut_spec (s : ByteArray) (w : World) (hs : s.size ≤ 9223372036854775807) :
    Calls Tryz.prog 47 #[.string s] w fun e w' => e = .returned (.string (cutv s)) ∧ w = w' := by
  go_enter Tryz.func47, Tryz.ntmps47
  go_wp2
  go_loop [3] (fun i => ∃ k : Nat, k ≤ s.size ∧ i = .int .i64 k ∧ Nz (s.data.toList.take k)) (fun i => s.size - (intOf i).toNat)
  case atStart => exact ⟨0, Nat.zero_le _, rfl, by intro c hc; simp at hc⟩
  case round =>
    obtain ⟨k, hk, rfl, hnz⟩ := hrel
    have HZ := Lib.hid hnz
    clear hnz
    by_cases hlt : k < s.size
    · by_cases hc : s[k] = 0
      · have hb : (((s[k].toNat : Nat) : Int) == 0) = true := by simp [hc]
        go_wp2
        go_ret
        refine ⟨ret_str (ba_ext ?_), rfl⟩
        rw [Lib.extract_data]
        have hl : k < s.data.toList.length := by simpa using hlt
        simp only [cutv, nulFree_at s.data.toList k hl HZ.out hc, List.drop_zero, Nat.sub_zero]
      · have hb : (((s[k].toNat : Nat) : Int) == 0) = false := byte_eq0 hc
        have HN := Lib.hid (show Nz (s.data.toList.take (k + 1)) by rw [take_snoc s k hlt]; exact nz_snoc HZ.out hc)
        clear hc
        go_wp2
        go_round
        case rel => exact ⟨k + 1, by omega, by go_num, HN.out⟩
        case measure => simp [intOf]; omega
    · go_wp2
      go_ret
      refine ⟨ret_str (ba_ext ?_), rfl⟩
      have e : s.data.toList.take k = s.data.toList := List.take_of_length_le (by simp; omega)
      have hz := HZ.out
      rw [e] at hz
      simp only [cutv, nulFree_self hz]


/-- strings.Cut at a NUL: what stands before it. -/
def CutPost (s : ByteArray) (w : World) (e : Ending) (w' : World) : Prop := ∃ r f, e = .returned (.tuple #[.string (cutv s), .string r, .bool f]) ∧ ∃ n, w' = w.drewN n

theorem lcut_any (s : ByteArray) (w : World) (hs : s.size ≤ 1099511627776) :
    Calls Tryz.prog 94 #[.string s, .string ⟨#[0]⟩] w (CutPost s w) := by
  have hi := nulFree_index s.data.toList
  have hge := Lib.indexByte_ge s.data.toList 0
  have hsz : s.data.toList.length = s.size := by simp
  by_cases hm : Lib.indexByte s.data.toList 0 = -1
  · have H1 := Lib.hid (hi.1 hm)
    have HM := Lib.hid hm
    have hlt : decide (0 ≤ Lib.indexByte s.data.toList 0) = false := by simp [hm]
    have hneg : Lib.indexByte s.data.toList 0 < 0 := by omega
    clear hi hm
    go_enter Tryz.func94, Tryz.ntmps94
    go_wp2_with (go_at_call 104; refine (Tryz.stringslite_Index_one _ _ _).mono ?_; rintro e w' ⟨rfl, rfl⟩)
    go_ret3
    refine ⟨⟨#[]⟩, false, ?_, 0, rfl⟩
    rw [show cutv s = s from ba_ext (by simp [cutv, H1.out])]
    rfl
  · obtain ⟨h1, h2⟩ := hi.2 (by omega)
    obtain ⟨k, hk⟩ := Int.eq_ofNat_of_zero_le (show 0 ≤ Lib.indexByte s.data.toList 0 by omega)
    rw [hk] at h1 h2
    simp only [Int.toNat_natCast] at h1
    have hks : k < s.size := by omega
    have hks1 : (k : Int) + 1 ≤ (s.size : Int) := by omega
    have e1 : IntKind.i64.wrap ((k : Int) + 1) = (k : Int) + 1 := IntWalk.i64_in _ (by omega)
    have e2 : (0 : Int) ≤ (k : Int) + 1 := by omega
    have e3 : ((k : Int) + 1).toNat = k + 1 := by omega
    have hks2 : (k : Int) ≤ (s.size : Int) := by omega
    have hks3 : k ≤ s.size := by omega
    have hks4 : k + 1 ≤ s.size := by omega
    have H1 := Lib.hid h1
    have hc := fun w => Tryz.stringslite_Index_one s 0 w
    rw [hk] at hc
    have HC := Lib.hid hc
    clear h1 h2 hi hm hge hk hc hsz
    go_enter Tryz.func94, Tryz.ntmps94
    go_wp2_with (go_at_call 104; refine (HC.out _).mono ?_; rintro e w' ⟨rfl, rfl⟩)
    go_quiet (fail)
    go_wp2
    go_ret3
    refine ⟨s.extract (k + 1) s.size, true, ?_, nq, rfl⟩
    rw [show cutv s = s.extract 0 k from ba_ext (by rw [Lib.extract_data]; simp [cutv, H1.out])]
    rfl

theorem scut_any (s : ByteArray) (w : World) (hs : s.size ≤ 1099511627776) :
    Calls Tryz.prog 80 #[.string s, .string ⟨#[0]⟩] w (CutPost s w) := by
  go_enter Tryz.func80, Tryz.ntmps80
  go_wp2_with (go_at_call 94; refine (lcut_any _ _ hs).mono ?_; rintro e w' ⟨r, f, rfl, n, rfl⟩)
  go_ret3
  exact ⟨r, f, rfl, n, rfl⟩

theorem cutv_le (s : ByteArray) : (cutv s).size ≤ s.size := by
  have h : (nulFree s.data.toList).length ≤ s.data.toList.length := by
    have := List.takeWhile_prefix (l := s.data.toList) (· != 0)
    exact this.length_le
  have e : (cutv s).size = (nulFree s.data.toList).length := by simp [cutv, ByteArray.size]
  rw [e]; simpa using h

theorem cut_impl (s : ByteArray) (w : World) (hs : s.size ≤ 1099511627776) :
    Calls Tryz.prog 66 #[.string s] w fun e w' => e = .returned (.string (cutv s)) ∧ Below w.heap.size w w' := by
  have hle := cutv_le s
  go_enter Tryz.func66, Tryz.ntmps66
  go_wp2_with fail
  refine (scut_any _ _ hs).mono ?_
  rintro e w' ⟨r, f, rfl, n, rfl⟩
  go_wp2_with fail
  refine (clone_any _ _ (by omega)).mono ?_
  rintro e w' ⟨rfl, hb⟩
  go_wp2_with fail
  go_ret
  exact ⟨rfl, (below_drewN (Below.refl _ _) n).trans hb⟩

end Go.Proofs.YtancidbbkoeokaaGreat
