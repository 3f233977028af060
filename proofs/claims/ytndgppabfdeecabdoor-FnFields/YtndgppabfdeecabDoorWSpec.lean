/- Contracts of spec.Words and impl.Words. -/
import Derived.Test.YtndgppabfdeecabDoorWMath
import Derived.Test.YtndgppabfdeecabDoorRowS
import Derived.Test.YtndgppabfdeecabDoorShelf
import Derived.Maps.AppendAt
import Derived.IntWalk
namespace Go.Proofs.YtndgppabfdeecabDoor
open Go.ChangeShapes Go.WideShapes Go.ChangeAt Go.RowKit

def strVals (l : List ByteArray) : List Value := l.map Value.string
theorem strVals_snoc (l : List ByteArray) (x : ByteArray) : strVals l ++ [.string x] = strVals (l ++ [x]) := by simp [strVals]
theorem Tryd.info9 : (Tryd.prog.info? 9).map (fun i => (i.zero, i.size, i.bytes)) = some (some (.string ⟨#[]⟩), 1, 16) := by kernel_rfl
def wordR (s : ByteArray) (i : Nat) : ByteArray := (wordsv s).getD i ⟨#[]⟩
theorem OwnT.rowF {w : World} {base g n cap : Nat} {s : ByteArray} (h : OwnT w base (.slice (some ⟨g, 0, none⟩) n cap) n (strVals (wordsv s))) : RowF w g n (wordR s) := by
  intro i hi
  have h1 := h.1
  rw [World.ownsRow.cellAt h i (by omega)]
  have hl : i < (wordsv s).length := by simp [strVals] at h1; omega
  simp [strVals, wordR, List.getElem?_eq_getElem hl]

/-- A row of texts of the call's own that is not nil. -/
def OwnL (w : World) (base : Nat) (v : Value) (l : List ByteArray) : Prop := OwnT w base v l.length (strVals l) ∧ ∃ g cap, v = .slice (some ⟨g, 0, none⟩) l.length cap

theorem byte_is {c : UInt8} (h : c = 32) : (((c.toNat : Nat) : Int) == 32) = true := by subst h; rfl
theorem byte_isnt {c : UInt8} (h : ¬ c = 32) : (((c.toNat : Nat) : Int) == 32) = false := by
  have : c.toNat ≠ 32 := fun e => h (UInt8.toNat_inj.1 (by simpa using e))
  simp; omega

theorem own_snoc {w1 : World} {base : Nat} {v' : Value} {D : List ByteArray} {x : ByteArray} (h : w1.ownsRow base 9 1 v' (D.length + 1) (strVals D ++ [.string x])) (hnil : ¬ v' = .slice none 0 0) : OwnL w1 base v' (D ++ [x]) := by
  rw [strVals_snoc, show D.length + 1 = (D ++ [x]).length from by simp] at h
  refine ⟨h, ?_⟩
  obtain ⟨_, ⟨rfl, _⟩ | ⟨g', cap', cur, rfl, _⟩⟩ := h
  · exact absurd rfl hnil
  · exact ⟨g', cap', rfl⟩

theorem words_spec (s : ByteArray) (w : World) (hs : s.size ≤ 1048576) :
    Calls Tryd.prog 5 #[.string s] w fun e w' => ∃ v, e = .returned v ∧ OwnL w' w.heap.size v (wordsv s) ∧ Below w.heap.size w w' := by
  obtain ⟨i0, hi, hz0, hz1, hz2⟩ := info_parts Tryd.info9
  have HS := Lib.hid hs
  have hs2 : s.size ≤ 9223372036854775807 := by omega
  clear hs
  go_enter Tryd.func5, Tryd.ntmps5
  go_wp2
  go_loopw [3, 4, 5] (fun v f i wr => ∃ (D : List ByteArray) (b k : Nat), b ≤ k ∧ k ≤ s.size ∧ D.length ≤ k ∧ f = .int .i64 b ∧ i = .int .i64 k ∧ WordsFrom s D b k ∧ OwnL wr w.heap.size v D ∧ Below w.heap.size w wr) (fun _ _ i _ => s.size - (intOf i).toNat)
  case atStart => exact ⟨[], 0, 0, Nat.le_refl _, Nat.zero_le _, Nat.le_refl _, rfl, rfl, wf_start s, ⟨World.ownsRow_lit w #[] 0 (Nat.le_refl _) (by simp) rfl, _, _, rfl⟩, (Below.refl _ _).alloc (Nat.le_refl _) _⟩
  case round =>
    obtain ⟨D, b, k, hbk, hk, hD, rfl, rfl, hwf, ⟨hown, g, cap, rfl⟩, hb⟩ := hrel
    have HO := Lib.hid hown
    have HB := Lib.hid hb
    have HW := Lib.hid hwf
    have hsz := HB.out.size
    clear hown hb hwf
    by_cases hlt : k < s.size
    · by_cases hc : s[k] = 32
      · have hb32 := byte_is hc
        have HN := Lib.hid (wf_cut HW.out hlt hc)
        have hbs : b ≤ s.size := by omega
        clear hc
        have hks3 : k ≤ s.size := by omega
        go_wp2_with (at_builtin; refine wpList_append_own _ rfl _ _ 22 rfl w.heap.size 9 i0 (.string ⟨#[]⟩) 1 16 Tryd.underlying22 hi hz0 hz1 hz2 rfl (by decide) _ _ _ rfl (World.ownsRow.alloc HO.out _) ⟨wr.heap.size, 0, none⟩ 1 1 [.string (s.extract b k)] rfl rfl ?c1 ?c2 ?c3 ?c4 ?c5 ?_)
        case c1 => exact cell_one_new _ _ _
        case c2 => intro u hu; simp at hu; subst hu; rfl
        case c3 => have := HS.out; simp only [maxLen]; omega
        case c4 => have := HS.out; omega
        case c5 => simp; omega
        · intro v' w1 hown' hgrow hnil
          have hO : OwnL w1 w.heap.size v' (D ++ [s.extract b k]) := own_snoc hown' hnil
          have hBl : Below w.heap.size w w1 := (HB.out.alloc hsz _).grown hgrow (by simp; omega) (fun b hb => (World.ownsRow.lt HO.out b hb).1)
          clear hown' hgrow hnil
          have HO1 := Lib.hid hO
          have HB1 := Lib.hid hBl
          clear hO hBl
          go_wp2
          go_roundw
          case rel => exact ⟨D ++ [s.extract b k], k + 1, k + 1, Nat.le_refl _, by omega, by simp; omega, by go_num, by go_num, HN.out, HO1.out, HB1.out⟩
          case measure => simp [intOf]; omega
      · have hb32 := byte_isnt hc
        have HN := Lib.hid (wf_go HW.out hbk hlt hc)
        clear hc
        go_wp2
        go_roundw
        case rel => exact ⟨D, b, k + 1, by omega, by omega, by omega, rfl, by go_num, HN.out, ⟨HO.out, _, _, rfl⟩, HB.out⟩
        case measure => simp [intOf]; omega
    · obtain rfl : k = s.size := by omega
      have HE := Lib.hid (wf_end HW.out)
      go_wp2_with (at_builtin; refine wpList_append_own _ rfl _ _ 22 rfl w.heap.size 9 i0 (.string ⟨#[]⟩) 1 16 Tryd.underlying22 hi hz0 hz1 hz2 rfl (by decide) _ _ _ rfl (World.ownsRow.alloc HO.out _) ⟨wr.heap.size, 0, none⟩ 1 1 [.string (s.extract b s.size)] rfl rfl ?c1 ?c2 ?c3 ?c4 ?c5 ?_)
      case c1 => exact cell_one_new _ _ _
      case c2 => intro u hu; simp at hu; subst hu; rfl
      case c3 => have := HS.out; simp only [maxLen]; omega
      case c4 => have := HS.out; omega
      case c5 => simp; omega
      · intro v' w1 hown' hgrow hnil
        have hO : OwnL w1 w.heap.size v' (D ++ [s.extract b s.size]) := own_snoc hown' hnil
        have hBl : Below w.heap.size w w1 := (HB.out.alloc hsz _).grown hgrow (by simp; omega) (fun b hb => (World.ownsRow.lt HO.out b hb).1)
        clear hown' hgrow hnil
        rw [HE.out] at hO
        have HO1 := Lib.hid hO
        have HB1 := Lib.hid hBl
        clear hO hBl
        go_wp2
        go_ret
        exact ⟨_, rfl, HO1.out, HB1.out⟩

theorem clone_w (s : ByteArray) (w : World) (hs : s.size ≤ 281474976710656) :
    Calls Tryd.prog 32 #[.string s] w fun e w' => e = .returned (.string s) ∧ Below w.heap.size w w' := by
  go_enter Tryd.func32, Tryd.ntmps32
  go_wp2_with (go_at_call 49; refine (Tryd.stringslite_Clone _ _ hs).mono ?_; rintro e w' ⟨rfl, hb⟩)
  go_ret
  exact ⟨rfl, hb⟩

theorem words_impl (s : ByteArray) (m : Int) (w : World) (hs : s.size ≤ 1048576) (h0 : 0 < w.heap.size) (hm : w.cell? ⟨0, 0, none⟩ = some (.int .i64 m)) :
    Calls Tryd.prog 6 #[.string s] w fun e w' => ∃ g, e = .returned (.slice (some ⟨g, 0, none⟩) (wordsv s).length (wordsv s).length) ∧ w.heap.size ≤ g ∧ g < w'.heap.size ∧ OwnT w' g (.slice (some ⟨g, 0, none⟩) (wordsv s).length (wordsv s).length) (wordsv s).length (strVals (wordsv s)) ∧ Below w.heap.size w w' := by
  have HM := Lib.hid hm
  have hsp := fun w hm => Tryd.strings_Split s ⟨#[32]⟩ m w (by omega) hm (by decide)
  rw [← wordsv_len s, show Lib.splitB ⟨#[32]⟩ 0 (Lib.countB s ⟨#[32]⟩) s = wordsv s from rfl] at hsp
  have HSP := Lib.hid hsp
  have hle := count_le s
  have hln := wordsv_len s
  have hmx : (wordsv s).length ≤ maxLen := by simp only [maxLen]; omega
  have HMX := Lib.hid hmx
  clear hm hsp hmx hle hln
  generalize wordsv s = L at HSP HMX
  go_enter Tryd.func6, Tryd.ntmps6
  go_wp2_with fail
  refine (clone_w _ _ (by omega)).mono ?_
  rintro e w1 ⟨rfl, hb1⟩
  have HB1 := Lib.hid hb1
  have hsz := hb1.size
  clear hb1
  go_wp2_with fail
  refine (HSP.out _ ((HB1.out.cell (p := ⟨0, 0, none⟩) h0).trans HM.out)).mono ?_
  rintro e w2 ⟨rfl, rfl⟩
  go_wp2_with fail
  go_ret
  refine ⟨_, rfl, hsz, by simp, ?_, HB1.out.alloc hsz _⟩
  have h := World.ownsRow_lit (base := w1.heap.size) (e := 9) (size := 1) w1 (L.map Value.string).toArray L.length (Nat.le_refl _) HMX.out (by simp)
  simpa [OwnT, strVals] using h
end Go.Proofs.YtndgppabfdeecabDoor
