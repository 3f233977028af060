/- A card read at a place of a text: plain mathematics, and the text's pieces. -/
import Derived.Test.YtcnmbolmgifgfaaCardO
import Derived.Test.YtcnmbolmgifgfaaGetOH
import Derived.Test.YtcnmbolmgifgfaaCut
import Derived.Test.YtcnmbolmgifgfaaCardText
namespace Go.Proofs.Ytcnmbolmgifgfaa
open Go.ChangeShapes Go.WideShapes Go.ChangeAt Go.RowKit Go.Deep

def cum (k : Nat) : Nat := [0, 6, 12, 18, 24, 30, 36, 42, 53, 59, 70].getD k 0
def wid (k : Nat) : Nat := [6, 6, 6, 6, 6, 6, 6, 11, 6, 11].getD k 0
theorem cum_wid : ∀ k, k < 10 → cum (k + 1) = cum k + wid k ∧ cum (k + 1) ≤ 70 ∧ wid k ≤ 11 ∧ wideC[k]? = some ((wid k : Nat) : Int) := by decide
/-- The bytes of the k-th number of a card that begins at j. -/
def fB (s : ByteArray) (j k : Nat) : ByteArray := s.extract (j + 6 + cum k) (j + 6 + cum k + wid k)
def fN (s : ByteArray) (j k : Nat) : Int := (getOctv (fB s j k).data.toList).1
def fO (s : ByteArray) (j k : Nat) : Bool := (getOctv (fB s j k).data.toList).2
theorem vals_bdK (b : Int) (hb : 0 ≤ b) (l : List UInt8) : -1 ≤ vals b 0 l ∧ vals b 0 l ≤ 9007199254740991 := by
  have := lead_bd b hb 0 l (by omega) (by omega)
  rw [vals_lead b hb 0 l (by omega)]
  split <;> omega
theorem vals_top (l : List UInt8) : vals 8 0 l ≤ 9007199254740991 := (vals_bdK 8 (by decide) l).2
theorem octv_bds (l : List UInt8) : 0 ≤ (getOctv l).1 ∧ (getOctv l).1 ≤ 9007199254740991 := by
  unfold getOctv
  split
  · rename_i h
    refine ⟨h.2.2, ?_⟩
    exact vals_top l
  · exact ⟨by decide, by decide⟩
theorem fN_bd (s : ByteArray) (j k : Nat) : 0 ≤ fN s j k ∧ fN s j k ≤ 9007199254740991 := octv_bds _
def allO (s : ByteArray) (j : Nat) : Bool := (List.range 10).all (fO s j)
theorem allO_bad {s : ByteArray} {j k : Nat} (h : k < 10) (hk : fO s j k = false) : allO s j = false := by
  rw [allO, List.all_eq_false]
  exact ⟨k, List.mem_range.2 h, by simp [hk]⟩
theorem allO_good {s : ByteArray} {j : Nat} (h : ∀ k, k < 10 → fO s j k = true) : allO s j = true := List.all_eq_true.2 (fun k hk => h k (List.mem_range.1 hk))
def magicB : ByteArray := ⟨#[48, 55, 48, 55, 48, 55]⟩
def nameB (s : ByteArray) (j : Nat) : ByteArray := s.extract (j + 76) (j + 76 + (fN s j 8).toNat)
/-- The code of a card's reading at i. -/
def cdCode (s : ByteArray) (i : Int) : Int :=
  if i < 0 ∨ (s.size : Int) < i + 76 then 1
  else if ¬ s.extract i.toNat (i.toNat + 6) = magicB then 4
  else if allO s i.toNat = false then 3
  else if ¬ fN s i.toNat 0 = 0 ∨ ¬ fN s i.toNat 6 = 0 then 3
  else if (s.size : Int) < i + 76 + fN s i.toNat 8 + fN s i.toNat 9 then 1
  else if fN s i.toNat 8 = 0 ∨ ¬ ((cutv (nameB s i.toNat)).size : Int) = fN s i.toNat 8 - 1 then 4
  else 0
def cdCard (s : ByteArray) (i : Int) : Card := if cdCode s i = 0 then ⟨fN s i.toNat 1, fN s i.toNat 2, fN s i.toNat 3, fN s i.toNat 4, fN s i.toNat 5, fN s i.toNat 7, cutv (nameB s i.toNat), s.extract (i.toNat + 76 + (fN s i.toNat 8).toNat) (i.toNat + 76 + (fN s i.toNat 8).toNat + (fN s i.toNat 9).toNat)⟩ else zeroC
def cdNext (s : ByteArray) (i : Int) : Int := if cdCode s i = 0 then i + 76 + fN s i.toNat 8 + fN s i.toNat 9 else i
/-- What is said where the code is no 0. -/
def badCd (s : ByteArray) (i c : Int) : Prop := cdCode s i = c ∧ cdCard s i = zeroC ∧ cdNext s i = i
theorem badCd_of {s : ByteArray} {i c : Int} (h : cdCode s i = c) (hc : ¬ c = 0) : badCd s i c := ⟨h, by rw [cdCard, if_neg (by omega)], by rw [cdNext, if_neg (by omega)]⟩
theorem cd_cut {s : ByteArray} {i : Int} (h : i < 0 ∨ (s.size : Int) < i + 76) : badCd s i 1 := badCd_of (by rw [cdCode, if_pos h]) (by decide)
theorem cd_magic {s : ByteArray} {j : Nat} (h : j + 76 ≤ s.size) (hm : ¬ s.extract j (j + 6) = magicB) : badCd s j 4 := badCd_of (by rw [cdCode, if_neg (by omega), Int.toNat_natCast, if_pos hm]) (by decide)
theorem cd_field {s : ByteArray} {j k : Nat} (h : j + 76 ≤ s.size) (hm : s.extract j (j + 6) = magicB) (hk : k < 10) (ho : fO s j k = false) : badCd s j 3 := badCd_of (by rw [cdCode, if_neg (by omega), Int.toNat_natCast, if_neg (by simp [hm]), if_pos (allO_bad hk ho)]) (by decide)
theorem cd_zero {s : ByteArray} {j : Nat} (h : j + 76 ≤ s.size) (hm : s.extract j (j + 6) = magicB) (ho : ∀ k, k < 10 → fO s j k = true) (hz : ¬ fN s j 0 = 0 ∨ ¬ fN s j 6 = 0) : badCd s j 3 := badCd_of (by rw [cdCode, if_neg (by omega), Int.toNat_natCast, if_neg (by simp [hm]), if_neg (by simp [allO_good ho]), if_pos hz]) (by decide)
theorem cd_short {s : ByteArray} {j : Nat} (h : j + 76 ≤ s.size) (hm : s.extract j (j + 6) = magicB) (ho : ∀ k, k < 10 → fO s j k = true) (hz : fN s j 0 = 0 ∧ fN s j 6 = 0) (hs : (s.size : Int) < j + 76 + fN s j 8 + fN s j 9) : badCd s j 1 := badCd_of (by rw [cdCode, if_neg (by omega), Int.toNat_natCast, if_neg (by simp [hm]), if_neg (by simp [allO_good ho]), if_neg (by simp [hz]), if_pos hs]) (by decide)
theorem cd_name {s : ByteArray} {j : Nat} (h : j + 76 ≤ s.size) (hm : s.extract j (j + 6) = magicB) (ho : ∀ k, k < 10 → fO s j k = true) (hz : fN s j 0 = 0 ∧ fN s j 6 = 0) (hs : ¬ (s.size : Int) < j + 76 + fN s j 8 + fN s j 9) (hn : fN s j 8 = 0 ∨ ¬ ((cutv (nameB s j)).size : Int) = fN s j 8 - 1) : badCd s j 4 := badCd_of (by rw [cdCode, if_neg (by omega), Int.toNat_natCast, if_neg (by simp [hm]), if_neg (by simp [allO_good ho]), if_neg (by simp [hz]), if_neg hs, if_pos hn]) (by decide)
theorem cd_good {s : ByteArray} {j : Nat} (h : j + 76 ≤ s.size) (hm : s.extract j (j + 6) = magicB) (ho : ∀ k, k < 10 → fO s j k = true) (hz : fN s j 0 = 0 ∧ fN s j 6 = 0) (hs : ¬ (s.size : Int) < j + 76 + fN s j 8 + fN s j 9) (hn : ¬ (fN s j 8 = 0 ∨ ¬ ((cutv (nameB s j)).size : Int) = fN s j 8 - 1)) : cdCode s j = 0 ∧ cdCard s j = ⟨fN s j 1, fN s j 2, fN s j 3, fN s j 4, fN s j 5, fN s j 7, cutv (nameB s j), s.extract (j + 76 + (fN s j 8).toNat) (j + 76 + (fN s j 8).toNat + (fN s j 9).toNat)⟩ ∧ cdNext s j = j + 76 + fN s j 8 + fN s j 9 := by
  have e : cdCode s j = 0 := by rw [cdCode, if_neg (by omega), Int.toNat_natCast, if_neg (by simp [hm]), if_neg (by simp [allO_good ho]), if_neg (by simp [hz]), if_neg hs, if_neg hn]
  exact ⟨e, by rw [cdCard, if_pos e, Int.toNat_natCast], by rw [cdNext, if_pos e, Int.toNat_natCast]⟩
theorem sl_at (s : ByteArray) (x y : Int) (a b : Nat) (hx : x = (a : Int)) (hy : y = (b : Int)) (hab : a ≤ b) (hb : b ≤ s.size) (w : World) : (Instr.slice 9 (.string s) (some (.int .i64 x)) (some (.int .i64 y)) none).run Try.prog w = .ok (.string (s.extract a b)) w := by
  subst hx hy
  have := run_slice_string (P := Try.prog) (w := w) 9 s .i64 .i64 (a : Int) (b : Int) Try.underlying9 (by omega) (by omega) (by omega)
  rw [Int.toNat_natCast, Int.toNat_natCast] at this
  exact this
theorem cut_pre (s : ByteArray) : s.extract 0 (cutv s).size = cutv s := by
  apply ba_ext
  have e : (cutv s).size = (nulFree s.data.toList).length := by simp [cutv, ByteArray.size]
  rw [e, show (cutv s).data.toList = nulFree s.data.toList from by simp [cutv]]
  simp
  unfold nulFree
  exact (List.prefix_iff_eq_take.1 (List.takeWhile_prefix _)).symm
theorem below_setK {B g : Nat} {w : World} (hB : B ≤ g) (cs : Array Value) : Below B w (w.setRow g cs) :=
  ⟨rfl, rfl, rfl, by simp, fun k hk => setRow_other _ _ _ _ (by omega)⟩
theorem cut_to (s : ByteArray) (x : Int) (hx : x.toNat = (cutv s).size) (h0 : 0 ≤ x) (h1 : x ≤ s.size) (w : World) : (Instr.slice 9 (.string s) none (some (.int .i64 x)) none).run Try.prog w = .ok (.string (cutv s)) w := by
  have := run_slice_string_h (P := Try.prog) (w := w) (t := 9) (s := s) Try.underlying9 .i64 x h0 h1
  rw [hx, cut_pre] at this
  exact this
theorem results_cell3 {P : Program} {fn : Func} {p u1 u2 : Tmp} {ty : TypeId} (h : fn.results = #[.cell p ty, .tmp u1, .tmp u2]) (tmps : Array Value) (w : World) (g : Nat) (t : TypeId) (cs : Array Value) (fr : Nat × Nat) (d : TypeDesc)
    (hp : tmps.getD p undef = .pointer (some ⟨g, 0, none⟩)) (hg : w.heap[g]? = some (.cells cs t fr))
    (hu : P.underlying ty = some d) (hd : (match d with | .struct _ | .array _ _ => true | _ => false) = true) (hi : (P.info? ty).map (·.size) = some cs.size) :
    (results fn tmps).run P w = .ok (.tuple #[.agg cs, tmps.getD u1 undef, tmps.getD u2 undef]) w := by
  have hp' : tmps[p]?.getD undef = .pointer (some ⟨g, 0, none⟩) := by simpa using hp
  simp [results, h, hp', asAddr, run_loadVar_row w g t ty cs fr d hg hu hd hi]
theorem res_OC3 {fn : Func} {p u1 u2 : Tmp} (h : fn.results = #[.cell p 23, .tmp u1, .tmp u2]) (tmps : Array Value) {w : World} {g : Nat} {e : Card}
    (hp : tmps.getD p undef = .pointer (some ⟨g, 0, none⟩)) (hg : CardO w g e) : (results fn tmps).run Try.prog w = .ok (.tuple #[.agg e.cells.toArray, tmps.getD u1 undef, tmps.getD u2 undef]) w :=
  results_cell3 h _ _ g _ e.cells.toArray (0, 0) _ hp hg Try.underlying23 rfl (by rw [Try.sizeOC]; rfl)
end Go.Proofs.Ytcnmbolmgifgfaa
