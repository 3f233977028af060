/- The tables that strconv reads, carried from world to world; strconv.FormatInt at the bases 8, 10 and 16; impl.fieldDigits and impl.zeros. -/
import Derived.Test.YtancidbbkoeokaaGreatDoorPutBase
import Derived.Test.YtancidbbkoeokaaGreatDoorFmtInt
import Derived.Test.YtancidbbkoeokaaGreatDoorDecText
namespace Go.Proofs.YtancidbbkoeokaaGreatDoor
open Go.ChangeShapes Go.WideShapes Go.ChangeAt Go.RowKit

/-- What the walks ask of the library's tables. -/
def Tabs (w : World) : Prop := w.cell? ⟨5, 7, none⟩ = some (.int .u8 3) ∧ w.cell? ⟨5, 15, none⟩ = some (.int .u8 4) ∧ Lib.TabIs Tryz.prog w "internal/strconv.uint64pow10" .u64 Lib.pow10Tab
theorem Tabs.below {w w' : World} (h : Tabs w) (hb : Below w.heap.size w w') : Tabs w' :=
  ⟨(hb.cell (p := ⟨5, 7, none⟩) (tab_lt h.1)).trans h.1, (hb.cell (p := ⟨5, 15, none⟩) (tab_lt h.1)).trans h.2.1, Lib.tabBelow_of_tabIs h.2.2 w' hb⟩

theorem fmtInt_8 (n : Int) (w : World) (h0 : 0 ≤ n) (h1 : n ≤ 9007199254740991) (ht : Tabs w) :
    Calls Tryz.prog 135 #[.int .i64 n, .int .i64 8] w fun e w' => e = .returned (.string (numv 8 n)) ∧ Below w.heap.size w w' := fmt_8 n w h0 h1 ht.1
theorem fmtInt_16 (n : Int) (w : World) (h0 : 0 ≤ n) (h1 : n ≤ 9007199254740991) (ht : Tabs w) :
    Calls Tryz.prog 135 #[.int .i64 n, .int .i64 16] w fun e w' => e = .returned (.string (numv 16 n)) ∧ Below w.heap.size w w' := fmt_16 n w h0 h1 ht.2.1
theorem fmtInt_10 (n : Int) (w : World) (h0 : 0 ≤ n) (h1 : n ≤ 9007199254740991) (ht : Tabs w) :
    Calls Tryz.prog 135 #[.int .i64 n, .int .i64 10] w fun e w' => e = .returned (.string (numv 10 n)) ∧ Below w.heap.size w w' := by
  refine (Tryz.strconv_FormatInt_10 n (by omega) (by omega) w ht.2.2).mono ?_
  rintro e w' ⟨rfl, k, os, rfl⟩
  refine ⟨?_, below_grow _ _ _⟩
  rw [itoa_eq, decText, if_neg (by omega)]; rfl

theorem numv_size (b : Nat) (n : Int) : (numv b n).size = (numeral b n.toNat).length := ba_size _
def Valid (n width : Int) : Prop := 0 ≤ n ∧ n ≤ 9007199254740991 ∧ 1 ≤ width ∧ width ≤ 20

theorem field_no_8 (n width : Int) (w : World) (h : ¬ Valid n width) :
    Calls Tryz.prog 121 #[.int .i64 n, .int .i64 width, .int .i64 8] w fun e w' => e = .returned (.tuple #[.string ⟨#[]⟩, .bool false]) ∧ w = w' := by
  have HV := Lib.hid h
  clear h
  by_cases a1 : n < 0
  · go_enter Tryz.func121, Tryz.ntmps121
    go_wp2_with fail
    go_ret2
    exact ⟨rfl, rfl⟩
  · by_cases a2 : 9007199254740991 < n
    · go_enter Tryz.func121, Tryz.ntmps121
      go_wp2_with fail
      go_ret2
      exact ⟨rfl, rfl⟩
    · by_cases a3 : width < 1
      · go_enter Tryz.func121, Tryz.ntmps121
        go_wp2_with fail
        go_ret2
        exact ⟨rfl, rfl⟩
      · have a4 : 20 < width := by have := HV.out; unfold Valid at this; omega
        go_enter Tryz.func121, Tryz.ntmps121
        go_wp2_with fail
        go_ret2
        exact ⟨rfl, rfl⟩
theorem field_8 (n width : Int) (w : World) (h : Valid n width) (ht : Tabs w) :
    Calls Tryz.prog 121 #[.int .i64 n, .int .i64 width, .int .i64 8] w fun e w' => e = .returned (.tuple #[.string (numv 8 n), .bool (decide (((numv 8 n).size : Int) ≤ width))]) ∧ Below w.heap.size w w' := by
  obtain ⟨a1, a2, a3, a4⟩ := h
  have HT := Lib.hid ht
  clear ht
  have HC := Lib.hid (fmtInt_8 n w a1 a2 HT.out)
  have hs : ((numv 8 n).size : Int) ≤ 20 := by rw [numv_size]; have := numeral_len (b := 8) (u := n.toNat) (k := 20) (by omega) (by omega) (by omega); omega
  generalize numv 8 n = r at HC hs
  by_cases hle : (r.size : Int) ≤ width
  · have hd : decide ((r.size : Int) ≤ width) = true := by simpa using hle
    go_enter Tryz.func121, Tryz.ntmps121
    go_wp2_with (go_at_call 135; refine HC.out.mono ?_; rintro e w' ⟨rfl, hb⟩)
    go_ret2
    exact ⟨by rw [hd]; rfl, by assumption⟩
  · have hd : decide ((r.size : Int) ≤ width) = false := by simpa using hle
    go_enter Tryz.func121, Tryz.ntmps121
    go_wp2_with (go_at_call 135; refine HC.out.mono ?_; rintro e w' ⟨rfl, hb⟩)
    go_ret2
    exact ⟨by rw [hd]; rfl, by assumption⟩

theorem field_no_10 (n width : Int) (w : World) (h : ¬ Valid n width) :
    Calls Tryz.prog 121 #[.int .i64 n, .int .i64 width, .int .i64 10] w fun e w' => e = .returned (.tuple #[.string ⟨#[]⟩, .bool false]) ∧ w = w' := by
  have HV := Lib.hid h
  clear h
  by_cases a1 : n < 0
  · go_enter Tryz.func121, Tryz.ntmps121
    go_wp2_with fail
    go_ret2
    exact ⟨rfl, rfl⟩
  · by_cases a2 : 9007199254740991 < n
    · go_enter Tryz.func121, Tryz.ntmps121
      go_wp2_with fail
      go_ret2
      exact ⟨rfl, rfl⟩
    · by_cases a3 : width < 1
      · go_enter Tryz.func121, Tryz.ntmps121
        go_wp2_with fail
        go_ret2
        exact ⟨rfl, rfl⟩
      · have a4 : 20 < width := by have := HV.out; unfold Valid at this; omega
        go_enter Tryz.func121, Tryz.ntmps121
        go_wp2_with fail
        go_ret2
        exact ⟨rfl, rfl⟩
theorem field_10 (n width : Int) (w : World) (h : Valid n width) (ht : Tabs w) :
    Calls Tryz.prog 121 #[.int .i64 n, .int .i64 width, .int .i64 10] w fun e w' => e = .returned (.tuple #[.string (numv 10 n), .bool (decide (((numv 10 n).size : Int) ≤ width))]) ∧ Below w.heap.size w w' := by
  obtain ⟨a1, a2, a3, a4⟩ := h
  have HT := Lib.hid ht
  clear ht
  have HC := Lib.hid (fmtInt_10 n w a1 a2 HT.out)
  have hs : ((numv 10 n).size : Int) ≤ 20 := by rw [numv_size]; have := numeral_len (b := 10) (u := n.toNat) (k := 20) (by omega) (by omega) (by omega); omega
  generalize numv 10 n = r at HC hs
  by_cases hle : (r.size : Int) ≤ width
  · have hd : decide ((r.size : Int) ≤ width) = true := by simpa using hle
    go_enter Tryz.func121, Tryz.ntmps121
    go_wp2_with (go_at_call 135; refine HC.out.mono ?_; rintro e w' ⟨rfl, hb⟩)
    go_ret2
    exact ⟨by rw [hd]; rfl, by assumption⟩
  · have hd : decide ((r.size : Int) ≤ width) = false := by simpa using hle
    go_enter Tryz.func121, Tryz.ntmps121
    go_wp2_with (go_at_call 135; refine HC.out.mono ?_; rintro e w' ⟨rfl, hb⟩)
    go_ret2
    exact ⟨by rw [hd]; rfl, by assumption⟩

theorem zeros_any (l : List UInt8) (width : Int) (w : World) (h : (l.length : Int) ≤ width) (hw : width ≤ 40) :
    Calls Tryz.prog 122 #[.string ⟨l.toArray⟩, .int .i64 width] w fun e w' => e = .returned (.string ⟨(ahead l width).toArray⟩) ∧ Below w.heap.size w w' := by
  obtain ⟨k, hk⟩ := Int.eq_ofNat_of_zero_le (show 0 ≤ width - (l.length : Int) by omega)
  obtain rfl : width = (l.length : Int) + k := by omega
  have hl : l.length ≤ 40 := by omega
  have hk2 : k ≤ 40 := by omega
  have hr : (List.replicate k (48 : UInt8)).length ≤ 40 := by simpa using hk2
  have HC := Lib.hid (repeat_one 48 k w (by omega))
  generalize hR : List.replicate k (48 : UInt8) = R at HC hr
  have HR := Lib.hid hR
  clear hk hR
  go_enter Tryz.func122, Tryz.ntmps122
  go_wp2_with fail
  rw [show (l.length : Int) + k - l.length = (k : Int) from by omega]
  refine HC.out.mono ?_
  rintro e w' ⟨rfl, hb⟩
  go_wp2_with fail
  go_ret
  refine ⟨ret_str ?_, hb⟩
  rw [ba_app, ahead, show ((l.length : Int) + k).toNat - l.length = k from by omega, HR.out]
end Go.Proofs.YtancidbbkoeokaaGreatDoor
