/- The tables that strconv reads, carried from world to world; strconv.FormatInt at the bases 8, 10 and 16; impl.fieldDigits and impl.zeros. -/
import Derived.Test.YtcnmbolmgifgfaaDoorPutBase
import Derived.Test.YtcnmbolmgifgfaaDoorFmtInt
import Derived.Test.YtcnmbolmgifgfaaDoorDecText
namespace Go.Proofs.YtcnmbolmgifgfaaDoor
open Go.ChangeShapes Go.WideShapes Go.ChangeAt Go.RowKit

/-- What the walks ask of the library's tables. -/
def Tabs (w : World) : Prop := w.cell? ⟨3, 7, none⟩ = some (.int .u8 3) ∧ w.cell? ⟨3, 15, none⟩ = some (.int .u8 4) ∧ Lib.TabIs Tryd.prog w "internal/strconv.uint64pow10" .u64 Lib.pow10Tab
theorem Tabs.below {w w' : World} (h : Tabs w) (hb : Below w.heap.size w w') : Tabs w' :=
  ⟨(hb.cell (p := ⟨3, 7, none⟩) (tab_lt h.1)).trans h.1, (hb.cell (p := ⟨3, 15, none⟩) (tab_lt h.1)).trans h.2.1, Lib.tabBelow_of_tabIs h.2.2 w' hb⟩

theorem fmtInt_8 (n : Int) (w : World) (h0 : 0 ≤ n) (h1 : n ≤ 9007199254740991) (ht : Tabs w) :
    Calls Tryd.prog 25 #[.int .i64 n, .int .i64 8] w fun e w' => e = .returned (.string (numv 8 n)) ∧ Below w.heap.size w w' := fmt_8 n w h0 h1 ht.1
theorem fmtInt_16 (n : Int) (w : World) (h0 : 0 ≤ n) (h1 : n ≤ 9007199254740991) (ht : Tabs w) :
    Calls Tryd.prog 25 #[.int .i64 n, .int .i64 16] w fun e w' => e = .returned (.string (numv 16 n)) ∧ Below w.heap.size w w' := fmt_16 n w h0 h1 ht.2.1
theorem fmtInt_10 (n : Int) (w : World) (h0 : 0 ≤ n) (h1 : n ≤ 9007199254740991) (ht : Tabs w) :
    Calls Tryd.prog 25 #[.int .i64 n, .int .i64 10] w fun e w' => e = .returned (.string (numv 10 n)) ∧ Below w.heap.size w w' := by
  refine (Tryd.strconv_FormatInt_10 n (by omega) (by omega) w ht.2.2).mono ?_
  rintro e w' ⟨rfl, k, os, rfl⟩
  refine ⟨?_, below_grow _ _ _⟩
  rw [itoa_eq, decText, if_neg (by omega)]; rfl

theorem numv_size (b : Nat) (n : Int) : (numv b n).size = (numeral b n.toNat).length := ba_size _
def Valid (n width : Int) : Prop := 0 ≤ n ∧ n ≤ 9007199254740991 ∧ 1 ≤ width ∧ width ≤ 20

theorem zeros_any (l : List UInt8) (width : Int) (w : World) (h : (l.length : Int) ≤ width) (hw : width ≤ 40) :
    Calls Tryd.prog 24 #[.string ⟨l.toArray⟩, .int .i64 width] w fun e w' => e = .returned (.string ⟨(ahead l width).toArray⟩) ∧ Below w.heap.size w w' := by
  obtain ⟨k, hk⟩ := Int.eq_ofNat_of_zero_le (show 0 ≤ width - (l.length : Int) by omega)
  obtain rfl : width = (l.length : Int) + k := by omega
  have hl : l.length ≤ 40 := by omega
  have hk2 : k ≤ 40 := by omega
  have hr : (List.replicate k (48 : UInt8)).length ≤ 40 := by simpa using hk2
  have HC := Lib.hid (repeat_one 48 k w (by omega))
  generalize hR : List.replicate k (48 : UInt8) = R at HC hr
  have HR := Lib.hid hR
  clear hk hR
  go_enter Tryd.func24, Tryd.ntmps24
  go_wp2_with fail
  rw [show (l.length : Int) + k - l.length = (k : Int) from by omega]
  refine HC.out.mono ?_
  rintro e w' ⟨rfl, hb⟩
  go_wp2_with fail
  go_ret
  refine ⟨ret_str ?_, hb⟩
  rw [ba_app, ahead, show ((l.length : Int) + k).toNat - l.length = k from by omega, HR.out]
end Go.Proofs.YtcnmbolmgifgfaaDoor
