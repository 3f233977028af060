/- Contract of impl.Find (slices.IndexFunc with a function that holds the path). -/
import Derived.Test.YtpimeekcnndhiaaFindE
import Derived.Test.YtpimeekcnndhiaaEntAt
import Derived.Shelf.Abstract
namespace Go.Proofs.Ytpimeekcnndhiaa
open Go.ChangeShapes Go.WideShapes Go.ChangeAt Go.RowKit Go.Deep Go.Shelf

theorem findPred (k : Int) (q l : ByteArray) (m u g t : Int) (us gr b : ByteArray) (p : ByteArray) (B : Nat) (w : World) (hB : B < w.heap.size) (hc : w.cell? ⟨B, 0, none⟩ = some (.string p)) :
    Calls Try.prog 68 #[.agg #[.int .i64 k, .string q, .string l, .int .i64 m, .int .i64 u, .int .i64 g, .int .i64 t, .string us, .string gr, .string b], .pointer (some ⟨B, 0, none⟩)] w fun e w' => e = .returned (.bool (q.toList == p.toList)) ∧ Below w.heap.size w w' := by
  have hne : B ≠ w.heap.size := by omega
  go_enter Try.func68, Try.ntmps68
  go_wp2
  all_goals (go_ret; exact ⟨by simp_all, (Below.refl _ w).alloc (Nat.le_refl _) _⟩)
theorem findIndex (L : List Ent) (p : ByteArray) (n g cap B : Nat) (w : World) (hn : n = L.length) (hm : n ≤ 4194304) (hg : g < w.heap.size) (h1 : RowE w g L) (hB : B < w.heap.size) (hc : w.cell? ⟨B, 0, none⟩ = some (.string p)) :
    Calls Try.prog 67 #[.slice (some ⟨g, 0, none⟩) n cap, .func (.func 68) #[] #[.pointer (some ⟨B, 0, none⟩)]] w fun e w' => e = .returned (.int .i64 (findv L p)) ∧ Below w.heap.size w w' := by
  have H1 := Lib.hid h1
  have HC := Lib.hid hc
  have HP := Lib.hid (fun k q l m u g t us gr b w hB hc => findPred k q l m u g t us gr b p B w hB hc)
  have HG : Hid (∀ i, i < n → ∃ e, L[i]? = some e) := Lib.hid (fun i hi => getE' (by omega))
  have HE : Hid (∀ i, n ≤ i → findFrom (L.drop i) p i = -1) := Lib.hid (fun i hi => findFrom_end L p i (by omega))
  have HD : Hid (findv L p = findFrom (L.drop 0) p 0) := Lib.hid rfl
  have eg : ∀ args w, (callFunc 68 args).run Try.prog w = .ok (.enter 68 args) w := enters_of Try.func68 (by kernel_rfl) rfl
  generalize findv L p = r at HD
  clear h1 hn hc
  go_enter Try.func67, Try.ntmps67
  go_wp2_with fail
  go_loopw [5, 8] (fun _ u wr => ∃ i : Nat, u = .int .i64 i ∧ i ≤ n ∧ r = findFrom (L.drop i) p i ∧ Below w.heap.size w wr) (fun _ u _ => n - (intOf u).toNat)
  case atStart => exact ⟨0, rfl, Nat.zero_le _, HD.out, Below.refl _ _⟩
  case round =>
    obtain ⟨i, rfl, hi, hr, hb⟩ := hrel
    have HR := Lib.hid hr
    have B := Lib.hid hb
    clear hr hb
    by_cases hlt : i < n
    · have hlt2 : (i : Int) < (n : Int) := by omega
      obtain ⟨e, he⟩ := HG.out i hlt
      have HN := Lib.hid (findFrom_drop L p i he)
      obtain ⟨c0, c1, c2, c3, c4, c5, c6, c7, c8, c9⟩ := (H1.out.below B.out hg).ten he
      clear he
      obtain ⟨k, q, l, m, u, g0, t, us, gr, b⟩ := e
      have hcall := HP.out k q l m u g0 t us gr b wr (Nat.lt_of_lt_of_le hB B.out.size) ((B.out.cell (p := ⟨_, 0, none⟩) hB).trans HC.out)
      by_cases hq : q = p
      · rw [baE_eq hq] at hcall
        have HF : Hid (r = i) := Lib.hid (by rw [HR.out, HN.out, if_pos hq])
        clear hq HN HR
        go_wp2_with (go_at_fn 68; refine hcall.mono ?_; rintro e w' ⟨rfl, hb'⟩)
        go_ret
        exact ⟨ret_int HF.out.symm, btE B.out hb'⟩
      · rw [baE_ne hq] at hcall
        have HF : Hid (r = findFrom (L.drop (i + 1)) p (i + 1)) := Lib.hid (by rw [HR.out, HN.out, if_neg hq])
        clear hq HN HR
        go_wp2_with (go_at_fn 68; refine hcall.mono ?_; rintro e w' ⟨rfl, hb'⟩)
        go_roundw
        case rel => exact ⟨i + 1, by go_num, by omega, HF.out, btE B.out hb'⟩
        case measure => simp [intOf]; omega
    · have hlt2 : ¬ (i : Int) < (n : Int) := by omega
      have HF : Hid (r = -1) := Lib.hid (by rw [HR.out, HE.out i (by omega)])
      go_wp2_with fail
      go_ret
      exact ⟨ret_int HF.out.symm, B.out⟩
theorem find_impl (L : List Ent) (p : ByteArray) (n g cap : Nat) (w : World) (hn : n = L.length) (hm : n ≤ 4194304) (hg : g < w.heap.size) (h1 : RowE w g L) :
    Calls Try.prog 51 #[.slice (some ⟨g, 0, none⟩) n cap, .string p] w fun e w' => e = .returned (.int .i64 (findv L p)) ∧ Below w.heap.size w w' := by
  have b0 : Below w.heap.size w (w.alloc (.cells #[.string p] 9)) := (Below.refl _ w).alloc (Nat.le_refl _) _
  have hcon := findIndex L p n g cap w.heap.size (w.alloc (.cells #[.string p] 9)) hn hm (by simp; omega) (h1.below b0 hg) (by simp) (by simp)
  have B0 := Lib.hid b0
  clear h1 hn b0
  generalize findv L p = r at hcon
  go_enter Try.func51, Try.ntmps51
  go_wp2_with (go_at_call 67; refine hcon.mono ?_; rintro e w' ⟨rfl, hb'⟩)
  go_ret
  exact ⟨rfl, btE B0.out hb'⟩
end Go.Proofs.Ytpimeekcnndhiaa
