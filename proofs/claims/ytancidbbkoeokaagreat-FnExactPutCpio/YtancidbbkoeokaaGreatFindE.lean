/- Contracts of spec.Find and impl.Find. -/
import Derived.Test.YtancidbbkoeokaaGreatEntL
namespace Go.Proofs.YtancidbbkoeokaaGreat
open Go.ChangeShapes Go.WideShapes Go.ChangeAt Go.RowKit Go.Deep

/-- The place of the first entry with a path, among the entries from i on; or none. -/
def findFrom (L : List Ent) (p : ByteArray) (i : Nat) : Int :=
  match L with
  | [] => -1
  | e :: L => if e.path = p then i else findFrom L p (i + 1)
def findv (L : List Ent) (p : ByteArray) : Int := findFrom L p 0
theorem findFrom_drop (L : List Ent) (p : ByteArray) (i : Nat) {e : Ent} (h : L[i]? = some e) : findFrom (L.drop i) p i = if e.path = p then (i : Int) else findFrom (L.drop (i + 1)) p (i + 1) := by
  have hlt : i < L.length := (List.getElem?_eq_some_iff.1 h).1
  rw [List.drop_eq_getElem_cons hlt, (List.getElem?_eq_some_iff.1 h).2, findFrom]
theorem findFrom_end (L : List Ent) (p : ByteArray) (i : Nat) (h : L.length ≤ i) : findFrom (L.drop i) p i = -1 := by
  rw [List.drop_eq_nil_of_le h, findFrom]
theorem getE' {L : List Ent} {i : Nat} (h : i < L.length) : ∃ e, L[i]? = some e := ⟨L[i], List.getElem?_eq_getElem h⟩
theorem baE_eq {a b : ByteArray} (h : a = b) : (a.toList == b.toList) = true := by rw [h]; simp
theorem baE_ne {a b : ByteArray} (h : ¬ a = b) : (a.toList == b.toList) = false := by
  simp only [beq_eq_false_iff_ne, ne_eq]
  intro e
  apply h
  obtain ⟨⟨x⟩⟩ := a
  obtain ⟨⟨y⟩⟩ := b
  simpa using e

theorem find_spec (L : List Ent) (p : ByteArray) (n g cap : Nat) (w : World) (hn : n = L.length) (hm : n ≤ 4194304) (hg : g < w.heap.size) (h1 : RowE w g L) :
    Calls Tryz.prog 31 #[.slice (some ⟨g, 0, none⟩) n cap, .string p] w fun e w' => e = .returned (.int .i64 (findv L p)) ∧ Below w.heap.size w w' := by
  have H1 := Lib.hid h1
  have HG : Hid (∀ i, i < n → ∃ e, L[i]? = some e) := Lib.hid (fun i hi => getE' (by omega))
  have HE : Hid (∀ i, n ≤ i → findFrom (L.drop i) p i = -1) := Lib.hid (fun i hi => findFrom_end L p i (by omega))
  have HD : Hid (findv L p = findFrom (L.drop 0) p 0) := Lib.hid rfl
  generalize findv L p = r at HD
  clear h1 hn
  go_enter Tryz.func31, Tryz.ntmps31
  go_wp2_with fail
  go_loopw [5] (fun u wr => ∃ i : Nat, u = .int .i64 i ∧ i ≤ n ∧ r = findFrom (L.drop i) p i ∧ Below w.heap.size w wr) (fun u _ => n - (intOf u).toNat)
  case atStart => exact ⟨0, rfl, Nat.zero_le _, HD.out, Below.refl _ _⟩
  case round =>
    obtain ⟨i, rfl, hi, hr, hb⟩ := hrel
    have HR := Lib.hid hr
    have B := Lib.hid hb
    clear hr hb
    by_cases hlt : i < n
    · have hlt2 : (i : Int) < (n : Int) := by omega
      obtain ⟨e, he⟩ := HG.out i hlt
      have HN := Lib.hid (findFrom_drop L p i he)
      obtain ⟨c0, c1, c2, c3, c4, c5, c6, c7, c8, c9⟩ := (H1.out.below B.out hg).ten he
      clear he c0 c2 c3 c4 c5 c6 c7 c8 c9
      obtain ⟨k, q, l, m, u, g0, t, us, gr, b⟩ := e
      by_cases hq : q = p
      · have hq2 := baE_eq hq
        have HF : Hid (r = i) := Lib.hid (by rw [HR.out, HN.out, if_pos hq])
        clear hq HN HR
        go_wp2_with fail
        go_ret
        exact ⟨ret_int HF.out.symm, B.out⟩
      · have hq2 := baE_ne hq
        have HF : Hid (r = findFrom (L.drop (i + 1)) p (i + 1)) := Lib.hid (by rw [HR.out, HN.out, if_neg hq])
        clear hq HN HR
        go_wp2_with fail
        go_roundw
        case rel => exact ⟨i + 1, by go_num, by omega, HF.out, B.out⟩
        case measure => simp [intOf]; omega
    · have hlt2 : ¬ (i : Int) < (n : Int) := by omega
      have HF : Hid (r = -1) := Lib.hid (by rw [HR.out, HE.out i (by omega)])
      go_wp2_with fail
      go_ret
      exact ⟨ret_int HF.out.symm, B.out⟩
end Go.Proofs.YtancidbbkoeokaaGreat
