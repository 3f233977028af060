/- Contracts of laws.toEntry and laws.szEntry. -/
import Derived.Test.YtancidbbkoeokaaGreatEnt
import Derived.Test.YtancidbbkoeokaaGreatCom
import Derived.Lib.Hide
namespace Go.Proofs.YtancidbbkoeokaaGreat
open Go.ChangeShapes Go.WideShapes Go.ChangeAt Go.RowKit

theorem toEntry_any (k : Int) (p l : ByteArray) (m u g t : Int) (us gr b : ByteArray) (w : World) :
    Calls Tryz.prog 20 #[.agg #[.int .i64 k, .string p, .string l, .int .i64 m, .int .i64 u, .int .i64 g, .int .i64 t, .string us, .string gr, .string b]] w fun e w' => e = .returned (.agg #[.int .i64 k, .string p, .string l, .int .i64 m, .int .i64 u, .int .i64 g, .int .i64 t, .string us, .string gr, .string b]) ∧ Below w.heap.size w w' := by
  go_enter Tryz.func20, Tryz.ntmps20
  go_wp2_with fail
  exact bodyPost_ret (v := .agg #[.int .i64 k, .string p, .string l, .int .i64 m, .int .i64 u, .int .i64 g, .int .i64 t, .string us, .string gr, .string b]) (by simp [results, Tryz.results20, go_sem]) rfl ⟨rfl, (((Below.refl _ w).alloc (Nat.le_refl _) _).alloc (by simp) _).alloc (by simp; omega) _⟩

/-- What is left of a bound behind an entry's texts, or -1. -/
def szv (p l us gr b : ByteArray) (left : Int) : Int := if left < (p.size : Int) + l.size + us.size + gr.size + b.size then -1 else left - ((p.size : Int) + l.size + us.size + gr.size + b.size)
theorem szEntry_any (k : Int) (p l : ByteArray) (m u g t : Int) (us gr b : ByteArray) (left : Int) (w : World) (hp : p.size ≤ maxLen) (hl : l.size ≤ maxLen) (hus : us.size ≤ maxLen) (hgr : gr.size ≤ maxLen) (hb : b.size ≤ maxLen) (h0 : 0 ≤ left) (h1 : left ≤ 1048576) :
    Calls Tryz.prog 14 #[.agg #[.int .i64 k, .string p, .string l, .int .i64 m, .int .i64 u, .int .i64 g, .int .i64 t, .string us, .string gr, .string b], .int .i64 left] w fun e w' => e = .returned (.int .i64 (szv p l us gr b left)) ∧ Below w.heap.size w w' := by
  simp only [maxLen] at hp hl hus hgr hb
  have HE : Hid (szv p l us gr b left = if left < (p.size : Int) + l.size + us.size + gr.size + b.size then -1 else left - ((p.size : Int) + l.size + us.size + gr.size + b.size)) := Lib.hid rfl
  generalize szv p l us gr b left = r at HE
  by_cases q1 : left - (p.size : Int) < 0
  · have HF : Hid (r = -1) := Lib.hid (by rw [HE.out, if_pos (by omega)])
    clear HE
    go_enter Tryz.func14, Tryz.ntmps14
    go_wp2_with fail
    go_ret
    exact ⟨ret_int HF.out.symm, (Below.refl _ w).alloc (Nat.le_refl _) _⟩
  · by_cases q2 : left - (p.size : Int) - l.size < 0
    · have HF : Hid (r = -1) := Lib.hid (by rw [HE.out, if_pos (by omega)])
      clear HE
      go_enter Tryz.func14, Tryz.ntmps14
      go_wp2_with fail
      go_ret
      exact ⟨ret_int HF.out.symm, (Below.refl _ w).alloc (Nat.le_refl _) _⟩
    · by_cases q3 : left - (p.size : Int) - l.size - us.size < 0
      · have HF : Hid (r = -1) := Lib.hid (by rw [HE.out, if_pos (by omega)])
        clear HE
        go_enter Tryz.func14, Tryz.ntmps14
        go_wp2_with fail
        go_ret
        exact ⟨ret_int HF.out.symm, (Below.refl _ w).alloc (Nat.le_refl _) _⟩
      · by_cases q4 : left - (p.size : Int) - l.size - us.size - gr.size < 0
        · have HF : Hid (r = -1) := Lib.hid (by rw [HE.out, if_pos (by omega)])
          clear HE
          go_enter Tryz.func14, Tryz.ntmps14
          go_wp2_with fail
          go_ret
          exact ⟨ret_int HF.out.symm, (Below.refl _ w).alloc (Nat.le_refl _) _⟩
        · by_cases q5 : left - (p.size : Int) - l.size - us.size - gr.size - b.size < 0
          · have HF : Hid (r = -1) := Lib.hid (by rw [HE.out, if_pos (by omega)])
            clear HE
            go_enter Tryz.func14, Tryz.ntmps14
            go_wp2_with fail
            go_ret
            exact ⟨ret_int HF.out.symm, (Below.refl _ w).alloc (Nat.le_refl _) _⟩
          · have HF : Hid (r = left - (p.size : Int) - l.size - us.size - gr.size - b.size) := Lib.hid (by rw [HE.out, if_neg (by omega)]; omega)
            clear HE
            go_enter Tryz.func14, Tryz.ntmps14
            go_wp2_with fail
            go_ret
            exact ⟨ret_int HF.out.symm, (Below.refl _ w).alloc (Nat.le_refl _) _⟩
end Go.Proofs.YtancidbbkoeokaaGreat
