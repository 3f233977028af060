/- Contracts of spec.Strip and impl.Strip. -/
import Derived.Test.YthembgllkfgknaaJoin
import Derived.Test.YthembgllkfgknaaDepth
import Derived.Test.YthembgllkfgknaaPartsI
namespace Go.Proofs.Ythembgllkfgknaa
open Go.RowKit Go.Shelf

def stripv (s : ByteArray) (n : Int) : ByteArray := if pathOkv s = true ∧ (0 ≤ n ∧ n ≤ 20) ∧ n < ((partsv s).length : Int) then joinv ((partsv s).drop n.toNat) else ⟨#[]⟩
theorem rowOf_drop (L : List ByteArray) (m i : Nat) : rowOf (L.drop m) i = rowOf L (m + i) := by
  simp [rowOf, List.getD, List.getElem?_drop]
theorem RowF.drop {w : World} {g : Nat} {L : List ByteArray} (h : RowF w g L.length (rowOf L)) (m : Nat) : RowO w g m (L.drop m).length (rowOf (L.drop m)) := by
  intro i hi
  rw [rowOf_drop]
  exact h (m + i) (by simp at hi; omega)
theorem totB_drop (L : List ByteArray) (k : Nat) : totB (L.drop k) ≤ totB L := by
  induction L generalizing k with
  | nil => simp [totB]
  | cons a r ih =>
    cases k with
    | zero => simp
    | succ k =>
      have := ih k
      simp only [totB, List.drop_succ_cons, List.map_cons, List.sum_cons] at this ⊢
      omega

theorem strip_spec (s : ByteArray) (n : Int) (w : World) (hs : s.size ≤ 4194304) :
    Calls Try.prog 13 #[.string s, .int .i64 n] w fun e w' => e = .returned (.string (stripv s n)) ∧ Below w.heap.size w w' := by
  have H1 := Lib.hid (fun w => pathOk_spec s w (by omega))
  have H2 := Lib.hid (fun w => parts_spec s w (by omega))
  have HU : Hid (stripv s n = if pathOkv s = true ∧ (0 ≤ n ∧ n ≤ 20) ∧ n < ((partsv s).length : Int) then joinv ((partsv s).drop n.toNat) else ⟨#[]⟩) := Lib.hid rfl
  have HT := Lib.hid (totB_parts s)
  have hle := partsv_le s
  generalize pathOkv s = b at H1 HU
  generalize partsv s = L at H2 HU HT hle
  generalize stripv s n = r at HU
  cases b with
  | false =>
    have HE : Hid (r = ⟨#[]⟩) := Lib.hid (by rw [HU.out, if_neg (by simp)])
    go_enter Try.func13, Try.ntmps13
    go_wp2_with fail
    refine (H2.out _).mono ?_
    rintro e w1 ⟨v, rfl, ⟨ho1, g1, cap1, rfl⟩, hb1⟩
    go_wp2_with fail
    refine (H1.out _).mono ?_
    rintro e w2 ⟨rfl, hb2⟩
    go_wp2_with fail
    go_ret
    exact ⟨ret_str HE.out.symm, hb1.trans (hb2.mono hb1.size)⟩
  | true =>
    by_cases d1 : 0 ≤ n ∧ n ≤ 20
    · have hi := inB_t d1
      have Ha := Lib.hid (fun w => in_any n 0 20 w)
      rw [hi] at Ha
      clear hi
      by_cases d2 : n < (L.length : Int)
      · obtain ⟨m, rfl⟩ := Int.eq_ofNat_of_zero_le d1.1
        have HE : Hid (r = joinv (L.drop m)) := Lib.hid (by rw [HU.out, if_pos ⟨rfl, d1, d2⟩]; rfl)
        have HL : Hid ((L.drop m).length = L.length - m) := Lib.hid (by simp)
        have hml : m ≤ L.length := by omega
        clear HU
        go_enter Try.func13, Try.ntmps13
        go_wp2_with fail
        refine (H2.out _).mono ?_
        rintro e w1 ⟨v, rfl, ⟨ho1, g1, cap1, rfl⟩, hb1⟩
        have R1 := Lib.hid (OwnT.rowF ho1)
        have l1 := (World.ownsRow.lt ho1 g1 rfl).2
        have hcap : L.length ≤ cap1 := by
          rcases ho1.2 with ⟨h', _⟩ | ⟨g', cap', cur, h', _, _, hc, _⟩
          · simp at h'
          · simp at h'; omega
        have B1 := Lib.hid hb1
        clear ho1 hb1
        go_wp2_with fail
        refine (H1.out _).mono ?_
        rintro e w2 ⟨rfl, hb2⟩
        have R2 := Lib.hid ((R1.out.below hb2 l1).drop m)
        have B2 := Lib.hid (B1.out.trans (hb2.mono B1.out.size))
        clear hb2 B1 R1
        go_wp2_with fail
        refine (Ha.out _).mono ?_
        rintro e w3 ⟨rfl, rfl⟩
        go_wp2_with fail
        rw [← HL.out]
        refine (join_spec (L.drop m) g1 m _ _ (by have := totB_drop L m; have := HT.out; omega) R2.out).mono ?_
        rintro e w4 ⟨rfl, rfl⟩
        go_wp2_with fail
        go_ret
        exact ⟨ret_str HE.out.symm, B2.out⟩
      · have HE : Hid (r = ⟨#[]⟩) := Lib.hid (by rw [HU.out, if_neg (fun h => d2 h.2.2)])
        clear HU
        go_enter Try.func13, Try.ntmps13
        go_wp2_with fail
        refine (H2.out _).mono ?_
        rintro e w1 ⟨v, rfl, ⟨ho1, g1, cap1, rfl⟩, hb1⟩
        go_wp2_with fail
        refine (H1.out _).mono ?_
        rintro e w2 ⟨rfl, hb2⟩
        go_wp2_with fail
        refine (Ha.out _).mono ?_
        rintro e w3 ⟨rfl, rfl⟩
        go_wp2_with fail
        go_ret
        exact ⟨ret_str HE.out.symm, hb1.trans (hb2.mono hb1.size)⟩
    · have hi := inB_f d1
      have Ha := Lib.hid (fun w => in_any n 0 20 w)
      rw [hi] at Ha
      have HE : Hid (r = ⟨#[]⟩) := Lib.hid (by rw [HU.out, if_neg (fun h => d1 h.2.1)])
      clear HU hi d1
      go_enter Try.func13, Try.ntmps13
      go_wp2_with fail
      refine (H2.out _).mono ?_
      rintro e w1 ⟨v, rfl, ⟨ho1, g1, cap1, rfl⟩, hb1⟩
      go_wp2_with fail
      refine (H1.out _).mono ?_
      rintro e w2 ⟨rfl, hb2⟩
      go_wp2_with fail
      refine (Ha.out _).mono ?_
      rintro e w3 ⟨rfl, rfl⟩
      go_wp2_with fail
      go_ret
      exact ⟨ret_str HE.out.symm, hb1.trans (hb2.mono hb1.size)⟩

theorem strip_impl (s : ByteArray) (n : Int) (w : World) (hs : s.size ≤ 4194304) :
    Calls Try.prog 9 #[.string s, .int .i64 n] w fun e w' => e = .returned (.string (stripv s n)) ∧ Below w.heap.size w w' := by
  have H1 := Lib.hid (fun w => depth_impl s w (by omega))
  have H2 := Lib.hid (fun w => parts_impl s w (by omega))
  have HD : Hid (depthv s = if pathOkv s = true then ((partsv s).length : Int) else 0) := Lib.hid (by rw [depthv])
  have HU : Hid (stripv s n = if pathOkv s = true ∧ (0 ≤ n ∧ n ≤ 20) ∧ n < ((partsv s).length : Int) then joinv ((partsv s).drop n.toNat) else ⟨#[]⟩) := Lib.hid rfl
  have HT := Lib.hid (totB_parts s)
  have hle := partsv_le s
  generalize depthv s = d at H1 HD
  generalize pathOkv s = b at HU HD
  generalize partsv s = L at H2 HU HT hle HD
  generalize stripv s n = r at HU
  by_cases d1 : 0 ≤ n ∧ n ≤ 20
  · by_cases d2 : n < d
    · have hb : b = true ∧ n < (L.length : Int) ∧ d = (L.length : Int) := by
        have := HD.out
        cases b with
        | true => simp at this; exact ⟨rfl, by omega, this⟩
        | false => simp at this; omega
      obtain ⟨m, rfl⟩ := Int.eq_ofNat_of_zero_le d1.1
      have HE : Hid (r = joinv (L.drop m)) := Lib.hid (by rw [HU.out, if_pos ⟨hb.1, d1, hb.2.1⟩]; rfl)
      have HL : Hid ((L.drop m).length = L.length - m) := Lib.hid (by simp)
      have hml : m < L.length := by omega
      clear HU HD hb
      go_enter Try.func9, Try.ntmps9
      go_wp2_with fail
      refine (H1.out _).mono ?_
      rintro e w1 ⟨rfl, hb1⟩
      have B1 := Lib.hid hb1
      clear hb1
      go_wp2_with fail
      refine (H2.out _).mono ?_
      rintro e w2 ⟨v, rfl, ⟨ho1, g1, cap1, rfl⟩, hb2⟩
      have R1 := Lib.hid ((OwnT.rowF ho1).drop m)
      have l1 := (World.ownsRow.lt ho1 g1 rfl).2
      have hcap : L.length ≤ cap1 := by
        rcases ho1.2 with ⟨h', _⟩ | ⟨g', cap', cur, h', _, _, hc, _⟩
        · simp at h'
        · simp at h'; omega
      have B2 := Lib.hid (B1.out.trans (hb2.mono B1.out.size))
      clear ho1 hb2
      go_wp2_with fail
      rw [← HL.out]
      refine (join_impl (L.drop m) g1 m _ _ l1 (by have := totB_drop L m; have := HT.out; omega) R1.out).mono ?_
      rintro e w4 ⟨rfl, hb4⟩
      go_wp2_with fail
      go_ret
      exact ⟨ret_str HE.out.symm, B2.out.trans (hb4.mono B2.out.size)⟩
    · have HE : Hid (r = ⟨#[]⟩) := Lib.hid (by
        rw [HU.out, if_neg]
        rintro ⟨h1, _, h2⟩
        have := HD.out
        rw [if_pos h1] at this
        omega)
      clear HU HD
      go_enter Try.func9, Try.ntmps9
      go_wp2_with fail
      refine (H1.out _).mono ?_
      rintro e w1 ⟨rfl, hb1⟩
      go_wp2_with fail
      go_ret
      exact ⟨ret_str HE.out.symm, hb1⟩
  · have HE : Hid (r = ⟨#[]⟩) := Lib.hid (by rw [HU.out, if_neg (fun h => d1 h.2.1)])
    clear HU HD
    by_cases d3 : n < 0
    · go_enter Try.func9, Try.ntmps9
      go_wp2_with fail
      go_ret
      exact ⟨ret_str HE.out.symm, Below.refl _ _⟩
    · have d4 : 20 < n := by omega
      go_enter Try.func9, Try.ntmps9
      go_wp2_with fail
      go_ret
      exact ⟨ret_str HE.out.symm, Below.refl _ _⟩
end Go.Proofs.Ythembgllkfgknaa
