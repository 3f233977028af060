/- A row of texts that came in: laws.szStringS counts it, laws.toStringS copies it. -/
import Derived.Test.YtifkgihhdmmhdaaJMath
namespace Go.Proofs.Ytifkgihhdmmhdaa
open Go.ChangeShapes Go.WideShapes Go.ChangeAt Go.RowKit

/-- The slice at a of len texts holds the texts L. -/
def ArgS (w : World) (a : Option Addr) (len : Nat) (L : List ByteArray) : Prop :=
  L.length = len ∧ ∀ k, k < len → ∃ b off, a = some ⟨b, off, none⟩ ∧ b < w.heap.size ∧ w.cell? ⟨b, off + k, none⟩ = some (.string (rowOf L k))
theorem ArgS.below {w w' : World} {a : Option Addr} {len : Nat} {L : List ByteArray} (h : ArgS w a len L) (hb : Below w.heap.size w w') : ArgS w' a len L :=
  ⟨h.1, fun k hk => by
    obtain ⟨b, off, ha, hl, hc⟩ := h.2 k hk
    exact ⟨b, off, ha, Nat.lt_of_lt_of_le hl hb.size, (hb.cell (p := ⟨b, off + k, none⟩) hl).trans hc⟩⟩
theorem ArgS.of {w : World} {a : Option Addr} {len cap : Nat} {ss : List ByteArray}
    (h : (a = none ∧ len = 0 ∧ cap = 0 ∧ ss = []) ∨ ∃ x, a = some x ∧ len ≤ cap ∧ cap ≤ maxLen ∧ ss.length = cap ∧ (∀ i, i < ss.length → w.cell? (x.add i) = some (.string (ss.getD i ByteArray.empty))) ∧ ∀ s ∈ ss, s.size ≤ maxLen) :
    ArgS w a len (ss.take len) ∧ len ≤ maxLen ∧ ∀ x ∈ ss.take len, x.size ≤ maxLen := by
  rcases h with ⟨rfl, rfl, rfl, rfl⟩ | ⟨x, rfl, hlc, hm, hz, hcell, hwf⟩
  · exact ⟨⟨rfl, fun k hk => by omega⟩, Nat.zero_le _, fun x hx => by simp at hx⟩
  · refine ⟨⟨by simp; omega, fun k hk => ?_⟩, by omega, fun x hx => hwf x (List.mem_of_mem_take hx)⟩
    obtain ⟨b, off, spot⟩ := x
    have hc := hcell k (by omega)
    have hspot : spot = none := by simpa [Addr.add] using World.cell?_spot (hcell 0 (by omega))
    subst hspot
    have e : (⟨b, off, none⟩ : Addr).add k = ⟨b, off + k, none⟩ := by unfold Addr.add; split <;> simp_all
    rw [e] at hc
    refine ⟨b, off, rfl, ?_, ?_⟩
    · rcases Nat.lt_or_ge b w.heap.size with h' | h'
      · exact h'
      · have e2 : w.heap[b]? = none := Array.getElem?_eq_none h'
        simp [World.cell?, e2] at hc
    · rw [hc]
      have h1 : k < ss.length := by omega
      have h2 : k < (ss.take len).length := by simp; omega
      simp [rowOf, List.getD, List.getElem?_eq_getElem h1, List.getElem?_eq_getElem h2]

def szL (L : List ByteArray) (left : Int) : Int := if (totB L : Int) ≤ left then left - totB L else -1
def sumTo (L : List ByteArray) (k : Nat) : Nat := ((L.take k).map fun x => x.size).sum
theorem sumTo_zero (L : List ByteArray) : sumTo L 0 = 0 := by simp [sumTo]
theorem sumTo_succ {L : List ByteArray} {k : Nat} (h : k < L.length) : sumTo L (k + 1) = sumTo L k + (rowOf L k).size := by
  rw [sumTo, take_rowOf h]; simp [sumTo]
theorem totB_sum (L : List ByteArray) : totB L = L.length + (L.map fun x => x.size).sum := by
  induction L with
  | nil => simp [totB]
  | cons a r ih => simp only [totB, List.map_cons, List.sum_cons, List.length_cons] at ih ⊢; omega
theorem sum_take_le (l : List Nat) (k : Nat) : (l.take k).sum ≤ l.sum := by
  induction l generalizing k with
  | nil => simp
  | cons a r ih =>
    cases k with
    | zero => simp
    | succ k => have := ih k; simp only [List.take_succ_cons, List.sum_cons]; omega
theorem sumTo_le (L : List ByteArray) (k : Nat) : L.length + sumTo L k ≤ totB L := by
  rw [totB_sum, sumTo, List.map_take]
  have := sum_take_le (L.map fun x => x.size) k
  omega
theorem sumTo_all (L : List ByteArray) : L.length + sumTo L L.length = totB L := by
  rw [totB_sum, sumTo, List.take_length]

theorem szS_any (L : List ByteArray) (a : Option Addr) (len cap : Nat) (left : Int) (w : World) (h : ArgS w a len L) (hl : len ≤ maxLen) (hz : ∀ x ∈ L, x.size ≤ maxLen) (h0 : 0 ≤ left) (h1 : left ≤ 1048576) :
    Calls Try.prog 24 #[.slice a len cap, .int .i64 left] w fun e w' => e = .returned (.int .i64 (szL L left)) ∧ w = w' := by
  have HA := Lib.hid h.2
  have HZ := Lib.hid hz
  obtain rfl := h.1
  have hm : (L.length : Int) ≤ 9223372036854775807 := by simp only [maxLen] at hl; omega
  have S0 := Lib.hid (sumTo_zero L)
  have S1 := Lib.hid (fun k (h : k < L.length) => sumTo_succ h)
  have S2 := Lib.hid (sumTo_all L)
  have S3 := Lib.hid (fun k => sumTo_le L k)
  have HB := Lib.hid (fun (k : Nat) (h : k < L.length) => rowOf_in h)
  clear h hz hl
  by_cases hneg : left - (L.length : Int) < 0
  · have HR : Hid (szL L left = -1) := Lib.hid (by rw [szL, if_neg]; have := S2.out; omega)
    go_enter Try.func24, Try.ntmps24
    go_wp2
    go_ret
    exact ⟨ret_int HR.out.symm, rfl⟩
  · go_enter Try.func24, Try.ntmps24
    go_wp2
    go_loop [1, 5] (fun v u => ∃ (k : Nat), k ≤ L.length ∧ 0 ≤ left - (L.length : Int) - (sumTo L k : Int) ∧ v = .int .i64 (left - (L.length : Int) - (sumTo L k : Int)) ∧ u = .int .i64 k) (fun _ u => L.length - (intOf u).toNat)
    case atStart => exact ⟨0, Nat.zero_le _, by rw [S0.out]; omega, by rw [S0.out]; go_num, rfl⟩
    case round =>
      obtain ⟨k, hk, hge, rfl, rfl⟩ := hrel
      by_cases hlt : k < L.length
      · have hlt2 : (k : Int) < (L.length : Int) := by omega
        obtain ⟨b, off, rfl, hbl, hc⟩ := HA.out k hlt
        have hsz : (rowOf L k).size ≤ 9223372036854775807 := by have := HZ.out _ (HB.out k hlt); simp only [maxLen] at this; omega
        have hs1 := Lib.hid (S1.out k hlt)
        have hs3 := Lib.hid (S3.out (k + 1))
        generalize rowOf L k = x at hc hsz hs1
        by_cases hd : left - (L.length : Int) - (sumTo L k : Int) - (x.size : Int) < 0
        · have HR : Hid (szL L left = -1) := Lib.hid (by rw [szL, if_neg]; have := hs1.out; have := hs3.out; omega)
          generalize sumTo L k = t at *
          go_wp2
          go_ret
          exact ⟨ret_int HR.out.symm, rfl⟩
        · have HT : Hid (left - (L.length : Int) - (sumTo L (k + 1) : Int) = left - (L.length : Int) - (sumTo L k : Int) - (x.size : Int)) := Lib.hid (by have := hs1.out; omega)
          clear hs1 hs3
          generalize sumTo L k = t at *
          go_wp2
          go_round
          case rel => exact ⟨k + 1, by omega, by rw [HT.out]; omega, by rw [HT.out], by go_num⟩
          case measure => simp [intOf]; omega
      · obtain rfl : k = L.length := by omega
        have HR : Hid (szL L left = left - (L.length : Int) - (sumTo L L.length : Int)) := Lib.hid (by rw [szL, if_pos]; all_goals have := S2.out; omega)
        go_wp2
        go_ret
        exact ⟨ret_int HR.out.symm, rfl⟩

/-- The first k cells of ys are the texts of L. -/
def Filled (ys : List Value) (L : List ByteArray) (k : Nat) : Prop := ∀ i, i < k → ys[i]? = some (.string (rowOf L i))
theorem Filled.step {ys : List Value} {L : List ByteArray} {k : Nat} (h : Filled ys L k) (hk : k < ys.length) : Filled (ys.set k (.string (rowOf L k))) L (k + 1) := by
  intro i hi
  by_cases e : i = k
  · subst e; rw [List.getElem?_set_self hk]
  · rw [List.getElem?_set_ne (by omega)]; exact h i (by omega)
theorem Filled.all {ys : List Value} {L : List ByteArray} (h : Filled ys L L.length) (hl : ys.length = L.length) : ys = strVals L := by
  apply List.ext_getElem?
  intro i
  by_cases hi : i < L.length
  · rw [h i hi]
    simp [strVals, rowOf, List.getD, List.getElem?_eq_getElem hi]
  · rw [List.getElem?_eq_none (by omega), List.getElem?_eq_none (by simp [strVals]; omega)]

theorem toS_any (L : List ByteArray) (a : Option Addr) (len cap : Nat) (w : World) (h : ArgS w a len L) (hl : len ≤ 1048576) :
    Calls Try.prog 26 #[.slice a len cap] w fun e w' => ∃ v, e = .returned v ∧ OwnL w' w.heap.size v L ∧ Below w.heap.size w w' := by
  obtain ⟨i0, hi, hz0, hz1, hz2⟩ := info_parts Try.info9
  have HA := Lib.hid h
  have hll := h.1
  generalize hn : len = n at *
  clear hn h
  go_enter Try.func26, Try.ntmps26
  go_wp2_with (at_make; refine wpList_make_full _ rfl _ _ 23 rfl w.heap.size 9 i0 (.string ⟨#[]⟩) 1 Try.underlying23 hi hz0 hz1 .i64 .i64 (n : Int) (n : Int) n rfl rfl rfl rfl (by rw [hz2]; omega) (by simp only [maxLen]; omega) (Nat.le_refl _) ?_)
  intro w1 hown hgrow
  have O1 : Hid (OwnT w1 w.heap.size (.slice (some ⟨w.heap.size, 0, none⟩) n n) n (madeCells #[Value.string ⟨#[]⟩] n).toList) := Lib.hid hown
  have B1 : Hid (Below w.heap.size w w1) := Lib.hid ((Below.refl _ _).grown hgrow (Nat.le_refl _) (fun b hb => by cases hb))
  clear hown hgrow
  go_wp2
  go_loopw [4] (fun u wr => ∃ (k : Nat) (ys : List Value), k ≤ n ∧ u = .int .i64 k ∧ OwnT wr w.heap.size (.slice (some ⟨w.heap.size, 0, none⟩) n n) n ys ∧ Filled ys L k ∧ Below w.heap.size w wr) (fun u _ => n - (intOf u).toNat)
  case atStart => exact ⟨0, _, Nat.zero_le _, rfl, O1.out, fun i hi => by omega, B1.out⟩
  case round =>
    obtain ⟨k, ys, hk, rfl, ho, hf, hb⟩ := hrel
    have HO := Lib.hid ho
    have HF := Lib.hid hf
    have HB := Lib.hid hb
    have hys : ys.length = n := by have := ho.1; omega
    clear ho hf hb
    by_cases hlt : k < n
    · have hlt2 : (k : Int) < (n : Int) := by omega
      obtain ⟨b, off, rfl, hbl, hc⟩ := (HA.out.below HB.out).2 k hlt
      have HST := Lib.hid (HF.out.step (by rw [hys]; exact hlt))
      have f1 := World.ownsRow.frozenAt HO.out k
      have c2 := HO.out.cellv k hlt
      generalize rowOf L k = x at hc HST
      generalize ys.getD k (.bool true) = y at c2
      go_wp2
      go_roundw
      case rel => exact ⟨k + 1, _, by omega, by go_num, (World.ownsRow.stored HO.out k (.string x)).1, HST.out, HB.out.setCell (p := ⟨w.heap.size, k, none⟩) (Nat.le_refl _) _⟩
      case measure => simp [intOf]; omega
    · obtain rfl : k = n := by omega
      have HE : Hid (OwnL wr w.heap.size (.slice (some ⟨w.heap.size, 0, none⟩) k k) L) := Lib.hid (by
        subst hll
        have e := HF.out.all hys
        have := HO.out
        rw [e] at this
        exact ⟨this, _, _, rfl⟩)
      go_wp2
      go_ret
      exact ⟨_, rfl, HE.out, HB.out⟩
end Go.Proofs.Ytifkgihhdmmhdaa
