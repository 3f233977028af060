/- Contracts of impl.pathsOf and of its method has. -/
import Derived.Test.YtlbkojiengofeabListOk
import Derived.Test.YtlbkojiengofeabMapS
namespace Go.Proofs.Ytlbkojiengofeab
open Go.ChangeShapes Go.WideShapes Go.ChangeAt Go.RowKit Go.Deep Go.Maps

/-- Is there an entry with a path? -/
def inPaths (L : List Ent) (p : ByteArray) : Bool := L.any fun e => decide (e.path = p)
theorem inPaths_zero (L : List Ent) : inPaths (L.take 0) = fun _ => false := by funext p; simp [inPaths]
theorem inPaths_step {L : List Ent} {i : Nat} {e : Ent} (he : L[i]? = some e) : inPaths (L.take (i + 1)) = putT (inPaths (L.take i)) e.path := by
  funext p
  rw [List.take_add_one, he]
  simp only [inPaths, putT, List.any_append, Option.toList, List.any_cons, List.any_nil, Bool.or_false]
  rw [Bool.or_comm]
  congr 1
  rw [decide_eq_decide]
  exact eq_comm
theorem find_paths (L : List Ent) (p : ByteArray) : (findv L p < 0) ↔ inPaths L p = false := by
  have key : ∀ (L : List Ent) (i : Nat), (findFrom L p i < 0) ↔ inPaths L p = false := by
    intro L
    induction L with
    | nil => intro i; simp [findFrom, inPaths]
    | cons e L ih =>
      intro i
      rw [findFrom]
      by_cases h : e.path = p
      · rw [if_pos h]; simp [inPaths, h]; try omega
      · rw [if_neg h, ih (i + 1)]; simp [inPaths, h]
  exact key L 0
theorem pathsOf_nil (w : World) : Calls Try.prog 52 #[.slice none 0 0] w fun e w' => e = .returned (.map (some w.heap.size)) ∧ SetSAt w' w.heap.size 0 (inPaths []) ∧ Below w.heap.size w w' := by
  have hmm := @run_makeMap Try.prog
  go_enter Try.func52, Try.ntmps52
  go_wp2_with fail
  refine wp_loop_rounds 1 ?_
  rw [rounds_succ]
  go_wp2_with fail
  go_ret
  exact ⟨rfl, by rw [show inPaths [] = fun _ => false from rfl]; exact setS_made w, (Below.refl _ _).alloc (Nat.le_refl _) _⟩
set_option maxHeartbeats 800000 in
theorem pathsOf_impl (L : List Ent) (n g cap : Nat) (w : World) (hn : n = L.length) (hm : n ≤ 4194304) (hg : g < w.heap.size) (hsm : SmallL L) (h1 : RowE w g L) :
    Calls Try.prog 52 #[.slice (some ⟨g, 0, none⟩) n cap] w fun e w' => e = .returned (.map (some w.heap.size)) ∧ SetSAt w' w.heap.size n (inPaths L) ∧ Below w.heap.size w w' := by
  have H1 := Lib.hid h1
  have HG : Hid (∀ i, i < n → ∃ e, L[i]? = some e ∧ esz e ≤ 4194304) := Lib.hid (fun i hi => by obtain ⟨e, he⟩ := getE' (L := L) (i := i) (by omega); exact ⟨e, he, hsm.get he⟩)
  have HF : Hid (L.take n = L) := Lib.hid (by rw [hn, List.take_length])
  clear h1 hn hsm
  have hmm := @run_makeMap Try.prog
  go_enter Try.func52, Try.ntmps52
  go_wp2_with fail
  go_loopw [5, 9] (fun _ u wr => ∃ i : Nat, u = .int .i64 i ∧ i ≤ n ∧ SetSAt wr w.heap.size i (inPaths (L.take i)) ∧ Below w.heap.size w wr) (fun _ u _ => n - (intOf u).toNat)
  case atStart => exact ⟨0, rfl, Nat.zero_le _, by rw [inPaths_zero]; exact setS_made w, (Below.refl _ _).alloc (Nat.le_refl _) _⟩
  case round =>
    obtain ⟨i, rfl, hi, hset, hb⟩ := hrel
    have B := Lib.hid hb
    have S := Lib.hid hset
    clear hb hset hmm
    by_cases hlt : i < n
    · have hlt2 : (i : Int) < (n : Int) := by omega
      obtain ⟨e, he, hz⟩ := HG.out i hlt
      have R := Lib.hid (H1.out.below B.out hg)
      obtain ⟨c0, c1, c2, c3, c4, c5, c6, c7, c8, c9⟩ := R.out.ten he
      have HN := Lib.hid (inPaths_step he)
      have kp : e.path.size ≤ maxLen := by have := (small_parts hz).1; simp only [maxLen]; omega
      clear he hz R
      obtain ⟨k, p, l, m, u, g0, t, us, gr, b⟩ := e
      dsimp only at HN kp
      obtain ⟨D, ho, hD⟩ := S.out
      have OM := Lib.hid ho
      have HD := Lib.hid hD
      clear ho hD S
      have hsz := B.out.size
      go_wp2_with (at_mapUpdate; refine wpList_mapUpdate_own _ rfl _ _ _ 67 rfl 9 70 lawS Try.underlying67 _ w.heap.size i D rfl (OM.out.alloc _) (by simp only [maxLen]; omega) _ _ _ rfl rfl (key_of kp) _ [] unitElem_mk ?_; intro w2 hown2 hgrow2)
      have HM2 : Hid (SetSAt w2 w.heap.size (i + 1) (inPaths (L.take (i + 1)))) := Lib.hid (by rw [HN.out]; exact ⟨_, hown2, HD.out.put p _⟩)
      have B2 : Hid (Below w.heap.size w w2) := Lib.hid ((B.out.alloc hsz _).grown hgrow2 (by simp; omega) (fun b hb => by cases hb; exact Nat.le_refl _))
      clear hown2 hgrow2 HN
      go_wp2_with fail
      go_roundw
      case rel => exact ⟨i + 1, by go_num, by omega, HM2.out, B2.out⟩
      case measure => simp [intOf]; omega
    · obtain rfl : i = n := by omega
      have hlt2 : ¬ (i : Int) < (i : Int) := by omega
      rw [HF.out] at S
      go_wp2_with fail
      go_ret
      exact ⟨rfl, S.out, B.out⟩
theorem has_impl (b n : Nat) (T : ByteArray → Bool) (p : ByteArray) (w : World) (kp : p.size ≤ maxLen) (h : SetSAt w b n T) :
    Calls Try.prog 54 #[.map (some b), .string p] w fun e w' => e = .returned (.bool (T p)) ∧ Below w.heap.size w w' := by
  obtain ⟨D, ho, hD⟩ := h
  have OM := Lib.hid ho
  have HD := Lib.hid (hD.2 p)
  clear ho hD
  go_enter Try.func54, Try.ntmps54
  go_wp2_with (at_lookup; refine wpList_lookup_own_unit _ rfl _ _ 67 rfl 9 70 lawS Try.underlying67 (zeroN0 _) b n D rfl OM.out _ _ rfl (key_of kp) ?_)
  go_ret
  exact ⟨ret_bool HD.out, (Below.refl _ _).alloc (Nat.le_refl _) _⟩
end Go.Proofs.Ytlbkojiengofeab
