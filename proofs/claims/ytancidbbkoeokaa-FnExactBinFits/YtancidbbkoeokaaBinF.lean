/- Contracts of spec.BinFits and impl.BinFits. -/
import Derived.Test.YtancidbbkoeokaaCpioF
namespace Go.Proofs.Ytancidbbkoeokaa
open Go.ChangeShapes Go.WideShapes Go.ChangeAt Go.RowKit Go.Deep

def binFits (e : Ent) : Bool := entOkv e && !isTrail e.path && e.user.toList.isEmpty && e.group.toList.isEmpty && decide (e.uid ≤ 65535) && decide (e.gid ≤ 65535) && decide (e.time ≤ 4294967295)
theorem binFits_cpio (e : Ent) : binFits e = (cpioF e && decide (e.uid ≤ 65535) && decide (e.gid ≤ 65535) && decide (e.time ≤ 4294967295)) := rfl
set_option maxHeartbeats 3200000 in
theorem binFits_spec (k : Int) (p l : ByteArray) (m u g t : Int) (us gr b : ByteArray) (w : World) (hp : p.size ≤ 4194304) (hl : l.size ≤ 4194304) (hus : us.size ≤ 4194304) (hgr : gr.size ≤ 4194304) (hbz : b.size ≤ 4194304) :
    Calls Try.prog 7 #[.agg #[.int .i64 k, .string p, .string l, .int .i64 m, .int .i64 u, .int .i64 g, .int .i64 t, .string us, .string gr, .string b]] w fun e w' => e = .returned (.bool (binFits ⟨k, p, l, m, u, g, t, us, gr, b⟩)) ∧ Below w.heap.size w w' := by
  have H2 := Lib.hid (fun w => entryOk_spec k p l m u g t us gr b w hp hl hus hgr hbz)
  have HE : Hid (binFits ⟨k, p, l, m, u, g, t, us, gr, b⟩ = (entOkv ⟨k, p, l, m, u, g, t, us, gr, b⟩ && !(p.toList == [84, 82, 65, 73, 76, 69, 82, 33, 33, 33]) && us.toList.isEmpty && gr.toList.isEmpty && decide (u ≤ 65535) && decide (g ≤ 65535) && decide (t ≤ 4294967295))) := Lib.hid rfl
  generalize binFits ⟨k, p, l, m, u, g, t, us, gr, b⟩ = r at HE
  generalize entOkv ⟨k, p, l, m, u, g, t, us, gr, b⟩ = b1 at H2 HE
  clear hp hus hgr hl hbz
  go_enter Try.func7, Try.ntmps7
  go_wp2_with fail
  refine (H2.out _).mono ?_
  rintro e w1 ⟨rfl, hb⟩
  obtain ⟨k1, bb1, z1⟩ := one_new (e1 := ⟨k, p, l, m, u, g, t, us, gr, b⟩) hb
  have E1 := Lib.hid k1
  have B1 := Lib.hid bb1
  clear hb k1 bb1
  obtain ⟨c0, c1, c2, c3, c4, c5, c6, c7, c8, c9⟩ := E1.out.zero
  cases b1 with
  | false =>
    go_wp2_with fail
    go_ret
    exact ⟨ret_bool (by rw [HE.out]; simp []), B1.out⟩
  | true =>
    cases q1 : (p.toList == [84, 82, 65, 73, 76, 69, 82, 33, 33, 33]) with
    | true =>
      have HE2 : Hid (r = false) := Lib.hid (by rw [HE.out, q1]; simp)
      clear HE
      go_wp2_with fail
      go_ret
      exact ⟨ret_bool HE2.out.symm, B1.out⟩
    | false =>
      cases q2 : us.toList.isEmpty with
      | false =>
        have HE2 : Hid (r = false) := Lib.hid (by rw [HE.out, q2]; simp)
        clear HE
        go_wp2_with fail
        go_ret
        exact ⟨ret_bool HE2.out.symm, B1.out⟩
      | true =>
        cases q3 : gr.toList.isEmpty with
        | false =>
          have HE2 : Hid (r = false) := Lib.hid (by rw [HE.out, q3]; simp)
          clear HE
          go_wp2_with fail
          go_ret
          exact ⟨ret_bool HE2.out.symm, B1.out⟩
        | true =>
          by_cases q4 : u ≤ 65535
          · by_cases q5 : g ≤ 65535
            · by_cases q6 : t ≤ 4294967295
              · have HE2 : Hid (r = true) := Lib.hid (by rw [HE.out, q1, q2, q3, decide_eq_true q4, decide_eq_true q5, decide_eq_true q6]; rfl)
                clear HE
                go_wp2_with fail
                go_ret
                exact ⟨ret_bool HE2.out.symm, B1.out⟩
              · have HE2 : Hid (r = false) := Lib.hid (by rw [HE.out, decide_eq_false q6]; simp)
                clear HE
                go_wp2_with fail
                go_ret
                exact ⟨ret_bool ((decide_eq_false (show ¬ t ≤ 4294967295 by omega)).trans HE2.out.symm), B1.out⟩
            · have HE2 : Hid (r = false) := Lib.hid (by rw [HE.out, decide_eq_false q5]; simp)
              clear HE
              go_wp2_with fail
              go_ret
              exact ⟨ret_bool HE2.out.symm, B1.out⟩
          · have HE2 : Hid (r = false) := Lib.hid (by rw [HE.out, decide_eq_false q4]; simp)
            clear HE
            go_wp2_with fail
            go_ret
            exact ⟨ret_bool HE2.out.symm, B1.out⟩
set_option maxHeartbeats 3200000 in
theorem binFits_impl (k : Int) (p l : ByteArray) (m u g t : Int) (us gr b : ByteArray) (w : World) (hp : p.size ≤ 4194304) (hl : l.size ≤ 4194304) (hus : us.size ≤ 4194304) (hgr : gr.size ≤ 4194304) :
    Calls Try.prog 9 #[.agg #[.int .i64 k, .string p, .string l, .int .i64 m, .int .i64 u, .int .i64 g, .int .i64 t, .string us, .string gr, .string b]] w fun e w' => e = .returned (.bool (binFits ⟨k, p, l, m, u, g, t, us, gr, b⟩)) ∧ Below w.heap.size w w' := by
  have H2 := Lib.hid (fun w => cpioF_impl k p l m u g t us gr b w hp hl hus hgr)
  have HE : Hid (binFits ⟨k, p, l, m, u, g, t, us, gr, b⟩ = (cpioF ⟨k, p, l, m, u, g, t, us, gr, b⟩ && decide (u ≤ 65535) && decide (g ≤ 65535) && decide (t ≤ 4294967295))) := Lib.hid rfl
  generalize binFits ⟨k, p, l, m, u, g, t, us, gr, b⟩ = r at HE
  generalize cpioF ⟨k, p, l, m, u, g, t, us, gr, b⟩ = b1 at H2 HE
  clear hp hus hgr hl
  go_enter Try.func9, Try.ntmps9
  go_wp2_with fail
  refine (H2.out _).mono ?_
  rintro e w1 ⟨rfl, hb⟩
  obtain ⟨k1, bb1, z1⟩ := one_new (e1 := ⟨k, p, l, m, u, g, t, us, gr, b⟩) hb
  have E1 := Lib.hid k1
  have B1 := Lib.hid bb1
  clear hb k1 bb1
  obtain ⟨c0, c1, c2, c3, c4, c5, c6, c7, c8, c9⟩ := E1.out.zero
  cases b1 with
  | false =>
    go_wp2_with fail
    go_ret
    exact ⟨ret_bool (by rw [HE.out]; simp []), B1.out⟩
  | true =>
    by_cases q4 : u ≤ 65535
    · by_cases q5 : g ≤ 65535
      · by_cases q6 : t ≤ 4294967295
        · have HE2 : Hid (r = true) := Lib.hid (by rw [HE.out, decide_eq_true q4, decide_eq_true q5, decide_eq_true q6]; rfl)
          clear HE
          go_wp2_with fail
          go_ret
          exact ⟨ret_bool HE2.out.symm, B1.out⟩
        · have HE2 : Hid (r = false) := Lib.hid (by rw [HE.out, decide_eq_false q6]; simp)
          clear HE
          go_wp2_with fail
          go_ret
          exact ⟨ret_bool ((decide_eq_false (show ¬ t ≤ 4294967295 by omega)).trans HE2.out.symm), B1.out⟩
      · have HE2 : Hid (r = false) := Lib.hid (by rw [HE.out, decide_eq_false q5]; simp)
        clear HE
        go_wp2_with fail
        go_ret
        exact ⟨ret_bool HE2.out.symm, B1.out⟩
    · have HE2 : Hid (r = false) := Lib.hid (by rw [HE.out, decide_eq_false q4]; simp)
      clear HE
      go_wp2_with fail
      go_ret
      exact ⟨ret_bool HE2.out.symm, B1.out⟩
end Go.Proofs.Ytancidbbkoeokaa
