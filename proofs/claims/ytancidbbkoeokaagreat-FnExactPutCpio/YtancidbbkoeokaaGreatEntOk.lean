/- Contract of spec.EntryOk. -/
import Derived.Test.YtancidbbkoeokaaGreatWhoS
import Derived.Test.YtancidbbkoeokaaGreatPathOk
import Derived.Test.YtancidbbkoeokaaGreatEntL
namespace Go.Proofs.YtancidbbkoeokaaGreat
open Go.ChangeShapes Go.WideShapes Go.ChangeAt Go.RowKit Go.Deep

/-- What the kind of an entry asks of its link and body. -/
def kindOk (k : Int) (p l b : ByteArray) : Bool :=
  if k = 0 then decide (l.size = 0) && decide (b.size ≤ 3000)
  else if k = 1 then decide (l.size = 0) && decide (b.size = 0)
  else if k = 2 then inB l.size 1 150 && signv l && decide (b.size = 0)
  else if k = 3 then pathOkv l && decide (l ≠ p) && decide (b.size = 0)
  else false
def entOkv (e : Ent) : Bool := pathOkv e.path && inB e.mode 0 4095 && inB e.uid 0 4294967295 && inB e.gid 0 4294967295 && inB e.time 0 99999999999 && whov e.user && whov e.group && kindOk e.kind e.path e.link e.body
theorem empty_t {l : ByteArray} (h : l.size = 0) : l.toList.isEmpty = true := by
  rw [ba_toList]
  have : l.data.toList = [] := List.eq_nil_of_length_eq_zero (by simpa using h)
  rw [this]; rfl
theorem empty_f {l : ByteArray} (h : ¬ l.size = 0) : l.toList.isEmpty = false := by
  rw [ba_toList]
  cases hd : l.data.toList with
  | nil => exact absurd (by have := congrArg List.length hd; simpa using this) h
  | cons a b => rfl
set_option maxHeartbeats 3200000 in
theorem entryOk_spec (k : Int) (p l : ByteArray) (m u g t : Int) (us gr b : ByteArray) (w : World) (hp : p.size ≤ 4194304) (hl : l.size ≤ 4194304) (hus : us.size ≤ 4194304) (hgr : gr.size ≤ 4194304) (hbz : b.size ≤ 4194304) :
    Calls Tryz.prog 30 #[.agg #[.int .i64 k, .string p, .string l, .int .i64 m, .int .i64 u, .int .i64 g, .int .i64 t, .string us, .string gr, .string b]] w fun e w' => e = .returned (.bool (entOkv ⟨k, p, l, m, u, g, t, us, gr, b⟩)) ∧ Below w.heap.size w w' := by
  have H1 := Lib.hid (fun w => pathOk_spec p w hp)
  have HL := Lib.hid (fun w => pathOk_spec l w hl)
  have H2 := Lib.hid (fun w => in_any m 0 4095 w)
  have H3 := Lib.hid (fun w => in_any u 0 4294967295 w)
  have H4 := Lib.hid (fun w => in_any g 0 4294967295 w)
  have H5 := Lib.hid (fun w => in_any t 0 99999999999 w)
  have H6 := Lib.hid (fun w => who_spec us w hus)
  have H7 := Lib.hid (fun w => who_spec gr w hgr)
  have HS := Lib.hid (fun w => sign_spec l w hl)
  have HZ := Lib.hid (fun w => in_any (l.size : Int) 1 150 w)
  have HE : Hid (entOkv ⟨k, p, l, m, u, g, t, us, gr, b⟩ = (pathOkv p && inB m 0 4095 && inB u 0 4294967295 && inB g 0 4294967295 && inB t 0 99999999999 && whov us && whov gr && kindOk k p l b)) := Lib.hid rfl
  have HK : Hid (kindOk k p l b = if k = 0 then decide (l.size = 0) && decide (b.size ≤ 3000) else if k = 1 then decide (l.size = 0) && decide (b.size = 0) else if k = 2 then inB l.size 1 150 && signv l && decide (b.size = 0) else if k = 3 then pathOkv l && decide (l ≠ p) && decide (b.size = 0) else false) := Lib.hid rfl
  generalize entOkv ⟨k, p, l, m, u, g, t, us, gr, b⟩ = r at HE
  generalize kindOk k p l b = r2 at HE HK
  generalize pathOkv p = b1 at H1 HE
  generalize inB m 0 4095 = b2 at H2 HE
  generalize inB u 0 4294967295 = b3 at H3 HE
  generalize inB g 0 4294967295 = b4 at H4 HE
  generalize inB t 0 99999999999 = b5 at H5 HE
  generalize whov us = b6 at H6 HE
  generalize whov gr = b7 at H7 HE
  generalize pathOkv l = bl at HL HK
  generalize signv l = bs at HS HK
  generalize inB (l.size : Int) 1 150 = bz at HZ HK
  clear hp hus hgr
  go_enter Tryz.func30, Tryz.ntmps30

  go_wp2_with fail
  refine (H1.out _).mono ?_
  rintro e w1 ⟨rfl, hb⟩
  obtain ⟨k1, b1, z1⟩ := one_new (e1 := ⟨k, p, l, m, u, g, t, us, gr, b⟩) hb
  have E1 := Lib.hid k1
  have B1 := Lib.hid b1
  clear hb k1 b1
  obtain ⟨c0, c1, c2, c3, c4, c5, c6, c7, c8, c9⟩ := E1.out.zero
  cases b1 with
  | false =>
    go_wp2_with fail
    go_ret
    exact ⟨ret_bool (by rw [HE.out]; simp), B1.out⟩
  | true =>
    go_wp2_with fail
    refine (H2.out _).mono ?_
    rintro e _ ⟨rfl, rfl⟩
    cases b2 with
    | false =>
      go_wp2_with fail
      go_ret
      exact ⟨ret_bool (by rw [HE.out]; simp), B1.out⟩
    | true =>
      go_wp2_with fail
      refine (H3.out _).mono ?_
      rintro e _ ⟨rfl, rfl⟩
      cases b3 with
      | false =>
        go_wp2_with fail
        go_ret
        exact ⟨ret_bool (by rw [HE.out]; simp), B1.out⟩
      | true =>
        go_wp2_with fail
        refine (H4.out _).mono ?_
        rintro e _ ⟨rfl, rfl⟩
        cases b4 with
        | false =>
          go_wp2_with fail
          go_ret
          exact ⟨ret_bool (by rw [HE.out]; simp), B1.out⟩
        | true =>
          go_wp2_with fail
          refine (H5.out _).mono ?_
          rintro e _ ⟨rfl, rfl⟩
          cases b5 with
          | false =>
            go_wp2_with fail
            go_ret
            exact ⟨ret_bool (by rw [HE.out]; simp), B1.out⟩
          | true =>
            go_wp2_with fail
            refine (H6.out _).mono ?_
            rintro e w2 ⟨rfl, hb⟩
            have E2 := Lib.hid (E1.out.below hb (by omega))
            have B2 := Lib.hid (btE B1.out hb)
            have z2 := Nat.le_trans z1 hb.size
            clear hb E1 B1 c0 c1 c2 c3 c4 c5 c6 c7 c8 c9
            obtain ⟨c0, c1, c2, c3, c4, c5, c6, c7, c8, c9⟩ := E2.out.zero
            cases b6 with
            | false =>
              go_wp2_with fail
              go_ret
              exact ⟨ret_bool (by rw [HE.out]; simp), B2.out⟩
            | true =>
              go_wp2_with fail
              refine (H7.out _).mono ?_
              rintro e w3 ⟨rfl, hb⟩
              have E3 := Lib.hid (E2.out.below hb (by omega))
              have B3 := Lib.hid (btE B2.out hb)
              have z3 := Nat.le_trans z2 hb.size
              clear hb E2 B2 c0 c1 c2 c3 c4 c5 c6 c7 c8 c9
              obtain ⟨c0, c1, c2, c3, c4, c5, c6, c7, c8, c9⟩ := E3.out.zero
              cases b7 with
              | false =>
                go_wp2_with fail
                go_ret
                exact ⟨ret_bool (by rw [HE.out]; simp), B3.out⟩
              | true =>
                have HR : Hid (r = r2) := Lib.hid (by rw [HE.out]; simp)
                clear HE
                by_cases k0 : k = 0
                · subst k0
                  by_cases hl0 : l.size = 0
                  · have q := empty_t hl0
                    by_cases hb0 : (b.size : Int) ≤ 3000
                    · have hb1 : b.size ≤ 3000 := by omega
                      go_wp2_with fail
                      go_ret
                      exact ⟨ret_bool (by rw [HR.out, HK.out]; simp [hl0, hb1]; try omega), B3.out⟩
                    · have hb1 : ¬ b.size ≤ 3000 := by omega
                      go_wp2_with fail
                      go_ret
                      exact ⟨ret_bool (by rw [HR.out, HK.out]; simp [hl0, hb1]; try omega), B3.out⟩
                  · have q := empty_f hl0
                    go_wp2_with fail
                    go_ret
                    exact ⟨ret_bool (by rw [HR.out, HK.out]; simp [hl0]), B3.out⟩
                · by_cases k1 : k = 1
                  · subst k1
                    by_cases hl0 : l.size = 0
                    · have q := empty_t hl0
                      by_cases hb0 : b.size = 0
                      · have q2 := empty_t hb0
                        go_wp2_with fail
                        go_ret
                        exact ⟨ret_bool (by rw [HR.out, HK.out]; simp [hl0, hb0]), B3.out⟩
                      · have q2 := empty_f hb0
                        go_wp2_with fail
                        go_ret
                        exact ⟨ret_bool (by rw [HR.out, HK.out]; simp [hl0, hb0]), B3.out⟩
                    · have q := empty_f hl0
                      go_wp2_with fail
                      go_ret
                      exact ⟨ret_bool (by rw [HR.out, HK.out]; simp [hl0]), B3.out⟩
                  · by_cases k2 : k = 2
                    · subst k2
                      go_wp2_with fail
                      refine (HZ.out _).mono ?_
                      rintro e _ ⟨rfl, rfl⟩
                      cases bz with
                      | false =>
                        go_wp2_with fail
                        go_ret
                        exact ⟨ret_bool (by rw [HR.out, HK.out]; simp), B3.out⟩
                      | true =>
                        go_wp2_with fail
                        refine (HS.out _).mono ?_
                        rintro e w4 ⟨rfl, hb⟩
                        have E4 := Lib.hid (E3.out.below hb (by omega))
                        have B4 := Lib.hid (btE B3.out hb)
                        have z4 := Nat.le_trans z3 hb.size
                        clear hb E3 B3 c0 c1 c2 c3 c4 c5 c6 c7 c8 c9
                        obtain ⟨c0, c1, c2, c3, c4, c5, c6, c7, c8, c9⟩ := E4.out.zero
                        cases bs with
                        | false =>
                          go_wp2_with fail
                          go_ret
                          exact ⟨ret_bool (by rw [HR.out, HK.out]; simp), B4.out⟩
                        | true =>
                          by_cases hb0 : b.size = 0
                          · have q2 := empty_t hb0
                            go_wp2_with fail
                            go_ret
                            exact ⟨ret_bool (by rw [HR.out, HK.out]; simp [hb0]), B4.out⟩
                          · have q2 := empty_f hb0
                            go_wp2_with fail
                            go_ret
                            exact ⟨ret_bool (by rw [HR.out, HK.out]; simp [hb0]), B4.out⟩
                    · by_cases k3 : k = 3
                      · subst k3
                        go_wp2_with fail
                        refine (HL.out _).mono ?_
                        rintro e w4 ⟨rfl, hb⟩
                        have E4 := Lib.hid (E3.out.below hb (by omega))
                        have B4 := Lib.hid (btE B3.out hb)
                        have z4 := Nat.le_trans z3 hb.size
                        clear hb E3 B3 c0 c1 c2 c3 c4 c5 c6 c7 c8 c9
                        obtain ⟨c0, c1, c2, c3, c4, c5, c6, c7, c8, c9⟩ := E4.out.zero
                        cases bl with
                        | false =>
                          go_wp2_with fail
                          go_ret
                          exact ⟨ret_bool (by rw [HR.out, HK.out]; simp), B4.out⟩
                        | true =>
                          by_cases hlp : l = p
                          · have q := ba_eq hlp
                            go_wp2_with fail
                            go_ret
                            exact ⟨ret_bool (by rw [HR.out, HK.out]; simp [hlp]), B4.out⟩
                          · have q := ba_ne hlp
                            by_cases hb0 : b.size = 0
                            · have q2 := empty_t hb0
                              go_wp2_with fail
                              go_ret
                              exact ⟨ret_bool (by rw [HR.out, HK.out]; simp [hlp, hb0]), B4.out⟩
                            · have q2 := empty_f hb0
                              go_wp2_with fail
                              go_ret
                              exact ⟨ret_bool (by rw [HR.out, HK.out]; simp [hlp, hb0]), B4.out⟩
                      · have k9 := k3
                        go_wp2_with fail
                        go_ret
                        exact ⟨ret_bool (by rw [HR.out, HK.out]; simp [k0, k1, k2, k3]), B3.out⟩
end Go.Proofs.YtancidbbkoeokaaGreat
