/- Contract of spec.GetRecord. -/
import Derived.Test.YtlbanaakjabfnaaDoorGetRecM
namespace Go.Proofs.YtlbanaakjabfnaaDoor
open Go.ChangeShapes Go.WideShapes Go.ChangeAt Go.RowKit Go.Deep

theorem recHit_end (s : ByteArray) : recHit (s.extract s.size s.size) = false := by
  cases hr : recHit (s.extract s.size s.size) with
  | false => rfl
  | true =>
    exfalso
    obtain ⟨ho, u, hu⟩ := (recHit_iff _).1 hr
    have e := congrArg List.length hu
    have hz : (s.extract s.size s.size).data.toList = [] := by rw [ext_tail]; simp
    rw [hz] at e
    simp only [List.length_nil, List.length_append] at e
    have h2 := putRec_size ho
    have h3 := recLen_bd ((keyOf (s.extract s.size s.size)).size + (valOf (s.extract s.size s.size)).size + 3)
    rw [putRecv, if_pos ho] at h2
    have h4 : (recText (keyOf (s.extract s.size s.size)) (valOf (s.extract s.size s.size))).data.toList.length = (recText (keyOf (s.extract s.size s.size)) (valOf (s.extract s.size s.size))).size := Array.length_toList
    omega
theorem readDec_bd (s : ByteArray) : -1 ≤ readDecv s ∧ readDecv s ≤ 999999 := by
  unfold readDecv
  have hl := lead_bd 10 (by omega) 0 s.data.toList (by omega) (by omega)
  split
  · rename_i h
    exact ⟨by unfold cand2; omega, h.1⟩
  · omega
theorem slice_jn (s : ByteArray) (a b : Nat) (h : a + b ≤ s.size) (w : World) : (Instr.slice 9 (.string s) (some (.int .i64 (a : Int))) (some (.int .i64 ((a : Int) + (b : Int)))) none).run Tryd.prog w = .ok (.string (s.extract a (a + b))) w := by
  have h1 : (0 : Int) ≤ (a : Int) := by omega
  have h2 : (a : Int) ≤ (a : Int) + (b : Int) := by omega
  have h3 : (a : Int) + (b : Int) ≤ (s.size : Int) := by omega
  have e : ((a : Int) + (b : Int)).toNat = a + b := by omega
  simp [go_sem, h1, h2, h3, e]
set_option maxHeartbeats 6400000 in
theorem getRecord_spec (s : ByteArray) (i : Int) (w : World) (hs : s.size ≤ 1048576) :
    Calls Tryd.prog 11 #[.string s, .int .i64 i] w fun e w' => e = .returned (.tuple #[.agg #[.string (recK s i), .string (recV s i)], .int .i64 (recN s i)]) ∧ Below w.heap.size w w' := by
  have RO := Lib.hid (RecO.new w ⟨#[]⟩ ⟨#[]⟩)
  have B0 : Hid (Below w.heap.size w (w.alloc (.cells #[.string ⟨#[]⟩, .string ⟨#[]⟩] 26))) := Lib.hid ((Below.refl _ _).alloc (Nat.le_refl _) _)
  by_cases h0 : i < 0
  · have HN := Lib.hid (rec_no (s := s) (i := i) (by simp [recIn]; omega))
    go_enter Tryd.func11, Tryd.ntmps11
    go_wp2_with fail
    refine bodyPost_ret (res_rec2 rfl _ rfl RO.out) rfl ?_
    exact ⟨by rw [HN.out.1, HN.out.2.1, HN.out.2.2]; rfl, B0.out⟩
  by_cases h1 : (s.size : Int) ≤ i
  · have HN := Lib.hid (rec_no (s := s) (i := i) (by
      by_cases e : i = s.size
      · subst e; rw [recIn, Int.toNat_natCast, recHit_end]; simp
      · simp [recIn]; omega))
    go_enter Tryd.func11, Tryd.ntmps11
    go_wp2_with fail
    refine bodyPost_ret (res_rec2 rfl _ rfl RO.out) rfl ?_
    exact ⟨by rw [HN.out.1, HN.out.2.1, HN.out.2.2]; rfl, B0.out⟩
  obtain ⟨j, rfl⟩ := Int.eq_ofNat_of_zero_le (show 0 ≤ i by omega)
  have hj : j ≤ s.size := by omega
  have HI : Hid (recIn s j = recHit (s.extract j s.size)) := Lib.hid (by simp [recIn, hj])
  have HK : Hid (recK s j = if recIn s j then keyOf (s.extract j s.size) else ⟨#[]⟩) := Lib.hid rfl
  have HV : Hid (recV s j = if recIn s j then valOf (s.extract j s.size) else ⟨#[]⟩) := Lib.hid rfl
  have HN : Hid (recN s j = if recIn s j then (j : Int) + (recText (keyOf (s.extract j s.size)) (valOf (s.extract j s.size))).size else -1) := Lib.hid rfl
  generalize recK s j = rk at HK
  generalize recV s j = rv at HV
  generalize recN s j = rn at HN
  generalize recIn s j = ri at HI HK HV HN
  go_enter Tryd.func11, Tryd.ntmps11
  go_wp2_with fail
  go_loopw [6] (fun u wr => ∃ k : Nat, u = .int .i64 k ∧ j ≤ k ∧ k ≤ s.size ∧ k ≤ j + 4 ∧ NoSp s j k ∧ RecO wr w.heap.size ⟨#[]⟩ ⟨#[]⟩ ∧ Below w.heap.size w wr) (fun u _ => s.size - (intOf u).toNat)
  case atStart => exact ⟨j, rfl, Nat.le_refl _, hj, by omega, fun m c h1 h2 => by omega, RO.out, B0.out⟩
  case round =>
    clear RO B0
    obtain ⟨k, rfl, hjk, hks, hk4, hn, hro, hb⟩ := hrel
    have RO := Lib.hid hro
    have B0 := Lib.hid hb
    have NS := Lib.hid hn
    clear hro hb hn
    have more : (k < s.size ∧ k < j + 4 ∧ ∃ h : k < s.size, s[k] ≠ 32) ∨ (k = s.size ∨ k = j + 4 ∨ ∃ h : k < s.size, s[k] = 32) := by
      by_cases a : k = s.size
      · exact .inr (.inl a)
      · by_cases b : k = j + 4
        · exact .inr (.inr (.inl b))
        · have hl : k < s.size := by omega
          by_cases c : s[k] = 32
          · exact .inr (.inr (.inr ⟨hl, c⟩))
          · exact .inl ⟨hl, by omega, hl, c⟩
    rcases more with ⟨hl, hl4, _, hc⟩ | hend
    · have hl2 : (k : Int) < (s.size : Int) := by omega
      have hl3 : (k : Int) < (j : Int) + 4 := by omega
      have hq : (((s[k].toNat : Nat) : Int) == 32) = false := by
        have : ¬ ((s[k].toNat : Nat) : Int) = 32 := fun e => hc (UInt8.toNat_inj.1 (by simp; omega))
        simpa using this
      have N2 := Lib.hid (NS.out.step hl hc)
      clear hc
      go_wp2_with fail
      go_roundw
      case rel => exact ⟨k + 1, by go_num, by omega, by omega, by omega, N2.out, RO.out, B0.out⟩
      case measure => simp [intOf]; omega
    · have ST := Lib.hid (stop_of hjk hks hk4 NS.out hend)
      clear NS
      by_cases g1 : (k : Int) < (s.size : Int)
      · by_cases g2 : (k : Int) < (j : Int) + 4
        · obtain ⟨hl, hc⟩ : ∃ h : k < s.size, s[k] = 32 := by
            rcases hend with h | h | h
            · omega
            · omega
            · exact h
          have hq : (((s[k].toNat : Nat) : Int) == 32) = true := by rw [hc]; rfl
          clear hend hc
          have hes : (s.extract j k).size ≤ 1048576 := by simp; omega
          have D1 := Lib.hid (fun w => readDec_spec (s.extract j k) w (by omega))
          have hnb := readDec_bd (s.extract j k)
          have X1 := Lib.hid (fun hb => rec_bad hjk hks ST.out hb)
          generalize hne : readDecv (s.extract j k) = n at D1 hnb X1
          have HNE := Lib.hid hne
          clear hne
          have hk0 : (0 : Int) ≤ (j : Int) := by omega
          have hk1 : (j : Int) ≤ (k : Int) := by omega
          have hk2 : (k : Int) ≤ (s.size : Int) := by omega
          go_wp2_with fail
          refine (D1.out _).mono ?_
          rintro e _ ⟨rfl, rfl⟩
          obtain ⟨c0, c1, f0, f1⟩ := RO.out.cells
          by_cases b1 : n < 0
          · have HF : Hid (ri = false) := Lib.hid (by rw [HI.out]; exact X1.out (.inl b1))
            go_wp2_with fail
            refine bodyPost_ret (res_rec2 rfl _ rfl (RO.out.put ⟨#[]⟩ ⟨#[]⟩)) rfl ?_
            exact ⟨by rw [HK.out, HV.out, HN.out, HF.out]; rfl, below_two B0.out (Nat.le_refl _) _ _⟩
          by_cases b2 : (s.size : Int) - j < n
          · have HF : Hid (ri = false) := Lib.hid (by rw [HI.out]; exact X1.out (.inr (.inl b2)))
            go_wp2_with fail
            refine bodyPost_ret (res_rec2 rfl _ rfl (RO.out.put ⟨#[]⟩ ⟨#[]⟩)) rfl ?_
            exact ⟨by rw [HK.out, HV.out, HN.out, HF.out]; rfl, below_two B0.out (Nat.le_refl _) _ _⟩
          by_cases b3 : (j : Int) + n < (k : Int) + 1
          · have HF : Hid (ri = false) := Lib.hid (by rw [HI.out]; exact X1.out (.inr (.inr b3)))
            go_wp2_with fail
            refine bodyPost_ret (res_rec2 rfl _ rfl (RO.out.put ⟨#[]⟩ ⟨#[]⟩)) rfl ?_
            exact ⟨by rw [HK.out, HV.out, HN.out, HF.out]; rfl, below_two B0.out (Nat.le_refl _) _ _⟩
          obtain ⟨N, rfl⟩ := Int.eq_ofNat_of_zero_le (show 0 ≤ n by omega)
          have q1 : (0 : Int) ≤ (k : Int) + 1 := by omega
          have q2 : (k : Int) + 1 ≤ (j : Int) + (N : Int) := by omega
          have q3 : (j : Int) + (N : Int) ≤ (s.size : Int) := by omega
          have Y1 := Lib.hid (fun hn => rec_none hjk ST.out HNE.out hn)
          have Y2 := Lib.hid (fun (a b : ByteArray) (hp : putRecv a b = s.extract j (j + N)) => rec_hit (k := k) hjk (by omega) (by omega) hp)
          have Y3 := Lib.hid (fun (m : Nat) hn h6 hp => rec_miss (m := m) hjk ST.out HNE.out hn h6 hp)
          clear X1 ST HNE
          go_wp2_with fail
          have hTz : (s.extract (k + 1) (j + N)).size ≤ 1048576 := by simp; omega
          generalize s.extract (k + 1) (j + N) = T at *
          go_loopw [9] (fun u wr => ∃ m : Nat, u = .int .i64 m ∧ m ≤ T.size ∧ NoEq T m ∧ RecO wr w.heap.size ⟨#[]⟩ ⟨#[]⟩ ∧ Below w.heap.size w wr) (fun u _ => T.size - (intOf u).toNat)
          case atStart => exact ⟨0, rfl, Nat.zero_le _, fun i hi => by omega, RO.out, B0.out⟩
          case round =>
            clear RO B0 c0 c1 f0 f1
            obtain ⟨m, rfl, hm, hne, hro, hb⟩ := hrel
            have RO := Lib.hid hro
            have B0 := Lib.hid hb
            have NE := Lib.hid hne
            clear hro hb hne
            obtain ⟨c0, c1, f0, f1⟩ := RO.out.cells
            by_cases hlt : m < T.size
            · have hlt2 : (m : Int) < (T.size : Int) := by omega
              by_cases h6 : T[m] = 61
              · have hq : (((T[m].toNat : Nat) : Int) == 61) = true := by rw [h6]; rfl
                have G6 : Hid (T.data.toList[m]? = some 61) := Lib.hid (by rw [← h6]; exact List.getElem?_eq_getElem (by simpa using hlt))
                by_cases hl1 : m + 1 < T.size
                · have hl2 : (m : Int) + 1 < (T.size : Int) := by omega
                  have p1 : (0 : Int) ≤ (m : Int) := by omega
                  have p2 : (m : Int) ≤ (T.size : Int) := by omega
                  have p3 : (0 : Int) ≤ (m : Int) + 1 := by omega
                  have p4 : (m : Int) + 1 ≤ (T.size : Int) - 1 := by omega
                  have p5 : (T.size : Int) - 1 ≤ (T.size : Int) := by omega
                  have p6 : (0 : Int) ≤ (j : Int) := by omega
                  have p7 : (j : Int) ≤ (j : Int) + (N : Int) := by omega
                  have p8 : (j : Int) + (N : Int) ≤ (s.size : Int) := by omega
                  have hsl := fun w => slice_jn s j N (by omega) w
                  have hwr := Go.wrap_small ((j : Int) + (N : Int)) (by omega) (by omega)
                  clear h6
                  go_wp2_with fail
                  go_region
                  have ha : (T.extract 0 m).size ≤ 1048576 := by simp; omega
                  have hb9 : (T.extract (m + 1) (T.size - 1)).size ≤ 1048576 := by simp; omega
                  have RN : Hid (RecO (wr.alloc (.cells #[.string (T.extract 0 m), .string (T.extract (m + 1) (T.size - 1))] 26)).drew wr.heap.size (T.extract 0 m) (T.extract (m + 1) (T.size - 1))) := Lib.hid (RecO.new wr _ _)
                  have zw : w.heap.size < wr.heap.size := RO.out.lt
                  have RO2 : Hid (RecO (wr.alloc (.cells #[.string (T.extract 0 m), .string (T.extract (m + 1) (T.size - 1))] 26)).drew w.heap.size ⟨#[]⟩ ⟨#[]⟩) := Lib.hid (RO.out.below ((Below.refl wr.heap.size wr).alloc (Nat.le_refl _) _).drew zw)
                  have B2 : Hid (Below w.heap.size w (wr.alloc (.cells #[.string (T.extract 0 m), .string (T.extract (m + 1) (T.size - 1))] 26)).drew) := Lib.hid (B0.out.alloc B0.out.size _).drew
                  have Z2 := Lib.hid (Y2.out (T.extract 0 m) (T.extract (m + 1) (T.size - 1)))
                  have Z3 := Lib.hid (Y3.out m NE.out G6.out)
                  clear Y1 Y2 Y3 NE G6 RO B0 c0 c1 f0 f1
                  generalize T.extract 0 m = ka at *
                  generalize T.extract (m + 1) (T.size - 1) = vb at *
                  generalize hw2 : (wr.alloc (.cells #[.string ka, .string vb] 26)).drew = w2 at *
                  clear hw2
                  have P1 := Lib.hid (fun w => putRecord_spec ka vb w (by omega) (by omega))
                  obtain ⟨d0, d1, g5, g6⟩ := RN.out.cells
                  have RNd : Hid (RecO w2.drew wr.heap.size ka vb) := Lib.hid RN.out
                  have ROd : Hid (RecO w2.drew w.heap.size ⟨#[]⟩ ⟨#[]⟩) := Lib.hid RO2.out
                  have zd1 : wr.heap.size < w2.drew.heap.size := RN.out.lt
                  have zd2 : w.heap.size < w2.drew.heap.size := RO2.out.lt
                  have Bd : Hid (Below w.heap.size w w2.drew) := Lib.hid B2.out.drew
                  generalize hpe : putRecv ka vb = pt at P1 Z2 Z3
                  clear hpe
                  by_cases hp : pt = s.extract j (j + N)
                  · have qe := ba_eq hp
                    have HY := Lib.hid (Z2.out hp)
                    clear hp Z2 Z3
                    go_wp2_with fail
                    go_region_with (go_at_call 8; refine (P1.out _).mono ?_; rintro e w3 ⟨rfl, hb⟩; have RN3 := Lib.hid (RNd.out.below hb zd1); have RO3 := Lib.hid (ROd.out.below hb zd2); have B3 := Lib.hid (btR Bd.out hb); clear hb)
                    all_goals
                      obtain ⟨c0, c1, f0, f1⟩ := RO3.out.cells
                      obtain ⟨e0, e1, _, _⟩ := RN3.out.cells
                      go_wp2_with fail
                      refine bodyPost_ret (res_rec2 rfl _ rfl (RO3.out.put ka vb)) rfl ?_
                      exact ⟨by rw [HK.out, HV.out, HN.out, HI.out, HY.out.1, HY.out.2.1, HY.out.2.2.1, HY.out.2.2.2]; rfl, below_two B3.out (Nat.le_refl _) _ _⟩
                  · have qe := ba_ne hp
                    have HF : Hid (ri = false) := Lib.hid (by rw [HI.out]; exact Z3.out hp)
                    clear hp Z2 Z3
                    go_wp2_with fail
                    go_region_with (go_at_call 8; refine (P1.out _).mono ?_; rintro e w3 ⟨rfl, hb⟩; have RN3 := Lib.hid (RNd.out.below hb zd1); have RO3 := Lib.hid (ROd.out.below hb zd2); have B3 := Lib.hid (btR Bd.out hb); clear hb)
                    all_goals
                      obtain ⟨c0, c1, f0, f1⟩ := RO3.out.cells
                      go_wp2_with fail
                      refine bodyPost_ret (res_rec2 rfl _ rfl (RO3.out.put ⟨#[]⟩ ⟨#[]⟩)) rfl ?_
                      exact ⟨by rw [HK.out, HV.out, HN.out, HF.out]; rfl, below_two B3.out (Nat.le_refl _) _ _⟩
                · have hl2 : ¬ (m : Int) + 1 < (T.size : Int) := by omega
                  have N2 := Lib.hid (NE.out.step hlt (.inr hl1))
                  clear h6
                  go_wp2_with fail
                  go_roundw
                  case rel => exact ⟨m + 1, by go_num, by omega, N2.out, RO.out, B0.out⟩
                  case measure => simp [intOf]; omega
              · have hq : (((T[m].toNat : Nat) : Int) == 61) = false := by
                  have : ¬ ((T[m].toNat : Nat) : Int) = 61 := fun e => h6 (UInt8.toNat_inj.1 (by simp; omega))
                  simpa using this
                have N2 := Lib.hid (NE.out.step hlt (.inl h6))
                clear h6
                go_wp2_with fail
                go_roundw
                case rel => exact ⟨m + 1, by go_num, by omega, N2.out, RO.out, B0.out⟩
                case measure => simp [intOf]; omega
            · obtain rfl : m = T.size := by omega
              have hlt2 : ¬ (T.size : Int) < (T.size : Int) := by omega
              have HF : Hid (ri = false) := Lib.hid (by rw [HI.out]; exact Y1.out NE.out)
              go_wp2_with fail
              refine bodyPost_ret (res_rec2 rfl _ rfl (RO.out.put ⟨#[]⟩ ⟨#[]⟩)) rfl ?_
              exact ⟨by rw [HK.out, HV.out, HN.out, HF.out]; rfl, below_two B0.out (Nat.le_refl _) _ _⟩
        · clear hend
          have hes : (s.extract j k).size ≤ 1048576 := by simp; omega
          have D1 := Lib.hid (fun w => readDec_spec (s.extract j k) w (by omega))
          have hnb := readDec_bd (s.extract j k)
          have X1 := Lib.hid (fun hb => rec_bad hjk hks ST.out hb)
          generalize hne : readDecv (s.extract j k) = n at D1 hnb X1
          have HNE := Lib.hid hne
          clear hne
          have hk0 : (0 : Int) ≤ (j : Int) := by omega
          have hk1 : (j : Int) ≤ (k : Int) := by omega
          have hk2 : (k : Int) ≤ (s.size : Int) := by omega
          go_wp2_with fail
          refine (D1.out _).mono ?_
          rintro e _ ⟨rfl, rfl⟩
          obtain ⟨c0, c1, f0, f1⟩ := RO.out.cells
          by_cases b1 : n < 0
          · have HF : Hid (ri = false) := Lib.hid (by rw [HI.out]; exact X1.out (.inl b1))
            go_wp2_with fail
            refine bodyPost_ret (res_rec2 rfl _ rfl (RO.out.put ⟨#[]⟩ ⟨#[]⟩)) rfl ?_
            exact ⟨by rw [HK.out, HV.out, HN.out, HF.out]; rfl, below_two B0.out (Nat.le_refl _) _ _⟩
          by_cases b2 : (s.size : Int) - j < n
          · have HF : Hid (ri = false) := Lib.hid (by rw [HI.out]; exact X1.out (.inr (.inl b2)))
            go_wp2_with fail
            refine bodyPost_ret (res_rec2 rfl _ rfl (RO.out.put ⟨#[]⟩ ⟨#[]⟩)) rfl ?_
            exact ⟨by rw [HK.out, HV.out, HN.out, HF.out]; rfl, below_two B0.out (Nat.le_refl _) _ _⟩
          by_cases b3 : (j : Int) + n < (k : Int) + 1
          · have HF : Hid (ri = false) := Lib.hid (by rw [HI.out]; exact X1.out (.inr (.inr b3)))
            go_wp2_with fail
            refine bodyPost_ret (res_rec2 rfl _ rfl (RO.out.put ⟨#[]⟩ ⟨#[]⟩)) rfl ?_
            exact ⟨by rw [HK.out, HV.out, HN.out, HF.out]; rfl, below_two B0.out (Nat.le_refl _) _ _⟩
          obtain ⟨N, rfl⟩ := Int.eq_ofNat_of_zero_le (show 0 ≤ n by omega)
          have q1 : (0 : Int) ≤ (k : Int) + 1 := by omega
          have q2 : (k : Int) + 1 ≤ (j : Int) + (N : Int) := by omega
          have q3 : (j : Int) + (N : Int) ≤ (s.size : Int) := by omega
          have Y1 := Lib.hid (fun hn => rec_none hjk ST.out HNE.out hn)
          have Y2 := Lib.hid (fun (a b : ByteArray) (hp : putRecv a b = s.extract j (j + N)) => rec_hit (k := k) hjk (by omega) (by omega) hp)
          have Y3 := Lib.hid (fun (m : Nat) hn h6 hp => rec_miss (m := m) hjk ST.out HNE.out hn h6 hp)
          clear X1 ST HNE
          go_wp2_with fail
          have hTz : (s.extract (k + 1) (j + N)).size ≤ 1048576 := by simp; omega
          generalize s.extract (k + 1) (j + N) = T at *
          go_loopw [9] (fun u wr => ∃ m : Nat, u = .int .i64 m ∧ m ≤ T.size ∧ NoEq T m ∧ RecO wr w.heap.size ⟨#[]⟩ ⟨#[]⟩ ∧ Below w.heap.size w wr) (fun u _ => T.size - (intOf u).toNat)
          case atStart => exact ⟨0, rfl, Nat.zero_le _, fun i hi => by omega, RO.out, B0.out⟩
          case round =>
            clear RO B0 c0 c1 f0 f1
            obtain ⟨m, rfl, hm, hne, hro, hb⟩ := hrel
            have RO := Lib.hid hro
            have B0 := Lib.hid hb
            have NE := Lib.hid hne
            clear hro hb hne
            obtain ⟨c0, c1, f0, f1⟩ := RO.out.cells
            by_cases hlt : m < T.size
            · have hlt2 : (m : Int) < (T.size : Int) := by omega
              by_cases h6 : T[m] = 61
              · have hq : (((T[m].toNat : Nat) : Int) == 61) = true := by rw [h6]; rfl
                have G6 : Hid (T.data.toList[m]? = some 61) := Lib.hid (by rw [← h6]; exact List.getElem?_eq_getElem (by simpa using hlt))
                by_cases hl1 : m + 1 < T.size
                · have hl2 : (m : Int) + 1 < (T.size : Int) := by omega
                  have p1 : (0 : Int) ≤ (m : Int) := by omega
                  have p2 : (m : Int) ≤ (T.size : Int) := by omega
                  have p3 : (0 : Int) ≤ (m : Int) + 1 := by omega
                  have p4 : (m : Int) + 1 ≤ (T.size : Int) - 1 := by omega
                  have p5 : (T.size : Int) - 1 ≤ (T.size : Int) := by omega
                  have p6 : (0 : Int) ≤ (j : Int) := by omega
                  have p7 : (j : Int) ≤ (j : Int) + (N : Int) := by omega
                  have p8 : (j : Int) + (N : Int) ≤ (s.size : Int) := by omega
                  have hsl := fun w => slice_jn s j N (by omega) w
                  have hwr := Go.wrap_small ((j : Int) + (N : Int)) (by omega) (by omega)
                  clear h6
                  go_wp2_with fail
                  go_region
                  have ha : (T.extract 0 m).size ≤ 1048576 := by simp; omega
                  have hb9 : (T.extract (m + 1) (T.size - 1)).size ≤ 1048576 := by simp; omega
                  have RN : Hid (RecO (wr.alloc (.cells #[.string (T.extract 0 m), .string (T.extract (m + 1) (T.size - 1))] 26)).drew wr.heap.size (T.extract 0 m) (T.extract (m + 1) (T.size - 1))) := Lib.hid (RecO.new wr _ _)
                  have zw : w.heap.size < wr.heap.size := RO.out.lt
                  have RO2 : Hid (RecO (wr.alloc (.cells #[.string (T.extract 0 m), .string (T.extract (m + 1) (T.size - 1))] 26)).drew w.heap.size ⟨#[]⟩ ⟨#[]⟩) := Lib.hid (RO.out.below ((Below.refl wr.heap.size wr).alloc (Nat.le_refl _) _).drew zw)
                  have B2 : Hid (Below w.heap.size w (wr.alloc (.cells #[.string (T.extract 0 m), .string (T.extract (m + 1) (T.size - 1))] 26)).drew) := Lib.hid (B0.out.alloc B0.out.size _).drew
                  have Z2 := Lib.hid (Y2.out (T.extract 0 m) (T.extract (m + 1) (T.size - 1)))
                  have Z3 := Lib.hid (Y3.out m NE.out G6.out)
                  clear Y1 Y2 Y3 NE G6 RO B0 c0 c1 f0 f1
                  generalize T.extract 0 m = ka at *
                  generalize T.extract (m + 1) (T.size - 1) = vb at *
                  generalize hw2 : (wr.alloc (.cells #[.string ka, .string vb] 26)).drew = w2 at *
                  clear hw2
                  have P1 := Lib.hid (fun w => putRecord_spec ka vb w (by omega) (by omega))
                  obtain ⟨d0, d1, g5, g6⟩ := RN.out.cells
                  have RNd : Hid (RecO w2.drew wr.heap.size ka vb) := Lib.hid RN.out
                  have ROd : Hid (RecO w2.drew w.heap.size ⟨#[]⟩ ⟨#[]⟩) := Lib.hid RO2.out
                  have zd1 : wr.heap.size < w2.drew.heap.size := RN.out.lt
                  have zd2 : w.heap.size < w2.drew.heap.size := RO2.out.lt
                  have Bd : Hid (Below w.heap.size w w2.drew) := Lib.hid B2.out.drew
                  generalize hpe : putRecv ka vb = pt at P1 Z2 Z3
                  clear hpe
                  by_cases hp : pt = s.extract j (j + N)
                  · have qe := ba_eq hp
                    have HY := Lib.hid (Z2.out hp)
                    clear hp Z2 Z3
                    go_wp2_with fail
                    go_region_with (go_at_call 8; refine (P1.out _).mono ?_; rintro e w3 ⟨rfl, hb⟩; have RN3 := Lib.hid (RNd.out.below hb zd1); have RO3 := Lib.hid (ROd.out.below hb zd2); have B3 := Lib.hid (btR Bd.out hb); clear hb)
                    all_goals
                      obtain ⟨c0, c1, f0, f1⟩ := RO3.out.cells
                      obtain ⟨e0, e1, _, _⟩ := RN3.out.cells
                      go_wp2_with fail
                      refine bodyPost_ret (res_rec2 rfl _ rfl (RO3.out.put ka vb)) rfl ?_
                      exact ⟨by rw [HK.out, HV.out, HN.out, HI.out, HY.out.1, HY.out.2.1, HY.out.2.2.1, HY.out.2.2.2]; rfl, below_two B3.out (Nat.le_refl _) _ _⟩
                  · have qe := ba_ne hp
                    have HF : Hid (ri = false) := Lib.hid (by rw [HI.out]; exact Z3.out hp)
                    clear hp Z2 Z3
                    go_wp2_with fail
                    go_region_with (go_at_call 8; refine (P1.out _).mono ?_; rintro e w3 ⟨rfl, hb⟩; have RN3 := Lib.hid (RNd.out.below hb zd1); have RO3 := Lib.hid (ROd.out.below hb zd2); have B3 := Lib.hid (btR Bd.out hb); clear hb)
                    all_goals
                      obtain ⟨c0, c1, f0, f1⟩ := RO3.out.cells
                      go_wp2_with fail
                      refine bodyPost_ret (res_rec2 rfl _ rfl (RO3.out.put ⟨#[]⟩ ⟨#[]⟩)) rfl ?_
                      exact ⟨by rw [HK.out, HV.out, HN.out, HF.out]; rfl, below_two B3.out (Nat.le_refl _) _ _⟩
                · have hl2 : ¬ (m : Int) + 1 < (T.size : Int) := by omega
                  have N2 := Lib.hid (NE.out.step hlt (.inr hl1))
                  clear h6
                  go_wp2_with fail
                  go_roundw
                  case rel => exact ⟨m + 1, by go_num, by omega, N2.out, RO.out, B0.out⟩
                  case measure => simp [intOf]; omega
              · have hq : (((T[m].toNat : Nat) : Int) == 61) = false := by
                  have : ¬ ((T[m].toNat : Nat) : Int) = 61 := fun e => h6 (UInt8.toNat_inj.1 (by simp; omega))
                  simpa using this
                have N2 := Lib.hid (NE.out.step hlt (.inl h6))
                clear h6
                go_wp2_with fail
                go_roundw
                case rel => exact ⟨m + 1, by go_num, by omega, N2.out, RO.out, B0.out⟩
                case measure => simp [intOf]; omega
            · obtain rfl : m = T.size := by omega
              have hlt2 : ¬ (T.size : Int) < (T.size : Int) := by omega
              have HF : Hid (ri = false) := Lib.hid (by rw [HI.out]; exact Y1.out NE.out)
              go_wp2_with fail
              refine bodyPost_ret (res_rec2 rfl _ rfl (RO.out.put ⟨#[]⟩ ⟨#[]⟩)) rfl ?_
              exact ⟨by rw [HK.out, HV.out, HN.out, HF.out]; rfl, below_two B0.out (Nat.le_refl _) _ _⟩
      · clear hend
        have hes : (s.extract j k).size ≤ 1048576 := by simp; omega
        have D1 := Lib.hid (fun w => readDec_spec (s.extract j k) w (by omega))
        have hnb := readDec_bd (s.extract j k)
        have X1 := Lib.hid (fun hb => rec_bad hjk hks ST.out hb)
        generalize hne : readDecv (s.extract j k) = n at D1 hnb X1
        have HNE := Lib.hid hne
        clear hne
        have hk0 : (0 : Int) ≤ (j : Int) := by omega
        have hk1 : (j : Int) ≤ (k : Int) := by omega
        have hk2 : (k : Int) ≤ (s.size : Int) := by omega
        go_wp2_with fail
        refine (D1.out _).mono ?_
        rintro e _ ⟨rfl, rfl⟩
        obtain ⟨c0, c1, f0, f1⟩ := RO.out.cells
        by_cases b1 : n < 0
        · have HF : Hid (ri = false) := Lib.hid (by rw [HI.out]; exact X1.out (.inl b1))
          go_wp2_with fail
          refine bodyPost_ret (res_rec2 rfl _ rfl (RO.out.put ⟨#[]⟩ ⟨#[]⟩)) rfl ?_
          exact ⟨by rw [HK.out, HV.out, HN.out, HF.out]; rfl, below_two B0.out (Nat.le_refl _) _ _⟩
        by_cases b2 : (s.size : Int) - j < n
        · have HF : Hid (ri = false) := Lib.hid (by rw [HI.out]; exact X1.out (.inr (.inl b2)))
          go_wp2_with fail
          refine bodyPost_ret (res_rec2 rfl _ rfl (RO.out.put ⟨#[]⟩ ⟨#[]⟩)) rfl ?_
          exact ⟨by rw [HK.out, HV.out, HN.out, HF.out]; rfl, below_two B0.out (Nat.le_refl _) _ _⟩
        by_cases b3 : (j : Int) + n < (k : Int) + 1
        · have HF : Hid (ri = false) := Lib.hid (by rw [HI.out]; exact X1.out (.inr (.inr b3)))
          go_wp2_with fail
          refine bodyPost_ret (res_rec2 rfl _ rfl (RO.out.put ⟨#[]⟩ ⟨#[]⟩)) rfl ?_
          exact ⟨by rw [HK.out, HV.out, HN.out, HF.out]; rfl, below_two B0.out (Nat.le_refl _) _ _⟩
        exfalso
        omega
end Go.Proofs.YtlbanaakjabfnaaDoor
