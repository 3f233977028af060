/- The law laws.FnFields: for every slice of bytes it returns true. -/
import Derived.Test.YtndgppabfdeecabDoorDrawFld2
import Derived.Test.YtndgppabfdeecabDoorWSpec
import Derived.Test.YtndgppabfdeecabDoorPad
import Derived.Test.YtndgppabfdeecabDoorSum
namespace Go.Proofs.YtndgppabfdeecabDoor
open Go.ChangeShapes Go.WideShapes Go.ChangeAt Go.RowKit

theorem big_any (a : Option Addr) (len cap : Nat) (w : World) : Calls Tryd.prog 10 #[.slice a len cap] w fun e w' => e = .returned (.bool (decide (1048576 < (len : Int)))) ∧ w = w' := by
  go_enter Tryd.func10, Tryd.ntmps10
  go_wp2
  go_ret
  exact ⟨rfl, rfl⟩
theorem btrans {a b c : World} (h : Below a.heap.size a b) (k : Below b.heap.size b c) : Below a.heap.size a c := h.trans (k.mono h.size)
theorem nulFree_fill (l : List UInt8) (n : Nat) : nulFree (l ++ nuls n) = nulFree l := by
  induction l with
  | nil => cases n <;> simp [nulFree, nuls, List.replicate_succ]
  | cons c l ih =>
    by_cases hc : c = 0
    · simp [nulFree, hc]
    · have e : ∀ m, nulFree (c :: m) = c :: nulFree m := fun m => by simp [nulFree, hc]
      rw [List.cons_append, e, e, ih]
theorem sumv_nuls (l : List UInt8) (n : Nat) : sumv (l ++ nuls n) = sumv l := by
  induction n with
  | zero => simp [nuls]
  | succ n ih => rw [← nuls_succ, ← List.append_assoc, sumv_snoc, ih]; simp
theorem fill_data (s : ByteArray) (m : Int) : ∃ n, (fillv s m).data.toList = s.data.toList ++ nuls n := by
  unfold fillv
  split
  · exact ⟨0, by simp [nuls]⟩
  · exact ⟨(m - s.size).toNat, by simp [nulv]⟩
theorem cut_fill (s : ByteArray) (m : Int) : cutv (fillv s m) = cutv s := by
  obtain ⟨n, h⟩ := fill_data s m
  unfold cutv
  rw [h, nulFree_fill]
theorem sum_fill (s : ByteArray) (m : Int) : sumv (fillv s m).data.toList = sumv s.data.toList := by
  obtain ⟨n, h⟩ := fill_data s m
  rw [h, sumv_nuls]
theorem pad_law (n u : Int) (h0 : 0 ≤ n) (h1 : n ≤ 9007199254740991) (h2 : 1 ≤ u) (h3 : u ≤ 512) : 0 ≤ padv n u ∧ padv n u < u ∧ (n + padv n u) % u = 0 := by
  have hm := Int.emod_nonneg n (show u ≠ 0 by omega)
  have hl := Int.emod_lt_of_pos n (show 0 < u by omega)
  rw [padv, if_pos ⟨h0, h1, h2, h3⟩]
  refine ⟨Int.emod_nonneg _ (by omega), Int.emod_lt_of_pos _ (by omega), ?_⟩
  rw [Int.add_emod, Int.emod_emod, ← Int.add_emod]
  have e : n + (u - n % u) = u * (n / u + 1) := by
    have := Int.mul_ediv_add_emod n u
    rw [Int.mul_add, Int.mul_one]; omega
  rw [e, Int.mul_emod_right]
theorem pad_bd (n u : Int) : 0 ≤ padv n u ∧ padv n u ≤ 512 := by
  by_cases hc : 0 ≤ n ∧ n ≤ 9007199254740991 ∧ 1 ≤ u ∧ u ≤ 512
  · have := pad_law n u hc.1 hc.2.1 hc.2.2.1 hc.2.2.2; omega
  · rw [padv, if_neg hc]; omega
theorem readDec_back (s : ByteArray) (h : 0 ≤ readDecv s) : decTextv (readDecv s) = s := by
  by_cases hc : cand2 s.data.toList ≤ 999999 ∧ decTextv (cand2 s.data.toList) = s
  · have e : readDecv s = cand2 s.data.toList := if_pos hc
    rw [e]; exact hc.2
  · have e : readDecv s = -1 := if_neg hc
    omega
theorem readDec_bd (s : ByteArray) : -1 ≤ readDecv s ∧ readDecv s ≤ 999999 := by
  have hl := lead_bd 10 (by omega) 0 s.data.toList (by omega) (by omega)
  unfold readDecv cand2
  split <;> omega

set_option maxRecDepth 100000 in
set_option maxHeartbeats 4000000 in
theorem fields_law (a : Option Addr) (len cap : Nat) (m : Int) (w : World) (hm : w.cell? ⟨0, 0, none⟩ = some (.int .i64 m)) (ht : Lib.TabIs Tryd.prog w "internal/strconv.uint64pow10" .u64 Lib.pow10Tab) (hC : len ≤ 1048576 → CodeIn w a len) :
    Calls Tryd.prog 4 #[.slice a len cap] w fun e w' => e = .returned (.bool true) ∧ Below w.heap.size w w' := by
  have h0 := cell_lt hm
  have HM := Lib.hid hm
  have HT := Lib.hid (fun w' hb => Lib.tabBelow_of_tabIs ht w' hb)
  clear ht hm
  by_cases hb : 1048576 < (len : Int)
  · have hd : decide (1048576 < (len : Int)) = true := by simpa using hb
    clear hC
    go_enter Tryd.func4, Tryd.ntmps4
    go_wp2_with fail
    refine (big_any _ _ _ _).mono ?_
    rintro e w1 ⟨rfl, rfl⟩
    go_wp2_with fail
    go_ret
    exact ⟨rfl, Below.refl _ _⟩
  · have hd : decide (1048576 < (len : Int)) = false := by simpa using hb
    have HC := Lib.hid (hC (by omega))
    clear hC
    go_enter Tryd.func4, Tryd.ntmps4
    go_wp2_with fail
    refine (big_any _ _ _ _).mono ?_
    rintro e w0 ⟨rfl, rfl⟩
    have B0 := Lib.hid (Below.refl w.heap.size w)
    go_wp2_with fail
    refine (drawPad _ _ _ _ (HC.out.below B0.out)).mono ?_
    rintro e w1 ⟨n, unit, hn, hu, rfl, b⟩
    have D1 := Lib.hid (btrans B0.out b)
    have hpb := pad_bd n unit
    have HPL := Lib.hid (pad_law n unit)
    have PI := Lib.hid (pad_impl n unit)
    have PS := Lib.hid (pad_spec n unit)
    have HNR := Lib.hid hn
    clear b hn
    generalize padv n unit = p at hpb HPL PI PS
    go_wp2_with fail
    refine (PI.out _).mono ?_
    rintro e w2 ⟨rfl, rfl⟩
    go_wp2_with fail
    refine (drawFill _ _ _ _ (HC.out.below D1.out)).mono ?_
    rintro e w3 ⟨s, wd, hs, hwd, rfl, b⟩
    have D3 := Lib.hid (btrans D1.out b)
    clear b
    have HS := Lib.hid hs
    have FI := Lib.hid (fun w => fill_impl s wd w (by omega))
    have FS := Lib.hid (fun w => fill_spec s wd w (by omega))
    have FZ := Lib.hid (fillv_size s wd)
    have FL := Lib.hid (show ¬ (1024 < wd ∨ wd ≤ s.size) → ((fillv s wd).size : Int) = wd from fun h => by
      rw [fillv, if_neg h, ByteArray.size_append, nulv_size]; omega)
    have FC := Lib.hid (cut_fill s wd)
    have FU := Lib.hid (sum_fill s wd)
    generalize fillv s wd = f at FI FS FZ FL FC FU
    go_wp2_with fail
    refine (FI.out _).mono ?_
    rintro e w4 ⟨rfl, b⟩
    have D4 := Lib.hid (btrans D3.out b)
    clear b
    go_wp2_with fail
    refine (drawCut _ _ _ _ (HC.out.below D4.out)).mono ?_
    rintro e w5 ⟨ct, hct, rfl, b⟩
    have D5 := Lib.hid (btrans D4.out b)
    clear b
    go_wp2_with fail
    refine (drawSumOf _ _ _ _ (HC.out.below D5.out)).mono ?_
    rintro e w6 ⟨ut, hut, rfl, b⟩
    have D6 := Lib.hid (btrans D5.out b)
    clear b
    go_wp2_with fail
    refine (drawDecText _ _ _ _ (HC.out.below D6.out)).mono ?_
    rintro e w7 ⟨dn, hdn, rfl, b⟩
    have D7 := Lib.hid (btrans D6.out b)
    have HDN := Lib.hid hdn
    clear b hdn
    go_wp2_with fail
    refine (drawReadDec _ _ _ _ (HC.out.below D7.out)).mono ?_
    rintro e w8 ⟨rt, hrt, rfl, b⟩
    have D8 := Lib.hid (btrans D7.out b)
    clear b
    go_wp2_with fail
    refine (drawWords _ _ _ _ (HC.out.below D8.out)).mono ?_
    rintro e w9 ⟨wt, hwt, rfl, b⟩
    have D9 := Lib.hid (btrans D8.out b)
    clear b
    go_wp2_with fail
    refine (PS.out _).mono ?_
    rintro e w10 ⟨rfl, rfl⟩
    have sf := self_eq f
    go_wp2_with fail
    refine (FS.out _).mono ?_
    rintro e w11 ⟨rfl, b⟩
    have D11 := Lib.hid (btrans D9.out b)
    clear b
    have CI := Lib.hid (fun w => cut_impl ct w (by omega))
    have CS := Lib.hid (fun w => cut_spec ct w (by omega))
    generalize cutv ct = ctv at CI CS
    have sc := self_eq ctv
    go_wp2_with fail
    refine (CI.out _).mono ?_
    rintro e w12 ⟨rfl, b⟩
    have D12 := Lib.hid (btrans D11.out b)
    clear b
    go_wp2_with fail
    refine (CS.out _).mono ?_
    rintro e w13 ⟨rfl, rfl⟩
    clear CI CS
    have UI := Lib.hid (fun w => sum_impl ut w (by omega))
    have US := Lib.hid (fun w => sum_spec ut w (by omega))
    generalize sumv ut.data.toList = uv at UI US
    go_wp2_with fail
    refine (UI.out _).mono ?_
    rintro e w14 ⟨rfl, rfl⟩
    go_wp2_with fail
    refine (US.out _).mono ?_
    rintro e w15 ⟨rfl, rfl⟩
    clear UI US
    have TI := Lib.hid (fun w h => decText_impl dn HDN.out.1 HDN.out.2 w h)
    have TSp := Lib.hid (fun w => decText_spec dn HDN.out.1 HDN.out.2 w)
    generalize decTextv dn = dv at TI TSp
    have sd := self_eq dv
    go_wp2_with fail
    refine (TI.out _ (HT.out _ D12.out)).mono ?_
    rintro e w16 ⟨rfl, b⟩
    have D16 := Lib.hid (btrans D12.out b)
    clear b
    go_wp2_with fail
    refine (TSp.out _).mono ?_
    rintro e w17 ⟨rfl, rfl⟩
    clear TI TSp
    have RI := Lib.hid (fun w h => readDec_impl rt w (by omega) h)
    have RS := Lib.hid (fun w => readDec_spec rt w (by omega))
    have hkb := readDec_bd rt
    have RB := Lib.hid (readDec_back rt)
    generalize readDecv rt = kv at RI RS hkb RB
    go_wp2_with fail
    refine (RI.out _ (HT.out _ D16.out)).mono ?_
    rintro e w18 ⟨rfl, b⟩
    have D18 := Lib.hid (btrans D16.out b)
    clear b
    go_wp2_with fail
    refine (RS.out _).mono ?_
    rintro e w19 ⟨rfl, rfl⟩
    have hle := count_le wt
    have hln := wordsv_len wt
    have HNW : Hid ((wordsv wt).length ≤ 2097152) := Lib.hid (by omega)
    have WI := Lib.hid (fun w => words_impl wt m w (by omega))
    have WS := Lib.hid (fun w => words_spec wt w (by omega))
    have HF : Hid (∀ {w : World} {base g n cap : Nat}, OwnT w base (.slice (some ⟨g, 0, none⟩) n cap) n (strVals (wordsv wt)) → RowF w g n (wordR wt)) := Lib.hid (fun h => h.rowF)
    clear hle hln
    generalize wordsv wt = L at WI WS HF HNW
    generalize wordR wt = R at HF
    generalize hLn : L.length = nw at *
    have z18 := D18.out.size
    go_wp2_with fail
    refine (WI.out _ (by omega) ((D18.out.cell (p := ⟨0, 0, none⟩) h0).trans HM.out)).mono ?_
    rintro e w20 ⟨g2, rfl, le2, lt2, ho2, b⟩
    have D20 := Lib.hid (btrans D18.out b)
    have O2 := Lib.hid ho2
    clear b ho2
    go_wp2_with fail
    refine (WS.out _).mono ?_
    rintro e w21 ⟨v, rfl, ⟨ho1, g1, cap1, rfl⟩, b⟩
    rw [hLn] at ho1
    have O1 := Lib.hid ho1
    have l1 := (World.ownsRow.lt ho1 g1 rfl)
    have O3 := Lib.hid (O2.out.below b lt2)
    have z21 := b.size
    have D21 := Lib.hid (btrans D20.out b)
    clear b ho1
    go_wp2_with fail
    refine (sameT_any R nw g2 g1 nw cap1 _ HNW.out (by omega) l1.2 (HF.out O3.out) (HF.out O1.out)).mono ?_
    rintro e w22 ⟨rfl, b⟩
    have D22 := Lib.hid (btrans D21.out b)
    clear b O1 O2 O3 WI WS HF RS
    have hfz : f.size ≤ 1048576 := by have := FZ.out; have := hwd.2; have := HS.out; omega
    have XF := Lib.hid (fun w => cut_impl f w (by omega))
    have XS := Lib.hid (fun w => cut_impl s w (by have := HS.out; omega))
    have YF := Lib.hid (fun w => sum_impl f w hfz)
    have YS := Lib.hid (fun w => sum_impl s w (by have := HS.out; omega))
    rw [FC.out] at XF
    rw [FU.out] at YF
    generalize cutv s = csv at XF XS
    generalize sumv s.data.toList = ssv at YF YS
    have scs := self_eq csv
    by_cases i1 : 0 ≤ n
    · by_cases i2 : n ≤ 9007199254740991
      · by_cases i3 : 1 ≤ unit
        · by_cases i4 : unit ≤ 512
          · obtain ⟨q1, q2, q3⟩ := HPL.out i1 i2 i3 i4
            have q3b : ((n + p) % unit == 0) = true := by simp [q3]
            have q4 : ¬ unit ≤ p := by omega
            clear q3
            go_wp2_with fail
            refine (RI.out _ (HT.out _ D22.out)).mono ?_
            rintro e w23 ⟨rfl, b⟩
            have D23 := Lib.hid (btrans D22.out b)
            clear b
            by_cases hk : 0 ≤ kv
            · have KI := Lib.hid (fun w h => decText_impl kv (by omega) (by omega) w h)
              rw [RB.out hk] at KI
              have sr := self_eq rt
              go_wp2_with fail
              refine (KI.out _ (HT.out _ D23.out)).mono ?_
              rintro e w24 ⟨rfl, b⟩
              have D24 := Lib.hid (btrans D23.out b)
              clear b
              go_wp2_with fail
              refine (XF.out _).mono ?_
              rintro e x1 ⟨rfl, b⟩
              have E1 := Lib.hid (btrans D24.out b)
              clear b
              go_wp2_with fail
              refine (XS.out _).mono ?_
              rintro e x2 ⟨rfl, b⟩
              have E2 := Lib.hid (btrans E1.out b)
              clear b
              go_wp2_with fail
              refine (YF.out _).mono ?_
              rintro e x3 ⟨rfl, rfl⟩
              go_wp2_with fail
              refine (YS.out _).mono ?_
              rintro e x4 ⟨rfl, rfl⟩
              by_cases c1 : wd ≤ (s.size : Int)
              · go_wp2_with fail
                go_ret
                exact ⟨rfl, E2.out⟩
              · by_cases c2 : 1024 < wd
                · go_wp2_with fail
                  go_ret
                  exact ⟨rfl, E2.out⟩
                · have c3 : ((f.size : Int) == wd) = true := by have := FL.out (by omega); simp [this]
                  go_wp2_with fail
                  go_ret
                  exact ⟨rfl, E2.out⟩
            · skip
              go_wp2_with fail
              refine (XF.out _).mono ?_
              rintro e x1 ⟨rfl, b⟩
              have E1 := Lib.hid (btrans D23.out b)
              clear b
              go_wp2_with fail
              refine (XS.out _).mono ?_
              rintro e x2 ⟨rfl, b⟩
              have E2 := Lib.hid (btrans E1.out b)
              clear b
              go_wp2_with fail
              refine (YF.out _).mono ?_
              rintro e x3 ⟨rfl, rfl⟩
              go_wp2_with fail
              refine (YS.out _).mono ?_
              rintro e x4 ⟨rfl, rfl⟩
              by_cases c1 : wd ≤ (s.size : Int)
              · go_wp2_with fail
                go_ret
                exact ⟨rfl, E2.out⟩
              · by_cases c2 : 1024 < wd
                · go_wp2_with fail
                  go_ret
                  exact ⟨rfl, E2.out⟩
                · have c3 : ((f.size : Int) == wd) = true := by have := FL.out (by omega); simp [this]
                  go_wp2_with fail
                  go_ret
                  exact ⟨rfl, E2.out⟩
            rename_i hx
            exact absurd (beq_iff_eq.1 q3b) hx
          · go_wp2_with fail
            refine (RI.out _ (HT.out _ D22.out)).mono ?_
            rintro e w23 ⟨rfl, b⟩
            have D23 := Lib.hid (btrans D22.out b)
            clear b
            by_cases hk : 0 ≤ kv
            · have KI := Lib.hid (fun w h => decText_impl kv (by omega) (by omega) w h)
              rw [RB.out hk] at KI
              have sr := self_eq rt
              go_wp2_with fail
              refine (KI.out _ (HT.out _ D23.out)).mono ?_
              rintro e w24 ⟨rfl, b⟩
              have D24 := Lib.hid (btrans D23.out b)
              clear b
              go_wp2_with fail
              refine (XF.out _).mono ?_
              rintro e x1 ⟨rfl, b⟩
              have E1 := Lib.hid (btrans D24.out b)
              clear b
              go_wp2_with fail
              refine (XS.out _).mono ?_
              rintro e x2 ⟨rfl, b⟩
              have E2 := Lib.hid (btrans E1.out b)
              clear b
              go_wp2_with fail
              refine (YF.out _).mono ?_
              rintro e x3 ⟨rfl, rfl⟩
              go_wp2_with fail
              refine (YS.out _).mono ?_
              rintro e x4 ⟨rfl, rfl⟩
              by_cases c1 : wd ≤ (s.size : Int)
              · go_wp2_with fail
                go_ret
                exact ⟨rfl, E2.out⟩
              · by_cases c2 : 1024 < wd
                · go_wp2_with fail
                  go_ret
                  exact ⟨rfl, E2.out⟩
                · have c3 : ((f.size : Int) == wd) = true := by have := FL.out (by omega); simp [this]
                  go_wp2_with fail
                  go_ret
                  exact ⟨rfl, E2.out⟩
            · skip
              go_wp2_with fail
              refine (XF.out _).mono ?_
              rintro e x1 ⟨rfl, b⟩
              have E1 := Lib.hid (btrans D23.out b)
              clear b
              go_wp2_with fail
              refine (XS.out _).mono ?_
              rintro e x2 ⟨rfl, b⟩
              have E2 := Lib.hid (btrans E1.out b)
              clear b
              go_wp2_with fail
              refine (YF.out _).mono ?_
              rintro e x3 ⟨rfl, rfl⟩
              go_wp2_with fail
              refine (YS.out _).mono ?_
              rintro e x4 ⟨rfl, rfl⟩
              by_cases c1 : wd ≤ (s.size : Int)
              · go_wp2_with fail
                go_ret
                exact ⟨rfl, E2.out⟩
              · by_cases c2 : 1024 < wd
                · go_wp2_with fail
                  go_ret
                  exact ⟨rfl, E2.out⟩
                · have c3 : ((f.size : Int) == wd) = true := by have := FL.out (by omega); simp [this]
                  go_wp2_with fail
                  go_ret
                  exact ⟨rfl, E2.out⟩
        · go_wp2_with fail
          refine (RI.out _ (HT.out _ D22.out)).mono ?_
          rintro e w23 ⟨rfl, b⟩
          have D23 := Lib.hid (btrans D22.out b)
          clear b
          by_cases hk : 0 ≤ kv
          · have KI := Lib.hid (fun w h => decText_impl kv (by omega) (by omega) w h)
            rw [RB.out hk] at KI
            have sr := self_eq rt
            go_wp2_with fail
            refine (KI.out _ (HT.out _ D23.out)).mono ?_
            rintro e w24 ⟨rfl, b⟩
            have D24 := Lib.hid (btrans D23.out b)
            clear b
            go_wp2_with fail
            refine (XF.out _).mono ?_
            rintro e x1 ⟨rfl, b⟩
            have E1 := Lib.hid (btrans D24.out b)
            clear b
            go_wp2_with fail
            refine (XS.out _).mono ?_
            rintro e x2 ⟨rfl, b⟩
            have E2 := Lib.hid (btrans E1.out b)
            clear b
            go_wp2_with fail
            refine (YF.out _).mono ?_
            rintro e x3 ⟨rfl, rfl⟩
            go_wp2_with fail
            refine (YS.out _).mono ?_
            rintro e x4 ⟨rfl, rfl⟩
            by_cases c1 : wd ≤ (s.size : Int)
            · go_wp2_with fail
              go_ret
              exact ⟨rfl, E2.out⟩
            · by_cases c2 : 1024 < wd
              · go_wp2_with fail
                go_ret
                exact ⟨rfl, E2.out⟩
              · have c3 : ((f.size : Int) == wd) = true := by have := FL.out (by omega); simp [this]
                go_wp2_with fail
                go_ret
                exact ⟨rfl, E2.out⟩
          · skip
            go_wp2_with fail
            refine (XF.out _).mono ?_
            rintro e x1 ⟨rfl, b⟩
            have E1 := Lib.hid (btrans D23.out b)
            clear b
            go_wp2_with fail
            refine (XS.out _).mono ?_
            rintro e x2 ⟨rfl, b⟩
            have E2 := Lib.hid (btrans E1.out b)
            clear b
            go_wp2_with fail
            refine (YF.out _).mono ?_
            rintro e x3 ⟨rfl, rfl⟩
            go_wp2_with fail
            refine (YS.out _).mono ?_
            rintro e x4 ⟨rfl, rfl⟩
            by_cases c1 : wd ≤ (s.size : Int)
            · go_wp2_with fail
              go_ret
              exact ⟨rfl, E2.out⟩
            · by_cases c2 : 1024 < wd
              · go_wp2_with fail
                go_ret
                exact ⟨rfl, E2.out⟩
              · have c3 : ((f.size : Int) == wd) = true := by have := FL.out (by omega); simp [this]
                go_wp2_with fail
                go_ret
                exact ⟨rfl, E2.out⟩
      · go_wp2_with fail
        refine (RI.out _ (HT.out _ D22.out)).mono ?_
        rintro e w23 ⟨rfl, b⟩
        have D23 := Lib.hid (btrans D22.out b)
        clear b
        by_cases hk : 0 ≤ kv
        · have KI := Lib.hid (fun w h => decText_impl kv (by omega) (by omega) w h)
          rw [RB.out hk] at KI
          have sr := self_eq rt
          go_wp2_with fail
          refine (KI.out _ (HT.out _ D23.out)).mono ?_
          rintro e w24 ⟨rfl, b⟩
          have D24 := Lib.hid (btrans D23.out b)
          clear b
          go_wp2_with fail
          refine (XF.out _).mono ?_
          rintro e x1 ⟨rfl, b⟩
          have E1 := Lib.hid (btrans D24.out b)
          clear b
          go_wp2_with fail
          refine (XS.out _).mono ?_
          rintro e x2 ⟨rfl, b⟩
          have E2 := Lib.hid (btrans E1.out b)
          clear b
          go_wp2_with fail
          refine (YF.out _).mono ?_
          rintro e x3 ⟨rfl, rfl⟩
          go_wp2_with fail
          refine (YS.out _).mono ?_
          rintro e x4 ⟨rfl, rfl⟩
          by_cases c1 : wd ≤ (s.size : Int)
          · go_wp2_with fail
            go_ret
            exact ⟨rfl, E2.out⟩
          · by_cases c2 : 1024 < wd
            · go_wp2_with fail
              go_ret
              exact ⟨rfl, E2.out⟩
            · have c3 : ((f.size : Int) == wd) = true := by have := FL.out (by omega); simp [this]
              go_wp2_with fail
              go_ret
              exact ⟨rfl, E2.out⟩
        · skip
          go_wp2_with fail
          refine (XF.out _).mono ?_
          rintro e x1 ⟨rfl, b⟩
          have E1 := Lib.hid (btrans D23.out b)
          clear b
          go_wp2_with fail
          refine (XS.out _).mono ?_
          rintro e x2 ⟨rfl, b⟩
          have E2 := Lib.hid (btrans E1.out b)
          clear b
          go_wp2_with fail
          refine (YF.out _).mono ?_
          rintro e x3 ⟨rfl, rfl⟩
          go_wp2_with fail
          refine (YS.out _).mono ?_
          rintro e x4 ⟨rfl, rfl⟩
          by_cases c1 : wd ≤ (s.size : Int)
          · go_wp2_with fail
            go_ret
            exact ⟨rfl, E2.out⟩
          · by_cases c2 : 1024 < wd
            · go_wp2_with fail
              go_ret
              exact ⟨rfl, E2.out⟩
            · have c3 : ((f.size : Int) == wd) = true := by have := FL.out (by omega); simp [this]
              go_wp2_with fail
              go_ret
              exact ⟨rfl, E2.out⟩
    · go_wp2_with fail
      refine (RI.out _ (HT.out _ D22.out)).mono ?_
      rintro e w23 ⟨rfl, b⟩
      have D23 := Lib.hid (btrans D22.out b)
      clear b
      by_cases hk : 0 ≤ kv
      · have KI := Lib.hid (fun w h => decText_impl kv (by omega) (by omega) w h)
        rw [RB.out hk] at KI
        have sr := self_eq rt
        go_wp2_with fail
        refine (KI.out _ (HT.out _ D23.out)).mono ?_
        rintro e w24 ⟨rfl, b⟩
        have D24 := Lib.hid (btrans D23.out b)
        clear b
        go_wp2_with fail
        refine (XF.out _).mono ?_
        rintro e x1 ⟨rfl, b⟩
        have E1 := Lib.hid (btrans D24.out b)
        clear b
        go_wp2_with fail
        refine (XS.out _).mono ?_
        rintro e x2 ⟨rfl, b⟩
        have E2 := Lib.hid (btrans E1.out b)
        clear b
        go_wp2_with fail
        refine (YF.out _).mono ?_
        rintro e x3 ⟨rfl, rfl⟩
        go_wp2_with fail
        refine (YS.out _).mono ?_
        rintro e x4 ⟨rfl, rfl⟩
        by_cases c1 : wd ≤ (s.size : Int)
        · go_wp2_with fail
          go_ret
          exact ⟨rfl, E2.out⟩
        · by_cases c2 : 1024 < wd
          · go_wp2_with fail
            go_ret
            exact ⟨rfl, E2.out⟩
          · have c3 : ((f.size : Int) == wd) = true := by have := FL.out (by omega); simp [this]
            go_wp2_with fail
            go_ret
            exact ⟨rfl, E2.out⟩
      · skip
        go_wp2_with fail
        refine (XF.out _).mono ?_
        rintro e x1 ⟨rfl, b⟩
        have E1 := Lib.hid (btrans D23.out b)
        clear b
        go_wp2_with fail
        refine (XS.out _).mono ?_
        rintro e x2 ⟨rfl, b⟩
        have E2 := Lib.hid (btrans E1.out b)
        clear b
        go_wp2_with fail
        refine (YF.out _).mono ?_
        rintro e x3 ⟨rfl, rfl⟩
        go_wp2_with fail
        refine (YS.out _).mono ?_
        rintro e x4 ⟨rfl, rfl⟩
        by_cases c1 : wd ≤ (s.size : Int)
        · go_wp2_with fail
          go_ret
          exact ⟨rfl, E2.out⟩
        · by_cases c2 : 1024 < wd
          · go_wp2_with fail
            go_ret
            exact ⟨rfl, E2.out⟩
          · have c3 : ((f.size : Int) == wd) = true := by have := FL.out (by omega); simp [this]
            go_wp2_with fail
            go_ret
            exact ⟨rfl, E2.out⟩
end Go.Proofs.YtndgppabfdeecabDoor
