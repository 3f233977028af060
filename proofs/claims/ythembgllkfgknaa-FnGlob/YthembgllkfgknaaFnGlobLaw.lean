/- The law laws.FnGlob returns true. -/
import Derived.Test.YthembgllkfgknaaGlobFacts
import Derived.Test.YthembgllkfgknaaGlobSpec
import Derived.Test.YthembgllkfgknaaSwapI
import Derived.Test.YthembgllkfgknaaDrawGlob
import Derived.Test.YthembgllkfgknaaDrawSwap
import Derived.Test.YthembgllkfgknaaBig
namespace Go.Proofs.Ythembgllkfgknaa
open Go.RowKit Go.Shelf

set_option maxHeartbeats 4000000 in
set_option maxRecDepth 8000 in
theorem fnGlob_law (a : Option Addr) (len cap : Nat) (w : World) (hC : len ≤ 1048576 → CodeIn w a len) :
    Calls Try.prog 3 #[.slice a len cap] w fun e w' => e = .returned (.bool true) ∧ Below w.heap.size w w' := by
  have HB := Lib.hid (fun w => bigc_any a len cap w)
  by_cases hl : len ≤ 1048576
  · have HC := Lib.hid (hC hl)
    have hd : decide (1048576 < (len : Int)) = false := by simp; omega
    rw [hd] at HB
    clear hd hC
    go_enter Try.func3, Try.ntmps3
    go_wp2_with fail
    refine (HB.out _).mono ?_
    rintro e w0 ⟨rfl, rfl⟩
    have B0 := Lib.hid (Below.refl w.heap.size w)
    clear HB
    go_wp2_with fail
    refine (drawGlob a len cap _ (HC.out.below B0.out)).mono ?_
    rintro e w1 ⟨p, s, hp, hs, rfl, b⟩
    have B1 := Lib.hid (bt B0.out b)
    clear b B0
    go_wp2_with fail
    refine (drawStrip a len cap _ (HC.out.below B1.out)).mono ?_
    rintro e w2 ⟨t, n, ht, hn1, hn2, rfl, b⟩
    have B2 := Lib.hid (bt B1.out b)
    clear b B1
    go_wp2_with fail
    refine (drawSwap a len cap _ (HC.out.below B2.out)).mono ?_
    rintro e w3 ⟨x, f, u, hx, hf, hu, rfl, b⟩
    have B3 := Lib.hid (bt B2.out b)
    clear b B2
    have HGI := Lib.hid (fun w => glob_impl p s w (by omega) (by omega))
    have HGS := Lib.hid (fun w => glob_spec p s w (by omega) (by omega))
    have HTI := Lib.hid (fun w => strip_impl t n w (by omega))
    have HTS := Lib.hid (fun w => strip_spec t n w (by omega))
    have HWI := Lib.hid (fun w => swap_impl x f u w (by omega) (by omega) (by omega))
    have HWS := Lib.hid (fun w => swap_spec x f u w (by omega) (by omega) (by omega))
    have HSS : Hid (∀ w, Calls Try.prog 11 #[.string ⟨#[42, 42]⟩, .string s] w fun e w' => e = .returned (.bool true) ∧ Below w.heap.size w w') := Lib.hid (fun w => by have h := glob_impl ⟨#[42, 42]⟩ s w (by decide) (by omega); rwa [glob_ss hs] at h)
    have HST := Lib.hid (fun w => glob_impl ⟨#[42]⟩ s w (by decide) (by omega))
    have HSE := Lib.hid (fun w => glob_impl s s w (by omega) (by omega))
    have HSL := Lib.hid (fun (h : s.size ≤ 50) hn => glob_self h hn)
    have HBI := Lib.hid (fun w => base_impl s w (by omega))
    have HBE := Lib.hid (fun h => glob_st (s := s) h)
    generalize globv p s = g at HGI HGS
    generalize globv ⟨#[42]⟩ s = st at HST HBE
    generalize globv s s = se at HSE HSL
    generalize basev s = bs at HBI HBE
    have HAG := Lib.hid (fun h => strip_good (s := t) (n := n) h)
    have haz := strip_size t n
    generalize stripv t n = av at HTI HTS HAG haz
    have HWP := Lib.hid (swap_path x f u)
    have hbz := swap_size x f u
    generalize swapv x f u = bv at HWI HWS HWP hbz
    have HPA := Lib.hid (fun w => pathOk_impl av w (by omega))
    have HDA := Lib.hid (fun w => depth_impl av w (by omega))
    have HDT := Lib.hid (fun w => depth_impl t w (by omega))
    have HPB := Lib.hid (fun w => pathOk_impl bv w (by omega))
    have hdt : depthv t ≤ 401 ∧ 0 ≤ depthv t := by
      unfold depthv
      have := partsv_le t
      split
      · omega
      · omega
    generalize depthv t = dt at HDT HAG hdt
    generalize depthv av = da at HDA HAG
    generalize pathOkv av = pa at HPA HAG
    generalize pathOkv bv = pb at HPB HWP
    have hdt1 := hdt.1
    have hdt2 := hdt.2
    clear hdt
    go_wp2_with fail
    refine (HTI.out _).mono ?_
    rintro e w4 ⟨rfl, b⟩
    have B4 := Lib.hid (bt B3.out b)
    clear b B3
    go_wp2_with fail
    refine (HWI.out _).mono ?_
    rintro e w5 ⟨rfl, b⟩
    have B5 := Lib.hid (bt B4.out b)
    clear b B4
    go_wp2_with fail
    refine (HGI.out _).mono ?_
    rintro e w6 ⟨rfl, b⟩
    have B6 := Lib.hid (bt B5.out b)
    clear b B5
    go_wp2_with fail
    refine (HGS.out _).mono ?_
    rintro e w7 ⟨rfl, b⟩
    have B7 := Lib.hid (bt B6.out b)
    clear b B6
    have qg : (g != g) = false := by simp
    have qa : (av.toList == av.toList) = true := by simp
    have qb : (bv.toList == bv.toList) = true := by simp
    go_wp2_with fail
    refine (HTS.out _).mono ?_
    rintro e w8 ⟨rfl, b⟩
    have B8 := Lib.hid (bt B7.out b)
    clear b B7
    go_wp2_with fail
    refine (HWS.out _).mono ?_
    rintro e w9 ⟨rfl, b⟩
    have B9 := Lib.hid (bt B8.out b)
    clear b B8
    go_wp2_with fail
    refine (HSS.out _).mono ?_
    rintro e w10 ⟨rfl, b⟩
    have B10 := Lib.hid (bt B9.out b)
    clear b B9
    clear HTI HWI HGI HGS HTS HWS HSS qg HC
    go_wp2_with fail
    generalize hWL : w10 = wl at *
    clear hWL
    go_loop [12, 13] (fun v u => ∃ (pl : Bool) (i : Nat), v = .bool pl ∧ u = .int .i64 i ∧ i ≤ s.size ∧ (pl = true → ∀ j, (h : j < s.size) → j < i → s[j] ≠ 42)) (fun _ u => s.size - (intOf u).toNat)
    case atStart => exact ⟨true, 0, rfl, rfl, Nat.zero_le _, fun _ j _ h => by omega⟩
    case round =>
      obtain ⟨pl, i, rfl, rfl, hi, hpl⟩ := hrel
      have HPL := Lib.hid hpl
      clear hpl
      by_cases hlt : i < s.size
      · have hlt2 : (i : Int) < (s.size : Int) := by omega
        have hcn := UInt8.toNat_lt s[i]
        cases pl with
        | false =>
          go_wp2
          go_round
          case rel => exact ⟨false, i + 1, rfl, by go_num, by omega, fun h => by cases h⟩
          case measure => simp [intOf]; omega
        | true =>
          have HP2 : Hid (∀ j, (h : j < s.size) → j < i → s[j] ≠ 42) := Lib.hid (HPL.out rfl)
          clear HPL
          by_cases h42 : (s[i].toNat : Int) = 42
          · have q1 : ((s[i].toNat : Int) != 42) = false := by simp [h42]
            clear h42
            go_wp2
            go_round
            case rel => exact ⟨false, i + 1, rfl, by go_num, by omega, fun h => by cases h⟩
            case measure => simp [intOf]; omega
          · have q1 : ((s[i].toNat : Int) != 42) = true := by simpa using h42
            have HN : Hid (s[i] ≠ 42) := Lib.hid (fun e => h42 (by rw [e]; rfl))
            clear h42
            by_cases h63 : (s[i].toNat : Int) = 63
            · have q2 : ((s[i].toNat : Int) != 63) = false := by simp [h63]
              clear h63
              go_wp2
              go_round
              case rel => exact ⟨false, i + 1, rfl, by go_num, by omega, fun h => by cases h⟩
              case measure => simp [intOf]; omega
            · have q2 : ((s[i].toNat : Int) != 63) = true := by simpa using h63
              clear h63
              go_wp2
              go_round
              case rel => exact ⟨true, i + 1, rfl, by go_num, by omega, fun _ j h hj => by
                by_cases e : j = i
                · subst e; exact HN.out
                · exact HP2.out j h (by omega)⟩
              case measure => simp [intOf]; omega
      · obtain rfl : i = s.size := by omega
        have hlt2 : ¬ (s.size : Int) < (s.size : Int) := by omega
        cases pl with
        | false =>
          cases st with
          | false =>
            go_wp2_with fail
            refine (HST.out _).mono ?_
            rintro e w11 ⟨rfl, b⟩
            have B11 := Lib.hid (bt B10.out b)
            clear b B10
            by_cases hae : av.size = 0
            · have q6 := empty_t hae
              clear hae
              by_cases hbx : bv = x
              · have q7 := ba_eq hbx
                clear hbx
                go_wp2_with fail
                go_ret
                exact ⟨rfl, B11.out⟩
              · have q7 := ba_ne hbx
                obtain rfl : pb = true := HWP.out.resolve_left hbx
                clear hbx
                go_wp2_with fail
                refine (HPB.out _).mono ?_
                rintro e w12 ⟨rfl, b⟩
                have B12 := Lib.hid (bt B11.out b)
                clear b B11
                go_wp2_with fail
                go_ret
                exact ⟨rfl, B12.out⟩
            · have q6 := empty_f hae
              obtain ⟨rfl, rfl⟩ := HAG.out hae
              clear hae
              go_wp2_with fail
              refine (HPA.out _).mono ?_
              rintro e w12 ⟨rfl, b⟩
              have B12 := Lib.hid (bt B11.out b)
              clear b B11
              go_wp2_with fail
              refine (HDA.out _).mono ?_
              rintro e w13 ⟨rfl, b⟩
              have B13 := Lib.hid (bt B12.out b)
              clear b B12
              go_wp2_with fail
              refine (HDT.out _).mono ?_
              rintro e w14 ⟨rfl, b⟩
              have B14 := Lib.hid (bt B13.out b)
              clear b B13
              have q8 : ((dt - n) == (dt - n)) = true := by simp
              by_cases hbx : bv = x
              · have q7 := ba_eq hbx
                clear hbx
                go_wp2_with fail
                go_ret
                exact ⟨rfl, B14.out⟩
              · have q7 := ba_ne hbx
                obtain rfl : pb = true := HWP.out.resolve_left hbx
                clear hbx
                go_wp2_with fail
                refine (HPB.out _).mono ?_
                rintro e w15 ⟨rfl, b⟩
                have B15 := Lib.hid (bt B14.out b)
                clear b B14
                go_wp2_with fail
                go_ret
                exact ⟨rfl, B15.out⟩
          | true =>
            obtain rfl : bs = s := HBE.out rfl
            have q5 : (bs.toList == bs.toList) = true := by simp
            go_wp2_with fail
            refine (HST.out _).mono ?_
            rintro e w11 ⟨rfl, b⟩
            have B11 := Lib.hid (bt B10.out b)
            clear b B10
            go_wp2_with fail
            refine (HBI.out _).mono ?_
            rintro e w12 ⟨rfl, b⟩
            have B12 := Lib.hid (bt B11.out b)
            clear b B11
            by_cases hae : av.size = 0
            · have q6 := empty_t hae
              clear hae
              by_cases hbx : bv = x
              · have q7 := ba_eq hbx
                clear hbx
                go_wp2_with fail
                go_ret
                exact ⟨rfl, B12.out⟩
              · have q7 := ba_ne hbx
                obtain rfl : pb = true := HWP.out.resolve_left hbx
                clear hbx
                go_wp2_with fail
                refine (HPB.out _).mono ?_
                rintro e w13 ⟨rfl, b⟩
                have B13 := Lib.hid (bt B12.out b)
                clear b B12
                go_wp2_with fail
                go_ret
                exact ⟨rfl, B13.out⟩
            · have q6 := empty_f hae
              obtain ⟨rfl, rfl⟩ := HAG.out hae
              clear hae
              go_wp2_with fail
              refine (HPA.out _).mono ?_
              rintro e w13 ⟨rfl, b⟩
              have B13 := Lib.hid (bt B12.out b)
              clear b B12
              go_wp2_with fail
              refine (HDA.out _).mono ?_
              rintro e w14 ⟨rfl, b⟩
              have B14 := Lib.hid (bt B13.out b)
              clear b B13
              go_wp2_with fail
              refine (HDT.out _).mono ?_
              rintro e w15 ⟨rfl, b⟩
              have B15 := Lib.hid (bt B14.out b)
              clear b B14
              have q8 : ((dt - n) == (dt - n)) = true := by simp
              by_cases hbx : bv = x
              · have q7 := ba_eq hbx
                clear hbx
                go_wp2_with fail
                go_ret
                exact ⟨rfl, B15.out⟩
              · have q7 := ba_ne hbx
                obtain rfl : pb = true := HWP.out.resolve_left hbx
                clear hbx
                go_wp2_with fail
                refine (HPB.out _).mono ?_
                rintro e w16 ⟨rfl, b⟩
                have B16 := Lib.hid (bt B15.out b)
                clear b B15
                go_wp2_with fail
                go_ret
                exact ⟨rfl, B16.out⟩
        | true =>
          by_cases h50 : s.size ≤ 50
          · have h51 : (s.size : Int) ≤ 50 := by omega
            obtain rfl : se = true := HSL.out h50 (fun j h => HPL.out rfl j h h)
            clear h50
            go_wp2_with fail
            refine (HSE.out _).mono ?_
            rintro e w11 ⟨rfl, b⟩
            have B11 := Lib.hid (bt B10.out b)
            clear b B10
            cases st with
            | false =>
              go_wp2_with fail
              refine (HST.out _).mono ?_
              rintro e w12 ⟨rfl, b⟩
              have B12 := Lib.hid (bt B11.out b)
              clear b B11
              by_cases hae : av.size = 0
              · have q6 := empty_t hae
                clear hae
                by_cases hbx : bv = x
                · have q7 := ba_eq hbx
                  clear hbx
                  go_wp2_with fail
                  go_ret
                  exact ⟨rfl, B12.out⟩
                · have q7 := ba_ne hbx
                  obtain rfl : pb = true := HWP.out.resolve_left hbx
                  clear hbx
                  go_wp2_with fail
                  refine (HPB.out _).mono ?_
                  rintro e w13 ⟨rfl, b⟩
                  have B13 := Lib.hid (bt B12.out b)
                  clear b B12
                  go_wp2_with fail
                  go_ret
                  exact ⟨rfl, B13.out⟩
              · have q6 := empty_f hae
                obtain ⟨rfl, rfl⟩ := HAG.out hae
                clear hae
                go_wp2_with fail
                refine (HPA.out _).mono ?_
                rintro e w13 ⟨rfl, b⟩
                have B13 := Lib.hid (bt B12.out b)
                clear b B12
                go_wp2_with fail
                refine (HDA.out _).mono ?_
                rintro e w14 ⟨rfl, b⟩
                have B14 := Lib.hid (bt B13.out b)
                clear b B13
                go_wp2_with fail
                refine (HDT.out _).mono ?_
                rintro e w15 ⟨rfl, b⟩
                have B15 := Lib.hid (bt B14.out b)
                clear b B14
                have q8 : ((dt - n) == (dt - n)) = true := by simp
                by_cases hbx : bv = x
                · have q7 := ba_eq hbx
                  clear hbx
                  go_wp2_with fail
                  go_ret
                  exact ⟨rfl, B15.out⟩
                · have q7 := ba_ne hbx
                  obtain rfl : pb = true := HWP.out.resolve_left hbx
                  clear hbx
                  go_wp2_with fail
                  refine (HPB.out _).mono ?_
                  rintro e w16 ⟨rfl, b⟩
                  have B16 := Lib.hid (bt B15.out b)
                  clear b B15
                  go_wp2_with fail
                  go_ret
                  exact ⟨rfl, B16.out⟩
            | true =>
              obtain rfl : bs = s := HBE.out rfl
              have q5 : (bs.toList == bs.toList) = true := by simp
              go_wp2_with fail
              refine (HST.out _).mono ?_
              rintro e w12 ⟨rfl, b⟩
              have B12 := Lib.hid (bt B11.out b)
              clear b B11
              go_wp2_with fail
              refine (HBI.out _).mono ?_
              rintro e w13 ⟨rfl, b⟩
              have B13 := Lib.hid (bt B12.out b)
              clear b B12
              by_cases hae : av.size = 0
              · have q6 := empty_t hae
                clear hae
                by_cases hbx : bv = x
                · have q7 := ba_eq hbx
                  clear hbx
                  go_wp2_with fail
                  go_ret
                  exact ⟨rfl, B13.out⟩
                · have q7 := ba_ne hbx
                  obtain rfl : pb = true := HWP.out.resolve_left hbx
                  clear hbx
                  go_wp2_with fail
                  refine (HPB.out _).mono ?_
                  rintro e w14 ⟨rfl, b⟩
                  have B14 := Lib.hid (bt B13.out b)
                  clear b B13
                  go_wp2_with fail
                  go_ret
                  exact ⟨rfl, B14.out⟩
              · have q6 := empty_f hae
                obtain ⟨rfl, rfl⟩ := HAG.out hae
                clear hae
                go_wp2_with fail
                refine (HPA.out _).mono ?_
                rintro e w14 ⟨rfl, b⟩
                have B14 := Lib.hid (bt B13.out b)
                clear b B13
                go_wp2_with fail
                refine (HDA.out _).mono ?_
                rintro e w15 ⟨rfl, b⟩
                have B15 := Lib.hid (bt B14.out b)
                clear b B14
                go_wp2_with fail
                refine (HDT.out _).mono ?_
                rintro e w16 ⟨rfl, b⟩
                have B16 := Lib.hid (bt B15.out b)
                clear b B15
                have q8 : ((dt - n) == (dt - n)) = true := by simp
                by_cases hbx : bv = x
                · have q7 := ba_eq hbx
                  clear hbx
                  go_wp2_with fail
                  go_ret
                  exact ⟨rfl, B16.out⟩
                · have q7 := ba_ne hbx
                  obtain rfl : pb = true := HWP.out.resolve_left hbx
                  clear hbx
                  go_wp2_with fail
                  refine (HPB.out _).mono ?_
                  rintro e w17 ⟨rfl, b⟩
                  have B17 := Lib.hid (bt B16.out b)
                  clear b B16
                  go_wp2_with fail
                  go_ret
                  exact ⟨rfl, B17.out⟩
          · have h51 : ¬ (s.size : Int) ≤ 50 := by omega
            clear h50
            cases st with
            | false =>
              go_wp2_with fail
              refine (HST.out _).mono ?_
              rintro e w11 ⟨rfl, b⟩
              have B11 := Lib.hid (bt B10.out b)
              clear b B10
              by_cases hae : av.size = 0
              · have q6 := empty_t hae
                clear hae
                by_cases hbx : bv = x
                · have q7 := ba_eq hbx
                  clear hbx
                  go_wp2_with fail
                  go_ret
                  exact ⟨rfl, B11.out⟩
                · have q7 := ba_ne hbx
                  obtain rfl : pb = true := HWP.out.resolve_left hbx
                  clear hbx
                  go_wp2_with fail
                  refine (HPB.out _).mono ?_
                  rintro e w12 ⟨rfl, b⟩
                  have B12 := Lib.hid (bt B11.out b)
                  clear b B11
                  go_wp2_with fail
                  go_ret
                  exact ⟨rfl, B12.out⟩
              · have q6 := empty_f hae
                obtain ⟨rfl, rfl⟩ := HAG.out hae
                clear hae
                go_wp2_with fail
                refine (HPA.out _).mono ?_
                rintro e w12 ⟨rfl, b⟩
                have B12 := Lib.hid (bt B11.out b)
                clear b B11
                go_wp2_with fail
                refine (HDA.out _).mono ?_
                rintro e w13 ⟨rfl, b⟩
                have B13 := Lib.hid (bt B12.out b)
                clear b B12
                go_wp2_with fail
                refine (HDT.out _).mono ?_
                rintro e w14 ⟨rfl, b⟩
                have B14 := Lib.hid (bt B13.out b)
                clear b B13
                have q8 : ((dt - n) == (dt - n)) = true := by simp
                by_cases hbx : bv = x
                · have q7 := ba_eq hbx
                  clear hbx
                  go_wp2_with fail
                  go_ret
                  exact ⟨rfl, B14.out⟩
                · have q7 := ba_ne hbx
                  obtain rfl : pb = true := HWP.out.resolve_left hbx
                  clear hbx
                  go_wp2_with fail
                  refine (HPB.out _).mono ?_
                  rintro e w15 ⟨rfl, b⟩
                  have B15 := Lib.hid (bt B14.out b)
                  clear b B14
                  go_wp2_with fail
                  go_ret
                  exact ⟨rfl, B15.out⟩
            | true =>
              obtain rfl : bs = s := HBE.out rfl
              have q5 : (bs.toList == bs.toList) = true := by simp
              go_wp2_with fail
              refine (HST.out _).mono ?_
              rintro e w11 ⟨rfl, b⟩
              have B11 := Lib.hid (bt B10.out b)
              clear b B10
              go_wp2_with fail
              refine (HBI.out _).mono ?_
              rintro e w12 ⟨rfl, b⟩
              have B12 := Lib.hid (bt B11.out b)
              clear b B11
              by_cases hae : av.size = 0
              · have q6 := empty_t hae
                clear hae
                by_cases hbx : bv = x
                · have q7 := ba_eq hbx
                  clear hbx
                  go_wp2_with fail
                  go_ret
                  exact ⟨rfl, B12.out⟩
                · have q7 := ba_ne hbx
                  obtain rfl : pb = true := HWP.out.resolve_left hbx
                  clear hbx
                  go_wp2_with fail
                  refine (HPB.out _).mono ?_
                  rintro e w13 ⟨rfl, b⟩
                  have B13 := Lib.hid (bt B12.out b)
                  clear b B12
                  go_wp2_with fail
                  go_ret
                  exact ⟨rfl, B13.out⟩
              · have q6 := empty_f hae
                obtain ⟨rfl, rfl⟩ := HAG.out hae
                clear hae
                go_wp2_with fail
                refine (HPA.out _).mono ?_
                rintro e w13 ⟨rfl, b⟩
                have B13 := Lib.hid (bt B12.out b)
                clear b B12
                go_wp2_with fail
                refine (HDA.out _).mono ?_
                rintro e w14 ⟨rfl, b⟩
                have B14 := Lib.hid (bt B13.out b)
                clear b B13
                go_wp2_with fail
                refine (HDT.out _).mono ?_
                rintro e w15 ⟨rfl, b⟩
                have B15 := Lib.hid (bt B14.out b)
                clear b B14
                have q8 : ((dt - n) == (dt - n)) = true := by simp
                by_cases hbx : bv = x
                · have q7 := ba_eq hbx
                  clear hbx
                  go_wp2_with fail
                  go_ret
                  exact ⟨rfl, B15.out⟩
                · have q7 := ba_ne hbx
                  obtain rfl : pb = true := HWP.out.resolve_left hbx
                  clear hbx
                  go_wp2_with fail
                  refine (HPB.out _).mono ?_
                  rintro e w16 ⟨rfl, b⟩
                  have B16 := Lib.hid (bt B15.out b)
                  clear b B15
                  go_wp2_with fail
                  go_ret
                  exact ⟨rfl, B16.out⟩
  · have hd : decide (1048576 < (len : Int)) = true := by simp; omega
    rw [hd] at HB
    go_enter Try.func3, Try.ntmps3
    go_wp2_with fail
    refine (HB.out _).mono ?_
    rintro e w0 ⟨rfl, rfl⟩
    go_wp2_with fail
    go_ret
    exact ⟨rfl, Below.refl _ _⟩
end Go.Proofs.Ythembgllkfgknaa
