/- Contract of spec.l01Text: it ends, and gives a text of the length asked. -/
import Derived.Test.YtndgppabfdeecabDoorCurs
import Derived.Test.YtndgppabfdeecabDoorOwn
import Derived.Test.YtndgppabfdeecabDoorNew
import Derived.Maps.AppendAt
import Derived.Deep.RegionWith
import Derived.IntWalk
namespace Go.Proofs.YtndgppabfdeecabDoor
open Go.ChangeShapes Go.WideShapes Go.ChangeAt Go.RowKit

def lenv : Value → Nat
  | .slice _ n _ => n
  | _ => 0
def kOf (w : World) (c : Nat) : Nat := match w.cell? ⟨c, 1, none⟩ with
  | some (.int _ i) => i.toNat
  | _ => 0
def hOf (w : World) (c : Nat) : Int := match w.cell? ⟨c, 2, none⟩ with
  | some (.int _ i) => i
  | _ => 0
theorem CurS.kOf {base : Nat} {a : Option Addr} {len cap : Nat} {w : World} {c k : Nat} {h : Int} (H : CurS base a len cap w c k h) : kOf w c = k := by
  have c1 : w.cell? ⟨c, 1, none⟩ = some (.int .i64 k) := by rw [cell_of_row w c 1 _ _ _ H.2.2.1]; rfl
  unfold Go.Proofs.YtndgppabfdeecabDoor.kOf; rw [c1]; simp
theorem CurS.hOf {base : Nat} {a : Option Addr} {len cap : Nat} {w : World} {c k : Nat} {h : Int} (H : CurS base a len cap w c k h) : hOf w c = h := by
  have c1 : w.cell? ⟨c, 2, none⟩ = some (.int .i64 h) := by rw [cell_of_row w c 2 _ _ _ H.2.2.1]; rfl
  unfold Go.Proofs.YtndgppabfdeecabDoor.hOf; rw [c1]
theorem left_lt (len k : Nat) (h : Int) : left len k h < (len + 1) * 18446744073709551617 := by
  unfold left
  have h1 := ldist_le (uh h)
  have h2 : (len - k) * 18446744073709551617 ≤ len * 18446744073709551617 := Nat.mul_le_mul_right _ (by omega)
  rw [Nat.add_mul]
  omega
noncomputable def meas (n len c : Nat) (v : Value) (w : World) : Nat := (n - lenv v) * ((len + 1) * 18446744073709551617) + left len (kOf w c) (hOf w c)
theorem meas_more {n len c : Nat} {v v' : Value} {w w' : World} (h1 : lenv v < lenv v') (h2 : lenv v < n) : meas n len c v' w' < meas n len c v w := by
  unfold meas
  have h := left_lt len (kOf w' c) (hOf w' c)
  generalize (len + 1) * 18446744073709551617 = B at h
  have e : n - lenv v = (n - lenv v') + (n - lenv v - (n - lenv v')) := by omega
  rw [e, Nat.add_mul]
  have : B ≤ (n - lenv v - (n - lenv v')) * B := Nat.le_mul_of_pos_left _ (by omega)
  omega
theorem meas_same {n len c : Nat} {v v' : Value} {w w' : World} (h1 : lenv v = lenv v') (h2 : left len (kOf w' c) (hOf w' c) < left len (kOf w c) (hOf w c)) : meas n len c v' w' < meas n len c v w := by
  unfold meas
  rw [h1]
  omega

/-- A row of bytes of the call's own that is not nil; the cursor; nothing else of the old memory written. -/
def OwnN (w : World) (base : Nat) (v : Value) (l : List UInt8) : Prop := OwnB w base v l ∧ ∃ g cap, v = .slice (some ⟨g, 0, none⟩) l.length cap
structure TS (w : World) (base : Nat) (a : Option Addr) (len cap c : Nat) (wr : World) (v : Value) (l : List UInt8) (k : Nat) (h : Int) : Prop where
  own : OwnN wr w.heap.size v l
  cur : CurS base a len cap wr c k h
  grown : w.grownBy wr (some c)
theorem gown {w wr w' : World} {row r2 : Option Nat} (h1 : w.grownBy wr row) (h2 : wr.grownBy w' r2) (h3 : ∀ b, r2 = some b → w.heap.size ≤ b) : w.grownBy w' row :=
  ⟨h2.os.trans h1.os, h2.tape.trans h1.tape, h2.output.trans h1.output, Nat.le_trans h1.size h2.size, fun i hi hne => (h2.block i (Nat.lt_of_lt_of_le hi h1.size) (fun e => by have := h3 i e.symm; omega)).trans (h1.block i hi hne)⟩
/-- Behind a draw. -/
theorem TS.drawn {w wr w' : World} {base : Nat} {a : Option Addr} {len cap c : Nat} {v : Value} {l : List UInt8} {k k' : Nat} {h h' : Int} (H : TS w base a len cap c wr v l k h) (hc : c < w.heap.size) (hC : CurS base a len cap w' c k' h') (hg : wr.grownBy w' (some c)) : TS w base a len cap c w' v l k' h' := by
  refine ⟨⟨?_, H.own.2⟩, hC, gtrans H.grown hg⟩
  refine World.ownsRow.kept H.own.1 hg (.inr fun e => ?_)
  have := (World.ownsRow.lt H.own.1 c e).1
  omega
/-- Behind an append of one byte that was laid in a new block first. -/
theorem TS.append {w wr w' : World} {base : Nat} {a : Option Addr} {len cap c : Nat} {v v' : Value} {l : List UInt8} {k : Nat} {h z : Int} {o : Obj} (H : TS w base a len cap c wr v l k h) (hc : c < w.heap.size) (hz0 : 0 ≤ z) (hz1 : z < 256)
    (hown : w'.ownsRow w.heap.size 5 1 v' (l.length + 1) (byteVals l ++ [.int .u8 z])) (hg : (wr.alloc o).grownBy w' v.ownBlock) (hnil : ¬ v' = .slice none 0 0) : TS w base a len cap c w' v' (l ++ [UInt8.ofNat z.toNat]) k h := by
  have hr : ∀ r, v.ownBlock = some r → w.heap.size ≤ r := fun r e => (World.ownsRow.lt H.own.1 r e).1
  have ez : z = (((UInt8.ofNat z.toNat).toNat : Nat) : Int) := by simp; omega
  have h1 : OwnB w' w.heap.size v' (l ++ [UInt8.ofNat z.toNat]) := by
    have e2 : byteVals l ++ [.int .u8 z] = byteVals (l ++ [UInt8.ofNat z.toNat]) := by rw [← byteVals_snoc, ← ez]
    rw [e2, show l.length + 1 = (l ++ [UInt8.ofNat z.toNat]).length from by simp] at hown
    exact hown
  refine ⟨⟨h1, ?_⟩, ?_, ?_⟩
  · obtain ⟨_, ⟨rfl, _⟩ | ⟨g', cap', cur, rfl, _⟩⟩ := h1
    · exact absurd rfl hnil
    · exact ⟨g', cap', rfl⟩
  · have hC := H.cur.grown (row := none) (galloc wr o none) (by simp)
    refine hC.grown hg fun r e => ?_
    have := hr r e
    have := H.cur.1
    omega
  · exact gown (gown H.grown (galloc wr o none) (by simp)) hg hr

theorem own_cap {w : World} {base g n cap : Nat} {l : List UInt8} (h : OwnB w base (.slice (some ⟨g, 0, none⟩) n cap) l) : l.length ≤ cap := by
  rcases h.2 with ⟨h', _⟩ | ⟨g', cap', cur, h', _, _, hn, _⟩
  · simp at h'
  · simp only [Value.slice.injEq] at h'
    obtain ⟨_, _, rfl⟩ := h'
    exact hn
theorem OwnN.conv_take {w : World} {base g cap n : Nat} {l : List UInt8} (h : OwnB w base (.slice (some ⟨g, 0, none⟩) l.length cap) l) (hn : n ≤ l.length) :
    (convert 27 9 (.slice (some ⟨g, 0, none⟩) n cap)).run Tryd.prog w = .ok (.string ⟨(l.take n).toArray⟩) w := by
  have e : (l.take n).length = n := by simp; omega
  have hr := run_convert_bytes_back (P := Tryd.prog) w 27 9 5 ⟨g, 0, none⟩ cap (l.take n) Tryd.underlying27 Tryd.underlying5 Tryd.underlying9 (by
    intro j hj
    have hj2 : j < l.length := by omega
    have ej : (l.take n)[j] = l[j] := by simp
    rw [ej]
    exact World.ownsRow.cells h rfl j _ (by simp [byteVals, List.getElem?_eq_getElem hj2]))
  rw [e] at hr
  exact hr

theorem toNat_two (a b : Nat) : ((a : Int) + b).toNat = a + b := by omega
theorem nn_two (a b : Nat) : (0 : Int) ≤ (a : Int) + b := by omega
theorem two_small {a b n : Nat} (h : a + b < n) (hn : n ≤ 100000) : (a : Int) + b ≤ 100000 := by omega
theorem wrap_small (n : Int) (h0 : 0 ≤ n) (h1 : n ≤ 100000) : wrap64 n = n := by unfold wrap64; omega

set_option maxHeartbeats 1600000 in
set_option maxRecDepth 8000 in
theorem text_any (base : Nat) (a : Option Addr) (len cap c : Nat) (n : Nat) (w : World) (hC : CurAt base a len cap w c) (hn : n ≤ 256) :
    Calls Tryd.prog 37 #[.pointer (some ⟨c, 0, none⟩), .int .i64 n] w (fun e w' => ∃ s : ByteArray, s.size = n ∧ e = .returned (.string s) ∧ CurAt base a len cap w' c ∧ w.grownBy w' (some c)) := by
  obtain ⟨k0, h0, hS⟩ := hC.s
  have hcw := hC.lt
  have HS := Lib.hid hS
  obtain ⟨i0, hi, hz0, hz1, hz2⟩ := info_parts Tryd.info5
  clear hS hC
  have HN := Lib.hid hn
  clear hn
  go_enter Tryd.func37, Tryd.ntmps37
  go_wp2_with fail
  go_loopw [5] (fun v wr => ∃ (l : List UInt8) (k : Nat) (h : Int), TS w base a len cap c wr v l k h ∧ l.length ≤ n + 20) (fun v wr => meas n len c v wr)
  case atStart => exact ⟨[], k0, h0, ⟨⟨OwnB.lit (Nat.le_refl _), _, _, rfl⟩, HS.out.grown (galloc w _ none) (by simp), galloc w _ _⟩, by simp⟩
  case round =>
    obtain ⟨l, k, h, hT, hl⟩ := hrel
    obtain ⟨g, cp, rfl⟩ := hT.own.2
    have HT := Lib.hid hT
    have HL := Lib.hid hl
    have hcp := own_cap hT.own.1
    clear hT hl
    by_cases hlt : (l.length : Int) < n
    · go_wp2_with fail
      refine (below_st base a len cap c k h 5 _ HT.out.cur (by decide) (by decide)).mono ?_
      rintro e w1 ⟨x, k1, h1, hx0, hx1, rfl, hc1, g1, hn1⟩
      have N1 := Lib.hid hn1
      have T1 := Lib.hid (HT.out.drawn hcw hc1 g1)
      obtain ⟨y, hy⟩ : ∃ y, x % 5 = y := ⟨_, rfl⟩
      have hm0 : 0 ≤ y := by omega
      have hm5 : y < 5 := by omega
      rw [hy]
      have HX := Lib.hid hy
      clear hn1 hc1 g1 hy
      rcases (show y = 0 ∨ y = 1 ∨ y = 2 ∨ y = 3 ∨ y = 4 by omega) with rfl | rfl | rfl | rfl | rfl
      · go_wp2_with fail
        refine (byte_st base a len cap c k1 h1 _ T1.out.cur).mono ?_
        rintro e w2 ⟨x2, k2, h2, hx20, hx21, rfl, hc2, g2, hn2⟩
        rw [Int.emod_eq_of_lt hx20 hx21]
        have T2 := Lib.hid (T1.out.drawn hcw hc2 g2)
        clear hn2 hc2 g2
        go_wp2_with (at_builtin; refine wpList_append_own _ rfl _ _ 27 rfl w.heap.size 5 i0 (.int .u8 0) 1 1 Tryd.underlying27 hi hz0 hz1 hz2 rfl (by decide) _ _ _ rfl (World.ownsRow.alloc T2.out.own.1 _) ⟨w2.heap.size, 0, none⟩ 1 1 [.int .u8 (x2)] rfl rfl ?c1 ?c2 ?c3 ?c4 ?c5 ?_)
        case c1 => exact cell_one_new _ _ _
        case c2 => intro u hu; simp at hu; subst hu; rfl
        case c3 => have := HN.out; have := HL.out; simp only [maxLen]; omega
        case c4 => have := HN.out; have := HL.out; omega
        case c5 => have := T2.out.grown.size; simp; omega
        · intro v' wz hown' hgrow hnil
          have hTz := T2.out.append hcw hx20 hx21 hown' hgrow hnil
          clear hown' hgrow hnil
          obtain ⟨gz, cz, rfl⟩ := hTz.own.2
          have TZ := Lib.hid hTz
          clear hTz
          obtain ⟨lz, hlz⟩ : ∃ lz, lz = l ++ [UInt8.ofNat x2.toNat] := ⟨_, rfl⟩
          rw [← hlz] at TZ ⊢
          have hln : lz.length = l.length + 1 := by rw [hlz]; simp
          have HLN := Lib.hid hln
          clear hlz hln
          go_wp2
          go_roundw
          case rel => exact ⟨_, _, _, TZ.out, by have := HL.out; have := HLN.out; omega⟩
          case measure => exact meas_more (by have := HLN.out; simp [lenv]; omega) (by simp [lenv]; omega)
      · have HKO := Lib.hid HT.out.cur.kOf
        have HHO := Lib.hid HT.out.cur.hOf
        go_wp2_with fail
        refine (below_st base a len cap c k1 h1 9 _ T1.out.cur (by decide) (by decide)).mono ?_
        rintro e w2 ⟨x2, k2, h2, hx20, hx21, rfl, hc2, g2, hn2⟩
        have T2 := Lib.hid (T1.out.drawn hcw hc2 g2)
        have N2 := Lib.hid hn2
        have hy0 : 0 ≤ x2 % 9 := by omega
        have hy1 : x2 % 9 < 9 := by omega
        clear hn2 hc2 g2
        generalize x2 % 9 = y2 at hy0 hy1
        obtain ⟨kn, rfl⟩ := Int.eq_ofNat_of_zero_le hy0
        go_wp2_with fail
        refine (below_st base a len cap c k2 h2 4 _ T2.out.cur (by decide) (by decide)).mono ?_
        rintro e w3 ⟨x3, k3, h3, hx30, hx31, rfl, hc3, g3, hn3⟩
        have T3 := Lib.hid (T2.out.drawn hcw hc3 g3)
        have N3 := Lib.hid hn3
        have hz30 : 0 ≤ x3 % 4 := by omega
        have hz31 : x3 % 4 < 4 := by omega
        clear hn3 hc3 g3
        generalize x3 % 4 = z3 at hz30 hz31
        have hy2 : 0 ≤ 97 + z3 := by omega
        have hy3 : 97 + z3 < 256 := by omega
        go_wp2_with fail
        go_loopw [5, 8] (fun v i wr => ∃ (lj : List UInt8) (j : Nat), TS w base a len cap c wr v lj k3 h3 ∧ lj.length = l.length + j ∧ i = .int .i64 j ∧ j ≤ kn) (fun _ i _ => kn - (intOf i).toNat)
        case atStart => exact ⟨l, 0, T3.out, by omega, rfl, Nat.zero_le _⟩
        case round =>
          obtain ⟨lj, j, hTj, hlj, rfl, hjk⟩ := hrel
          obtain ⟨gj, cj, rfl⟩ := hTj.own.2
          have TJ := Lib.hid hTj
          have HLJ := Lib.hid hlj
          clear hTj hlj
          by_cases hji : (j : Int) < kn
          · skip
            go_wp2_with (at_builtin; refine wpList_append_own _ rfl _ _ 27 rfl w.heap.size 5 i0 (.int .u8 0) 1 1 Tryd.underlying27 hi hz0 hz1 hz2 rfl (by decide) _ _ _ rfl (World.ownsRow.alloc TJ.out.own.1 _) ⟨wr.heap.size, 0, none⟩ 1 1 [.int .u8 (97 + z3)] rfl rfl ?c1 ?c2 ?c3 ?c4 ?c5 ?_)
            case c1 => exact cell_one_new _ _ _
            case c2 => intro u hu; simp at hu; subst hu; rfl
            case c3 => have := HN.out; have := HLJ.out; simp only [maxLen]; omega
            case c4 => have := HN.out; have := HLJ.out; omega
            case c5 => have := TJ.out.grown.size; simp; omega
            · intro v' wz hown' hgrow hnil
              have hTz := TJ.out.append hcw hy2 hy3 hown' hgrow hnil
              clear hown' hgrow hnil
              obtain ⟨gz, cz, rfl⟩ := hTz.own.2
              have TZ := Lib.hid hTz
              clear hTz
              obtain ⟨lz, hlz⟩ : ∃ lz, lz = lj ++ [UInt8.ofNat (97 + z3).toNat] := ⟨_, rfl⟩
              rw [← hlz] at TZ ⊢
              have hln : lz.length = lj.length + 1 := by rw [hlz]; simp
              have HLN := Lib.hid hln
              clear hlz hln
              go_wp2
              go_roundw
              case rel => exact ⟨lz, j + 1, TZ.out, by have := HLN.out; have := HLJ.out; omega, by go_num, by omega⟩
              case measure => simp [intOf]; omega
          · go_wp2
            go_roundw
            case rel => exact ⟨lj, _, _, TJ.out, by have := HLJ.out; omega⟩
            case measure =>
              have e := HLJ.out
              by_cases h0 : kn = 0
              · refine meas_same (by simp [lenv]; omega) ?_
                rw [TJ.out.cur.kOf, TJ.out.cur.hOf, HKO.out, HHO.out]
                exact left_three N1.out N2.out N3.out (.inl HX.out) TJ.out.cur.2.2.2.1
              · exact meas_more (by simp [lenv]; omega) (by simp [lenv]; omega)
      · have HKO := Lib.hid HT.out.cur.kOf
        have HHO := Lib.hid HT.out.cur.hOf
        by_cases hl0 : l.length = 0
        · have hl0i : ¬ (0 : Int) < (l.length : Int) := by omega
          have HL0 := Lib.hid hl0
          clear hl0
          go_wp2
          go_roundw
          case rel => exact ⟨l, _, _, T1.out, HL.out⟩
          case measure =>
            refine meas_same rfl ?_
            rw [T1.out.cur.kOf, T1.out.cur.hOf, HKO.out, HHO.out]
            exact left_one N1.out (.inr HX.out) T1.out.cur.2.2.2.1
        · have hl0i : (0 : Int) < (l.length : Int) := by omega
          go_wp2_with fail
          refine (below_st base a len cap c k1 h1 l.length _ T1.out.cur (by omega) (by have := HN.out; omega)).mono ?_
          rintro e w2 ⟨x2, k2, h2, hx20, hx21, rfl, hc2, g2, hn2⟩
          have T2 := Lib.hid (T1.out.drawn hcw hc2 g2)
          have N2 := Lib.hid hn2
          have hy0 : 0 ≤ x2 % (l.length : Int) := Int.emod_nonneg _ (by omega)
          have hy1 : x2 % (l.length : Int) < l.length := Int.emod_lt_of_pos _ hl0i
          clear hn2 hc2 g2
          generalize x2 % (l.length : Int) = y2 at hy0 hy1
          obtain ⟨fr, rfl⟩ := Int.eq_ofNat_of_zero_le hy0
          go_wp2_with fail
          refine (below_st base a len cap c k2 h2 20 _ T2.out.cur (by decide) (by decide)).mono ?_
          rintro e w3 ⟨x3, k3, h3, hx30, hx31, rfl, hc3, g3, hn3⟩
          have T3 := Lib.hid (T2.out.drawn hcw hc3 g3)
          have N3 := Lib.hid hn3
          have hz30 : 0 ≤ x3 % 20 := by omega
          have hz31 : x3 % 20 < 20 := by omega
          clear hn3 hc3 g3
          generalize x3 % 20 = z3 at hz30 hz31
          obtain ⟨kn, rfl⟩ := Int.eq_ofNat_of_zero_le hz30
          go_wp2_with fail
          go_loopw [5, 11] (fun v i wr => ∃ (lj : List UInt8) (j : Nat), TS w base a len cap c wr v lj k3 h3 ∧ lj.length = l.length + j ∧ i = .int .i64 j ∧ j ≤ kn) (fun _ i _ => kn - (intOf i).toNat)
          case atStart => exact ⟨l, 0, T3.out, by omega, rfl, Nat.zero_le _⟩
          case round =>
            obtain ⟨lj, j, hTj, hlj, rfl, hjk⟩ := hrel
            obtain ⟨gj, cj, rfl⟩ := hTj.own.2
            have TJ := Lib.hid hTj
            have HLJ := Lib.hid hlj
            have hix : fr + j < lj.length := by omega
            have HLL : Hid (lj.length ≤ 100000) := Lib.hid (by have := HN.out; omega)
            have hix2 : (fr : Int) + j < lj.length := by omega
            have hcell : wr.cell? ⟨gj, fr + j, none⟩ = some (.int .u8 ((lj[fr + j].toNat : Nat) : Int)) := by
              have := World.ownsRow.cellAt hTj.own.1 (fr + j) (by omega)
              rw [this]
              simp [byteVals, List.getElem?_eq_getElem hix]
            have hb1 := UInt8.toNat_lt lj[fr + j]
            clear hTj hlj
            by_cases hji : (j : Int) < kn
            · have hq0 : (0 : Int) ≤ ((lj[fr + j].toNat : Nat) : Int) := by omega
              have hq1 : ((lj[fr + j].toNat : Nat) : Int) < 256 := by omega
              generalize ((lj[fr + j].toNat : Nat) : Int) = q at hcell hq0 hq1
              clear hb1
              have e1 : wrap64 ((fr : Int) + j) = (fr : Int) + j := wrap_small _ (nn_two fr j) (two_small hix HLL.out)
              have e2 : ((fr : Int) + j).toNat = fr + j := toNat_two fr j
              have e3 : (0 : Int) ≤ (fr : Int) + j := nn_two fr j
              go_wp2_with (at_builtin; refine wpList_append_own _ rfl _ _ 27 rfl w.heap.size 5 i0 (.int .u8 0) 1 1 Tryd.underlying27 hi hz0 hz1 hz2 rfl (by decide) _ _ _ rfl (World.ownsRow.alloc TJ.out.own.1 _) ⟨wr.heap.size, 0, none⟩ 1 1 [.int .u8 (q)] rfl rfl ?c1 ?c2 ?c3 ?c4 ?c5 ?_)
              case c1 => exact cell_one_new _ _ _
              case c2 => intro u hu; simp at hu; subst hu; rfl
              case c3 => have := HN.out; have := HLJ.out; simp only [maxLen]; omega
              case c4 => have := HN.out; have := HLJ.out; omega
              case c5 => have := TJ.out.grown.size; simp; omega
              · intro v' wz hown' hgrow hnil
                have hTz := TJ.out.append hcw hq0 hq1 hown' hgrow hnil
                clear hown' hgrow hnil
                obtain ⟨gz, cz, rfl⟩ := hTz.own.2
                have TZ := Lib.hid hTz
                clear hTz
                obtain ⟨lz, hlz⟩ : ∃ lz, lz = lj ++ [UInt8.ofNat (q).toNat] := ⟨_, rfl⟩
                rw [← hlz] at TZ ⊢
                have hln : lz.length = lj.length + 1 := by rw [hlz]; simp
                have HLN := Lib.hid hln
                clear hlz hln
                go_wp2
                go_roundw
                case rel => exact ⟨lz, j + 1, TZ.out, by have := HLN.out; have := HLJ.out; omega, by go_num, by omega⟩
                case measure => simp [intOf]; omega
            · go_wp2
              go_roundw
              case rel => exact ⟨lj, _, _, TJ.out, by have := HLJ.out; omega⟩
              case measure =>
                have e := HLJ.out
                by_cases h0 : kn = 0
                · refine meas_same (by simp [lenv]; omega) ?_
                  rw [TJ.out.cur.kOf, TJ.out.cur.hOf, HKO.out, HHO.out]
                  exact left_three N1.out N2.out N3.out (.inr HX.out) TJ.out.cur.2.2.2.1
                · exact meas_more (by simp [lenv]; omega) (by simp [lenv]; omega)
      · go_wp2_with fail
        refine (below_st base a len cap c k1 h1 26 _ T1.out.cur (by decide) (by decide)).mono ?_
        rintro e w2 ⟨x2, k2, h2, hx20, hx21, rfl, hc2, g2, hn2⟩
        have T2 := Lib.hid (T1.out.drawn hcw hc2 g2)
        have hy0 : 0 ≤ x2 % 26 := by omega
        have hy1 : x2 % 26 < 26 := by omega
        clear hn2 hc2 g2
        generalize x2 % 26 = y2 at hy0 hy1
        have hy2 : 0 ≤ 97 + y2 := by omega
        have hy3 : 97 + y2 < 256 := by omega
        go_wp2_with (at_builtin; refine wpList_append_own _ rfl _ _ 27 rfl w.heap.size 5 i0 (.int .u8 0) 1 1 Tryd.underlying27 hi hz0 hz1 hz2 rfl (by decide) _ _ _ rfl (World.ownsRow.alloc T2.out.own.1 _) ⟨w2.heap.size, 0, none⟩ 1 1 [.int .u8 (97 + y2)] rfl rfl ?c1 ?c2 ?c3 ?c4 ?c5 ?_)
        case c1 => exact cell_one_new _ _ _
        case c2 => intro u hu; simp at hu; subst hu; rfl
        case c3 => have := HN.out; have := HL.out; simp only [maxLen]; omega
        case c4 => have := HN.out; have := HL.out; omega
        case c5 => have := T2.out.grown.size; simp; omega
        · intro v' wz hown' hgrow hnil
          have hTz := T2.out.append hcw hy2 hy3 hown' hgrow hnil
          clear hown' hgrow hnil
          obtain ⟨gz, cz, rfl⟩ := hTz.own.2
          have TZ := Lib.hid hTz
          clear hTz
          obtain ⟨lz, hlz⟩ : ∃ lz, lz = l ++ [UInt8.ofNat (97 + y2).toNat] := ⟨_, rfl⟩
          rw [← hlz] at TZ ⊢
          have hln : lz.length = l.length + 1 := by rw [hlz]; simp
          have HLN := Lib.hid hln
          clear hlz hln
          go_wp2
          go_roundw
          case rel => exact ⟨_, _, _, TZ.out, by have := HL.out; have := HLN.out; omega⟩
          case measure => exact meas_more (by have := HLN.out; simp [lenv]; omega) (by simp [lenv]; omega)
      · go_wp2_with fail
        refine (below_st base a len cap c k1 h1 26 _ T1.out.cur (by decide) (by decide)).mono ?_
        rintro e w2 ⟨x2, k2, h2, hx20, hx21, rfl, hc2, g2, hn2⟩
        have T2 := Lib.hid (T1.out.drawn hcw hc2 g2)
        have hy0 : 0 ≤ x2 % 26 := by omega
        have hy1 : x2 % 26 < 26 := by omega
        clear hn2 hc2 g2
        generalize x2 % 26 = y2 at hy0 hy1
        have hy2 : 0 ≤ 97 + y2 := by omega
        have hy3 : 97 + y2 < 256 := by omega
        go_wp2_with (at_builtin; refine wpList_append_own _ rfl _ _ 27 rfl w.heap.size 5 i0 (.int .u8 0) 1 1 Tryd.underlying27 hi hz0 hz1 hz2 rfl (by decide) _ _ _ rfl (World.ownsRow.alloc T2.out.own.1 _) ⟨w2.heap.size, 0, none⟩ 1 1 [.int .u8 (97 + y2)] rfl rfl ?c1 ?c2 ?c3 ?c4 ?c5 ?_)
        case c1 => exact cell_one_new _ _ _
        case c2 => intro u hu; simp at hu; subst hu; rfl
        case c3 => have := HN.out; have := HL.out; simp only [maxLen]; omega
        case c4 => have := HN.out; have := HL.out; omega
        case c5 => have := T2.out.grown.size; simp; omega
        · intro v' wz hown' hgrow hnil
          have hTz := T2.out.append hcw hy2 hy3 hown' hgrow hnil
          clear hown' hgrow hnil
          obtain ⟨gz, cz, rfl⟩ := hTz.own.2
          have TZ := Lib.hid hTz
          clear hTz
          obtain ⟨lz, hlz⟩ : ∃ lz, lz = l ++ [UInt8.ofNat (97 + y2).toNat] := ⟨_, rfl⟩
          rw [← hlz] at TZ ⊢
          have hln : lz.length = l.length + 1 := by rw [hlz]; simp
          have HLN := Lib.hid hln
          clear hlz hln
          go_wp2
          go_roundw
          case rel => exact ⟨_, _, _, TZ.out, by have := HL.out; have := HLN.out; omega⟩
          case measure => exact meas_more (by have := HLN.out; simp [lenv]; omega) (by simp [lenv]; omega)
    · have hc := OwnN.conv_take HT.out.own.1 (show n ≤ l.length by omega)
      have hge : n ≤ l.length := by omega
      have hge2 : (n : Int) ≤ l.length := by omega
      have hge3 : n ≤ cp := by omega
      have hge4 : (n : Int) ≤ cp := by omega
      go_wp2
      go_ret
      refine ⟨_, ?_, rfl, HT.out.cur.at, HT.out.grown⟩
      simp [ByteArray.size]; omega
end Go.Proofs.YtndgppabfdeecabDoor
