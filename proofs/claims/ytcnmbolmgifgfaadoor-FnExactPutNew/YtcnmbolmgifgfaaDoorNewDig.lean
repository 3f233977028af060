/- Contract of impl.(*newcHead).digits. -/
import Derived.Test.YtcnmbolmgifgfaaDoorNewText
import Derived.Test.YtcnmbolmgifgfaaDoorNrF
import Derived.Test.YtcnmbolmgifgfaaDoorOwn
namespace Go.Proofs.YtcnmbolmgifgfaaDoor
open Go.ChangeShapes Go.WideShapes Go.ChangeAt Go.RowKit Go.Deep

theorem ownB_belowN {w w' : World} {base : Nat} {v : Value} {l : List UInt8} (h : OwnB w base v l) (hb : Below w.heap.size w w') : OwnB w' base v l :=
  World.ownsRow.kept h (row := none) ⟨hb.os, hb.tape, hb.output, hb.size, fun k hk _ => hb.block k hk⟩ (by cases hv : v.ownBlock <;> simp)
theorem textN {w : World} {base n : Nat} {v : Value} {l : List UInt8} {s : ByteArray} (hn : n = l.length + s.size) (h : w.ownsRow base 5 1 v n (byteVals l ++ Lib.strCells s)) : OwnB w base v (l ++ s.data.toList) := by
  subst hn
  have e : byteVals l ++ Lib.strCells s = byteVals (l ++ s.data.toList) := by simp [byteVals, Lib.strCells]
  rw [e, show l.length + s.size = (l ++ s.data.toList).length from by simp] at h
  exact h
def NumsN (w : World) (gh : Nat) (L : List Int) : Prop := ∀ i x, L[i]? = some x → w.cell? ⟨gh, offn i, none⟩ = some (.int .i64 x)
theorem NumsN.below {w w' : World} {gh B : Nat} {L : List Int} (h : NumsN w gh L) (hb : Below B w w') (hg : gh < B) : NumsN w' gh L := fun i x hx => (hb.cell (p := ⟨gh, offn i, none⟩) hg).trans (h i x hx)
theorem idx13 (gh k : Nat) (hk : k < 13) (w : World) : (Instr.index 47 (.agg (ptrsN gh)) (.int .i64 (k : Int))).run Tryd.prog w = .ok (.pointer (some ⟨gh, offn k, none⟩)) w := by
  have h := ptrsN_at gh k hk
  have hk2 : (0 : Int) ≤ (k : Int) ∧ (k : Int) < 13 := by omega
  have hu := Tryd.underlying47
  have he := Tryd.underlying46
  have hsz : ∀ w, (sizeOf 46).run Tryd.prog w = .ok 1 w := fun w => by go_simp
  simp [Instr.index, run_underlying hu, asIntOf, hk2, part, isAgg, run_underlying he, hsz, go_sem, h]
  intro h9
  omega
def digN (L : List Int) : Ending := .returned (.tuple #[.string (if hexOk L then hexS L else ⟨#[]⟩), .bool (hexOk L)])
theorem digN_bad {L : List Int} (h : hexOk L = false) : digN L = .returned (.tuple #[.string ⟨#[]⟩, .bool false]) := by rw [digN, h]; rfl
theorem digN_ok {L : List Int} (h : hexOk L = true) : digN L = .returned (.tuple #[.string (hexS L), .bool true]) := by rw [digN, h]; rfl
set_option maxHeartbeats 6400000 in
set_option maxRecDepth 8000 in
theorem digitsN_any (L : List Int) (gh : Nat) (w : World) (hL : L.length = 13) (hg : gh < w.heap.size) (hN : NumsN w gh L) (hT : Tabs w) :
    Calls Tryd.prog 14 #[.pointer (some ⟨gh, 0, none⟩)] w fun e w' => e = digN L ∧ Below w.heap.size w w' := by
  obtain ⟨i0, hi0, hz0, hz1, hz2⟩ := info_parts Tryd.info5
  have HN := Lib.hid hN
  have HT := Lib.hid hT
  have HG : Hid (∀ i, i < 13 → ∃ x, L[i]? = some x) := Lib.hid (fun i hi => ⟨L[i], List.getElem?_eq_getElem (by omega)⟩)
  have HS := Lib.hid (fun i x (h : L[i]? = some x) => hex_take h)
  have HK := Lib.hid (fun i x (h : L[i]? = some x) => hexOk_take h)
  have HB := Lib.hid (fun i x (h : L[i]? = some x) hk => hexOk_bad h hk)
  have HZ : Hid (hexS (L.take 0) = ⟨#[]⟩ ∧ hexOk (L.take 0) = true) := Lib.hid ⟨rfl, rfl⟩
  have HF : Hid (hexS (L.take 13) = hexS L ∧ hexOk (L.take 13) = hexOk L) := Lib.hid (by rw [← hL, List.take_length]; exact ⟨rfl, rfl⟩)
  have HLe : Hid (∀ i, (hexS (L.take i)).size ≤ 104) := Lib.hid (fun i => by have h8 := (hexS_le (L.take i)).1; rw [List.length_take] at h8; omega)
  have HPl := Lib.hid (fun x => (putHex_sz x).1)
  have HE1 := Lib.hid (digN_bad (L := L))
  have HE2 := Lib.hid (digN_ok (L := L))
  generalize digN L = E at HE1 HE2
  generalize hexS L = r at HF HE2
  generalize hexOk L = ok at HF HB HE1 HE2
  have HIx := Lib.hid (fun k hk w => idx13 gh k hk w)
  clear hN hT hL
  go_enter Tryd.func14, Tryd.ntmps14
  go_wp2_with fail
  refine (fieldsN_any gh _).mono ?_
  rintro e w1 ⟨rfl, hb⟩
  have B := Lib.hid hb
  have O0 : Hid (OwnB w1 w.heap.size (.slice none 0 0) []) := Lib.hid ⟨rfl, .inl ⟨rfl, rfl⟩⟩
  clear hb
  generalize ptrsN gh = pt at HIx ⊢
  go_wp2_with fail
  go_loopw [4, 6, 7, 8, 11] (fun v _ _ _ u wr => ∃ i : Nat, u = .int .i64 i ∧ i ≤ 13 ∧ hexOk (L.take i) = true ∧ OwnB wr w.heap.size v (hexS (L.take i)).data.toList ∧ Below w.heap.size w wr) (fun _ _ _ _ u _ => 13 - (intOf u).toNat)
  case atStart => exact ⟨0, rfl, Nat.zero_le _, HZ.out.2, by rw [HZ.out.1]; exact O0.out, B.out⟩
  case round =>
    obtain ⟨i, rfl, hi, hok, ho, hb⟩ := hrel
    clear O0 B
    have B := Lib.hid hb
    have O := Lib.hid ho
    have hszB := B.out.size
    have HOk := Lib.hid hok
    clear hb hok ho
    by_cases hlt : i < 13
    · have hlt2 : (i : Int) < 13 := by omega
      obtain ⟨x, hx⟩ := HG.out i hlt
      have HS2 := Lib.hid (HS.out i _ hx)
      have HK2 := Lib.hid (HK.out i _ hx)
      have HB2 := Lib.hid (HB.out i _ hx)
      have cN := (B.out.cell (p := ⟨gh, offn i, none⟩) hg).trans (HN.out i _ hx)
      have hIx := HIx.out i hlt
      have hle := HLe.out i
      have hpl := HPl.out x
      have HPx := Lib.hid (fun w h => putHex_impl x w h)
      clear hx HS HK HB HG HN HIx
      obtain ⟨T, hTe⟩ : ∃ T, hexS (L.take i) = T := ⟨_, rfl⟩
      rw [hTe] at HS2 hle O
      clear hTe
      generalize (putHexv x).1 = q at HS2 hpl HPx
      generalize (putHexv x).2 = b at HB2 HK2 HPx
      generalize offn i = oi at cN hIx
      go_wp2_with fail
      refine (HPx.out _ (HT.out.below B.out)).mono ?_
      rintro e w7 ⟨rfl, hb⟩
      replace O := Lib.hid (ownB_belowN O.out hb)
      replace B := Lib.hid (B.out.trans (hb.mono hszB))
      have hsz7 := B.out.size
      clear hb HPx cN hIx
      cases b with
      | false =>
        have HF2 := Lib.hid (HE1.out (HB2.out rfl))
        clear HB2 HS2 HK2 O
        go_wp2_with fail
        go_ret2
        exact ⟨by rw [HF2.out]; rfl, B.out⟩
      | true =>
        have HOk2 : Hid (hexOk (L.take (i + 1)) = true) := Lib.hid (by rw [HK2.out, HOk.out]; rfl)
        clear HB2 HK2
        have zl : T.data.toList.length = T.size := Array.length_toList
        go_wp2_with (at_builtin; refine Lib.wpList_append_own_string _ rfl _ _ 44 9 rfl w.heap.size 5 i0 Tryd.underlying44 Tryd.underlying9 hi0 hz0 hz1 hz2 _ _ _ rfl O.out q rfl ?pp ?pq ?pr ?_)
        case pp => simp only [maxLen]; omega
        case pq => omega
        case pr => omega
        intro v9 w9 hown hgrow hnil
        have O9 : OwnB w9 w.heap.size v9 (T.data.toList ++ q.data.toList) := textN (by simp <;> omega) hown
        rw [show T.data.toList ++ q.data.toList = (T ++ q).data.toList from by simp] at O9
        have O10 := Lib.hid O9
        have B9 : Hid (Below w.heap.size w w9) := Lib.hid (B.out.grown hgrow (by omega) (fun b hb => (World.ownsRow.lt O.out b hb).1))
        clear hown hgrow hnil O9 O B
        go_wp2_with fail
        go_roundw
        case rel => exact ⟨i + 1, by go_num, by omega, HOk2.out, by rw [HS2.out]; exact O10.out, B9.out⟩
        case measure => simp [intOf]; omega
    · obtain rfl : i = 13 := by omega
      have hlt2 : ¬ ((13 : Nat) : Int) < 13 := by omega
      have HR9 := HF.out.2
      rw [HOk.out] at HR9
      have HO := Lib.hid (HE2.out HR9.symm)
      have HF9 := HF.out.1
      rw [HF9] at O
      clear HR9 HF9
      have hc := O.out.conv
      rw [show (⟨r.data.toList.toArray⟩ : ByteArray) = r from by simp] at hc
      go_wp2_with fail
      go_ret2
      exact ⟨by rw [HO.out]; rfl, B.out⟩
end Go.Proofs.YtcnmbolmgifgfaaDoor
