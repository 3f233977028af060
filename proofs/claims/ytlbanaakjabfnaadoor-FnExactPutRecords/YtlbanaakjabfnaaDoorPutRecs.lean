/- Contracts of spec.PutRecords and impl.PutRecords. -/
import Derived.Test.YtlbanaakjabfnaaDoorPutRec
import Derived.Test.YtlbanaakjabfnaaDoorRecQ
import Derived.Test.YtlbanaakjabfnaaDoorOwn
import Derived.Lib.AppendStr
namespace Go.Proofs.YtlbanaakjabfnaaDoor
open Go.ChangeShapes Go.WideShapes Go.ChangeAt Go.RowKit Go.Deep

/-- The records' texts, one behind the other; nothing if one is none. -/
def recsText : List Rec → ByteArray
  | [] => ⟨#[]⟩
  | r :: L => putRecv r.key r.value ++ recsText L
def allOk (L : List Rec) : Bool := L.all (fun r => recOkv r.key r.value)
def putRecsv (L : List Rec) : ByteArray := if allOk L && decide (L.length ≤ 20) then recsText L else ⟨#[]⟩
theorem recsText_snoc (L : List Rec) (r : Rec) : recsText (L ++ [r]) = recsText L ++ putRecv r.key r.value := by
  induction L with
  | nil =>
    apply ba_ext
    simp [recsText]
  | cons a L ih => simp only [List.cons_append, recsText, ih, ByteArray.append_assoc]
theorem recsText_le (L : List Rec) : (recsText L).size ≤ L.length * 286 := by
  induction L with
  | nil => exact Nat.zero_le _
  | cons a L ih =>
    simp only [recsText, ByteArray.size_append, List.length_cons]
    have := putRec_le a.key a.value
    omega
theorem take_snocR {L : List Rec} {i : Nat} {e : Rec} (he : L[i]? = some e) : L.take (i + 1) = L.take i ++ [e] := by
  rw [List.take_add_one, he]; rfl
theorem allOk_bad {L : List Rec} {i : Nat} {e : Rec} (he : L[i]? = some e) (hb : recOkv e.key e.value = false) : putRecsv L = ⟨#[]⟩ := by
  have : allOk L = false := by
    cases h : allOk L with
    | false => rfl
    | true =>
      have := List.all_eq_true.1 h e (List.mem_of_getElem? he)
      rw [hb] at this; cases this
  rw [putRecsv, this]; rfl
theorem allOk_snoc {L : List Rec} {i : Nat} {e : Rec} (he : L[i]? = some e) (h : allOk (L.take i) = true) (hb : recOkv e.key e.value = true) : allOk (L.take (i + 1)) = true := by
  rw [take_snocR he]
  simp only [allOk, List.all_append, List.all_cons, List.all_nil, Bool.and_true, Bool.and_eq_true]
  exact ⟨h, hb⟩
/-- The texts of records are small. -/
def SmallR (L : List Rec) : Prop := ∀ e ∈ L, e.key.size ≤ 4194304 ∧ e.value.size ≤ 4194304

set_option maxHeartbeats 3200000 in
theorem putRecords_spec (L : List Rec) (n g cap : Nat) (w : World) (hn : n = L.length) (hm : n ≤ 4194304) (hg : g < w.heap.size) (hsm : SmallR L) (h1 : RowR w g L) :
    Calls Tryd.prog 15 #[.slice (some ⟨g, 0, none⟩) n cap] w fun e w' => e = .returned (.string (putRecsv L)) ∧ Below w.heap.size w w' := by
  have H1 := Lib.hid h1
  have HG : Hid (∀ i, i < n → ∃ e, L[i]? = some e ∧ e.key.size ≤ 4194304 ∧ e.value.size ≤ 4194304) := Lib.hid (fun i hi => by obtain ⟨e, he⟩ := getR (L := L) (i := i) (by omega); exact ⟨e, he, hsm e (List.mem_of_getElem? he)⟩)
  have HD : Hid (allOk (L.take n) = true → n ≤ 20 → putRecsv L = recsText (L.take n)) := Lib.hid (fun h h2 => by rw [hn, List.take_length] at h ⊢; rw [putRecsv, h, decide_eq_true (by omega)]; rfl)
  have H0 : Hid (n = 0 → putRecsv L = ⟨#[]⟩) := Lib.hid (fun h => by have : L = [] := List.eq_nil_of_length_eq_zero (by omega); subst this; rfl)
  have HX : Hid (20 < n → putRecsv L = ⟨#[]⟩) := Lib.hid (fun h => by rw [putRecsv, decide_eq_false (by omega : ¬ L.length ≤ 20)]; simp)
  have HA : Hid (∀ (i : Nat) (e : Rec), L[i]? = some e → recOkv e.key e.value = false → putRecsv L = ⟨#[]⟩) := Lib.hid (fun i e he hb => allOk_bad he hb)
  clear h1 hn hsm
  generalize putRecsv L = r at HD H0 HX HA
  go_enter Tryd.func15, Tryd.ntmps15
  go_wp2_with fail
  go_loopw [3, 4] (fun v u wr => ∃ i : Nat, u = .int .i64 i ∧ i ≤ n ∧ (0 < i → n ≤ 20) ∧ allOk (L.take i) = true ∧ v = .string (recsText (L.take i)) ∧ Below w.heap.size w wr) (fun _ u _ => n - (intOf u).toNat)
  case atStart => exact ⟨0, rfl, Nat.zero_le _, fun h => by omega, by simp [allOk], by simp [recsText], Below.refl _ _⟩
  case round =>
    obtain ⟨i, rfl, hi, h20, ha, rfl, hb⟩ := hrel
    have A := Lib.hid ha
    have B := Lib.hid hb
    clear ha hb
    by_cases hlt : i < n
    · have hlt2 : (i : Int) < (n : Int) := by omega
      obtain ⟨e, he, hk, hv⟩ := HG.out i hlt
      have R := Lib.hid (H1.out.below B.out hg)
      obtain ⟨c0, c1⟩ := R.out.cols he
      have A2 := Lib.hid (allOk_snoc he A.out)
      have T2 := Lib.hid (show recsText (L.take (i + 1)) = recsText (L.take i) ++ putRecv e.key e.value by rw [take_snocR he, recsText_snoc])
      have X2 := Lib.hid (HA.out i e he)
      have tl := recsText_le (L.take i)
      have tn : (L.take i).length ≤ i := by simp; omega
      have HE := Lib.hid he
      clear he
      obtain ⟨k, v⟩ := e
      have P0 := Lib.hid (fun w => recordOk_spec k v w hk hv)
      have P1 := Lib.hid (fun w => putRecord_spec k v w hk hv)
      have pl := putRec_le k v
      dsimp only at A2 T2 X2 hk hv c0 c1
      generalize recsText (L.take i) = tx at *
      generalize putRecv k v = pt at *
      cases hr : recOkv k v with
      | false =>
        have HF : Hid (r = ⟨#[]⟩) := Lib.hid (X2.out hr)
        rw [hr] at P0
        clear hr X2 A2
        go_wp2_with fail
        refine (P0.out _).mono ?_
        rintro e w1 ⟨rfl, hb⟩
        replace B := Lib.hid (btR B.out hb)
        clear hb
        go_wp2_with fail
        go_ret
        exact ⟨ret_str HF.out.symm, B.out⟩
      | true =>
        rw [hr] at P0
        have A3 := Lib.hid (A2.out hr)
        clear hr X2 A2
        by_cases hx : (20 : Int) < (n : Int)
        · have HF : Hid (r = ⟨#[]⟩) := Lib.hid (HX.out (by omega))
          go_wp2_with fail
          refine (P0.out _).mono ?_
          rintro e w1 ⟨rfl, hb⟩
          replace B := Lib.hid (btR B.out hb)
          clear hb
          go_wp2_with fail
          go_ret
          exact ⟨ret_str HF.out.symm, B.out⟩
        · go_wp2_with fail
          refine (P0.out _).mono ?_
          rintro e w1 ⟨rfl, hb⟩
          replace B := Lib.hid (btR B.out hb)
          clear hb
          replace R := Lib.hid (H1.out.below B.out hg)
          clear c0 c1
          obtain ⟨c0, c1⟩ := R.out.cols HE.out
          dsimp only at c0 c1
          go_wp2_with fail
          refine (P1.out _).mono ?_
          rintro e w2 ⟨rfl, hb⟩
          replace B := Lib.hid (btR B.out hb)
          clear hb c0 c1
          go_wp2_with fail
          go_roundw
          case rel => exact ⟨i + 1, by go_num, by omega, fun _ => by omega, A3.out, by rw [T2.out], B.out⟩
          case measure => simp [intOf]; omega
    · obtain rfl : i = n := by omega
      have hlt2 : ¬ (i : Int) < (i : Int) := by omega
      have HF : Hid (r = recsText (L.take i)) := Lib.hid (by
        by_cases h0 : i = 0
        · rw [H0.out h0, h0]; simp [recsText]
        · exact HD.out A.out (h20 (by omega)))
      go_wp2_with fail
      go_ret
      exact ⟨ret_str HF.out.symm, B.out⟩

theorem textR {w : World} {base n : Nat} {v : Value} {l : List UInt8} {s : ByteArray} (hn : n = l.length + s.size) (h : w.ownsRow base 5 1 v n (byteVals l ++ Lib.strCells s)) : OwnB w base v (l ++ s.data.toList) := by
  subst hn
  have e : byteVals l ++ Lib.strCells s = byteVals (l ++ s.data.toList) := by simp [byteVals, Lib.strCells]
  rw [e, show l.length + s.size = (l ++ s.data.toList).length from by simp] at h
  exact h
theorem ownB_belowR {w w' : World} {base : Nat} {v : Value} {l : List UInt8} (h : OwnB w base v l) (hb : Below w.heap.size w w') : OwnB w' base v l :=
  World.ownsRow.kept h (row := none) ⟨hb.os, hb.tape, hb.output, hb.size, fun k hk _ => hb.block k hk⟩ (by cases hv : v.ownBlock <;> simp)
theorem emptR {l : ByteArray} (h : l.size = 0) : l.toList.isEmpty = true := by
  rw [ba_toList]
  have : l.data.toList = [] := List.eq_nil_of_length_eq_zero (by simpa using h)
  rw [this]; rfl
theorem fullR {l : ByteArray} (h : ¬ l.size = 0) : l.toList.isEmpty = false := by
  rw [ba_toList]
  cases hd : l.data.toList with
  | nil => exact absurd (by have := congrArg List.length hd; simpa using this) h
  | cons a b => rfl
set_option maxHeartbeats 3200000 in
theorem putRecords_impl (L : List Rec) (n g cap : Nat) (w : World) (hn : n = L.length) (hm : n ≤ 4194304) (hg : g < w.heap.size) (hsm : SmallR L) (h1 : RowR w g L) (ht : Lib.TabIs Tryd.prog w "internal/strconv.uint64pow10" .u64 Lib.pow10Tab) :
    Calls Tryd.prog 17 #[.slice (some ⟨g, 0, none⟩) n cap] w fun e w' => e = .returned (.string (putRecsv L)) ∧ Below w.heap.size w w' := by
  obtain ⟨i0, hi0, hz0, hz1, hz2⟩ := info_parts Tryd.info5
  have H1 := Lib.hid h1
  have HT := Lib.hid ht
  have HG : Hid (∀ i, i < n → ∃ e, L[i]? = some e ∧ e.key.size ≤ 4194304 ∧ e.value.size ≤ 4194304) := Lib.hid (fun i hi => by obtain ⟨e, he⟩ := getR (L := L) (i := i) (by omega); exact ⟨e, he, hsm e (List.mem_of_getElem? he)⟩)
  have HD : Hid (allOk (L.take n) = true → n ≤ 20 → putRecsv L = recsText (L.take n)) := Lib.hid (fun h h2 => by rw [hn, List.take_length] at h ⊢; rw [putRecsv, h, decide_eq_true (by omega)]; rfl)
  have HX : Hid (20 < n → putRecsv L = ⟨#[]⟩) := Lib.hid (fun h => by rw [putRecsv, decide_eq_false (by omega : ¬ L.length ≤ 20)]; simp)
  have HA : Hid (∀ (i : Nat) (e : Rec), L[i]? = some e → recOkv e.key e.value = false → putRecsv L = ⟨#[]⟩) := Lib.hid (fun i e he hb => allOk_bad he hb)
  clear h1 hn hsm ht
  generalize putRecsv L = r at HD HX HA
  by_cases hx : (20 : Int) < (n : Int)
  · have HF : Hid (r = ⟨#[]⟩) := Lib.hid (HX.out (by omega))
    go_enter Tryd.func17, Tryd.ntmps17
    go_wp2_with fail
    go_ret
    exact ⟨ret_str HF.out.symm, Below.refl _ _⟩
  have hx2 : n ≤ 20 := by omega
  have O0 : Hid (OwnB w w.heap.size (.slice none 0 0) []) := Lib.hid ⟨rfl, .inl ⟨rfl, rfl⟩⟩
  go_enter Tryd.func17, Tryd.ntmps17
  go_wp2_with fail
  go_loopw [3, 12] (fun v u wr => ∃ i : Nat, u = .int .i64 i ∧ i ≤ n ∧ allOk (L.take i) = true ∧ OwnB wr w.heap.size v (recsText (L.take i)).data.toList ∧ Below w.heap.size w wr) (fun _ u _ => n - (intOf u).toNat)
  case atStart => exact ⟨0, rfl, Nat.zero_le _, by simp [allOk], O0.out, Below.refl _ _⟩
  case round =>
    obtain ⟨i, rfl, hi, ha, ho, hb⟩ := hrel
    have A := Lib.hid ha
    have B := Lib.hid hb
    have O := Lib.hid ho
    clear ha hb ho O0
    by_cases hlt : i < n
    · have hlt2 : (i : Int) < (n : Int) := by omega
      obtain ⟨e, he, hk, hv⟩ := HG.out i hlt
      have R := Lib.hid (H1.out.below B.out hg)
      obtain ⟨c0, c1⟩ := R.out.cols he
      have A2 := Lib.hid (allOk_snoc he A.out)
      have T2 := Lib.hid (show recsText (L.take (i + 1)) = recsText (L.take i) ++ putRecv e.key e.value by rw [take_snocR he, recsText_snoc])
      have X2 := Lib.hid (HA.out i e he)
      have tl := recsText_le (L.take i)
      have tn : (L.take i).length ≤ i := by simp; omega
      clear he
      obtain ⟨k, v⟩ := e
      have P1 := Lib.hid (fun w h => putRecord_impl k v w hk hv h)
      have pl := putRec_le k v
      have PE := Lib.hid (putRec_empty k v)
      dsimp only at A2 T2 X2 hk hv c0 c1
      generalize recsText (L.take i) = tx at *
      generalize putRecv k v = pt at *
      go_wp2_with fail
      refine (P1.out _ (Lib.tabBelow_of_tabIs HT.out _ (B.out.alloc B.out.size _))).mono ?_
      rintro e w1 ⟨rfl, hb⟩
      replace O := Lib.hid (ownB_belowR (World.ownsRow.alloc O.out _) hb)
      replace B := Lib.hid (btR B.out (one_newR (e1 := ⟨k, v⟩) hb).2.1)
      clear hb c0 c1
      cases hr : recOkv k v with
      | false =>
        have HF : Hid (r = ⟨#[]⟩) := Lib.hid (X2.out hr)
        have q := emptR (PE.out.2 hr)
        clear hr X2 A2
        go_wp2_with fail
        go_ret
        exact ⟨ret_str HF.out.symm, B.out⟩
      | true =>
        have A3 := Lib.hid (A2.out hr)
        have q := fullR (fun h => by rw [PE.out.1 h] at hr; cases hr)
        clear hr X2 A2
        have zT : tx.data.toList.length = tx.size := by simp
        have s3 := B.out.size
        go_wp2_with (at_builtin; refine Lib.wpList_append_own_string _ rfl _ _ 51 9 rfl w.heap.size 5 i0 Tryd.underlying51 Tryd.underlying9 hi0 hz0 hz1 hz2 _ _ _ rfl O.out pt rfl ?d3 ?d4 ?d5 ?_)
        case d3 => simp only [maxLen]; omega
        case d4 => omega
        case d5 => omega
        · intro v4 w4 hown4 hgrow4 _
          have O4 : OwnB w4 w.heap.size v4 (tx.data.toList ++ pt.data.toList) := textR (by simp <;> omega) hown4
          rw [show tx.data.toList ++ pt.data.toList = (tx ++ pt).data.toList from by simp] at O4
          have O5 := Lib.hid O4
          have B4 : Hid (Below w.heap.size w w4) := Lib.hid (B.out.grown hgrow4 (by omega) (fun b hb => (World.ownsRow.lt O.out b hb).1))
          clear hown4 hgrow4 O4
          go_wp2_with fail
          go_roundw
          case rel => exact ⟨i + 1, by go_num, by omega, A3.out, by rw [T2.out]; exact O5.out, B4.out⟩
          case measure => simp [intOf]; omega
    · obtain rfl : i = n := by omega
      have hlt2 : ¬ (i : Int) < (i : Int) := by omega
      have HF : Hid (r = recsText (L.take i)) := Lib.hid (HD.out A.out hx2)
      have hc := O.out.conv
      rw [show (⟨(recsText (L.take i)).data.toList.toArray⟩ : ByteArray) = recsText (L.take i) from by simp] at hc
      go_wp2_with fail
      go_ret
      exact ⟨ret_str HF.out.symm, B.out⟩
end Go.Proofs.YtlbanaakjabfnaaDoor
