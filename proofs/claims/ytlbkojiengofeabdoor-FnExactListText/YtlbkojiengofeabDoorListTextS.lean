/- Contracts of spec.ListText and impl.ListText. -/
import Derived.Test.YtlbkojiengofeabDoorEntTextI
import Derived.Test.YtlbkojiengofeabDoorListOk
import Derived.Test.YtlbkojiengofeabDoorOwn
import Derived.Lib.AppendStr
namespace Go.Proofs.YtlbkojiengofeabDoor
open Go.ChangeShapes Go.WideShapes Go.ChangeAt Go.RowKit Go.Deep

/-- The lines of the first i entries. -/
def textTo (L : List Ent) : Nat → ByteArray
  | 0 => ⟨#[]⟩
  | i + 1 => textTo L i ++ entTextv (L.getD i entD) ++ ⟨#[10]⟩
def listTextv (L : List Ent) : ByteArray := textTo L L.length
theorem textTo_step {L : List Ent} {i : Nat} {e : Ent} (h : L[i]? = some e) : textTo L (i + 1) = textTo L i ++ entTextv e ++ ⟨#[10]⟩ := by
  rw [textTo]; simp [List.getD, h]
theorem kindCh_size (k : Int) : (kindCh k).size ≤ 1 := by
  unfold kindCh
  split
  · decide
  · split
    · decide
    · split <;> decide
theorem entTextv_size (e : Ent) : (entTextv e).size ≤ 1000 := by
  cases hok : entOkv e with
  | false => rw [entTextv, if_neg (by rw [hok]; simp)]; exact Nat.zero_le _
  | true =>
    obtain ⟨hk, hm, hu, hg, ht, hp2, hus2, hgr2, hb2, hl2⟩ := entOk_parts hok
    have z0 := kindCh_size e.kind
    have z1 := oct_size e.mode
    have z2 := dec_size e.uid (by omega) (by omega)
    have z3 := dec_size e.gid (by omega) (by omega)
    have z4 := dec_size e.time (by omega) (by omega)
    have z5 := dec_size e.body.size (by omega) (by omega)
    have z6 := or_size e.user hus2
    have z7 := or_size e.group hgr2
    have zsp : (⟨#[32]⟩ : ByteArray).size = 1 := rfl
    have zlk : (⟨#[32, 45, 62, 32]⟩ : ByteArray).size = 4 := rfl
    by_cases hl : e.link.size = 0
    · rw [entText_zero hok hl]
      simp only [nineS, ByteArray.size_append]
      omega
    · rw [entText_link hok hl]
      simp only [nineS, ByteArray.size_append]
      omega
theorem textTo_size (L : List Ent) (i : Nat) : (textTo L i).size ≤ 1001 * i := by
  induction i with
  | zero => exact Nat.zero_le _
  | succ i ih =>
    have h := entTextv_size (L.getD i entD)
    have z : (⟨#[10]⟩ : ByteArray).size = 1 := rfl
    rw [textTo, ByteArray.size_append, ByteArray.size_append]
    omega
theorem listText_spec (L : List Ent) (n g cap : Nat) (w : World) (hn : n = L.length) (hm : n ≤ 1048576) (hg : g < w.heap.size) (hsm : SmallL L) (h1 : RowE w g L) :
    Calls Tryd.prog 10 #[.slice (some ⟨g, 0, none⟩) n cap] w fun e w' => e = .returned (.string (listTextv L)) ∧ Below w.heap.size w w' := by
  have H1 := Lib.hid h1
  have HG : Hid (∀ i, i < n → ∃ e, L[i]? = some e ∧ esz e ≤ 4194304) := Lib.hid (fun i hi => by obtain ⟨e, he⟩ := getE' (L := L) (i := i) (by omega); exact ⟨e, he, hsm.get he⟩)
  have HD : Hid (listTextv L = textTo L n) := Lib.hid (by rw [hn]; rfl)
  have HZ := Lib.hid (textTo_size L)
  generalize listTextv L = r at HD
  clear h1 hn hsm
  go_enter Tryd.func10, Tryd.ntmps10
  go_wp2_with fail
  go_loopw [3, 4] (fun v u wr => ∃ i : Nat, v = .string (textTo L i) ∧ u = .int .i64 i ∧ i ≤ n ∧ Below w.heap.size w wr) (fun _ u _ => n - (intOf u).toNat)
  case atStart => exact ⟨0, rfl, rfl, Nat.zero_le _, Below.refl _ _⟩
  case round =>
    obtain ⟨i, rfl, rfl, hi, hb⟩ := hrel
    have B := Lib.hid hb
    clear hb
    by_cases hlt : i < n
    · have hlt2 : (i : Int) < (n : Int) := by omega
      obtain ⟨e, he, hz⟩ := HG.out i hlt
      obtain ⟨c0, c1, c2, c3, c4, c5, c6, c7, c8, c9⟩ := (H1.out.below B.out hg).ten he
      have HS := Lib.hid (textTo_step he)
      have hsz := small_parts hz
      have y1 := HZ.out i
      have y2 := entTextv_size e
      clear he hz
      obtain ⟨k, p, l, m, u, g0, t, us, gr, b⟩ := e
      dsimp only at hsz
      have HE := Lib.hid (fun w => entText_spec k p l m u g0 t us gr b w hsz.1 hsz.2.1 hsz.2.2.1 hsz.2.2.2.1 hsz.2.2.2.2)
      clear hsz
      generalize entTextv ⟨k, p, l, m, u, g0, t, us, gr, b⟩ = x at HS HE y2
      generalize textTo L i = T at HS y1
      have y3 : T.size ≤ 2000000000 := by omega
      clear y1
      go_wp2_with fail
      refine (HE.out _).mono ?_
      rintro e1 w1 ⟨rfl, hb⟩
      have B1 := Lib.hid (btE B.out hb)
      clear hb B c0 c1 c2 c3 c4 c5 c6 c7 c8 c9
      go_wp2_with fail
      go_roundw
      case rel => exact ⟨i + 1, by rw [HS.out], by go_num, by omega, B1.out⟩
      case measure => simp [intOf]; omega
    · obtain rfl : i = n := by omega
      have hlt2 : ¬ (i : Int) < (i : Int) := by omega
      go_wp2_with fail
      go_ret
      exact ⟨ret_str (by rw [HD.out]), B.out⟩
theorem OwnB.snocT {w : World} {base : Nat} {v : Value} {l : List UInt8} {c : UInt8} (h : w.ownsRow base 5 1 v (l.length + 1) (byteVals l ++ [.int .u8 ((c.toNat : Nat) : Int)])) : OwnB w base v (l ++ [c]) := by
  rw [byteVals_snoc] at h
  rw [show l.length + 1 = (l ++ [c]).length from by simp] at h
  exact h
theorem OwnB.textT {w : World} {base n : Nat} {v : Value} {l : List UInt8} {s : ByteArray} (hn : n = l.length + s.size) (h : w.ownsRow base 5 1 v n (byteVals l ++ Lib.strCells s)) : OwnB w base v (l ++ s.data.toList) := by
  subst hn
  have e : byteVals l ++ Lib.strCells s = byteVals (l ++ s.data.toList) := by simp [byteVals, Lib.strCells]
  rw [e, show l.length + s.size = (l ++ s.data.toList).length from by simp] at h
  exact h
theorem ownB_below {w w' : World} {base : Nat} {v : Value} {l : List UInt8} (h : OwnB w base v l) (hb : Below w.heap.size w w') : OwnB w' base v l :=
  World.ownsRow.kept h (row := none) ⟨hb.os, hb.tape, hb.output, hb.size, fun k hk _ => hb.block k hk⟩ (by cases hv : v.ownBlock <;> simp)
theorem listText_impl (L : List Ent) (n g cap : Nat) (w : World) (hn : n = L.length) (hm : n ≤ 1048576) (hg : g < w.heap.size) (hsm : SmallL L) (htab : Tabs w) (h1 : RowE w g L) :
    Calls Tryd.prog 12 #[.slice (some ⟨g, 0, none⟩) n cap] w fun e w' => e = .returned (.string (listTextv L)) ∧ Below w.heap.size w w' := by
  obtain ⟨i0, hi0, hz0, hz1, hz2⟩ := info_parts Tryd.info5
  have H1 := Lib.hid h1
  have HTab := Lib.hid htab
  have HG : Hid (∀ i, i < n → ∃ e, L[i]? = some e ∧ esz e ≤ 4194304) := Lib.hid (fun i hi => by obtain ⟨e, he⟩ := getE' (L := L) (i := i) (by omega); exact ⟨e, he, hsm.get he⟩)
  have HD : Hid (listTextv L = textTo L n) := Lib.hid (by rw [hn]; rfl)
  have HZ := Lib.hid (textTo_size L)
  generalize listTextv L = r at HD
  clear h1 hn hsm htab
  go_enter Tryd.func12, Tryd.ntmps12
  go_wp2_with fail
  go_loopw [3, 5, 8] (fun v _ u wr => ∃ i : Nat, u = .int .i64 i ∧ i ≤ n ∧ OwnB wr w.heap.size v (textTo L i).data.toList ∧ Below w.heap.size w wr) (fun _ _ u _ => n - (intOf u).toNat)
  case atStart => exact ⟨0, rfl, Nat.zero_le _, World.ownsRow_nil _ _ _ _, Below.refl _ _⟩
  case round =>
    obtain ⟨i, rfl, hi, ho, hb⟩ := hrel
    have O := Lib.hid ho
    have B := Lib.hid hb
    clear ho hb
    by_cases hlt : i < n
    · have hlt2 : (i : Int) < (n : Int) := by omega
      obtain ⟨e, he, hz⟩ := HG.out i hlt
      obtain ⟨c0, c1, c2, c3, c4, c5, c6, c7, c8, c9⟩ := (H1.out.below B.out hg).ten he
      have HS := Lib.hid (textTo_step he)
      have hsz := small_parts hz
      have y1 := HZ.out i
      have y2 := entTextv_size e
      clear he hz
      obtain ⟨k, p, l, m, u, g0, t, us, gr, b⟩ := e
      dsimp only at hsz
      have HE := Lib.hid (fun w h => entText_impl k p l m u g0 t us gr b w hsz.1 hsz.2.1 hsz.2.2.1 hsz.2.2.2.1 h)
      clear hsz
      generalize entTextv ⟨k, p, l, m, u, g0, t, us, gr, b⟩ = x at HS HE y2
      generalize textTo L i = T at HS y1 O
      have y3 : T.data.toList.length ≤ 2000000000 := by have e : T.data.toList.length = T.size := (by simp); omega
      have HX : Hid ((textTo L (i + 1)).data.toList = (T.data.toList ++ x.data.toList) ++ [10]) := Lib.hid (by rw [HS.out]; simp)
      have Y := Lib.hid (And.intro y2 y3)
      clear y1 y2 y3
      have hsz := B.out.size
      have TA : Hid (Tabs (wr.alloc (.cells #[.int .i64 k, .string p, .string l, .int .i64 m, .int .i64 u, .int .i64 g0, .int .i64 t, .string us, .string gr, .string b] 26))) := Lib.hid ((HTab.out.below B.out).below ((Below.refl _ _).alloc (Nat.le_refl _) _))
      go_wp2_with fail
      refine (HE.out _ TA.out).mono ?_
      rintro e1 w1 ⟨rfl, hb⟩
      obtain ⟨_, bb, _⟩ := one_new (e1 := ⟨k, p, l, m, u, g0, t, us, gr, b⟩) hb
      have O1 := Lib.hid (ownB_below O.out bb)
      have B1 := Lib.hid (btE B.out bb)
      clear hb bb O B TA c0 c1 c2 c3 c4 c5 c6 c7 c8 c9
      have hsz1 := B1.out.size
      go_wp2_with (at_builtin; refine Lib.wpList_append_own_string _ rfl _ _ 44 9 rfl w.heap.size 5 i0 Tryd.underlying44 Tryd.underlying9 hi0 hz0 hz1 hz2 _ _ _ rfl O1.out x rfl ?d3 ?d4 ?d5 ?_)
      case d3 => have := Y.out; simp only [maxLen]; omega
      case d4 => have := Y.out; omega
      case d5 => omega
      · intro v2 w2 hown2 hgrow2 _
        have O2 : Hid (OwnB w2 w.heap.size v2 (T.data.toList ++ x.data.toList)) := Lib.hid (OwnB.textT (by simp) hown2)
        have B2 : Hid (Below w.heap.size w w2) := Lib.hid (B1.out.grown hgrow2 (by omega) (fun b hb => (World.ownsRow.lt O1.out b hb).1))
        clear hown2 hgrow2
        have hsz2 := B2.out.size
        go_wp2_with (at_builtin; refine wpList_append_own _ rfl _ _ 44 rfl w.heap.size 5 i0 (.int .u8 0) 1 1 Tryd.underlying44 hi0 hz0 hz1 hz2 rfl (by decide) _ _ _ rfl (World.ownsRow.alloc O2.out _) ⟨w2.heap.size, 0, none⟩ 1 1 [.int .u8 10] rfl rfl ?c1 ?c2 ?c3 ?c4 ?c5 ?_)
        case c1 => exact cell_one_new _ _ _
        case c2 => intro u hu; simp at hu; subst hu; rfl
        case c3 => have h := Y.out; have e : T.data.toList.length = T.size := (by simp); rw [e] at h; simp only [maxLen, List.length_append]; simp; omega
        case c4 => have h := Y.out; have e : T.data.toList.length = T.size := (by simp); rw [e] at h; simp only [List.length_append]; simp; omega
        case c5 => simp; omega
        · intro v' w3 hown' hgrow _
          have O3 : Hid (OwnB w3 w.heap.size v' (textTo L (i + 1)).data.toList) := Lib.hid (by rw [HX.out]; exact OwnB.snocT (c := 10) (by have e : (T.data.toList ++ x.data.toList).length = T.size + x.size := (by simp); rw [e]; exact hown'))
          have B3 : Hid (Below w.heap.size w w3) := Lib.hid ((B2.out.alloc hsz2 _).grown hgrow (by simp; omega) (fun b hb => (World.ownsRow.lt O2.out b hb).1))
          clear hown' hgrow
          go_wp2_with fail
          go_roundw
          case rel => exact ⟨i + 1, by go_num, by omega, O3.out, B3.out⟩
          case measure => simp [intOf]; omega
    · obtain rfl : i = n := by omega
      have hlt2 : ¬ (i : Int) < (i : Int) := by omega
      have hc := O.out.conv
      go_wp2_with fail
      go_ret
      exact ⟨ret_str (by rw [HD.out]), B.out⟩
end Go.Proofs.YtlbkojiengofeabDoor
