/- Texts joined: CardText, UserI, EntOkI, CpioF, OdcF, PutOdcS, Demand, CardTextI, CardDig, CatchP, RegPan, PutCdI, FindI, Clone, CardOf, MapS, KindMath, ListOkI, MapI. -/
import Derived.Test.YtcnmbolmgifgfabGreatDoorCardO
import Derived.Test.YtcnmbolmgifgfabGreatDoorPutOH
import Derived.Test.YtcnmbolmgifgfabGreatDoorRegSl
import Derived.Deep.DeepCutAuto
import Derived.OwnWalk
import Derived.Test.YtcnmbolmgifgfabGreatDoorWhoS
import Derived.Test.YtcnmbolmgifgfabGreatDoorVis
import Derived.Test.YtcnmbolmgifgfabGreatDoorEntOk
import Derived.Test.YtcnmbolmgifgfabGreatDoorFindE
import Derived.Test.YtcnmbolmgifgfabGreatDoorCardsS
import Derived.Test.YtcnmbolmgifgfabGreatDoorCom
import Derived.WalkSmall
import Derived.WalkLawsBesides
import Derived.Test.YtcnmbolmgifgfabGreatDoorOwn
import Derived.Defers
import Derived.Recover
import Derived.Test.YtcnmbolmgifgfabGreatDoorEntAt
import Derived.Shelf.Abstract
import Derived.Test.YtcnmbolmgifgfabGreatDoorShelf
import Derived.Test.YtcnmbolmgifgfabGreatDoorCardMath
import Derived.Test.YtcnmbolmgifgfabGreatDoorEntO
import Derived.Maps.OwnSet
import Derived.Maps.OwnOps
import Derived.Test.YtcnmbolmgifgfabGreatDoorListOk
/- The text of a card; contracts of spec.l07Wide, spec.l07Octs and spec.PutCard. -/
namespace Go.Proofs.YtcnmbolmgifgfabGreatDoor
open Go.ChangeShapes Go.WideShapes Go.ChangeAt Go.RowKit Go.Deep

/-- The numbers of a card's head and their widths. -/
def flds (c : Card) : List (Int × Int) := [(0, 6), (c.Ino, 6), (c.Mode, 6), (c.Uid, 6), (c.Gid, 6), (c.Count, 6), (0, 6), (c.Time, 11), ((c.Path.size : Int) + 1, 6), ((c.Data.size : Int), 11)]
def octsOk (L : List (Int × Int)) : Bool := L.all fun x => (putOctv x.1 x.2).2
def octsB : List (Int × Int) → List UInt8
  | [] => []
  | x :: L => (putOctv x.1 x.2).1.data.toList ++ octsB L
def octsS (L : List (Int × Int)) : ByteArray := ⟨(octsB L).toArray⟩
theorem octsB_app (L M : List (Int × Int)) : octsB (L ++ M) = octsB L ++ octsB M := by
  induction L with
  | nil => rfl
  | cons x L ih => simp [octsB, ih]
theorem ba_appK (a b : List UInt8) : (⟨(a ++ b).toArray⟩ : ByteArray) = ⟨a.toArray⟩ ++ ⟨b.toArray⟩ := by
  apply ba_ext
  simp
theorem ba_self (s : ByteArray) : (⟨s.data.toList.toArray⟩ : ByteArray) = s := by cases s; simp
theorem octsS_snoc (L : List (Int × Int)) (x : Int × Int) : octsS (L ++ [x]) = octsS L ++ (putOctv x.1 x.2).1 := by
  have h : octsB [x] = (putOctv x.1 x.2).1.data.toList := by simp [octsB]
  rw [octsS, octsB_app, ba_appK, h, ba_self, octsS]
theorem octsOk_take {L : List (Int × Int)} {i : Nat} {x : Int × Int} (h : L[i]? = some x) : octsOk (L.take (i + 1)) = (octsOk (L.take i) && (putOctv x.1 x.2).2) := by
  rw [List.take_add_one, h]
  simp [octsOk]
theorem octsOk_bad {L : List (Int × Int)} {i : Nat} {x : Int × Int} (h : L[i]? = some x) (hk : (putOctv x.1 x.2).2 = false) : octsOk L = false := by
  rw [octsOk, List.all_eq_false]
  exact ⟨x, List.mem_of_getElem? h, by simp [hk]⟩
theorem octs_take {L : List (Int × Int)} {i : Nat} {x : Int × Int} (h : L[i]? = some x) : octsS (L.take (i + 1)) = octsS (L.take i) ++ (putOctv x.1 x.2).1 := by
  rw [List.take_add_one, h]
  exact octsS_snoc _ _
theorem putOct_le (n width : Int) : (putOctv n width).1.size ≤ 20 := by
  unfold putOctv
  split
  · rename_i h
    have h1 := h.1.2.2
    show (ahead (numeral 8 n.toNat) width).toArray.size ≤ 20
    rw [List.size_toArray, ahead_len]
    have h2 := h.1
    unfold Valid at h2
    omega
  · exact Nat.zero_le _
theorem octsS_le (L : List (Int × Int)) : (octsS L).size ≤ 20 * L.length := by
  induction L with
  | nil => exact Nat.zero_le _
  | cons x L ih =>
    have h1 := putOct_le x.1 x.2
    have e1 : (octsS (x :: L)).size = (octsB (x :: L)).length := by simp [octsS, ByteArray.size]
    have e2 : (octsS L).size = (octsB L).length := by simp [octsS, ByteArray.size]
    have e3 : (putOctv x.1 x.2).1.data.toList.length = (putOctv x.1 x.2).1.size := Array.length_toList
    rw [e1, octsB, List.length_append, e3, List.length_cons]
    omega
def octsR (L : List (Int × Int)) : ByteArray := if octsOk L then octsS L else ⟨#[]⟩
theorem octsS_nil : octsS [] = ⟨#[]⟩ := rfl
/-- The text of a card: none where a number has no room. -/
def cardTextv (c : Card) : ByteArray := if octsOk (flds c) then ⟨#[48, 55, 48, 55, 48, 55]⟩ ++ octsS (flds c) ++ c.Path ++ ⟨#[0]⟩ ++ c.Data else ⟨#[]⟩
def wideC : List Int := [6, 6, 6, 6, 6, 6, 6, 11, 6, 11]
/-- A row of numbers. -/
def RowN (w : World) (g : Nat) (l : List Int) : Prop := ∀ i x, l[i]? = some x → w.cell? ⟨g, i, none⟩ = some (.int .i64 x)
theorem RowN.below {w w' : World} {g B : Nat} {l : List Int} (h : RowN w g l) (hb : Below B w w') (hg : g < B) : RowN w' g l := fun i x hx => (hb.cell (p := ⟨g, i, none⟩) hg).trans (h i x hx)
theorem RowN.of {w : World} {g : Nat} {l : List Int} {ty : TypeId} (h : w.heap[g]? = some (.cells (l.map (fun x => Value.int .i64 x)).toArray ty (0, 0))) : RowN w g l := by
  intro i x hx
  simp only [World.cell?, h]
  simp [hx]
theorem wide_spec (w : World) : Calls Tryz.prog 63 #[] w fun e w' => ∃ G, e = .returned (.slice (some ⟨G, 0, none⟩) 10 10) ∧ w.heap.size ≤ G ∧ w'.heap[G]? = some (.cells #[.int .i64 6, .int .i64 6, .int .i64 6, .int .i64 6, .int .i64 6, .int .i64 6, .int .i64 6, .int .i64 11, .int .i64 6, .int .i64 11] 3 (0, 0)) ∧ Below w.heap.size w w' := by
  go_enter Tryz.func63, Tryz.ntmps63
  go_wp2_with fail
  go_ret
  exact ⟨w.heap.size, rfl, Nat.le_refl _, heap_lastG _ _, (Below.refl _ _).alloc (Nat.le_refl _) _⟩
set_option maxHeartbeats 3200000 in
set_option maxRecDepth 8000 in
theorem octs_spec (L : List (Int × Int)) (n g g2 : Nat) (w : World) (hn : n = L.length) (hm : n ≤ 1000) (hg : g < w.heap.size) (hg2 : g2 < w.heap.size) (h1 : RowN w g (L.map Prod.fst)) (h2 : RowN w g2 (L.map Prod.snd)) :
    Calls Tryz.prog 62 #[.slice (some ⟨g, 0, none⟩) n n, .slice (some ⟨g2, 0, none⟩) n n] w fun e w' => e = .returned (.tuple #[.string (octsR L), .bool (octsOk L)]) ∧ Below w.heap.size w w' := by
  have H1 := Lib.hid h1
  have H2 := Lib.hid h2
  have HG : Hid (∀ i, i < n → ∃ x, L[i]? = some x ∧ (L.map Prod.fst)[i]? = some x.1 ∧ (L.map Prod.snd)[i]? = some x.2) := Lib.hid (fun i hi => by
    have hx : L[i]? = some L[i] := List.getElem?_eq_getElem (by omega)
    exact ⟨L[i], hx, by simp [hx], by simp [hx]⟩)
  have HS := Lib.hid (fun i x (h : L[i]? = some x) => octs_take h)
  have HK := Lib.hid (fun i x (h : L[i]? = some x) => octsOk_take h)
  have HB := Lib.hid (fun i x (h : L[i]? = some x) hk => octsOk_bad h hk)
  have HZ : Hid (octsS (L.take 0) = ⟨#[]⟩ ∧ octsOk (L.take 0) = true) := Lib.hid ⟨rfl, rfl⟩
  have HF : Hid (octsS (L.take n) = octsS L ∧ octsOk (L.take n) = octsOk L) := Lib.hid (by rw [hn, List.take_length]; exact ⟨rfl, rfl⟩)
  have HLe : Hid (∀ i, i ≤ n → (octsS (L.take i)).size ≤ 20000) := Lib.hid (fun i _ => by have h8 := octsS_le (L.take i); rw [List.length_take] at h8; omega)
  have HP := Lib.hid (fun n width w => putOct_spec n width w)
  have HPl := Lib.hid putOct_le
  have HR : Hid (octsR L = if octsOk L then octsS L else ⟨#[]⟩) := Lib.hid rfl
  generalize octsR L = res at HR
  generalize octsOk L = ok at HF HB HR
  generalize octsS L = r at HF HR
  clear h1 h2 hn
  go_enter Tryz.func62, Tryz.ntmps62
  go_wp2_with fail
  go_loopw [6, 7, 8, 9] (fun v u _ _ wr => ∃ i : Nat, u = .int .i64 i ∧ i ≤ n ∧ octsOk (L.take i) = true ∧ v = .string (octsS (L.take i)) ∧ Below w.heap.size w wr) (fun _ u _ _ _ => n - (intOf u).toNat)
  case atStart => exact ⟨0, rfl, Nat.zero_le _, HZ.out.2, by rw [HZ.out.1], Below.refl _ _⟩
  case round =>
    obtain ⟨i, rfl, hi, hok, rfl, hb⟩ := hrel
    obtain ⟨w5, hw5⟩ : ∃ wo, wo = wr := ⟨_, rfl⟩
    subst hw5
    have B := Lib.hid hb
    have hszB := B.out.size
    have HOk := Lib.hid hok
    clear hb hok
    by_cases hlt : i < n
    · have hlt2 : (i : Int) < (n : Int) := by omega
      obtain ⟨⟨x, y⟩, hx, hx1, hx2⟩ := HG.out i hlt
      have HS2 := Lib.hid (HS.out i _ hx)
      have HK2 := Lib.hid (HK.out i _ hx)
      have HB2 := Lib.hid (HB.out i _ hx)
      simp only at HS2 HK2 HB2 hx1 hx2
      have hle := HLe.out i hi
      have hpl := HPl.out x y
      have KC : Hid (∀ w', Below w5.heap.size w5 w' → w'.cell? ⟨g, i, none⟩ = some (.int .i64 x) ∧ w'.cell? ⟨g2, i, none⟩ = some (.int .i64 y)) := Lib.hid (fun w' hb => ⟨(hb.cell (p := ⟨g, i, none⟩) (by simp; omega)).trans ((B.out.cell (p := ⟨g, i, none⟩) (by simp; omega)).trans (H1.out i x hx1)), (hb.cell (p := ⟨g2, i, none⟩) (by simp; omega)).trans ((B.out.cell (p := ⟨g2, i, none⟩) (by simp; omega)).trans (H2.out i y hx2))⟩)
      have HP2 := Lib.hid (fun w => HP.out x y w)
      clear hx hx1 hx2 HS HK HB HG HP
      obtain ⟨T, hT⟩ : ∃ T, octsS (L.take i) = T := ⟨_, rfl⟩
      rw [hT] at HS2 hle ⊢
      clear hT
      generalize (putOctv x y).1 = q at HS2 hpl HP2
      generalize (putOctv x y).2 = b at HB2 HK2 HP2
      go_upto_region 5 with fail
      refine wp_region_inv (by kernel_rfl) (fun w' => Below w5.heap.size w5 w') (fun x y => Below x.heap.size x y) (fun dq vq _ => match dq with | 17 => vq = .slice (some ⟨g, 0, none⟩) n n | 18 => vq = .int .i64 (i : Int) | 19 => vq = .pointer (some ⟨g, i, none⟩) | 20 => vq = .int .i64 x | 21 => vq = .slice (some ⟨g2, 0, none⟩) n n | 22 => vq = .int .i64 (i : Int) | 23 => vq = .pointer (some ⟨g2, i, none⟩) | 24 => vq = .int .i64 y | 25 => vq = .tuple #[.string q, .bool b] | 16 => vq = .tuple #[.string q, .bool b] | 26 => vq = .string q | 27 => vq = .bool b | 8 => vq = .string q | 9 => vq = .bool b | _ => True) (by kernel_rfl) ((Below.refl _ _).drew) (fun _ _ _ _ _ _ h => h) ?hops ?hend
      case hops =>
        simp only [List.forall_mem_cons]
        refine ⟨?o17, ?o18, ?o19, ?o20, ?o21, ?o22, ?o23, ?o24, ?o25, ?o16, ?o26, ?o27, ?o8, ?o9, fun _ h => by cases h⟩
        case o17 =>
          intro Q a w2 hC hV hI
          have e0 : a.eval (.tmp 0) = .slice (some ⟨g, 0, none⟩) n n := (hI 0 (by simp [Op.operands]) (by kernel_rfl)).trans rfl
          have f0 : a.tmps.getD 0 undef = .slice (some ⟨g, 0, none⟩) n n := e0
          have g0 : a.tmps[0]?.getD undef = .slice (some ⟨g, 0, none⟩) n n := by rw [← Array.getD_eq_getD_getElem?]; exact e0
          refine op_val (.slice (some ⟨g, 0, none⟩) n n) ?_ hC (Below.refl _ _) (by intro d hd; cases hd; rfl)
          (clear hV hI hC; go_simp <;> (first | rfl | simp | (rw [IntKind.wrap_i64]; omega)))
        case o18 =>
          intro Q a w2 hC hV hI
          have e7 : a.eval (.tmp 7) = .int .i64 (i : Int) := (hI 7 (by simp [Op.operands]) (by kernel_rfl)).trans rfl
          have f7 : a.tmps.getD 7 undef = .int .i64 (i : Int) := e7
          have g7 : a.tmps[7]?.getD undef = .int .i64 (i : Int) := by rw [← Array.getD_eq_getD_getElem?]; exact e7
          refine op_val (.int .i64 (i : Int)) ?_ hC (Below.refl _ _) (by intro d hd; cases hd; rfl)
          (clear hV hI hC; go_simp <;> (first | rfl | simp | (rw [IntKind.wrap_i64]; omega)))
        case o19 =>
          intro Q a w2 hC hV hI
          have e17 : a.eval (.tmp 17) = .slice (some ⟨g, 0, none⟩) n n := hV 17 (by simp [Op.operands]) (by kernel_rfl)
          have f17 : a.tmps.getD 17 undef = .slice (some ⟨g, 0, none⟩) n n := e17
          have g17 : a.tmps[17]?.getD undef = .slice (some ⟨g, 0, none⟩) n n := by rw [← Array.getD_eq_getD_getElem?]; exact e17
          have e18 : a.eval (.tmp 18) = .int .i64 (i : Int) := hV 18 (by simp [Op.operands]) (by kernel_rfl)
          have f18 : a.tmps.getD 18 undef = .int .i64 (i : Int) := e18
          have g18 : a.tmps[18]?.getD undef = .int .i64 (i : Int) := by rw [← Array.getD_eq_getD_getElem?]; exact e18
          refine op_val (.pointer (some ⟨g, i, none⟩)) ?_ hC (Below.refl _ _) (by intro d hd; cases hd; rfl)
          (clear hV hI hC; go_simp <;> (first | rfl | simp | (rw [IntKind.wrap_i64]; omega)))
        case o20 =>
          intro Q a w2 hC hV hI
          have e19 : a.eval (.tmp 19) = .pointer (some ⟨g, i, none⟩) := hV 19 (by simp [Op.operands]) (by kernel_rfl)
          have f19 : a.tmps.getD 19 undef = .pointer (some ⟨g, i, none⟩) := e19
          have g19 : a.tmps[19]?.getD undef = .pointer (some ⟨g, i, none⟩) := by rw [← Array.getD_eq_getD_getElem?]; exact e19
          have hK := KC.out w2 hC
          refine op_val (.int .i64 x) ?_ hC (Below.refl _ _) (by intro d hd; cases hd; rfl)
          (clear hV hI hC; go_simp <;> (first | rfl | simp | (rw [IntKind.wrap_i64]; omega)))
        case o21 =>
          intro Q a w2 hC hV hI
          have e1 : a.eval (.tmp 1) = .slice (some ⟨g2, 0, none⟩) n n := (hI 1 (by simp [Op.operands]) (by kernel_rfl)).trans rfl
          have f1 : a.tmps.getD 1 undef = .slice (some ⟨g2, 0, none⟩) n n := e1
          have g1 : a.tmps[1]?.getD undef = .slice (some ⟨g2, 0, none⟩) n n := by rw [← Array.getD_eq_getD_getElem?]; exact e1
          refine op_val (.slice (some ⟨g2, 0, none⟩) n n) ?_ hC (Below.refl _ _) (by intro d hd; cases hd; rfl)
          (clear hV hI hC; go_simp <;> (first | rfl | simp | (rw [IntKind.wrap_i64]; omega)))
        case o22 =>
          intro Q a w2 hC hV hI
          have e7 : a.eval (.tmp 7) = .int .i64 (i : Int) := (hI 7 (by simp [Op.operands]) (by kernel_rfl)).trans rfl
          have f7 : a.tmps.getD 7 undef = .int .i64 (i : Int) := e7
          have g7 : a.tmps[7]?.getD undef = .int .i64 (i : Int) := by rw [← Array.getD_eq_getD_getElem?]; exact e7
          refine op_val (.int .i64 (i : Int)) ?_ hC (Below.refl _ _) (by intro d hd; cases hd; rfl)
          (clear hV hI hC; go_simp <;> (first | rfl | simp | (rw [IntKind.wrap_i64]; omega)))
        case o23 =>
          intro Q a w2 hC hV hI
          have e21 : a.eval (.tmp 21) = .slice (some ⟨g2, 0, none⟩) n n := hV 21 (by simp [Op.operands]) (by kernel_rfl)
          have f21 : a.tmps.getD 21 undef = .slice (some ⟨g2, 0, none⟩) n n := e21
          have g21 : a.tmps[21]?.getD undef = .slice (some ⟨g2, 0, none⟩) n n := by rw [← Array.getD_eq_getD_getElem?]; exact e21
          have e22 : a.eval (.tmp 22) = .int .i64 (i : Int) := hV 22 (by simp [Op.operands]) (by kernel_rfl)
          have f22 : a.tmps.getD 22 undef = .int .i64 (i : Int) := e22
          have g22 : a.tmps[22]?.getD undef = .int .i64 (i : Int) := by rw [← Array.getD_eq_getD_getElem?]; exact e22
          refine op_val (.pointer (some ⟨g2, i, none⟩)) ?_ hC (Below.refl _ _) (by intro d hd; cases hd; rfl)
          (clear hV hI hC; go_simp <;> (first | rfl | simp | (rw [IntKind.wrap_i64]; omega)))
        case o24 =>
          intro Q a w2 hC hV hI
          have e23 : a.eval (.tmp 23) = .pointer (some ⟨g2, i, none⟩) := hV 23 (by simp [Op.operands]) (by kernel_rfl)
          have f23 : a.tmps.getD 23 undef = .pointer (some ⟨g2, i, none⟩) := e23
          have g23 : a.tmps[23]?.getD undef = .pointer (some ⟨g2, i, none⟩) := by rw [← Array.getD_eq_getD_getElem?]; exact e23
          have hK := KC.out w2 hC
          refine op_val (.int .i64 y) ?_ hC (Below.refl _ _) (by intro d hd; cases hd; rfl)
          (clear hV hI hC; go_simp <;> (first | rfl | simp | (rw [IntKind.wrap_i64]; omega)))
        case o25 =>
          intro Q a w2 hC hV hI
          have e20 : a.eval (.tmp 20) = .int .i64 x := hV 20 (by simp [Op.operands, Call.operands]) (by kernel_rfl)
          have f20 : a.tmps.getD 20 undef = .int .i64 x := e20
          have g20 : a.tmps[20]?.getD undef = .int .i64 x := by rw [← Array.getD_eq_getD_getElem?]; exact e20
          have e24 : a.eval (.tmp 24) = .int .i64 y := hV 24 (by simp [Op.operands, Call.operands]) (by kernel_rfl)
          have f24 : a.tmps.getD 24 undef = .int .i64 y := e24
          have g24 : a.tmps[24]?.getD undef = .int .i64 y := by rw [← Array.getD_eq_getD_getElem?]; exact e24
          refine op_call (f := 108) (args := #[.int .i64 x, .int .i64 y]) (R := fun v y => v = .tuple #[.string q, .bool b] ∧ w2 = y) ?_ ((HP2.out w2).mono ?_) ?_
          · (clear hV hI hC; go_simp <;> (first | rfl | simp | (rw [IntKind.wrap_i64]; omega)))
          · rintro e y ⟨rfl, rfl⟩; exact ⟨_, rfl, rfl, rfl⟩
          · rintro v y ⟨rfl, rfl⟩; exact ⟨hC, Below.refl _ _, by intro d hd; cases hd; rfl⟩
        case o16 =>
          intro Q a w2 hC hV hI
          have e25 : a.eval (.tmp 25) = .tuple #[.string q, .bool b] := hV 25 (by simp [Op.operands]) (by kernel_rfl)
          have f25 : a.tmps.getD 25 undef = .tuple #[.string q, .bool b] := e25
          have g25 : a.tmps[25]?.getD undef = .tuple #[.string q, .bool b] := by rw [← Array.getD_eq_getD_getElem?]; exact e25
          refine op_val (.tuple #[.string q, .bool b]) ?_ hC (Below.refl _ _) (by intro d hd; cases hd; rfl)
          (clear hV hI hC; go_simp <;> (first | rfl | simp | (rw [IntKind.wrap_i64]; omega)))
        case o26 =>
          intro Q a w2 hC hV hI
          have e16 : a.eval (.tmp 16) = .tuple #[.string q, .bool b] := hV 16 (by simp [Op.operands]) (by kernel_rfl)
          have f16 : a.tmps.getD 16 undef = .tuple #[.string q, .bool b] := e16
          have g16 : a.tmps[16]?.getD undef = .tuple #[.string q, .bool b] := by rw [← Array.getD_eq_getD_getElem?]; exact e16
          refine op_val (.string q) ?_ hC (Below.refl _ _) (by intro d hd; cases hd; rfl)
          (clear hV hI hC; go_simp <;> (first | rfl | simp | (rw [IntKind.wrap_i64]; omega)))
        case o27 =>
          intro Q a w2 hC hV hI
          have e16 : a.eval (.tmp 16) = .tuple #[.string q, .bool b] := hV 16 (by simp [Op.operands]) (by kernel_rfl)
          have f16 : a.tmps.getD 16 undef = .tuple #[.string q, .bool b] := e16
          have g16 : a.tmps[16]?.getD undef = .tuple #[.string q, .bool b] := by rw [← Array.getD_eq_getD_getElem?]; exact e16
          refine op_val (.bool b) ?_ hC (Below.refl _ _) (by intro d hd; cases hd; rfl)
          (clear hV hI hC; go_simp <;> (first | rfl | simp | (rw [IntKind.wrap_i64]; omega)))
        case o8 =>
          intro Q a w2 hC hV hI
          have e26 : a.eval (.tmp 26) = .string q := hV 26 (by simp [Op.operands]) (by kernel_rfl)
          have f26 : a.tmps.getD 26 undef = .string q := e26
          have g26 : a.tmps[26]?.getD undef = .string q := by rw [← Array.getD_eq_getD_getElem?]; exact e26
          refine op_val (.string q) ?_ hC (Below.refl _ _) (by intro d hd; cases hd; rfl)
          (clear hV hI hC; go_simp <;> (first | rfl | simp | (rw [IntKind.wrap_i64]; omega)))
        case o9 =>
          intro Q a w2 hC hV hI
          have e27 : a.eval (.tmp 27) = .bool b := hV 27 (by simp [Op.operands]) (by kernel_rfl)
          have f27 : a.tmps.getD 27 undef = .bool b := e27
          have g27 : a.tmps[27]?.getD undef = .bool b := by rw [← Array.getD_eq_getD_getElem?]; exact e27
          refine op_val (.bool b) ?_ hC (Below.refl _ _) (by intro d hd; cases hd; rfl)
          (clear hV hI hC; go_simp <;> (first | rfl | simp | (rw [IntKind.wrap_i64]; omega)))
      case hend =>
        intro f w6 hC hall
        simp only [List.forall_mem_cons] at hall
        obtain ⟨h17, h18, h19, h20, h21, h22, h23, h24, h25, h16, h26, h27, h8, h9, _⟩ := hall
        replace h17 : f 17 = .slice (some ⟨g, 0, none⟩) n n := h17 17 rfl
        replace h18 : f 18 = .int .i64 (i : Int) := h18 18 rfl
        replace h19 : f 19 = .pointer (some ⟨g, i, none⟩) := h19 19 rfl
        replace h20 : f 20 = .int .i64 x := h20 20 rfl
        replace h21 : f 21 = .slice (some ⟨g2, 0, none⟩) n n := h21 21 rfl
        replace h22 : f 22 = .int .i64 (i : Int) := h22 22 rfl
        replace h23 : f 23 = .pointer (some ⟨g2, i, none⟩) := h23 23 rfl
        replace h24 : f 24 = .int .i64 y := h24 24 rfl
        replace h25 : f 25 = .tuple #[.string q, .bool b] := h25 25 rfl
        replace h16 : f 16 = .tuple #[.string q, .bool b] := h16 16 rfl
        replace h26 : f 26 = .string q := h26 26 rfl
        replace h27 : f 27 = .bool b := h27 27 rfl
        replace h8 : f 8 = .string q := h8 8 rfl
        replace h9 : f 9 = .bool b := h9 9 rfl
        simp only [putAll, Act.put, List.setIfInBounds_toArray, List.set_cons_succ, List.set_cons_zero, h17, h18, h19, h20, h21, h22, h23, h24, h25, h16, h26, h27, h8, h9]
        clear h17 h18 h19 h20 h21 h22 h23 h24 h25 h16 h26 h27 h8 h9
        clear KC HP2
        replace B := Lib.hid (B.out.trans (hC.mono hszB))
        cases b with
        | false =>
          have HF2 : Hid (ok = false) := Lib.hid (HB2.out rfl)
          have HF3 : Hid (res = ⟨#[]⟩) := Lib.hid (by rw [HR.out, HF2.out]; rfl)
          clear HS2 HK2 HB2 hC
          go_wp2_with fail
          go_ret2
          exact ⟨by rw [HF2.out, HF3.out]; rfl, B.out⟩
        | true =>
          have HOk2 : Hid (octsOk (L.take (i + 1)) = true) := Lib.hid (by rw [HK2.out, HOk.out]; rfl)
          have hsz : T.size + q.size ≤ 281474976710656 := by omega
          have HA : Hid (∀ w, (Op.stringOp .add T q).run Tryz.prog w = .ok (.string (T ++ q)) w) := Lib.hid (fun w => run_string_add_sum w _ _ (by omega))
          have HA' := HA.out
          clear HB2 HK2 hC
          go_wp2_with fail
          go_roundw
          case rel => exact ⟨i + 1, by go_num, by omega, HOk2.out, by rw [HS2.out], B.out⟩
          case measure => simp [intOf]; omega
    · obtain rfl : i = n := by omega
      have hlt2 : ¬ (i : Int) < (i : Int) := by omega
      have HR9 := HF.out.2
      rw [HOk.out] at HR9
      have HR2 := Lib.hid HR9
      have HR3 : Hid (res = octsS (L.take i)) := Lib.hid (by rw [HR.out, ← HR9, HF.out.1]; rfl)
      clear HR9
      go_wp2_with fail
      go_ret2
      exact ⟨by rw [← HR2.out, HR3.out]; rfl, B.out⟩
theorem octsR_true {L : List (Int × Int)} (h : octsOk L = true) : octsR L = octsS L := by rw [octsR, if_pos h]
set_option maxHeartbeats 3200000 in
set_option maxRecDepth 8000 in
theorem putCard_spec (ino mo u1 gi cn t : Int) (p d : ByteArray) (w : World) (hp : p.size ≤ 4194304) (hd : d.size ≤ 4194304) :
    Calls Tryz.prog 34 #[.agg #[.int .i64 ino, .int .i64 mo, .int .i64 u1, .int .i64 gi, .int .i64 cn, .int .i64 t, .string p, .string d]] w fun e w' => e = .returned (.string (cardTextv ⟨ino, mo, u1, gi, cn, t, p, d⟩)) ∧ Below w.heap.size w w' := by
  have HO := Lib.hid (fun g g2 w hg hg2 (h1 : RowN w g [0, ino, mo, u1, gi, cn, 0, t, (p.size : Int) + 1, (d.size : Int)]) (h2 : RowN w g2 wideC) => octs_spec (flds ⟨ino, mo, u1, gi, cn, t, p, d⟩) 10 g g2 w rfl (by omega) hg hg2 h1 h2)
  have hle := octsS_le (flds ⟨ino, mo, u1, gi, cn, t, p, d⟩)
  have hln : (flds ⟨ino, mo, u1, gi, cn, t, p, d⟩).length = 10 := rfl
  have HT : Hid (octsOk (flds ⟨ino, mo, u1, gi, cn, t, p, d⟩) = true → octsR (flds ⟨ino, mo, u1, gi, cn, t, p, d⟩) = octsS (flds ⟨ino, mo, u1, gi, cn, t, p, d⟩)) := Lib.hid octsR_true
  have HV : Hid (cardTextv ⟨ino, mo, u1, gi, cn, t, p, d⟩ = if octsOk (flds ⟨ino, mo, u1, gi, cn, t, p, d⟩) then ⟨#[48, 55, 48, 55, 48, 55]⟩ ++ octsS (flds ⟨ino, mo, u1, gi, cn, t, p, d⟩) ++ p ++ ⟨#[0]⟩ ++ d else ⟨#[]⟩) := Lib.hid rfl
  generalize cardTextv ⟨ino, mo, u1, gi, cn, t, p, d⟩ = r at HV
  generalize octsR (flds ⟨ino, mo, u1, gi, cn, t, p, d⟩) = rs at HO HT
  generalize octsOk (flds ⟨ino, mo, u1, gi, cn, t, p, d⟩) = ok at HO HT HV
  generalize octsS (flds ⟨ino, mo, u1, gi, cn, t, p, d⟩) = os at HT HV hle
  have hos : os.size ≤ 200 := by omega
  clear hln hle
  go_enter Tryz.func34, Tryz.ntmps34
  go_upto_region 1 with fail
  generalize hw1 : World.alloc w _ = w1
  have XC : Hid (CardO w1 w.heap.size ⟨ino, mo, u1, gi, cn, t, p, d⟩) := Lib.hid (by rw [← hw1]; exact CardO.new w ⟨ino, mo, u1, gi, cn, t, p, d⟩)
  have B1 : Hid (Below w.heap.size w w1) := Lib.hid (by rw [← hw1]; exact (Below.refl _ _).alloc (Nat.le_refl _) _)
  have hs1 : w1.heap.size = w.heap.size + 1 := by rw [← hw1]; simp
  clear hw1
  have KC : Hid (∀ w', Below w1.heap.size w1 w' → w'.cell? ⟨w.heap.size, 0, none⟩ = some (.int .i64 ino) ∧ w'.cell? ⟨w.heap.size, 1, none⟩ = some (.int .i64 mo) ∧ w'.cell? ⟨w.heap.size, 2, none⟩ = some (.int .i64 u1) ∧ w'.cell? ⟨w.heap.size, 3, none⟩ = some (.int .i64 gi) ∧ w'.cell? ⟨w.heap.size, 4, none⟩ = some (.int .i64 cn) ∧ w'.cell? ⟨w.heap.size, 5, none⟩ = some (.int .i64 t) ∧ w'.cell? ⟨w.heap.size, 6, none⟩ = some (.string p) ∧ w'.cell? ⟨w.heap.size, 7, none⟩ = some (.string d)) := Lib.hid (fun w' hb => (XC.out.below hb (by omega)).at.zero)
  refine wp_region_inv (by kernel_rfl) (fun w' => Below w1.heap.size w1 w') (fun x y => Below x.heap.size x y) (vE 26 (exRow w1.heap.size 10 #[.int .i64 6, .int .i64 6, .int .i64 6, .int .i64 6, .int .i64 6, .int .i64 6, .int .i64 6, .int .i64 11, .int .i64 6, .int .i64 11] 3) (vE 25 (exRow w1.heap.size 10 #[.int .i64 0, .int .i64 ino, .int .i64 mo, .int .i64 u1, .int .i64 gi, .int .i64 cn, .int .i64 0, .int .i64 t, .int .i64 ((p.size : Int) + 1), .int .i64 (d.size : Int)] 3) (fun dq vq _ => match dq with | 6 => vq = .pointer (some ⟨w.heap.size, 0, none⟩) | 7 => vq = .int .i64 ino | 8 => vq = .pointer (some ⟨w.heap.size, 1, none⟩) | 9 => vq = .int .i64 mo | 10 => vq = .pointer (some ⟨w.heap.size, 2, none⟩) | 11 => vq = .int .i64 u1 | 12 => vq = .pointer (some ⟨w.heap.size, 3, none⟩) | 13 => vq = .int .i64 gi | 14 => vq = .pointer (some ⟨w.heap.size, 4, none⟩) | 15 => vq = .int .i64 cn | 16 => vq = .pointer (some ⟨w.heap.size, 5, none⟩) | 17 => vq = .int .i64 t | 18 => vq = .pointer (some ⟨w.heap.size, 6, none⟩) | 19 => vq = .string p | 20 => vq = .int .i64 (p.size : Int) | 21 => vq = .int .i64 ((p.size : Int) + 1) | 22 => vq = .pointer (some ⟨w.heap.size, 7, none⟩) | 23 => vq = .string d | 24 => vq = .int .i64 (d.size : Int) | 27 => vq = .tuple #[.string rs, .bool ok] | 5 => vq = .tuple #[.string rs, .bool ok] | 28 => vq = .string rs | 29 => vq = .bool ok | 3 => vq = .string rs | 4 => vq = .bool ok | _ => True))) (by kernel_rfl) ((Below.refl _ _).drew) (vE_keep _ _ _ (exRow_keep _ _ _ _) (vE_keep _ _ _ (exRow_keep _ _ _ _) (fun _ _ _ _ _ _ h => h))) ?hops ?hend
  case hops =>
    simp only [List.forall_mem_cons]
    refine ⟨?o6, ?o7, ?o8, ?o9, ?o10, ?o11, ?o12, ?o13, ?o14, ?o15, ?o16, ?o17, ?o18, ?o19, ?o20, ?o21, ?o22, ?o23, ?o24, ?o25, ?o26, ?o27, ?o5, ?o28, ?o29, ?o3, ?o4, fun _ h => by cases h⟩
    case o6 =>
      intro Q a w2 hC hV hI
      have e1 : a.eval (.tmp 1) = .pointer (some ⟨w.heap.size, 0, none⟩) := (hI 1 (by simp [Op.operands]) (by kernel_rfl)).trans rfl
      have f1 : a.tmps.getD 1 undef = .pointer (some ⟨w.heap.size, 0, none⟩) := e1
      have g1 : a.tmps[1]?.getD undef = .pointer (some ⟨w.heap.size, 0, none⟩) := by rw [← Array.getD_eq_getD_getElem?]; exact e1
      refine op_val (.pointer (some ⟨w.heap.size, 0, none⟩)) ?_ hC (Below.refl _ _) (by intro d hd; cases hd; exact rfl)
      (clear hV hI hC; go_simp <;> (first | rfl | simp | (rw [IntKind.wrap_i64]; omega)))
    case o7 =>
      intro Q a w2 hC hV hI
      have e6 : a.eval (.tmp 6) = .pointer (some ⟨w.heap.size, 0, none⟩) := hV 6 (by simp [Op.operands]) (by kernel_rfl)
      have f6 : a.tmps.getD 6 undef = .pointer (some ⟨w.heap.size, 0, none⟩) := e6
      have g6 : a.tmps[6]?.getD undef = .pointer (some ⟨w.heap.size, 0, none⟩) := by rw [← Array.getD_eq_getD_getElem?]; exact e6
      have hK := KC.out w2 hC
      refine op_val (.int .i64 ino) ?_ hC (Below.refl _ _) (by intro d hd; cases hd; exact rfl)
      (clear hV hI hC; go_simp <;> (first | rfl | simp | (rw [IntKind.wrap_i64]; omega)))
    case o8 =>
      intro Q a w2 hC hV hI
      have e1 : a.eval (.tmp 1) = .pointer (some ⟨w.heap.size, 0, none⟩) := (hI 1 (by simp [Op.operands]) (by kernel_rfl)).trans rfl
      have f1 : a.tmps.getD 1 undef = .pointer (some ⟨w.heap.size, 0, none⟩) := e1
      have g1 : a.tmps[1]?.getD undef = .pointer (some ⟨w.heap.size, 0, none⟩) := by rw [← Array.getD_eq_getD_getElem?]; exact e1
      refine op_val (.pointer (some ⟨w.heap.size, 1, none⟩)) ?_ hC (Below.refl _ _) (by intro d hd; cases hd; exact rfl)
      (clear hV hI hC; go_simp <;> (first | rfl | simp | (rw [IntKind.wrap_i64]; omega)))
    case o9 =>
      intro Q a w2 hC hV hI
      have e8 : a.eval (.tmp 8) = .pointer (some ⟨w.heap.size, 1, none⟩) := hV 8 (by simp [Op.operands]) (by kernel_rfl)
      have f8 : a.tmps.getD 8 undef = .pointer (some ⟨w.heap.size, 1, none⟩) := e8
      have g8 : a.tmps[8]?.getD undef = .pointer (some ⟨w.heap.size, 1, none⟩) := by rw [← Array.getD_eq_getD_getElem?]; exact e8
      have hK := KC.out w2 hC
      refine op_val (.int .i64 mo) ?_ hC (Below.refl _ _) (by intro d hd; cases hd; exact rfl)
      (clear hV hI hC; go_simp <;> (first | rfl | simp | (rw [IntKind.wrap_i64]; omega)))
    case o10 =>
      intro Q a w2 hC hV hI
      have e1 : a.eval (.tmp 1) = .pointer (some ⟨w.heap.size, 0, none⟩) := (hI 1 (by simp [Op.operands]) (by kernel_rfl)).trans rfl
      have f1 : a.tmps.getD 1 undef = .pointer (some ⟨w.heap.size, 0, none⟩) := e1
      have g1 : a.tmps[1]?.getD undef = .pointer (some ⟨w.heap.size, 0, none⟩) := by rw [← Array.getD_eq_getD_getElem?]; exact e1
      refine op_val (.pointer (some ⟨w.heap.size, 2, none⟩)) ?_ hC (Below.refl _ _) (by intro d hd; cases hd; exact rfl)
      (clear hV hI hC; go_simp <;> (first | rfl | simp | (rw [IntKind.wrap_i64]; omega)))
    case o11 =>
      intro Q a w2 hC hV hI
      have e10 : a.eval (.tmp 10) = .pointer (some ⟨w.heap.size, 2, none⟩) := hV 10 (by simp [Op.operands]) (by kernel_rfl)
      have f10 : a.tmps.getD 10 undef = .pointer (some ⟨w.heap.size, 2, none⟩) := e10
      have g10 : a.tmps[10]?.getD undef = .pointer (some ⟨w.heap.size, 2, none⟩) := by rw [← Array.getD_eq_getD_getElem?]; exact e10
      have hK := KC.out w2 hC
      refine op_val (.int .i64 u1) ?_ hC (Below.refl _ _) (by intro d hd; cases hd; exact rfl)
      (clear hV hI hC; go_simp <;> (first | rfl | simp | (rw [IntKind.wrap_i64]; omega)))
    case o12 =>
      intro Q a w2 hC hV hI
      have e1 : a.eval (.tmp 1) = .pointer (some ⟨w.heap.size, 0, none⟩) := (hI 1 (by simp [Op.operands]) (by kernel_rfl)).trans rfl
      have f1 : a.tmps.getD 1 undef = .pointer (some ⟨w.heap.size, 0, none⟩) := e1
      have g1 : a.tmps[1]?.getD undef = .pointer (some ⟨w.heap.size, 0, none⟩) := by rw [← Array.getD_eq_getD_getElem?]; exact e1
      refine op_val (.pointer (some ⟨w.heap.size, 3, none⟩)) ?_ hC (Below.refl _ _) (by intro d hd; cases hd; exact rfl)
      (clear hV hI hC; go_simp <;> (first | rfl | simp | (rw [IntKind.wrap_i64]; omega)))
    case o13 =>
      intro Q a w2 hC hV hI
      have e12 : a.eval (.tmp 12) = .pointer (some ⟨w.heap.size, 3, none⟩) := hV 12 (by simp [Op.operands]) (by kernel_rfl)
      have f12 : a.tmps.getD 12 undef = .pointer (some ⟨w.heap.size, 3, none⟩) := e12
      have g12 : a.tmps[12]?.getD undef = .pointer (some ⟨w.heap.size, 3, none⟩) := by rw [← Array.getD_eq_getD_getElem?]; exact e12
      have hK := KC.out w2 hC
      refine op_val (.int .i64 gi) ?_ hC (Below.refl _ _) (by intro d hd; cases hd; exact rfl)
      (clear hV hI hC; go_simp <;> (first | rfl | simp | (rw [IntKind.wrap_i64]; omega)))
    case o14 =>
      intro Q a w2 hC hV hI
      have e1 : a.eval (.tmp 1) = .pointer (some ⟨w.heap.size, 0, none⟩) := (hI 1 (by simp [Op.operands]) (by kernel_rfl)).trans rfl
      have f1 : a.tmps.getD 1 undef = .pointer (some ⟨w.heap.size, 0, none⟩) := e1
      have g1 : a.tmps[1]?.getD undef = .pointer (some ⟨w.heap.size, 0, none⟩) := by rw [← Array.getD_eq_getD_getElem?]; exact e1
      refine op_val (.pointer (some ⟨w.heap.size, 4, none⟩)) ?_ hC (Below.refl _ _) (by intro d hd; cases hd; exact rfl)
      (clear hV hI hC; go_simp <;> (first | rfl | simp | (rw [IntKind.wrap_i64]; omega)))
    case o15 =>
      intro Q a w2 hC hV hI
      have e14 : a.eval (.tmp 14) = .pointer (some ⟨w.heap.size, 4, none⟩) := hV 14 (by simp [Op.operands]) (by kernel_rfl)
      have f14 : a.tmps.getD 14 undef = .pointer (some ⟨w.heap.size, 4, none⟩) := e14
      have g14 : a.tmps[14]?.getD undef = .pointer (some ⟨w.heap.size, 4, none⟩) := by rw [← Array.getD_eq_getD_getElem?]; exact e14
      have hK := KC.out w2 hC
      refine op_val (.int .i64 cn) ?_ hC (Below.refl _ _) (by intro d hd; cases hd; exact rfl)
      (clear hV hI hC; go_simp <;> (first | rfl | simp | (rw [IntKind.wrap_i64]; omega)))
    case o16 =>
      intro Q a w2 hC hV hI
      have e1 : a.eval (.tmp 1) = .pointer (some ⟨w.heap.size, 0, none⟩) := (hI 1 (by simp [Op.operands]) (by kernel_rfl)).trans rfl
      have f1 : a.tmps.getD 1 undef = .pointer (some ⟨w.heap.size, 0, none⟩) := e1
      have g1 : a.tmps[1]?.getD undef = .pointer (some ⟨w.heap.size, 0, none⟩) := by rw [← Array.getD_eq_getD_getElem?]; exact e1
      refine op_val (.pointer (some ⟨w.heap.size, 5, none⟩)) ?_ hC (Below.refl _ _) (by intro d hd; cases hd; exact rfl)
      (clear hV hI hC; go_simp <;> (first | rfl | simp | (rw [IntKind.wrap_i64]; omega)))
    case o17 =>
      intro Q a w2 hC hV hI
      have e16 : a.eval (.tmp 16) = .pointer (some ⟨w.heap.size, 5, none⟩) := hV 16 (by simp [Op.operands]) (by kernel_rfl)
      have f16 : a.tmps.getD 16 undef = .pointer (some ⟨w.heap.size, 5, none⟩) := e16
      have g16 : a.tmps[16]?.getD undef = .pointer (some ⟨w.heap.size, 5, none⟩) := by rw [← Array.getD_eq_getD_getElem?]; exact e16
      have hK := KC.out w2 hC
      refine op_val (.int .i64 t) ?_ hC (Below.refl _ _) (by intro d hd; cases hd; exact rfl)
      (clear hV hI hC; go_simp <;> (first | rfl | simp | (rw [IntKind.wrap_i64]; omega)))
    case o18 =>
      intro Q a w2 hC hV hI
      have e1 : a.eval (.tmp 1) = .pointer (some ⟨w.heap.size, 0, none⟩) := (hI 1 (by simp [Op.operands]) (by kernel_rfl)).trans rfl
      have f1 : a.tmps.getD 1 undef = .pointer (some ⟨w.heap.size, 0, none⟩) := e1
      have g1 : a.tmps[1]?.getD undef = .pointer (some ⟨w.heap.size, 0, none⟩) := by rw [← Array.getD_eq_getD_getElem?]; exact e1
      refine op_val (.pointer (some ⟨w.heap.size, 6, none⟩)) ?_ hC (Below.refl _ _) (by intro d hd; cases hd; exact rfl)
      (clear hV hI hC; go_simp <;> (first | rfl | simp | (rw [IntKind.wrap_i64]; omega)))
    case o19 =>
      intro Q a w2 hC hV hI
      have e18 : a.eval (.tmp 18) = .pointer (some ⟨w.heap.size, 6, none⟩) := hV 18 (by simp [Op.operands]) (by kernel_rfl)
      have f18 : a.tmps.getD 18 undef = .pointer (some ⟨w.heap.size, 6, none⟩) := e18
      have g18 : a.tmps[18]?.getD undef = .pointer (some ⟨w.heap.size, 6, none⟩) := by rw [← Array.getD_eq_getD_getElem?]; exact e18
      have hK := KC.out w2 hC
      refine op_val (.string p) ?_ hC (Below.refl _ _) (by intro d hd; cases hd; exact rfl)
      (clear hV hI hC; go_simp <;> (first | rfl | simp | (rw [IntKind.wrap_i64]; omega)))
    case o20 =>
      intro Q a w2 hC hV hI
      have e19 : a.eval (.tmp 19) = .string p := hV 19 (by simp [Op.operands, Call.operands]) (by kernel_rfl)
      have f19 : a.tmps.getD 19 undef = .string p := e19
      have g19 : a.tmps[19]?.getD undef = .string p := by rw [← Array.getD_eq_getD_getElem?]; exact e19
      refine op_val (.int .i64 (p.size : Int)) ?_ hC (Below.refl _ _) (by intro d hd; cases hd; exact rfl)
      (clear hV hI hC; go_simp <;> (first | rfl | simp | (rw [IntKind.wrap_i64]; omega)))
    case o21 =>
      intro Q a w2 hC hV hI
      have e20 : a.eval (.tmp 20) = .int .i64 (p.size : Int) := hV 20 (by simp [Op.operands]) (by kernel_rfl)
      have f20 : a.tmps.getD 20 undef = .int .i64 (p.size : Int) := e20
      have g20 : a.tmps[20]?.getD undef = .int .i64 (p.size : Int) := by rw [← Array.getD_eq_getD_getElem?]; exact e20
      have q9 := add_i64 (P := Tryz.prog) (a := (p.size : Int)) (b := 1) w2 3 (by omega) (by omega)
      refine op_val (.int .i64 ((p.size : Int) + 1)) ?_ hC (Below.refl _ _) (by intro d hd; cases hd; exact rfl)
      (clear hV hI hC; go_simp <;> (first | rfl | simp | (rw [IntKind.wrap_i64]; omega)))
    case o22 =>
      intro Q a w2 hC hV hI
      have e1 : a.eval (.tmp 1) = .pointer (some ⟨w.heap.size, 0, none⟩) := (hI 1 (by simp [Op.operands]) (by kernel_rfl)).trans rfl
      have f1 : a.tmps.getD 1 undef = .pointer (some ⟨w.heap.size, 0, none⟩) := e1
      have g1 : a.tmps[1]?.getD undef = .pointer (some ⟨w.heap.size, 0, none⟩) := by rw [← Array.getD_eq_getD_getElem?]; exact e1
      refine op_val (.pointer (some ⟨w.heap.size, 7, none⟩)) ?_ hC (Below.refl _ _) (by intro d hd; cases hd; exact rfl)
      (clear hV hI hC; go_simp <;> (first | rfl | simp | (rw [IntKind.wrap_i64]; omega)))
    case o23 =>
      intro Q a w2 hC hV hI
      have e22 : a.eval (.tmp 22) = .pointer (some ⟨w.heap.size, 7, none⟩) := hV 22 (by simp [Op.operands]) (by kernel_rfl)
      have f22 : a.tmps.getD 22 undef = .pointer (some ⟨w.heap.size, 7, none⟩) := e22
      have g22 : a.tmps[22]?.getD undef = .pointer (some ⟨w.heap.size, 7, none⟩) := by rw [← Array.getD_eq_getD_getElem?]; exact e22
      have hK := KC.out w2 hC
      refine op_val (.string d) ?_ hC (Below.refl _ _) (by intro d hd; cases hd; exact rfl)
      (clear hV hI hC; go_simp <;> (first | rfl | simp | (rw [IntKind.wrap_i64]; omega)))
    case o24 =>
      intro Q a w2 hC hV hI
      have e23 : a.eval (.tmp 23) = .string d := hV 23 (by simp [Op.operands, Call.operands]) (by kernel_rfl)
      have f23 : a.tmps.getD 23 undef = .string d := e23
      have g23 : a.tmps[23]?.getD undef = .string d := by rw [← Array.getD_eq_getD_getElem?]; exact e23
      refine op_val (.int .i64 (d.size : Int)) ?_ hC (Below.refl _ _) (by intro d hd; cases hd; exact rfl)
      (clear hV hI hC; go_simp <;> (first | rfl | simp | (rw [IntKind.wrap_i64]; omega)))
    case o25 =>
      intro Q a w2 hC hV hI
      have e7 : a.eval (.tmp 7) = .int .i64 ino := hV 7 (by simp [Op.operands]) (by kernel_rfl)
      have f7 : a.tmps.getD 7 undef = .int .i64 ino := e7
      have g7 : a.tmps[7]?.getD undef = .int .i64 ino := by rw [← Array.getD_eq_getD_getElem?]; exact e7
      have e9 : a.eval (.tmp 9) = .int .i64 mo := hV 9 (by simp [Op.operands]) (by kernel_rfl)
      have f9 : a.tmps.getD 9 undef = .int .i64 mo := e9
      have g9 : a.tmps[9]?.getD undef = .int .i64 mo := by rw [← Array.getD_eq_getD_getElem?]; exact e9
      have e11 : a.eval (.tmp 11) = .int .i64 u1 := hV 11 (by simp [Op.operands]) (by kernel_rfl)
      have f11 : a.tmps.getD 11 undef = .int .i64 u1 := e11
      have g11 : a.tmps[11]?.getD undef = .int .i64 u1 := by rw [← Array.getD_eq_getD_getElem?]; exact e11
      have e13 : a.eval (.tmp 13) = .int .i64 gi := hV 13 (by simp [Op.operands]) (by kernel_rfl)
      have f13 : a.tmps.getD 13 undef = .int .i64 gi := e13
      have g13 : a.tmps[13]?.getD undef = .int .i64 gi := by rw [← Array.getD_eq_getD_getElem?]; exact e13
      have e15 : a.eval (.tmp 15) = .int .i64 cn := hV 15 (by simp [Op.operands]) (by kernel_rfl)
      have f15 : a.tmps.getD 15 undef = .int .i64 cn := e15
      have g15 : a.tmps[15]?.getD undef = .int .i64 cn := by rw [← Array.getD_eq_getD_getElem?]; exact e15
      have e17 : a.eval (.tmp 17) = .int .i64 t := hV 17 (by simp [Op.operands]) (by kernel_rfl)
      have f17 : a.tmps.getD 17 undef = .int .i64 t := e17
      have g17 : a.tmps[17]?.getD undef = .int .i64 t := by rw [← Array.getD_eq_getD_getElem?]; exact e17
      have e21 : a.eval (.tmp 21) = .int .i64 ((p.size : Int) + 1) := hV 21 (by simp [Op.operands]) (by kernel_rfl)
      have f21 : a.tmps.getD 21 undef = .int .i64 ((p.size : Int) + 1) := e21
      have g21 : a.tmps[21]?.getD undef = .int .i64 ((p.size : Int) + 1) := by rw [← Array.getD_eq_getD_getElem?]; exact e21
      have e24 : a.eval (.tmp 24) = .int .i64 (d.size : Int) := hV 24 (by simp [Op.operands]) (by kernel_rfl)
      have f24 : a.tmps.getD 24 undef = .int .i64 (d.size : Int) := e24
      have g24 : a.tmps[24]?.getD undef = .int .i64 (d.size : Int) := by rw [← Array.getD_eq_getD_getElem?]; exact e24
      refine op_val (.slice (some ⟨w2.heap.size, 0, none⟩) 10 10) (w' := w2.alloc (.cells #[.int .i64 0, .int .i64 ino, .int .i64 mo, .int .i64 u1, .int .i64 gi, .int .i64 cn, .int .i64 0, .int .i64 t, .int .i64 ((p.size : Int) + 1), .int .i64 (d.size : Int)] 3)) ?_ (hC.alloc hC.size _) ((Below.refl _ _).alloc (Nat.le_refl _) _) ?_
      · (clear hV hI hC; go_simp <;> (first | rfl | simp | (rw [IntKind.wrap_i64]; omega)))
      · intro d hd; cases hd; exact ⟨w2.heap.size, rfl, hC.size, heap_lastG _ _⟩
    case o26 =>
      intro Q a w2 hC hV hI
      refine op_call (f := 63) (args := #[]) (R := fun v y => exRow w1.heap.size 10 #[.int .i64 6, .int .i64 6, .int .i64 6, .int .i64 6, .int .i64 6, .int .i64 6, .int .i64 6, .int .i64 11, .int .i64 6, .int .i64 11] 3 v y ∧ Below w2.heap.size w2 y) ?_ ((wide_spec w2).mono ?_) ?_
      · (clear hV hI hC; go_simp <;> (first | rfl | simp | (rw [IntKind.wrap_i64]; omega)))
      · rintro e y ⟨G, rfl, hg1, hg2, hb⟩; exact ⟨_, rfl, ⟨G, rfl, Nat.le_trans hC.size hg1, hg2⟩, hb⟩
      · rintro v y ⟨hv, hb⟩; exact ⟨hC.trans (hb.mono hC.size), hb, by intro d hd; cases hd; exact hv⟩
    case o27 =>
      intro Q a w2 hC hV hI
      obtain ⟨G25, e25, b25, o25⟩ : ∃ G, a.eval (.tmp 25) = .slice (some ⟨G, 0, none⟩) 10 10 ∧ w1.heap.size ≤ G ∧ w2.heap[G]? = some (.cells #[.int .i64 0, .int .i64 ino, .int .i64 mo, .int .i64 u1, .int .i64 gi, .int .i64 cn, .int .i64 0, .int .i64 t, .int .i64 ((p.size : Int) + 1), .int .i64 (d.size : Int)] 3 (0, 0)) := hV 25 (by simp [Op.operands, Call.operands]) (by kernel_rfl)
      have f25 : a.tmps.getD 25 undef = .slice (some ⟨G25, 0, none⟩) 10 10 := e25
      have g25 : a.tmps[25]?.getD undef = .slice (some ⟨G25, 0, none⟩) 10 10 := by rw [← Array.getD_eq_getD_getElem?]; exact e25
      obtain ⟨G26, e26, b26, o26⟩ : ∃ G, a.eval (.tmp 26) = .slice (some ⟨G, 0, none⟩) 10 10 ∧ w1.heap.size ≤ G ∧ w2.heap[G]? = some (.cells #[.int .i64 6, .int .i64 6, .int .i64 6, .int .i64 6, .int .i64 6, .int .i64 6, .int .i64 6, .int .i64 11, .int .i64 6, .int .i64 11] 3 (0, 0)) := hV 26 (by simp [Op.operands, Call.operands]) (by kernel_rfl)
      have f26 : a.tmps.getD 26 undef = .slice (some ⟨G26, 0, none⟩) 10 10 := e26
      have g26 : a.tmps[26]?.getD undef = .slice (some ⟨G26, 0, none⟩) 10 10 := by rw [← Array.getD_eq_getD_getElem?]; exact e26
      refine op_call (f := 62) (args := #[.slice (some ⟨G25, 0, none⟩) 10 10, .slice (some ⟨G26, 0, none⟩) 10 10]) (R := fun v y => v = .tuple #[.string rs, .bool ok] ∧ Below w2.heap.size w2 y) ?_ ((HO.out G25 G26 w2 (Array.getElem?_eq_some_iff.1 o25).1 (Array.getElem?_eq_some_iff.1 o26).1 (RowN.of (l := [0, ino, mo, u1, gi, cn, 0, t, (p.size : Int) + 1, (d.size : Int)]) o25) (RowN.of (l := wideC) o26)).mono ?_) ?_
      · (clear hV hI hC; go_simp <;> (first | rfl | simp | (rw [IntKind.wrap_i64]; omega)))
      · rintro e y ⟨rfl, hb⟩; exact ⟨_, rfl, rfl, hb⟩
      · rintro v y ⟨rfl, hb⟩; exact ⟨hC.trans (hb.mono hC.size), hb, by intro d hd; cases hd; exact rfl⟩
    case o5 =>
      intro Q a w2 hC hV hI
      have e27 : a.eval (.tmp 27) = .tuple #[.string rs, .bool ok] := hV 27 (by simp [Op.operands]) (by kernel_rfl)
      have f27 : a.tmps.getD 27 undef = .tuple #[.string rs, .bool ok] := e27
      have g27 : a.tmps[27]?.getD undef = .tuple #[.string rs, .bool ok] := by rw [← Array.getD_eq_getD_getElem?]; exact e27
      refine op_val (.tuple #[.string rs, .bool ok]) ?_ hC (Below.refl _ _) (by intro d hd; cases hd; exact rfl)
      (clear hV hI hC; go_simp <;> (first | rfl | simp | (rw [IntKind.wrap_i64]; omega)))
    case o28 =>
      intro Q a w2 hC hV hI
      have e5 : a.eval (.tmp 5) = .tuple #[.string rs, .bool ok] := hV 5 (by simp [Op.operands]) (by kernel_rfl)
      have f5 : a.tmps.getD 5 undef = .tuple #[.string rs, .bool ok] := e5
      have g5 : a.tmps[5]?.getD undef = .tuple #[.string rs, .bool ok] := by rw [← Array.getD_eq_getD_getElem?]; exact e5
      refine op_val (.string rs) ?_ hC (Below.refl _ _) (by intro d hd; cases hd; exact rfl)
      (clear hV hI hC; go_simp <;> (first | rfl | simp | (rw [IntKind.wrap_i64]; omega)))
    case o29 =>
      intro Q a w2 hC hV hI
      have e5 : a.eval (.tmp 5) = .tuple #[.string rs, .bool ok] := hV 5 (by simp [Op.operands]) (by kernel_rfl)
      have f5 : a.tmps.getD 5 undef = .tuple #[.string rs, .bool ok] := e5
      have g5 : a.tmps[5]?.getD undef = .tuple #[.string rs, .bool ok] := by rw [← Array.getD_eq_getD_getElem?]; exact e5
      refine op_val (.bool ok) ?_ hC (Below.refl _ _) (by intro d hd; cases hd; exact rfl)
      (clear hV hI hC; go_simp <;> (first | rfl | simp | (rw [IntKind.wrap_i64]; omega)))
    case o3 =>
      intro Q a w2 hC hV hI
      have e28 : a.eval (.tmp 28) = .string rs := hV 28 (by simp [Op.operands]) (by kernel_rfl)
      have f28 : a.tmps.getD 28 undef = .string rs := e28
      have g28 : a.tmps[28]?.getD undef = .string rs := by rw [← Array.getD_eq_getD_getElem?]; exact e28
      refine op_val (.string rs) ?_ hC (Below.refl _ _) (by intro d hd; cases hd; exact rfl)
      (clear hV hI hC; go_simp <;> (first | rfl | simp | (rw [IntKind.wrap_i64]; omega)))
    case o4 =>
      intro Q a w2 hC hV hI
      have e29 : a.eval (.tmp 29) = .bool ok := hV 29 (by simp [Op.operands]) (by kernel_rfl)
      have f29 : a.tmps.getD 29 undef = .bool ok := e29
      have g29 : a.tmps[29]?.getD undef = .bool ok := by rw [← Array.getD_eq_getD_getElem?]; exact e29
      refine op_val (.bool ok) ?_ hC (Below.refl _ _) (by intro d hd; cases hd; exact rfl)
      (clear hV hI hC; go_simp <;> (first | rfl | simp | (rw [IntKind.wrap_i64]; omega)))
  case hend =>
    intro f w2 hC hall
    simp only [List.forall_mem_cons] at hall
    obtain ⟨h6, h7, h8, h9, h10, h11, h12, h13, h14, h15, h16, h17, h18, h19, h20, h21, h22, h23, h24, h25, h26, h27, h5, h28, h29, h3, h4, _⟩ := hall
    replace h6 : f 6 = .pointer (some ⟨w.heap.size, 0, none⟩) := h6 6 rfl
    replace h7 : f 7 = .int .i64 ino := h7 7 rfl
    replace h8 : f 8 = .pointer (some ⟨w.heap.size, 1, none⟩) := h8 8 rfl
    replace h9 : f 9 = .int .i64 mo := h9 9 rfl
    replace h10 : f 10 = .pointer (some ⟨w.heap.size, 2, none⟩) := h10 10 rfl
    replace h11 : f 11 = .int .i64 u1 := h11 11 rfl
    replace h12 : f 12 = .pointer (some ⟨w.heap.size, 3, none⟩) := h12 12 rfl
    replace h13 : f 13 = .int .i64 gi := h13 13 rfl
    replace h14 : f 14 = .pointer (some ⟨w.heap.size, 4, none⟩) := h14 14 rfl
    replace h15 : f 15 = .int .i64 cn := h15 15 rfl
    replace h16 : f 16 = .pointer (some ⟨w.heap.size, 5, none⟩) := h16 16 rfl
    replace h17 : f 17 = .int .i64 t := h17 17 rfl
    replace h18 : f 18 = .pointer (some ⟨w.heap.size, 6, none⟩) := h18 18 rfl
    replace h19 : f 19 = .string p := h19 19 rfl
    replace h20 : f 20 = .int .i64 (p.size : Int) := h20 20 rfl
    replace h21 : f 21 = .int .i64 ((p.size : Int) + 1) := h21 21 rfl
    replace h22 : f 22 = .pointer (some ⟨w.heap.size, 7, none⟩) := h22 22 rfl
    replace h23 : f 23 = .string d := h23 23 rfl
    replace h24 : f 24 = .int .i64 (d.size : Int) := h24 24 rfl
    obtain ⟨G25, hG25, hGB25, hGO25⟩ : ∃ G, f 25 = .slice (some ⟨G, 0, none⟩) 10 10 ∧ w1.heap.size ≤ G ∧ w2.heap[G]? = some (.cells #[.int .i64 0, .int .i64 ino, .int .i64 mo, .int .i64 u1, .int .i64 gi, .int .i64 cn, .int .i64 0, .int .i64 t, .int .i64 ((p.size : Int) + 1), .int .i64 (d.size : Int)] 3 (0, 0)) := h25 25 rfl
    obtain ⟨G26, hG26, hGB26, hGO26⟩ : ∃ G, f 26 = .slice (some ⟨G, 0, none⟩) 10 10 ∧ w1.heap.size ≤ G ∧ w2.heap[G]? = some (.cells #[.int .i64 6, .int .i64 6, .int .i64 6, .int .i64 6, .int .i64 6, .int .i64 6, .int .i64 6, .int .i64 11, .int .i64 6, .int .i64 11] 3 (0, 0)) := h26 26 rfl
    replace h27 : f 27 = .tuple #[.string rs, .bool ok] := h27 27 rfl
    replace h5 : f 5 = .tuple #[.string rs, .bool ok] := h5 5 rfl
    replace h28 : f 28 = .string rs := h28 28 rfl
    replace h29 : f 29 = .bool ok := h29 29 rfl
    replace h3 : f 3 = .string rs := h3 3 rfl
    replace h4 : f 4 = .bool ok := h4 4 rfl
    simp only [putAll, Act.put, List.setIfInBounds_toArray, List.set_cons_succ, List.set_cons_zero, h6, h7, h8, h9, h10, h11, h12, h13, h14, h15, h16, h17, h18, h19, h20, h21, h22, h23, h24, hG25, hG26, h27, h5, h28, h29, h3, h4]
    clear h6 h7 h8 h9 h10 h11 h12 h13 h14 h15 h16 h17 h18 h19 h20 h21 h22 h23 h24 hG25 h25 hG26 h26 h27 h5 h28 h29 h3 h4
    have X2 := XC.out.below hC (by omega)
    have B2 := Lib.hid (B1.out.trans (hC.mono (by omega)))
    clear KC XC B1 hGO25 hGO26 HO hC
    obtain ⟨k0, k1, k2, k3, k4, k5, k6, k7⟩ := X2.at.zero
    cases ok with
    | false =>
      have HF : Hid (r = ⟨#[]⟩) := Lib.hid (by rw [HV.out]; rfl)
      clear HV HT
      go_wp2_with fail
      go_ret
      exact ⟨by rw [HF.out]; rfl, B2.out⟩
    | true =>
      have hrs : rs = os := HT.out rfl
      subst hrs
      have HF : Hid (r = ⟨#[48, 55, 48, 55, 48, 55]⟩ ++ rs ++ p ++ ⟨#[0]⟩ ++ d) := Lib.hid (by rw [HV.out]; rfl)
      clear HV HT
      have z6 : (⟨#[48, 55, 48, 55, 48, 55]⟩ : ByteArray).size = 6 := rfl
      have z1 : (⟨#[0]⟩ : ByteArray).size = 1 := rfl
      obtain ⟨x1, hx1⟩ : ∃ x : ByteArray, x = ⟨#[48, 55, 48, 55, 48, 55]⟩ ++ rs := ⟨_, rfl⟩
      have y1 : x1.size ≤ 206 := by rw [hx1, ByteArray.size_append]; omega
      obtain ⟨x2, hx2⟩ : ∃ x : ByteArray, x = x1 ++ p := ⟨_, rfl⟩
      have y2 : x2.size ≤ 4194510 := by rw [hx2, ByteArray.size_append]; omega
      obtain ⟨x3, hx3⟩ : ∃ x : ByteArray, x = x2 ++ ⟨#[0]⟩ := ⟨_, rfl⟩
      have y3 : x3.size ≤ 4194511 := by rw [hx3, ByteArray.size_append]; omega
      have A1 : ∀ w, (Op.stringOp .add ⟨#[48, 55, 48, 55, 48, 55]⟩ rs).run Tryz.prog w = .ok (.string x1) w := fun w => by rw [hx1]; exact run_string_add_sum w _ _ (by omega)
      have A2 : ∀ w, (Op.stringOp .add x1 p).run Tryz.prog w = .ok (.string x2) w := fun w => by rw [hx2]; exact run_string_add_sum w _ _ (by omega)
      have A3 : ∀ w, (Op.stringOp .add x2 ⟨#[0]⟩).run Tryz.prog w = .ok (.string x3) w := fun w => by rw [hx3]; exact run_string_add_sum w _ _ (by omega)
      have A4 : ∀ w, (Op.stringOp .add x3 d).run Tryz.prog w = .ok (.string (x3 ++ d)) w := fun w => run_string_add_sum w _ _ (by omega)
      have HX : Hid (r = x3 ++ d) := Lib.hid (by rw [HF.out, hx3, hx2, hx1])
      clear hx1 hx2 hx3 z6 z1 HF
      go_wp2_with fail
      go_ret
      exact ⟨by rw [HX.out]; rfl, B2.out⟩
end Go.Proofs.YtcnmbolmgifgfabGreatDoor

/- Contracts of impl.upTo, impl.userOk, impl.symLinkOk. -/
namespace Go.Proofs.YtcnmbolmgifgfabGreatDoor
open Go.ChangeShapes Go.WideShapes Go.ChangeAt Go.RowKit

theorem upTo_any (x b : Int) (w : World) : Calls Tryz.prog 195 #[.int .i64 x, .int .i64 b] w fun e w' => e = .returned (.bool (inB x 0 b)) ∧ w = w' := by
  by_cases h1 : 0 ≤ x
  · by_cases h2 : x ≤ b
    · go_enter Tryz.func195, Tryz.ntmps195
      go_wp2
      go_ret
      exact ⟨by simp [inB]; omega, rfl⟩
    · go_enter Tryz.func195, Tryz.ntmps195
      go_wp2
      go_ret
      exact ⟨by simp [inB]; omega, rfl⟩
  · go_enter Tryz.func195, Tryz.ntmps195
    go_wp2
    go_ret
    exact ⟨by simp [inB]; omega, rfl⟩
theorem whob_t {c : UInt8} (h : whob c = true) : ((97 : Int) ≤ ((c.toNat : Nat) : Int) ∧ ((c.toNat : Nat) : Int) ≤ 122) ∨ ((48 : Int) ≤ ((c.toNat : Nat) : Int) ∧ ((c.toNat : Nat) : Int) ≤ 57) ∨ ((c.toNat : Nat) : Int) = 95 := by
  simp [whob] at h; omega
theorem whob_f {c : UInt8} (h : whob c = false) : ((c.toNat : Nat) : Int) < 48 ∨ ((57 : Int) < ((c.toNat : Nat) : Int) ∧ ((c.toNat : Nat) : Int) < 97 ∧ ¬ ((c.toNat : Nat) : Int) = 95) ∨ (122 : Int) < ((c.toNat : Nat) : Int) := by
  simp [whob] at h; omega
set_option maxHeartbeats 800000 in
theorem userOk_impl (s : ByteArray) (w : World) (hs : s.size ≤ 4194304) :
    Calls Tryz.prog 203 #[.string s] w fun e w' => e = .returned (.bool (whov s)) ∧ Below w.heap.size w w' := by
  have HB : Hid (∀ k, (h : k < s.size) → whob s[k] = false → whov s = false) := Lib.hid (fun k h hc => by rw [whov, allB_bad h hc]; rfl)
  have HD : Hid (AllB whob s s.size → s.size ≤ 20 → whov s = true) := Lib.hid (fun h h2 => by rw [whov, h.done, decide_eq_true h2]; rfl)
  have HZ : Hid (20 < s.size → whov s = false) := Lib.hid (fun h => by rw [whov, decide_eq_false (by omega)]; simp)
  generalize whov s = r at HB HD HZ
  by_cases hz : 20 < s.size
  · have hz2 : (20 : Int) < (s.size : Int) := by omega
    have HF := Lib.hid (HZ.out hz)
    go_enter Tryz.func203, Tryz.ntmps203
    go_wp2_with fail
    go_ret
    exact ⟨ret_bool HF.out.symm, Below.refl _ _⟩
  have hz2 : ¬ (20 : Int) < (s.size : Int) := by omega
  have hz3 : s.size ≤ 20 := by omega
  clear HZ
  go_enter Tryz.func203, Tryz.ntmps203
  go_wp2_with fail
  go_loopw [3, 4, 10] (fun _ _ u wr => ∃ i : Nat, u = .int .i64 i ∧ i ≤ s.size ∧ AllB whob s i ∧ Below w.heap.size w wr) (fun _ _ u _ => s.size - (intOf u).toNat)
  case atStart => exact ⟨0, rfl, Nat.zero_le _, AllB.start _ _, Below.refl _ _⟩
  case round =>
    obtain ⟨i, rfl, hi, hr, hb⟩ := hrel
    have HR := Lib.hid hr
    have B := Lib.hid hb
    clear hr hb
    by_cases hlt : i < s.size
    · have hlt2 : (i : Int) < (s.size : Int) := by omega
      have h8 := (s[i]).toNat_lt
      cases hc : whob s[i] with
      | false =>
        have HF : Hid (r = false) := Lib.hid (HB.out i hlt hc)
        have hq := whob_f hc
        clear hc HB HD HR
        generalize hx : ((s[i].toNat : Nat) : Int) = x at hq h8
        have HX := Lib.hid hx
        rcases hq with h | ⟨h, h2, h3⟩ | h
        · have a1 : ¬ (97 : Int) ≤ x := by omega
          have a3 : ¬ (48 : Int) ≤ x := by omega
          have a5 : ¬ x = 95 := by omega
          rw [← hx] at a1 a3 a5
          have a6 : (!(((s[i].toNat : Nat) : Int) == 95)) = true := by simpa using a5
          clear hx h HX a5
          go_wp2_with fail
          go_ret
          exact ⟨ret_bool HF.out.symm, B.out⟩
        · have a1 : ¬ (97 : Int) ≤ x := by omega
          have a3 : (48 : Int) ≤ x := by omega
          have a4 : ¬ x ≤ 57 := by omega
          rw [← hx] at a1 a3 a4 h3
          have a6 : (!(((s[i].toNat : Nat) : Int) == 95)) = true := by simpa using h3
          clear hx h HX h3 h2
          go_wp2_with fail
          go_ret
          exact ⟨ret_bool HF.out.symm, B.out⟩
        · have a1 : (97 : Int) ≤ x := by omega
          have a2 : ¬ x ≤ 122 := by omega
          have a3 : (48 : Int) ≤ x := by omega
          have a4 : ¬ x ≤ 57 := by omega
          have a5 : ¬ x = 95 := by omega
          rw [← hx] at a1 a2 a3 a4 a5
          have a6 : (!(((s[i].toNat : Nat) : Int) == 95)) = true := by simpa using a5
          clear hx h HX a5
          go_wp2_with fail
          go_ret
          exact ⟨ret_bool HF.out.symm, B.out⟩
      | true =>
        have HS := Lib.hid (HR.out.step hlt hc)
        have hq := whob_t hc
        clear hc HB HD HR
        by_cases a1 : (97 : Int) ≤ ((s[i].toNat : Nat) : Int)
        · have a2 : ((s[i].toNat : Nat) : Int) ≤ 122 := by omega
          clear hq
          go_wp2_with fail
          go_roundw
          case rel => exact ⟨i + 1, by go_num, by omega, HS.out, B.out⟩
          case measure => simp [intOf]; omega
        · by_cases a4 : ((s[i].toNat : Nat) : Int) ≤ 57
          · have a3 : (48 : Int) ≤ ((s[i].toNat : Nat) : Int) := by omega
            clear hq
            go_wp2_with fail
            go_roundw
            case rel => exact ⟨i + 1, by go_num, by omega, HS.out, B.out⟩
            case measure => simp [intOf]; omega
          · have a3 : (48 : Int) ≤ ((s[i].toNat : Nat) : Int) := by omega
            have a5 : ((s[i].toNat : Nat) : Int) = 95 := by omega
            clear hq
            go_wp2_with fail
            go_roundw
            case rel => exact ⟨i + 1, by go_num, by omega, HS.out, B.out⟩
            case measure => simp [intOf]; omega
    · obtain rfl : i = s.size := by omega
      have hlt2 : ¬ (s.size : Int) < (s.size : Int) := by omega
      have HF : Hid (r = true) := Lib.hid (HD.out HR.out hz3)
      go_wp2_with fail
      go_ret
      exact ⟨ret_bool HF.out.symm, B.out⟩
theorem symLinkOk_impl (s : ByteArray) (w : World) (hs : s.size ≤ 4194304) :
    Calls Tryz.prog 175 #[.string s] w fun e w' => e = .returned (.bool (inB s.size 1 150 && signv s)) ∧ Below w.heap.size w w' := by
  have H1 := Lib.hid (fun w => visible_impl s w (by omega))
  generalize signv s = r at H1
  by_cases hz : (1 : Int) ≤ (s.size : Int)
  · by_cases hz2 : (s.size : Int) ≤ 150
    · have hq : inB (s.size : Int) 1 150 = true := inB_t (by omega)
      rw [hq, Bool.true_and]
      clear hq
      go_enter Tryz.func175, Tryz.ntmps175
      go_wp2_with fail
      refine (H1.out _).mono ?_
      rintro e _ ⟨rfl, rfl⟩
      go_wp2_with fail
      go_ret
      exact ⟨rfl, Below.refl _ _⟩
    · have hq : inB (s.size : Int) 1 150 = false := inB_f (by omega)
      rw [hq]
      go_enter Tryz.func175, Tryz.ntmps175
      go_wp2_with fail
      go_ret
      exact ⟨rfl, Below.refl _ _⟩
  · have hq : inB (s.size : Int) 1 150 = false := inB_f (by omega)
    rw [hq]
    go_enter Tryz.func175, Tryz.ntmps175
    go_wp2_with fail
    go_ret
    exact ⟨rfl, Below.refl _ _⟩
end Go.Proofs.YtcnmbolmgifgfabGreatDoor

/- Contract of impl.EntryOk: the four kinds and what they share. -/
namespace Go.Proofs.YtcnmbolmgifgfabGreatDoor
open Go.ChangeShapes Go.WideShapes Go.ChangeAt Go.RowKit Go.Deep

/-- What all kinds ask. -/
def fieldsv (e : Ent) : Bool := pathOkv e.path && inB e.mode 0 4095 && inB e.uid 0 4294967295 && inB e.gid 0 4294967295 && inB e.time 0 99999999999 && whov e.user && whov e.group
set_option maxHeartbeats 3200000 in
theorem fieldsOk_impl (k : Int) (p l : ByteArray) (m u g t : Int) (us gr b : ByteArray) (w : World) (hp : p.size ≤ 4194304) (hus : us.size ≤ 4194304) (hgr : gr.size ≤ 4194304) :
    Calls Tryz.prog 174 #[.agg #[.int .i64 k, .string p, .string l, .int .i64 m, .int .i64 u, .int .i64 g, .int .i64 t, .string us, .string gr, .string b]] w fun e w' => e = .returned (.bool (fieldsv ⟨k, p, l, m, u, g, t, us, gr, b⟩)) ∧ Below w.heap.size w w' := by
  have H1 := Lib.hid (fun w => pathOk_impl p w (by omega))
  have H2 := Lib.hid (fun w => upTo_any m 4095 w)
  have H3 := Lib.hid (fun w => upTo_any u 4294967295 w)
  have H4 := Lib.hid (fun w => upTo_any g 4294967295 w)
  have H5 := Lib.hid (fun w => upTo_any t 99999999999 w)
  have H6 := Lib.hid (fun w => userOk_impl us w hus)
  have H7 := Lib.hid (fun w => userOk_impl gr w hgr)
  have HE : Hid (fieldsv ⟨k, p, l, m, u, g, t, us, gr, b⟩ = (pathOkv p && inB m 0 4095 && inB u 0 4294967295 && inB g 0 4294967295 && inB t 0 99999999999 && whov us && whov gr)) := Lib.hid rfl
  generalize fieldsv ⟨k, p, l, m, u, g, t, us, gr, b⟩ = r at HE
  generalize pathOkv p = b1 at H1 HE
  generalize inB m 0 4095 = b2 at H2 HE
  generalize inB u 0 4294967295 = b3 at H3 HE
  generalize inB g 0 4294967295 = b4 at H4 HE
  generalize inB t 0 99999999999 = b5 at H5 HE
  generalize whov us = b6 at H6 HE
  generalize whov gr = b7 at H7 HE
  clear hp hus hgr
  go_enter Tryz.func174, Tryz.ntmps174
  go_wp2_with fail
  refine (H1.out _).mono ?_
  rintro e w1 ⟨rfl, hb⟩
  obtain ⟨k1, bb, z1⟩ := one_new (e1 := ⟨k, p, l, m, u, g, t, us, gr, b⟩) hb
  have E := Lib.hid k1
  have B := Lib.hid bb
  clear hb k1 bb
  obtain ⟨c0, c1, c2, c3, c4, c5, c6, c7, c8, c9⟩ := E.out.zero
  cases b1 with
  | false =>
    go_wp2_with fail
    go_ret
    exact ⟨ret_bool (by rw [HE.out]; simp), B.out⟩
  | true =>
    go_wp2_with fail
    refine (H2.out _).mono ?_
    rintro e _ ⟨rfl, rfl⟩
    cases b2 with
    | false =>
      go_wp2_with fail
      go_ret
      exact ⟨ret_bool (by rw [HE.out]; simp), B.out⟩
    | true =>
      go_wp2_with fail
      refine (H3.out _).mono ?_
      rintro e _ ⟨rfl, rfl⟩
      cases b3 with
      | false =>
        go_wp2_with fail
        go_ret
        exact ⟨ret_bool (by rw [HE.out]; simp), B.out⟩
      | true =>
        go_wp2_with fail
        refine (H4.out _).mono ?_
        rintro e _ ⟨rfl, rfl⟩
        cases b4 with
        | false =>
          go_wp2_with fail
          go_ret
          exact ⟨ret_bool (by rw [HE.out]; simp), B.out⟩
        | true =>
          go_wp2_with fail
          refine (H5.out _).mono ?_
          rintro e _ ⟨rfl, rfl⟩
          cases b5 with
          | false =>
            go_wp2_with fail
            go_ret
            exact ⟨ret_bool (by rw [HE.out]; simp), B.out⟩
          | true =>
            go_wp2_with fail
            refine (H6.out _).mono ?_
            rintro e w6 ⟨rfl, hb⟩
            replace E := Lib.hid (E.out.below hb (by omega))
            replace B := Lib.hid (btE B.out hb)
            replace z1 := Nat.le_trans z1 hb.size
            clear hb c0 c1 c2 c3 c4 c5 c6 c7 c8 c9
            obtain ⟨c0, c1, c2, c3, c4, c5, c6, c7, c8, c9⟩ := E.out.zero
            cases b6 with
            | false =>
              go_wp2_with fail
              go_ret
              exact ⟨ret_bool (by rw [HE.out]; simp), B.out⟩
            | true =>
              go_wp2_with fail
              refine (H7.out _).mono ?_
              rintro e w7 ⟨rfl, hb⟩
              replace E := Lib.hid (E.out.below hb (by omega))
              replace B := Lib.hid (btE B.out hb)
              replace z1 := Nat.le_trans z1 hb.size
              clear hb c0 c1 c2 c3 c4 c5 c6 c7 c8 c9
              obtain ⟨c0, c1, c2, c3, c4, c5, c6, c7, c8, c9⟩ := E.out.zero
              cases b7 with
              | false =>
                go_wp2_with fail
                go_ret
                exact ⟨ret_bool (by rw [HE.out]; simp), B.out⟩
              | true =>
                go_wp2_with fail
                go_ret
                exact ⟨ret_bool (by rw [HE.out]; simp), B.out⟩
set_option maxHeartbeats 3200000 in
theorem fileOk_impl (k : Int) (p l : ByteArray) (m u g t : Int) (us gr b : ByteArray) (w : World) (hp : p.size ≤ 4194304) (hus : us.size ≤ 4194304) (hgr : gr.size ≤ 4194304) :
    Calls Tryz.prog 135 #[.agg #[.int .i64 k, .string p, .string l, .int .i64 m, .int .i64 u, .int .i64 g, .int .i64 t, .string us, .string gr, .string b]] w fun e w' => e = .returned (.bool (fieldsv ⟨k, p, l, m, u, g, t, us, gr, b⟩ && (decide (l.size = 0) && decide (b.size ≤ 3000)))) ∧ Below w.heap.size w w' := by
  have H1 := Lib.hid (fun w => fieldsOk_impl k p l m u g t us gr b w hp hus hgr)
  generalize fieldsv ⟨k, p, l, m, u, g, t, us, gr, b⟩ = b1 at H1 ⊢
  go_enter Tryz.func135, Tryz.ntmps135
  go_wp2_with fail
  refine (H1.out _).mono ?_
  rintro e w1 ⟨rfl, hb⟩
  obtain ⟨k1, bb, z1⟩ := one_new (e1 := ⟨k, p, l, m, u, g, t, us, gr, b⟩) hb
  have E := Lib.hid k1
  have B := Lib.hid bb
  clear hb k1 bb
  obtain ⟨c0, c1, c2, c3, c4, c5, c6, c7, c8, c9⟩ := E.out.zero
  cases b1 with
  | false =>
    go_wp2_with fail
    go_ret
    exact ⟨ret_bool (by simp), B.out⟩
  | true =>
    by_cases ql : l.size = 0
    · have ql2 := empty_t ql
      by_cases qb : b.size ≤ 3000
      · have qb2 : (b.size : Int) ≤ 3000 := by omega
        go_wp2_with fail
        go_ret
        exact ⟨ret_bool (by simp [ql, qb]), B.out⟩
      · have qb2 : ¬ (b.size : Int) ≤ 3000 := by omega
        go_wp2_with fail
        go_ret
        exact ⟨ret_bool (by rw [decide_eq_false qb]; simp; try omega), B.out⟩
    · have ql2 := empty_f ql
      go_wp2_with fail
      go_ret
      exact ⟨ret_bool (by simp [ql]), B.out⟩
set_option maxHeartbeats 3200000 in
theorem dirOk_impl (k : Int) (p l : ByteArray) (m u g t : Int) (us gr b : ByteArray) (w : World) (hp : p.size ≤ 4194304) (hus : us.size ≤ 4194304) (hgr : gr.size ≤ 4194304) :
    Calls Tryz.prog 136 #[.agg #[.int .i64 k, .string p, .string l, .int .i64 m, .int .i64 u, .int .i64 g, .int .i64 t, .string us, .string gr, .string b]] w fun e w' => e = .returned (.bool (fieldsv ⟨k, p, l, m, u, g, t, us, gr, b⟩ && (decide (l.size = 0) && decide (b.size = 0)))) ∧ Below w.heap.size w w' := by
  have H1 := Lib.hid (fun w => fieldsOk_impl k p l m u g t us gr b w hp hus hgr)
  generalize fieldsv ⟨k, p, l, m, u, g, t, us, gr, b⟩ = b1 at H1 ⊢
  go_enter Tryz.func136, Tryz.ntmps136
  go_wp2_with fail
  refine (H1.out _).mono ?_
  rintro e w1 ⟨rfl, hb⟩
  obtain ⟨k1, bb, z1⟩ := one_new (e1 := ⟨k, p, l, m, u, g, t, us, gr, b⟩) hb
  have E := Lib.hid k1
  have B := Lib.hid bb
  clear hb k1 bb
  obtain ⟨c0, c1, c2, c3, c4, c5, c6, c7, c8, c9⟩ := E.out.zero
  cases b1 with
  | false =>
    go_wp2_with fail
    go_ret
    exact ⟨ret_bool (by simp), B.out⟩
  | true =>
    by_cases ql : l.size = 0
    · have ql2 := empty_t ql
      by_cases qb : b.size = 0
      · have qb2 := empty_t qb
        go_wp2_with fail
        go_ret
        exact ⟨ret_bool (by simp [ql, qb]), B.out⟩
      · have qb2 := empty_f qb
        go_wp2_with fail
        go_ret
        exact ⟨ret_bool (by simp [qb]), B.out⟩
    · have ql2 := empty_f ql
      go_wp2_with fail
      go_ret
      exact ⟨ret_bool (by simp [ql]), B.out⟩
set_option maxHeartbeats 3200000 in
theorem symOk_impl (k : Int) (p l : ByteArray) (m u g t : Int) (us gr b : ByteArray) (w : World) (hp : p.size ≤ 4194304) (hl : l.size ≤ 4194304) (hus : us.size ≤ 4194304) (hgr : gr.size ≤ 4194304) :
    Calls Tryz.prog 137 #[.agg #[.int .i64 k, .string p, .string l, .int .i64 m, .int .i64 u, .int .i64 g, .int .i64 t, .string us, .string gr, .string b]] w fun e w' => e = .returned (.bool (fieldsv ⟨k, p, l, m, u, g, t, us, gr, b⟩ && (inB l.size 1 150 && signv l && decide (b.size = 0)))) ∧ Below w.heap.size w w' := by
  have H1 := Lib.hid (fun w => fieldsOk_impl k p l m u g t us gr b w hp hus hgr)
  have H2 := Lib.hid (fun w => symLinkOk_impl l w hl)
  generalize (inB (l.size : Int) 1 150 && signv l) = b2 at H2 ⊢
  generalize fieldsv ⟨k, p, l, m, u, g, t, us, gr, b⟩ = b1 at H1 ⊢
  go_enter Tryz.func137, Tryz.ntmps137
  go_wp2_with fail
  refine (H1.out _).mono ?_
  rintro e w1 ⟨rfl, hb⟩
  obtain ⟨k1, bb, z1⟩ := one_new (e1 := ⟨k, p, l, m, u, g, t, us, gr, b⟩) hb
  have E := Lib.hid k1
  have B := Lib.hid bb
  clear hb k1 bb
  obtain ⟨c0, c1, c2, c3, c4, c5, c6, c7, c8, c9⟩ := E.out.zero
  cases b1 with
  | false =>
    go_wp2_with fail
    go_ret
    exact ⟨ret_bool (by simp), B.out⟩
  | true =>
    go_wp2_with fail
    refine (H2.out _).mono ?_
    rintro e w2 ⟨rfl, hb⟩
    replace E := Lib.hid (E.out.below hb (by omega))
    replace B := Lib.hid (btE B.out hb)
    replace z1 := Nat.le_trans z1 hb.size
    clear hb c0 c1 c2 c3 c4 c5 c6 c7 c8 c9
    obtain ⟨c0, c1, c2, c3, c4, c5, c6, c7, c8, c9⟩ := E.out.zero
    cases b2 with
    | false =>
      go_wp2_with fail
      go_ret
      exact ⟨ret_bool (by simp), B.out⟩
    | true =>
      by_cases qb : b.size = 0
      · have qb2 := empty_t qb
        go_wp2_with fail
        go_ret
        exact ⟨ret_bool (by simp [qb]), B.out⟩
      · have qb2 := empty_f qb
        go_wp2_with fail
        go_ret
        exact ⟨ret_bool (by simp [qb]), B.out⟩
set_option maxHeartbeats 3200000 in
theorem hardOk_impl (k : Int) (p l : ByteArray) (m u g t : Int) (us gr b : ByteArray) (w : World) (hp : p.size ≤ 4194304) (hl : l.size ≤ 4194304) (hus : us.size ≤ 4194304) (hgr : gr.size ≤ 4194304) :
    Calls Tryz.prog 138 #[.agg #[.int .i64 k, .string p, .string l, .int .i64 m, .int .i64 u, .int .i64 g, .int .i64 t, .string us, .string gr, .string b]] w fun e w' => e = .returned (.bool (fieldsv ⟨k, p, l, m, u, g, t, us, gr, b⟩ && (pathOkv l && decide (l ≠ p) && decide (b.size = 0)))) ∧ Below w.heap.size w w' := by
  have H1 := Lib.hid (fun w => fieldsOk_impl k p l m u g t us gr b w hp hus hgr)
  have H2 := Lib.hid (fun w => pathOk_impl l w (by omega))
  generalize pathOkv l = b2 at H2 ⊢
  generalize fieldsv ⟨k, p, l, m, u, g, t, us, gr, b⟩ = b1 at H1 ⊢
  go_enter Tryz.func138, Tryz.ntmps138
  go_wp2_with fail
  refine (H1.out _).mono ?_
  rintro e w1 ⟨rfl, hb⟩
  obtain ⟨k1, bb, z1⟩ := one_new (e1 := ⟨k, p, l, m, u, g, t, us, gr, b⟩) hb
  have E := Lib.hid k1
  have B := Lib.hid bb
  clear hb k1 bb
  obtain ⟨c0, c1, c2, c3, c4, c5, c6, c7, c8, c9⟩ := E.out.zero
  cases b1 with
  | false =>
    go_wp2_with fail
    go_ret
    exact ⟨ret_bool (by simp), B.out⟩
  | true =>
    go_wp2_with fail
    refine (H2.out _).mono ?_
    rintro e w2 ⟨rfl, hb⟩
    replace E := Lib.hid (E.out.below hb (by omega))
    replace B := Lib.hid (btE B.out hb)
    replace z1 := Nat.le_trans z1 hb.size
    clear hb c0 c1 c2 c3 c4 c5 c6 c7 c8 c9
    obtain ⟨c0, c1, c2, c3, c4, c5, c6, c7, c8, c9⟩ := E.out.zero
    cases b2 with
    | false =>
      go_wp2_with fail
      go_ret
      exact ⟨ret_bool (by simp), B.out⟩
    | true =>
      by_cases ql : l = p
      · have ql2 := baE_eq ql
        go_wp2_with fail
        go_ret
        exact ⟨ret_bool (by simp [ql]), B.out⟩
      · have ql2 := baE_ne ql
        by_cases qb : b.size = 0
        · have qb2 := empty_t qb
          go_wp2_with fail
          go_ret
          exact ⟨ret_bool (by simp [ql, qb]), B.out⟩
        · have qb2 := empty_f qb
          go_wp2_with fail
          go_ret
          exact ⟨ret_bool (by simp [qb]), B.out⟩
theorem entOkv_eq (e : Ent) : entOkv e = (fieldsv e && kindOk e.kind e.path e.link e.body) := rfl
set_option maxHeartbeats 3200000 in
theorem entryOk_impl (k : Int) (p l : ByteArray) (m u g t : Int) (us gr b : ByteArray) (w : World) (hp : p.size ≤ 4194304) (hl : l.size ≤ 4194304) (hus : us.size ≤ 4194304) (hgr : gr.size ≤ 4194304) :
    Calls Tryz.prog 88 #[.agg #[.int .i64 k, .string p, .string l, .int .i64 m, .int .i64 u, .int .i64 g, .int .i64 t, .string us, .string gr, .string b]] w fun e w' => e = .returned (.bool (entOkv ⟨k, p, l, m, u, g, t, us, gr, b⟩)) ∧ Below w.heap.size w w' := by
  have H0 := Lib.hid (fun w => fileOk_impl k p l m u g t us gr b w hp hus hgr)
  have H1 := Lib.hid (fun w => dirOk_impl k p l m u g t us gr b w hp hus hgr)
  have H2 := Lib.hid (fun w => symOk_impl k p l m u g t us gr b w hp hl hus hgr)
  have H3 := Lib.hid (fun w => hardOk_impl k p l m u g t us gr b w hp hl hus hgr)
  have HE : Hid (entOkv ⟨k, p, l, m, u, g, t, us, gr, b⟩ = (fieldsv ⟨k, p, l, m, u, g, t, us, gr, b⟩ && kindOk k p l b)) := Lib.hid rfl
  have HK : Hid (kindOk k p l b = if k = 0 then decide (l.size = 0) && decide (b.size ≤ 3000) else if k = 1 then decide (l.size = 0) && decide (b.size = 0) else if k = 2 then inB l.size 1 150 && signv l && decide (b.size = 0) else if k = 3 then pathOkv l && decide (l ≠ p) && decide (b.size = 0) else false) := Lib.hid rfl
  generalize hk0 : (decide (l.size = 0) && decide (b.size ≤ 3000)) = r0 at H0 HK
  generalize hk1 : (decide (l.size = 0) && decide (b.size = 0)) = r1 at H1 HK
  generalize hk2 : (inB (l.size : Int) 1 150 && signv l && decide (b.size = 0)) = r2 at H2 HK
  generalize hk3 : (pathOkv l && decide (l ≠ p) && decide (b.size = 0)) = r3 at H3 HK
  clear hk0 hk1 hk2 hk3
  generalize kindOk k p l b = rk at HE HK
  generalize entOkv ⟨k, p, l, m, u, g, t, us, gr, b⟩ = r at HE
  generalize fieldsv ⟨k, p, l, m, u, g, t, us, gr, b⟩ = b1 at HE H0 H1 H2 H3
  clear hp hl hus hgr
  by_cases q0 : k = 0
  · have HF : Hid (r = (b1 && r0)) := Lib.hid (by rw [HE.out, HK.out]; simp [q0])
    subst q0
    clear HE HK
    go_enter Tryz.func88, Tryz.ntmps88
    go_wp2_with fail
    refine (H0.out _).mono ?_
    rintro e w1 ⟨rfl, hb⟩
    go_wp2_with fail
    go_ret
    exact ⟨ret_bool HF.out.symm, (((Below.refl _ w).alloc (Nat.le_refl _) _).alloc (by simp) _).trans (hb.mono (by simp; omega))⟩
  by_cases q1 : k = 1
  · have HF : Hid (r = (b1 && r1)) := Lib.hid (by rw [HE.out, HK.out]; simp [q1])
    subst q1
    clear HE HK
    go_enter Tryz.func88, Tryz.ntmps88
    go_wp2_with fail
    refine (H1.out _).mono ?_
    rintro e w1 ⟨rfl, hb⟩
    go_wp2_with fail
    go_ret
    exact ⟨ret_bool HF.out.symm, (((Below.refl _ w).alloc (Nat.le_refl _) _).alloc (by simp) _).trans (hb.mono (by simp; omega))⟩
  by_cases q2 : k = 2
  · have HF : Hid (r = (b1 && r2)) := Lib.hid (by rw [HE.out, HK.out]; simp [q2])
    subst q2
    clear HE HK
    go_enter Tryz.func88, Tryz.ntmps88
    go_wp2_with fail
    refine (H2.out _).mono ?_
    rintro e w1 ⟨rfl, hb⟩
    go_wp2_with fail
    go_ret
    exact ⟨ret_bool HF.out.symm, (((Below.refl _ w).alloc (Nat.le_refl _) _).alloc (by simp) _).trans (hb.mono (by simp; omega))⟩
  by_cases q3 : k = 3
  · have HF : Hid (r = (b1 && r3)) := Lib.hid (by rw [HE.out, HK.out]; simp [q3])
    subst q3
    clear HE HK
    go_enter Tryz.func88, Tryz.ntmps88
    go_wp2_with fail
    refine (H3.out _).mono ?_
    rintro e w1 ⟨rfl, hb⟩
    go_wp2_with fail
    go_ret
    exact ⟨ret_bool HF.out.symm, (((Below.refl _ w).alloc (Nat.le_refl _) _).alloc (by simp) _).trans (hb.mono (by simp; omega))⟩
  have HF : Hid (r = false) := Lib.hid (by rw [HE.out, HK.out, if_neg q0, if_neg q1, if_neg q2, if_neg q3]; simp)
  clear HE HK
  go_enter Tryz.func88, Tryz.ntmps88
  go_wp2_with fail
  go_ret
  exact ⟨ret_bool HF.out.symm, ((Below.refl _ w).alloc (Nat.le_refl _) _).alloc (by simp) _⟩
end Go.Proofs.YtcnmbolmgifgfabGreatDoor

/- Contract of impl.cpioFits: what all cpio formats ask of an entry. -/
namespace Go.Proofs.YtcnmbolmgifgfabGreatDoor
open Go.ChangeShapes Go.WideShapes Go.ChangeAt Go.RowKit Go.Deep

def isTrail (p : ByteArray) : Bool := p.toList == [84, 82, 65, 73, 76, 69, 82, 33, 33, 33]
def cpioF (e : Ent) : Bool := entOkv e && !isTrail e.path && e.user.toList.isEmpty && e.group.toList.isEmpty
set_option maxHeartbeats 3200000 in
theorem cpioF_impl (k : Int) (p l : ByteArray) (m u g t : Int) (us gr b : ByteArray) (w : World) (hp : p.size ≤ 4194304) (hl : l.size ≤ 4194304) (hus : us.size ≤ 4194304) (hgr : gr.size ≤ 4194304) :
    Calls Tryz.prog 96 #[.agg #[.int .i64 k, .string p, .string l, .int .i64 m, .int .i64 u, .int .i64 g, .int .i64 t, .string us, .string gr, .string b]] w fun e w' => e = .returned (.bool (cpioF ⟨k, p, l, m, u, g, t, us, gr, b⟩)) ∧ Below w.heap.size w w' := by
  have H2 := Lib.hid (fun w => entryOk_impl k p l m u g t us gr b w hp hl hus hgr)
  have HE : Hid (cpioF ⟨k, p, l, m, u, g, t, us, gr, b⟩ = (entOkv ⟨k, p, l, m, u, g, t, us, gr, b⟩ && !(p.toList == [84, 82, 65, 73, 76, 69, 82, 33, 33, 33]) && us.toList.isEmpty && gr.toList.isEmpty)) := Lib.hid rfl
  generalize cpioF ⟨k, p, l, m, u, g, t, us, gr, b⟩ = r at HE
  generalize entOkv ⟨k, p, l, m, u, g, t, us, gr, b⟩ = b1 at H2 HE
  clear hp hus hgr hl
  go_enter Tryz.func96, Tryz.ntmps96
  go_wp2_with fail
  refine (H2.out _).mono ?_
  rintro e w1 ⟨rfl, hb⟩
  obtain ⟨k1, bb1, z1⟩ := one_new (e1 := ⟨k, p, l, m, u, g, t, us, gr, b⟩) hb
  have E1 := Lib.hid k1
  have B1 := Lib.hid bb1
  clear hb k1 bb1
  obtain ⟨c0, c1, c2, c3, c4, c5, c6, c7, c8, c9⟩ := E1.out.zero
  cases b1 with
  | false =>
    go_wp2_with fail
    go_ret
    exact ⟨ret_bool (by rw [HE.out]; simp []), B1.out⟩
  | true =>
    cases q1 : (p.toList == [84, 82, 65, 73, 76, 69, 82, 33, 33, 33]) with
    | true =>
      have HE2 : Hid (r = false) := Lib.hid (by rw [HE.out, q1]; simp)
      clear HE
      go_wp2_with fail
      go_ret
      exact ⟨ret_bool HE2.out.symm, B1.out⟩
    | false =>
      cases q2 : us.toList.isEmpty with
      | false =>
        have HE2 : Hid (r = false) := Lib.hid (by rw [HE.out, q2]; simp)
        clear HE
        go_wp2_with fail
        go_ret
        exact ⟨ret_bool HE2.out.symm, B1.out⟩
      | true =>
        have HE2 : Hid (r = gr.toList.isEmpty) := Lib.hid (by rw [HE.out, q1, q2]; simp)
        clear HE
        go_wp2_with fail
        go_ret
        exact ⟨ret_bool HE2.out.symm, B1.out⟩
end Go.Proofs.YtcnmbolmgifgfabGreatDoor

/- Contracts of spec.OdcFits and impl.OdcFits. -/
namespace Go.Proofs.YtcnmbolmgifgfabGreatDoor
open Go.ChangeShapes Go.WideShapes Go.ChangeAt Go.RowKit Go.Deep

def odcFits (e : Ent) : Bool := entOkv e && !isTrail e.path && e.user.toList.isEmpty && e.group.toList.isEmpty && decide (e.uid ≤ 262143) && decide (e.gid ≤ 262143) && decide (e.time ≤ 8589934591)
theorem odcFits_cpio (e : Ent) : odcFits e = (cpioF e && decide (e.uid ≤ 262143) && decide (e.gid ≤ 262143) && decide (e.time ≤ 8589934591)) := rfl
set_option maxHeartbeats 3200000 in
theorem odcFits_spec (k : Int) (p l : ByteArray) (m u g t : Int) (us gr b : ByteArray) (w : World) (hp : p.size ≤ 4194304) (hl : l.size ≤ 4194304) (hus : us.size ≤ 4194304) (hgr : gr.size ≤ 4194304) (hbz : b.size ≤ 4194304) :
    Calls Tryz.prog 33 #[.agg #[.int .i64 k, .string p, .string l, .int .i64 m, .int .i64 u, .int .i64 g, .int .i64 t, .string us, .string gr, .string b]] w fun e w' => e = .returned (.bool (odcFits ⟨k, p, l, m, u, g, t, us, gr, b⟩)) ∧ Below w.heap.size w w' := by
  have H2 := Lib.hid (fun w => entryOk_spec k p l m u g t us gr b w hp hl hus hgr hbz)
  have HE : Hid (odcFits ⟨k, p, l, m, u, g, t, us, gr, b⟩ = (entOkv ⟨k, p, l, m, u, g, t, us, gr, b⟩ && !(p.toList == [84, 82, 65, 73, 76, 69, 82, 33, 33, 33]) && us.toList.isEmpty && gr.toList.isEmpty && decide (u ≤ 262143) && decide (g ≤ 262143) && decide (t ≤ 8589934591))) := Lib.hid rfl
  generalize odcFits ⟨k, p, l, m, u, g, t, us, gr, b⟩ = r at HE
  generalize entOkv ⟨k, p, l, m, u, g, t, us, gr, b⟩ = b1 at H2 HE
  clear hp hus hgr hl hbz
  go_enter Tryz.func33, Tryz.ntmps33
  go_wp2_with fail
  refine (H2.out _).mono ?_
  rintro e w1 ⟨rfl, hb⟩
  obtain ⟨k1, bb1, z1⟩ := one_new (e1 := ⟨k, p, l, m, u, g, t, us, gr, b⟩) hb
  have E1 := Lib.hid k1
  have B1 := Lib.hid bb1
  clear hb k1 bb1
  obtain ⟨c0, c1, c2, c3, c4, c5, c6, c7, c8, c9⟩ := E1.out.zero
  cases b1 with
  | false =>
    go_wp2_with fail
    go_ret
    exact ⟨ret_bool (by rw [HE.out]; simp []), B1.out⟩
  | true =>
    cases q1 : (p.toList == [84, 82, 65, 73, 76, 69, 82, 33, 33, 33]) with
    | true =>
      have HE2 : Hid (r = false) := Lib.hid (by rw [HE.out, q1]; simp)
      clear HE
      go_wp2_with fail
      go_ret
      exact ⟨ret_bool HE2.out.symm, B1.out⟩
    | false =>
      cases q2 : us.toList.isEmpty with
      | false =>
        have HE2 : Hid (r = false) := Lib.hid (by rw [HE.out, q2]; simp)
        clear HE
        go_wp2_with fail
        go_ret
        exact ⟨ret_bool HE2.out.symm, B1.out⟩
      | true =>
        cases q3 : gr.toList.isEmpty with
        | false =>
          have HE2 : Hid (r = false) := Lib.hid (by rw [HE.out, q3]; simp)
          clear HE
          go_wp2_with fail
          go_ret
          exact ⟨ret_bool HE2.out.symm, B1.out⟩
        | true =>
          by_cases q4 : u ≤ 262143
          · by_cases q5 : g ≤ 262143
            · by_cases q6 : t ≤ 8589934591
              · have HE2 : Hid (r = true) := Lib.hid (by rw [HE.out, q1, q2, q3, decide_eq_true q4, decide_eq_true q5, decide_eq_true q6]; rfl)
                clear HE
                go_wp2_with fail
                go_ret
                exact ⟨ret_bool HE2.out.symm, B1.out⟩
              · have HE2 : Hid (r = false) := Lib.hid (by rw [HE.out, decide_eq_false q6]; simp)
                clear HE
                go_wp2_with fail
                go_ret
                exact ⟨ret_bool ((decide_eq_false (show ¬ t ≤ 8589934591 by omega)).trans HE2.out.symm), B1.out⟩
            · have HE2 : Hid (r = false) := Lib.hid (by rw [HE.out, decide_eq_false q5]; simp)
              clear HE
              go_wp2_with fail
              go_ret
              exact ⟨ret_bool HE2.out.symm, B1.out⟩
          · have HE2 : Hid (r = false) := Lib.hid (by rw [HE.out, decide_eq_false q4]; simp)
            clear HE
            go_wp2_with fail
            go_ret
            exact ⟨ret_bool HE2.out.symm, B1.out⟩
set_option maxHeartbeats 3200000 in
theorem odcFits_impl (k : Int) (p l : ByteArray) (m u g t : Int) (us gr b : ByteArray) (w : World) (hp : p.size ≤ 4194304) (hl : l.size ≤ 4194304) (hus : us.size ≤ 4194304) (hgr : gr.size ≤ 4194304) :
    Calls Tryz.prog 64 #[.agg #[.int .i64 k, .string p, .string l, .int .i64 m, .int .i64 u, .int .i64 g, .int .i64 t, .string us, .string gr, .string b]] w fun e w' => e = .returned (.bool (odcFits ⟨k, p, l, m, u, g, t, us, gr, b⟩)) ∧ Below w.heap.size w w' := by
  have H2 := Lib.hid (fun w => cpioF_impl k p l m u g t us gr b w hp hl hus hgr)
  have HE : Hid (odcFits ⟨k, p, l, m, u, g, t, us, gr, b⟩ = (cpioF ⟨k, p, l, m, u, g, t, us, gr, b⟩ && decide (u ≤ 262143) && decide (g ≤ 262143) && decide (t ≤ 8589934591))) := Lib.hid rfl
  generalize odcFits ⟨k, p, l, m, u, g, t, us, gr, b⟩ = r at HE
  generalize cpioF ⟨k, p, l, m, u, g, t, us, gr, b⟩ = b1 at H2 HE
  clear hp hus hgr hl
  go_enter Tryz.func64, Tryz.ntmps64
  go_wp2_with fail
  refine (H2.out _).mono ?_
  rintro e w1 ⟨rfl, hb⟩
  obtain ⟨k1, bb1, z1⟩ := one_new (e1 := ⟨k, p, l, m, u, g, t, us, gr, b⟩) hb
  have E1 := Lib.hid k1
  have B1 := Lib.hid bb1
  clear hb k1 bb1
  obtain ⟨c0, c1, c2, c3, c4, c5, c6, c7, c8, c9⟩ := E1.out.zero
  cases b1 with
  | false =>
    go_wp2_with fail
    go_ret
    exact ⟨ret_bool (by rw [HE.out]; simp []), B1.out⟩
  | true =>
    by_cases q4 : u ≤ 262143
    · by_cases q5 : g ≤ 262143
      · by_cases q6 : t ≤ 8589934591
        · have HE2 : Hid (r = true) := Lib.hid (by rw [HE.out, decide_eq_true q4, decide_eq_true q5, decide_eq_true q6]; rfl)
          clear HE
          go_wp2_with fail
          go_ret
          exact ⟨ret_bool HE2.out.symm, B1.out⟩
        · have HE2 : Hid (r = false) := Lib.hid (by rw [HE.out, decide_eq_false q6]; simp)
          clear HE
          go_wp2_with fail
          go_ret
          exact ⟨ret_bool ((decide_eq_false (show ¬ t ≤ 8589934591 by omega)).trans HE2.out.symm), B1.out⟩
      · have HE2 : Hid (r = false) := Lib.hid (by rw [HE.out, decide_eq_false q5]; simp)
        clear HE
        go_wp2_with fail
        go_ret
        exact ⟨ret_bool HE2.out.symm, B1.out⟩
    · have HE2 : Hid (r = false) := Lib.hid (by rw [HE.out, decide_eq_false q4]; simp)
      clear HE
      go_wp2_with fail
      go_ret
      exact ⟨ret_bool HE2.out.symm, B1.out⟩
end Go.Proofs.YtcnmbolmgifgfabGreatDoor

/- The text of a list in octal cards; contract of spec.PutOdc. -/
namespace Go.Proofs.YtcnmbolmgifgfabGreatDoor
open Go.ChangeShapes Go.WideShapes Go.ChangeAt Go.RowKit Go.Deep

def lastC : Card := ⟨0, 0, 0, 0, 1, 0, ⟨#[84, 82, 65, 73, 76, 69, 82, 33, 33, 33]⟩, ⟨#[]⟩⟩
def odcT (Q : List Card) : Nat → ByteArray
  | 0 => ⟨#[]⟩
  | n + 1 => odcT Q n ++ cardTextv (Q.getD n zeroCd)
def putOdcB (L : List Ent) : Bool := listOkv L && L.all odcFits
def putOdcT (L : List Ent) : ByteArray := if putOdcB L then odcT (cardsv L) L.length ++ cardTextv lastC else ⟨#[]⟩
theorem getD_ofQ {C : List Card} {i : Nat} {c : Card} (h : C[i]? = some c) : C.getD i zeroCd = c := by simp [List.getD, h]
theorem odcT_step {Q : List Card} {i : Nat} {c : Card} (h : Q[i]? = some c) : odcT Q (i + 1) = odcT Q i ++ cardTextv c := by rw [odcT, getD_ofQ h]
theorem cardText_le (c : Card) : (cardTextv c).size ≤ 207 + c.Path.size + c.Data.size := by
  unfold cardTextv
  split
  · have h := octsS_le (flds c)
    have hl : (flds c).length = 10 := rfl
    have z6 : (⟨#[48, 55, 48, 55, 48, 55]⟩ : ByteArray).size = 6 := rfl
    have z1 : (⟨#[0]⟩ : ByteArray).size = 1 := rfl
    simp only [ByteArray.size_append]
    omega
  · exact Nat.zero_le _
def SmallQ (Q : List Card) : Prop := ∀ c ∈ Q, c.Path.size + c.Data.size ≤ 4194304
theorem smallQ_of {L : List Ent} (h : SmallL L) : SmallQ (cardsv L) := by
  intro c hc
  by_cases hk : listOkv L = true
  · obtain ⟨i, hi⟩ := List.mem_iff_getElem?.1 hc
    have hlt : i < L.length := by
      have := (List.getElem?_eq_some_iff.1 hi).1
      rwa [cardsv_len hk] at this
    have he : L[i]? = some L[i] := List.getElem?_eq_getElem hlt
    rw [cardsv_get hk he] at hi
    obtain rfl := Option.some.inj hi
    have hz := h.get he
    unfold esz at hz
    show L[i].path.size + (datav L[i]).size ≤ 4194304
    unfold datav
    split <;> omega
  · rw [cardsv, if_neg hk] at hc
    cases hc
theorem odcT_le {Q : List Card} (h : SmallQ Q) (i : Nat) (hi : i ≤ Q.length) : (odcT Q i).size ≤ 4194511 * i := by
  induction i with
  | zero => exact Nat.zero_le _
  | succ i ih =>
    have hq : Q[i]? = some Q[i] := List.getElem?_eq_getElem (by omega)
    have h1 := h _ (List.mem_of_getElem? hq)
    have h2 := cardText_le Q[i]
    rw [odcT_step hq, ByteArray.size_append]
    have := ih (by omega)
    omega
theorem putOdc_no {L : List Ent} (h : listOkv L = false) : putOdcB L = false ∧ putOdcT L = ⟨#[]⟩ := by
  have hb : putOdcB L = false := by rw [putOdcB, h]; rfl
  exact ⟨hb, by rw [putOdcT, hb]; rfl⟩
theorem putOdc_bad {L : List Ent} {i : Nat} {e : Ent} (he : L[i]? = some e) (h : odcFits e = false) : putOdcB L = false ∧ putOdcT L = ⟨#[]⟩ := by
  have hb : putOdcB L = false := by
    rw [putOdcB, show L.all odcFits = false from List.all_eq_false.2 ⟨e, List.mem_of_getElem? he, by simp [h]⟩]
    simp
  exact ⟨hb, by rw [putOdcT, hb]; rfl⟩
theorem putOdc_yes {L : List Ent} (h : listOkv L = true) (hf : ∀ j, j < L.length → ∀ e, L[j]? = some e → odcFits e = true) : putOdcB L = true ∧ putOdcT L = odcT (cardsv L) L.length ++ cardTextv lastC := by
  have hb : putOdcB L = true := by
    rw [putOdcB, h, List.all_eq_true.2 (fun e he => by
      obtain ⟨j, hj⟩ := List.mem_iff_getElem?.1 he
      exact hf j (List.getElem?_eq_some_iff.1 hj).1 e hj)]
    rfl
  exact ⟨hb, by rw [putOdcT, if_pos hb]⟩
theorem last_spec (w : World) : Calls Tryz.prog 28 #[] w fun e w' => e = .returned (.agg #[.int .i64 0, .int .i64 0, .int .i64 0, .int .i64 0, .int .i64 1, .int .i64 0, .string ⟨#[84, 82, 65, 73, 76, 69, 82, 33, 33, 33]⟩, .string ⟨#[]⟩]) ∧ Below w.heap.size w w' := by
  have R9 := CardO.new w lastC
  simp only [lastC, Card.cells] at R9
  go_enter Tryz.func28, Tryz.ntmps28
  go_wp2_with fail
  refine bodyPost_ret (res_OC1 (e := lastC) rfl _ rfl R9) rfl ?_
  exact ⟨rfl, (Below.refl _ _).alloc (Nat.le_refl _) _⟩
set_option maxHeartbeats 6400000 in
set_option maxRecDepth 8000 in
theorem putOdc_spec (L : List Ent) (n g cap : Nat) (w : World) (hn : n = L.length) (hm : n ≤ 1048576) (hcap : n ≤ cap) (hg : g < w.heap.size) (hsm : SmallL L) (h1 : RowE w g L) :
    Calls Tryz.prog 13 #[.slice (some ⟨g, 0, none⟩) n cap] w fun e w' => e = .returned (.tuple #[.string (putOdcT L), .bool (putOdcB L)]) ∧ Below w.heap.size w w' := by
  have H1 := Lib.hid h1
  have HK := Lib.hid (fun w (hg : g < w.heap.size) (h : RowE w g L) => listOk_spec L n g cap w hn (by omega) hcap hg hsm h)
  have HC := Lib.hid (fun w (hg : g < w.heap.size) (h : RowE w g L) => cardsOf_spec L n g cap w hn (by omega) hcap hg hsm h)
  have HG : Hid (∀ i, i < n → ∃ e, L[i]? = some e ∧ esz e ≤ 4194304) := Lib.hid (fun i hi => by obtain ⟨e, he⟩ := getE' (L := L) (i := i) (by omega); exact ⟨e, he, hsm.get he⟩)
  have HNo := Lib.hid (putOdc_no (L := L))
  have HBad := Lib.hid (fun i e (he : L[i]? = some e) h => putOdc_bad he h)
  have HYes : Hid (listOkv L = true → (∀ j, j < n → ∀ e, L[j]? = some e → odcFits e = true) → putOdcB L = true ∧ putOdcT L = odcT (cardsv L) n ++ cardTextv lastC) := Lib.hid (by rw [hn]; exact putOdc_yes)
  have HQ : Hid (listOkv L = true → (cardsv L).length = n ∧ n ≤ 30) := Lib.hid (fun h => ⟨by rw [hn]; exact cardsv_len h, by rw [hn]; exact listOk_len h⟩)
  have HSQ := Lib.hid (smallQ_of hsm)
  have HLast := Lib.hid (cardText_le lastC)
  generalize putOdcB L = ok at HNo HBad HYes
  generalize putOdcT L = r at HNo HBad HYes
  generalize listOkv L = lk at HK HNo HYes HQ
  generalize cardsv L = Q at HC HYes HQ HSQ
  clear h1 hsm hn
  go_enter Tryz.func13, Tryz.ntmps13
  go_wp2_with fail
  refine (HK.out _ hg H1.out).mono ?_
  rintro e w1 ⟨rfl, hb⟩
  have B := Lib.hid hb
  clear hb
  cases lk with
  | false =>
    have HF := Lib.hid (HNo.out rfl)
    go_wp2_with fail
    go_ret2
    exact ⟨by rw [HF.out.1, HF.out.2]; rfl, B.out⟩
  | true =>
    obtain ⟨hql, hn30⟩ := HQ.out rfl
    have HY := Lib.hid (HYes.out rfl)
    clear HK HNo HYes HQ
    go_wp2_with fail
    refine (HC.out _ (by have := B.out.size; omega) (H1.out.below B.out hg)).mono ?_
    rintro e w2 ⟨v, rfl, ho, hb⟩
    obtain ⟨gc, cc, rfl, hrc, zc, _, _⟩ := ho.open
    have RC := Lib.hid hrc
    replace B := Lib.hid (btE B.out hb)
    clear ho hrc hb HC
    rw [hql]
    go_wp2_with fail
    go_loopw [4, 6] (fun v u wr => ∃ i : Nat, u = .int .i64 i ∧ i ≤ n ∧ (∀ j, j < i → ∀ e, L[j]? = some e → odcFits e = true) ∧ v = .string (odcT Q i) ∧ RowC wr gc Q ∧ gc < wr.heap.size ∧ Below w.heap.size w wr) (fun _ u _ => n - (intOf u).toNat)
    case atStart => exact ⟨0, rfl, Nat.zero_le _, fun j hj => by omega, rfl, RC.out, zc, B.out⟩
    case round =>
      obtain ⟨i, rfl, hi, hf, rfl, hrc, zc2, hb⟩ := hrel
      clear RC B
      have HFt := Lib.hid hf
      have RC := Lib.hid hrc
      have B := Lib.hid hb
      have hszB := B.out.size
      clear hf hrc hb
      have hle := odcT_le HSQ.out i (by omega)
      by_cases hlt : i < n
      · have hlt2 : (i : Int) < (n : Int) := by omega
        obtain ⟨e, he, hz⟩ := HG.out i hlt
        obtain ⟨q, hq⟩ : ∃ q, Q[i]? = some q := ⟨Q[i], List.getElem?_eq_getElem (by omega)⟩
        have hqs := HSQ.out _ (List.mem_of_getElem? hq)
        have hcl := cardText_le q
        have HSt := Lib.hid (odcT_step hq)
        have HB2 := Lib.hid (HBad.out i e he)
        have HFn : Hid (odcFits e = true → ∀ j, j < i + 1 → ∀ e, L[j]? = some e → odcFits e = true) := Lib.hid (fun h j hj e' he' => by
          by_cases hji : j = i
          · subst hji; rw [he] at he'; obtain rfl := Option.some.inj he'; exact h
          · exact HFt.out j (by omega) e' he')
        obtain ⟨c0, c1, c2, c3, c4, c5, c6, c7, c8, c9⟩ := (H1.out.below B.out hg).ten he
        have Hq := Lib.hid hq
        clear he hq HBad HG
        obtain ⟨k, p, l, m, u1, gi, t, us, gr, b⟩ := e
        obtain ⟨hp, hl, hus, hgr, hbz⟩ := small_parts hz
        have HO := Lib.hid (fun w => odcFits_spec k p l m u1 gi t us gr b w hp hl hus hgr hbz)
        clear hz hp hl hus hgr hbz
        generalize odcFits ⟨k, p, l, m, u1, gi, t, us, gr, b⟩ = f at HB2 HFn HO
        go_wp2_with fail
        refine (HO.out _).mono ?_
        rintro e w3 ⟨rfl, hb⟩
        replace RC := Lib.hid (RC.out.below hb zc2)
        replace B := Lib.hid (btE B.out hb)
        have zc3 := Nat.lt_of_lt_of_le zc2 hb.size
        clear hb HO c0 c1 c2 c3 c4 c5 c6 c7 c8 c9
        cases f with
        | false =>
          have HF := Lib.hid (HB2.out rfl)
          go_wp2_with fail
          go_ret2
          exact ⟨by rw [HF.out.1, HF.out.2]; rfl, B.out⟩
        | true =>
          have HFi := Lib.hid (HFn.out rfl)
          obtain ⟨d0, d1, d2, d3, d4, d5, d6, d7⟩ := RC.out.cols Hq.out
          obtain ⟨q0, q1, q2, q3, q4, q5, qp, qd⟩ := q
          simp only at d0 d1 d2 d3 d4 d5 d6 d7 hqs hcl
          have HP := Lib.hid (fun w => putCard_spec q0 q1 q2 q3 q4 q5 qp qd w (by omega) (by omega))
          generalize cardTextv ⟨q0, q1, q2, q3, q4, q5, qp, qd⟩ = x at HP HSt hcl
          obtain ⟨T, hT⟩ : ∃ T, odcT Q i = T := ⟨_, rfl⟩
          rw [hT] at HSt hle ⊢
          clear hT HB2 HFn
          have hA : ∀ w, (Op.stringOp .add T x).run Tryz.prog w = .ok (.string (T ++ x)) w := fun w => run_string_add_sum w _ _ (by omega)
          go_wp2_with fail
          refine (HP.out _).mono ?_
          rintro e w4 ⟨rfl, hb⟩
          replace RC := Lib.hid (RC.out.below hb zc3)
          replace B := Lib.hid (btE B.out hb)
          have zc4 := Nat.lt_of_lt_of_le zc3 hb.size
          clear hb d0 d1 d2 d3 d4 d5 d6 d7 HP
          go_wp2_with fail
          go_roundw
          case rel => exact ⟨i + 1, by go_num, by omega, HFi.out, by rw [HSt.out], RC.out, zc4, B.out⟩
          case measure => simp [intOf]; omega
      · obtain rfl : i = n := by omega
        have hlt2 : ¬ (i : Int) < (i : Int) := by omega
        have HF := Lib.hid (HY.out HFt.out)
        have hll := HLast.out
        obtain ⟨x, hx⟩ : ∃ x, cardTextv lastC = x := ⟨_, rfl⟩
        have HP := Lib.hid (fun w => putCard_spec 0 0 0 0 1 0 ⟨#[84, 82, 65, 73, 76, 69, 82, 33, 33, 33]⟩ ⟨#[]⟩ w (by decide) (by decide))
        rw [show (cardTextv ⟨0, 0, 0, 0, 1, 0, ⟨#[84, 82, 65, 73, 76, 69, 82, 33, 33, 33]⟩, ⟨#[]⟩⟩) = x from hx] at HP
        rw [hx] at HF hll
        have hp1 : lastC.Path.size = 10 := rfl
        have hp2 : lastC.Data.size = 0 := rfl
        have hll2 : x.size ≤ 1000 := by omega
        obtain ⟨T, hT⟩ : ∃ T, odcT Q i = T := ⟨_, rfl⟩
        rw [hT] at HF hle ⊢
        clear hT hx hll HY
        have hA : ∀ w, (Op.stringOp .add T x).run Tryz.prog w = .ok (.string (T ++ x)) w := fun w => run_string_add_sum w _ _ (by omega)
        go_wp2_with fail
        refine (last_spec _).mono ?_
        rintro e w3 ⟨rfl, hb⟩
        replace B := Lib.hid (btE B.out hb)
        clear hb
        go_wp2_with fail
        refine (HP.out _).mono ?_
        rintro e w4 ⟨rfl, hb⟩
        replace B := Lib.hid (btE B.out hb)
        clear hb
        go_wp2_with fail
        go_ret2
        exact ⟨by rw [HF.out.1, HF.out.2]; rfl, B.out⟩
end Go.Proofs.YtcnmbolmgifgfabGreatDoor

/- Contracts of impl.demand and impl.cardCode: what is wrong with a card ends the work by a panic that carries a code. -/
namespace Go.Proofs.YtcnmbolmgifgfabGreatDoor
open Go.ChangeShapes Go.WideShapes Go.ChangeAt Go.RowKit

/-- The panic with a code. -/
def panC (c : Int) : List PanicEntry := [{ v := .iface 131 (.agg #[.int .i64 c]), recovered := false }]
theorem demand_ok (c : Int) (w : World) : Calls Tryz.prog 74 #[.bool true, .int .i64 c] w fun e w' => e = .returned (.tuple #[]) ∧ w' = w := by
  go_enter Tryz.func74, Tryz.ntmps74
  go_wp2_with fail
  go_end0
  exact ⟨rfl, rfl⟩
theorem demand_no (c : Int) (w : World) : Calls Tryz.prog 74 #[.bool false, .int .i64 c] w fun e w' => e = .panicked (panC c) ∧ w' = w := by
  go_enter Tryz.func74, Tryz.ntmps74
  go_wp2_with fail
  exact ⟨rfl, rfl, rfl⟩
set_option maxRecDepth 8000 in
theorem cardCode_nil (w : World) : Calls Tryz.prog 71 #[.nilIface] w fun e w' => e = .returned (.int .i64 0) ∧ Below w.heap.size w w' := by
  go_enter Tryz.func71, Tryz.ntmps71
  go_wp2_with fail
  go_ret
  exact ⟨rfl, Below.refl _ _⟩
theorem assert_hit (T : TypeId) (v : Value) (w : World) : (Instr.typeAssert (.iface 131 v) T 131 true).run Tryz.prog w = .ok (.tuple #[v, .bool true]) w := by
  simp [Instr.typeAssert, go_sem]
set_option maxRecDepth 8000 in
theorem cardCode_some (c : Int) (w : World) : Calls Tryz.prog 71 #[.iface 131 (.agg #[.int .i64 c])] w fun e w' => e = .returned (.int .i64 c) ∧ Below w.heap.size w w' := by
  have ha := assert_hit
  go_enter Tryz.func71, Tryz.ntmps71
  go_wp2_with fail
  go_ret
  exact ⟨rfl, (Below.refl _ _).alloc (Nat.le_refl _) _⟩
end Go.Proofs.YtcnmbolmgifgfabGreatDoor

/- Contracts of impl.(*odcHead).fields and impl.(*odcHead).digits. -/
namespace Go.Proofs.YtcnmbolmgifgfabGreatDoor
open Go.ChangeShapes Go.WideShapes Go.ChangeAt Go.RowKit Go.Deep

def offv (i : Nat) : Nat := [8, 0, 1, 2, 3, 4, 9, 5, 10, 11].getD i 0
def fieldCells (gh : Nat) : Array Value := #[.pointer (some ⟨gh, 8, none⟩), .int .i64 6, .pointer (some ⟨gh, 0, none⟩), .int .i64 6, .pointer (some ⟨gh, 1, none⟩), .int .i64 6, .pointer (some ⟨gh, 2, none⟩), .int .i64 6, .pointer (some ⟨gh, 3, none⟩), .int .i64 6, .pointer (some ⟨gh, 4, none⟩), .int .i64 6, .pointer (some ⟨gh, 9, none⟩), .int .i64 6, .pointer (some ⟨gh, 5, none⟩), .int .i64 11, .pointer (some ⟨gh, 10, none⟩), .int .i64 6, .pointer (some ⟨gh, 11, none⟩), .int .i64 11]
set_option maxHeartbeats 6400000 in
set_option maxRecDepth 8000 in
theorem fields_any (gh : Nat) (w : World) : Calls Tryz.prog 149 #[.pointer (some ⟨gh, 0, none⟩)] w fun e w' => ∃ G, e = .returned (.slice (some ⟨G, 0, none⟩) 10 10) ∧ w.heap.size ≤ G ∧ w'.heap[G]? = some (.cells (fieldCells gh) 175 (0, 0)) ∧ Below w.heap.size w w' := by
  go_enter Tryz.func149, Tryz.ntmps149
  go_upto_region 1 with fail
  refine wp_region_cut 49 (by kernel_rfl) (fun w' => Below w.heap.size w w') (fun x y => Below x.heap.size x y) (vE 51 (exRow w.heap.size 10 #[.pointer (some ⟨gh, 8, none⟩), .int .i64 6, .pointer (some ⟨gh, 0, none⟩), .int .i64 6, .pointer (some ⟨gh, 1, none⟩), .int .i64 6, .pointer (some ⟨gh, 2, none⟩), .int .i64 6, .pointer (some ⟨gh, 3, none⟩), .int .i64 6, .pointer (some ⟨gh, 4, none⟩), .int .i64 6, .pointer (some ⟨gh, 9, none⟩), .int .i64 6, .pointer (some ⟨gh, 5, none⟩), .int .i64 11, .pointer (some ⟨gh, 10, none⟩), .int .i64 6, .pointer (some ⟨gh, 11, none⟩), .int .i64 11] 175) (fun dq vq _ => match dq with | 3 => vq = .pointer (some ⟨gh, 0, none⟩) | 4 => vq = .pointer (some ⟨gh, 0, none⟩) | 5 => vq = .pointer (some ⟨gh, 8, none⟩) | 6 => vq = .pointer (some ⟨gh, 8, none⟩) | 7 => vq = .agg #[.pointer (some ⟨gh, 8, none⟩), .int .i64 6] | 8 => vq = .pointer (some ⟨gh, 0, none⟩) | 9 => vq = .pointer (some ⟨gh, 0, none⟩) | 10 => vq = .pointer (some ⟨gh, 0, none⟩) | 11 => vq = .pointer (some ⟨gh, 0, none⟩) | 12 => vq = .agg #[.pointer (some ⟨gh, 0, none⟩), .int .i64 6] | 13 => vq = .pointer (some ⟨gh, 0, none⟩) | 14 => vq = .pointer (some ⟨gh, 0, none⟩) | 15 => vq = .pointer (some ⟨gh, 0, none⟩) | 16 => vq = .pointer (some ⟨gh, 1, none⟩) | 17 => vq = .agg #[.pointer (some ⟨gh, 1, none⟩), .int .i64 6] | 18 => vq = .pointer (some ⟨gh, 0, none⟩) | 19 => vq = .pointer (some ⟨gh, 0, none⟩) | 20 => vq = .pointer (some ⟨gh, 0, none⟩) | 21 => vq = .pointer (some ⟨gh, 2, none⟩) | 22 => vq = .agg #[.pointer (some ⟨gh, 2, none⟩), .int .i64 6] | 23 => vq = .pointer (some ⟨gh, 0, none⟩) | 24 => vq = .pointer (some ⟨gh, 0, none⟩) | 25 => vq = .pointer (some ⟨gh, 0, none⟩) | 26 => vq = .pointer (some ⟨gh, 3, none⟩) | 27 => vq = .agg #[.pointer (some ⟨gh, 3, none⟩), .int .i64 6] | 28 => vq = .pointer (some ⟨gh, 0, none⟩) | 29 => vq = .pointer (some ⟨gh, 0, none⟩) | 30 => vq = .pointer (some ⟨gh, 0, none⟩) | 31 => vq = .pointer (some ⟨gh, 4, none⟩) | 32 => vq = .agg #[.pointer (some ⟨gh, 4, none⟩), .int .i64 6] | 33 => vq = .pointer (some ⟨gh, 0, none⟩) | 34 => vq = .pointer (some ⟨gh, 0, none⟩) | 35 => vq = .pointer (some ⟨gh, 8, none⟩) | 36 => vq = .pointer (some ⟨gh, 9, none⟩) | 37 => vq = .agg #[.pointer (some ⟨gh, 9, none⟩), .int .i64 6] | 38 => vq = .pointer (some ⟨gh, 0, none⟩) | 39 => vq = .pointer (some ⟨gh, 0, none⟩) | 40 => vq = .pointer (some ⟨gh, 0, none⟩) | 41 => vq = .pointer (some ⟨gh, 5, none⟩) | 42 => vq = .agg #[.pointer (some ⟨gh, 5, none⟩), .int .i64 11] | 43 => vq = .pointer (some ⟨gh, 0, none⟩) | 44 => vq = .pointer (some ⟨gh, 0, none⟩) | 45 => vq = .pointer (some ⟨gh, 10, none⟩) | 46 => vq = .agg #[.pointer (some ⟨gh, 10, none⟩), .int .i64 6] | 47 => vq = .pointer (some ⟨gh, 0, none⟩) | 48 => vq = .pointer (some ⟨gh, 0, none⟩) | 49 => vq = .pointer (some ⟨gh, 11, none⟩) | 50 => vq = .agg #[.pointer (some ⟨gh, 11, none⟩), .int .i64 11] | _ => True)) (by kernel_rfl) (by kernel_rfl) ((Below.refl _ _).drew) (vE_keep _ _ _ (exRow_keep _ _ _ _) (fun _ _ _ _ _ _ h => h)) (by simp) ?hops ?hend
  case hops =>
    simp only [List.take_succ_cons, List.take_zero, List.forall_mem_cons]
    refine ⟨?o3, ?o4, ?o5, ?o6, ?o7, ?o8, ?o9, ?o10, ?o11, ?o12, ?o13, ?o14, ?o15, ?o16, ?o17, ?o18, ?o19, ?o20, ?o21, ?o22, ?o23, ?o24, ?o25, ?o26, ?o27, ?o28, ?o29, ?o30, ?o31, ?o32, ?o33, ?o34, ?o35, ?o36, ?o37, ?o38, ?o39, ?o40, ?o41, ?o42, ?o43, ?o44, ?o45, ?o46, ?o47, ?o48, ?o49, ?o50, ?o51, fun _ h => by cases h⟩
    case o3 =>
      intro Q a w2 hC hV hI
      have e0 : a.eval (.tmp 0) = .pointer (some ⟨gh, 0, none⟩) := (hI 0 (by simp [Op.operands]) (by kernel_rfl)).trans rfl
      have f0 : a.tmps.getD 0 undef = .pointer (some ⟨gh, 0, none⟩) := e0
      have g0 : a.tmps[0]?.getD undef = .pointer (some ⟨gh, 0, none⟩) := by rw [← Array.getD_eq_getD_getElem?]; exact e0
      refine op_val (.pointer (some ⟨gh, 0, none⟩)) ?_ hC (Below.refl _ _) (by intro d hd; cases hd; exact rfl)
      (clear hV hI hC; go_simp <;> (first | rfl | simp | (rw [IntKind.wrap_i64]; omega)))
    case o4 =>
      intro Q a w2 hC hV hI
      have e3 : a.eval (.tmp 3) = .pointer (some ⟨gh, 0, none⟩) := hV 3 (by simp [Op.operands]) (by kernel_rfl)
      have f3 : a.tmps.getD 3 undef = .pointer (some ⟨gh, 0, none⟩) := e3
      have g3 : a.tmps[3]?.getD undef = .pointer (some ⟨gh, 0, none⟩) := by rw [← Array.getD_eq_getD_getElem?]; exact e3
      refine op_val (.pointer (some ⟨gh, 0, none⟩)) ?_ hC (Below.refl _ _) (by intro d hd; cases hd; exact rfl)
      (clear hV hI hC; go_simp <;> (first | rfl | simp | (rw [IntKind.wrap_i64]; omega)))
    case o5 =>
      intro Q a w2 hC hV hI
      have e4 : a.eval (.tmp 4) = .pointer (some ⟨gh, 0, none⟩) := hV 4 (by simp [Op.operands]) (by kernel_rfl)
      have f4 : a.tmps.getD 4 undef = .pointer (some ⟨gh, 0, none⟩) := e4
      have g4 : a.tmps[4]?.getD undef = .pointer (some ⟨gh, 0, none⟩) := by rw [← Array.getD_eq_getD_getElem?]; exact e4
      refine op_val (.pointer (some ⟨gh, 8, none⟩)) ?_ hC (Below.refl _ _) (by intro d hd; cases hd; exact rfl)
      (clear hV hI hC; go_simp <;> (first | rfl | simp | (rw [IntKind.wrap_i64]; omega)))
    case o6 =>
      intro Q a w2 hC hV hI
      have e5 : a.eval (.tmp 5) = .pointer (some ⟨gh, 8, none⟩) := hV 5 (by simp [Op.operands]) (by kernel_rfl)
      have f5 : a.tmps.getD 5 undef = .pointer (some ⟨gh, 8, none⟩) := e5
      have g5 : a.tmps[5]?.getD undef = .pointer (some ⟨gh, 8, none⟩) := by rw [← Array.getD_eq_getD_getElem?]; exact e5
      refine op_val (.pointer (some ⟨gh, 8, none⟩)) ?_ hC (Below.refl _ _) (by intro d hd; cases hd; exact rfl)
      (clear hV hI hC; go_simp <;> (first | rfl | simp | (rw [IntKind.wrap_i64]; omega)))
    case o7 =>
      intro Q a w2 hC hV hI
      have e6 : a.eval (.tmp 6) = .pointer (some ⟨gh, 8, none⟩) := hV 6 (by simp [Op.operands]) (by kernel_rfl)
      have f6 : a.tmps.getD 6 undef = .pointer (some ⟨gh, 8, none⟩) := e6
      have g6 : a.tmps[6]?.getD undef = .pointer (some ⟨gh, 8, none⟩) := by rw [← Array.getD_eq_getD_getElem?]; exact e6
      refine op_val (.agg #[.pointer (some ⟨gh, 8, none⟩), .int .i64 6]) ?_ hC (Below.refl _ _) (by intro d hd; cases hd; exact rfl)
      (clear hV hI hC; go_simp <;> (first | rfl | simp | (rw [IntKind.wrap_i64]; omega)))
    case o8 =>
      intro Q a w2 hC hV hI
      have e0 : a.eval (.tmp 0) = .pointer (some ⟨gh, 0, none⟩) := (hI 0 (by simp [Op.operands]) (by kernel_rfl)).trans rfl
      have f0 : a.tmps.getD 0 undef = .pointer (some ⟨gh, 0, none⟩) := e0
      have g0 : a.tmps[0]?.getD undef = .pointer (some ⟨gh, 0, none⟩) := by rw [← Array.getD_eq_getD_getElem?]; exact e0
      refine op_val (.pointer (some ⟨gh, 0, none⟩)) ?_ hC (Below.refl _ _) (by intro d hd; cases hd; exact rfl)
      (clear hV hI hC; go_simp <;> (first | rfl | simp | (rw [IntKind.wrap_i64]; omega)))
    case o9 =>
      intro Q a w2 hC hV hI
      have e8 : a.eval (.tmp 8) = .pointer (some ⟨gh, 0, none⟩) := hV 8 (by simp [Op.operands]) (by kernel_rfl)
      have f8 : a.tmps.getD 8 undef = .pointer (some ⟨gh, 0, none⟩) := e8
      have g8 : a.tmps[8]?.getD undef = .pointer (some ⟨gh, 0, none⟩) := by rw [← Array.getD_eq_getD_getElem?]; exact e8
      refine op_val (.pointer (some ⟨gh, 0, none⟩)) ?_ hC (Below.refl _ _) (by intro d hd; cases hd; exact rfl)
      (clear hV hI hC; go_simp <;> (first | rfl | simp | (rw [IntKind.wrap_i64]; omega)))
    case o10 =>
      intro Q a w2 hC hV hI
      have e9 : a.eval (.tmp 9) = .pointer (some ⟨gh, 0, none⟩) := hV 9 (by simp [Op.operands]) (by kernel_rfl)
      have f9 : a.tmps.getD 9 undef = .pointer (some ⟨gh, 0, none⟩) := e9
      have g9 : a.tmps[9]?.getD undef = .pointer (some ⟨gh, 0, none⟩) := by rw [← Array.getD_eq_getD_getElem?]; exact e9
      refine op_val (.pointer (some ⟨gh, 0, none⟩)) ?_ hC (Below.refl _ _) (by intro d hd; cases hd; exact rfl)
      (clear hV hI hC; go_simp <;> (first | rfl | simp | (rw [IntKind.wrap_i64]; omega)))
    case o11 =>
      intro Q a w2 hC hV hI
      have e10 : a.eval (.tmp 10) = .pointer (some ⟨gh, 0, none⟩) := hV 10 (by simp [Op.operands]) (by kernel_rfl)
      have f10 : a.tmps.getD 10 undef = .pointer (some ⟨gh, 0, none⟩) := e10
      have g10 : a.tmps[10]?.getD undef = .pointer (some ⟨gh, 0, none⟩) := by rw [← Array.getD_eq_getD_getElem?]; exact e10
      refine op_val (.pointer (some ⟨gh, 0, none⟩)) ?_ hC (Below.refl _ _) (by intro d hd; cases hd; exact rfl)
      (clear hV hI hC; go_simp <;> (first | rfl | simp | (rw [IntKind.wrap_i64]; omega)))
    case o12 =>
      intro Q a w2 hC hV hI
      have e11 : a.eval (.tmp 11) = .pointer (some ⟨gh, 0, none⟩) := hV 11 (by simp [Op.operands]) (by kernel_rfl)
      have f11 : a.tmps.getD 11 undef = .pointer (some ⟨gh, 0, none⟩) := e11
      have g11 : a.tmps[11]?.getD undef = .pointer (some ⟨gh, 0, none⟩) := by rw [← Array.getD_eq_getD_getElem?]; exact e11
      refine op_val (.agg #[.pointer (some ⟨gh, 0, none⟩), .int .i64 6]) ?_ hC (Below.refl _ _) (by intro d hd; cases hd; exact rfl)
      (clear hV hI hC; go_simp <;> (first | rfl | simp | (rw [IntKind.wrap_i64]; omega)))
    case o13 =>
      intro Q a w2 hC hV hI
      have e0 : a.eval (.tmp 0) = .pointer (some ⟨gh, 0, none⟩) := (hI 0 (by simp [Op.operands]) (by kernel_rfl)).trans rfl
      have f0 : a.tmps.getD 0 undef = .pointer (some ⟨gh, 0, none⟩) := e0
      have g0 : a.tmps[0]?.getD undef = .pointer (some ⟨gh, 0, none⟩) := by rw [← Array.getD_eq_getD_getElem?]; exact e0
      refine op_val (.pointer (some ⟨gh, 0, none⟩)) ?_ hC (Below.refl _ _) (by intro d hd; cases hd; exact rfl)
      (clear hV hI hC; go_simp <;> (first | rfl | simp | (rw [IntKind.wrap_i64]; omega)))
    case o14 =>
      intro Q a w2 hC hV hI
      have e13 : a.eval (.tmp 13) = .pointer (some ⟨gh, 0, none⟩) := hV 13 (by simp [Op.operands]) (by kernel_rfl)
      have f13 : a.tmps.getD 13 undef = .pointer (some ⟨gh, 0, none⟩) := e13
      have g13 : a.tmps[13]?.getD undef = .pointer (some ⟨gh, 0, none⟩) := by rw [← Array.getD_eq_getD_getElem?]; exact e13
      refine op_val (.pointer (some ⟨gh, 0, none⟩)) ?_ hC (Below.refl _ _) (by intro d hd; cases hd; exact rfl)
      (clear hV hI hC; go_simp <;> (first | rfl | simp | (rw [IntKind.wrap_i64]; omega)))
    case o15 =>
      intro Q a w2 hC hV hI
      have e14 : a.eval (.tmp 14) = .pointer (some ⟨gh, 0, none⟩) := hV 14 (by simp [Op.operands]) (by kernel_rfl)
      have f14 : a.tmps.getD 14 undef = .pointer (some ⟨gh, 0, none⟩) := e14
      have g14 : a.tmps[14]?.getD undef = .pointer (some ⟨gh, 0, none⟩) := by rw [← Array.getD_eq_getD_getElem?]; exact e14
      refine op_val (.pointer (some ⟨gh, 0, none⟩)) ?_ hC (Below.refl _ _) (by intro d hd; cases hd; exact rfl)
      (clear hV hI hC; go_simp <;> (first | rfl | simp | (rw [IntKind.wrap_i64]; omega)))
    case o16 =>
      intro Q a w2 hC hV hI
      have e15 : a.eval (.tmp 15) = .pointer (some ⟨gh, 0, none⟩) := hV 15 (by simp [Op.operands]) (by kernel_rfl)
      have f15 : a.tmps.getD 15 undef = .pointer (some ⟨gh, 0, none⟩) := e15
      have g15 : a.tmps[15]?.getD undef = .pointer (some ⟨gh, 0, none⟩) := by rw [← Array.getD_eq_getD_getElem?]; exact e15
      refine op_val (.pointer (some ⟨gh, 1, none⟩)) ?_ hC (Below.refl _ _) (by intro d hd; cases hd; exact rfl)
      (clear hV hI hC; go_simp <;> (first | rfl | simp | (rw [IntKind.wrap_i64]; omega)))
    case o17 =>
      intro Q a w2 hC hV hI
      have e16 : a.eval (.tmp 16) = .pointer (some ⟨gh, 1, none⟩) := hV 16 (by simp [Op.operands]) (by kernel_rfl)
      have f16 : a.tmps.getD 16 undef = .pointer (some ⟨gh, 1, none⟩) := e16
      have g16 : a.tmps[16]?.getD undef = .pointer (some ⟨gh, 1, none⟩) := by rw [← Array.getD_eq_getD_getElem?]; exact e16
      refine op_val (.agg #[.pointer (some ⟨gh, 1, none⟩), .int .i64 6]) ?_ hC (Below.refl _ _) (by intro d hd; cases hd; exact rfl)
      (clear hV hI hC; go_simp <;> (first | rfl | simp | (rw [IntKind.wrap_i64]; omega)))
    case o18 =>
      intro Q a w2 hC hV hI
      have e0 : a.eval (.tmp 0) = .pointer (some ⟨gh, 0, none⟩) := (hI 0 (by simp [Op.operands]) (by kernel_rfl)).trans rfl
      have f0 : a.tmps.getD 0 undef = .pointer (some ⟨gh, 0, none⟩) := e0
      have g0 : a.tmps[0]?.getD undef = .pointer (some ⟨gh, 0, none⟩) := by rw [← Array.getD_eq_getD_getElem?]; exact e0
      refine op_val (.pointer (some ⟨gh, 0, none⟩)) ?_ hC (Below.refl _ _) (by intro d hd; cases hd; exact rfl)
      (clear hV hI hC; go_simp <;> (first | rfl | simp | (rw [IntKind.wrap_i64]; omega)))
    case o19 =>
      intro Q a w2 hC hV hI
      have e18 : a.eval (.tmp 18) = .pointer (some ⟨gh, 0, none⟩) := hV 18 (by simp [Op.operands]) (by kernel_rfl)
      have f18 : a.tmps.getD 18 undef = .pointer (some ⟨gh, 0, none⟩) := e18
      have g18 : a.tmps[18]?.getD undef = .pointer (some ⟨gh, 0, none⟩) := by rw [← Array.getD_eq_getD_getElem?]; exact e18
      refine op_val (.pointer (some ⟨gh, 0, none⟩)) ?_ hC (Below.refl _ _) (by intro d hd; cases hd; exact rfl)
      (clear hV hI hC; go_simp <;> (first | rfl | simp | (rw [IntKind.wrap_i64]; omega)))
    case o20 =>
      intro Q a w2 hC hV hI
      have e19 : a.eval (.tmp 19) = .pointer (some ⟨gh, 0, none⟩) := hV 19 (by simp [Op.operands]) (by kernel_rfl)
      have f19 : a.tmps.getD 19 undef = .pointer (some ⟨gh, 0, none⟩) := e19
      have g19 : a.tmps[19]?.getD undef = .pointer (some ⟨gh, 0, none⟩) := by rw [← Array.getD_eq_getD_getElem?]; exact e19
      refine op_val (.pointer (some ⟨gh, 0, none⟩)) ?_ hC (Below.refl _ _) (by intro d hd; cases hd; exact rfl)
      (clear hV hI hC; go_simp <;> (first | rfl | simp | (rw [IntKind.wrap_i64]; omega)))
    case o21 =>
      intro Q a w2 hC hV hI
      have e20 : a.eval (.tmp 20) = .pointer (some ⟨gh, 0, none⟩) := hV 20 (by simp [Op.operands]) (by kernel_rfl)
      have f20 : a.tmps.getD 20 undef = .pointer (some ⟨gh, 0, none⟩) := e20
      have g20 : a.tmps[20]?.getD undef = .pointer (some ⟨gh, 0, none⟩) := by rw [← Array.getD_eq_getD_getElem?]; exact e20
      refine op_val (.pointer (some ⟨gh, 2, none⟩)) ?_ hC (Below.refl _ _) (by intro d hd; cases hd; exact rfl)
      (clear hV hI hC; go_simp <;> (first | rfl | simp | (rw [IntKind.wrap_i64]; omega)))
    case o22 =>
      intro Q a w2 hC hV hI
      have e21 : a.eval (.tmp 21) = .pointer (some ⟨gh, 2, none⟩) := hV 21 (by simp [Op.operands]) (by kernel_rfl)
      have f21 : a.tmps.getD 21 undef = .pointer (some ⟨gh, 2, none⟩) := e21
      have g21 : a.tmps[21]?.getD undef = .pointer (some ⟨gh, 2, none⟩) := by rw [← Array.getD_eq_getD_getElem?]; exact e21
      refine op_val (.agg #[.pointer (some ⟨gh, 2, none⟩), .int .i64 6]) ?_ hC (Below.refl _ _) (by intro d hd; cases hd; exact rfl)
      (clear hV hI hC; go_simp <;> (first | rfl | simp | (rw [IntKind.wrap_i64]; omega)))
    case o23 =>
      intro Q a w2 hC hV hI
      have e0 : a.eval (.tmp 0) = .pointer (some ⟨gh, 0, none⟩) := (hI 0 (by simp [Op.operands]) (by kernel_rfl)).trans rfl
      have f0 : a.tmps.getD 0 undef = .pointer (some ⟨gh, 0, none⟩) := e0
      have g0 : a.tmps[0]?.getD undef = .pointer (some ⟨gh, 0, none⟩) := by rw [← Array.getD_eq_getD_getElem?]; exact e0
      refine op_val (.pointer (some ⟨gh, 0, none⟩)) ?_ hC (Below.refl _ _) (by intro d hd; cases hd; exact rfl)
      (clear hV hI hC; go_simp <;> (first | rfl | simp | (rw [IntKind.wrap_i64]; omega)))
    case o24 =>
      intro Q a w2 hC hV hI
      have e23 : a.eval (.tmp 23) = .pointer (some ⟨gh, 0, none⟩) := hV 23 (by simp [Op.operands]) (by kernel_rfl)
      have f23 : a.tmps.getD 23 undef = .pointer (some ⟨gh, 0, none⟩) := e23
      have g23 : a.tmps[23]?.getD undef = .pointer (some ⟨gh, 0, none⟩) := by rw [← Array.getD_eq_getD_getElem?]; exact e23
      refine op_val (.pointer (some ⟨gh, 0, none⟩)) ?_ hC (Below.refl _ _) (by intro d hd; cases hd; exact rfl)
      (clear hV hI hC; go_simp <;> (first | rfl | simp | (rw [IntKind.wrap_i64]; omega)))
    case o25 =>
      intro Q a w2 hC hV hI
      have e24 : a.eval (.tmp 24) = .pointer (some ⟨gh, 0, none⟩) := hV 24 (by simp [Op.operands]) (by kernel_rfl)
      have f24 : a.tmps.getD 24 undef = .pointer (some ⟨gh, 0, none⟩) := e24
      have g24 : a.tmps[24]?.getD undef = .pointer (some ⟨gh, 0, none⟩) := by rw [← Array.getD_eq_getD_getElem?]; exact e24
      refine op_val (.pointer (some ⟨gh, 0, none⟩)) ?_ hC (Below.refl _ _) (by intro d hd; cases hd; exact rfl)
      (clear hV hI hC; go_simp <;> (first | rfl | simp | (rw [IntKind.wrap_i64]; omega)))
    case o26 =>
      intro Q a w2 hC hV hI
      have e25 : a.eval (.tmp 25) = .pointer (some ⟨gh, 0, none⟩) := hV 25 (by simp [Op.operands]) (by kernel_rfl)
      have f25 : a.tmps.getD 25 undef = .pointer (some ⟨gh, 0, none⟩) := e25
      have g25 : a.tmps[25]?.getD undef = .pointer (some ⟨gh, 0, none⟩) := by rw [← Array.getD_eq_getD_getElem?]; exact e25
      refine op_val (.pointer (some ⟨gh, 3, none⟩)) ?_ hC (Below.refl _ _) (by intro d hd; cases hd; exact rfl)
      (clear hV hI hC; go_simp <;> (first | rfl | simp | (rw [IntKind.wrap_i64]; omega)))
    case o27 =>
      intro Q a w2 hC hV hI
      have e26 : a.eval (.tmp 26) = .pointer (some ⟨gh, 3, none⟩) := hV 26 (by simp [Op.operands]) (by kernel_rfl)
      have f26 : a.tmps.getD 26 undef = .pointer (some ⟨gh, 3, none⟩) := e26
      have g26 : a.tmps[26]?.getD undef = .pointer (some ⟨gh, 3, none⟩) := by rw [← Array.getD_eq_getD_getElem?]; exact e26
      refine op_val (.agg #[.pointer (some ⟨gh, 3, none⟩), .int .i64 6]) ?_ hC (Below.refl _ _) (by intro d hd; cases hd; exact rfl)
      (clear hV hI hC; go_simp <;> (first | rfl | simp | (rw [IntKind.wrap_i64]; omega)))
    case o28 =>
      intro Q a w2 hC hV hI
      have e0 : a.eval (.tmp 0) = .pointer (some ⟨gh, 0, none⟩) := (hI 0 (by simp [Op.operands]) (by kernel_rfl)).trans rfl
      have f0 : a.tmps.getD 0 undef = .pointer (some ⟨gh, 0, none⟩) := e0
      have g0 : a.tmps[0]?.getD undef = .pointer (some ⟨gh, 0, none⟩) := by rw [← Array.getD_eq_getD_getElem?]; exact e0
      refine op_val (.pointer (some ⟨gh, 0, none⟩)) ?_ hC (Below.refl _ _) (by intro d hd; cases hd; exact rfl)
      (clear hV hI hC; go_simp <;> (first | rfl | simp | (rw [IntKind.wrap_i64]; omega)))
    case o29 =>
      intro Q a w2 hC hV hI
      have e28 : a.eval (.tmp 28) = .pointer (some ⟨gh, 0, none⟩) := hV 28 (by simp [Op.operands]) (by kernel_rfl)
      have f28 : a.tmps.getD 28 undef = .pointer (some ⟨gh, 0, none⟩) := e28
      have g28 : a.tmps[28]?.getD undef = .pointer (some ⟨gh, 0, none⟩) := by rw [← Array.getD_eq_getD_getElem?]; exact e28
      refine op_val (.pointer (some ⟨gh, 0, none⟩)) ?_ hC (Below.refl _ _) (by intro d hd; cases hd; exact rfl)
      (clear hV hI hC; go_simp <;> (first | rfl | simp | (rw [IntKind.wrap_i64]; omega)))
    case o30 =>
      intro Q a w2 hC hV hI
      have e29 : a.eval (.tmp 29) = .pointer (some ⟨gh, 0, none⟩) := hV 29 (by simp [Op.operands]) (by kernel_rfl)
      have f29 : a.tmps.getD 29 undef = .pointer (some ⟨gh, 0, none⟩) := e29
      have g29 : a.tmps[29]?.getD undef = .pointer (some ⟨gh, 0, none⟩) := by rw [← Array.getD_eq_getD_getElem?]; exact e29
      refine op_val (.pointer (some ⟨gh, 0, none⟩)) ?_ hC (Below.refl _ _) (by intro d hd; cases hd; exact rfl)
      (clear hV hI hC; go_simp <;> (first | rfl | simp | (rw [IntKind.wrap_i64]; omega)))
    case o31 =>
      intro Q a w2 hC hV hI
      have e30 : a.eval (.tmp 30) = .pointer (some ⟨gh, 0, none⟩) := hV 30 (by simp [Op.operands]) (by kernel_rfl)
      have f30 : a.tmps.getD 30 undef = .pointer (some ⟨gh, 0, none⟩) := e30
      have g30 : a.tmps[30]?.getD undef = .pointer (some ⟨gh, 0, none⟩) := by rw [← Array.getD_eq_getD_getElem?]; exact e30
      refine op_val (.pointer (some ⟨gh, 4, none⟩)) ?_ hC (Below.refl _ _) (by intro d hd; cases hd; exact rfl)
      (clear hV hI hC; go_simp <;> (first | rfl | simp | (rw [IntKind.wrap_i64]; omega)))
    case o32 =>
      intro Q a w2 hC hV hI
      have e31 : a.eval (.tmp 31) = .pointer (some ⟨gh, 4, none⟩) := hV 31 (by simp [Op.operands]) (by kernel_rfl)
      have f31 : a.tmps.getD 31 undef = .pointer (some ⟨gh, 4, none⟩) := e31
      have g31 : a.tmps[31]?.getD undef = .pointer (some ⟨gh, 4, none⟩) := by rw [← Array.getD_eq_getD_getElem?]; exact e31
      refine op_val (.agg #[.pointer (some ⟨gh, 4, none⟩), .int .i64 6]) ?_ hC (Below.refl _ _) (by intro d hd; cases hd; exact rfl)
      (clear hV hI hC; go_simp <;> (first | rfl | simp | (rw [IntKind.wrap_i64]; omega)))
    case o33 =>
      intro Q a w2 hC hV hI
      have e0 : a.eval (.tmp 0) = .pointer (some ⟨gh, 0, none⟩) := (hI 0 (by simp [Op.operands]) (by kernel_rfl)).trans rfl
      have f0 : a.tmps.getD 0 undef = .pointer (some ⟨gh, 0, none⟩) := e0
      have g0 : a.tmps[0]?.getD undef = .pointer (some ⟨gh, 0, none⟩) := by rw [← Array.getD_eq_getD_getElem?]; exact e0
      refine op_val (.pointer (some ⟨gh, 0, none⟩)) ?_ hC (Below.refl _ _) (by intro d hd; cases hd; exact rfl)
      (clear hV hI hC; go_simp <;> (first | rfl | simp | (rw [IntKind.wrap_i64]; omega)))
    case o34 =>
      intro Q a w2 hC hV hI
      have e33 : a.eval (.tmp 33) = .pointer (some ⟨gh, 0, none⟩) := hV 33 (by simp [Op.operands]) (by kernel_rfl)
      have f33 : a.tmps.getD 33 undef = .pointer (some ⟨gh, 0, none⟩) := e33
      have g33 : a.tmps[33]?.getD undef = .pointer (some ⟨gh, 0, none⟩) := by rw [← Array.getD_eq_getD_getElem?]; exact e33
      refine op_val (.pointer (some ⟨gh, 0, none⟩)) ?_ hC (Below.refl _ _) (by intro d hd; cases hd; exact rfl)
      (clear hV hI hC; go_simp <;> (first | rfl | simp | (rw [IntKind.wrap_i64]; omega)))
    case o35 =>
      intro Q a w2 hC hV hI
      have e34 : a.eval (.tmp 34) = .pointer (some ⟨gh, 0, none⟩) := hV 34 (by simp [Op.operands]) (by kernel_rfl)
      have f34 : a.tmps.getD 34 undef = .pointer (some ⟨gh, 0, none⟩) := e34
      have g34 : a.tmps[34]?.getD undef = .pointer (some ⟨gh, 0, none⟩) := by rw [← Array.getD_eq_getD_getElem?]; exact e34
      refine op_val (.pointer (some ⟨gh, 8, none⟩)) ?_ hC (Below.refl _ _) (by intro d hd; cases hd; exact rfl)
      (clear hV hI hC; go_simp <;> (first | rfl | simp | (rw [IntKind.wrap_i64]; omega)))
    case o36 =>
      intro Q a w2 hC hV hI
      have e35 : a.eval (.tmp 35) = .pointer (some ⟨gh, 8, none⟩) := hV 35 (by simp [Op.operands]) (by kernel_rfl)
      have f35 : a.tmps.getD 35 undef = .pointer (some ⟨gh, 8, none⟩) := e35
      have g35 : a.tmps[35]?.getD undef = .pointer (some ⟨gh, 8, none⟩) := by rw [← Array.getD_eq_getD_getElem?]; exact e35
      refine op_val (.pointer (some ⟨gh, 9, none⟩)) ?_ hC (Below.refl _ _) (by intro d hd; cases hd; exact rfl)
      (clear hV hI hC; go_simp <;> (first | rfl | simp | (rw [IntKind.wrap_i64]; omega)))
    case o37 =>
      intro Q a w2 hC hV hI
      have e36 : a.eval (.tmp 36) = .pointer (some ⟨gh, 9, none⟩) := hV 36 (by simp [Op.operands]) (by kernel_rfl)
      have f36 : a.tmps.getD 36 undef = .pointer (some ⟨gh, 9, none⟩) := e36
      have g36 : a.tmps[36]?.getD undef = .pointer (some ⟨gh, 9, none⟩) := by rw [← Array.getD_eq_getD_getElem?]; exact e36
      refine op_val (.agg #[.pointer (some ⟨gh, 9, none⟩), .int .i64 6]) ?_ hC (Below.refl _ _) (by intro d hd; cases hd; exact rfl)
      (clear hV hI hC; go_simp <;> (first | rfl | simp | (rw [IntKind.wrap_i64]; omega)))
    case o38 =>
      intro Q a w2 hC hV hI
      have e0 : a.eval (.tmp 0) = .pointer (some ⟨gh, 0, none⟩) := (hI 0 (by simp [Op.operands]) (by kernel_rfl)).trans rfl
      have f0 : a.tmps.getD 0 undef = .pointer (some ⟨gh, 0, none⟩) := e0
      have g0 : a.tmps[0]?.getD undef = .pointer (some ⟨gh, 0, none⟩) := by rw [← Array.getD_eq_getD_getElem?]; exact e0
      refine op_val (.pointer (some ⟨gh, 0, none⟩)) ?_ hC (Below.refl _ _) (by intro d hd; cases hd; exact rfl)
      (clear hV hI hC; go_simp <;> (first | rfl | simp | (rw [IntKind.wrap_i64]; omega)))
    case o39 =>
      intro Q a w2 hC hV hI
      have e38 : a.eval (.tmp 38) = .pointer (some ⟨gh, 0, none⟩) := hV 38 (by simp [Op.operands]) (by kernel_rfl)
      have f38 : a.tmps.getD 38 undef = .pointer (some ⟨gh, 0, none⟩) := e38
      have g38 : a.tmps[38]?.getD undef = .pointer (some ⟨gh, 0, none⟩) := by rw [← Array.getD_eq_getD_getElem?]; exact e38
      refine op_val (.pointer (some ⟨gh, 0, none⟩)) ?_ hC (Below.refl _ _) (by intro d hd; cases hd; exact rfl)
      (clear hV hI hC; go_simp <;> (first | rfl | simp | (rw [IntKind.wrap_i64]; omega)))
    case o40 =>
      intro Q a w2 hC hV hI
      have e39 : a.eval (.tmp 39) = .pointer (some ⟨gh, 0, none⟩) := hV 39 (by simp [Op.operands]) (by kernel_rfl)
      have f39 : a.tmps.getD 39 undef = .pointer (some ⟨gh, 0, none⟩) := e39
      have g39 : a.tmps[39]?.getD undef = .pointer (some ⟨gh, 0, none⟩) := by rw [← Array.getD_eq_getD_getElem?]; exact e39
      refine op_val (.pointer (some ⟨gh, 0, none⟩)) ?_ hC (Below.refl _ _) (by intro d hd; cases hd; exact rfl)
      (clear hV hI hC; go_simp <;> (first | rfl | simp | (rw [IntKind.wrap_i64]; omega)))
    case o41 =>
      intro Q a w2 hC hV hI
      have e40 : a.eval (.tmp 40) = .pointer (some ⟨gh, 0, none⟩) := hV 40 (by simp [Op.operands]) (by kernel_rfl)
      have f40 : a.tmps.getD 40 undef = .pointer (some ⟨gh, 0, none⟩) := e40
      have g40 : a.tmps[40]?.getD undef = .pointer (some ⟨gh, 0, none⟩) := by rw [← Array.getD_eq_getD_getElem?]; exact e40
      refine op_val (.pointer (some ⟨gh, 5, none⟩)) ?_ hC (Below.refl _ _) (by intro d hd; cases hd; exact rfl)
      (clear hV hI hC; go_simp <;> (first | rfl | simp | (rw [IntKind.wrap_i64]; omega)))
    case o42 =>
      intro Q a w2 hC hV hI
      have e41 : a.eval (.tmp 41) = .pointer (some ⟨gh, 5, none⟩) := hV 41 (by simp [Op.operands]) (by kernel_rfl)
      have f41 : a.tmps.getD 41 undef = .pointer (some ⟨gh, 5, none⟩) := e41
      have g41 : a.tmps[41]?.getD undef = .pointer (some ⟨gh, 5, none⟩) := by rw [← Array.getD_eq_getD_getElem?]; exact e41
      refine op_val (.agg #[.pointer (some ⟨gh, 5, none⟩), .int .i64 11]) ?_ hC (Below.refl _ _) (by intro d hd; cases hd; exact rfl)
      (clear hV hI hC; go_simp <;> (first | rfl | simp | (rw [IntKind.wrap_i64]; omega)))
    case o43 =>
      intro Q a w2 hC hV hI
      have e0 : a.eval (.tmp 0) = .pointer (some ⟨gh, 0, none⟩) := (hI 0 (by simp [Op.operands]) (by kernel_rfl)).trans rfl
      have f0 : a.tmps.getD 0 undef = .pointer (some ⟨gh, 0, none⟩) := e0
      have g0 : a.tmps[0]?.getD undef = .pointer (some ⟨gh, 0, none⟩) := by rw [← Array.getD_eq_getD_getElem?]; exact e0
      refine op_val (.pointer (some ⟨gh, 0, none⟩)) ?_ hC (Below.refl _ _) (by intro d hd; cases hd; exact rfl)
      (clear hV hI hC; go_simp <;> (first | rfl | simp | (rw [IntKind.wrap_i64]; omega)))
    case o44 =>
      intro Q a w2 hC hV hI
      have e43 : a.eval (.tmp 43) = .pointer (some ⟨gh, 0, none⟩) := hV 43 (by simp [Op.operands]) (by kernel_rfl)
      have f43 : a.tmps.getD 43 undef = .pointer (some ⟨gh, 0, none⟩) := e43
      have g43 : a.tmps[43]?.getD undef = .pointer (some ⟨gh, 0, none⟩) := by rw [← Array.getD_eq_getD_getElem?]; exact e43
      refine op_val (.pointer (some ⟨gh, 0, none⟩)) ?_ hC (Below.refl _ _) (by intro d hd; cases hd; exact rfl)
      (clear hV hI hC; go_simp <;> (first | rfl | simp | (rw [IntKind.wrap_i64]; omega)))
    case o45 =>
      intro Q a w2 hC hV hI
      have e44 : a.eval (.tmp 44) = .pointer (some ⟨gh, 0, none⟩) := hV 44 (by simp [Op.operands]) (by kernel_rfl)
      have f44 : a.tmps.getD 44 undef = .pointer (some ⟨gh, 0, none⟩) := e44
      have g44 : a.tmps[44]?.getD undef = .pointer (some ⟨gh, 0, none⟩) := by rw [← Array.getD_eq_getD_getElem?]; exact e44
      refine op_val (.pointer (some ⟨gh, 10, none⟩)) ?_ hC (Below.refl _ _) (by intro d hd; cases hd; exact rfl)
      (clear hV hI hC; go_simp <;> (first | rfl | simp | (rw [IntKind.wrap_i64]; omega)))
    case o46 =>
      intro Q a w2 hC hV hI
      have e45 : a.eval (.tmp 45) = .pointer (some ⟨gh, 10, none⟩) := hV 45 (by simp [Op.operands]) (by kernel_rfl)
      have f45 : a.tmps.getD 45 undef = .pointer (some ⟨gh, 10, none⟩) := e45
      have g45 : a.tmps[45]?.getD undef = .pointer (some ⟨gh, 10, none⟩) := by rw [← Array.getD_eq_getD_getElem?]; exact e45
      refine op_val (.agg #[.pointer (some ⟨gh, 10, none⟩), .int .i64 6]) ?_ hC (Below.refl _ _) (by intro d hd; cases hd; exact rfl)
      (clear hV hI hC; go_simp <;> (first | rfl | simp | (rw [IntKind.wrap_i64]; omega)))
    case o47 =>
      intro Q a w2 hC hV hI
      have e0 : a.eval (.tmp 0) = .pointer (some ⟨gh, 0, none⟩) := (hI 0 (by simp [Op.operands]) (by kernel_rfl)).trans rfl
      have f0 : a.tmps.getD 0 undef = .pointer (some ⟨gh, 0, none⟩) := e0
      have g0 : a.tmps[0]?.getD undef = .pointer (some ⟨gh, 0, none⟩) := by rw [← Array.getD_eq_getD_getElem?]; exact e0
      refine op_val (.pointer (some ⟨gh, 0, none⟩)) ?_ hC (Below.refl _ _) (by intro d hd; cases hd; exact rfl)
      (clear hV hI hC; go_simp <;> (first | rfl | simp | (rw [IntKind.wrap_i64]; omega)))
    case o48 =>
      intro Q a w2 hC hV hI
      have e47 : a.eval (.tmp 47) = .pointer (some ⟨gh, 0, none⟩) := hV 47 (by simp [Op.operands]) (by kernel_rfl)
      have f47 : a.tmps.getD 47 undef = .pointer (some ⟨gh, 0, none⟩) := e47
      have g47 : a.tmps[47]?.getD undef = .pointer (some ⟨gh, 0, none⟩) := by rw [← Array.getD_eq_getD_getElem?]; exact e47
      refine op_val (.pointer (some ⟨gh, 0, none⟩)) ?_ hC (Below.refl _ _) (by intro d hd; cases hd; exact rfl)
      (clear hV hI hC; go_simp <;> (first | rfl | simp | (rw [IntKind.wrap_i64]; omega)))
    case o49 =>
      intro Q a w2 hC hV hI
      have e48 : a.eval (.tmp 48) = .pointer (some ⟨gh, 0, none⟩) := hV 48 (by simp [Op.operands]) (by kernel_rfl)
      have f48 : a.tmps.getD 48 undef = .pointer (some ⟨gh, 0, none⟩) := e48
      have g48 : a.tmps[48]?.getD undef = .pointer (some ⟨gh, 0, none⟩) := by rw [← Array.getD_eq_getD_getElem?]; exact e48
      refine op_val (.pointer (some ⟨gh, 11, none⟩)) ?_ hC (Below.refl _ _) (by intro d hd; cases hd; exact rfl)
      (clear hV hI hC; go_simp <;> (first | rfl | simp | (rw [IntKind.wrap_i64]; omega)))
    case o50 =>
      intro Q a w2 hC hV hI
      have e49 : a.eval (.tmp 49) = .pointer (some ⟨gh, 11, none⟩) := hV 49 (by simp [Op.operands]) (by kernel_rfl)
      have f49 : a.tmps.getD 49 undef = .pointer (some ⟨gh, 11, none⟩) := e49
      have g49 : a.tmps[49]?.getD undef = .pointer (some ⟨gh, 11, none⟩) := by rw [← Array.getD_eq_getD_getElem?]; exact e49
      refine op_val (.agg #[.pointer (some ⟨gh, 11, none⟩), .int .i64 11]) ?_ hC (Below.refl _ _) (by intro d hd; cases hd; exact rfl)
      (clear hV hI hC; go_simp <;> (first | rfl | simp | (rw [IntKind.wrap_i64]; omega)))
    case o51 =>
      intro Q a w2 hC hV hI
      have e7 : a.eval (.tmp 7) = .agg #[.pointer (some ⟨gh, 8, none⟩), .int .i64 6] := hV 7 (by simp [Op.operands]) (by kernel_rfl)
      have f7 : a.tmps.getD 7 undef = .agg #[.pointer (some ⟨gh, 8, none⟩), .int .i64 6] := e7
      have g7 : a.tmps[7]?.getD undef = .agg #[.pointer (some ⟨gh, 8, none⟩), .int .i64 6] := by rw [← Array.getD_eq_getD_getElem?]; exact e7
      have e12 : a.eval (.tmp 12) = .agg #[.pointer (some ⟨gh, 0, none⟩), .int .i64 6] := hV 12 (by simp [Op.operands]) (by kernel_rfl)
      have f12 : a.tmps.getD 12 undef = .agg #[.pointer (some ⟨gh, 0, none⟩), .int .i64 6] := e12
      have g12 : a.tmps[12]?.getD undef = .agg #[.pointer (some ⟨gh, 0, none⟩), .int .i64 6] := by rw [← Array.getD_eq_getD_getElem?]; exact e12
      have e17 : a.eval (.tmp 17) = .agg #[.pointer (some ⟨gh, 1, none⟩), .int .i64 6] := hV 17 (by simp [Op.operands]) (by kernel_rfl)
      have f17 : a.tmps.getD 17 undef = .agg #[.pointer (some ⟨gh, 1, none⟩), .int .i64 6] := e17
      have g17 : a.tmps[17]?.getD undef = .agg #[.pointer (some ⟨gh, 1, none⟩), .int .i64 6] := by rw [← Array.getD_eq_getD_getElem?]; exact e17
      have e22 : a.eval (.tmp 22) = .agg #[.pointer (some ⟨gh, 2, none⟩), .int .i64 6] := hV 22 (by simp [Op.operands]) (by kernel_rfl)
      have f22 : a.tmps.getD 22 undef = .agg #[.pointer (some ⟨gh, 2, none⟩), .int .i64 6] := e22
      have g22 : a.tmps[22]?.getD undef = .agg #[.pointer (some ⟨gh, 2, none⟩), .int .i64 6] := by rw [← Array.getD_eq_getD_getElem?]; exact e22
      have e27 : a.eval (.tmp 27) = .agg #[.pointer (some ⟨gh, 3, none⟩), .int .i64 6] := hV 27 (by simp [Op.operands]) (by kernel_rfl)
      have f27 : a.tmps.getD 27 undef = .agg #[.pointer (some ⟨gh, 3, none⟩), .int .i64 6] := e27
      have g27 : a.tmps[27]?.getD undef = .agg #[.pointer (some ⟨gh, 3, none⟩), .int .i64 6] := by rw [← Array.getD_eq_getD_getElem?]; exact e27
      have e32 : a.eval (.tmp 32) = .agg #[.pointer (some ⟨gh, 4, none⟩), .int .i64 6] := hV 32 (by simp [Op.operands]) (by kernel_rfl)
      have f32 : a.tmps.getD 32 undef = .agg #[.pointer (some ⟨gh, 4, none⟩), .int .i64 6] := e32
      have g32 : a.tmps[32]?.getD undef = .agg #[.pointer (some ⟨gh, 4, none⟩), .int .i64 6] := by rw [← Array.getD_eq_getD_getElem?]; exact e32
      have e37 : a.eval (.tmp 37) = .agg #[.pointer (some ⟨gh, 9, none⟩), .int .i64 6] := hV 37 (by simp [Op.operands]) (by kernel_rfl)
      have f37 : a.tmps.getD 37 undef = .agg #[.pointer (some ⟨gh, 9, none⟩), .int .i64 6] := e37
      have g37 : a.tmps[37]?.getD undef = .agg #[.pointer (some ⟨gh, 9, none⟩), .int .i64 6] := by rw [← Array.getD_eq_getD_getElem?]; exact e37
      have e42 : a.eval (.tmp 42) = .agg #[.pointer (some ⟨gh, 5, none⟩), .int .i64 11] := hV 42 (by simp [Op.operands]) (by kernel_rfl)
      have f42 : a.tmps.getD 42 undef = .agg #[.pointer (some ⟨gh, 5, none⟩), .int .i64 11] := e42
      have g42 : a.tmps[42]?.getD undef = .agg #[.pointer (some ⟨gh, 5, none⟩), .int .i64 11] := by rw [← Array.getD_eq_getD_getElem?]; exact e42
      have e46 : a.eval (.tmp 46) = .agg #[.pointer (some ⟨gh, 10, none⟩), .int .i64 6] := hV 46 (by simp [Op.operands]) (by kernel_rfl)
      have f46 : a.tmps.getD 46 undef = .agg #[.pointer (some ⟨gh, 10, none⟩), .int .i64 6] := e46
      have g46 : a.tmps[46]?.getD undef = .agg #[.pointer (some ⟨gh, 10, none⟩), .int .i64 6] := by rw [← Array.getD_eq_getD_getElem?]; exact e46
      have e50 : a.eval (.tmp 50) = .agg #[.pointer (some ⟨gh, 11, none⟩), .int .i64 11] := hV 50 (by simp [Op.operands]) (by kernel_rfl)
      have f50 : a.tmps.getD 50 undef = .agg #[.pointer (some ⟨gh, 11, none⟩), .int .i64 11] := e50
      have g50 : a.tmps[50]?.getD undef = .agg #[.pointer (some ⟨gh, 11, none⟩), .int .i64 11] := by rw [← Array.getD_eq_getD_getElem?]; exact e50
      refine op_val (.slice (some ⟨w2.heap.size, 0, none⟩) 10 10) (w' := w2.alloc (.cells #[.pointer (some ⟨gh, 8, none⟩), .int .i64 6, .pointer (some ⟨gh, 0, none⟩), .int .i64 6, .pointer (some ⟨gh, 1, none⟩), .int .i64 6, .pointer (some ⟨gh, 2, none⟩), .int .i64 6, .pointer (some ⟨gh, 3, none⟩), .int .i64 6, .pointer (some ⟨gh, 4, none⟩), .int .i64 6, .pointer (some ⟨gh, 9, none⟩), .int .i64 6, .pointer (some ⟨gh, 5, none⟩), .int .i64 11, .pointer (some ⟨gh, 10, none⟩), .int .i64 6, .pointer (some ⟨gh, 11, none⟩), .int .i64 11] 175)) ?_ (hC.alloc hC.size _) ((Below.refl _ _).alloc (Nat.le_refl _) _) ?_
      · (clear hV hI hC; go_simp <;> (first | rfl | simp | (rw [IntKind.wrap_i64]; omega)))
      · intro d hd; cases hd; exact ⟨w2.heap.size, rfl, hC.size, heap_lastG _ _⟩
  case hend =>
    intro f w2 hC hall
    simp only [List.take_succ_cons, List.take_zero, List.drop_succ_cons, List.drop_zero] at hall ⊢
    simp only [List.forall_mem_cons] at hall
    obtain ⟨h3, h4, h5, h6, h7, h8, h9, h10, h11, h12, h13, h14, h15, h16, h17, h18, h19, h20, h21, h22, h23, h24, h25, h26, h27, h28, h29, h30, h31, h32, h33, h34, h35, h36, h37, h38, h39, h40, h41, h42, h43, h44, h45, h46, h47, h48, h49, h50, h51, _⟩ := hall
    replace h3 : f 3 = .pointer (some ⟨gh, 0, none⟩) := h3 3 rfl
    replace h4 : f 4 = .pointer (some ⟨gh, 0, none⟩) := h4 4 rfl
    replace h5 : f 5 = .pointer (some ⟨gh, 8, none⟩) := h5 5 rfl
    replace h6 : f 6 = .pointer (some ⟨gh, 8, none⟩) := h6 6 rfl
    replace h7 : f 7 = .agg #[.pointer (some ⟨gh, 8, none⟩), .int .i64 6] := h7 7 rfl
    replace h8 : f 8 = .pointer (some ⟨gh, 0, none⟩) := h8 8 rfl
    replace h9 : f 9 = .pointer (some ⟨gh, 0, none⟩) := h9 9 rfl
    replace h10 : f 10 = .pointer (some ⟨gh, 0, none⟩) := h10 10 rfl
    replace h11 : f 11 = .pointer (some ⟨gh, 0, none⟩) := h11 11 rfl
    replace h12 : f 12 = .agg #[.pointer (some ⟨gh, 0, none⟩), .int .i64 6] := h12 12 rfl
    replace h13 : f 13 = .pointer (some ⟨gh, 0, none⟩) := h13 13 rfl
    replace h14 : f 14 = .pointer (some ⟨gh, 0, none⟩) := h14 14 rfl
    replace h15 : f 15 = .pointer (some ⟨gh, 0, none⟩) := h15 15 rfl
    replace h16 : f 16 = .pointer (some ⟨gh, 1, none⟩) := h16 16 rfl
    replace h17 : f 17 = .agg #[.pointer (some ⟨gh, 1, none⟩), .int .i64 6] := h17 17 rfl
    replace h18 : f 18 = .pointer (some ⟨gh, 0, none⟩) := h18 18 rfl
    replace h19 : f 19 = .pointer (some ⟨gh, 0, none⟩) := h19 19 rfl
    replace h20 : f 20 = .pointer (some ⟨gh, 0, none⟩) := h20 20 rfl
    replace h21 : f 21 = .pointer (some ⟨gh, 2, none⟩) := h21 21 rfl
    replace h22 : f 22 = .agg #[.pointer (some ⟨gh, 2, none⟩), .int .i64 6] := h22 22 rfl
    replace h23 : f 23 = .pointer (some ⟨gh, 0, none⟩) := h23 23 rfl
    replace h24 : f 24 = .pointer (some ⟨gh, 0, none⟩) := h24 24 rfl
    replace h25 : f 25 = .pointer (some ⟨gh, 0, none⟩) := h25 25 rfl
    replace h26 : f 26 = .pointer (some ⟨gh, 3, none⟩) := h26 26 rfl
    replace h27 : f 27 = .agg #[.pointer (some ⟨gh, 3, none⟩), .int .i64 6] := h27 27 rfl
    replace h28 : f 28 = .pointer (some ⟨gh, 0, none⟩) := h28 28 rfl
    replace h29 : f 29 = .pointer (some ⟨gh, 0, none⟩) := h29 29 rfl
    replace h30 : f 30 = .pointer (some ⟨gh, 0, none⟩) := h30 30 rfl
    replace h31 : f 31 = .pointer (some ⟨gh, 4, none⟩) := h31 31 rfl
    replace h32 : f 32 = .agg #[.pointer (some ⟨gh, 4, none⟩), .int .i64 6] := h32 32 rfl
    replace h33 : f 33 = .pointer (some ⟨gh, 0, none⟩) := h33 33 rfl
    replace h34 : f 34 = .pointer (some ⟨gh, 0, none⟩) := h34 34 rfl
    replace h35 : f 35 = .pointer (some ⟨gh, 8, none⟩) := h35 35 rfl
    replace h36 : f 36 = .pointer (some ⟨gh, 9, none⟩) := h36 36 rfl
    replace h37 : f 37 = .agg #[.pointer (some ⟨gh, 9, none⟩), .int .i64 6] := h37 37 rfl
    replace h38 : f 38 = .pointer (some ⟨gh, 0, none⟩) := h38 38 rfl
    replace h39 : f 39 = .pointer (some ⟨gh, 0, none⟩) := h39 39 rfl
    replace h40 : f 40 = .pointer (some ⟨gh, 0, none⟩) := h40 40 rfl
    replace h41 : f 41 = .pointer (some ⟨gh, 5, none⟩) := h41 41 rfl
    replace h42 : f 42 = .agg #[.pointer (some ⟨gh, 5, none⟩), .int .i64 11] := h42 42 rfl
    replace h43 : f 43 = .pointer (some ⟨gh, 0, none⟩) := h43 43 rfl
    replace h44 : f 44 = .pointer (some ⟨gh, 0, none⟩) := h44 44 rfl
    replace h45 : f 45 = .pointer (some ⟨gh, 10, none⟩) := h45 45 rfl
    replace h46 : f 46 = .agg #[.pointer (some ⟨gh, 10, none⟩), .int .i64 6] := h46 46 rfl
    replace h47 : f 47 = .pointer (some ⟨gh, 0, none⟩) := h47 47 rfl
    replace h48 : f 48 = .pointer (some ⟨gh, 0, none⟩) := h48 48 rfl
    replace h49 : f 49 = .pointer (some ⟨gh, 11, none⟩) := h49 49 rfl
    replace h50 : f 50 = .agg #[.pointer (some ⟨gh, 11, none⟩), .int .i64 11] := h50 50 rfl
    obtain ⟨G51, hG51, hGB51, hGO51⟩ : ∃ G, f 51 = .slice (some ⟨G, 0, none⟩) 10 10 ∧ w.heap.size ≤ G ∧ w2.heap[G]? = some (.cells #[.pointer (some ⟨gh, 8, none⟩), .int .i64 6, .pointer (some ⟨gh, 0, none⟩), .int .i64 6, .pointer (some ⟨gh, 1, none⟩), .int .i64 6, .pointer (some ⟨gh, 2, none⟩), .int .i64 6, .pointer (some ⟨gh, 3, none⟩), .int .i64 6, .pointer (some ⟨gh, 4, none⟩), .int .i64 6, .pointer (some ⟨gh, 9, none⟩), .int .i64 6, .pointer (some ⟨gh, 5, none⟩), .int .i64 11, .pointer (some ⟨gh, 10, none⟩), .int .i64 6, .pointer (some ⟨gh, 11, none⟩), .int .i64 11] 175 (0, 0)) := h51 51 rfl
    simp only [putAll, Act.put, List.setIfInBounds_toArray, List.set_cons_succ, List.set_cons_zero, h3, h4, h5, h6, h7, h8, h9, h10, h11, h12, h13, h14, h15, h16, h17, h18, h19, h20, h21, h22, h23, h24, h25, h26, h27, h28, h29, h30, h31, h32, h33, h34, h35, h36, h37, h38, h39, h40, h41, h42, h43, h44, h45, h46, h47, h48, h49, h50, hG51]
    clear h3 h4 h5 h6 h7 h8 h9 h10 h11 h12 h13 h14 h15 h16 h17 h18 h19 h20 h21 h22 h23 h24 h25 h26 h27 h28 h29 h30 h31 h32 h33 h34 h35 h36 h37 h38 h39 h40 h41 h42 h43 h44 h45 h46 h47 h48 h49 h50 hG51 h51
    go_wp2_with fail
    go_ret
    exact ⟨G51, rfl, hGB51, hGO51, hC⟩
theorem ownB_belowK {w w' : World} {base : Nat} {v : Value} {l : List UInt8} (h : OwnB w base v l) (hb : Below w.heap.size w w') : OwnB w' base v l :=
  World.ownsRow.kept h (row := none) ⟨hb.os, hb.tape, hb.output, hb.size, fun k hk _ => hb.block k hk⟩ (by cases hv : v.ownBlock <;> simp)
theorem textK {w : World} {base n : Nat} {v : Value} {l : List UInt8} {s : ByteArray} (hn : n = l.length + s.size) (h : w.ownsRow base 5 1 v n (byteVals l ++ Lib.strCells s)) : OwnB w base v (l ++ s.data.toList) := by
  subst hn
  have e : byteVals l ++ Lib.strCells s = byteVals (l ++ s.data.toList) := by simp [byteVals, Lib.strCells]
  rw [e, show l.length + s.size = (l ++ s.data.toList).length from by simp] at h
  exact h
/-- What the digits of a list of numbers are, or the panic where one has no room. -/
def digE (L : List (Int × Int)) : Ending := if octsOk L then .returned (.string (octsS L)) else .panicked (panC 3)
end Go.Proofs.YtcnmbolmgifgfabGreatDoor

/- Contract of impl.(*odcHead).digits. -/
namespace Go.Proofs.YtcnmbolmgifgfabGreatDoor
open Go.ChangeShapes Go.WideShapes Go.ChangeAt Go.RowKit Go.Deep

theorem own_ne_ty {w : World} {base : Nat} {e t : TypeId} {v : Value} {n g : Nat} {xs : List Value} {cs : Array Value} {fr : Nat × Nat} (h : w.ownsRow base e 1 v n xs) (hg : w.heap[g]? = some (.cells cs t fr)) (ht : ¬ t = e) : some g ≠ v.ownBlock := by
  intro e1
  rcases h.2 with ⟨h0, _⟩ | ⟨g', cap', cur, hv, hg', hh, _⟩
  · subst h0; simp [Value.ownBlock] at e1
  · subst hv
    simp [Value.ownBlock] at e1
    subst e1
    rw [hg] at hh
    simp at hh
    exact ht hh.2.1
/-- The numbers of a head, each at its place. -/
def NumsAt (w : World) (gh : Nat) (L : List (Int × Int)) : Prop := ∀ i x, L[i]? = some x → w.cell? ⟨gh, offv i, none⟩ = some (.int .i64 x.1)
theorem NumsAt.below {w w' : World} {gh B : Nat} {L : List (Int × Int)} (h : NumsAt w gh L) (hb : Below B w w') (hg : gh < B) : NumsAt w' gh L := fun i x hx => (hb.cell (p := ⟨gh, offv i, none⟩) hg).trans (h i x hx)
theorem field_at {w : World} {G gh : Nat} {ty : TypeId} (h : w.heap[G]? = some (.cells (fieldCells gh) ty (0, 0))) {L : List (Int × Int)} (hL : L.map Prod.snd = wideC) {i : Nat} {x : Int × Int} (hx : L[i]? = some x) : w.cell? ⟨G, i * 2, none⟩ = some (.pointer (some ⟨gh, offv i, none⟩)) ∧ w.cell? ⟨G, i * 2 + 1, none⟩ = some (.int .i64 x.2) := by
  have hi : i < 10 := by
    have h1 := (List.getElem?_eq_some_iff.1 hx).1
    have h2 := congrArg List.length hL
    simp [wideC] at h2
    omega
  have h2 : wideC[i]? = some x.2 := by rw [← hL]; simp [hx]
  simp only [World.cell?, h]
  match i, hi, h2 with
  | 0, _, h2 => simp [fieldCells, offv, wideC] at h2 ⊢; exact h2
  | 1, _, h2 => simp [fieldCells, offv, wideC] at h2 ⊢; exact h2
  | 2, _, h2 => simp [fieldCells, offv, wideC] at h2 ⊢; exact h2
  | 3, _, h2 => simp [fieldCells, offv, wideC] at h2 ⊢; exact h2
  | 4, _, h2 => simp [fieldCells, offv, wideC] at h2 ⊢; exact h2
  | 5, _, h2 => simp [fieldCells, offv, wideC] at h2 ⊢; exact h2
  | 6, _, h2 => simp [fieldCells, offv, wideC] at h2 ⊢; exact h2
  | 7, _, h2 => simp [fieldCells, offv, wideC] at h2 ⊢; exact h2
  | 8, _, h2 => simp [fieldCells, offv, wideC] at h2 ⊢; exact h2
  | 9, _, h2 => simp [fieldCells, offv, wideC] at h2 ⊢; exact h2
set_option maxHeartbeats 6400000 in
set_option maxRecDepth 8000 in
theorem digits_any (L : List (Int × Int)) (gh : Nat) (w : World) (hL : L.map Prod.snd = wideC) (hg : gh < w.heap.size) (hN : NumsAt w gh L) (hT : Tabs w) :
    Calls Tryz.prog 110 #[.pointer (some ⟨gh, 0, none⟩)] w fun e w' => e = digE L ∧ Below w.heap.size w w' := by
  obtain ⟨i0, hi0, hz0, hz1, hz2⟩ := info_parts Tryz.info5
  have HN := Lib.hid hN
  have HT := Lib.hid hT
  have hlen : L.length = 10 := by have := congrArg List.length hL; simpa [wideC] using this
  have HA := Lib.hid (fun (w : World) (G : Nat) (h : w.heap[G]? = some (.cells (fieldCells gh) 175 (0, 0))) i x (hx : L[i]? = some x) => field_at h hL hx)
  have HG : Hid (∀ i, i < 10 → ∃ x, L[i]? = some x) := Lib.hid (fun i hi => ⟨L[i], List.getElem?_eq_getElem (by omega)⟩)
  have HS := Lib.hid (fun i x (h : L[i]? = some x) => octs_take h)
  have HK := Lib.hid (fun i x (h : L[i]? = some x) => octsOk_take h)
  have HB := Lib.hid (fun i x (h : L[i]? = some x) hk => octsOk_bad h hk)
  have HZ : Hid (octsS (L.take 0) = ⟨#[]⟩ ∧ octsOk (L.take 0) = true) := Lib.hid ⟨rfl, rfl⟩
  have HF : Hid (octsS (L.take 10) = octsS L ∧ octsOk (L.take 10) = octsOk L) := Lib.hid (by rw [← hlen, List.take_length]; exact ⟨rfl, rfl⟩)
  have HLe : Hid (∀ i, (octsS (L.take i)).size ≤ 200) := Lib.hid (fun i => by have h8 := octsS_le (L.take i); rw [List.length_take] at h8; omega)
  have HPl := Lib.hid putOct_le
  have HE : Hid (digE L = if octsOk L then .returned (.string (octsS L)) else .panicked (panC 3)) := Lib.hid rfl
  generalize digE L = E at HE
  generalize octsOk L = ok at HF HB HE
  generalize octsS L = r at HF HE
  clear hN hT hL hlen
  go_enter Tryz.func110, Tryz.ntmps110
  go_wp2_with fail
  refine (fields_any gh _).mono ?_
  rintro e w1 ⟨G, rfl, hG1, hG2, hb⟩
  have B := Lib.hid hb
  have F := Lib.hid hG2
  have O0 : Hid (OwnB w1 w.heap.size (.slice none 0 0) []) := Lib.hid ⟨rfl, .inl ⟨rfl, rfl⟩⟩
  have hGl := (Array.getElem?_eq_some_iff.1 hG2).1
  clear hb hG2
  go_wp2_with fail
  go_loopw [3, 5, 6, 7, 11] (fun v _ _ _ u wr => ∃ i : Nat, u = .int .i64 i ∧ i ≤ 10 ∧ octsOk (L.take i) = true ∧ OwnB wr w.heap.size v (octsS (L.take i)).data.toList ∧ wr.heap[G]? = some (.cells (fieldCells gh) 175 (0, 0)) ∧ some G ≠ v.ownBlock ∧ Below w.heap.size w wr) (fun _ _ _ _ u _ => 10 - (intOf u).toNat)
  case atStart => exact ⟨0, rfl, Nat.zero_le _, HZ.out.2, by rw [HZ.out.1]; exact O0.out, F.out, by simp [Value.ownBlock], B.out⟩
  case round =>
    obtain ⟨i, rfl, hi, hok, ho, hf, hne, hb⟩ := hrel
    obtain ⟨w5, hw5⟩ : ∃ wo, wo = wr := ⟨_, rfl⟩
    subst hw5
    clear O0 F B
    have B := Lib.hid hb
    have O := Lib.hid ho
    have F := Lib.hid hf
    have hszB := B.out.size
    have HOk := Lib.hid hok
    have hGl := (Array.getElem?_eq_some_iff.1 hf).1
    clear hb hok ho hf
    by_cases hlt : i < 10
    · have hlt2 : (i : Int) < 10 := by omega
      obtain ⟨⟨x, y⟩, hx⟩ := HG.out i hlt
      have HS2 := Lib.hid (HS.out i _ hx)
      have HK2 := Lib.hid (HK.out i _ hx)
      have HB2 := Lib.hid (HB.out i _ hx)
      obtain ⟨c0, c1⟩ := HA.out w5 G F.out i _ hx
      have cN := (B.out.cell (p := ⟨gh, offv i, none⟩) hg).trans (HN.out i _ hx)
      simp only at HS2 HK2 HB2 c0 c1 cN
      have hle := HLe.out i
      have hpl := HPl.out x y
      have HPx := Lib.hid (fun w h => putOct_impl x y w h)
      clear hx HS HK HB HG HA HN
      obtain ⟨T, hTe⟩ : ∃ T, octsS (L.take i) = T := ⟨_, rfl⟩
      rw [hTe] at HS2 hle O
      clear hTe
      generalize (putOctv x y).1 = q at HS2 hpl HPx
      generalize (putOctv x y).2 = b at HB2 HK2 HPx
      generalize offv i = oi at c0 cN
      have HTs := Lib.hid (fun w' (hb : Below w.heap.size w w') => HPx.out w' (HT.out.below hb))
      clear HPx
      go_upto_region 5 with fail
      generalize hw6 : World.alloc w5 _ = w6
      have NB : Below w5.heap.size w5 w6 := by rw [← hw6]; exact (Below.refl _ _).alloc (Nat.le_refl _) _
      have XB : w6.heap[w5.heap.size]? = some (.cells #[.pointer (some ⟨gh, oi, none⟩), .int .i64 y] 175 (0, 0)) := by rw [← hw6]; exact heap_lastG _ _
      clear hw6 c0 c1
      have zbx := (Array.getElem?_eq_some_iff.1 XB).1
      replace O := Lib.hid (ownB_belowK O.out NB)
      replace F := Lib.hid ((NB.block G hGl).trans F.out)
      replace B := Lib.hid (B.out.trans (NB.mono hszB))
      have hsz6 := B.out.size
      have KC : Hid (∀ w', Below w6.heap.size w6 w' → w'.cell? ⟨w5.heap.size, 0, none⟩ = some (.pointer (some ⟨gh, oi, none⟩)) ∧ w'.cell? ⟨w5.heap.size, 1, none⟩ = some (.int .i64 y) ∧ w'.cell? ⟨gh, oi, none⟩ = some (.int .i64 x)) := Lib.hid (fun w' hb => by
        have h1 := (hb.block _ zbx).trans XB
        exact ⟨by simp [World.cell?, h1], by simp [World.cell?, h1], (hb.cell (p := ⟨gh, oi, none⟩) (by simp; omega)).trans ((NB.cell (p := ⟨gh, oi, none⟩) (by simp; omega)).trans cN)⟩)
      have HPy := Lib.hid (fun w' (hb : Below w6.heap.size w6 w') => HTs.out w' (B.out.trans (hb.mono hsz6)))
      clear NB XB HTs cN
      refine wp_region_inv (by kernel_rfl) (fun w' => Below w6.heap.size w6 w') (fun x y => Below x.heap.size x y) (fun dq vq _ => match dq with | 16 => vq = .pointer (some ⟨w5.heap.size, 0, none⟩) | 17 => vq = .pointer (some ⟨gh, oi, none⟩) | 18 => vq = .pointer (some ⟨gh, oi, none⟩) | 19 => vq = .int .i64 x | 20 => vq = .pointer (some ⟨w5.heap.size, 1, none⟩) | 21 => vq = .int .i64 y | 22 => vq = .tuple #[.string q, .bool b] | 15 => vq = .tuple #[.string q, .bool b] | 23 => vq = .string q | 24 => vq = .bool b | 6 => vq = .string q | 7 => vq = .bool b | _ => True) (by kernel_rfl) ((Below.refl _ _).drew) (fun _ _ _ _ _ _ h => h) ?hops ?hend
      case hops =>
        simp only [List.forall_mem_cons]
        refine ⟨?o16, ?o17, ?o18, ?o19, ?o20, ?o21, ?o22, ?o15, ?o23, ?o24, ?o6, ?o7, fun _ h => by cases h⟩
        case o16 =>
          intro Q a w2 hC hV hI
          have e5 : a.eval (.tmp 5) = .pointer (some ⟨w5.heap.size, 0, none⟩) := (hI 5 (by simp [Op.operands]) (by kernel_rfl)).trans rfl
          have f5 : a.tmps.getD 5 undef = .pointer (some ⟨w5.heap.size, 0, none⟩) := e5
          have g5 : a.tmps[5]?.getD undef = .pointer (some ⟨w5.heap.size, 0, none⟩) := by rw [← Array.getD_eq_getD_getElem?]; exact e5
          refine op_val (.pointer (some ⟨w5.heap.size, 0, none⟩)) ?_ hC (Below.refl _ _) (by intro d hd; cases hd; rfl)
          (clear hV hI hC; go_simp <;> (first | rfl | simp | (rw [IntKind.wrap_i64]; omega)))
        case o17 =>
          intro Q a w2 hC hV hI
          have e16 : a.eval (.tmp 16) = .pointer (some ⟨w5.heap.size, 0, none⟩) := hV 16 (by simp [Op.operands]) (by kernel_rfl)
          have f16 : a.tmps.getD 16 undef = .pointer (some ⟨w5.heap.size, 0, none⟩) := e16
          have g16 : a.tmps[16]?.getD undef = .pointer (some ⟨w5.heap.size, 0, none⟩) := by rw [← Array.getD_eq_getD_getElem?]; exact e16
          have hK := KC.out w2 hC
          refine op_val (.pointer (some ⟨gh, oi, none⟩)) ?_ hC (Below.refl _ _) (by intro d hd; cases hd; rfl)
          (clear hV hI hC; go_simp <;> (first | rfl | simp | (rw [IntKind.wrap_i64]; omega)))
        case o18 =>
          intro Q a w2 hC hV hI
          have e17 : a.eval (.tmp 17) = .pointer (some ⟨gh, oi, none⟩) := hV 17 (by simp [Op.operands]) (by kernel_rfl)
          have f17 : a.tmps.getD 17 undef = .pointer (some ⟨gh, oi, none⟩) := e17
          have g17 : a.tmps[17]?.getD undef = .pointer (some ⟨gh, oi, none⟩) := by rw [← Array.getD_eq_getD_getElem?]; exact e17
          refine op_val (.pointer (some ⟨gh, oi, none⟩)) ?_ hC (Below.refl _ _) (by intro d hd; cases hd; rfl)
          (clear hV hI hC; go_simp <;> (first | rfl | simp | (rw [IntKind.wrap_i64]; omega)))
        case o19 =>
          intro Q a w2 hC hV hI
          have e18 : a.eval (.tmp 18) = .pointer (some ⟨gh, oi, none⟩) := hV 18 (by simp [Op.operands]) (by kernel_rfl)
          have f18 : a.tmps.getD 18 undef = .pointer (some ⟨gh, oi, none⟩) := e18
          have g18 : a.tmps[18]?.getD undef = .pointer (some ⟨gh, oi, none⟩) := by rw [← Array.getD_eq_getD_getElem?]; exact e18
          have hK := KC.out w2 hC
          refine op_val (.int .i64 x) ?_ hC (Below.refl _ _) (by intro d hd; cases hd; rfl)
          (clear hV hI hC; go_simp <;> (first | rfl | simp | (rw [IntKind.wrap_i64]; omega)))
        case o20 =>
          intro Q a w2 hC hV hI
          have e5 : a.eval (.tmp 5) = .pointer (some ⟨w5.heap.size, 0, none⟩) := (hI 5 (by simp [Op.operands]) (by kernel_rfl)).trans rfl
          have f5 : a.tmps.getD 5 undef = .pointer (some ⟨w5.heap.size, 0, none⟩) := e5
          have g5 : a.tmps[5]?.getD undef = .pointer (some ⟨w5.heap.size, 0, none⟩) := by rw [← Array.getD_eq_getD_getElem?]; exact e5
          refine op_val (.pointer (some ⟨w5.heap.size, 1, none⟩)) ?_ hC (Below.refl _ _) (by intro d hd; cases hd; rfl)
          (clear hV hI hC; go_simp <;> (first | rfl | simp | (rw [IntKind.wrap_i64]; omega)))
        case o21 =>
          intro Q a w2 hC hV hI
          have e20 : a.eval (.tmp 20) = .pointer (some ⟨w5.heap.size, 1, none⟩) := hV 20 (by simp [Op.operands]) (by kernel_rfl)
          have f20 : a.tmps.getD 20 undef = .pointer (some ⟨w5.heap.size, 1, none⟩) := e20
          have g20 : a.tmps[20]?.getD undef = .pointer (some ⟨w5.heap.size, 1, none⟩) := by rw [← Array.getD_eq_getD_getElem?]; exact e20
          have hK := KC.out w2 hC
          refine op_val (.int .i64 y) ?_ hC (Below.refl _ _) (by intro d hd; cases hd; rfl)
          (clear hV hI hC; go_simp <;> (first | rfl | simp | (rw [IntKind.wrap_i64]; omega)))
        case o22 =>
          intro Q a w2 hC hV hI
          have e19 : a.eval (.tmp 19) = .int .i64 x := hV 19 (by simp [Op.operands, Call.operands]) (by kernel_rfl)
          have f19 : a.tmps.getD 19 undef = .int .i64 x := e19
          have g19 : a.tmps[19]?.getD undef = .int .i64 x := by rw [← Array.getD_eq_getD_getElem?]; exact e19
          have e21 : a.eval (.tmp 21) = .int .i64 y := hV 21 (by simp [Op.operands, Call.operands]) (by kernel_rfl)
          have f21 : a.tmps.getD 21 undef = .int .i64 y := e21
          have g21 : a.tmps[21]?.getD undef = .int .i64 y := by rw [← Array.getD_eq_getD_getElem?]; exact e21
          refine op_call (f := 150) (args := #[.int .i64 x, .int .i64 y]) (R := fun v y => v = .tuple #[.string q, .bool b] ∧ Below w2.heap.size w2 y) ?_ ((HPy.out w2 hC).mono ?_) ?_
          · (clear hV hI hC; go_simp <;> (first | rfl | simp | (rw [IntKind.wrap_i64]; omega)))
          · rintro e y ⟨rfl, hb⟩; exact ⟨_, rfl, rfl, hb⟩
          · rintro v y ⟨rfl, hb⟩; exact ⟨hC.trans (hb.mono hC.size), hb, by intro d hd; cases hd; rfl⟩
        case o15 =>
          intro Q a w2 hC hV hI
          have e22 : a.eval (.tmp 22) = .tuple #[.string q, .bool b] := hV 22 (by simp [Op.operands]) (by kernel_rfl)
          have f22 : a.tmps.getD 22 undef = .tuple #[.string q, .bool b] := e22
          have g22 : a.tmps[22]?.getD undef = .tuple #[.string q, .bool b] := by rw [← Array.getD_eq_getD_getElem?]; exact e22
          refine op_val (.tuple #[.string q, .bool b]) ?_ hC (Below.refl _ _) (by intro d hd; cases hd; rfl)
          (clear hV hI hC; go_simp <;> (first | rfl | simp | (rw [IntKind.wrap_i64]; omega)))
        case o23 =>
          intro Q a w2 hC hV hI
          have e15 : a.eval (.tmp 15) = .tuple #[.string q, .bool b] := hV 15 (by simp [Op.operands]) (by kernel_rfl)
          have f15 : a.tmps.getD 15 undef = .tuple #[.string q, .bool b] := e15
          have g15 : a.tmps[15]?.getD undef = .tuple #[.string q, .bool b] := by rw [← Array.getD_eq_getD_getElem?]; exact e15
          refine op_val (.string q) ?_ hC (Below.refl _ _) (by intro d hd; cases hd; rfl)
          (clear hV hI hC; go_simp <;> (first | rfl | simp | (rw [IntKind.wrap_i64]; omega)))
        case o24 =>
          intro Q a w2 hC hV hI
          have e15 : a.eval (.tmp 15) = .tuple #[.string q, .bool b] := hV 15 (by simp [Op.operands]) (by kernel_rfl)
          have f15 : a.tmps.getD 15 undef = .tuple #[.string q, .bool b] := e15
          have g15 : a.tmps[15]?.getD undef = .tuple #[.string q, .bool b] := by rw [← Array.getD_eq_getD_getElem?]; exact e15
          refine op_val (.bool b) ?_ hC (Below.refl _ _) (by intro d hd; cases hd; rfl)
          (clear hV hI hC; go_simp <;> (first | rfl | simp | (rw [IntKind.wrap_i64]; omega)))
        case o6 =>
          intro Q a w2 hC hV hI
          have e23 : a.eval (.tmp 23) = .string q := hV 23 (by simp [Op.operands]) (by kernel_rfl)
          have f23 : a.tmps.getD 23 undef = .string q := e23
          have g23 : a.tmps[23]?.getD undef = .string q := by rw [← Array.getD_eq_getD_getElem?]; exact e23
          refine op_val (.string q) ?_ hC (Below.refl _ _) (by intro d hd; cases hd; rfl)
          (clear hV hI hC; go_simp <;> (first | rfl | simp | (rw [IntKind.wrap_i64]; omega)))
        case o7 =>
          intro Q a w2 hC hV hI
          have e24 : a.eval (.tmp 24) = .bool b := hV 24 (by simp [Op.operands]) (by kernel_rfl)
          have f24 : a.tmps.getD 24 undef = .bool b := e24
          have g24 : a.tmps[24]?.getD undef = .bool b := by rw [← Array.getD_eq_getD_getElem?]; exact e24
          refine op_val (.bool b) ?_ hC (Below.refl _ _) (by intro d hd; cases hd; rfl)
          (clear hV hI hC; go_simp <;> (first | rfl | simp | (rw [IntKind.wrap_i64]; omega)))
      case hend =>
        intro f w7 hC hall
        simp only [List.forall_mem_cons] at hall
        obtain ⟨h16, h17, h18, h19, h20, h21, h22, h15, h23, h24, h6, h7, _⟩ := hall
        replace h16 : f 16 = .pointer (some ⟨w5.heap.size, 0, none⟩) := h16 16 rfl
        replace h17 : f 17 = .pointer (some ⟨gh, oi, none⟩) := h17 17 rfl
        replace h18 : f 18 = .pointer (some ⟨gh, oi, none⟩) := h18 18 rfl
        replace h19 : f 19 = .int .i64 x := h19 19 rfl
        replace h20 : f 20 = .pointer (some ⟨w5.heap.size, 1, none⟩) := h20 20 rfl
        replace h21 : f 21 = .int .i64 y := h21 21 rfl
        replace h22 : f 22 = .tuple #[.string q, .bool b] := h22 22 rfl
        replace h15 : f 15 = .tuple #[.string q, .bool b] := h15 15 rfl
        replace h23 : f 23 = .string q := h23 23 rfl
        replace h24 : f 24 = .bool b := h24 24 rfl
        replace h6 : f 6 = .string q := h6 6 rfl
        replace h7 : f 7 = .bool b := h7 7 rfl
        simp only [putAll, Act.put, List.setIfInBounds_toArray, List.set_cons_succ, List.set_cons_zero, h16, h17, h18, h19, h20, h21, h22, h15, h23, h24, h6, h7]
        clear h16 h17 h18 h19 h20 h21 h22 h15 h23 h24 h6 h7
        clear KC HPy
        replace O := Lib.hid (ownB_belowK O.out hC)
        replace F := Lib.hid ((hC.block G (by have := hsz6; omega)).trans F.out)
        replace B := Lib.hid (B.out.trans (hC.mono hsz6))
        have hsz7 := B.out.size
        clear hC
        cases b with
        | false =>
          have HF2 : Hid (E = .panicked (panC 3)) := Lib.hid (by rw [HE.out, HB2.out rfl]; rfl)
          clear HE HB2 HS2 HK2
          go_wp2_with fail
          refine (demand_no 3 _).mono ?_
          rintro e w8 ⟨rfl, rfl⟩
          exact ⟨rfl, by rw [HF2.out], B.out⟩
        | true =>
          have HOk2 : Hid (octsOk (L.take (i + 1)) = true) := Lib.hid (by rw [HK2.out, HOk.out]; rfl)
          have zl : T.data.toList.length = T.size := by simp
          clear HB2 HK2
          go_wp2_with fail
          refine (demand_ok 3 _).mono ?_
          rintro e w8 ⟨rfl, rfl⟩
          go_wp2_with (at_builtin; refine Lib.wpList_append_own_string _ rfl _ _ 82 9 rfl w.heap.size 5 i0 Tryz.underlying82 Tryz.underlying9 hi0 hz0 hz1 hz2 _ _ _ rfl O.out q rfl ?pp ?pq ?pr ?_)
          case pp => simp only [maxLen]; omega
          case pq => omega
          case pr => omega
          intro v9 w9 hown hgrow hnil
          have O9 : OwnB w9 w.heap.size v9 (T.data.toList ++ q.data.toList) := textK (by simp <;> omega) hown
          rw [show T.data.toList ++ q.data.toList = (T ++ q).data.toList from by simp] at O9
          have O10 := Lib.hid O9
          have F9 := Lib.hid ((hgrow.block G (Array.getElem?_eq_some_iff.1 F.out).1 hne).trans F.out)
          have B9 : Hid (Below w.heap.size w w9) := Lib.hid (B.out.grown hgrow (by omega) (fun b hb => (World.ownsRow.lt O.out b hb).1))
          have N9 : Hid (some G ≠ v9.ownBlock) := Lib.hid (own_ne_ty O9 F9.out (by decide))
          clear hown hgrow hnil O9 O F B hne
          go_wp2_with fail
          go_roundw
          case rel => exact ⟨i + 1, by go_num, by omega, HOk2.out, by rw [HS2.out]; exact O10.out, F9.out, N9.out, B9.out⟩
          case measure => simp [intOf]; omega
    · obtain rfl : i = 10 := by omega
      have hlt2 : ¬ ((10 : Nat) : Int) < 10 := by omega
      have HR9 := HF.out.2
      rw [HOk.out] at HR9
      have HF2 : Hid (E = .returned (.string r)) := Lib.hid (by rw [HE.out, ← HR9]; rfl)
      have hc := O.out.conv
      rw [HF.out.1, show (⟨r.data.toList.toArray⟩ : ByteArray) = r from by simp] at hc
      clear HR9 HE
      go_wp2_with fail
      go_ret
      exact ⟨by rw [HF2.out]; rfl, B.out⟩
end Go.Proofs.YtcnmbolmgifgfabGreatDoor

/- The deferred function of impl.PutCard: what it does for a frame that panics with a code, and for one that returns. -/
namespace Go.Proofs.YtcnmbolmgifgfabGreatDoor
open Go.ChangeShapes Go.WideShapes Go.ChangeAt Go.RowKit

theorem put_catch (g : Nat) (c : Int) (x : ByteArray) (w : World) (hc : ¬ c = 0) (hg : g < w.heap.size) (hx : w.cell? ⟨g, 0, none⟩ = some (.string x)) (hz : w.frozen? ⟨g, 0, none⟩ = false) :
    CallsD Tryz.prog 109 #[.pointer (some ⟨g, 0, none⟩)] (.panicking [{ v := .iface 131 (.agg #[.int .i64 c]), recovered := false }]) w fun e u' w' =>
      e = .returned (.tuple #[]) ∧ u' = .panicking [{ v := .iface 131 (.agg #[.int .i64 c]), recovered := true }] ∧ ∃ w1, Below w.heap.size w w1 ∧ w' = w1.setCell ⟨g, 0, none⟩ (.string ⟨#[]⟩) := by
  refine callsD_of_wpS Tryz.func109 rfl fun c₀ cs hu => ?_
  apply wpS_seq
  apply wpS_region
  simp [wpOpsS, go_sem, recoverD, hu, Tryz.ntmps109, Exit.thenS]
  refine (cardCode_some c _).mono ?_
  rintro e w1 ⟨rfl, hb⟩
  have hx1 : w1.cell? ⟨g, 0, none⟩ = some (.string x) := (hb.cell (p := ⟨g, 0, none⟩) hg).trans hx
  have hz1 : w1.frozen? ⟨g, 0, none⟩ = false := (hb.frozen (p := ⟨g, 0, none⟩) hg).trans hz
  simp [go_sem]
  refine wpS_cond (t := true) (by simp [Act.eval, Array.replicate, hc]) ?_
  simp only [if_true]
  apply wpS_region
  simp [wpOpsS, go_sem, hx1, hz1, bodyPostS, results, Tryz.results109]
  exact ⟨w1, hb, rfl⟩
theorem put_idle (g : Nat) (w : World) :
    CallsD Tryz.prog 109 #[.pointer (some ⟨g, 0, none⟩)] .returning w fun e u' w' => e = .returned (.tuple #[]) ∧ u' = .returning ∧ Below w.heap.size w w' := by
  refine callsD_of_wpS Tryz.func109 rfl fun c₀ cs hu => ?_
  apply wpS_seq
  apply wpS_region
  simp [wpOpsS, go_sem, recoverD, hu, Tryz.ntmps109, Exit.thenS]
  refine (cardCode_nil _).mono ?_
  rintro e w1 ⟨rfl, hb⟩
  simp [go_sem]
  refine wpS_cond (t := false) (by simp [Act.eval, Array.replicate]) ?_
  simp only [Bool.false_eq_true, if_false]
  refine wpS_of_wp (wp_skip ?_)
  cases c₀
  simp_all [bodyPostS, results, Tryz.results109]
end Go.Proofs.YtcnmbolmgifgfabGreatDoor

/- A statement that draws its order, one of whose operations panics: from the same invariant. Nothing of the program is said here. -/
namespace Go.Proofs.YtcnmbolmgifgfabGreatDoor
open Go

section
variable {P : Program} {Q : Exit → Act → World → Prop}

/-- One operation, in whatever state what it looks at is there: what else the frame holds is told too. -/
def OpOkQ (P : Program) (ops : Array Oper) (C : World → Prop) (St : World → World → Prop) (V : Nat → Value → World → Prop) (a0 : Act) (Q : Exit → Act → World → Prop) (o : Oper) : Prop :=
  ∀ (a : Act) (w : World), C w → (∀ t, Operand.tmp t ∈ o.op.operands → oldB .any ops o t = false → V t (a.eval (.tmp t)) w) → (∀ t, Operand.tmp t ∈ o.op.operands → oldB .any ops o t = true → a.eval (.tmp t) = a0.eval (.tmp t)) →
    a.defers = a0.defers → a.tmps.size = a0.tmps.size → (∀ t, (∀ p ∈ ops.toList, p.dst ≠ some t) → a.tmps.getD t undef = a0.tmps.getD t undef) →
    o.wp P a w (fun a' w' => ∃ v, a' = a.put o.dst v ∧ C w' ∧ St w w' ∧ ∀ d, o.dst = some d → V d v w') Q
theorem opQ_of {ops : Array Oper} {C : World → Prop} {St : World → World → Prop} {V : Nat → Value → World → Prop} {a0 : Act} {o : Oper} (h : OpOk P ops C St V a0 o) : OpOkQ P ops C St V a0 Q o := fun a w hC hV hI _ _ _ => h Q a w hC hV hI
theorem wp_region_invQ {id : Nat} {a0 : Act} {w0 : World} {l : List Oper} (hm : P.follows .mixedOrders = true) (C : World → Prop) (St : World → World → Prop) (V : Nat → Value → World → Prop) (hB : regB .any l.toArray a0.tmps.size = true)
    (hC : C { w0 with drawn := w0.drawn + 1 }) (hV : ∀ d v w w', C w → St w w' → V d v w → V d v w') (hops : ∀ o ∈ l, OpOkQ P l.toArray C St V a0 Q o)
    (hend : ∀ (f : Nat → Value) (w : World), C w → (∀ o ∈ l, ∀ d, o.dst = some d → V d (f d) w) → Q .normal (putAll f l a0) w) : (Code.region id l.toArray true).wp P Q a0 w0 := by
  refine wp_region_any hm (wpAny_inv (RegI .any l.toArray C V a0) ?_ ?_ _ _ _ _ ?_ ?_)
  · intro listed a w hI i hi
    obtain ⟨hun, o, ho, hall⟩ := mem_ready.1 hi
    have hat := regB_at hB ho
    have hwant : Region.wanted o (yielded l.toArray a.tmps) = true := by simp [Region.wanted, hat.1]
    have hmem : o ∈ l := by
      have := Array.mem_of_getElem? ho
      simpa using this
    have hrun := hops o hmem a w hI.cls (fun t ht hin => ?_) (fun t ht hin => ?_) hI.defers hI.tsize (fun t ht => hI.old t (fun j p hp _ => ht p (by have := Array.mem_of_getElem? hp; simpa using this)))
    · unfold wpOp
      simp only [ho, hwant, if_true]
      refine .inl (Oper.wp_mono (fun a' w' h' => ?_) hrun)
      obtain ⟨v, rfl, hC', hSt, hv⟩ := h'
      have hltl : i < listed.size := by rw [hI.size]; exact (Array.getElem?_eq_some_iff.1 ho).1
      refine ⟨by simpa using hI.size, fun j p hp hl e he hb => ?_, hC', ?_, ?_, fun t ht => ?_, fun j p d hp hl hd => ?_⟩
      · have hup : ∀ k, listed.getD k false = true → (listed.setIfInBounds i true).getD k false = true := fun k hk => by
          by_cases q : k = i
          · subst q; exact set_getD_self hltl
          · rw [set_getD_ne q]; exact hk
        by_cases hj : j = i
        · subst hj
          rw [ho] at hp
          obtain rfl := Option.some.inj hp
          exact hup _ (hall e he hb)
        · rw [set_getD_ne hj] at hl
          exact hup _ (hI.clo j p hp hl e he hb)
      · cases hdst : o.dst <;> simp [Act.put, hI.defers]
      · cases hdst : o.dst <;> simp [Act.put, hI.tsize]
      · have hne : o.dst ≠ some t := ht i o ho (set_getD_self hltl)
        have h1 := hI.old t (fun j p hp hl => ht j p hp (by
          by_cases hj : j = i
          · subst hj; exact set_getD_self hltl
          · rw [set_getD_ne hj]; exact hl))
        rw [← h1]
        cases hdst : o.dst with
        | none => rfl
        | some d =>
          have hdt : d ≠ t := fun e => hne (by rw [hdst, e])
          exact getD_put_ne hdt
      · by_cases hj : j = i
        · subst hj
          rw [ho] at hp
          obtain rfl := Option.some.inj hp
          have hdl := hat.2.1 d hd
          have : (a.put o.dst v).tmps.getD d undef = v := by
            rw [hd]; simp [Act.put, Array.getD, hI.tsize, hdl]
          rw [this]
          exact hv d hd
        · have hl' : listed.getD j false = true := by rw [set_getD_ne hj] at hl; exact hl
          have hne : o.dst ≠ some d := ((hat.2.2.2 j p d hp hd).1).resolve_left (Ne.symm hj)
          have hold := hI.new j p d hp hl' hd
          have : (a.put o.dst v).tmps.getD d undef = a.tmps.getD d undef := by
            cases hdst : o.dst with
            | none => rfl
            | some d' =>
              have hdt : d' ≠ d := fun e => hne (by rw [hdst, e])
              exact getD_put_ne hdt
          rw [this]
          exact hV d _ _ _ hI.cls hSt hold
    · obtain ⟨j, p, hp, hd⟩ := oldB_f hin
      obtain ⟨e, he, hb, rfl⟩ := (hat.2.2.2 j p t hp hd).2 (by simpa using ht) hin
      exact hI.new e.on p t hp (hall e he hb) hd
    · refine hI.old t (fun j p hp hl hd => ?_)
      obtain ⟨d, hod, e, he, hb, hq⟩ := oldB_t hin hp hd
      have hel := hI.clo j p hp hl e he hb
      cases hqq : l.toArray[e.on]? with
      | none => rw [hqq] at hq; cases hq
      | some q =>
        rw [hqq] at hq
        rcases (hat.2.2.2 e.on q d hqq hq).1 with rfl | h
        · have hlt : e.on < listed.size := by rw [hI.size]; exact (Array.getElem?_eq_some_iff.1 hqq).1
          simp only [Array.getD, hlt, dif_pos] at hel hun
          rw [hel] at hun
          cases hun
        · exact h hod
  · intro listed a w hI hr
    have hal := all_listed hB hI.size hr
    have hput := putAll_facts (fun d => a.tmps.getD d undef) l a0
    have ha : a = putAll (fun d => a.tmps.getD d undef) l a0 := by
      refine act_ext (hI.defers.trans hput.1.symm) (hI.tsize.trans hput.2.1.symm) (fun t ht => ?_)
      rw [hput.2.1] at ht
      rw [hput.2.2 t ht]
      by_cases h : l.any (fun o => o.dst == some t) = true
      · rw [if_pos h]
      · rw [if_neg h]
        refine hI.old t (fun i o ho _ hd => h ?_)
        rw [List.any_eq_true]
        exact ⟨o, by have := Array.mem_of_getElem? ho; simpa using this, by rw [hd]; simp⟩
    rw [ha]
    refine hend _ w hI.cls (fun o ho d hd => ?_)
    obtain ⟨i, hi⟩ := List.mem_iff_getElem?.1 ho
    have hi' : l.toArray[i]? = some o := by simpa using hi
    exact hI.new i o d hi' (hal i (Array.getElem?_eq_some_iff.1 hi').1) hd
  · unfold openOps
    exact Nat.le_trans (List.length_filter_le _ _) (by simp)
  · refine ⟨by simp, fun j p _ hl => ?_, hC, rfl, rfl, fun t _ => rfl, fun i o d ho hl _ => ?_⟩
    · simp [Array.getD] at hl
    · simp [Array.getD] at hl
/-- A call that panics. -/
theorem op_pan {N : Act → World → Prop} {o : Oper} {a : Act} {w : World} {f : FuncId} {args : Array Value} {ch : List PanicEntry} (h : (execOp a.eval o).run P w = .ok (.enter f args) w)
    (hc : Calls P f args w fun e w' => e = .panicked ch ∧ Q (.panic ch) a w') : o.wp P a w N Q := by
  unfold Oper.wp
  rw [h]
  refine Calls.mono hc (fun e w' he => ?_)
  obtain ⟨rfl, hq⟩ := he
  exact hq
end
end Go.Proofs.YtcnmbolmgifgfabGreatDoor

/- Contract of impl.PutCard. -/
namespace Go.Proofs.YtcnmbolmgifgfabGreatDoor
open Go.ChangeShapes Go.WideShapes Go.ChangeAt Go.RowKit Go.Deep

theorem heap_newAt (w : World) (o : Obj) (g : Nat) (hg : g = w.heap.size) : (w.alloc o).heap[g]? = some o := by subst hg; exact heap_lastG w o
theorem setCell_sameP {w : World} {b : Nat} {v : Value} (h : w.cell? ⟨b, 0, none⟩ = some v) : w.setCell ⟨b, 0, none⟩ v = w := by
  have e : (w.setCell ⟨b, 0, none⟩ v).heap = w.heap := by
    unfold World.setCell
    apply Array.ext
    · simp
    · intro i h1 h2
      simp only [Array.getElem_modify]
      split
      · rename_i hbi
        subst hbi
        simp only [World.cell?, Array.getElem?_eq_getElem h2] at h
        split
        · rename_i c el fz hc
          rw [hc] at h
          simp at h
          simp only [Option.isSome_none, Bool.false_eq_true, if_false]
          rw [hc]
          congr 1
          apply Array.ext
          · simp
          · intro j g1 g2
            rw [Array.getElem_setIfInBounds]
            split
            · rename_i hj
              subst hj
              rw [Array.getElem?_eq_getElem g2] at h
              simpa using h.symm
            · rfl
        · rfl
      · rfl
  have e2 : w.setCell ⟨b, 0, none⟩ v = { w with heap := (w.setCell ⟨b, 0, none⟩ v).heap } := rfl
  rw [e2, e]
theorem nums_of {w : World} {gh : Nat} {ino mo u1 gi cn t z0 z1 ps ds : Int} {p d : ByteArray} {ty : TypeId} (h : w.heap[gh]? = some (.cells #[.int .i64 ino, .int .i64 mo, .int .i64 u1, .int .i64 gi, .int .i64 cn, .int .i64 t, .string p, .string d, .int .i64 z0, .int .i64 z1, .int .i64 ps, .int .i64 ds] ty (0, 0))) : NumsAt w gh [(z0, 6), (ino, 6), (mo, 6), (u1, 6), (gi, 6), (cn, 6), (z1, 6), (t, 11), (ps, 6), (ds, 11)] := by
  intro i x hx
  simp only [World.cell?, h]
  match i, hx with
  | 0, hx => simp [offv] at hx ⊢; simp [← hx]
  | 1, hx => simp [offv] at hx ⊢; simp [← hx]
  | 2, hx => simp [offv] at hx ⊢; simp [← hx]
  | 3, hx => simp [offv] at hx ⊢; simp [← hx]
  | 4, hx => simp [offv] at hx ⊢; simp [← hx]
  | 5, hx => simp [offv] at hx ⊢; simp [← hx]
  | 6, hx => simp [offv] at hx ⊢; simp [← hx]
  | 7, hx => simp [offv] at hx ⊢; simp [← hx]
  | 8, hx => simp [offv] at hx ⊢; simp [← hx]
  | 9, hx => simp [offv] at hx ⊢; simp [← hx]
  | i + 10, hx => simp at hx
set_option maxHeartbeats 6400000 in
set_option maxRecDepth 8000 in
theorem putCard_impl (ino mo u1 gi cn t : Int) (p d : ByteArray) (w : World) (hp : p.size ≤ 4194304) (hd : d.size ≤ 4194304) (hT : Tabs w) :
    Calls Tryz.prog 65 #[.agg #[.int .i64 ino, .int .i64 mo, .int .i64 u1, .int .i64 gi, .int .i64 cn, .int .i64 t, .string p, .string d]] w fun e w' => e = .returned (.string (cardTextv ⟨ino, mo, u1, gi, cn, t, p, d⟩)) ∧ Below w.heap.size w w' := by
  have hmf : ∀ (fn : Fn) (first cap : Array Value) (w : World), (Instr.makeFunc fn first cap).run Tryz.prog w = .ok (.func fn first cap) w := fun _ _ _ _ => rfl
  have HDg := Lib.hid (fun gh w hg hN hT => digits_any (flds ⟨ino, mo, u1, gi, cn, t, p, d⟩) gh w rfl hg hN hT)
  have HE : Hid (digE (flds ⟨ino, mo, u1, gi, cn, t, p, d⟩) = if octsOk (flds ⟨ino, mo, u1, gi, cn, t, p, d⟩) then .returned (.string (octsS (flds ⟨ino, mo, u1, gi, cn, t, p, d⟩))) else .panicked (panC 3)) := Lib.hid rfl
  have HV : Hid (cardTextv ⟨ino, mo, u1, gi, cn, t, p, d⟩ = if octsOk (flds ⟨ino, mo, u1, gi, cn, t, p, d⟩) then ⟨#[48, 55, 48, 55, 48, 55]⟩ ++ octsS (flds ⟨ino, mo, u1, gi, cn, t, p, d⟩) ++ p ++ ⟨#[0]⟩ ++ d else ⟨#[]⟩) := Lib.hid rfl
  have hle := octsS_le (flds ⟨ino, mo, u1, gi, cn, t, p, d⟩)
  have hln : (flds ⟨ino, mo, u1, gi, cn, t, p, d⟩).length = 10 := rfl
  have HNs := Lib.hid (fun (w : World) (gh : Nat) (h : w.heap[gh]? = some (.cells #[.int .i64 ino, .int .i64 mo, .int .i64 u1, .int .i64 gi, .int .i64 cn, .int .i64 t, .string p, .string d, .int .i64 0, .int .i64 0, .int .i64 ((p.size : Int) + 1), .int .i64 (d.size : Int)] 124 (0, 0))) => nums_of (w := w) (gh := gh) h)
  have HT := Lib.hid hT
  generalize cardTextv ⟨ino, mo, u1, gi, cn, t, p, d⟩ = r at HV
  generalize digE (flds ⟨ino, mo, u1, gi, cn, t, p, d⟩) = E at HDg HE
  generalize octsOk (flds ⟨ino, mo, u1, gi, cn, t, p, d⟩) = ok at HV HE
  generalize octsS (flds ⟨ino, mo, u1, gi, cn, t, p, d⟩) = rs at HV HE hle
  have hos : rs.size ≤ 200 := by omega
  clear hln hle hT
  go_enter_defers Tryz.func65, Tryz.ntmps65
  go_upto_region 3 with fail
  generalize hw1 : World.alloc (World.alloc (World.alloc w _) _) _ = w1
  have XC : Hid (CardO w1 w.heap.size ⟨ino, mo, u1, gi, cn, t, p, d⟩) := Lib.hid (by rw [← hw1]; exact (CardO.new w ⟨ino, mo, u1, gi, cn, t, p, d⟩).below (B := w.heap.size + 1) (((Below.refl _ _).alloc (by simp) _).alloc (by simp) _) (by omega))
  have XT : Hid (w1.heap[w.heap.size + 1]? = some (.cells #[.string ⟨#[]⟩] 9 (0, 0))) := Lib.hid (by rw [← hw1]; exact (((Below.refl _ _).alloc (Nat.le_refl _) _).block (w.heap.size + 1) (by simp)).trans (heap_newAt _ _ _ (by simp)))
  have XH : Hid (w1.heap[w.heap.size + 1 + 1]? = some (.cells #[.int .i64 ino, .int .i64 mo, .int .i64 u1, .int .i64 gi, .int .i64 cn, .int .i64 t, .string p, .string d, .int .i64 0, .int .i64 0, .int .i64 ((p.size : Int) + 1), .int .i64 (d.size : Int)] 124 (0, 0))) := Lib.hid (by rw [← hw1]; exact heap_newAt _ _ _ (by simp))
  have B1 : Hid (Below w.heap.size w w1) := Lib.hid (by rw [← hw1]; exact (((Below.refl _ _).alloc (Nat.le_refl _) _).alloc (by simp) _).alloc (by simp; omega) _)
  have hs1 : w1.heap.size = w.heap.size + 3 := by rw [← hw1]; simp
  clear hw1
  have HD := Lib.hid (fun w' (hb : Below w1.heap.size w1 w') => HDg.out (w.heap.size + 1 + 1) w' (by have := hb.size; omega) (HNs.out w' _ ((hb.block _ (by omega)).trans XH.out)) (HT.out.below (B1.out.trans (hb.mono (by omega)))))
  clear HDg HNs HT XH
  cases ok with
  | false =>
    have HF : Hid (r = ⟨#[]⟩) := Lib.hid (by rw [HV.out]; rfl)
    rw [show E = .panicked (panC 3) from by rw [HE.out]; rfl] at HD
    clear HV HE
    have KC : Hid (∀ w', Below w1.heap.size w1 w' → w'.cell? ⟨w.heap.size, 6, none⟩ = some (.string p) ∧ w'.cell? ⟨w.heap.size, 7, none⟩ = some (.string d)) := Lib.hid (fun w' hb => by
      obtain ⟨k0, k1, k2, k3, k4, k5, k6, k7⟩ := (XC.out.below hb (by omega)).at.zero
      exact ⟨k6, k7⟩)
    refine wp_region_invQ (by kernel_rfl) (fun w' => Below w1.heap.size w1 w') (fun x y => Below x.heap.size x y) (fun dq vq _ => match dq with | 16 => vq = .pointer (some ⟨w.heap.size, 6, none⟩) | 17 => vq = .string p | 20 => vq = .pointer (some ⟨w.heap.size, 7, none⟩) | 21 => vq = .string d | 14 => False | 15 => False | 18 => False | 19 => False | 22 => False | _ => True) (by kernel_rfl) ((Below.refl _ _).drew) (fun _ _ _ _ _ _ h => h) ?hopsp ?hendp
    case hopsp =>
      simp only [List.forall_mem_cons]
      refine ⟨?p14, ?p15, ?p16, ?p17, ?p18, ?p19, ?p20, ?p21, ?p22, ?pst, fun _ h => by cases h⟩
      case p14 =>
        intro a w2 hC hV hI hd hsz hold
        have e3 : a.eval (.tmp 3) = .pointer (some ⟨w.heap.size + 1 + 1, 0, none⟩) := (hI 3 (by simp [Op.operands, Call.operands]) (by kernel_rfl)).trans rfl
        have f3 : a.tmps.getD 3 undef = .pointer (some ⟨w.heap.size + 1 + 1, 0, none⟩) := e3
        have g3 : a.tmps[3]?.getD undef = .pointer (some ⟨w.heap.size + 1 + 1, 0, none⟩) := by rw [← Array.getD_eq_getD_getElem?]; exact e3
        have t2 : a.tmps.getD 2 undef = .pointer (some ⟨w.heap.size + 1, 0, none⟩) := (hold 2 (by simp)).trans rfl
        have t2b : a.tmps[2]?.getD undef = .pointer (some ⟨w.heap.size + 1, 0, none⟩) := by rw [← Array.getD_eq_getD_getElem?]; exact t2
        refine op_pan (f := 110) (args := #[.pointer (some ⟨w.heap.size + 1 + 1, 0, none⟩)]) (ch := panC 3) ?_ ((HD.out w2 hC).mono ?_)
        · (clear hV hI hC hold hd t2 t2b; go_simp <;> (first | rfl | simp))
        · rintro e y ⟨rfl, hb⟩
          refine ⟨rfl, ?_⟩
          have hx : y.cell? ⟨w.heap.size + 1, 0, none⟩ = some (.string ⟨#[]⟩) := by
            have h9 := (hb.block (w.heap.size + 1) (by have := hC.size; omega)).trans ((hC.block (w.heap.size + 1) (by omega)).trans XT.out)
            simp [World.cell?, h9]
          have hz : y.frozen? ⟨w.heap.size + 1, 0, none⟩ = false := by
            have h9 := (hb.block (w.heap.size + 1) (by have := hC.size; omega)).trans ((hC.block (w.heap.size + 1) (by omega)).trans XT.out)
            simp [World.frozen?, h9]
          have By := B1.out.trans ((hC.trans (hb.mono hC.size)).mono (by omega))
          have hys := By.size
          have hlt : w.heap.size + 1 < y.heap.size := by have := hb.size; have := hC.size; omega
          show Leaves Tryz.prog _ a.tmps _ a.defers (.panicking (panC 3)) y
          rw [hd]
          refine leaves_cons (f := 109) (args := #[.pointer (some ⟨w.heap.size + 1, 0, none⟩)]) (by simp) (by simp [go_sem]) ?_
          refine (put_catch (w.heap.size + 1) 3 ⟨#[]⟩ _ (by decide) hlt hx hz).mono ?_
          rintro e u' w3 ⟨rfl, rfl, w4, hb4, rfl⟩
          have hx4 : w4.cell? ⟨w.heap.size + 1, 0, none⟩ = some (.string ⟨#[]⟩) := (hb4.cell (p := ⟨w.heap.size + 1, 0, none⟩) hlt).trans hx
          have B4 : Below w.heap.size w (w4.setCell ⟨w.heap.size + 1, 0, none⟩ (.string ⟨#[]⟩)) := (By.trans (hb4.mono hys)).setCell (p := ⟨w.heap.size + 1, 0, none⟩) (by simp) _
          rw [setCell_sameP hx4] at B4 ⊢
          simp [Leaves, settle, results, Tryz.results65, go_sem, t2b, hx4, HF.out]
          exact B4
      case p15 =>
        intro a w2 hC hV hI hd hsz hold
        exact (show False from hV 14 (by simp [Op.operands]) (by kernel_rfl)).elim
      case p16 =>
        refine opQ_of ?_
        intro Q a w2 hC hV hI
        have e1 : a.eval (.tmp 1) = .pointer (some ⟨w.heap.size, 0, none⟩) := (hI 1 (by simp [Op.operands]) (by kernel_rfl)).trans rfl
        have f1 : a.tmps.getD 1 undef = .pointer (some ⟨w.heap.size, 0, none⟩) := e1
        have g1 : a.tmps[1]?.getD undef = .pointer (some ⟨w.heap.size, 0, none⟩) := by rw [← Array.getD_eq_getD_getElem?]; exact e1
        refine op_val (.pointer (some ⟨w.heap.size, 6, none⟩)) ?_ hC (Below.refl _ _) (by intro d hd; cases hd; exact rfl)
        (clear hV hI hC; go_simp <;> (first | rfl | simp))
      case p17 =>
        refine opQ_of ?_
        intro Q a w2 hC hV hI
        have e16 : a.eval (.tmp 16) = .pointer (some ⟨w.heap.size, 6, none⟩) := hV 16 (by simp [Op.operands]) (by kernel_rfl)
        have f16 : a.tmps.getD 16 undef = .pointer (some ⟨w.heap.size, 6, none⟩) := e16
        have g16 : a.tmps[16]?.getD undef = .pointer (some ⟨w.heap.size, 6, none⟩) := by rw [← Array.getD_eq_getD_getElem?]; exact e16
        have hK := KC.out w2 hC
        refine op_val (.string p) ?_ hC (Below.refl _ _) (by intro d hd; cases hd; exact rfl)
        (clear hV hI hC; go_simp <;> (first | rfl | simp))
      case p18 =>
        intro a w2 hC hV hI hd hsz hold
        exact (show False from hV 15 (by simp [Op.operands]) (by kernel_rfl)).elim
      case p19 =>
        intro a w2 hC hV hI hd hsz hold
        exact (show False from hV 18 (by simp [Op.operands]) (by kernel_rfl)).elim
      case p20 =>
        refine opQ_of ?_
        intro Q a w2 hC hV hI
        have e1 : a.eval (.tmp 1) = .pointer (some ⟨w.heap.size, 0, none⟩) := (hI 1 (by simp [Op.operands]) (by kernel_rfl)).trans rfl
        have f1 : a.tmps.getD 1 undef = .pointer (some ⟨w.heap.size, 0, none⟩) := e1
        have g1 : a.tmps[1]?.getD undef = .pointer (some ⟨w.heap.size, 0, none⟩) := by rw [← Array.getD_eq_getD_getElem?]; exact e1
        refine op_val (.pointer (some ⟨w.heap.size, 7, none⟩)) ?_ hC (Below.refl _ _) (by intro d hd; cases hd; exact rfl)
        (clear hV hI hC; go_simp <;> (first | rfl | simp))
      case p21 =>
        refine opQ_of ?_
        intro Q a w2 hC hV hI
        have e20 : a.eval (.tmp 20) = .pointer (some ⟨w.heap.size, 7, none⟩) := hV 20 (by simp [Op.operands]) (by kernel_rfl)
        have f20 : a.tmps.getD 20 undef = .pointer (some ⟨w.heap.size, 7, none⟩) := e20
        have g20 : a.tmps[20]?.getD undef = .pointer (some ⟨w.heap.size, 7, none⟩) := by rw [← Array.getD_eq_getD_getElem?]; exact e20
        have hK := KC.out w2 hC
        refine op_val (.string d) ?_ hC (Below.refl _ _) (by intro d hd; cases hd; exact rfl)
        (clear hV hI hC; go_simp <;> (first | rfl | simp))
      case p22 =>
        intro a w2 hC hV hI hd hsz hold
        exact (show False from hV 19 (by simp [Op.operands]) (by kernel_rfl)).elim
      case pst =>
        intro a w2 hC hV hI hd hsz hold
        exact (show False from hV 22 (by simp [Op.operands]) (by kernel_rfl)).elim
    case hendp =>
      intro f w2 hC hall
      simp only [List.forall_mem_cons] at hall
      exact (show False from hall.1 14 rfl).elim
  | true =>
    have HF : Hid (r = ⟨#[48, 55, 48, 55, 48, 55]⟩ ++ rs ++ p ++ ⟨#[0]⟩ ++ d) := Lib.hid (by rw [HV.out]; rfl)
    rw [show E = .returned (.string rs) from by rw [HE.out]; rfl] at HD
    clear HV HE
    have z6 : (⟨#[48, 55, 48, 55, 48, 55]⟩ : ByteArray).size = 6 := rfl
    have z1 : (⟨#[0]⟩ : ByteArray).size = 1 := rfl
    have KC : Hid (∀ w', Below w1.heap.size w1 w' → w'.cell? ⟨w.heap.size, 6, none⟩ = some (.string p) ∧ w'.cell? ⟨w.heap.size, 7, none⟩ = some (.string d)) := Lib.hid (fun w' hb => by
      obtain ⟨k0, k1, k2, k3, k4, k5, k6, k7⟩ := (XC.out.below hb (by omega)).at.zero
      exact ⟨k6, k7⟩)

    obtain ⟨x15, hx15⟩ : ∃ x : ByteArray, x = ⟨#[48, 55, 48, 55, 48, 55]⟩ ++ rs := ⟨_, rfl⟩
    obtain ⟨x18, hx18⟩ : ∃ x : ByteArray, x = x15 ++ p := ⟨_, rfl⟩
    obtain ⟨x19, hx19⟩ : ∃ x : ByteArray, x = x18 ++ ⟨#[0]⟩ := ⟨_, rfl⟩
    obtain ⟨x22, hx22⟩ : ∃ x : ByteArray, x = x19 ++ d := ⟨_, rfl⟩
    have zx15 : x15.size ≤ 206 := by rw [hx15, ByteArray.size_append]; omega
    have zx18 : x18.size ≤ 4194510 := by rw [hx18, ByteArray.size_append]; omega
    have zx19 : x19.size ≤ 4194511 := by rw [hx19, ByteArray.size_append]; omega
    have zx22 : x22.size ≤ 8388815 := by rw [hx22, ByteArray.size_append]; omega
    have HA15 : Hid (∀ w, (Op.stringOp .add ⟨#[48, 55, 48, 55, 48, 55]⟩ rs).run Tryz.prog w = .ok (.string x15) w) := Lib.hid (fun w => by rw [hx15]; exact run_string_add_sum w _ _ (by omega))
    have HA18 : Hid (∀ w, (Op.stringOp .add x15 p).run Tryz.prog w = .ok (.string x18) w) := Lib.hid (fun w => by rw [hx18]; exact run_string_add_sum w _ _ (by omega))
    have HA19 : Hid (∀ w, (Op.stringOp .add x18 ⟨#[0]⟩).run Tryz.prog w = .ok (.string x19) w) := Lib.hid (fun w => by rw [hx19]; exact run_string_add_sum w _ _ (by omega))
    have HA22 : Hid (∀ w, (Op.stringOp .add x19 d).run Tryz.prog w = .ok (.string x22) w) := Lib.hid (fun w => by rw [hx22]; exact run_string_add_sum w _ _ (by omega))
    have HX15 := Lib.hid hx15
    have HX18 := Lib.hid hx18
    have HX19 := Lib.hid hx19
    have HX22 := Lib.hid hx22
    clear hx15 hx18 hx19 hx22
    refine wp_region_cut 9 (by kernel_rfl) (fun w' => Below w1.heap.size w1 w') (fun x y => Below x.heap.size x y) (fun dq vq _ => match dq with | 14 => vq = .string rs | 15 => vq = .string x15 | 16 => vq = .pointer (some ⟨w.heap.size, 6, none⟩) | 17 => vq = .string p | 18 => vq = .string x18 | 19 => vq = .string x19 | 20 => vq = .pointer (some ⟨w.heap.size, 7, none⟩) | 21 => vq = .string d | 22 => vq = .string x22 | _ => True) (by kernel_rfl) (by kernel_rfl) ((Below.refl _ _).drew) (fun _ _ _ _ _ _ h => h) (by simp) ?hops ?hend
    case hops =>
      simp only [List.take_succ_cons, List.take_zero, List.forall_mem_cons]
      refine ⟨?o14, ?o15, ?o16, ?o17, ?o18, ?o19, ?o20, ?o21, ?o22, fun _ h => by cases h⟩
      case o14 =>
        intro Q a w2 hC hV hI
        have e3 : a.eval (.tmp 3) = .pointer (some ⟨w.heap.size + 1 + 1, 0, none⟩) := (hI 3 (by simp [Op.operands, Call.operands]) (by kernel_rfl)).trans rfl
        have f3 : a.tmps.getD 3 undef = .pointer (some ⟨w.heap.size + 1 + 1, 0, none⟩) := e3
        have g3 : a.tmps[3]?.getD undef = .pointer (some ⟨w.heap.size + 1 + 1, 0, none⟩) := by rw [← Array.getD_eq_getD_getElem?]; exact e3
        refine op_call (f := 110) (args := #[.pointer (some ⟨w.heap.size + 1 + 1, 0, none⟩)]) (R := fun v y => v = .string rs ∧ Below w2.heap.size w2 y) ?_ ((HD.out w2 hC).mono ?_) ?_
        · (clear hV hI hC; go_simp <;> (first | rfl | simp | (rw [IntKind.wrap_i64]; omega)))
        · rintro e y ⟨rfl, hb⟩; exact ⟨_, rfl, rfl, hb⟩
        · rintro v y ⟨rfl, hb⟩; exact ⟨hC.trans (hb.mono hC.size), hb, by intro d hd; cases hd; rfl⟩
      case o15 =>
        intro Q a w2 hC hV hI
        have e14 : a.eval (.tmp 14) = .string rs := hV 14 (by simp [Op.operands]) (by kernel_rfl)
        have f14 : a.tmps.getD 14 undef = .string rs := e14
        have g14 : a.tmps[14]?.getD undef = .string rs := by rw [← Array.getD_eq_getD_getElem?]; exact e14
        refine op_val (.string x15) ?_ hC (Below.refl _ _) (by intro d hd; cases hd; rfl)
        have q := HA15.out w2
        (clear hV hI hC; go_simp <;> (first | rfl | simp | (rw [IntKind.wrap_i64]; omega)))
      case o16 =>
        intro Q a w2 hC hV hI
        have e1 : a.eval (.tmp 1) = .pointer (some ⟨w.heap.size, 0, none⟩) := (hI 1 (by simp [Op.operands]) (by kernel_rfl)).trans rfl
        have f1 : a.tmps.getD 1 undef = .pointer (some ⟨w.heap.size, 0, none⟩) := e1
        have g1 : a.tmps[1]?.getD undef = .pointer (some ⟨w.heap.size, 0, none⟩) := by rw [← Array.getD_eq_getD_getElem?]; exact e1
        refine op_val (.pointer (some ⟨w.heap.size, 6, none⟩)) ?_ hC (Below.refl _ _) (by intro d hd; cases hd; rfl)
        (clear hV hI hC; go_simp <;> (first | rfl | simp | (rw [IntKind.wrap_i64]; omega)))
      case o17 =>
        intro Q a w2 hC hV hI
        have e16 : a.eval (.tmp 16) = .pointer (some ⟨w.heap.size, 6, none⟩) := hV 16 (by simp [Op.operands]) (by kernel_rfl)
        have f16 : a.tmps.getD 16 undef = .pointer (some ⟨w.heap.size, 6, none⟩) := e16
        have g16 : a.tmps[16]?.getD undef = .pointer (some ⟨w.heap.size, 6, none⟩) := by rw [← Array.getD_eq_getD_getElem?]; exact e16
        have hK := KC.out w2 hC
        refine op_val (.string p) ?_ hC (Below.refl _ _) (by intro d hd; cases hd; rfl)
        (clear hV hI hC; go_simp <;> (first | rfl | simp | (rw [IntKind.wrap_i64]; omega)))
      case o18 =>
        intro Q a w2 hC hV hI
        have e15 : a.eval (.tmp 15) = .string x15 := hV 15 (by simp [Op.operands]) (by kernel_rfl)
        have f15 : a.tmps.getD 15 undef = .string x15 := e15
        have g15 : a.tmps[15]?.getD undef = .string x15 := by rw [← Array.getD_eq_getD_getElem?]; exact e15
        have e17 : a.eval (.tmp 17) = .string p := hV 17 (by simp [Op.operands]) (by kernel_rfl)
        have f17 : a.tmps.getD 17 undef = .string p := e17
        have g17 : a.tmps[17]?.getD undef = .string p := by rw [← Array.getD_eq_getD_getElem?]; exact e17
        refine op_val (.string x18) ?_ hC (Below.refl _ _) (by intro d hd; cases hd; rfl)
        have q := HA18.out w2
        (clear hV hI hC; go_simp <;> (first | rfl | simp | (rw [IntKind.wrap_i64]; omega)))
      case o19 =>
        intro Q a w2 hC hV hI
        have e18 : a.eval (.tmp 18) = .string x18 := hV 18 (by simp [Op.operands]) (by kernel_rfl)
        have f18 : a.tmps.getD 18 undef = .string x18 := e18
        have g18 : a.tmps[18]?.getD undef = .string x18 := by rw [← Array.getD_eq_getD_getElem?]; exact e18
        refine op_val (.string x19) ?_ hC (Below.refl _ _) (by intro d hd; cases hd; rfl)
        have q := HA19.out w2
        (clear hV hI hC; go_simp <;> (first | rfl | simp | (rw [IntKind.wrap_i64]; omega)))
      case o20 =>
        intro Q a w2 hC hV hI
        have e1 : a.eval (.tmp 1) = .pointer (some ⟨w.heap.size, 0, none⟩) := (hI 1 (by simp [Op.operands]) (by kernel_rfl)).trans rfl
        have f1 : a.tmps.getD 1 undef = .pointer (some ⟨w.heap.size, 0, none⟩) := e1
        have g1 : a.tmps[1]?.getD undef = .pointer (some ⟨w.heap.size, 0, none⟩) := by rw [← Array.getD_eq_getD_getElem?]; exact e1
        refine op_val (.pointer (some ⟨w.heap.size, 7, none⟩)) ?_ hC (Below.refl _ _) (by intro d hd; cases hd; rfl)
        (clear hV hI hC; go_simp <;> (first | rfl | simp | (rw [IntKind.wrap_i64]; omega)))
      case o21 =>
        intro Q a w2 hC hV hI
        have e20 : a.eval (.tmp 20) = .pointer (some ⟨w.heap.size, 7, none⟩) := hV 20 (by simp [Op.operands]) (by kernel_rfl)
        have f20 : a.tmps.getD 20 undef = .pointer (some ⟨w.heap.size, 7, none⟩) := e20
        have g20 : a.tmps[20]?.getD undef = .pointer (some ⟨w.heap.size, 7, none⟩) := by rw [← Array.getD_eq_getD_getElem?]; exact e20
        have hK := KC.out w2 hC
        refine op_val (.string d) ?_ hC (Below.refl _ _) (by intro d hd; cases hd; rfl)
        (clear hV hI hC; go_simp <;> (first | rfl | simp | (rw [IntKind.wrap_i64]; omega)))
      case o22 =>
        intro Q a w2 hC hV hI
        have e19 : a.eval (.tmp 19) = .string x19 := hV 19 (by simp [Op.operands]) (by kernel_rfl)
        have f19 : a.tmps.getD 19 undef = .string x19 := e19
        have g19 : a.tmps[19]?.getD undef = .string x19 := by rw [← Array.getD_eq_getD_getElem?]; exact e19
        have e21 : a.eval (.tmp 21) = .string d := hV 21 (by simp [Op.operands]) (by kernel_rfl)
        have f21 : a.tmps.getD 21 undef = .string d := e21
        have g21 : a.tmps[21]?.getD undef = .string d := by rw [← Array.getD_eq_getD_getElem?]; exact e21
        refine op_val (.string x22) ?_ hC (Below.refl _ _) (by intro d hd; cases hd; rfl)
        have q := HA22.out w2
        (clear hV hI hC; go_simp <;> (first | rfl | simp | (rw [IntKind.wrap_i64]; omega)))
    case hend =>
      intro f w2 hC hall
      clear HA15 HA18 HA19 HA22
      simp only [List.take_succ_cons, List.take_zero, List.drop_succ_cons, List.drop_zero] at hall ⊢
      simp only [List.forall_mem_cons] at hall
      obtain ⟨h14, h15, h16, h17, h18, h19, h20, h21, h22, _⟩ := hall
      replace h14 : f 14 = .string rs := h14 14 rfl
      replace h15 : f 15 = .string x15 := h15 15 rfl
      replace h16 : f 16 = .pointer (some ⟨w.heap.size, 6, none⟩) := h16 16 rfl
      replace h17 : f 17 = .string p := h17 17 rfl
      replace h18 : f 18 = .string x18 := h18 18 rfl
      replace h19 : f 19 = .string x19 := h19 19 rfl
      replace h20 : f 20 = .pointer (some ⟨w.heap.size, 7, none⟩) := h20 20 rfl
      replace h21 : f 21 = .string d := h21 21 rfl
      replace h22 : f 22 = .string x22 := h22 22 rfl
      simp only [putAll, Act.put, List.setIfInBounds_toArray, List.set_cons_succ, List.set_cons_zero, h14, h15, h16, h17, h18, h19, h20, h21, h22]
      clear h14 h15 h16 h17 h18 h19 h20 h21 h22
      have XT2 := (hC.block (w.heap.size + 1) (by omega)).trans XT.out
      have hx : w2.cell? ⟨w.heap.size + 1, 0, none⟩ = some (.string ⟨#[]⟩) := by simp [World.cell?, XT2]
      have hz : w2.frozen? ⟨w.heap.size + 1, 0, none⟩ = false := by simp [World.frozen?, XT2]
      have B2 := B1.out.trans (hC.mono (by omega))
      have hlt2 : w.heap.size + 1 < w2.heap.size := by have := hC.size; omega
      have HX : Hid (r = x22) := Lib.hid (by rw [HF.out, HX22.out, HX19.out, HX18.out, HX15.out])
      clear KC hC XT2
      go_wp2
      refine leaves_cons (f := 109) (args := #[.pointer (some ⟨w.heap.size + 1, 0, none⟩)]) (by simp) (by simp [go_sem]) ?_
      refine (put_idle (w.heap.size + 1) _).mono ?_
      rintro e u' w3 ⟨rfl, rfl, hb⟩
      have hx3 : w3.cell? ⟨w.heap.size + 1, 0, none⟩ = some (.string x22) := (hb.cell (p := ⟨w.heap.size + 1, 0, none⟩) (by first | exact hlt2 | simpa using hlt2)).trans (by first | exact World.cell?_setCell_same hx _ | exact World.cell?_setCell_same _ _ _ hx | simp [go_sem, hx])
      have B3 : Below w.heap.size w w3 := (B2.setCell (p := ⟨w.heap.size + 1, 0, none⟩) (by simp) _).trans (hb.mono (by first | exact B2.size | simpa using B2.size))
      simp [Leaves, settle, results, Tryz.results65, go_sem, hx3, HX.out]
      exact B3
end Go.Proofs.YtcnmbolmgifgfabGreatDoor

/- Contract of impl.Find (slices.IndexFunc with a function that holds the path). -/
namespace Go.Proofs.YtcnmbolmgifgfabGreatDoor
open Go.ChangeShapes Go.WideShapes Go.ChangeAt Go.RowKit Go.Deep Go.Shelf

theorem findPred (k : Int) (q l : ByteArray) (m u g t : Int) (us gr b : ByteArray) (p : ByteArray) (B : Nat) (w : World) (hB : B < w.heap.size) (hc : w.cell? ⟨B, 0, none⟩ = some (.string p)) :
    Calls Tryz.prog 183 #[.agg #[.int .i64 k, .string q, .string l, .int .i64 m, .int .i64 u, .int .i64 g, .int .i64 t, .string us, .string gr, .string b], .pointer (some ⟨B, 0, none⟩)] w fun e w' => e = .returned (.bool (q.toList == p.toList)) ∧ Below w.heap.size w w' := by
  have hne : B ≠ w.heap.size := by omega
  go_enter Tryz.func183, Tryz.ntmps183
  go_wp2
  all_goals (go_ret; exact ⟨by simp_all, (Below.refl _ w).alloc (Nat.le_refl _) _⟩)
theorem findIndex (L : List Ent) (p : ByteArray) (n g cap B : Nat) (w : World) (hn : n = L.length) (hm : n ≤ 4194304) (hg : g < w.heap.size) (h1 : RowE w g L) (hB : B < w.heap.size) (hc : w.cell? ⟨B, 0, none⟩ = some (.string p)) :
    Calls Tryz.prog 182 #[.slice (some ⟨g, 0, none⟩) n cap, .func (.func 183) #[] #[.pointer (some ⟨B, 0, none⟩)]] w fun e w' => e = .returned (.int .i64 (findv L p)) ∧ Below w.heap.size w w' := by
  have H1 := Lib.hid h1
  have HC := Lib.hid hc
  have HP := Lib.hid (fun k q l m u g t us gr b w hB hc => findPred k q l m u g t us gr b p B w hB hc)
  have HG : Hid (∀ i, i < n → ∃ e, L[i]? = some e) := Lib.hid (fun i hi => getE' (by omega))
  have HE : Hid (∀ i, n ≤ i → findFrom (L.drop i) p i = -1) := Lib.hid (fun i hi => findFrom_end L p i (by omega))
  have HD : Hid (findv L p = findFrom (L.drop 0) p 0) := Lib.hid rfl
  have eg : ∀ args w, (callFunc 183 args).run Tryz.prog w = .ok (.enter 183 args) w := enters_of Tryz.func183 (by kernel_rfl) rfl
  generalize findv L p = r at HD
  clear h1 hn hc
  go_enter Tryz.func182, Tryz.ntmps182
  go_wp2_with fail
  go_loopw [5, 8] (fun _ u wr => ∃ i : Nat, u = .int .i64 i ∧ i ≤ n ∧ r = findFrom (L.drop i) p i ∧ Below w.heap.size w wr) (fun _ u _ => n - (intOf u).toNat)
  case atStart => exact ⟨0, rfl, Nat.zero_le _, HD.out, Below.refl _ _⟩
  case round =>
    obtain ⟨i, rfl, hi, hr, hb⟩ := hrel
    have HR := Lib.hid hr
    have B := Lib.hid hb
    clear hr hb
    by_cases hlt : i < n
    · have hlt2 : (i : Int) < (n : Int) := by omega
      obtain ⟨e, he⟩ := HG.out i hlt
      have HN := Lib.hid (findFrom_drop L p i he)
      obtain ⟨c0, c1, c2, c3, c4, c5, c6, c7, c8, c9⟩ := (H1.out.below B.out hg).ten he
      clear he
      obtain ⟨k, q, l, m, u, g0, t, us, gr, b⟩ := e
      have hcall := HP.out k q l m u g0 t us gr b wr (Nat.lt_of_lt_of_le hB B.out.size) ((B.out.cell (p := ⟨_, 0, none⟩) hB).trans HC.out)
      by_cases hq : q = p
      · rw [baE_eq hq] at hcall
        have HF : Hid (r = i) := Lib.hid (by rw [HR.out, HN.out, if_pos hq])
        clear hq HN HR
        go_wp2_with (go_at_fn 183; refine hcall.mono ?_; rintro e w' ⟨rfl, hb'⟩)
        go_ret
        exact ⟨ret_int HF.out.symm, btE B.out hb'⟩
      · rw [baE_ne hq] at hcall
        have HF : Hid (r = findFrom (L.drop (i + 1)) p (i + 1)) := Lib.hid (by rw [HR.out, HN.out, if_neg hq])
        clear hq HN HR
        go_wp2_with (go_at_fn 183; refine hcall.mono ?_; rintro e w' ⟨rfl, hb'⟩)
        go_roundw
        case rel => exact ⟨i + 1, by go_num, by omega, HF.out, btE B.out hb'⟩
        case measure => simp [intOf]; omega
    · have hlt2 : ¬ (i : Int) < (n : Int) := by omega
      have HF : Hid (r = -1) := Lib.hid (by rw [HR.out, HE.out i (by omega)])
      go_wp2_with fail
      go_ret
      exact ⟨ret_int HF.out.symm, B.out⟩
theorem find_impl (L : List Ent) (p : ByteArray) (n g cap : Nat) (w : World) (hn : n = L.length) (hm : n ≤ 4194304) (hg : g < w.heap.size) (h1 : RowE w g L) :
    Calls Tryz.prog 148 #[.slice (some ⟨g, 0, none⟩) n cap, .string p] w fun e w' => e = .returned (.int .i64 (findv L p)) ∧ Below w.heap.size w w' := by
  have b0 : Below w.heap.size w (w.alloc (.cells #[.string p] 9)) := (Below.refl _ w).alloc (Nat.le_refl _) _
  have hcon := findIndex L p n g cap w.heap.size (w.alloc (.cells #[.string p] 9)) hn hm (by simp; omega) (h1.below b0 hg) (by simp) (by simp)
  have B0 := Lib.hid b0
  clear h1 hn b0
  generalize findv L p = r at hcon
  go_enter Tryz.func148, Tryz.ntmps148
  go_wp2_with (go_at_call 182; refine hcon.mono ?_; rintro e w' ⟨rfl, hb'⟩)
  go_ret
  exact ⟨rfl, btE B0.out hb'⟩
end Go.Proofs.YtcnmbolmgifgfabGreatDoor

/- Contract of strings.Clone: the same bytes. -/
namespace Go.Proofs.YtcnmbolmgifgfabGreatDoor
open Go.ChangeShapes Go.WideShapes Go.ChangeAt Go.RowKit

theorem clone_any (s : ByteArray) (w : World) (hs : s.size ≤ 281474976710656) :
    Calls Tryz.prog 125 #[.string s] w fun e w' => e = .returned (.string s) ∧ Below w.heap.size w w' := by
  go_enter Tryz.func125, Tryz.ntmps125
  go_wp2_with (go_at_call 159; refine (Tryz.stringslite_Clone _ _ hs).mono ?_; rintro e w' ⟨rfl, hb⟩)
  go_ret
  exact ⟨rfl, hb⟩
end Go.Proofs.YtcnmbolmgifgfabGreatDoor

/- Contracts of impl.inode and impl.cardOf. -/
namespace Go.Proofs.YtcnmbolmgifgfabGreatDoor
open Go.ChangeShapes Go.WideShapes Go.ChangeAt Go.RowKit Go.Deep

theorem find_bds2 (L : List Ent) (p : ByteArray) : -1 ≤ findv L p ∧ findv L p ≤ L.length := by
  rcases find_cases L p with h | ⟨a, e, h, he, _⟩
  · omega
  · have := (List.getElem?_eq_some_iff.1 he).1
    omega
set_option maxHeartbeats 1600000 in
theorem ino_impl (L : List Ent) (i : Nat) (e : Ent) (n g cap : Nat) (w : World) (he : L[i]? = some e) (hn : n = L.length) (hm : n ≤ 4194304) (hg : g < w.heap.size) (h1 : RowE w g L) :
    Calls Tryz.prog 107 #[.slice (some ⟨g, 0, none⟩) n cap, .int .i64 i] w fun e' w' => e' = .returned (.int .i64 (inov L i e)) ∧ Below w.heap.size w w' := by
  have hlt : i < n := by rw [hn]; exact (List.getElem?_eq_some_iff.1 he).1
  have hlt2 : (i : Int) < (n : Int) := by omega
  have H1 := Lib.hid (find_impl L e.link n g cap w hn hm hg h1)
  have HB := find_bds2 L e.link
  have HI : Hid (inov L i e = if e.kind = 3 then findv L e.link + 1 else (i : Int) + 1) := Lib.hid rfl
  obtain ⟨c0, c1, c2, c3, c4, c5, c6, c7, c8, c9⟩ := h1.ten he
  generalize inov L i e = r at HI
  generalize findv L e.link = f at H1 HI HB
  clear h1 he c1 c3 c4 c5 c6 c7 c8 c9
  obtain ⟨k, p, l, m, u, g0, t, us, gr, b⟩ := e
  by_cases hk : k = 3
  · subst hk
    have HF : Hid (r = f + 1) := Lib.hid (by rw [HI.out, if_pos rfl])
    have hb0 : f ≤ 4194304 := by omega
    have hb1 : -1 ≤ f := by omega
    clear HI HB hn
    go_enter Tryz.func107, Tryz.ntmps107
    go_wp2_with fail
    refine H1.out.mono ?_
    rintro e w1 ⟨rfl, hb⟩
    have B := Lib.hid hb
    clear hb
    go_wp2_with fail
    go_ret
    exact ⟨by rw [HF.out]; go_num, B.out⟩
  · have hk2 : (k == 3) = false := by simpa using hk
    have HF : Hid (r = (i : Int) + 1) := Lib.hid (by rw [HI.out, if_neg hk])
    clear HI HB hk hn
    go_enter Tryz.func107, Tryz.ntmps107
    go_wp2_with fail
    go_ret
    exact ⟨by rw [HF.out]; go_num, Below.refl _ _⟩
set_option maxHeartbeats 3200000 in
set_option maxRecDepth 8000 in
theorem cardOf_dir (p l : ByteArray) (m u1 gi t : Int) (us gr b : ByteArray) (ino : Int) (w : World) (hp : p.size ≤ 4194304) (hm0 : 0 ≤ m) (hm1 : m ≤ 4095) :
    Calls Tryz.prog 106 #[.agg #[.int .i64 1, .string p, .string l, .int .i64 m, .int .i64 u1, .int .i64 gi, .int .i64 t, .string us, .string gr, .string b], .int .i64 ino] w fun e w' => e = .returned (.agg #[.int .i64 ino, .int .i64 (m + 16384), .int .i64 u1, .int .i64 gi, .int .i64 0, .int .i64 t, .string p, .string ⟨#[]⟩]) ∧ Below w.heap.size w w' := by
  have HC := Lib.hid (fun w => clone_any p w (by omega))
  go_enter Tryz.func106, Tryz.ntmps106
  go_upto_region 1 with fail
  generalize hw1 : World.alloc (World.alloc w _) _ = w1
  have EO : Hid (EntO w1 w.heap.size ⟨1, p, l, m, u1, gi, t, us, gr, b⟩) := Lib.hid (by rw [← hw1]; exact (EntO.new w ⟨1, p, l, m, u1, gi, t, us, gr, b⟩).below (B := w.heap.size + 1) ((Below.refl _ _).alloc (by simp) _) (by omega))
  have RO : Hid (CardO w1 (w.heap.size + 1) zeroC) := Lib.hid (by rw [← hw1]; exact CardO.newAt (w.alloc (.cells (Ent.cells ⟨1, p, l, m, u1, gi, t, us, gr, b⟩).toArray 45)) zeroC _ (by simp))
  have B0 : Hid (Below w.heap.size w w1) := Lib.hid (by rw [← hw1]; exact ((Below.refl _ _).alloc (Nat.le_refl _) _).alloc (by simp) _)
  have hs1 : w1.heap.size = w.heap.size + 2 := by rw [← hw1]; simp
  clear hw1
  have KC : Hid (∀ w', Below w1.heap.size w1 w' → w'.cell? ⟨w.heap.size, 1, none⟩ = some (.string p) ∧ w'.cell? ⟨w.heap.size, 3, none⟩ = some (.int .i64 m) ∧ w'.cell? ⟨w.heap.size, 4, none⟩ = some (.int .i64 u1) ∧ w'.cell? ⟨w.heap.size, 5, none⟩ = some (.int .i64 gi) ∧ w'.cell? ⟨w.heap.size, 6, none⟩ = some (.int .i64 t)) := Lib.hid (fun w' hb => by
    obtain ⟨d0, d1, d2, d3, d4, d5, d6, d7, d8, d9⟩ := (EO.out.below hb (by omega)).at.zero
    exact ⟨d1, d3, d4, d5, d6⟩)
  refine wp_region_cut 14 (by kernel_rfl) (fun w' => Below w1.heap.size w1 w') (fun x y => Below x.heap.size x y) (vBxG 5 48 w1.heap.size #[.int .i64 0, .int .i64 0, .int .i64 0, .int .i64 0, .int .i64 0, .int .i64 0, .string ⟨#[]⟩, .string ⟨#[]⟩] (fun d v => match d with | 6 => v = .int .i64 ino | 7 => v = .pointer (some ⟨w.heap.size, 3, none⟩) | 8 => v = .int .i64 m | 9 => v = .pointer (some ⟨w.heap.size, 4, none⟩) | 10 => v = .int .i64 u1 | 11 => v = .pointer (some ⟨w.heap.size, 5, none⟩) | 12 => v = .int .i64 gi | 13 => v = .pointer (some ⟨w.heap.size, 6, none⟩) | 14 => v = .int .i64 t | 15 => v = .pointer (some ⟨w.heap.size, 1, none⟩) | 16 => v = .string p | 17 => v = .string p | 18 => v = .agg #[.int .i64 ino, .int .i64 m, .int .i64 u1, .int .i64 gi, .int .i64 0, .int .i64 t, .string p, .string ⟨#[]⟩] | _ => True)) (by kernel_rfl) (by kernel_rfl) ((Below.refl _ _).drew) (vBxG_keep _ _ _ _ _) (by simp) ?hops ?hend
  case hops =>
    simp only [List.take_succ_cons, List.take_zero, List.forall_mem_cons]
    refine ⟨?o6, ?o7, ?o8, ?o9, ?o10, ?o11, ?o12, ?o13, ?o14, ?o15, ?o16, ?o17, ?o18, ?o5, fun _ h => by cases h⟩
    case o6 =>
      intro Q a w2 hC hV hI
      have e1 : a.eval (.tmp 1) = .int .i64 ino := (hI 1 (by simp [Op.operands]) (by kernel_rfl)).trans rfl
      have f1 : a.tmps.getD 1 undef = .int .i64 ino := e1
      have g1 : a.tmps[1]?.getD undef = .int .i64 ino := by rw [← Array.getD_eq_getD_getElem?]; exact e1
      refine op_val (.int .i64 ino) ?_ hC (Below.refl _ _) (by intro d hd; cases hd; exact rfl)
      (clear hV hI hC; go_simp <;> (first | rfl | simp | (rw [IntKind.wrap_i64]; omega)))
    case o7 =>
      intro Q a w2 hC hV hI
      have e2 : a.eval (.tmp 2) = .pointer (some ⟨w.heap.size, 0, none⟩) := (hI 2 (by simp [Op.operands]) (by kernel_rfl)).trans rfl
      have f2 : a.tmps.getD 2 undef = .pointer (some ⟨w.heap.size, 0, none⟩) := e2
      have g2 : a.tmps[2]?.getD undef = .pointer (some ⟨w.heap.size, 0, none⟩) := by rw [← Array.getD_eq_getD_getElem?]; exact e2
      refine op_val (.pointer (some ⟨w.heap.size, 3, none⟩)) ?_ hC (Below.refl _ _) (by intro d hd; cases hd; exact rfl)
      (clear hV hI hC; go_simp <;> (first | rfl | simp | (rw [IntKind.wrap_i64]; omega)))
    case o8 =>
      intro Q a w2 hC hV hI
      have e7 : a.eval (.tmp 7) = .pointer (some ⟨w.heap.size, 3, none⟩) := hV 7 (by simp [Op.operands]) (by kernel_rfl)
      have f7 : a.tmps.getD 7 undef = .pointer (some ⟨w.heap.size, 3, none⟩) := e7
      have g7 : a.tmps[7]?.getD undef = .pointer (some ⟨w.heap.size, 3, none⟩) := by rw [← Array.getD_eq_getD_getElem?]; exact e7
      have hK := KC.out w2 hC
      refine op_val (.int .i64 m) ?_ hC (Below.refl _ _) (by intro d hd; cases hd; exact rfl)
      (clear hV hI hC; go_simp <;> (first | rfl | simp | (rw [IntKind.wrap_i64]; omega)))
    case o9 =>
      intro Q a w2 hC hV hI
      have e2 : a.eval (.tmp 2) = .pointer (some ⟨w.heap.size, 0, none⟩) := (hI 2 (by simp [Op.operands]) (by kernel_rfl)).trans rfl
      have f2 : a.tmps.getD 2 undef = .pointer (some ⟨w.heap.size, 0, none⟩) := e2
      have g2 : a.tmps[2]?.getD undef = .pointer (some ⟨w.heap.size, 0, none⟩) := by rw [← Array.getD_eq_getD_getElem?]; exact e2
      refine op_val (.pointer (some ⟨w.heap.size, 4, none⟩)) ?_ hC (Below.refl _ _) (by intro d hd; cases hd; exact rfl)
      (clear hV hI hC; go_simp <;> (first | rfl | simp | (rw [IntKind.wrap_i64]; omega)))
    case o10 =>
      intro Q a w2 hC hV hI
      have e9 : a.eval (.tmp 9) = .pointer (some ⟨w.heap.size, 4, none⟩) := hV 9 (by simp [Op.operands]) (by kernel_rfl)
      have f9 : a.tmps.getD 9 undef = .pointer (some ⟨w.heap.size, 4, none⟩) := e9
      have g9 : a.tmps[9]?.getD undef = .pointer (some ⟨w.heap.size, 4, none⟩) := by rw [← Array.getD_eq_getD_getElem?]; exact e9
      have hK := KC.out w2 hC
      refine op_val (.int .i64 u1) ?_ hC (Below.refl _ _) (by intro d hd; cases hd; exact rfl)
      (clear hV hI hC; go_simp <;> (first | rfl | simp | (rw [IntKind.wrap_i64]; omega)))
    case o11 =>
      intro Q a w2 hC hV hI
      have e2 : a.eval (.tmp 2) = .pointer (some ⟨w.heap.size, 0, none⟩) := (hI 2 (by simp [Op.operands]) (by kernel_rfl)).trans rfl
      have f2 : a.tmps.getD 2 undef = .pointer (some ⟨w.heap.size, 0, none⟩) := e2
      have g2 : a.tmps[2]?.getD undef = .pointer (some ⟨w.heap.size, 0, none⟩) := by rw [← Array.getD_eq_getD_getElem?]; exact e2
      refine op_val (.pointer (some ⟨w.heap.size, 5, none⟩)) ?_ hC (Below.refl _ _) (by intro d hd; cases hd; exact rfl)
      (clear hV hI hC; go_simp <;> (first | rfl | simp | (rw [IntKind.wrap_i64]; omega)))
    case o12 =>
      intro Q a w2 hC hV hI
      have e11 : a.eval (.tmp 11) = .pointer (some ⟨w.heap.size, 5, none⟩) := hV 11 (by simp [Op.operands]) (by kernel_rfl)
      have f11 : a.tmps.getD 11 undef = .pointer (some ⟨w.heap.size, 5, none⟩) := e11
      have g11 : a.tmps[11]?.getD undef = .pointer (some ⟨w.heap.size, 5, none⟩) := by rw [← Array.getD_eq_getD_getElem?]; exact e11
      have hK := KC.out w2 hC
      refine op_val (.int .i64 gi) ?_ hC (Below.refl _ _) (by intro d hd; cases hd; exact rfl)
      (clear hV hI hC; go_simp <;> (first | rfl | simp | (rw [IntKind.wrap_i64]; omega)))
    case o13 =>
      intro Q a w2 hC hV hI
      have e2 : a.eval (.tmp 2) = .pointer (some ⟨w.heap.size, 0, none⟩) := (hI 2 (by simp [Op.operands]) (by kernel_rfl)).trans rfl
      have f2 : a.tmps.getD 2 undef = .pointer (some ⟨w.heap.size, 0, none⟩) := e2
      have g2 : a.tmps[2]?.getD undef = .pointer (some ⟨w.heap.size, 0, none⟩) := by rw [← Array.getD_eq_getD_getElem?]; exact e2
      refine op_val (.pointer (some ⟨w.heap.size, 6, none⟩)) ?_ hC (Below.refl _ _) (by intro d hd; cases hd; exact rfl)
      (clear hV hI hC; go_simp <;> (first | rfl | simp | (rw [IntKind.wrap_i64]; omega)))
    case o14 =>
      intro Q a w2 hC hV hI
      have e13 : a.eval (.tmp 13) = .pointer (some ⟨w.heap.size, 6, none⟩) := hV 13 (by simp [Op.operands]) (by kernel_rfl)
      have f13 : a.tmps.getD 13 undef = .pointer (some ⟨w.heap.size, 6, none⟩) := e13
      have g13 : a.tmps[13]?.getD undef = .pointer (some ⟨w.heap.size, 6, none⟩) := by rw [← Array.getD_eq_getD_getElem?]; exact e13
      have hK := KC.out w2 hC
      refine op_val (.int .i64 t) ?_ hC (Below.refl _ _) (by intro d hd; cases hd; exact rfl)
      (clear hV hI hC; go_simp <;> (first | rfl | simp | (rw [IntKind.wrap_i64]; omega)))
    case o15 =>
      intro Q a w2 hC hV hI
      have e2 : a.eval (.tmp 2) = .pointer (some ⟨w.heap.size, 0, none⟩) := (hI 2 (by simp [Op.operands]) (by kernel_rfl)).trans rfl
      have f2 : a.tmps.getD 2 undef = .pointer (some ⟨w.heap.size, 0, none⟩) := e2
      have g2 : a.tmps[2]?.getD undef = .pointer (some ⟨w.heap.size, 0, none⟩) := by rw [← Array.getD_eq_getD_getElem?]; exact e2
      refine op_val (.pointer (some ⟨w.heap.size, 1, none⟩)) ?_ hC (Below.refl _ _) (by intro d hd; cases hd; exact rfl)
      (clear hV hI hC; go_simp <;> (first | rfl | simp | (rw [IntKind.wrap_i64]; omega)))
    case o16 =>
      intro Q a w2 hC hV hI
      have e15 : a.eval (.tmp 15) = .pointer (some ⟨w.heap.size, 1, none⟩) := hV 15 (by simp [Op.operands]) (by kernel_rfl)
      have f15 : a.tmps.getD 15 undef = .pointer (some ⟨w.heap.size, 1, none⟩) := e15
      have g15 : a.tmps[15]?.getD undef = .pointer (some ⟨w.heap.size, 1, none⟩) := by rw [← Array.getD_eq_getD_getElem?]; exact e15
      have hK := KC.out w2 hC
      refine op_val (.string p) ?_ hC (Below.refl _ _) (by intro d hd; cases hd; exact rfl)
      (clear hV hI hC; go_simp <;> (first | rfl | simp | (rw [IntKind.wrap_i64]; omega)))
    case o17 =>
      intro Q a w2 hC hV hI
      have e16 : a.eval (.tmp 16) = .string p := hV 16 (by simp [Op.operands, Call.operands]) (by kernel_rfl)
      have f16 : a.tmps.getD 16 undef = .string p := e16
      have g16 : a.tmps[16]?.getD undef = .string p := by rw [← Array.getD_eq_getD_getElem?]; exact e16
      refine op_call (f := 125) (args := #[.string p]) (R := fun v y => v = .string p ∧ Below w2.heap.size w2 y) ?_ ((HC.out w2).mono ?_) ?_
      · (clear hV hI hC; go_simp <;> (first | rfl | simp | (rw [IntKind.wrap_i64]; omega)))
      · rintro e y ⟨rfl, hb⟩; exact ⟨_, rfl, rfl, hb⟩
      · rintro v y ⟨rfl, hb⟩; exact ⟨hC.trans (hb.mono hC.size), hb, by intro d hd; cases hd; exact rfl⟩
    case o18 =>
      intro Q a w2 hC hV hI
      have e6 : a.eval (.tmp 6) = .int .i64 ino := hV 6 (by simp [Op.operands]) (by kernel_rfl)
      have f6 : a.tmps.getD 6 undef = .int .i64 ino := e6
      have g6 : a.tmps[6]?.getD undef = .int .i64 ino := by rw [← Array.getD_eq_getD_getElem?]; exact e6
      have e8 : a.eval (.tmp 8) = .int .i64 m := hV 8 (by simp [Op.operands]) (by kernel_rfl)
      have f8 : a.tmps.getD 8 undef = .int .i64 m := e8
      have g8 : a.tmps[8]?.getD undef = .int .i64 m := by rw [← Array.getD_eq_getD_getElem?]; exact e8
      have e10 : a.eval (.tmp 10) = .int .i64 u1 := hV 10 (by simp [Op.operands]) (by kernel_rfl)
      have f10 : a.tmps.getD 10 undef = .int .i64 u1 := e10
      have g10 : a.tmps[10]?.getD undef = .int .i64 u1 := by rw [← Array.getD_eq_getD_getElem?]; exact e10
      have e12 : a.eval (.tmp 12) = .int .i64 gi := hV 12 (by simp [Op.operands]) (by kernel_rfl)
      have f12 : a.tmps.getD 12 undef = .int .i64 gi := e12
      have g12 : a.tmps[12]?.getD undef = .int .i64 gi := by rw [← Array.getD_eq_getD_getElem?]; exact e12
      have e14 : a.eval (.tmp 14) = .int .i64 t := hV 14 (by simp [Op.operands]) (by kernel_rfl)
      have f14 : a.tmps.getD 14 undef = .int .i64 t := e14
      have g14 : a.tmps[14]?.getD undef = .int .i64 t := by rw [← Array.getD_eq_getD_getElem?]; exact e14
      have e17 : a.eval (.tmp 17) = .string p := hV 17 (by simp [Op.operands]) (by kernel_rfl)
      have f17 : a.tmps.getD 17 undef = .string p := e17
      have g17 : a.tmps[17]?.getD undef = .string p := by rw [← Array.getD_eq_getD_getElem?]; exact e17
      refine op_val (.agg #[.int .i64 ino, .int .i64 m, .int .i64 u1, .int .i64 gi, .int .i64 0, .int .i64 t, .string p, .string ⟨#[]⟩]) ?_ hC (Below.refl _ _) (by intro d hd; cases hd; exact rfl)
      (clear hV hI hC; go_simp <;> (first | rfl | simp | (rw [IntKind.wrap_i64]; omega)))
    case o5 =>
      intro Q a w2 hC hV hI
      refine op_val (.pointer (some ⟨w2.heap.size, 0, none⟩)) (w' := w2.alloc (.cells #[.int .i64 0, .int .i64 0, .int .i64 0, .int .i64 0, .int .i64 0, .int .i64 0, .string ⟨#[]⟩, .string ⟨#[]⟩] 48)) ?_ (hC.alloc hC.size _) ((Below.refl _ _).alloc (Nat.le_refl _) _) ?_
      · (clear hV hI hC; go_simp <;> (first | rfl | simp | (rw [IntKind.wrap_i64]; omega)))
      · intro d hd; cases hd; exact ⟨w2.heap.size, rfl, hC.size, heap_lastG _ _⟩
  case hend =>
    intro f w2 hC hall
    simp only [List.take_succ_cons, List.take_zero, List.drop_succ_cons, List.drop_zero] at hall ⊢
    simp only [List.forall_mem_cons] at hall
    obtain ⟨h6, h7, h8, h9, h10, h11, h12, h13, h14, h15, h16, h17, h18, h5, _⟩ := hall
    replace h6 : f 6 = .int .i64 ino := h6 6 rfl
    replace h7 : f 7 = .pointer (some ⟨w.heap.size, 3, none⟩) := h7 7 rfl
    replace h8 : f 8 = .int .i64 m := h8 8 rfl
    replace h9 : f 9 = .pointer (some ⟨w.heap.size, 4, none⟩) := h9 9 rfl
    replace h10 : f 10 = .int .i64 u1 := h10 10 rfl
    replace h11 : f 11 = .pointer (some ⟨w.heap.size, 5, none⟩) := h11 11 rfl
    replace h12 : f 12 = .int .i64 gi := h12 12 rfl
    replace h13 : f 13 = .pointer (some ⟨w.heap.size, 6, none⟩) := h13 13 rfl
    replace h14 : f 14 = .int .i64 t := h14 14 rfl
    replace h15 : f 15 = .pointer (some ⟨w.heap.size, 1, none⟩) := h15 15 rfl
    replace h16 : f 16 = .string p := h16 16 rfl
    replace h17 : f 17 = .string p := h17 17 rfl
    replace h18 : f 18 = .agg #[.int .i64 ino, .int .i64 m, .int .i64 u1, .int .i64 gi, .int .i64 0, .int .i64 t, .string p, .string ⟨#[]⟩] := h18 18 rfl
    obtain ⟨G5, hG5, hGB5, hGO5⟩ : ∃ G, f 5 = .pointer (some ⟨G, 0, none⟩) ∧ w1.heap.size ≤ G ∧ w2.heap[G]? = some (.cells #[.int .i64 0, .int .i64 0, .int .i64 0, .int .i64 0, .int .i64 0, .int .i64 0, .string ⟨#[]⟩, .string ⟨#[]⟩] 48 (0, 0)) := h5 5 rfl
    simp only [putAll, Act.put, List.setIfInBounds_toArray, List.set_cons_succ, List.set_cons_zero, h6, h7, h8, h9, h10, h11, h12, h13, h14, h15, h16, h17, h18, hG5]
    clear h6 h7 h8 h9 h10 h11 h12 h13 h14 h15 h16 h17 h18 hG5 h5
    clear KC
    replace EO := Lib.hid (EO.out.below hC (by omega))
    replace RO := Lib.hid (RO.out.below hC (by omega))
    have hB2 := btE B0.out (hC.mono (Nat.le_refl _))
    have XO : CardO w2 G5 zeroC := hGO5
    have hne0 : ¬ w.heap.size = G5 := by omega
    have hne1 : ¬ w.heap.size + 1 = G5 := by omega
    have hlt5 : w.heap.size ≤ G5 := by omega
    obtain ⟨d0, d1, d2, d3, d4, d5, d6, d7⟩ := XO.at.zero
    have f0 := XO.fz 0
    have f1 := XO.fz 1
    have f2 := XO.fz 2
    have f3 := XO.fz 3
    have f4 := XO.fz 4
    have f5 := XO.fz 5
    have f6 := XO.fz 6
    have f7 := XO.fz 7
    have XP := XO.put ⟨ino, m, u1, gi, 0, t, p, ⟨#[]⟩⟩
    have EP : EntO (putOC w2 G5 ⟨ino, m, u1, gi, 0, t, p, ⟨#[]⟩⟩) w.heap.size ⟨1, p, l, m, u1, gi, t, us, gr, b⟩ := (putOC_other hne0).trans EO.out
    have RP : CardO (putOC w2 G5 ⟨ino, m, u1, gi, 0, t, p, ⟨#[]⟩⟩) (w.heap.size + 1) zeroC := (putOC_other hne1).trans RO.out
    have BP := below_putOC (g := G5) hB2 hlt5 ⟨ino, m, u1, gi, 0, t, p, ⟨#[]⟩⟩
    simp only [putOC] at XP EP RP BP
    go_upto_region 2 with fail
    obtain ⟨w3, hw3⟩ : ∃ x, x = ((((((((w2.setCell ⟨G5, 0, none⟩ (.int .i64 ino)).setCell ⟨G5, 1, none⟩ (.int .i64 m)).setCell ⟨G5, 2, none⟩ (.int .i64 u1)).setCell ⟨G5, 3, none⟩ (.int .i64 gi)).setCell ⟨G5, 4, none⟩ (.int .i64 0)).setCell ⟨G5, 5, none⟩ (.int .i64 t)).setCell ⟨G5, 6, none⟩ (.string p)).setCell ⟨G5, 7, none⟩ (.string ⟨#[]⟩)) := ⟨_, rfl⟩
    rw [← hw3] at XP EP RP BP ⊢
    have X := Lib.hid XP
    have R := Lib.hid RP
    have Bw := Lib.hid BP
    obtain ⟨e0, e1, e2, e3, e4, e5, e6, e7, e8, e9⟩ := EP.at.zero
    clear XP RP BP hw3 d0 d1 d2 d3 d4 d5 d6 d7 f0 f1 f2 f3 f4 f5 f6 f7 XO hGO5 hB2 EO RO
    obtain ⟨d0, d1, d2, d3, d4, d5, d6, d7⟩ := X.out.at.zero
    have f1 := X.out.fz 1
    have XP := X.out.set (e' := ⟨ino, m + 16384, u1, gi, 0, t, p, ⟨#[]⟩⟩) 1 (.int .i64 (m + 16384)) rfl
    have RP : CardO (w3.setCell ⟨G5, 1, none⟩ (.int .i64 (m + 16384))) (w.heap.size + 1) zeroC := R.out.other hne1
    have EP2 : EntO (w3.setCell ⟨G5, 1, none⟩ (.int .i64 (m + 16384))) w.heap.size ⟨1, p, l, m, u1, gi, t, us, gr, b⟩ := EP.other hne0
    have BP := Bw.out.setCell (p := ⟨G5, 1, none⟩) hlt5 (.int .i64 (m + 16384))
    go_upto_region 10 with fail
    obtain ⟨w6, hw6⟩ : ∃ x, x = w3.setCell ⟨G5, 1, none⟩ (.int .i64 (m + 16384)) := ⟨_, rfl⟩
    rw [← hw6] at XP RP BP EP2 ⊢
    clear hw6 EP2 e0 e1 e2 e3 e4 e5 e6 e7 e8 e9 d0 d1 d2 d3 d4 d5 d6 d7 f1 EP X R Bw
    obtain ⟨x0, x1, x2, x3, x4, x5, x6, x7⟩ := XP.at.zero
    obtain ⟨d0, d1, d2, d3, d4, d5, d6, d7⟩ := RP.at.zero
    have f0 := RP.fz 0
    have f1 := RP.fz 1
    have f2 := RP.fz 2
    have f3 := RP.fz 3
    have f4 := RP.fz 4
    have f5 := RP.fz 5
    have f6 := RP.fz 6
    have f7 := RP.fz 7
    have R9 := RP.put ⟨ino, m + 16384, u1, gi, 0, t, p, ⟨#[]⟩⟩
    have B9 := below_putOC (g := w.heap.size + 1) BP (by omega) ⟨ino, m + 16384, u1, gi, 0, t, p, ⟨#[]⟩⟩
    simp only [putOC] at R9 B9
    go_wp2_with fail
    refine bodyPost_ret (res_OC1 rfl _ rfl R9) rfl ?_
    exact ⟨rfl, B9⟩
set_option maxHeartbeats 3200000 in
set_option maxRecDepth 8000 in
theorem cardOf_sym (p l : ByteArray) (m u1 gi t : Int) (us gr b : ByteArray) (ino : Int) (w : World) (hp : p.size ≤ 4194304) (hl : l.size ≤ 4194304) (hm0 : 0 ≤ m) (hm1 : m ≤ 4095) :
    Calls Tryz.prog 106 #[.agg #[.int .i64 2, .string p, .string l, .int .i64 m, .int .i64 u1, .int .i64 gi, .int .i64 t, .string us, .string gr, .string b], .int .i64 ino] w fun e w' => e = .returned (.agg #[.int .i64 ino, .int .i64 (m + 40960), .int .i64 u1, .int .i64 gi, .int .i64 0, .int .i64 t, .string p, .string l]) ∧ Below w.heap.size w w' := by
  have HC := Lib.hid (fun w => clone_any p w (by omega))
  have HD := Lib.hid (fun w => clone_any l w (by omega))
  go_enter Tryz.func106, Tryz.ntmps106
  go_upto_region 1 with fail
  generalize hw1 : World.alloc (World.alloc w _) _ = w1
  have EO : Hid (EntO w1 w.heap.size ⟨2, p, l, m, u1, gi, t, us, gr, b⟩) := Lib.hid (by rw [← hw1]; exact (EntO.new w ⟨2, p, l, m, u1, gi, t, us, gr, b⟩).below (B := w.heap.size + 1) ((Below.refl _ _).alloc (by simp) _) (by omega))
  have RO : Hid (CardO w1 (w.heap.size + 1) zeroC) := Lib.hid (by rw [← hw1]; exact CardO.newAt (w.alloc (.cells (Ent.cells ⟨2, p, l, m, u1, gi, t, us, gr, b⟩).toArray 45)) zeroC _ (by simp))
  have B0 : Hid (Below w.heap.size w w1) := Lib.hid (by rw [← hw1]; exact ((Below.refl _ _).alloc (Nat.le_refl _) _).alloc (by simp) _)
  have hs1 : w1.heap.size = w.heap.size + 2 := by rw [← hw1]; simp
  clear hw1
  have KC : Hid (∀ w', Below w1.heap.size w1 w' → w'.cell? ⟨w.heap.size, 1, none⟩ = some (.string p) ∧ w'.cell? ⟨w.heap.size, 3, none⟩ = some (.int .i64 m) ∧ w'.cell? ⟨w.heap.size, 4, none⟩ = some (.int .i64 u1) ∧ w'.cell? ⟨w.heap.size, 5, none⟩ = some (.int .i64 gi) ∧ w'.cell? ⟨w.heap.size, 6, none⟩ = some (.int .i64 t)) := Lib.hid (fun w' hb => by
    obtain ⟨d0, d1, d2, d3, d4, d5, d6, d7, d8, d9⟩ := (EO.out.below hb (by omega)).at.zero
    exact ⟨d1, d3, d4, d5, d6⟩)
  refine wp_region_cut 14 (by kernel_rfl) (fun w' => Below w1.heap.size w1 w') (fun x y => Below x.heap.size x y) (vBxG 5 48 w1.heap.size #[.int .i64 0, .int .i64 0, .int .i64 0, .int .i64 0, .int .i64 0, .int .i64 0, .string ⟨#[]⟩, .string ⟨#[]⟩] (fun d v => match d with | 6 => v = .int .i64 ino | 7 => v = .pointer (some ⟨w.heap.size, 3, none⟩) | 8 => v = .int .i64 m | 9 => v = .pointer (some ⟨w.heap.size, 4, none⟩) | 10 => v = .int .i64 u1 | 11 => v = .pointer (some ⟨w.heap.size, 5, none⟩) | 12 => v = .int .i64 gi | 13 => v = .pointer (some ⟨w.heap.size, 6, none⟩) | 14 => v = .int .i64 t | 15 => v = .pointer (some ⟨w.heap.size, 1, none⟩) | 16 => v = .string p | 17 => v = .string p | 18 => v = .agg #[.int .i64 ino, .int .i64 m, .int .i64 u1, .int .i64 gi, .int .i64 0, .int .i64 t, .string p, .string ⟨#[]⟩] | _ => True)) (by kernel_rfl) (by kernel_rfl) ((Below.refl _ _).drew) (vBxG_keep _ _ _ _ _) (by simp) ?hops ?hend
  case hops =>
    simp only [List.take_succ_cons, List.take_zero, List.forall_mem_cons]
    refine ⟨?o6, ?o7, ?o8, ?o9, ?o10, ?o11, ?o12, ?o13, ?o14, ?o15, ?o16, ?o17, ?o18, ?o5, fun _ h => by cases h⟩
    case o6 =>
      intro Q a w2 hC hV hI
      have e1 : a.eval (.tmp 1) = .int .i64 ino := (hI 1 (by simp [Op.operands]) (by kernel_rfl)).trans rfl
      have f1 : a.tmps.getD 1 undef = .int .i64 ino := e1
      have g1 : a.tmps[1]?.getD undef = .int .i64 ino := by rw [← Array.getD_eq_getD_getElem?]; exact e1
      refine op_val (.int .i64 ino) ?_ hC (Below.refl _ _) (by intro d hd; cases hd; exact rfl)
      (clear hV hI hC; go_simp <;> (first | rfl | simp | (rw [IntKind.wrap_i64]; omega)))
    case o7 =>
      intro Q a w2 hC hV hI
      have e2 : a.eval (.tmp 2) = .pointer (some ⟨w.heap.size, 0, none⟩) := (hI 2 (by simp [Op.operands]) (by kernel_rfl)).trans rfl
      have f2 : a.tmps.getD 2 undef = .pointer (some ⟨w.heap.size, 0, none⟩) := e2
      have g2 : a.tmps[2]?.getD undef = .pointer (some ⟨w.heap.size, 0, none⟩) := by rw [← Array.getD_eq_getD_getElem?]; exact e2
      refine op_val (.pointer (some ⟨w.heap.size, 3, none⟩)) ?_ hC (Below.refl _ _) (by intro d hd; cases hd; exact rfl)
      (clear hV hI hC; go_simp <;> (first | rfl | simp | (rw [IntKind.wrap_i64]; omega)))
    case o8 =>
      intro Q a w2 hC hV hI
      have e7 : a.eval (.tmp 7) = .pointer (some ⟨w.heap.size, 3, none⟩) := hV 7 (by simp [Op.operands]) (by kernel_rfl)
      have f7 : a.tmps.getD 7 undef = .pointer (some ⟨w.heap.size, 3, none⟩) := e7
      have g7 : a.tmps[7]?.getD undef = .pointer (some ⟨w.heap.size, 3, none⟩) := by rw [← Array.getD_eq_getD_getElem?]; exact e7
      have hK := KC.out w2 hC
      refine op_val (.int .i64 m) ?_ hC (Below.refl _ _) (by intro d hd; cases hd; exact rfl)
      (clear hV hI hC; go_simp <;> (first | rfl | simp | (rw [IntKind.wrap_i64]; omega)))
    case o9 =>
      intro Q a w2 hC hV hI
      have e2 : a.eval (.tmp 2) = .pointer (some ⟨w.heap.size, 0, none⟩) := (hI 2 (by simp [Op.operands]) (by kernel_rfl)).trans rfl
      have f2 : a.tmps.getD 2 undef = .pointer (some ⟨w.heap.size, 0, none⟩) := e2
      have g2 : a.tmps[2]?.getD undef = .pointer (some ⟨w.heap.size, 0, none⟩) := by rw [← Array.getD_eq_getD_getElem?]; exact e2
      refine op_val (.pointer (some ⟨w.heap.size, 4, none⟩)) ?_ hC (Below.refl _ _) (by intro d hd; cases hd; exact rfl)
      (clear hV hI hC; go_simp <;> (first | rfl | simp | (rw [IntKind.wrap_i64]; omega)))
    case o10 =>
      intro Q a w2 hC hV hI
      have e9 : a.eval (.tmp 9) = .pointer (some ⟨w.heap.size, 4, none⟩) := hV 9 (by simp [Op.operands]) (by kernel_rfl)
      have f9 : a.tmps.getD 9 undef = .pointer (some ⟨w.heap.size, 4, none⟩) := e9
      have g9 : a.tmps[9]?.getD undef = .pointer (some ⟨w.heap.size, 4, none⟩) := by rw [← Array.getD_eq_getD_getElem?]; exact e9
      have hK := KC.out w2 hC
      refine op_val (.int .i64 u1) ?_ hC (Below.refl _ _) (by intro d hd; cases hd; exact rfl)
      (clear hV hI hC; go_simp <;> (first | rfl | simp | (rw [IntKind.wrap_i64]; omega)))
    case o11 =>
      intro Q a w2 hC hV hI
      have e2 : a.eval (.tmp 2) = .pointer (some ⟨w.heap.size, 0, none⟩) := (hI 2 (by simp [Op.operands]) (by kernel_rfl)).trans rfl
      have f2 : a.tmps.getD 2 undef = .pointer (some ⟨w.heap.size, 0, none⟩) := e2
      have g2 : a.tmps[2]?.getD undef = .pointer (some ⟨w.heap.size, 0, none⟩) := by rw [← Array.getD_eq_getD_getElem?]; exact e2
      refine op_val (.pointer (some ⟨w.heap.size, 5, none⟩)) ?_ hC (Below.refl _ _) (by intro d hd; cases hd; exact rfl)
      (clear hV hI hC; go_simp <;> (first | rfl | simp | (rw [IntKind.wrap_i64]; omega)))
    case o12 =>
      intro Q a w2 hC hV hI
      have e11 : a.eval (.tmp 11) = .pointer (some ⟨w.heap.size, 5, none⟩) := hV 11 (by simp [Op.operands]) (by kernel_rfl)
      have f11 : a.tmps.getD 11 undef = .pointer (some ⟨w.heap.size, 5, none⟩) := e11
      have g11 : a.tmps[11]?.getD undef = .pointer (some ⟨w.heap.size, 5, none⟩) := by rw [← Array.getD_eq_getD_getElem?]; exact e11
      have hK := KC.out w2 hC
      refine op_val (.int .i64 gi) ?_ hC (Below.refl _ _) (by intro d hd; cases hd; exact rfl)
      (clear hV hI hC; go_simp <;> (first | rfl | simp | (rw [IntKind.wrap_i64]; omega)))
    case o13 =>
      intro Q a w2 hC hV hI
      have e2 : a.eval (.tmp 2) = .pointer (some ⟨w.heap.size, 0, none⟩) := (hI 2 (by simp [Op.operands]) (by kernel_rfl)).trans rfl
      have f2 : a.tmps.getD 2 undef = .pointer (some ⟨w.heap.size, 0, none⟩) := e2
      have g2 : a.tmps[2]?.getD undef = .pointer (some ⟨w.heap.size, 0, none⟩) := by rw [← Array.getD_eq_getD_getElem?]; exact e2
      refine op_val (.pointer (some ⟨w.heap.size, 6, none⟩)) ?_ hC (Below.refl _ _) (by intro d hd; cases hd; exact rfl)
      (clear hV hI hC; go_simp <;> (first | rfl | simp | (rw [IntKind.wrap_i64]; omega)))
    case o14 =>
      intro Q a w2 hC hV hI
      have e13 : a.eval (.tmp 13) = .pointer (some ⟨w.heap.size, 6, none⟩) := hV 13 (by simp [Op.operands]) (by kernel_rfl)
      have f13 : a.tmps.getD 13 undef = .pointer (some ⟨w.heap.size, 6, none⟩) := e13
      have g13 : a.tmps[13]?.getD undef = .pointer (some ⟨w.heap.size, 6, none⟩) := by rw [← Array.getD_eq_getD_getElem?]; exact e13
      have hK := KC.out w2 hC
      refine op_val (.int .i64 t) ?_ hC (Below.refl _ _) (by intro d hd; cases hd; exact rfl)
      (clear hV hI hC; go_simp <;> (first | rfl | simp | (rw [IntKind.wrap_i64]; omega)))
    case o15 =>
      intro Q a w2 hC hV hI
      have e2 : a.eval (.tmp 2) = .pointer (some ⟨w.heap.size, 0, none⟩) := (hI 2 (by simp [Op.operands]) (by kernel_rfl)).trans rfl
      have f2 : a.tmps.getD 2 undef = .pointer (some ⟨w.heap.size, 0, none⟩) := e2
      have g2 : a.tmps[2]?.getD undef = .pointer (some ⟨w.heap.size, 0, none⟩) := by rw [← Array.getD_eq_getD_getElem?]; exact e2
      refine op_val (.pointer (some ⟨w.heap.size, 1, none⟩)) ?_ hC (Below.refl _ _) (by intro d hd; cases hd; exact rfl)
      (clear hV hI hC; go_simp <;> (first | rfl | simp | (rw [IntKind.wrap_i64]; omega)))
    case o16 =>
      intro Q a w2 hC hV hI
      have e15 : a.eval (.tmp 15) = .pointer (some ⟨w.heap.size, 1, none⟩) := hV 15 (by simp [Op.operands]) (by kernel_rfl)
      have f15 : a.tmps.getD 15 undef = .pointer (some ⟨w.heap.size, 1, none⟩) := e15
      have g15 : a.tmps[15]?.getD undef = .pointer (some ⟨w.heap.size, 1, none⟩) := by rw [← Array.getD_eq_getD_getElem?]; exact e15
      have hK := KC.out w2 hC
      refine op_val (.string p) ?_ hC (Below.refl _ _) (by intro d hd; cases hd; exact rfl)
      (clear hV hI hC; go_simp <;> (first | rfl | simp | (rw [IntKind.wrap_i64]; omega)))
    case o17 =>
      intro Q a w2 hC hV hI
      have e16 : a.eval (.tmp 16) = .string p := hV 16 (by simp [Op.operands, Call.operands]) (by kernel_rfl)
      have f16 : a.tmps.getD 16 undef = .string p := e16
      have g16 : a.tmps[16]?.getD undef = .string p := by rw [← Array.getD_eq_getD_getElem?]; exact e16
      refine op_call (f := 125) (args := #[.string p]) (R := fun v y => v = .string p ∧ Below w2.heap.size w2 y) ?_ ((HC.out w2).mono ?_) ?_
      · (clear hV hI hC; go_simp <;> (first | rfl | simp | (rw [IntKind.wrap_i64]; omega)))
      · rintro e y ⟨rfl, hb⟩; exact ⟨_, rfl, rfl, hb⟩
      · rintro v y ⟨rfl, hb⟩; exact ⟨hC.trans (hb.mono hC.size), hb, by intro d hd; cases hd; exact rfl⟩
    case o18 =>
      intro Q a w2 hC hV hI
      have e6 : a.eval (.tmp 6) = .int .i64 ino := hV 6 (by simp [Op.operands]) (by kernel_rfl)
      have f6 : a.tmps.getD 6 undef = .int .i64 ino := e6
      have g6 : a.tmps[6]?.getD undef = .int .i64 ino := by rw [← Array.getD_eq_getD_getElem?]; exact e6
      have e8 : a.eval (.tmp 8) = .int .i64 m := hV 8 (by simp [Op.operands]) (by kernel_rfl)
      have f8 : a.tmps.getD 8 undef = .int .i64 m := e8
      have g8 : a.tmps[8]?.getD undef = .int .i64 m := by rw [← Array.getD_eq_getD_getElem?]; exact e8
      have e10 : a.eval (.tmp 10) = .int .i64 u1 := hV 10 (by simp [Op.operands]) (by kernel_rfl)
      have f10 : a.tmps.getD 10 undef = .int .i64 u1 := e10
      have g10 : a.tmps[10]?.getD undef = .int .i64 u1 := by rw [← Array.getD_eq_getD_getElem?]; exact e10
      have e12 : a.eval (.tmp 12) = .int .i64 gi := hV 12 (by simp [Op.operands]) (by kernel_rfl)
      have f12 : a.tmps.getD 12 undef = .int .i64 gi := e12
      have g12 : a.tmps[12]?.getD undef = .int .i64 gi := by rw [← Array.getD_eq_getD_getElem?]; exact e12
      have e14 : a.eval (.tmp 14) = .int .i64 t := hV 14 (by simp [Op.operands]) (by kernel_rfl)
      have f14 : a.tmps.getD 14 undef = .int .i64 t := e14
      have g14 : a.tmps[14]?.getD undef = .int .i64 t := by rw [← Array.getD_eq_getD_getElem?]; exact e14
      have e17 : a.eval (.tmp 17) = .string p := hV 17 (by simp [Op.operands]) (by kernel_rfl)
      have f17 : a.tmps.getD 17 undef = .string p := e17
      have g17 : a.tmps[17]?.getD undef = .string p := by rw [← Array.getD_eq_getD_getElem?]; exact e17
      refine op_val (.agg #[.int .i64 ino, .int .i64 m, .int .i64 u1, .int .i64 gi, .int .i64 0, .int .i64 t, .string p, .string ⟨#[]⟩]) ?_ hC (Below.refl _ _) (by intro d hd; cases hd; exact rfl)
      (clear hV hI hC; go_simp <;> (first | rfl | simp | (rw [IntKind.wrap_i64]; omega)))
    case o5 =>
      intro Q a w2 hC hV hI
      refine op_val (.pointer (some ⟨w2.heap.size, 0, none⟩)) (w' := w2.alloc (.cells #[.int .i64 0, .int .i64 0, .int .i64 0, .int .i64 0, .int .i64 0, .int .i64 0, .string ⟨#[]⟩, .string ⟨#[]⟩] 48)) ?_ (hC.alloc hC.size _) ((Below.refl _ _).alloc (Nat.le_refl _) _) ?_
      · (clear hV hI hC; go_simp <;> (first | rfl | simp | (rw [IntKind.wrap_i64]; omega)))
      · intro d hd; cases hd; exact ⟨w2.heap.size, rfl, hC.size, heap_lastG _ _⟩
  case hend =>
    intro f w2 hC hall
    simp only [List.take_succ_cons, List.take_zero, List.drop_succ_cons, List.drop_zero] at hall ⊢
    simp only [List.forall_mem_cons] at hall
    obtain ⟨h6, h7, h8, h9, h10, h11, h12, h13, h14, h15, h16, h17, h18, h5, _⟩ := hall
    replace h6 : f 6 = .int .i64 ino := h6 6 rfl
    replace h7 : f 7 = .pointer (some ⟨w.heap.size, 3, none⟩) := h7 7 rfl
    replace h8 : f 8 = .int .i64 m := h8 8 rfl
    replace h9 : f 9 = .pointer (some ⟨w.heap.size, 4, none⟩) := h9 9 rfl
    replace h10 : f 10 = .int .i64 u1 := h10 10 rfl
    replace h11 : f 11 = .pointer (some ⟨w.heap.size, 5, none⟩) := h11 11 rfl
    replace h12 : f 12 = .int .i64 gi := h12 12 rfl
    replace h13 : f 13 = .pointer (some ⟨w.heap.size, 6, none⟩) := h13 13 rfl
    replace h14 : f 14 = .int .i64 t := h14 14 rfl
    replace h15 : f 15 = .pointer (some ⟨w.heap.size, 1, none⟩) := h15 15 rfl
    replace h16 : f 16 = .string p := h16 16 rfl
    replace h17 : f 17 = .string p := h17 17 rfl
    replace h18 : f 18 = .agg #[.int .i64 ino, .int .i64 m, .int .i64 u1, .int .i64 gi, .int .i64 0, .int .i64 t, .string p, .string ⟨#[]⟩] := h18 18 rfl
    obtain ⟨G5, hG5, hGB5, hGO5⟩ : ∃ G, f 5 = .pointer (some ⟨G, 0, none⟩) ∧ w1.heap.size ≤ G ∧ w2.heap[G]? = some (.cells #[.int .i64 0, .int .i64 0, .int .i64 0, .int .i64 0, .int .i64 0, .int .i64 0, .string ⟨#[]⟩, .string ⟨#[]⟩] 48 (0, 0)) := h5 5 rfl
    simp only [putAll, Act.put, List.setIfInBounds_toArray, List.set_cons_succ, List.set_cons_zero, h6, h7, h8, h9, h10, h11, h12, h13, h14, h15, h16, h17, h18, hG5]
    clear h6 h7 h8 h9 h10 h11 h12 h13 h14 h15 h16 h17 h18 hG5 h5
    clear KC
    replace EO := Lib.hid (EO.out.below hC (by omega))
    replace RO := Lib.hid (RO.out.below hC (by omega))
    have hB2 := btE B0.out (hC.mono (Nat.le_refl _))
    have XO : CardO w2 G5 zeroC := hGO5
    have hne0 : ¬ w.heap.size = G5 := by omega
    have hne1 : ¬ w.heap.size + 1 = G5 := by omega
    have hlt5 : w.heap.size ≤ G5 := by omega
    obtain ⟨d0, d1, d2, d3, d4, d5, d6, d7⟩ := XO.at.zero
    have f0 := XO.fz 0
    have f1 := XO.fz 1
    have f2 := XO.fz 2
    have f3 := XO.fz 3
    have f4 := XO.fz 4
    have f5 := XO.fz 5
    have f6 := XO.fz 6
    have f7 := XO.fz 7
    have XP := XO.put ⟨ino, m, u1, gi, 0, t, p, ⟨#[]⟩⟩
    have EP : EntO (putOC w2 G5 ⟨ino, m, u1, gi, 0, t, p, ⟨#[]⟩⟩) w.heap.size ⟨2, p, l, m, u1, gi, t, us, gr, b⟩ := (putOC_other hne0).trans EO.out
    have RP : CardO (putOC w2 G5 ⟨ino, m, u1, gi, 0, t, p, ⟨#[]⟩⟩) (w.heap.size + 1) zeroC := (putOC_other hne1).trans RO.out
    have BP := below_putOC (g := G5) hB2 hlt5 ⟨ino, m, u1, gi, 0, t, p, ⟨#[]⟩⟩
    simp only [putOC] at XP EP RP BP
    go_upto_region 2 with fail
    obtain ⟨w3, hw3⟩ : ∃ x, x = ((((((((w2.setCell ⟨G5, 0, none⟩ (.int .i64 ino)).setCell ⟨G5, 1, none⟩ (.int .i64 m)).setCell ⟨G5, 2, none⟩ (.int .i64 u1)).setCell ⟨G5, 3, none⟩ (.int .i64 gi)).setCell ⟨G5, 4, none⟩ (.int .i64 0)).setCell ⟨G5, 5, none⟩ (.int .i64 t)).setCell ⟨G5, 6, none⟩ (.string p)).setCell ⟨G5, 7, none⟩ (.string ⟨#[]⟩)) := ⟨_, rfl⟩
    rw [← hw3] at XP EP RP BP ⊢
    have X := Lib.hid XP
    have R := Lib.hid RP
    have Bw := Lib.hid BP
    obtain ⟨e0, e1, e2, e3, e4, e5, e6, e7, e8, e9⟩ := EP.at.zero
    clear XP RP BP hw3 d0 d1 d2 d3 d4 d5 d6 d7 f0 f1 f2 f3 f4 f5 f6 f7 XO hGO5 hB2 EO RO
    obtain ⟨d0, d1, d2, d3, d4, d5, d6, d7⟩ := X.out.at.zero
    have f1 := X.out.fz 1
    have XP := X.out.set (e' := ⟨ino, m + 40960, u1, gi, 0, t, p, ⟨#[]⟩⟩) 1 (.int .i64 (m + 40960)) rfl
    have RP : CardO (w3.setCell ⟨G5, 1, none⟩ (.int .i64 (m + 40960))) (w.heap.size + 1) zeroC := R.out.other hne1
    have EP2 : EntO (w3.setCell ⟨G5, 1, none⟩ (.int .i64 (m + 40960))) w.heap.size ⟨2, p, l, m, u1, gi, t, us, gr, b⟩ := EP.other hne0
    have BP := Bw.out.setCell (p := ⟨G5, 1, none⟩) hlt5 (.int .i64 (m + 40960))
    go_wp2_with fail
    obtain ⟨w4, hw4⟩ : ∃ x, x = w3.setCell ⟨G5, 1, none⟩ (.int .i64 (m + 40960)) := ⟨_, rfl⟩
    rw [← hw4] at XP RP BP EP2 ⊢
    clear hw4 EP2 e0 e1 e2 e3 e4 e5 e6 e7 e8 e9 d0 d1 d2 d3 d4 d5 d6 d7 f1 EP X R Bw
    refine (HD.out _).mono ?_
    rintro e w5 ⟨rfl, hb⟩
    have X := Lib.hid (XP.below hb XP.lt)
    have R := Lib.hid (RP.below hb RP.lt)
    have Bw := Lib.hid (btE BP hb)
    clear hb XP RP BP
    obtain ⟨d0, d1, d2, d3, d4, d5, d6, d7⟩ := X.out.at.zero
    have f7 := X.out.fz 7
    have XP := X.out.set (e' := ⟨ino, m + 40960, u1, gi, 0, t, p, l⟩) 7 (.string l) rfl
    have RP : CardO (w5.setCell ⟨G5, 7, none⟩ (.string l)) (w.heap.size + 1) zeroC := R.out.other hne1
    have BP := Bw.out.setCell (p := ⟨G5, 7, none⟩) hlt5 (.string l)
    go_upto_region 10 with fail
    obtain ⟨w6, hw6⟩ : ∃ x, x = w5.setCell ⟨G5, 7, none⟩ (.string l) := ⟨_, rfl⟩
    rw [← hw6] at XP RP BP ⊢
    clear hw6 d0 d1 d2 d3 d4 d5 d6 d7 f7 X R Bw
    obtain ⟨x0, x1, x2, x3, x4, x5, x6, x7⟩ := XP.at.zero
    obtain ⟨d0, d1, d2, d3, d4, d5, d6, d7⟩ := RP.at.zero
    have f0 := RP.fz 0
    have f1 := RP.fz 1
    have f2 := RP.fz 2
    have f3 := RP.fz 3
    have f4 := RP.fz 4
    have f5 := RP.fz 5
    have f6 := RP.fz 6
    have f7 := RP.fz 7
    have R9 := RP.put ⟨ino, m + 40960, u1, gi, 0, t, p, l⟩
    have B9 := below_putOC (g := w.heap.size + 1) BP (by omega) ⟨ino, m + 40960, u1, gi, 0, t, p, l⟩
    simp only [putOC] at R9 B9
    go_wp2_with fail
    refine bodyPost_ret (res_OC1 rfl _ rfl R9) rfl ?_
    exact ⟨rfl, B9⟩
set_option maxHeartbeats 3200000 in
set_option maxRecDepth 8000 in
theorem cardOf_fil (k : Int) (p l : ByteArray) (m u1 gi t : Int) (us gr b : ByteArray) (ino : Int) (w : World) (hk1 : ¬ k = 1) (hk2 : ¬ k = 2) (hp : p.size ≤ 4194304) (hb : b.size ≤ 4194304) (hm0 : 0 ≤ m) (hm1 : m ≤ 4095) :
    Calls Tryz.prog 106 #[.agg #[.int .i64 k, .string p, .string l, .int .i64 m, .int .i64 u1, .int .i64 gi, .int .i64 t, .string us, .string gr, .string b], .int .i64 ino] w fun e w' => e = .returned (.agg #[.int .i64 ino, .int .i64 (m + 32768), .int .i64 u1, .int .i64 gi, .int .i64 0, .int .i64 t, .string p, .string b]) ∧ Below w.heap.size w w' := by
  have q1 : (k == 1) = false := by simpa using hk1
  have q2 : (k == 2) = false := by simpa using hk2
  have HC := Lib.hid (fun w => clone_any p w (by omega))
  have HD := Lib.hid (fun w => clone_any b w (by omega))
  go_enter Tryz.func106, Tryz.ntmps106
  go_upto_region 1 with fail
  generalize hw1 : World.alloc (World.alloc w _) _ = w1
  have EO : Hid (EntO w1 w.heap.size ⟨k, p, l, m, u1, gi, t, us, gr, b⟩) := Lib.hid (by rw [← hw1]; exact (EntO.new w ⟨k, p, l, m, u1, gi, t, us, gr, b⟩).below (B := w.heap.size + 1) ((Below.refl _ _).alloc (by simp) _) (by omega))
  have RO : Hid (CardO w1 (w.heap.size + 1) zeroC) := Lib.hid (by rw [← hw1]; exact CardO.newAt (w.alloc (.cells (Ent.cells ⟨k, p, l, m, u1, gi, t, us, gr, b⟩).toArray 45)) zeroC _ (by simp))
  have B0 : Hid (Below w.heap.size w w1) := Lib.hid (by rw [← hw1]; exact ((Below.refl _ _).alloc (Nat.le_refl _) _).alloc (by simp) _)
  have hs1 : w1.heap.size = w.heap.size + 2 := by rw [← hw1]; simp
  clear hw1
  have KC : Hid (∀ w', Below w1.heap.size w1 w' → w'.cell? ⟨w.heap.size, 1, none⟩ = some (.string p) ∧ w'.cell? ⟨w.heap.size, 3, none⟩ = some (.int .i64 m) ∧ w'.cell? ⟨w.heap.size, 4, none⟩ = some (.int .i64 u1) ∧ w'.cell? ⟨w.heap.size, 5, none⟩ = some (.int .i64 gi) ∧ w'.cell? ⟨w.heap.size, 6, none⟩ = some (.int .i64 t)) := Lib.hid (fun w' hb => by
    obtain ⟨d0, d1, d2, d3, d4, d5, d6, d7, d8, d9⟩ := (EO.out.below hb (by omega)).at.zero
    exact ⟨d1, d3, d4, d5, d6⟩)
  refine wp_region_cut 14 (by kernel_rfl) (fun w' => Below w1.heap.size w1 w') (fun x y => Below x.heap.size x y) (vBxG 5 48 w1.heap.size #[.int .i64 0, .int .i64 0, .int .i64 0, .int .i64 0, .int .i64 0, .int .i64 0, .string ⟨#[]⟩, .string ⟨#[]⟩] (fun d v => match d with | 6 => v = .int .i64 ino | 7 => v = .pointer (some ⟨w.heap.size, 3, none⟩) | 8 => v = .int .i64 m | 9 => v = .pointer (some ⟨w.heap.size, 4, none⟩) | 10 => v = .int .i64 u1 | 11 => v = .pointer (some ⟨w.heap.size, 5, none⟩) | 12 => v = .int .i64 gi | 13 => v = .pointer (some ⟨w.heap.size, 6, none⟩) | 14 => v = .int .i64 t | 15 => v = .pointer (some ⟨w.heap.size, 1, none⟩) | 16 => v = .string p | 17 => v = .string p | 18 => v = .agg #[.int .i64 ino, .int .i64 m, .int .i64 u1, .int .i64 gi, .int .i64 0, .int .i64 t, .string p, .string ⟨#[]⟩] | _ => True)) (by kernel_rfl) (by kernel_rfl) ((Below.refl _ _).drew) (vBxG_keep _ _ _ _ _) (by simp) ?hops ?hend
  case hops =>
    simp only [List.take_succ_cons, List.take_zero, List.forall_mem_cons]
    refine ⟨?o6, ?o7, ?o8, ?o9, ?o10, ?o11, ?o12, ?o13, ?o14, ?o15, ?o16, ?o17, ?o18, ?o5, fun _ h => by cases h⟩
    case o6 =>
      intro Q a w2 hC hV hI
      have e1 : a.eval (.tmp 1) = .int .i64 ino := (hI 1 (by simp [Op.operands]) (by kernel_rfl)).trans rfl
      have f1 : a.tmps.getD 1 undef = .int .i64 ino := e1
      have g1 : a.tmps[1]?.getD undef = .int .i64 ino := by rw [← Array.getD_eq_getD_getElem?]; exact e1
      refine op_val (.int .i64 ino) ?_ hC (Below.refl _ _) (by intro d hd; cases hd; exact rfl)
      (clear hV hI hC; go_simp <;> (first | rfl | simp | (rw [IntKind.wrap_i64]; omega)))
    case o7 =>
      intro Q a w2 hC hV hI
      have e2 : a.eval (.tmp 2) = .pointer (some ⟨w.heap.size, 0, none⟩) := (hI 2 (by simp [Op.operands]) (by kernel_rfl)).trans rfl
      have f2 : a.tmps.getD 2 undef = .pointer (some ⟨w.heap.size, 0, none⟩) := e2
      have g2 : a.tmps[2]?.getD undef = .pointer (some ⟨w.heap.size, 0, none⟩) := by rw [← Array.getD_eq_getD_getElem?]; exact e2
      refine op_val (.pointer (some ⟨w.heap.size, 3, none⟩)) ?_ hC (Below.refl _ _) (by intro d hd; cases hd; exact rfl)
      (clear hV hI hC; go_simp <;> (first | rfl | simp | (rw [IntKind.wrap_i64]; omega)))
    case o8 =>
      intro Q a w2 hC hV hI
      have e7 : a.eval (.tmp 7) = .pointer (some ⟨w.heap.size, 3, none⟩) := hV 7 (by simp [Op.operands]) (by kernel_rfl)
      have f7 : a.tmps.getD 7 undef = .pointer (some ⟨w.heap.size, 3, none⟩) := e7
      have g7 : a.tmps[7]?.getD undef = .pointer (some ⟨w.heap.size, 3, none⟩) := by rw [← Array.getD_eq_getD_getElem?]; exact e7
      have hK := KC.out w2 hC
      refine op_val (.int .i64 m) ?_ hC (Below.refl _ _) (by intro d hd; cases hd; exact rfl)
      (clear hV hI hC; go_simp <;> (first | rfl | simp | (rw [IntKind.wrap_i64]; omega)))
    case o9 =>
      intro Q a w2 hC hV hI
      have e2 : a.eval (.tmp 2) = .pointer (some ⟨w.heap.size, 0, none⟩) := (hI 2 (by simp [Op.operands]) (by kernel_rfl)).trans rfl
      have f2 : a.tmps.getD 2 undef = .pointer (some ⟨w.heap.size, 0, none⟩) := e2
      have g2 : a.tmps[2]?.getD undef = .pointer (some ⟨w.heap.size, 0, none⟩) := by rw [← Array.getD_eq_getD_getElem?]; exact e2
      refine op_val (.pointer (some ⟨w.heap.size, 4, none⟩)) ?_ hC (Below.refl _ _) (by intro d hd; cases hd; exact rfl)
      (clear hV hI hC; go_simp <;> (first | rfl | simp | (rw [IntKind.wrap_i64]; omega)))
    case o10 =>
      intro Q a w2 hC hV hI
      have e9 : a.eval (.tmp 9) = .pointer (some ⟨w.heap.size, 4, none⟩) := hV 9 (by simp [Op.operands]) (by kernel_rfl)
      have f9 : a.tmps.getD 9 undef = .pointer (some ⟨w.heap.size, 4, none⟩) := e9
      have g9 : a.tmps[9]?.getD undef = .pointer (some ⟨w.heap.size, 4, none⟩) := by rw [← Array.getD_eq_getD_getElem?]; exact e9
      have hK := KC.out w2 hC
      refine op_val (.int .i64 u1) ?_ hC (Below.refl _ _) (by intro d hd; cases hd; exact rfl)
      (clear hV hI hC; go_simp <;> (first | rfl | simp | (rw [IntKind.wrap_i64]; omega)))
    case o11 =>
      intro Q a w2 hC hV hI
      have e2 : a.eval (.tmp 2) = .pointer (some ⟨w.heap.size, 0, none⟩) := (hI 2 (by simp [Op.operands]) (by kernel_rfl)).trans rfl
      have f2 : a.tmps.getD 2 undef = .pointer (some ⟨w.heap.size, 0, none⟩) := e2
      have g2 : a.tmps[2]?.getD undef = .pointer (some ⟨w.heap.size, 0, none⟩) := by rw [← Array.getD_eq_getD_getElem?]; exact e2
      refine op_val (.pointer (some ⟨w.heap.size, 5, none⟩)) ?_ hC (Below.refl _ _) (by intro d hd; cases hd; exact rfl)
      (clear hV hI hC; go_simp <;> (first | rfl | simp | (rw [IntKind.wrap_i64]; omega)))
    case o12 =>
      intro Q a w2 hC hV hI
      have e11 : a.eval (.tmp 11) = .pointer (some ⟨w.heap.size, 5, none⟩) := hV 11 (by simp [Op.operands]) (by kernel_rfl)
      have f11 : a.tmps.getD 11 undef = .pointer (some ⟨w.heap.size, 5, none⟩) := e11
      have g11 : a.tmps[11]?.getD undef = .pointer (some ⟨w.heap.size, 5, none⟩) := by rw [← Array.getD_eq_getD_getElem?]; exact e11
      have hK := KC.out w2 hC
      refine op_val (.int .i64 gi) ?_ hC (Below.refl _ _) (by intro d hd; cases hd; exact rfl)
      (clear hV hI hC; go_simp <;> (first | rfl | simp | (rw [IntKind.wrap_i64]; omega)))
    case o13 =>
      intro Q a w2 hC hV hI
      have e2 : a.eval (.tmp 2) = .pointer (some ⟨w.heap.size, 0, none⟩) := (hI 2 (by simp [Op.operands]) (by kernel_rfl)).trans rfl
      have f2 : a.tmps.getD 2 undef = .pointer (some ⟨w.heap.size, 0, none⟩) := e2
      have g2 : a.tmps[2]?.getD undef = .pointer (some ⟨w.heap.size, 0, none⟩) := by rw [← Array.getD_eq_getD_getElem?]; exact e2
      refine op_val (.pointer (some ⟨w.heap.size, 6, none⟩)) ?_ hC (Below.refl _ _) (by intro d hd; cases hd; exact rfl)
      (clear hV hI hC; go_simp <;> (first | rfl | simp | (rw [IntKind.wrap_i64]; omega)))
    case o14 =>
      intro Q a w2 hC hV hI
      have e13 : a.eval (.tmp 13) = .pointer (some ⟨w.heap.size, 6, none⟩) := hV 13 (by simp [Op.operands]) (by kernel_rfl)
      have f13 : a.tmps.getD 13 undef = .pointer (some ⟨w.heap.size, 6, none⟩) := e13
      have g13 : a.tmps[13]?.getD undef = .pointer (some ⟨w.heap.size, 6, none⟩) := by rw [← Array.getD_eq_getD_getElem?]; exact e13
      have hK := KC.out w2 hC
      refine op_val (.int .i64 t) ?_ hC (Below.refl _ _) (by intro d hd; cases hd; exact rfl)
      (clear hV hI hC; go_simp <;> (first | rfl | simp | (rw [IntKind.wrap_i64]; omega)))
    case o15 =>
      intro Q a w2 hC hV hI
      have e2 : a.eval (.tmp 2) = .pointer (some ⟨w.heap.size, 0, none⟩) := (hI 2 (by simp [Op.operands]) (by kernel_rfl)).trans rfl
      have f2 : a.tmps.getD 2 undef = .pointer (some ⟨w.heap.size, 0, none⟩) := e2
      have g2 : a.tmps[2]?.getD undef = .pointer (some ⟨w.heap.size, 0, none⟩) := by rw [← Array.getD_eq_getD_getElem?]; exact e2
      refine op_val (.pointer (some ⟨w.heap.size, 1, none⟩)) ?_ hC (Below.refl _ _) (by intro d hd; cases hd; exact rfl)
      (clear hV hI hC; go_simp <;> (first | rfl | simp | (rw [IntKind.wrap_i64]; omega)))
    case o16 =>
      intro Q a w2 hC hV hI
      have e15 : a.eval (.tmp 15) = .pointer (some ⟨w.heap.size, 1, none⟩) := hV 15 (by simp [Op.operands]) (by kernel_rfl)
      have f15 : a.tmps.getD 15 undef = .pointer (some ⟨w.heap.size, 1, none⟩) := e15
      have g15 : a.tmps[15]?.getD undef = .pointer (some ⟨w.heap.size, 1, none⟩) := by rw [← Array.getD_eq_getD_getElem?]; exact e15
      have hK := KC.out w2 hC
      refine op_val (.string p) ?_ hC (Below.refl _ _) (by intro d hd; cases hd; exact rfl)
      (clear hV hI hC; go_simp <;> (first | rfl | simp | (rw [IntKind.wrap_i64]; omega)))
    case o17 =>
      intro Q a w2 hC hV hI
      have e16 : a.eval (.tmp 16) = .string p := hV 16 (by simp [Op.operands, Call.operands]) (by kernel_rfl)
      have f16 : a.tmps.getD 16 undef = .string p := e16
      have g16 : a.tmps[16]?.getD undef = .string p := by rw [← Array.getD_eq_getD_getElem?]; exact e16
      refine op_call (f := 125) (args := #[.string p]) (R := fun v y => v = .string p ∧ Below w2.heap.size w2 y) ?_ ((HC.out w2).mono ?_) ?_
      · (clear hV hI hC; go_simp <;> (first | rfl | simp | (rw [IntKind.wrap_i64]; omega)))
      · rintro e y ⟨rfl, hb⟩; exact ⟨_, rfl, rfl, hb⟩
      · rintro v y ⟨rfl, hb⟩; exact ⟨hC.trans (hb.mono hC.size), hb, by intro d hd; cases hd; exact rfl⟩
    case o18 =>
      intro Q a w2 hC hV hI
      have e6 : a.eval (.tmp 6) = .int .i64 ino := hV 6 (by simp [Op.operands]) (by kernel_rfl)
      have f6 : a.tmps.getD 6 undef = .int .i64 ino := e6
      have g6 : a.tmps[6]?.getD undef = .int .i64 ino := by rw [← Array.getD_eq_getD_getElem?]; exact e6
      have e8 : a.eval (.tmp 8) = .int .i64 m := hV 8 (by simp [Op.operands]) (by kernel_rfl)
      have f8 : a.tmps.getD 8 undef = .int .i64 m := e8
      have g8 : a.tmps[8]?.getD undef = .int .i64 m := by rw [← Array.getD_eq_getD_getElem?]; exact e8
      have e10 : a.eval (.tmp 10) = .int .i64 u1 := hV 10 (by simp [Op.operands]) (by kernel_rfl)
      have f10 : a.tmps.getD 10 undef = .int .i64 u1 := e10
      have g10 : a.tmps[10]?.getD undef = .int .i64 u1 := by rw [← Array.getD_eq_getD_getElem?]; exact e10
      have e12 : a.eval (.tmp 12) = .int .i64 gi := hV 12 (by simp [Op.operands]) (by kernel_rfl)
      have f12 : a.tmps.getD 12 undef = .int .i64 gi := e12
      have g12 : a.tmps[12]?.getD undef = .int .i64 gi := by rw [← Array.getD_eq_getD_getElem?]; exact e12
      have e14 : a.eval (.tmp 14) = .int .i64 t := hV 14 (by simp [Op.operands]) (by kernel_rfl)
      have f14 : a.tmps.getD 14 undef = .int .i64 t := e14
      have g14 : a.tmps[14]?.getD undef = .int .i64 t := by rw [← Array.getD_eq_getD_getElem?]; exact e14
      have e17 : a.eval (.tmp 17) = .string p := hV 17 (by simp [Op.operands]) (by kernel_rfl)
      have f17 : a.tmps.getD 17 undef = .string p := e17
      have g17 : a.tmps[17]?.getD undef = .string p := by rw [← Array.getD_eq_getD_getElem?]; exact e17
      refine op_val (.agg #[.int .i64 ino, .int .i64 m, .int .i64 u1, .int .i64 gi, .int .i64 0, .int .i64 t, .string p, .string ⟨#[]⟩]) ?_ hC (Below.refl _ _) (by intro d hd; cases hd; exact rfl)
      (clear hV hI hC; go_simp <;> (first | rfl | simp | (rw [IntKind.wrap_i64]; omega)))
    case o5 =>
      intro Q a w2 hC hV hI
      refine op_val (.pointer (some ⟨w2.heap.size, 0, none⟩)) (w' := w2.alloc (.cells #[.int .i64 0, .int .i64 0, .int .i64 0, .int .i64 0, .int .i64 0, .int .i64 0, .string ⟨#[]⟩, .string ⟨#[]⟩] 48)) ?_ (hC.alloc hC.size _) ((Below.refl _ _).alloc (Nat.le_refl _) _) ?_
      · (clear hV hI hC; go_simp <;> (first | rfl | simp | (rw [IntKind.wrap_i64]; omega)))
      · intro d hd; cases hd; exact ⟨w2.heap.size, rfl, hC.size, heap_lastG _ _⟩
  case hend =>
    intro f w2 hC hall
    simp only [List.take_succ_cons, List.take_zero, List.drop_succ_cons, List.drop_zero] at hall ⊢
    simp only [List.forall_mem_cons] at hall
    obtain ⟨h6, h7, h8, h9, h10, h11, h12, h13, h14, h15, h16, h17, h18, h5, _⟩ := hall
    replace h6 : f 6 = .int .i64 ino := h6 6 rfl
    replace h7 : f 7 = .pointer (some ⟨w.heap.size, 3, none⟩) := h7 7 rfl
    replace h8 : f 8 = .int .i64 m := h8 8 rfl
    replace h9 : f 9 = .pointer (some ⟨w.heap.size, 4, none⟩) := h9 9 rfl
    replace h10 : f 10 = .int .i64 u1 := h10 10 rfl
    replace h11 : f 11 = .pointer (some ⟨w.heap.size, 5, none⟩) := h11 11 rfl
    replace h12 : f 12 = .int .i64 gi := h12 12 rfl
    replace h13 : f 13 = .pointer (some ⟨w.heap.size, 6, none⟩) := h13 13 rfl
    replace h14 : f 14 = .int .i64 t := h14 14 rfl
    replace h15 : f 15 = .pointer (some ⟨w.heap.size, 1, none⟩) := h15 15 rfl
    replace h16 : f 16 = .string p := h16 16 rfl
    replace h17 : f 17 = .string p := h17 17 rfl
    replace h18 : f 18 = .agg #[.int .i64 ino, .int .i64 m, .int .i64 u1, .int .i64 gi, .int .i64 0, .int .i64 t, .string p, .string ⟨#[]⟩] := h18 18 rfl
    obtain ⟨G5, hG5, hGB5, hGO5⟩ : ∃ G, f 5 = .pointer (some ⟨G, 0, none⟩) ∧ w1.heap.size ≤ G ∧ w2.heap[G]? = some (.cells #[.int .i64 0, .int .i64 0, .int .i64 0, .int .i64 0, .int .i64 0, .int .i64 0, .string ⟨#[]⟩, .string ⟨#[]⟩] 48 (0, 0)) := h5 5 rfl
    simp only [putAll, Act.put, List.setIfInBounds_toArray, List.set_cons_succ, List.set_cons_zero, h6, h7, h8, h9, h10, h11, h12, h13, h14, h15, h16, h17, h18, hG5]
    clear h6 h7 h8 h9 h10 h11 h12 h13 h14 h15 h16 h17 h18 hG5 h5
    clear KC
    replace EO := Lib.hid (EO.out.below hC (by omega))
    replace RO := Lib.hid (RO.out.below hC (by omega))
    have hB2 := btE B0.out (hC.mono (Nat.le_refl _))
    have XO : CardO w2 G5 zeroC := hGO5
    have hne0 : ¬ w.heap.size = G5 := by omega
    have hne1 : ¬ w.heap.size + 1 = G5 := by omega
    have hlt5 : w.heap.size ≤ G5 := by omega
    obtain ⟨d0, d1, d2, d3, d4, d5, d6, d7⟩ := XO.at.zero
    have f0 := XO.fz 0
    have f1 := XO.fz 1
    have f2 := XO.fz 2
    have f3 := XO.fz 3
    have f4 := XO.fz 4
    have f5 := XO.fz 5
    have f6 := XO.fz 6
    have f7 := XO.fz 7
    have XP := XO.put ⟨ino, m, u1, gi, 0, t, p, ⟨#[]⟩⟩
    have EP : EntO (putOC w2 G5 ⟨ino, m, u1, gi, 0, t, p, ⟨#[]⟩⟩) w.heap.size ⟨k, p, l, m, u1, gi, t, us, gr, b⟩ := (putOC_other hne0).trans EO.out
    have RP : CardO (putOC w2 G5 ⟨ino, m, u1, gi, 0, t, p, ⟨#[]⟩⟩) (w.heap.size + 1) zeroC := (putOC_other hne1).trans RO.out
    have BP := below_putOC (g := G5) hB2 hlt5 ⟨ino, m, u1, gi, 0, t, p, ⟨#[]⟩⟩
    simp only [putOC] at XP EP RP BP
    go_upto_region 2 with fail
    obtain ⟨w3, hw3⟩ : ∃ x, x = ((((((((w2.setCell ⟨G5, 0, none⟩ (.int .i64 ino)).setCell ⟨G5, 1, none⟩ (.int .i64 m)).setCell ⟨G5, 2, none⟩ (.int .i64 u1)).setCell ⟨G5, 3, none⟩ (.int .i64 gi)).setCell ⟨G5, 4, none⟩ (.int .i64 0)).setCell ⟨G5, 5, none⟩ (.int .i64 t)).setCell ⟨G5, 6, none⟩ (.string p)).setCell ⟨G5, 7, none⟩ (.string ⟨#[]⟩)) := ⟨_, rfl⟩
    rw [← hw3] at XP EP RP BP ⊢
    have X := Lib.hid XP
    have R := Lib.hid RP
    have Bw := Lib.hid BP
    obtain ⟨e0, e1, e2, e3, e4, e5, e6, e7, e8, e9⟩ := EP.at.zero
    clear XP RP BP hw3 d0 d1 d2 d3 d4 d5 d6 d7 f0 f1 f2 f3 f4 f5 f6 f7 XO hGO5 hB2 EO RO
    obtain ⟨d0, d1, d2, d3, d4, d5, d6, d7⟩ := X.out.at.zero
    have f1 := X.out.fz 1
    have XP := X.out.set (e' := ⟨ino, m + 32768, u1, gi, 0, t, p, ⟨#[]⟩⟩) 1 (.int .i64 (m + 32768)) rfl
    have RP : CardO (w3.setCell ⟨G5, 1, none⟩ (.int .i64 (m + 32768))) (w.heap.size + 1) zeroC := R.out.other hne1
    have EP2 : EntO (w3.setCell ⟨G5, 1, none⟩ (.int .i64 (m + 32768))) w.heap.size ⟨k, p, l, m, u1, gi, t, us, gr, b⟩ := EP.other hne0
    have BP := Bw.out.setCell (p := ⟨G5, 1, none⟩) hlt5 (.int .i64 (m + 32768))
    go_wp2_with fail
    obtain ⟨w4, hw4⟩ : ∃ x, x = w3.setCell ⟨G5, 1, none⟩ (.int .i64 (m + 32768)) := ⟨_, rfl⟩
    rw [← hw4] at XP RP BP EP2 ⊢
    clear hw4 EP2 e0 e1 e2 e3 e4 e5 e6 e7 e8 e9 d0 d1 d2 d3 d4 d5 d6 d7 f1 EP X R Bw
    refine (HD.out _).mono ?_
    rintro e w5 ⟨rfl, hb⟩
    have X := Lib.hid (XP.below hb XP.lt)
    have R := Lib.hid (RP.below hb RP.lt)
    have Bw := Lib.hid (btE BP hb)
    clear hb XP RP BP
    obtain ⟨d0, d1, d2, d3, d4, d5, d6, d7⟩ := X.out.at.zero
    have f7 := X.out.fz 7
    have XP := X.out.set (e' := ⟨ino, m + 32768, u1, gi, 0, t, p, b⟩) 7 (.string b) rfl
    have RP : CardO (w5.setCell ⟨G5, 7, none⟩ (.string b)) (w.heap.size + 1) zeroC := R.out.other hne1
    have BP := Bw.out.setCell (p := ⟨G5, 7, none⟩) hlt5 (.string b)
    go_upto_region 10 with fail
    obtain ⟨w6, hw6⟩ : ∃ x, x = w5.setCell ⟨G5, 7, none⟩ (.string b) := ⟨_, rfl⟩
    rw [← hw6] at XP RP BP ⊢
    clear hw6 d0 d1 d2 d3 d4 d5 d6 d7 f7 X R Bw
    obtain ⟨x0, x1, x2, x3, x4, x5, x6, x7⟩ := XP.at.zero
    obtain ⟨d0, d1, d2, d3, d4, d5, d6, d7⟩ := RP.at.zero
    have f0 := RP.fz 0
    have f1 := RP.fz 1
    have f2 := RP.fz 2
    have f3 := RP.fz 3
    have f4 := RP.fz 4
    have f5 := RP.fz 5
    have f6 := RP.fz 6
    have f7 := RP.fz 7
    have R9 := RP.put ⟨ino, m + 32768, u1, gi, 0, t, p, b⟩
    have B9 := below_putOC (g := w.heap.size + 1) BP (by omega) ⟨ino, m + 32768, u1, gi, 0, t, p, b⟩
    simp only [putOC] at R9 B9
    go_wp2_with fail
    refine bodyPost_ret (res_OC1 rfl _ rfl R9) rfl ?_
    exact ⟨rfl, B9⟩
/-- The card of an entry but for its count. -/
def cardOfv (ino : Int) (e : Ent) : Card := ⟨ino, e.mode + modev e.kind, e.uid, e.gid, 0, e.time, e.path, if e.kind = 1 then ⟨#[]⟩ else datav e⟩
theorem cardOf_impl (e : Ent) (ino : Int) (w : World) (hz : esz e ≤ 4194304) (hm0 : 0 ≤ e.mode) (hm1 : e.mode ≤ 4095) :
    Calls Tryz.prog 106 #[.agg e.cells.toArray, .int .i64 ino] w fun r w' => r = .returned (.agg (cardOfv ino e).cells.toArray) ∧ Below w.heap.size w w' := by
  obtain ⟨k, p, l, m, u, g, t, us, gr, b⟩ := e
  obtain ⟨hp, hl, _, _, hb⟩ := small_parts hz
  by_cases h1 : k = 1
  · subst h1
    exact cardOf_dir p l m u g t us gr b ino w hp hm0 hm1
  · by_cases h2 : k = 2
    · subst h2
      exact cardOf_sym p l m u g t us gr b ino w hp hl hm0 hm1
    · have := cardOf_fil k p l m u g t us gr b ino w h1 h2 hp hb hm0 hm1
      simpa [Ent.cells, Card.cells, cardOfv, modev, datav, h1, h2] using this
end Go.Proofs.YtcnmbolmgifgfabGreatDoor

/- Maps from texts to numbers, and sets of texts, that a call makes. -/
namespace Go.Proofs.YtcnmbolmgifgfabGreatDoor
open Go.ChangeShapes Go.WideShapes Go.ChangeAt Go.RowKit Go.Maps

theorem lawS : Keyed Tryz.prog 9 := string_keyed Tryz.underlying9
theorem zeroN (w : World) : (zeroValue 3).run Tryz.prog w = .ok (.int .i64 0) w := by kernel_rfl
def keyS (s : ByteArray) : Lit := .string s.data.toList
theorem key_of {s : ByteArray} (h : s.size ≤ maxLen) : keyOf Tryz.prog 9 (.string s) = some (keyS s) := WideMaps.keyOf_string_mk Tryz.underlying9 h
theorem keyS_ne {a b : ByteArray} (h : ¬ a = b) : keyS a ≠ keyS b := by
  intro e
  apply h
  exact ba_ext (by simpa [keyS] using e)
theorem keyS_lit (a : ByteArray) : WideAt.IsKeyLit (keyS a) := trivial
/-- What the map D tells of each text. -/
def MapIs (D : DataW Unit) (M : ByteArray → Option Int) : Prop := IsMap D ∧ ∀ s, Maps.has D (keyS s) = (M s).isSome ∧ ∀ c, M s = some c → D.atKey (keyS s) (.lit (.int .i64 0)) = .lit (.int .i64 c)
/-- Block b is a map from texts to numbers of at most n entries. -/
def MapAt (w : World) (b n : Nat) (M : ByteArray → Option Int) : Prop := ∃ D : DataW Unit, w.ownsMap Tryz.prog 9 (plainElem Tryz.prog 3) b n D ∧ MapIs D M
def putM (M : ByteArray → Option Int) (s : ByteArray) (c : Int) : ByteArray → Option Int := fun t => if t = s then some c else M t
theorem MapIs.put {D : DataW Unit} {M : ByteArray → Option Int} (h : MapIs D M) (s : ByteArray) (c : Int) : MapIs (D.put (keyS s) (.lit (.int .i64 c))) (putM M s c) := by
  refine ⟨h.1.put _ _, fun t => ?_⟩
  by_cases e : t = s
  · subst e
    refine ⟨by rw [Maps.has_put_same h.1 (keyS_lit _)]; simp [putM], fun d hd => ?_⟩
    rw [Maps.atKey_put_same h.1 (keyS_lit _)]
    simp [putM] at hd
    rw [hd]
  · refine ⟨by rw [Maps.has_put_other (keyS_ne e), (h.2 t).1]; simp [putM, e], fun d hd => ?_⟩
    rw [Maps.atKey_put_other (keyS_ne e)]
    simp [putM, e] at hd
    exact (h.2 t).2 d hd
theorem mapIs_empty : MapIs (.map []) (fun _ => none) := ⟨isMap_empty, fun _ => ⟨rfl, fun _ h => by cases h⟩⟩
theorem mapAt_made (w : World) : MapAt (w.alloc (.map #[] 0)) w.heap.size 0 (fun _ => none) := ⟨.map [], World.ownsMap_made w _ _ _, mapIs_empty⟩
theorem MapAt.kept {w w' : World} {b n : Nat} {M : ByteArray → Option Int} {row : Option Nat} (h : MapAt w b n M) (hg : w.grownBy w' row) (hne : some b ≠ row) : MapAt w' b n M := by
  obtain ⟨D, ho, hs⟩ := h
  exact ⟨D, World.ownsMap.kept ho hg hne, hs⟩
theorem ownsMap_below {w w' : World} {k : TypeId} {R : Value → Option (DataW Unit × List MemPlace)} {b n : Nat} {D : DataW Unit} (h : w.ownsMap Tryz.prog k R b n D) (hb : Below w.heap.size w w') : w'.ownsMap Tryz.prog k R b n D :=
  World.ownsMap.kept h (row := none) ⟨hb.os, hb.tape, hb.output, hb.size, fun k hk _ => hb.block k hk⟩ (by simp)
theorem MapAt.below {w w' : World} {b n : Nat} {M : ByteArray → Option Int} (h : MapAt w b n M) (hb : Below w.heap.size w w') : MapAt w' b n M := by
  obtain ⟨D, ho, hs⟩ := h
  exact ⟨D, ownsMap_below ho hb, hs⟩
theorem MapAt.lt {w : World} {b n : Nat} {M : ByteArray → Option Int} (h : MapAt w b n M) : b < w.heap.size := by
  obtain ⟨D, ho, _⟩ := h
  exact World.ownsMap.lt ho
/-- The set D of texts. -/
def SetSIs (D : DataW Unit) (T : ByteArray → Bool) : Prop := IsMap D ∧ ∀ s, Maps.has D (keyS s) = T s
def SetSAt (w : World) (b n : Nat) (T : ByteArray → Bool) : Prop := ∃ D : DataW Unit, w.ownsMap Tryz.prog 9 (unitElem (H := Unit)) b n D ∧ SetSIs D T
def putT (T : ByteArray → Bool) (s : ByteArray) : ByteArray → Bool := fun t => decide (t = s) || T t
theorem SetSIs.put {D : DataW Unit} {T : ByteArray → Bool} (h : SetSIs D T) (s : ByteArray) (u : DataW Unit) : SetSIs (D.put (keyS s) u) (putT T s) := by
  refine ⟨h.1.put _ _, fun t => ?_⟩
  by_cases e : t = s
  · subst e
    rw [Maps.has_put_same h.1 (keyS_lit _)]; simp [putT]
  · rw [Maps.has_put_other (keyS_ne e), h.2 t]; simp [putT, e]
theorem setS_made (w : World) : SetSAt (w.alloc (.map #[] 0)) w.heap.size 0 (fun _ => false) := ⟨.map [], World.ownsMap_made w _ _ _, isMap_empty, fun _ => rfl⟩
theorem SetSAt.kept {w w' : World} {b n : Nat} {T : ByteArray → Bool} {row : Option Nat} (h : SetSAt w b n T) (hg : w.grownBy w' row) (hne : some b ≠ row) : SetSAt w' b n T := by
  obtain ⟨D, ho, hs⟩ := h
  exact ⟨D, World.ownsMap.kept ho hg hne, hs⟩
theorem SetSAt.below {w w' : World} {b n : Nat} {T : ByteArray → Bool} (h : SetSAt w b n T) (hb : Below w.heap.size w w') : SetSAt w' b n T := by
  obtain ⟨D, ho, hs⟩ := h
  exact ⟨D, ownsMap_below ho hb, hs⟩
theorem SetSAt.lt {w : World} {b n : Nat} {T : ByteArray → Bool} (h : SetSAt w b n T) : b < w.heap.size := by
  obtain ⟨D, ho, _⟩ := h
  exact World.ownsMap.lt ho
end Go.Proofs.YtcnmbolmgifgfabGreatDoor

/- ListOk by the kinds of the entries so far: plain mathematics. -/
namespace Go.Proofs.YtcnmbolmgifgfabGreatDoor
open Go.RowKit

/-- The kind of the first entry with a path. -/
def kindOf (L : List Ent) (p : ByteArray) : Option Int := (L.find? fun e => decide (e.path = p)).map Ent.kind
theorem findFrom_kind (L : List Ent) (p : ByteArray) (i : Nat) : (kindOf L p = none ∧ findFrom L p i = -1) ∨ ∃ (a : Nat) (e : Ent), kindOf L p = some e.kind ∧ findFrom L p i = ((i + a : Nat) : Int) ∧ L[a]? = some e ∧ e.path = p := by
  induction L generalizing i with
  | nil => exact .inl ⟨rfl, rfl⟩
  | cons e L ih =>
    rw [findFrom]
    by_cases h : e.path = p
    · exact .inr ⟨0, e, by simp [kindOf, h], by simp [h], rfl, h⟩
    · rw [if_neg h]
      have hk : kindOf (e :: L) p = kindOf L p := by simp [kindOf, h]
      rw [hk]
      rcases ih (i + 1) with h1 | ⟨a, e', h0, h1, h2, h3⟩
      · exact .inl h1
      · exact .inr ⟨a + 1, e', h0, by rw [h1]; congr 1; omega, by simpa using h2, h3⟩
theorem find_kind (L : List Ent) (p : ByteArray) : (kindOf L p = none ∧ findv L p = -1) ∨ ∃ (a : Nat) (e : Ent), kindOf L p = some e.kind ∧ findv L p = (a : Int) ∧ L[a]? = some e ∧ e.path = p := by
  rcases findFrom_kind L p 0 with h | ⟨a, e, h0, h1, h2, h3⟩
  · exact .inl h
  · exact .inr ⟨a, e, h0, by rw [findv, h1]; simp, h2, h3⟩
theorem fileAt_kind (L : List Ent) (p : ByteArray) : fileAt L p = decide (kindOf L p = some 0) := by
  rcases find_kind L p with ⟨h, h1⟩ | ⟨a, e, h, h1, h2, _⟩
  · rw [fileAt_none h1, h]; simp
  · rw [fileAt_some h1 h2, h]; simp
theorem findFrom_app (L M : List Ent) (p : ByteArray) (i : Nat) : findFrom (L ++ M) p i = if kindOf L p = none then findFrom M p (i + L.length) else findFrom L p i := by
  induction L generalizing i with
  | nil => simp [kindOf]
  | cons e L ih =>
    rw [List.cons_append, findFrom]
    by_cases h : e.path = p
    · simp [kindOf, h, findFrom]
    · have hk : kindOf (e :: L) p = kindOf L p := by simp [kindOf, h]
      rw [if_neg h, ih, hk]
      simp only [List.length_cons, findFrom, if_neg h]
      rw [show i + 1 + L.length = i + (L.length + 1) from by omega]
theorem find_self {L : List Ent} {i : Nat} {e : Ent} (he : L[i]? = some e) : findv L e.path = (i : Int) ↔ kindOf (L.take i) e.path = none := by
  have hlt : i < L.length := (List.getElem?_eq_some_iff.1 he).1
  have hL : L = L.take i ++ (e :: L.drop (i + 1)) := by
    have h1 := (List.getElem?_eq_some_iff.1 he).2
    conv => lhs; rw [← List.take_append_drop i L]
    rw [List.drop_eq_getElem_cons hlt, h1]
  have hl : (L.take i).length = i := by simp; omega
  constructor
  · intro h
    cases hk : kindOf (L.take i) e.path with
    | none => rfl
    | some c =>
      rw [findv, hL, findFrom_app, if_neg (by rw [hk]; simp)] at h
      rcases findFrom_kind (L.take i) e.path 0 with ⟨h0, _⟩ | ⟨a, e', _, h1, h2, _⟩
      · rw [h0] at hk; cases hk
      · have := (List.getElem?_eq_some_iff.1 h2).1
        rw [h1] at h
        omega
  · intro h
    rw [findv]
    conv => lhs; rw [hL]
    rw [findFrom_app, if_pos h, findFrom, if_pos rfl, hl]
    simp
theorem entAtOk_kind {L : List Ent} {i : Nat} {e : Ent} (he : L[i]? = some e) : entAtOk L i e = (entOkv e && decide (kindOf (L.take i) e.path = none) && (if e.kind = 3 then decide (kindOf (L.take i) e.link = some 0) else true)) := by
  rw [entAtOk, fileAt_kind]
  congr 2
  rw [decide_eq_decide]
  exact find_self he
theorem kindOf_snoc {L : List Ent} {i : Nat} {e : Ent} (he : L[i]? = some e) (hk : kindOf (L.take i) e.path = none) : kindOf (L.take (i + 1)) = putM (kindOf (L.take i)) e.path e.kind := by
  have hlt : i < L.length := (List.getElem?_eq_some_iff.1 he).1
  have h1 := (List.getElem?_eq_some_iff.1 he).2
  funext p
  rw [List.take_succ_eq_append_getElem hlt, h1]
  simp only [kindOf, putM, List.find?_append] at hk ⊢
  by_cases h : p = e.path
  · subst h
    simp at hk
    have : List.find? (fun e' => decide (e'.path = e.path)) (List.take i L) = none := by
      rw [List.find?_eq_none]
      intro x hx
      simpa using hk x hx
    simp [this]
  · have h' : ¬ e.path = p := fun x => h x.symm
    simp [h, h']
theorem kindOf_zero (L : List Ent) : kindOf (L.take 0) = fun _ => none := by
  funext p; simp [kindOf]
theorem entOk_kind (e : Ent) (h : entOkv e = true) : -9223372036854775808 ≤ e.kind ∧ e.kind ≤ 9223372036854775807 := by
  simp only [entOkv, Bool.and_eq_true] at h
  have h2 := h.2
  unfold kindOk at h2
  split at h2
  · omega
  · split at h2
    · omega
    · split at h2
      · omega
      · split at h2
        · omega
        · cases h2
end Go.Proofs.YtcnmbolmgifgfabGreatDoor

/- Contract of impl.ListOk. -/
namespace Go.Proofs.YtcnmbolmgifgfabGreatDoor
open Go.ChangeShapes Go.WideShapes Go.ChangeAt Go.RowKit Go.Deep Go.Maps

theorem listOk_long {L : List Ent} (h : 30 < L.length) : listOkv L = false := by
  rw [listOkv, decide_eq_false (by omega)]; simp
set_option maxHeartbeats 1600000 in
theorem listOk_impl (L : List Ent) (n g cap : Nat) (w : World) (hn : n = L.length) (hm : n ≤ 4194304) (hg : g < w.heap.size) (hsm : SmallL L) (h1 : RowE w g L) :
    Calls Tryz.prog 47 #[.slice (some ⟨g, 0, none⟩) n cap] w fun e w' => e = .returned (.bool (listOkv L)) ∧ Below w.heap.size w w' := by
  have H1 := Lib.hid h1
  have HG : Hid (∀ i, i < n → ∃ e, L[i]? = some e ∧ esz e ≤ 4194304) := Lib.hid (fun i hi => by obtain ⟨e, he⟩ := getE' (L := L) (i := i) (by omega); exact ⟨e, he, hsm.get he⟩)
  have HBad : Hid (∀ i e, L[i]? = some e → entAtOk L i e = false → listOkv L = false) := Lib.hid (fun i e he hk => listOk_bad he hk)
  have HDone : Hid (OksTo L n → n ≤ 30 → listOkv L = true) := Lib.hid (by rw [hn]; intro h h2; rw [listOk_done h]; simpa using h2)
  have HLong : Hid (30 < n → listOkv L = false) := Lib.hid (by rw [hn]; exact listOk_long)
  generalize listOkv L = r at HBad HDone HLong
  clear h1 hn hsm
  by_cases h30 : 30 < n
  · have h30' : (30 : Int) < (n : Int) := by omega
    have HX := Lib.hid (HLong.out h30)
    go_enter Tryz.func47, Tryz.ntmps47
    go_wp2_with fail
    go_ret
    exact ⟨ret_bool HX.out.symm, Below.refl _ _⟩
  have h30' : ¬ (30 : Int) < (n : Int) := by omega
  have hmm := @run_makeMap Tryz.prog
  go_enter Tryz.func47, Tryz.ntmps47
  go_wp2_with fail
  go_loopw [5, 6, 7, 8, 9, 16] (fun _ _ _ _ _ u wr => ∃ i : Nat, u = .int .i64 i ∧ i ≤ n ∧ OksTo L i ∧ MapAt wr w.heap.size i (kindOf (L.take i)) ∧ Below w.heap.size w wr) (fun _ _ _ _ _ u _ => n - (intOf u).toNat)
  case atStart => exact ⟨0, rfl, Nat.zero_le _, fun j hj => by omega, by rw [kindOf_zero]; exact mapAt_made w, (Below.refl _ _).alloc (Nat.le_refl _) _⟩
  case round =>
    obtain ⟨i, rfl, hi, hr, hmap, hb⟩ := hrel
    have HR := Lib.hid hr
    have B := Lib.hid hb
    have HMp := Lib.hid hmap
    have zm := hmap.lt
    clear hr hb hmap hmm
    by_cases hlt : i < n
    · have hlt2 : (i : Int) < (n : Int) := by omega
      obtain ⟨e, he, hz⟩ := HG.out i hlt
      have R := Lib.hid (H1.out.below B.out hg)
      obtain ⟨c0, c1, c2, c3, c4, c5, c6, c7, c8, c9⟩ := R.out.ten he
      have HBi := Lib.hid (HBad.out i e he)
      have HSi := Lib.hid (fun hk => HR.out.step he hk)
      have HA := Lib.hid (entAtOk_kind he)
      have HK := Lib.hid (fun h => kindOf_snoc he h)
      clear he HBad HG HR
      have hsz := small_parts hz
      generalize kindOf (L.take i) = M at HMp HA HK
      obtain ⟨k, p, l, m, u, g0, t, us, gr, b⟩ := e
      have HO := Lib.hid (fun w => entryOk_impl k p l m u g0 t us gr b w hsz.1 hsz.2.1 hsz.2.2.1 hsz.2.2.2.1)
      dsimp only at hsz
      have kp : p.size ≤ maxLen := by have := hsz.1; simp only [maxLen]; omega
      have kl : l.size ≤ maxLen := by have := hsz.2.1; simp only [maxLen]; omega
      have HKd := Lib.hid (entOk_kind ⟨k, p, l, m, u, g0, t, us, gr, b⟩)
      generalize entAtOk L i ⟨k, p, l, m, u, g0, t, us, gr, b⟩ = ra at HA HBi HSi
      generalize entOkv ⟨k, p, l, m, u, g0, t, us, gr, b⟩ = b1 at HA HO HKd
      dsimp only at HA HK HKd
      clear hsz hz
      have zr : g < wr.heap.size := by have := B.out.size; omega
      obtain ⟨D, ho, hD⟩ := HMp.out
      have OM := Lib.hid ho
      have HD := Lib.hid hD
      clear ho hD HMp
      have HP := Lib.hid (HD.out.2 p).1
      have HLk := Lib.hid (HD.out.2 l)
      cases hp : M p with
      | some x =>
        have hh : Maps.has D (keyS p) = true := by rw [HP.out, hp]; rfl
        have HX : Hid (r = false) := Lib.hid (HBi.out (by rw [HA.out, hp]; simp))
        clear HA HK HP HLk HBi HSi HO HD hp
        go_wp2_with (at_lookup; refine wpList_lookup_own_ok_int _ rfl _ _ 107 rfl 9 3 .i64 lawS Tryz.underlying107 Tryz.underlying3 (zeroN _) w.heap.size i D rfl (OM.out.alloc _) _ _ rfl (key_of kp) ?_; intro c _ _)
        go_ret
        exact ⟨ret_bool HX.out.symm, B.out.alloc B.out.size _⟩
      | none =>
        have hh : Maps.has D (keyS p) = false := by rw [HP.out, hp]; rfl
        have HN := Lib.hid (HK.out hp)
        have HA2 : Hid (ra = (b1 && (if k = 3 then decide (M l = some 0) else true))) := Lib.hid (by rw [HA.out, hp]; simp)
        clear HA HK HP hp
        go_wp2_with (at_lookup; refine wpList_lookup_own_ok_int _ rfl _ _ 107 rfl 9 3 .i64 lawS Tryz.underlying107 Tryz.underlying3 (zeroN _) w.heap.size i D rfl (OM.out.alloc _) _ _ rfl (key_of kp) ?_; intro c _ _)
        refine (HO.out _).mono ?_
        rintro e w1 ⟨rfl, hb⟩
        have O1 := Lib.hid (ownsMap_below (OM.out.alloc _) hb)
        obtain ⟨k1, bb, z1⟩ := one_new (e1 := ⟨k, p, l, m, u, g0, t, us, gr, b⟩) hb
        have E1 := Lib.hid k1
        have B1 := Lib.hid (btE B.out bb)
        clear hb k1 bb c0 c1 c2 c3 c4 c5 c6 c7 c8 c9 R B HO OM hh
        obtain ⟨c0, c1, c2, c3, c4, c5, c6, c7, c8, c9⟩ := E1.out.zero
        have hsz1 := B1.out.size
        cases b1 with
        | false =>
          go_wp2_with fail
          go_ret
          exact ⟨ret_bool (HBi.out (by rw [HA2.out]; simp)).symm, B1.out⟩
        | true =>
          by_cases hk : k = 3
          · subst hk
            cases hl : M l with
            | none =>
              have hh : Maps.has D (keyS l) = false := by rw [HLk.out.1, hl]; rfl
              have HX : Hid (r = false) := Lib.hid (HBi.out (by rw [HA2.out, hl]; simp))
              clear HA2 HBi HSi HLk hl HN
              go_wp2_with (at_lookup; refine wpList_lookup_own_ok_int _ rfl _ _ 107 rfl 9 3 .i64 lawS Tryz.underlying107 Tryz.underlying3 (zeroN _) w.heap.size i D rfl O1.out _ _ rfl (key_of kl) ?_; intro c' _ _)
              go_ret
              exact ⟨ret_bool HX.out.symm, B1.out⟩
            | some x =>
              have hh : Maps.has D (keyS l) = true := by rw [HLk.out.1, hl]; rfl
              have HT := Lib.hid (HLk.out.2 x hl)
              by_cases hx : x = 0
              · subst hx
                have HS := Lib.hid (HSi.out (by rw [HA2.out, hl]; simp))
                clear HA2 HBi HSi HLk hl
                go_wp2_with (first | (at_lookup; refine wpList_lookup_own_ok_int _ rfl _ _ 107 rfl 9 3 .i64 lawS Tryz.underlying107 Tryz.underlying3 (zeroN _) w.heap.size i D rfl O1.out _ _ rfl (key_of kl) ?_; intro c' hat _; obtain rfl : c' = 0 := (by have := hat.symm.trans HT.out; simpa using this); clear hat) | (at_mapUpdate; refine wpList_mapUpdate_own _ rfl _ _ _ 107 rfl 9 3 lawS Tryz.underlying107 _ w.heap.size i D rfl O1.out (by simp only [maxLen]; omega) _ _ _ rfl rfl (key_of kp) _ [] (plainElem_int Tryz.underlying3 (by decide)) ?_; intro w2 hown2 hgrow2))
                have HM2 : Hid (MapAt w2 w.heap.size (i + 1) (kindOf (L.take (i + 1)))) := Lib.hid (by rw [HN.out]; exact ⟨_, hown2, HD.out.put p 3⟩)
                have B2 : Hid (Below w.heap.size w w2) := Lib.hid (B1.out.grown hgrow2 hsz1 (fun b hb => by cases hb; exact Nat.le_refl _))
                clear hown2 hgrow2 HN HT hh
                go_wp2_with fail
                go_roundw
                case rel => exact ⟨i + 1, by go_num, by omega, HS.out, HM2.out, B2.out⟩
                case measure => simp [intOf]; omega
              · have HX : Hid (r = false) := Lib.hid (HBi.out (by rw [HA2.out, hl]; simp [hx]))
                have hx2 : (x != 0) = true := by simpa using hx
                clear HA2 HBi HSi HLk hl HN hx
                go_wp2_with (at_lookup; refine wpList_lookup_own_ok_int _ rfl _ _ 107 rfl 9 3 .i64 lawS Tryz.underlying107 Tryz.underlying3 (zeroN _) w.heap.size i D rfl O1.out _ _ rfl (key_of kl) ?_; intro c' hat _; obtain rfl : c' = x := (by have := hat.symm.trans HT.out; simpa using this); clear hat)
                go_ret
                exact ⟨ret_bool HX.out.symm, B1.out⟩
          · have HS := Lib.hid (HSi.out (by rw [HA2.out]; simp [hk]))
            have hk2 : (k == 3) = false := by simpa using hk
            have hk3 : decide (k = 3) = false := by simpa using hk
            have hwk : (Lit.int .i64 k).wf = true := WalkArith.wf_i64 (HKd.out rfl)
            clear HA2 HBi HSi HLk hk
            go_wp2_with (first | (at_lookup; refine wpList_lookup_own_ok_int _ rfl _ _ 107 rfl 9 3 .i64 lawS Tryz.underlying107 Tryz.underlying3 (zeroN _) w.heap.size i D rfl O1.out _ _ rfl (key_of kl) ?_; intro c' _ _) | (at_mapUpdate; refine wpList_mapUpdate_own _ rfl _ _ _ 107 rfl 9 3 lawS Tryz.underlying107 _ w.heap.size i D rfl O1.out (by simp only [maxLen]; omega) _ _ _ rfl rfl (key_of kp) _ [] (plainElem_int Tryz.underlying3 hwk) ?_; intro w2 hown2 hgrow2))
            have HM2 : Hid (MapAt w2 w.heap.size (i + 1) (kindOf (L.take (i + 1)))) := Lib.hid (by rw [HN.out]; exact ⟨_, hown2, HD.out.put p k⟩)
            have B2 : Hid (Below w.heap.size w w2) := Lib.hid (B1.out.grown hgrow2 hsz1 (fun b hb => by cases hb; exact Nat.le_refl _))
            clear hown2 hgrow2 HN
            go_wp2_with fail
            go_roundw
            case rel => exact ⟨i + 1, by go_num, by omega, HS.out, HM2.out, B2.out⟩
            case measure => simp [intOf]; omega
    · obtain rfl : i = n := by omega
      have hlt2 : ¬ (i : Int) < (i : Int) := by omega
      have HFin := Lib.hid (HDone.out HR.out (by omega))
      go_wp2_with fail
      go_ret
      exact ⟨ret_bool HFin.out.symm, B.out⟩
end Go.Proofs.YtcnmbolmgifgfabGreatDoor

/- Maps from numbers to numbers that a call makes: how often each number has come. -/
namespace Go.Proofs.YtcnmbolmgifgfabGreatDoor
open Go.ChangeShapes Go.WideShapes Go.ChangeAt Go.RowKit Go.Maps

theorem lawIn : Keyed Tryz.prog 3 := int_keyed Tryz.underlying3
theorem zeroIn (w : World) : (zeroValue 3).run Tryz.prog w = .ok (.int .i64 0) w := by kernel_rfl
def keyIn (x : Int) : Lit := .int .i64 x
theorem wf_in {x : Int} (h0 : -9223372036854775808 ≤ x) (h1 : x ≤ 9223372036854775807) : (Lit.int .i64 x).wf = true := WalkArith.wf_i64 (by omega)
theorem key_in {x : Int} (h0 : -9223372036854775808 ≤ x) (h1 : x ≤ 9223372036854775807) : keyOf Tryz.prog 3 (.int .i64 x) = some (keyIn x) := keyOf_int_mk Tryz.underlying3 (wf_in h0 h1)
theorem keyIn_ne {a b : Int} (h : ¬ a = b) : keyIn a ≠ keyIn b := by
  intro e
  apply h
  simpa [keyIn] using e
/-- What the map D tells of each number; 0 where it does not hold it. -/
def CntIs (D : DataW Unit) (M : Int → Int) : Prop := IsMap D ∧ ∀ x, D.atKey (keyIn x) (.lit (.int .i64 0)) = .lit (.int .i64 (M x))
def CntAt (w : World) (b n : Nat) (M : Int → Int) : Prop := ∃ D : DataW Unit, w.ownsMap Tryz.prog 3 (plainElem Tryz.prog 3) b n D ∧ CntIs D M
def putN (M : Int → Int) (x c : Int) : Int → Int := fun y => if y = x then c else M y
theorem CntIs.put {D : DataW Unit} {M : Int → Int} (h : CntIs D M) (x c : Int) : CntIs (D.put (keyIn x) (.lit (.int .i64 c))) (putN M x c) := by
  refine ⟨h.1.put _ _, fun y => ?_⟩
  by_cases e : y = x
  · subst e
    rw [Maps.atKey_put_same h.1 (show WideAt.IsKeyLit (keyIn y) from trivial)]
    simp [putN]
  · rw [Maps.atKey_put_other (keyIn_ne e), h.2 y]
    simp [putN, e]
theorem cnt_made (w : World) : CntAt (w.alloc (.map #[] 0)) w.heap.size 0 (fun _ => 0) := ⟨.map [], World.ownsMap_made w _ _ _, isMap_empty, fun _ => rfl⟩
theorem CntAt.kept {w w' : World} {b n : Nat} {M : Int → Int} {row : Option Nat} (h : CntAt w b n M) (hg : w.grownBy w' row) (hne : some b ≠ row) : CntAt w' b n M := by
  obtain ⟨D, ho, hs⟩ := h
  exact ⟨D, World.ownsMap.kept ho hg hne, hs⟩
theorem CntAt.below {w w' : World} {b n : Nat} {M : Int → Int} (h : CntAt w b n M) (hb : Below w.heap.size w w') : CntAt w' b n M := by
  obtain ⟨D, ho, hs⟩ := h
  exact ⟨D, World.ownsMap.kept ho (row := none) ⟨hb.os, hb.tape, hb.output, hb.size, fun k hk _ => hb.block k hk⟩ (by simp), hs⟩
theorem CntAt.lt {w : World} {b n : Nat} {M : Int → Int} (h : CntAt w b n M) : b < w.heap.size := by
  obtain ⟨D, ho, _⟩ := h
  exact World.ownsMap.lt ho
end Go.Proofs.YtcnmbolmgifgfabGreatDoor
