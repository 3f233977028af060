/- The text of a card; contracts of spec.l07Wide, spec.l07Octs and spec.PutCard. -/
import Derived.Test.YtpimeekcnndhiaaGreatDoorCardO
import Derived.Test.YtpimeekcnndhiaaGreatDoorPutOH
import Derived.Test.YtpimeekcnndhiaaGreatDoorRegSl
import Derived.Deep.DeepCutAuto
import Derived.OwnWalk
namespace Go.Proofs.YtpimeekcnndhiaaGreatDoor
open Go.ChangeShapes Go.WideShapes Go.ChangeAt Go.RowKit Go.Deep

/-- The numbers of a card's head and their widths. -/
def flds (c : Card) : List (Int × Int) := [(0, 6), (c.Ino, 6), (c.Mode, 6), (c.Uid, 6), (c.Gid, 6), (c.Count, 6), (0, 6), (c.Time, 11), ((c.Path.size : Int) + 1, 6), ((c.Data.size : Int), 11)]
def octsOk (L : List (Int × Int)) : Bool := L.all fun x => (putOctv x.1 x.2).2
def octsB : List (Int × Int) → List UInt8
  | [] => []
  | x :: L => (putOctv x.1 x.2).1.data.toList ++ octsB L
def octsS (L : List (Int × Int)) : ByteArray := ⟨(octsB L).toArray⟩
theorem octsB_app (L M : List (Int × Int)) : octsB (L ++ M) = octsB L ++ octsB M := by
  induction L with
  | nil => rfl
  | cons x L ih => simp [octsB, ih]
theorem ba_appK (a b : List UInt8) : (⟨(a ++ b).toArray⟩ : ByteArray) = ⟨a.toArray⟩ ++ ⟨b.toArray⟩ := by
  apply ba_ext
  simp
theorem ba_self (s : ByteArray) : (⟨s.data.toList.toArray⟩ : ByteArray) = s := by cases s; simp
theorem octsS_snoc (L : List (Int × Int)) (x : Int × Int) : octsS (L ++ [x]) = octsS L ++ (putOctv x.1 x.2).1 := by
  have h : octsB [x] = (putOctv x.1 x.2).1.data.toList := by simp [octsB]
  rw [octsS, octsB_app, ba_appK, h, ba_self, octsS]
theorem octsOk_take {L : List (Int × Int)} {i : Nat} {x : Int × Int} (h : L[i]? = some x) : octsOk (L.take (i + 1)) = (octsOk (L.take i) && (putOctv x.1 x.2).2) := by
  rw [List.take_add_one, h]
  simp [octsOk]
theorem octsOk_bad {L : List (Int × Int)} {i : Nat} {x : Int × Int} (h : L[i]? = some x) (hk : (putOctv x.1 x.2).2 = false) : octsOk L = false := by
  rw [octsOk, List.all_eq_false]
  exact ⟨x, List.mem_of_getElem? h, by simp [hk]⟩
theorem octs_take {L : List (Int × Int)} {i : Nat} {x : Int × Int} (h : L[i]? = some x) : octsS (L.take (i + 1)) = octsS (L.take i) ++ (putOctv x.1 x.2).1 := by
  rw [List.take_add_one, h]
  exact octsS_snoc _ _
theorem putOct_le (n width : Int) : (putOctv n width).1.size ≤ 20 := by
  unfold putOctv
  split
  · rename_i h
    have h1 := h.1.2.2
    show (ahead (numeral 8 n.toNat) width).toArray.size ≤ 20
    rw [List.size_toArray, ahead_len]
    have h2 := h.1
    unfold Valid at h2
    omega
  · exact Nat.zero_le _
theorem octsS_le (L : List (Int × Int)) : (octsS L).size ≤ 20 * L.length := by
  induction L with
  | nil => exact Nat.zero_le _
  | cons x L ih =>
    have h1 := putOct_le x.1 x.2
    have e1 : (octsS (x :: L)).size = (octsB (x :: L)).length := by simp [octsS, ByteArray.size]
    have e2 : (octsS L).size = (octsB L).length := by simp [octsS, ByteArray.size]
    have e3 : (putOctv x.1 x.2).1.data.toList.length = (putOctv x.1 x.2).1.size := Array.length_toList
    rw [e1, octsB, List.length_append, e3, List.length_cons]
    omega
def octsR (L : List (Int × Int)) : ByteArray := if octsOk L then octsS L else ⟨#[]⟩
theorem octsS_nil : octsS [] = ⟨#[]⟩ := rfl
/-- The text of a card: none where a number has no room. -/
def cardTextv (c : Card) : ByteArray := if octsOk (flds c) then ⟨#[48, 55, 48, 55, 48, 55]⟩ ++ octsS (flds c) ++ c.Path ++ ⟨#[0]⟩ ++ c.Data else ⟨#[]⟩
def wideC : List Int := [6, 6, 6, 6, 6, 6, 6, 11, 6, 11]
/-- A row of numbers. -/
def RowN (w : World) (g : Nat) (l : List Int) : Prop := ∀ i x, l[i]? = some x → w.cell? ⟨g, i, none⟩ = some (.int .i64 x)
theorem RowN.below {w w' : World} {g B : Nat} {l : List Int} (h : RowN w g l) (hb : Below B w w') (hg : g < B) : RowN w' g l := fun i x hx => (hb.cell (p := ⟨g, i, none⟩) hg).trans (h i x hx)
theorem RowN.of {w : World} {g : Nat} {l : List Int} {ty : TypeId} (h : w.heap[g]? = some (.cells (l.map (fun x => Value.int .i64 x)).toArray ty (0, 0))) : RowN w g l := by
  intro i x hx
  simp only [World.cell?, h]
  simp [hx]
theorem wide_spec (w : World) : Calls Tryz.prog 25 #[] w fun e w' => ∃ G, e = .returned (.slice (some ⟨G, 0, none⟩) 10 10) ∧ w.heap.size ≤ G ∧ w'.heap[G]? = some (.cells #[.int .i64 6, .int .i64 6, .int .i64 6, .int .i64 6, .int .i64 6, .int .i64 6, .int .i64 6, .int .i64 11, .int .i64 6, .int .i64 11] 3 (0, 0)) ∧ Below w.heap.size w w' := by
  go_enter Tryz.func25, Tryz.ntmps25
  go_wp2_with fail
  go_ret
  exact ⟨w.heap.size, rfl, Nat.le_refl _, heap_lastG _ _, (Below.refl _ _).alloc (Nat.le_refl _) _⟩
set_option maxHeartbeats 3200000 in
set_option maxRecDepth 8000 in
theorem octs_spec (L : List (Int × Int)) (n g g2 : Nat) (w : World) (hn : n = L.length) (hm : n ≤ 1000) (hg : g < w.heap.size) (hg2 : g2 < w.heap.size) (h1 : RowN w g (L.map Prod.fst)) (h2 : RowN w g2 (L.map Prod.snd)) :
    Calls Tryz.prog 24 #[.slice (some ⟨g, 0, none⟩) n n, .slice (some ⟨g2, 0, none⟩) n n] w fun e w' => e = .returned (.tuple #[.string (octsR L), .bool (octsOk L)]) ∧ Below w.heap.size w w' := by
  have H1 := Lib.hid h1
  have H2 := Lib.hid h2
  have HG : Hid (∀ i, i < n → ∃ x, L[i]? = some x ∧ (L.map Prod.fst)[i]? = some x.1 ∧ (L.map Prod.snd)[i]? = some x.2) := Lib.hid (fun i hi => by
    have hx : L[i]? = some L[i] := List.getElem?_eq_getElem (by omega)
    exact ⟨L[i], hx, by simp [hx], by simp [hx]⟩)
  have HS := Lib.hid (fun i x (h : L[i]? = some x) => octs_take h)
  have HK := Lib.hid (fun i x (h : L[i]? = some x) => octsOk_take h)
  have HB := Lib.hid (fun i x (h : L[i]? = some x) hk => octsOk_bad h hk)
  have HZ : Hid (octsS (L.take 0) = ⟨#[]⟩ ∧ octsOk (L.take 0) = true) := Lib.hid ⟨rfl, rfl⟩
  have HF : Hid (octsS (L.take n) = octsS L ∧ octsOk (L.take n) = octsOk L) := Lib.hid (by rw [hn, List.take_length]; exact ⟨rfl, rfl⟩)
  have HLe : Hid (∀ i, i ≤ n → (octsS (L.take i)).size ≤ 20000) := Lib.hid (fun i _ => by have h8 := octsS_le (L.take i); rw [List.length_take] at h8; omega)
  have HP := Lib.hid (fun n width w => putOct_spec n width w)
  have HPl := Lib.hid putOct_le
  have HR : Hid (octsR L = if octsOk L then octsS L else ⟨#[]⟩) := Lib.hid rfl
  generalize octsR L = res at HR
  generalize octsOk L = ok at HF HB HR
  generalize octsS L = r at HF HR
  clear h1 h2 hn
  go_enter Tryz.func24, Tryz.ntmps24
  go_wp2_with fail
  go_loopw [6, 7, 8, 9] (fun v u _ _ wr => ∃ i : Nat, u = .int .i64 i ∧ i ≤ n ∧ octsOk (L.take i) = true ∧ v = .string (octsS (L.take i)) ∧ Below w.heap.size w wr) (fun _ u _ _ _ => n - (intOf u).toNat)
  case atStart => exact ⟨0, rfl, Nat.zero_le _, HZ.out.2, by rw [HZ.out.1], Below.refl _ _⟩
  case round =>
    obtain ⟨i, rfl, hi, hok, rfl, hb⟩ := hrel
    obtain ⟨w5, hw5⟩ : ∃ wo, wo = wr := ⟨_, rfl⟩
    subst hw5
    have B := Lib.hid hb
    have hszB := B.out.size
    have HOk := Lib.hid hok
    clear hb hok
    by_cases hlt : i < n
    · have hlt2 : (i : Int) < (n : Int) := by omega
      obtain ⟨⟨x, y⟩, hx, hx1, hx2⟩ := HG.out i hlt
      have HS2 := Lib.hid (HS.out i _ hx)
      have HK2 := Lib.hid (HK.out i _ hx)
      have HB2 := Lib.hid (HB.out i _ hx)
      simp only at HS2 HK2 HB2 hx1 hx2
      have hle := HLe.out i hi
      have hpl := HPl.out x y
      have KC : Hid (∀ w', Below w5.heap.size w5 w' → w'.cell? ⟨g, i, none⟩ = some (.int .i64 x) ∧ w'.cell? ⟨g2, i, none⟩ = some (.int .i64 y)) := Lib.hid (fun w' hb => ⟨(hb.cell (p := ⟨g, i, none⟩) (by simp; omega)).trans ((B.out.cell (p := ⟨g, i, none⟩) (by simp; omega)).trans (H1.out i x hx1)), (hb.cell (p := ⟨g2, i, none⟩) (by simp; omega)).trans ((B.out.cell (p := ⟨g2, i, none⟩) (by simp; omega)).trans (H2.out i y hx2))⟩)
      have HP2 := Lib.hid (fun w => HP.out x y w)
      clear hx hx1 hx2 HS HK HB HG HP
      obtain ⟨T, hT⟩ : ∃ T, octsS (L.take i) = T := ⟨_, rfl⟩
      rw [hT] at HS2 hle ⊢
      clear hT
      generalize (putOctv x y).1 = q at HS2 hpl HP2
      generalize (putOctv x y).2 = b at HB2 HK2 HP2
      go_upto_region 5 with fail
      refine wp_region_inv (by kernel_rfl) (fun w' => Below w5.heap.size w5 w') (fun x y => Below x.heap.size x y) (fun dq vq _ => match dq with | 17 => vq = .slice (some ⟨g, 0, none⟩) n n | 18 => vq = .int .i64 (i : Int) | 19 => vq = .pointer (some ⟨g, i, none⟩) | 20 => vq = .int .i64 x | 21 => vq = .slice (some ⟨g2, 0, none⟩) n n | 22 => vq = .int .i64 (i : Int) | 23 => vq = .pointer (some ⟨g2, i, none⟩) | 24 => vq = .int .i64 y | 25 => vq = .tuple #[.string q, .bool b] | 16 => vq = .tuple #[.string q, .bool b] | 26 => vq = .string q | 27 => vq = .bool b | 8 => vq = .string q | 9 => vq = .bool b | _ => True) (by kernel_rfl) ((Below.refl _ _).drew) (fun _ _ _ _ _ _ h => h) ?hops ?hend
      case hops =>
        simp only [List.forall_mem_cons]
        refine ⟨?o17, ?o18, ?o19, ?o20, ?o21, ?o22, ?o23, ?o24, ?o25, ?o16, ?o26, ?o27, ?o8, ?o9, fun _ h => by cases h⟩
        case o17 =>
          intro Q a w2 hC hV hI
          have e0 : a.eval (.tmp 0) = .slice (some ⟨g, 0, none⟩) n n := (hI 0 (by simp [Op.operands]) (by kernel_rfl)).trans rfl
          have f0 : a.tmps.getD 0 undef = .slice (some ⟨g, 0, none⟩) n n := e0
          have g0 : a.tmps[0]?.getD undef = .slice (some ⟨g, 0, none⟩) n n := by rw [← Array.getD_eq_getD_getElem?]; exact e0
          refine op_val (.slice (some ⟨g, 0, none⟩) n n) ?_ hC (Below.refl _ _) (by intro d hd; cases hd; rfl)
          (clear hV hI hC; go_simp <;> (first | rfl | simp | (rw [IntKind.wrap_i64]; omega)))
        case o18 =>
          intro Q a w2 hC hV hI
          have e7 : a.eval (.tmp 7) = .int .i64 (i : Int) := (hI 7 (by simp [Op.operands]) (by kernel_rfl)).trans rfl
          have f7 : a.tmps.getD 7 undef = .int .i64 (i : Int) := e7
          have g7 : a.tmps[7]?.getD undef = .int .i64 (i : Int) := by rw [← Array.getD_eq_getD_getElem?]; exact e7
          refine op_val (.int .i64 (i : Int)) ?_ hC (Below.refl _ _) (by intro d hd; cases hd; rfl)
          (clear hV hI hC; go_simp <;> (first | rfl | simp | (rw [IntKind.wrap_i64]; omega)))
        case o19 =>
          intro Q a w2 hC hV hI
          have e17 : a.eval (.tmp 17) = .slice (some ⟨g, 0, none⟩) n n := hV 17 (by simp [Op.operands]) (by kernel_rfl)
          have f17 : a.tmps.getD 17 undef = .slice (some ⟨g, 0, none⟩) n n := e17
          have g17 : a.tmps[17]?.getD undef = .slice (some ⟨g, 0, none⟩) n n := by rw [← Array.getD_eq_getD_getElem?]; exact e17
          have e18 : a.eval (.tmp 18) = .int .i64 (i : Int) := hV 18 (by simp [Op.operands]) (by kernel_rfl)
          have f18 : a.tmps.getD 18 undef = .int .i64 (i : Int) := e18
          have g18 : a.tmps[18]?.getD undef = .int .i64 (i : Int) := by rw [← Array.getD_eq_getD_getElem?]; exact e18
          refine op_val (.pointer (some ⟨g, i, none⟩)) ?_ hC (Below.refl _ _) (by intro d hd; cases hd; rfl)
          (clear hV hI hC; go_simp <;> (first | rfl | simp | (rw [IntKind.wrap_i64]; omega)))
        case o20 =>
          intro Q a w2 hC hV hI
          have e19 : a.eval (.tmp 19) = .pointer (some ⟨g, i, none⟩) := hV 19 (by simp [Op.operands]) (by kernel_rfl)
          have f19 : a.tmps.getD 19 undef = .pointer (some ⟨g, i, none⟩) := e19
          have g19 : a.tmps[19]?.getD undef = .pointer (some ⟨g, i, none⟩) := by rw [← Array.getD_eq_getD_getElem?]; exact e19
          have hK := KC.out w2 hC
          refine op_val (.int .i64 x) ?_ hC (Below.refl _ _) (by intro d hd; cases hd; rfl)
          (clear hV hI hC; go_simp <;> (first | rfl | simp | (rw [IntKind.wrap_i64]; omega)))
        case o21 =>
          intro Q a w2 hC hV hI
          have e1 : a.eval (.tmp 1) = .slice (some ⟨g2, 0, none⟩) n n := (hI 1 (by simp [Op.operands]) (by kernel_rfl)).trans rfl
          have f1 : a.tmps.getD 1 undef = .slice (some ⟨g2, 0, none⟩) n n := e1
          have g1 : a.tmps[1]?.getD undef = .slice (some ⟨g2, 0, none⟩) n n := by rw [← Array.getD_eq_getD_getElem?]; exact e1
          refine op_val (.slice (some ⟨g2, 0, none⟩) n n) ?_ hC (Below.refl _ _) (by intro d hd; cases hd; rfl)
          (clear hV hI hC; go_simp <;> (first | rfl | simp | (rw [IntKind.wrap_i64]; omega)))
        case o22 =>
          intro Q a w2 hC hV hI
          have e7 : a.eval (.tmp 7) = .int .i64 (i : Int) := (hI 7 (by simp [Op.operands]) (by kernel_rfl)).trans rfl
          have f7 : a.tmps.getD 7 undef = .int .i64 (i : Int) := e7
          have g7 : a.tmps[7]?.getD undef = .int .i64 (i : Int) := by rw [← Array.getD_eq_getD_getElem?]; exact e7
          refine op_val (.int .i64 (i : Int)) ?_ hC (Below.refl _ _) (by intro d hd; cases hd; rfl)
          (clear hV hI hC; go_simp <;> (first | rfl | simp | (rw [IntKind.wrap_i64]; omega)))
        case o23 =>
          intro Q a w2 hC hV hI
          have e21 : a.eval (.tmp 21) = .slice (some ⟨g2, 0, none⟩) n n := hV 21 (by simp [Op.operands]) (by kernel_rfl)
          have f21 : a.tmps.getD 21 undef = .slice (some ⟨g2, 0, none⟩) n n := e21
          have g21 : a.tmps[21]?.getD undef = .slice (some ⟨g2, 0, none⟩) n n := by rw [← Array.getD_eq_getD_getElem?]; exact e21
          have e22 : a.eval (.tmp 22) = .int .i64 (i : Int) := hV 22 (by simp [Op.operands]) (by kernel_rfl)
          have f22 : a.tmps.getD 22 undef = .int .i64 (i : Int) := e22
          have g22 : a.tmps[22]?.getD undef = .int .i64 (i : Int) := by rw [← Array.getD_eq_getD_getElem?]; exact e22
          refine op_val (.pointer (some ⟨g2, i, none⟩)) ?_ hC (Below.refl _ _) (by intro d hd; cases hd; rfl)
          (clear hV hI hC; go_simp <;> (first | rfl | simp | (rw [IntKind.wrap_i64]; omega)))
        case o24 =>
          intro Q a w2 hC hV hI
          have e23 : a.eval (.tmp 23) = .pointer (some ⟨g2, i, none⟩) := hV 23 (by simp [Op.operands]) (by kernel_rfl)
          have f23 : a.tmps.getD 23 undef = .pointer (some ⟨g2, i, none⟩) := e23
          have g23 : a.tmps[23]?.getD undef = .pointer (some ⟨g2, i, none⟩) := by rw [← Array.getD_eq_getD_getElem?]; exact e23
          have hK := KC.out w2 hC
          refine op_val (.int .i64 y) ?_ hC (Below.refl _ _) (by intro d hd; cases hd; rfl)
          (clear hV hI hC; go_simp <;> (first | rfl | simp | (rw [IntKind.wrap_i64]; omega)))
        case o25 =>
          intro Q a w2 hC hV hI
          have e20 : a.eval (.tmp 20) = .int .i64 x := hV 20 (by simp [Op.operands, Call.operands]) (by kernel_rfl)
          have f20 : a.tmps.getD 20 undef = .int .i64 x := e20
          have g20 : a.tmps[20]?.getD undef = .int .i64 x := by rw [← Array.getD_eq_getD_getElem?]; exact e20
          have e24 : a.eval (.tmp 24) = .int .i64 y := hV 24 (by simp [Op.operands, Call.operands]) (by kernel_rfl)
          have f24 : a.tmps.getD 24 undef = .int .i64 y := e24
          have g24 : a.tmps[24]?.getD undef = .int .i64 y := by rw [← Array.getD_eq_getD_getElem?]; exact e24
          refine op_call (f := 36) (args := #[.int .i64 x, .int .i64 y]) (R := fun v y => v = .tuple #[.string q, .bool b] ∧ w2 = y) ?_ ((HP2.out w2).mono ?_) ?_
          · (clear hV hI hC; go_simp <;> (first | rfl | simp | (rw [IntKind.wrap_i64]; omega)))
          · rintro e y ⟨rfl, rfl⟩; exact ⟨_, rfl, rfl, rfl⟩
          · rintro v y ⟨rfl, rfl⟩; exact ⟨hC, Below.refl _ _, by intro d hd; cases hd; rfl⟩
        case o16 =>
          intro Q a w2 hC hV hI
          have e25 : a.eval (.tmp 25) = .tuple #[.string q, .bool b] := hV 25 (by simp [Op.operands]) (by kernel_rfl)
          have f25 : a.tmps.getD 25 undef = .tuple #[.string q, .bool b] := e25
          have g25 : a.tmps[25]?.getD undef = .tuple #[.string q, .bool b] := by rw [← Array.getD_eq_getD_getElem?]; exact e25
          refine op_val (.tuple #[.string q, .bool b]) ?_ hC (Below.refl _ _) (by intro d hd; cases hd; rfl)
          (clear hV hI hC; go_simp <;> (first | rfl | simp | (rw [IntKind.wrap_i64]; omega)))
        case o26 =>
          intro Q a w2 hC hV hI
          have e16 : a.eval (.tmp 16) = .tuple #[.string q, .bool b] := hV 16 (by simp [Op.operands]) (by kernel_rfl)
          have f16 : a.tmps.getD 16 undef = .tuple #[.string q, .bool b] := e16
          have g16 : a.tmps[16]?.getD undef = .tuple #[.string q, .bool b] := by rw [← Array.getD_eq_getD_getElem?]; exact e16
          refine op_val (.string q) ?_ hC (Below.refl _ _) (by intro d hd; cases hd; rfl)
          (clear hV hI hC; go_simp <;> (first | rfl | simp | (rw [IntKind.wrap_i64]; omega)))
        case o27 =>
          intro Q a w2 hC hV hI
          have e16 : a.eval (.tmp 16) = .tuple #[.string q, .bool b] := hV 16 (by simp [Op.operands]) (by kernel_rfl)
          have f16 : a.tmps.getD 16 undef = .tuple #[.string q, .bool b] := e16
          have g16 : a.tmps[16]?.getD undef = .tuple #[.string q, .bool b] := by rw [← Array.getD_eq_getD_getElem?]; exact e16
          refine op_val (.bool b) ?_ hC (Below.refl _ _) (by intro d hd; cases hd; rfl)
          (clear hV hI hC; go_simp <;> (first | rfl | simp | (rw [IntKind.wrap_i64]; omega)))
        case o8 =>
          intro Q a w2 hC hV hI
          have e26 : a.eval (.tmp 26) = .string q := hV 26 (by simp [Op.operands]) (by kernel_rfl)
          have f26 : a.tmps.getD 26 undef = .string q := e26
          have g26 : a.tmps[26]?.getD undef = .string q := by rw [← Array.getD_eq_getD_getElem?]; exact e26
          refine op_val (.string q) ?_ hC (Below.refl _ _) (by intro d hd; cases hd; rfl)
          (clear hV hI hC; go_simp <;> (first | rfl | simp | (rw [IntKind.wrap_i64]; omega)))
        case o9 =>
          intro Q a w2 hC hV hI
          have e27 : a.eval (.tmp 27) = .bool b := hV 27 (by simp [Op.operands]) (by kernel_rfl)
          have f27 : a.tmps.getD 27 undef = .bool b := e27
          have g27 : a.tmps[27]?.getD undef = .bool b := by rw [← Array.getD_eq_getD_getElem?]; exact e27
          refine op_val (.bool b) ?_ hC (Below.refl _ _) (by intro d hd; cases hd; rfl)
          (clear hV hI hC; go_simp <;> (first | rfl | simp | (rw [IntKind.wrap_i64]; omega)))
      case hend =>
        intro f w6 hC hall
        simp only [List.forall_mem_cons] at hall
        obtain ⟨h17, h18, h19, h20, h21, h22, h23, h24, h25, h16, h26, h27, h8, h9, _⟩ := hall
        replace h17 : f 17 = .slice (some ⟨g, 0, none⟩) n n := h17 17 rfl
        replace h18 : f 18 = .int .i64 (i : Int) := h18 18 rfl
        replace h19 : f 19 = .pointer (some ⟨g, i, none⟩) := h19 19 rfl
        replace h20 : f 20 = .int .i64 x := h20 20 rfl
        replace h21 : f 21 = .slice (some ⟨g2, 0, none⟩) n n := h21 21 rfl
        replace h22 : f 22 = .int .i64 (i : Int) := h22 22 rfl
        replace h23 : f 23 = .pointer (some ⟨g2, i, none⟩) := h23 23 rfl
        replace h24 : f 24 = .int .i64 y := h24 24 rfl
        replace h25 : f 25 = .tuple #[.string q, .bool b] := h25 25 rfl
        replace h16 : f 16 = .tuple #[.string q, .bool b] := h16 16 rfl
        replace h26 : f 26 = .string q := h26 26 rfl
        replace h27 : f 27 = .bool b := h27 27 rfl
        replace h8 : f 8 = .string q := h8 8 rfl
        replace h9 : f 9 = .bool b := h9 9 rfl
        simp only [putAll, Act.put, List.setIfInBounds_toArray, List.set_cons_succ, List.set_cons_zero, h17, h18, h19, h20, h21, h22, h23, h24, h25, h16, h26, h27, h8, h9]
        clear h17 h18 h19 h20 h21 h22 h23 h24 h25 h16 h26 h27 h8 h9
        clear KC HP2
        replace B := Lib.hid (B.out.trans (hC.mono hszB))
        cases b with
        | false =>
          have HF2 : Hid (ok = false) := Lib.hid (HB2.out rfl)
          have HF3 : Hid (res = ⟨#[]⟩) := Lib.hid (by rw [HR.out, HF2.out]; rfl)
          clear HS2 HK2 HB2 hC
          go_wp2_with fail
          go_ret2
          exact ⟨by rw [HF2.out, HF3.out]; rfl, B.out⟩
        | true =>
          have HOk2 : Hid (octsOk (L.take (i + 1)) = true) := Lib.hid (by rw [HK2.out, HOk.out]; rfl)
          have hsz : T.size + q.size ≤ 281474976710656 := by omega
          have HA : Hid (∀ w, (Op.stringOp .add T q).run Tryz.prog w = .ok (.string (T ++ q)) w) := Lib.hid (fun w => run_string_add_sum w _ _ (by omega))
          have HA' := HA.out
          clear HB2 HK2 hC
          go_wp2_with fail
          go_roundw
          case rel => exact ⟨i + 1, by go_num, by omega, HOk2.out, by rw [HS2.out], B.out⟩
          case measure => simp [intOf]; omega
    · obtain rfl : i = n := by omega
      have hlt2 : ¬ (i : Int) < (i : Int) := by omega
      have HR9 := HF.out.2
      rw [HOk.out] at HR9
      have HR2 := Lib.hid HR9
      have HR3 : Hid (res = octsS (L.take i)) := Lib.hid (by rw [HR.out, ← HR9, HF.out.1]; rfl)
      clear HR9
      go_wp2_with fail
      go_ret2
      exact ⟨by rw [← HR2.out, HR3.out]; rfl, B.out⟩
theorem octsR_true {L : List (Int × Int)} (h : octsOk L = true) : octsR L = octsS L := by rw [octsR, if_pos h]
set_option maxHeartbeats 3200000 in
set_option maxRecDepth 8000 in
theorem putCard_spec (ino mo u1 gi cn t : Int) (p d : ByteArray) (w : World) (hp : p.size ≤ 4194304) (hd : d.size ≤ 4194304) :
    Calls Tryz.prog 13 #[.agg #[.int .i64 ino, .int .i64 mo, .int .i64 u1, .int .i64 gi, .int .i64 cn, .int .i64 t, .string p, .string d]] w fun e w' => e = .returned (.string (cardTextv ⟨ino, mo, u1, gi, cn, t, p, d⟩)) ∧ Below w.heap.size w w' := by
  have HO := Lib.hid (fun g g2 w hg hg2 (h1 : RowN w g [0, ino, mo, u1, gi, cn, 0, t, (p.size : Int) + 1, (d.size : Int)]) (h2 : RowN w g2 wideC) => octs_spec (flds ⟨ino, mo, u1, gi, cn, t, p, d⟩) 10 g g2 w rfl (by omega) hg hg2 h1 h2)
  have hle := octsS_le (flds ⟨ino, mo, u1, gi, cn, t, p, d⟩)
  have hln : (flds ⟨ino, mo, u1, gi, cn, t, p, d⟩).length = 10 := rfl
  have HT : Hid (octsOk (flds ⟨ino, mo, u1, gi, cn, t, p, d⟩) = true → octsR (flds ⟨ino, mo, u1, gi, cn, t, p, d⟩) = octsS (flds ⟨ino, mo, u1, gi, cn, t, p, d⟩)) := Lib.hid octsR_true
  have HV : Hid (cardTextv ⟨ino, mo, u1, gi, cn, t, p, d⟩ = if octsOk (flds ⟨ino, mo, u1, gi, cn, t, p, d⟩) then ⟨#[48, 55, 48, 55, 48, 55]⟩ ++ octsS (flds ⟨ino, mo, u1, gi, cn, t, p, d⟩) ++ p ++ ⟨#[0]⟩ ++ d else ⟨#[]⟩) := Lib.hid rfl
  generalize cardTextv ⟨ino, mo, u1, gi, cn, t, p, d⟩ = r at HV
  generalize octsR (flds ⟨ino, mo, u1, gi, cn, t, p, d⟩) = rs at HO HT
  generalize octsOk (flds ⟨ino, mo, u1, gi, cn, t, p, d⟩) = ok at HO HT HV
  generalize octsS (flds ⟨ino, mo, u1, gi, cn, t, p, d⟩) = os at HT HV hle
  have hos : os.size ≤ 200 := by omega
  clear hln hle
  go_enter Tryz.func13, Tryz.ntmps13
  go_upto_region 1 with fail
  generalize hw1 : World.alloc w _ = w1
  have XC : Hid (CardO w1 w.heap.size ⟨ino, mo, u1, gi, cn, t, p, d⟩) := Lib.hid (by rw [← hw1]; exact CardO.new w ⟨ino, mo, u1, gi, cn, t, p, d⟩)
  have B1 : Hid (Below w.heap.size w w1) := Lib.hid (by rw [← hw1]; exact (Below.refl _ _).alloc (Nat.le_refl _) _)
  have hs1 : w1.heap.size = w.heap.size + 1 := by rw [← hw1]; simp
  clear hw1
  have KC : Hid (∀ w', Below w1.heap.size w1 w' → w'.cell? ⟨w.heap.size, 0, none⟩ = some (.int .i64 ino) ∧ w'.cell? ⟨w.heap.size, 1, none⟩ = some (.int .i64 mo) ∧ w'.cell? ⟨w.heap.size, 2, none⟩ = some (.int .i64 u1) ∧ w'.cell? ⟨w.heap.size, 3, none⟩ = some (.int .i64 gi) ∧ w'.cell? ⟨w.heap.size, 4, none⟩ = some (.int .i64 cn) ∧ w'.cell? ⟨w.heap.size, 5, none⟩ = some (.int .i64 t) ∧ w'.cell? ⟨w.heap.size, 6, none⟩ = some (.string p) ∧ w'.cell? ⟨w.heap.size, 7, none⟩ = some (.string d)) := Lib.hid (fun w' hb => (XC.out.below hb (by omega)).at.zero)
  refine wp_region_inv (by kernel_rfl) (fun w' => Below w1.heap.size w1 w') (fun x y => Below x.heap.size x y) (vE 26 (exRow w1.heap.size 10 #[.int .i64 6, .int .i64 6, .int .i64 6, .int .i64 6, .int .i64 6, .int .i64 6, .int .i64 6, .int .i64 11, .int .i64 6, .int .i64 11] 3) (vE 25 (exRow w1.heap.size 10 #[.int .i64 0, .int .i64 ino, .int .i64 mo, .int .i64 u1, .int .i64 gi, .int .i64 cn, .int .i64 0, .int .i64 t, .int .i64 ((p.size : Int) + 1), .int .i64 (d.size : Int)] 3) (fun dq vq _ => match dq with | 6 => vq = .pointer (some ⟨w.heap.size, 0, none⟩) | 7 => vq = .int .i64 ino | 8 => vq = .pointer (some ⟨w.heap.size, 1, none⟩) | 9 => vq = .int .i64 mo | 10 => vq = .pointer (some ⟨w.heap.size, 2, none⟩) | 11 => vq = .int .i64 u1 | 12 => vq = .pointer (some ⟨w.heap.size, 3, none⟩) | 13 => vq = .int .i64 gi | 14 => vq = .pointer (some ⟨w.heap.size, 4, none⟩) | 15 => vq = .int .i64 cn | 16 => vq = .pointer (some ⟨w.heap.size, 5, none⟩) | 17 => vq = .int .i64 t | 18 => vq = .pointer (some ⟨w.heap.size, 6, none⟩) | 19 => vq = .string p | 20 => vq = .int .i64 (p.size : Int) | 21 => vq = .int .i64 ((p.size : Int) + 1) | 22 => vq = .pointer (some ⟨w.heap.size, 7, none⟩) | 23 => vq = .string d | 24 => vq = .int .i64 (d.size : Int) | 27 => vq = .tuple #[.string rs, .bool ok] | 5 => vq = .tuple #[.string rs, .bool ok] | 28 => vq = .string rs | 29 => vq = .bool ok | 3 => vq = .string rs | 4 => vq = .bool ok | _ => True))) (by kernel_rfl) ((Below.refl _ _).drew) (vE_keep _ _ _ (exRow_keep _ _ _ _) (vE_keep _ _ _ (exRow_keep _ _ _ _) (fun _ _ _ _ _ _ h => h))) ?hops ?hend
  case hops =>
    simp only [List.forall_mem_cons]
    refine ⟨?o6, ?o7, ?o8, ?o9, ?o10, ?o11, ?o12, ?o13, ?o14, ?o15, ?o16, ?o17, ?o18, ?o19, ?o20, ?o21, ?o22, ?o23, ?o24, ?o25, ?o26, ?o27, ?o5, ?o28, ?o29, ?o3, ?o4, fun _ h => by cases h⟩
    case o6 =>
      intro Q a w2 hC hV hI
      have e1 : a.eval (.tmp 1) = .pointer (some ⟨w.heap.size, 0, none⟩) := (hI 1 (by simp [Op.operands]) (by kernel_rfl)).trans rfl
      have f1 : a.tmps.getD 1 undef = .pointer (some ⟨w.heap.size, 0, none⟩) := e1
      have g1 : a.tmps[1]?.getD undef = .pointer (some ⟨w.heap.size, 0, none⟩) := by rw [← Array.getD_eq_getD_getElem?]; exact e1
      refine op_val (.pointer (some ⟨w.heap.size, 0, none⟩)) ?_ hC (Below.refl _ _) (by intro d hd; cases hd; exact rfl)
      (clear hV hI hC; go_simp <;> (first | rfl | simp | (rw [IntKind.wrap_i64]; omega)))
    case o7 =>
      intro Q a w2 hC hV hI
      have e6 : a.eval (.tmp 6) = .pointer (some ⟨w.heap.size, 0, none⟩) := hV 6 (by simp [Op.operands]) (by kernel_rfl)
      have f6 : a.tmps.getD 6 undef = .pointer (some ⟨w.heap.size, 0, none⟩) := e6
      have g6 : a.tmps[6]?.getD undef = .pointer (some ⟨w.heap.size, 0, none⟩) := by rw [← Array.getD_eq_getD_getElem?]; exact e6
      have hK := KC.out w2 hC
      refine op_val (.int .i64 ino) ?_ hC (Below.refl _ _) (by intro d hd; cases hd; exact rfl)
      (clear hV hI hC; go_simp <;> (first | rfl | simp | (rw [IntKind.wrap_i64]; omega)))
    case o8 =>
      intro Q a w2 hC hV hI
      have e1 : a.eval (.tmp 1) = .pointer (some ⟨w.heap.size, 0, none⟩) := (hI 1 (by simp [Op.operands]) (by kernel_rfl)).trans rfl
      have f1 : a.tmps.getD 1 undef = .pointer (some ⟨w.heap.size, 0, none⟩) := e1
      have g1 : a.tmps[1]?.getD undef = .pointer (some ⟨w.heap.size, 0, none⟩) := by rw [← Array.getD_eq_getD_getElem?]; exact e1
      refine op_val (.pointer (some ⟨w.heap.size, 1, none⟩)) ?_ hC (Below.refl _ _) (by intro d hd; cases hd; exact rfl)
      (clear hV hI hC; go_simp <;> (first | rfl | simp | (rw [IntKind.wrap_i64]; omega)))
    case o9 =>
      intro Q a w2 hC hV hI
      have e8 : a.eval (.tmp 8) = .pointer (some ⟨w.heap.size, 1, none⟩) := hV 8 (by simp [Op.operands]) (by kernel_rfl)
      have f8 : a.tmps.getD 8 undef = .pointer (some ⟨w.heap.size, 1, none⟩) := e8
      have g8 : a.tmps[8]?.getD undef = .pointer (some ⟨w.heap.size, 1, none⟩) := by rw [← Array.getD_eq_getD_getElem?]; exact e8
      have hK := KC.out w2 hC
      refine op_val (.int .i64 mo) ?_ hC (Below.refl _ _) (by intro d hd; cases hd; exact rfl)
      (clear hV hI hC; go_simp <;> (first | rfl | simp | (rw [IntKind.wrap_i64]; omega)))
    case o10 =>
      intro Q a w2 hC hV hI
      have e1 : a.eval (.tmp 1) = .pointer (some ⟨w.heap.size, 0, none⟩) := (hI 1 (by simp [Op.operands]) (by kernel_rfl)).trans rfl
      have f1 : a.tmps.getD 1 undef = .pointer (some ⟨w.heap.size, 0, none⟩) := e1
      have g1 : a.tmps[1]?.getD undef = .pointer (some ⟨w.heap.size, 0, none⟩) := by rw [← Array.getD_eq_getD_getElem?]; exact e1
      refine op_val (.pointer (some ⟨w.heap.size, 2, none⟩)) ?_ hC (Below.refl _ _) (by intro d hd; cases hd; exact rfl)
      (clear hV hI hC; go_simp <;> (first | rfl | simp | (rw [IntKind.wrap_i64]; omega)))
    case o11 =>
      intro Q a w2 hC hV hI
      have e10 : a.eval (.tmp 10) = .pointer (some ⟨w.heap.size, 2, none⟩) := hV 10 (by simp [Op.operands]) (by kernel_rfl)
      have f10 : a.tmps.getD 10 undef = .pointer (some ⟨w.heap.size, 2, none⟩) := e10
      have g10 : a.tmps[10]?.getD undef = .pointer (some ⟨w.heap.size, 2, none⟩) := by rw [← Array.getD_eq_getD_getElem?]; exact e10
      have hK := KC.out w2 hC
      refine op_val (.int .i64 u1) ?_ hC (Below.refl _ _) (by intro d hd; cases hd; exact rfl)
      (clear hV hI hC; go_simp <;> (first | rfl | simp | (rw [IntKind.wrap_i64]; omega)))
    case o12 =>
      intro Q a w2 hC hV hI
      have e1 : a.eval (.tmp 1) = .pointer (some ⟨w.heap.size, 0, none⟩) := (hI 1 (by simp [Op.operands]) (by kernel_rfl)).trans rfl
      have f1 : a.tmps.getD 1 undef = .pointer (some ⟨w.heap.size, 0, none⟩) := e1
      have g1 : a.tmps[1]?.getD undef = .pointer (some ⟨w.heap.size, 0, none⟩) := by rw [← Array.getD_eq_getD_getElem?]; exact e1
      refine op_val (.pointer (some ⟨w.heap.size, 3, none⟩)) ?_ hC (Below.refl _ _) (by intro d hd; cases hd; exact rfl)
      (clear hV hI hC; go_simp <;> (first | rfl | simp | (rw [IntKind.wrap_i64]; omega)))
    case o13 =>
      intro Q a w2 hC hV hI
      have e12 : a.eval (.tmp 12) = .pointer (some ⟨w.heap.size, 3, none⟩) := hV 12 (by simp [Op.operands]) (by kernel_rfl)
      have f12 : a.tmps.getD 12 undef = .pointer (some ⟨w.heap.size, 3, none⟩) := e12
      have g12 : a.tmps[12]?.getD undef = .pointer (some ⟨w.heap.size, 3, none⟩) := by rw [← Array.getD_eq_getD_getElem?]; exact e12
      have hK := KC.out w2 hC
      refine op_val (.int .i64 gi) ?_ hC (Below.refl _ _) (by intro d hd; cases hd; exact rfl)
      (clear hV hI hC; go_simp <;> (first | rfl | simp | (rw [IntKind.wrap_i64]; omega)))
    case o14 =>
      intro Q a w2 hC hV hI
      have e1 : a.eval (.tmp 1) = .pointer (some ⟨w.heap.size, 0, none⟩) := (hI 1 (by simp [Op.operands]) (by kernel_rfl)).trans rfl
      have f1 : a.tmps.getD 1 undef = .pointer (some ⟨w.heap.size, 0, none⟩) := e1
      have g1 : a.tmps[1]?.getD undef = .pointer (some ⟨w.heap.size, 0, none⟩) := by rw [← Array.getD_eq_getD_getElem?]; exact e1
      refine op_val (.pointer (some ⟨w.heap.size, 4, none⟩)) ?_ hC (Below.refl _ _) (by intro d hd; cases hd; exact rfl)
      (clear hV hI hC; go_simp <;> (first | rfl | simp | (rw [IntKind.wrap_i64]; omega)))
    case o15 =>
      intro Q a w2 hC hV hI
      have e14 : a.eval (.tmp 14) = .pointer (some ⟨w.heap.size, 4, none⟩) := hV 14 (by simp [Op.operands]) (by kernel_rfl)
      have f14 : a.tmps.getD 14 undef = .pointer (some ⟨w.heap.size, 4, none⟩) := e14
      have g14 : a.tmps[14]?.getD undef = .pointer (some ⟨w.heap.size, 4, none⟩) := by rw [← Array.getD_eq_getD_getElem?]; exact e14
      have hK := KC.out w2 hC
      refine op_val (.int .i64 cn) ?_ hC (Below.refl _ _) (by intro d hd; cases hd; exact rfl)
      (clear hV hI hC; go_simp <;> (first | rfl | simp | (rw [IntKind.wrap_i64]; omega)))
    case o16 =>
      intro Q a w2 hC hV hI
      have e1 : a.eval (.tmp 1) = .pointer (some ⟨w.heap.size, 0, none⟩) := (hI 1 (by simp [Op.operands]) (by kernel_rfl)).trans rfl
      have f1 : a.tmps.getD 1 undef = .pointer (some ⟨w.heap.size, 0, none⟩) := e1
      have g1 : a.tmps[1]?.getD undef = .pointer (some ⟨w.heap.size, 0, none⟩) := by rw [← Array.getD_eq_getD_getElem?]; exact e1
      refine op_val (.pointer (some ⟨w.heap.size, 5, none⟩)) ?_ hC (Below.refl _ _) (by intro d hd; cases hd; exact rfl)
      (clear hV hI hC; go_simp <;> (first | rfl | simp | (rw [IntKind.wrap_i64]; omega)))
    case o17 =>
      intro Q a w2 hC hV hI
      have e16 : a.eval (.tmp 16) = .pointer (some ⟨w.heap.size, 5, none⟩) := hV 16 (by simp [Op.operands]) (by kernel_rfl)
      have f16 : a.tmps.getD 16 undef = .pointer (some ⟨w.heap.size, 5, none⟩) := e16
      have g16 : a.tmps[16]?.getD undef = .pointer (some ⟨w.heap.size, 5, none⟩) := by rw [← Array.getD_eq_getD_getElem?]; exact e16
      have hK := KC.out w2 hC
      refine op_val (.int .i64 t) ?_ hC (Below.refl _ _) (by intro d hd; cases hd; exact rfl)
      (clear hV hI hC; go_simp <;> (first | rfl | simp | (rw [IntKind.wrap_i64]; omega)))
    case o18 =>
      intro Q a w2 hC hV hI
      have e1 : a.eval (.tmp 1) = .pointer (some ⟨w.heap.size, 0, none⟩) := (hI 1 (by simp [Op.operands]) (by kernel_rfl)).trans rfl
      have f1 : a.tmps.getD 1 undef = .pointer (some ⟨w.heap.size, 0, none⟩) := e1
      have g1 : a.tmps[1]?.getD undef = .pointer (some ⟨w.heap.size, 0, none⟩) := by rw [← Array.getD_eq_getD_getElem?]; exact e1
      refine op_val (.pointer (some ⟨w.heap.size, 6, none⟩)) ?_ hC (Below.refl _ _) (by intro d hd; cases hd; exact rfl)
      (clear hV hI hC; go_simp <;> (first | rfl | simp | (rw [IntKind.wrap_i64]; omega)))
    case o19 =>
      intro Q a w2 hC hV hI
      have e18 : a.eval (.tmp 18) = .pointer (some ⟨w.heap.size, 6, none⟩) := hV 18 (by simp [Op.operands]) (by kernel_rfl)
      have f18 : a.tmps.getD 18 undef = .pointer (some ⟨w.heap.size, 6, none⟩) := e18
      have g18 : a.tmps[18]?.getD undef = .pointer (some ⟨w.heap.size, 6, none⟩) := by rw [← Array.getD_eq_getD_getElem?]; exact e18
      have hK := KC.out w2 hC
      refine op_val (.string p) ?_ hC (Below.refl _ _) (by intro d hd; cases hd; exact rfl)
      (clear hV hI hC; go_simp <;> (first | rfl | simp | (rw [IntKind.wrap_i64]; omega)))
    case o20 =>
      intro Q a w2 hC hV hI
      have e19 : a.eval (.tmp 19) = .string p := hV 19 (by simp [Op.operands, Call.operands]) (by kernel_rfl)
      have f19 : a.tmps.getD 19 undef = .string p := e19
      have g19 : a.tmps[19]?.getD undef = .string p := by rw [← Array.getD_eq_getD_getElem?]; exact e19
      refine op_val (.int .i64 (p.size : Int)) ?_ hC (Below.refl _ _) (by intro d hd; cases hd; exact rfl)
      (clear hV hI hC; go_simp <;> (first | rfl | simp | (rw [IntKind.wrap_i64]; omega)))
    case o21 =>
      intro Q a w2 hC hV hI
      have e20 : a.eval (.tmp 20) = .int .i64 (p.size : Int) := hV 20 (by simp [Op.operands]) (by kernel_rfl)
      have f20 : a.tmps.getD 20 undef = .int .i64 (p.size : Int) := e20
      have g20 : a.tmps[20]?.getD undef = .int .i64 (p.size : Int) := by rw [← Array.getD_eq_getD_getElem?]; exact e20
      have q9 := add_i64 (P := Tryz.prog) (a := (p.size : Int)) (b := 1) w2 3 (by omega) (by omega)
      refine op_val (.int .i64 ((p.size : Int) + 1)) ?_ hC (Below.refl _ _) (by intro d hd; cases hd; exact rfl)
      (clear hV hI hC; go_simp <;> (first | rfl | simp | (rw [IntKind.wrap_i64]; omega)))
    case o22 =>
      intro Q a w2 hC hV hI
      have e1 : a.eval (.tmp 1) = .pointer (some ⟨w.heap.size, 0, none⟩) := (hI 1 (by simp [Op.operands]) (by kernel_rfl)).trans rfl
      have f1 : a.tmps.getD 1 undef = .pointer (some ⟨w.heap.size, 0, none⟩) := e1
      have g1 : a.tmps[1]?.getD undef = .pointer (some ⟨w.heap.size, 0, none⟩) := by rw [← Array.getD_eq_getD_getElem?]; exact e1
      refine op_val (.pointer (some ⟨w.heap.size, 7, none⟩)) ?_ hC (Below.refl _ _) (by intro d hd; cases hd; exact rfl)
      (clear hV hI hC; go_simp <;> (first | rfl | simp | (rw [IntKind.wrap_i64]; omega)))
    case o23 =>
      intro Q a w2 hC hV hI
      have e22 : a.eval (.tmp 22) = .pointer (some ⟨w.heap.size, 7, none⟩) := hV 22 (by simp [Op.operands]) (by kernel_rfl)
      have f22 : a.tmps.getD 22 undef = .pointer (some ⟨w.heap.size, 7, none⟩) := e22
      have g22 : a.tmps[22]?.getD undef = .pointer (some ⟨w.heap.size, 7, none⟩) := by rw [← Array.getD_eq_getD_getElem?]; exact e22
      have hK := KC.out w2 hC
      refine op_val (.string d) ?_ hC (Below.refl _ _) (by intro d hd; cases hd; exact rfl)
      (clear hV hI hC; go_simp <;> (first | rfl | simp | (rw [IntKind.wrap_i64]; omega)))
    case o24 =>
      intro Q a w2 hC hV hI
      have e23 : a.eval (.tmp 23) = .string d := hV 23 (by simp [Op.operands, Call.operands]) (by kernel_rfl)
      have f23 : a.tmps.getD 23 undef = .string d := e23
      have g23 : a.tmps[23]?.getD undef = .string d := by rw [← Array.getD_eq_getD_getElem?]; exact e23
      refine op_val (.int .i64 (d.size : Int)) ?_ hC (Below.refl _ _) (by intro d hd; cases hd; exact rfl)
      (clear hV hI hC; go_simp <;> (first | rfl | simp | (rw [IntKind.wrap_i64]; omega)))
    case o25 =>
      intro Q a w2 hC hV hI
      have e7 : a.eval (.tmp 7) = .int .i64 ino := hV 7 (by simp [Op.operands]) (by kernel_rfl)
      have f7 : a.tmps.getD 7 undef = .int .i64 ino := e7
      have g7 : a.tmps[7]?.getD undef = .int .i64 ino := by rw [← Array.getD_eq_getD_getElem?]; exact e7
      have e9 : a.eval (.tmp 9) = .int .i64 mo := hV 9 (by simp [Op.operands]) (by kernel_rfl)
      have f9 : a.tmps.getD 9 undef = .int .i64 mo := e9
      have g9 : a.tmps[9]?.getD undef = .int .i64 mo := by rw [← Array.getD_eq_getD_getElem?]; exact e9
      have e11 : a.eval (.tmp 11) = .int .i64 u1 := hV 11 (by simp [Op.operands]) (by kernel_rfl)
      have f11 : a.tmps.getD 11 undef = .int .i64 u1 := e11
      have g11 : a.tmps[11]?.getD undef = .int .i64 u1 := by rw [← Array.getD_eq_getD_getElem?]; exact e11
      have e13 : a.eval (.tmp 13) = .int .i64 gi := hV 13 (by simp [Op.operands]) (by kernel_rfl)
      have f13 : a.tmps.getD 13 undef = .int .i64 gi := e13
      have g13 : a.tmps[13]?.getD undef = .int .i64 gi := by rw [← Array.getD_eq_getD_getElem?]; exact e13
      have e15 : a.eval (.tmp 15) = .int .i64 cn := hV 15 (by simp [Op.operands]) (by kernel_rfl)
      have f15 : a.tmps.getD 15 undef = .int .i64 cn := e15
      have g15 : a.tmps[15]?.getD undef = .int .i64 cn := by rw [← Array.getD_eq_getD_getElem?]; exact e15
      have e17 : a.eval (.tmp 17) = .int .i64 t := hV 17 (by simp [Op.operands]) (by kernel_rfl)
      have f17 : a.tmps.getD 17 undef = .int .i64 t := e17
      have g17 : a.tmps[17]?.getD undef = .int .i64 t := by rw [← Array.getD_eq_getD_getElem?]; exact e17
      have e21 : a.eval (.tmp 21) = .int .i64 ((p.size : Int) + 1) := hV 21 (by simp [Op.operands]) (by kernel_rfl)
      have f21 : a.tmps.getD 21 undef = .int .i64 ((p.size : Int) + 1) := e21
      have g21 : a.tmps[21]?.getD undef = .int .i64 ((p.size : Int) + 1) := by rw [← Array.getD_eq_getD_getElem?]; exact e21
      have e24 : a.eval (.tmp 24) = .int .i64 (d.size : Int) := hV 24 (by simp [Op.operands]) (by kernel_rfl)
      have f24 : a.tmps.getD 24 undef = .int .i64 (d.size : Int) := e24
      have g24 : a.tmps[24]?.getD undef = .int .i64 (d.size : Int) := by rw [← Array.getD_eq_getD_getElem?]; exact e24
      refine op_val (.slice (some ⟨w2.heap.size, 0, none⟩) 10 10) (w' := w2.alloc (.cells #[.int .i64 0, .int .i64 ino, .int .i64 mo, .int .i64 u1, .int .i64 gi, .int .i64 cn, .int .i64 0, .int .i64 t, .int .i64 ((p.size : Int) + 1), .int .i64 (d.size : Int)] 3)) ?_ (hC.alloc hC.size _) ((Below.refl _ _).alloc (Nat.le_refl _) _) ?_
      · (clear hV hI hC; go_simp <;> (first | rfl | simp | (rw [IntKind.wrap_i64]; omega)))
      · intro d hd; cases hd; exact ⟨w2.heap.size, rfl, hC.size, heap_lastG _ _⟩
    case o26 =>
      intro Q a w2 hC hV hI
      refine op_call (f := 25) (args := #[]) (R := fun v y => exRow w1.heap.size 10 #[.int .i64 6, .int .i64 6, .int .i64 6, .int .i64 6, .int .i64 6, .int .i64 6, .int .i64 6, .int .i64 11, .int .i64 6, .int .i64 11] 3 v y ∧ Below w2.heap.size w2 y) ?_ ((wide_spec w2).mono ?_) ?_
      · (clear hV hI hC; go_simp <;> (first | rfl | simp | (rw [IntKind.wrap_i64]; omega)))
      · rintro e y ⟨G, rfl, hg1, hg2, hb⟩; exact ⟨_, rfl, ⟨G, rfl, Nat.le_trans hC.size hg1, hg2⟩, hb⟩
      · rintro v y ⟨hv, hb⟩; exact ⟨hC.trans (hb.mono hC.size), hb, by intro d hd; cases hd; exact hv⟩
    case o27 =>
      intro Q a w2 hC hV hI
      obtain ⟨G25, e25, b25, o25⟩ : ∃ G, a.eval (.tmp 25) = .slice (some ⟨G, 0, none⟩) 10 10 ∧ w1.heap.size ≤ G ∧ w2.heap[G]? = some (.cells #[.int .i64 0, .int .i64 ino, .int .i64 mo, .int .i64 u1, .int .i64 gi, .int .i64 cn, .int .i64 0, .int .i64 t, .int .i64 ((p.size : Int) + 1), .int .i64 (d.size : Int)] 3 (0, 0)) := hV 25 (by simp [Op.operands, Call.operands]) (by kernel_rfl)
      have f25 : a.tmps.getD 25 undef = .slice (some ⟨G25, 0, none⟩) 10 10 := e25
      have g25 : a.tmps[25]?.getD undef = .slice (some ⟨G25, 0, none⟩) 10 10 := by rw [← Array.getD_eq_getD_getElem?]; exact e25
      obtain ⟨G26, e26, b26, o26⟩ : ∃ G, a.eval (.tmp 26) = .slice (some ⟨G, 0, none⟩) 10 10 ∧ w1.heap.size ≤ G ∧ w2.heap[G]? = some (.cells #[.int .i64 6, .int .i64 6, .int .i64 6, .int .i64 6, .int .i64 6, .int .i64 6, .int .i64 6, .int .i64 11, .int .i64 6, .int .i64 11] 3 (0, 0)) := hV 26 (by simp [Op.operands, Call.operands]) (by kernel_rfl)
      have f26 : a.tmps.getD 26 undef = .slice (some ⟨G26, 0, none⟩) 10 10 := e26
      have g26 : a.tmps[26]?.getD undef = .slice (some ⟨G26, 0, none⟩) 10 10 := by rw [← Array.getD_eq_getD_getElem?]; exact e26
      refine op_call (f := 24) (args := #[.slice (some ⟨G25, 0, none⟩) 10 10, .slice (some ⟨G26, 0, none⟩) 10 10]) (R := fun v y => v = .tuple #[.string rs, .bool ok] ∧ Below w2.heap.size w2 y) ?_ ((HO.out G25 G26 w2 (Array.getElem?_eq_some_iff.1 o25).1 (Array.getElem?_eq_some_iff.1 o26).1 (RowN.of (l := [0, ino, mo, u1, gi, cn, 0, t, (p.size : Int) + 1, (d.size : Int)]) o25) (RowN.of (l := wideC) o26)).mono ?_) ?_
      · (clear hV hI hC; go_simp <;> (first | rfl | simp | (rw [IntKind.wrap_i64]; omega)))
      · rintro e y ⟨rfl, hb⟩; exact ⟨_, rfl, rfl, hb⟩
      · rintro v y ⟨rfl, hb⟩; exact ⟨hC.trans (hb.mono hC.size), hb, by intro d hd; cases hd; exact rfl⟩
    case o5 =>
      intro Q a w2 hC hV hI
      have e27 : a.eval (.tmp 27) = .tuple #[.string rs, .bool ok] := hV 27 (by simp [Op.operands]) (by kernel_rfl)
      have f27 : a.tmps.getD 27 undef = .tuple #[.string rs, .bool ok] := e27
      have g27 : a.tmps[27]?.getD undef = .tuple #[.string rs, .bool ok] := by rw [← Array.getD_eq_getD_getElem?]; exact e27
      refine op_val (.tuple #[.string rs, .bool ok]) ?_ hC (Below.refl _ _) (by intro d hd; cases hd; exact rfl)
      (clear hV hI hC; go_simp <;> (first | rfl | simp | (rw [IntKind.wrap_i64]; omega)))
    case o28 =>
      intro Q a w2 hC hV hI
      have e5 : a.eval (.tmp 5) = .tuple #[.string rs, .bool ok] := hV 5 (by simp [Op.operands]) (by kernel_rfl)
      have f5 : a.tmps.getD 5 undef = .tuple #[.string rs, .bool ok] := e5
      have g5 : a.tmps[5]?.getD undef = .tuple #[.string rs, .bool ok] := by rw [← Array.getD_eq_getD_getElem?]; exact e5
      refine op_val (.string rs) ?_ hC (Below.refl _ _) (by intro d hd; cases hd; exact rfl)
      (clear hV hI hC; go_simp <;> (first | rfl | simp | (rw [IntKind.wrap_i64]; omega)))
    case o29 =>
      intro Q a w2 hC hV hI
      have e5 : a.eval (.tmp 5) = .tuple #[.string rs, .bool ok] := hV 5 (by simp [Op.operands]) (by kernel_rfl)
      have f5 : a.tmps.getD 5 undef = .tuple #[.string rs, .bool ok] := e5
      have g5 : a.tmps[5]?.getD undef = .tuple #[.string rs, .bool ok] := by rw [← Array.getD_eq_getD_getElem?]; exact e5
      refine op_val (.bool ok) ?_ hC (Below.refl _ _) (by intro d hd; cases hd; exact rfl)
      (clear hV hI hC; go_simp <;> (first | rfl | simp | (rw [IntKind.wrap_i64]; omega)))
    case o3 =>
      intro Q a w2 hC hV hI
      have e28 : a.eval (.tmp 28) = .string rs := hV 28 (by simp [Op.operands]) (by kernel_rfl)
      have f28 : a.tmps.getD 28 undef = .string rs := e28
      have g28 : a.tmps[28]?.getD undef = .string rs := by rw [← Array.getD_eq_getD_getElem?]; exact e28
      refine op_val (.string rs) ?_ hC (Below.refl _ _) (by intro d hd; cases hd; exact rfl)
      (clear hV hI hC; go_simp <;> (first | rfl | simp | (rw [IntKind.wrap_i64]; omega)))
    case o4 =>
      intro Q a w2 hC hV hI
      have e29 : a.eval (.tmp 29) = .bool ok := hV 29 (by simp [Op.operands]) (by kernel_rfl)
      have f29 : a.tmps.getD 29 undef = .bool ok := e29
      have g29 : a.tmps[29]?.getD undef = .bool ok := by rw [← Array.getD_eq_getD_getElem?]; exact e29
      refine op_val (.bool ok) ?_ hC (Below.refl _ _) (by intro d hd; cases hd; exact rfl)
      (clear hV hI hC; go_simp <;> (first | rfl | simp | (rw [IntKind.wrap_i64]; omega)))
  case hend =>
    intro f w2 hC hall
    simp only [List.forall_mem_cons] at hall
    obtain ⟨h6, h7, h8, h9, h10, h11, h12, h13, h14, h15, h16, h17, h18, h19, h20, h21, h22, h23, h24, h25, h26, h27, h5, h28, h29, h3, h4, _⟩ := hall
    replace h6 : f 6 = .pointer (some ⟨w.heap.size, 0, none⟩) := h6 6 rfl
    replace h7 : f 7 = .int .i64 ino := h7 7 rfl
    replace h8 : f 8 = .pointer (some ⟨w.heap.size, 1, none⟩) := h8 8 rfl
    replace h9 : f 9 = .int .i64 mo := h9 9 rfl
    replace h10 : f 10 = .pointer (some ⟨w.heap.size, 2, none⟩) := h10 10 rfl
    replace h11 : f 11 = .int .i64 u1 := h11 11 rfl
    replace h12 : f 12 = .pointer (some ⟨w.heap.size, 3, none⟩) := h12 12 rfl
    replace h13 : f 13 = .int .i64 gi := h13 13 rfl
    replace h14 : f 14 = .pointer (some ⟨w.heap.size, 4, none⟩) := h14 14 rfl
    replace h15 : f 15 = .int .i64 cn := h15 15 rfl
    replace h16 : f 16 = .pointer (some ⟨w.heap.size, 5, none⟩) := h16 16 rfl
    replace h17 : f 17 = .int .i64 t := h17 17 rfl
    replace h18 : f 18 = .pointer (some ⟨w.heap.size, 6, none⟩) := h18 18 rfl
    replace h19 : f 19 = .string p := h19 19 rfl
    replace h20 : f 20 = .int .i64 (p.size : Int) := h20 20 rfl
    replace h21 : f 21 = .int .i64 ((p.size : Int) + 1) := h21 21 rfl
    replace h22 : f 22 = .pointer (some ⟨w.heap.size, 7, none⟩) := h22 22 rfl
    replace h23 : f 23 = .string d := h23 23 rfl
    replace h24 : f 24 = .int .i64 (d.size : Int) := h24 24 rfl
    obtain ⟨G25, hG25, hGB25, hGO25⟩ : ∃ G, f 25 = .slice (some ⟨G, 0, none⟩) 10 10 ∧ w1.heap.size ≤ G ∧ w2.heap[G]? = some (.cells #[.int .i64 0, .int .i64 ino, .int .i64 mo, .int .i64 u1, .int .i64 gi, .int .i64 cn, .int .i64 0, .int .i64 t, .int .i64 ((p.size : Int) + 1), .int .i64 (d.size : Int)] 3 (0, 0)) := h25 25 rfl
    obtain ⟨G26, hG26, hGB26, hGO26⟩ : ∃ G, f 26 = .slice (some ⟨G, 0, none⟩) 10 10 ∧ w1.heap.size ≤ G ∧ w2.heap[G]? = some (.cells #[.int .i64 6, .int .i64 6, .int .i64 6, .int .i64 6, .int .i64 6, .int .i64 6, .int .i64 6, .int .i64 11, .int .i64 6, .int .i64 11] 3 (0, 0)) := h26 26 rfl
    replace h27 : f 27 = .tuple #[.string rs, .bool ok] := h27 27 rfl
    replace h5 : f 5 = .tuple #[.string rs, .bool ok] := h5 5 rfl
    replace h28 : f 28 = .string rs := h28 28 rfl
    replace h29 : f 29 = .bool ok := h29 29 rfl
    replace h3 : f 3 = .string rs := h3 3 rfl
    replace h4 : f 4 = .bool ok := h4 4 rfl
    simp only [putAll, Act.put, List.setIfInBounds_toArray, List.set_cons_succ, List.set_cons_zero, h6, h7, h8, h9, h10, h11, h12, h13, h14, h15, h16, h17, h18, h19, h20, h21, h22, h23, h24, hG25, hG26, h27, h5, h28, h29, h3, h4]
    clear h6 h7 h8 h9 h10 h11 h12 h13 h14 h15 h16 h17 h18 h19 h20 h21 h22 h23 h24 hG25 h25 hG26 h26 h27 h5 h28 h29 h3 h4
    have X2 := XC.out.below hC (by omega)
    have B2 := Lib.hid (B1.out.trans (hC.mono (by omega)))
    clear KC XC B1 hGO25 hGO26 HO hC
    obtain ⟨k0, k1, k2, k3, k4, k5, k6, k7⟩ := X2.at.zero
    cases ok with
    | false =>
      have HF : Hid (r = ⟨#[]⟩) := Lib.hid (by rw [HV.out]; rfl)
      clear HV HT
      go_wp2_with fail
      go_ret
      exact ⟨by rw [HF.out]; rfl, B2.out⟩
    | true =>
      have hrs : rs = os := HT.out rfl
      subst hrs
      have HF : Hid (r = ⟨#[48, 55, 48, 55, 48, 55]⟩ ++ rs ++ p ++ ⟨#[0]⟩ ++ d) := Lib.hid (by rw [HV.out]; rfl)
      clear HV HT
      have z6 : (⟨#[48, 55, 48, 55, 48, 55]⟩ : ByteArray).size = 6 := rfl
      have z1 : (⟨#[0]⟩ : ByteArray).size = 1 := rfl
      obtain ⟨x1, hx1⟩ : ∃ x : ByteArray, x = ⟨#[48, 55, 48, 55, 48, 55]⟩ ++ rs := ⟨_, rfl⟩
      have y1 : x1.size ≤ 206 := by rw [hx1, ByteArray.size_append]; omega
      obtain ⟨x2, hx2⟩ : ∃ x : ByteArray, x = x1 ++ p := ⟨_, rfl⟩
      have y2 : x2.size ≤ 4194510 := by rw [hx2, ByteArray.size_append]; omega
      obtain ⟨x3, hx3⟩ : ∃ x : ByteArray, x = x2 ++ ⟨#[0]⟩ := ⟨_, rfl⟩
      have y3 : x3.size ≤ 4194511 := by rw [hx3, ByteArray.size_append]; omega
      have A1 : ∀ w, (Op.stringOp .add ⟨#[48, 55, 48, 55, 48, 55]⟩ rs).run Tryz.prog w = .ok (.string x1) w := fun w => by rw [hx1]; exact run_string_add_sum w _ _ (by omega)
      have A2 : ∀ w, (Op.stringOp .add x1 p).run Tryz.prog w = .ok (.string x2) w := fun w => by rw [hx2]; exact run_string_add_sum w _ _ (by omega)
      have A3 : ∀ w, (Op.stringOp .add x2 ⟨#[0]⟩).run Tryz.prog w = .ok (.string x3) w := fun w => by rw [hx3]; exact run_string_add_sum w _ _ (by omega)
      have A4 : ∀ w, (Op.stringOp .add x3 d).run Tryz.prog w = .ok (.string (x3 ++ d)) w := fun w => run_string_add_sum w _ _ (by omega)
      have HX : Hid (r = x3 ++ d) := Lib.hid (by rw [HF.out, hx3, hx2, hx1])
      clear hx1 hx2 hx3 z6 z1 HF
      go_wp2_with fail
      go_ret
      exact ⟨by rw [HX.out]; rfl, B2.out⟩
end Go.Proofs.YtpimeekcnndhiaaGreatDoor
