/- The text of a card with hexadecimal numbers; contract of spec.PutNew. -/
import Derived.Test.YtcnmbolmgifgfaaDoorCardO
import Derived.Test.YtcnmbolmgifgfaaDoorPutOH
import Derived.Test.YtcnmbolmgifgfaaDoorRegSl
import Derived.Test.YtcnmbolmgifgfaaDoorNewK
import Derived.Test.YtcnmbolmgifgfaaDoorNulS
import Derived.Deep.DeepCutAuto
import Derived.OwnWalk
namespace Go.Proofs.YtcnmbolmgifgfaaDoor
open Go.ChangeShapes Go.WideShapes Go.ChangeAt Go.RowKit Go.Deep

/-- The numbers of a card's head. -/
def nFl (c : Card) (crc : Bool) : List Int := [c.Ino, c.Mode, c.Uid, c.Gid, c.Count, c.Time, (c.Data.size : Int), 0, 0, 0, 0, (c.Path.size : Int) + 1, sumN crc c.Data]
def hexOk (L : List Int) : Bool := L.all fun x => (putHexv x).2
def hexB : List Int → List UInt8
  | [] => []
  | x :: L => (putHexv x).1.data.toList ++ hexB L
def hexS (L : List Int) : ByteArray := ⟨(hexB L).toArray⟩
theorem hexB_app (L M : List Int) : hexB (L ++ M) = hexB L ++ hexB M := by
  induction L with
  | nil => rfl
  | cons x L ih => simp [hexB, ih]
theorem ba_appN (a b : List UInt8) : (⟨(a ++ b).toArray⟩ : ByteArray) = ⟨a.toArray⟩ ++ ⟨b.toArray⟩ := by
  apply ba_ext
  simp
theorem ba_selfN (s : ByteArray) : (⟨s.data.toList.toArray⟩ : ByteArray) = s := by cases s; simp
theorem hexS_snoc (L : List Int) (x : Int) : hexS (L ++ [x]) = hexS L ++ (putHexv x).1 := by
  have h : hexB [x] = (putHexv x).1.data.toList := by simp [hexB]
  rw [hexS, hexB_app, ba_appN, h, ba_selfN, hexS]
theorem hexOk_take {L : List Int} {i : Nat} {x : Int} (h : L[i]? = some x) : hexOk (L.take (i + 1)) = (hexOk (L.take i) && (putHexv x).2) := by
  rw [List.take_add_one, h]
  simp [hexOk]
theorem hexOk_bad {L : List Int} {i : Nat} {x : Int} (h : L[i]? = some x) (hk : (putHexv x).2 = false) : hexOk L = false := by
  rw [hexOk, List.all_eq_false]
  exact ⟨x, List.mem_of_getElem? h, by simp [hk]⟩
theorem hex_take {L : List Int} {i : Nat} {x : Int} (h : L[i]? = some x) : hexS (L.take (i + 1)) = hexS (L.take i) ++ (putHexv x).1 := by
  rw [List.take_add_one, h]
  exact hexS_snoc _ _
theorem putHex_sz (n : Int) : (putHexv n).1.size ≤ 8 ∧ ((putHexv n).2 = true → (putHexv n).1.size = 8) := by
  unfold putHexv
  split
  · rename_i h
    have hl : (numeral 16 n.toNat).length ≤ 8 := numeral_len (by omega) (by omega) (by omega)
    have e : (⟨(ahead (numeral 16 n.toNat) 8).toArray⟩ : ByteArray).size = 8 := by
      show (ahead (numeral 16 n.toNat) 8).toArray.size = 8
      rw [List.size_toArray, ahead_len]
      omega
    exact ⟨by rw [e]; omega, fun _ => e⟩
  · exact ⟨Nat.zero_le _, fun h => by simp at h⟩
theorem hexS_le (L : List Int) : (hexS L).size ≤ 8 * L.length ∧ (hexOk L = true → (hexS L).size = 8 * L.length) := by
  induction L with
  | nil => exact ⟨Nat.zero_le _, fun _ => rfl⟩
  | cons x L ih =>
    obtain ⟨h1, h1'⟩ := putHex_sz x
    obtain ⟨i1, i2⟩ := ih
    have e1 : (hexS (x :: L)).size = (hexB (x :: L)).length := by simp [hexS, ByteArray.size]
    have e2 : (hexS L).size = (hexB L).length := by simp [hexS, ByteArray.size]
    have e3 : (putHexv x).1.data.toList.length = (putHexv x).1.size := Array.length_toList
    rw [e1, hexB, List.length_append, e3, List.length_cons]
    refine ⟨by omega, fun h => ?_⟩
    simp only [hexOk, List.all_cons, Bool.and_eq_true] at h
    have := h1' h.1
    have := i2 h.2
    omega
theorem app_nilN (a : ByteArray) : a ++ ⟨#[]⟩ = a := by
  apply ba_ext
  simp
theorem hexS_nil : hexS [] = ⟨#[]⟩ := rfl
/-- The text of a card: none where a number has no room. -/
def newTextv (c : Card) (crc : Bool) : ByteArray := if hexOk (nFl c crc) then mgN crc ++ hexS (nFl c crc) ++ c.Path ++ ⟨#[0]⟩ ++ nulN (pad4 (111 + c.Path.size)) ++ c.Data ++ nulN (pad4 c.Data.size) else ⟨#[]⟩
/-- A row of numbers. -/
def RowNN (w : World) (g : Nat) (l : List Int) : Prop := ∀ i x, l[i]? = some x → w.cell? ⟨g, i, none⟩ = some (.int .i64 x)
theorem RowNN.below {w w' : World} {g B : Nat} {l : List Int} (h : RowNN w g l) (hb : Below B w w') (hg : g < B) : RowNN w' g l := fun i x hx => (hb.cell (p := ⟨g, i, none⟩) hg).trans (h i x hx)
theorem RowNN.of {w : World} {g : Nat} {l : List Int} {ty : TypeId} (h : w.heap[g]? = some (.cells (l.map (fun x => Value.int .i64 x)).toArray ty (0, 0))) : RowNN w g l := by
  intro i x hx
  simp only [World.cell?, h]
  simp [hx]
theorem pad4_spec (n : Nat) (hn : n ≤ 9007199254740991) (w : World) : Calls Tryd.prog 12 #[.int .i64 (n : Int), .int .i64 4] w fun e w' => e = .returned (.int .i64 (pad4 n : Int)) ∧ w = w' := by
  have h := pad_spec (n : Int) 4 w
  rw [padv4 n hn] at h
  exact h
theorem nuls4_spec (n : Nat) (hn : n ≤ 1024) (w : World) : Calls Tryd.prog 11 #[.int .i64 (n : Int)] w fun e w' => e = .returned (.string (nulN n)) ∧ Below w.heap.size w w' := by
  have h := nulz_spec (n : Int) w (by omega)
  rw [Int.toNat_natCast] at h
  exact h
set_option maxHeartbeats 6400000 in
set_option maxRecDepth 8000 in
theorem putNew_spec (ino mo u1 gi cn t : Int) (p d : ByteArray) (crc : Bool) (w : World) (hp : p.size ≤ 4194304) (hd : d.size ≤ 4194304) :
    Calls Tryd.prog 5 #[.agg #[.int .i64 ino, .int .i64 mo, .int .i64 u1, .int .i64 gi, .int .i64 cn, .int .i64 t, .string p, .string d], .bool crc] w fun e w' => e = .returned (.string (newTextv ⟨ino, mo, u1, gi, cn, t, p, d⟩ crc)) ∧ Below w.heap.size w w' := by
  have HMg := Lib.hid (fun w => l08Magic_any crc w)
  have hmz := mgN_size crc
  have HSm := Lib.hid (fun w => l08Sum_any d crc w hd)
  have HG : Hid (∀ i, i < 13 → ∃ x, (nFl ⟨ino, mo, u1, gi, cn, t, p, d⟩ crc)[i]? = some x) := Lib.hid (fun i hi => ⟨(nFl ⟨ino, mo, u1, gi, cn, t, p, d⟩ crc)[i], List.getElem?_eq_getElem (by simpa [nFl] using hi)⟩)
  have HS := Lib.hid (fun i x (h : (nFl ⟨ino, mo, u1, gi, cn, t, p, d⟩ crc)[i]? = some x) => hex_take h)
  have HK := Lib.hid (fun i x (h : (nFl ⟨ino, mo, u1, gi, cn, t, p, d⟩ crc)[i]? = some x) => hexOk_take h)
  have HB := Lib.hid (fun i x (h : (nFl ⟨ino, mo, u1, gi, cn, t, p, d⟩ crc)[i]? = some x) hk => hexOk_bad h hk)
  have HZ : Hid (hexS ((nFl ⟨ino, mo, u1, gi, cn, t, p, d⟩ crc).take 0) = ⟨#[]⟩ ∧ hexOk ((nFl ⟨ino, mo, u1, gi, cn, t, p, d⟩ crc).take 0) = true) := Lib.hid ⟨rfl, rfl⟩
  have HF : Hid (hexS ((nFl ⟨ino, mo, u1, gi, cn, t, p, d⟩ crc).take 13) = hexS (nFl ⟨ino, mo, u1, gi, cn, t, p, d⟩ crc) ∧ hexOk ((nFl ⟨ino, mo, u1, gi, cn, t, p, d⟩ crc).take 13) = hexOk (nFl ⟨ino, mo, u1, gi, cn, t, p, d⟩ crc)) := Lib.hid ⟨rfl, rfl⟩
  have HLe : Hid (∀ i, (hexS ((nFl ⟨ino, mo, u1, gi, cn, t, p, d⟩ crc).take i)).size ≤ 104) := Lib.hid (fun i => by have h8 := (hexS_le ((nFl ⟨ino, mo, u1, gi, cn, t, p, d⟩ crc).take i)).1; rw [List.length_take] at h8; have : (nFl ⟨ino, mo, u1, gi, cn, t, p, d⟩ crc).length = 13 := rfl; omega)
  have HL13 : Hid (hexOk (nFl ⟨ino, mo, u1, gi, cn, t, p, d⟩ crc) = true → (hexS (nFl ⟨ino, mo, u1, gi, cn, t, p, d⟩ crc)).size = 104) := Lib.hid (fun h => (hexS_le (nFl ⟨ino, mo, u1, gi, cn, t, p, d⟩ crc)).2 h)
  have HPl := Lib.hid (fun x => (putHex_sz x).1)
  have HV : Hid (newTextv ⟨ino, mo, u1, gi, cn, t, p, d⟩ crc = if hexOk (nFl ⟨ino, mo, u1, gi, cn, t, p, d⟩ crc) then mgN crc ++ hexS (nFl ⟨ino, mo, u1, gi, cn, t, p, d⟩ crc) ++ p ++ ⟨#[0]⟩ ++ nulN (pad4 (111 + p.size)) ++ d ++ nulN (pad4 d.size) else ⟨#[]⟩) := Lib.hid rfl
  have HRw := Lib.hid (fun (w : World) (g : Nat) (ty : TypeId) (h : w.heap[g]? = some (.cells #[.int .i64 ino, .int .i64 mo, .int .i64 u1, .int .i64 gi, .int .i64 cn, .int .i64 t, .int .i64 (d.size : Int), .int .i64 0, .int .i64 0, .int .i64 0, .int .i64 0, .int .i64 ((p.size : Int) + 1), .int .i64 (sumN crc d)] ty (0, 0))) => RowNN.of (l := nFl ⟨ino, mo, u1, gi, cn, t, p, d⟩ crc) h)
  generalize newTextv ⟨ino, mo, u1, gi, cn, t, p, d⟩ crc = r at HV
  generalize hexOk (nFl ⟨ino, mo, u1, gi, cn, t, p, d⟩ crc) = ok at HF HB HV HL13
  generalize hexS (nFl ⟨ino, mo, u1, gi, cn, t, p, d⟩ crc) = hx at HF HV HL13
  generalize nFl ⟨ino, mo, u1, gi, cn, t, p, d⟩ crc = L at HG HS HK HB HZ HF HLe HRw
  generalize sumN crc d = sm at HSm HRw
  generalize mgN crc = mg at HMg HV hmz
  have hq1 := pad4_le (111 + p.size)
  have hq2 := pad4_le d.size
  have HN1 := Lib.hid (fun w => nuls4_spec (pad4 (111 + p.size)) (by omega) w)
  have HN2 := Lib.hid (fun w => nuls4_spec (pad4 d.size) (by omega) w)
  have HP1 := Lib.hid (fun w => pad4_spec (111 + p.size) (by omega) w)
  have HP2 := Lib.hid (fun w => pad4_spec d.size (by omega) w)
  have hz1 := nulN_size (pad4 (111 + p.size))
  have hz2 := nulN_size (pad4 d.size)
  generalize nulN (pad4 (111 + p.size)) = nu1 at *
  generalize nulN (pad4 d.size) = nu2 at *
  generalize pad4 (111 + p.size) = q1 at *
  generalize pad4 d.size = q2 at *
  go_enter Tryd.func5, Tryd.ntmps5
  go_wp2_with fail
  refine (HMg.out _).mono ?_
  rintro e wm ⟨rfl, rfl⟩
  go_upto_region 2 with fail
  generalize hw1 : World.alloc w _ = w1
  have XC : Hid (CardO w1 w.heap.size ⟨ino, mo, u1, gi, cn, t, p, d⟩) := Lib.hid (by rw [← hw1]; exact CardO.new w ⟨ino, mo, u1, gi, cn, t, p, d⟩)
  have B1 : Hid (Below w.heap.size w w1) := Lib.hid (by rw [← hw1]; exact (Below.refl _ _).alloc (Nat.le_refl _) _)
  have hs1 : w1.heap.size = w.heap.size + 1 := by rw [← hw1]; simp
  clear hw1
  have KC : Hid (∀ w', Below w1.heap.size w1 w' → w'.cell? ⟨w.heap.size, 0, none⟩ = some (.int .i64 ino) ∧ w'.cell? ⟨w.heap.size, 1, none⟩ = some (.int .i64 mo) ∧ w'.cell? ⟨w.heap.size, 2, none⟩ = some (.int .i64 u1) ∧ w'.cell? ⟨w.heap.size, 3, none⟩ = some (.int .i64 gi) ∧ w'.cell? ⟨w.heap.size, 4, none⟩ = some (.int .i64 cn) ∧ w'.cell? ⟨w.heap.size, 5, none⟩ = some (.int .i64 t) ∧ w'.cell? ⟨w.heap.size, 6, none⟩ = some (.string p) ∧ w'.cell? ⟨w.heap.size, 7, none⟩ = some (.string d)) := Lib.hid (fun w' hb => (XC.out.below hb (by omega)).at.zero)
  refine wp_region_cut 24 (by kernel_rfl) (fun w' => Below w1.heap.size w1 w') (fun x y => Below x.heap.size x y) (vE 35 (exRow w1.heap.size 13 #[.int .i64 ino, .int .i64 mo, .int .i64 u1, .int .i64 gi, .int .i64 cn, .int .i64 t, .int .i64 (d.size : Int), .int .i64 0, .int .i64 0, .int .i64 0, .int .i64 0, .int .i64 ((p.size : Int) + 1), .int .i64 sm] 3) (fun dq vq _ => match dq with | 12 => vq = .pointer (some ⟨w.heap.size, 0, none⟩) | 13 => vq = .int .i64 ino | 14 => vq = .pointer (some ⟨w.heap.size, 1, none⟩) | 15 => vq = .int .i64 mo | 16 => vq = .pointer (some ⟨w.heap.size, 2, none⟩) | 17 => vq = .int .i64 u1 | 18 => vq = .pointer (some ⟨w.heap.size, 3, none⟩) | 19 => vq = .int .i64 gi | 20 => vq = .pointer (some ⟨w.heap.size, 4, none⟩) | 21 => vq = .int .i64 cn | 22 => vq = .pointer (some ⟨w.heap.size, 5, none⟩) | 23 => vq = .int .i64 t | 24 => vq = .pointer (some ⟨w.heap.size, 7, none⟩) | 25 => vq = .string d | 26 => vq = .int .i64 (d.size : Int) | 27 => vq = .pointer (some ⟨w.heap.size, 6, none⟩) | 28 => vq = .string p | 29 => vq = .int .i64 (p.size : Int) | 30 => vq = .int .i64 ((p.size : Int) + 1) | 31 => vq = .pointer (some ⟨w.heap.size, 7, none⟩) | 32 => vq = .string d | 33 => vq = .bool crc | 34 => vq = .int .i64 sm | _ => True)) (by kernel_rfl) (by kernel_rfl) ((Below.refl _ _).drew) (vE_keep _ _ _ (exRow_keep _ _ _ _) (fun _ _ _ _ _ _ h => h)) (by simp) ?hops ?hend
  case hops =>
    simp only [List.take_succ_cons, List.take_zero, List.forall_mem_cons]
    refine ⟨?o12, ?o13, ?o14, ?o15, ?o16, ?o17, ?o18, ?o19, ?o20, ?o21, ?o22, ?o23, ?o24, ?o25, ?o26, ?o27, ?o28, ?o29, ?o30, ?o31, ?o32, ?o33, ?o34, ?o35, fun _ h => by cases h⟩
    case o12 =>
      intro Q a w2 hC hV hI
      have e2 : a.eval (.tmp 2) = .pointer (some ⟨w.heap.size, 0, none⟩) := (hI 2 (by simp [Op.operands]) (by kernel_rfl)).trans rfl
      have f2 : a.tmps.getD 2 undef = .pointer (some ⟨w.heap.size, 0, none⟩) := e2
      have g2 : a.tmps[2]?.getD undef = .pointer (some ⟨w.heap.size, 0, none⟩) := by rw [← Array.getD_eq_getD_getElem?]; exact e2
      refine op_val (.pointer (some ⟨w.heap.size, 0, none⟩)) ?_ hC (Below.refl _ _) (by intro d hd; cases hd; exact rfl)
      (clear hV hI hC; go_simp <;> (first | rfl | simp | (rw [IntKind.wrap_i64]; omega)))
    case o13 =>
      intro Q a w2 hC hV hI
      have e12 : a.eval (.tmp 12) = .pointer (some ⟨w.heap.size, 0, none⟩) := hV 12 (by simp [Op.operands]) (by kernel_rfl)
      have f12 : a.tmps.getD 12 undef = .pointer (some ⟨w.heap.size, 0, none⟩) := e12
      have g12 : a.tmps[12]?.getD undef = .pointer (some ⟨w.heap.size, 0, none⟩) := by rw [← Array.getD_eq_getD_getElem?]; exact e12
      have hK := KC.out w2 hC
      refine op_val (.int .i64 ino) ?_ hC (Below.refl _ _) (by intro d hd; cases hd; exact rfl)
      (clear hV hI hC; go_simp <;> (first | rfl | simp | (rw [IntKind.wrap_i64]; omega)))
    case o14 =>
      intro Q a w2 hC hV hI
      have e2 : a.eval (.tmp 2) = .pointer (some ⟨w.heap.size, 0, none⟩) := (hI 2 (by simp [Op.operands]) (by kernel_rfl)).trans rfl
      have f2 : a.tmps.getD 2 undef = .pointer (some ⟨w.heap.size, 0, none⟩) := e2
      have g2 : a.tmps[2]?.getD undef = .pointer (some ⟨w.heap.size, 0, none⟩) := by rw [← Array.getD_eq_getD_getElem?]; exact e2
      refine op_val (.pointer (some ⟨w.heap.size, 1, none⟩)) ?_ hC (Below.refl _ _) (by intro d hd; cases hd; exact rfl)
      (clear hV hI hC; go_simp <;> (first | rfl | simp | (rw [IntKind.wrap_i64]; omega)))
    case o15 =>
      intro Q a w2 hC hV hI
      have e14 : a.eval (.tmp 14) = .pointer (some ⟨w.heap.size, 1, none⟩) := hV 14 (by simp [Op.operands]) (by kernel_rfl)
      have f14 : a.tmps.getD 14 undef = .pointer (some ⟨w.heap.size, 1, none⟩) := e14
      have g14 : a.tmps[14]?.getD undef = .pointer (some ⟨w.heap.size, 1, none⟩) := by rw [← Array.getD_eq_getD_getElem?]; exact e14
      have hK := KC.out w2 hC
      refine op_val (.int .i64 mo) ?_ hC (Below.refl _ _) (by intro d hd; cases hd; exact rfl)
      (clear hV hI hC; go_simp <;> (first | rfl | simp | (rw [IntKind.wrap_i64]; omega)))
    case o16 =>
      intro Q a w2 hC hV hI
      have e2 : a.eval (.tmp 2) = .pointer (some ⟨w.heap.size, 0, none⟩) := (hI 2 (by simp [Op.operands]) (by kernel_rfl)).trans rfl
      have f2 : a.tmps.getD 2 undef = .pointer (some ⟨w.heap.size, 0, none⟩) := e2
      have g2 : a.tmps[2]?.getD undef = .pointer (some ⟨w.heap.size, 0, none⟩) := by rw [← Array.getD_eq_getD_getElem?]; exact e2
      refine op_val (.pointer (some ⟨w.heap.size, 2, none⟩)) ?_ hC (Below.refl _ _) (by intro d hd; cases hd; exact rfl)
      (clear hV hI hC; go_simp <;> (first | rfl | simp | (rw [IntKind.wrap_i64]; omega)))
    case o17 =>
      intro Q a w2 hC hV hI
      have e16 : a.eval (.tmp 16) = .pointer (some ⟨w.heap.size, 2, none⟩) := hV 16 (by simp [Op.operands]) (by kernel_rfl)
      have f16 : a.tmps.getD 16 undef = .pointer (some ⟨w.heap.size, 2, none⟩) := e16
      have g16 : a.tmps[16]?.getD undef = .pointer (some ⟨w.heap.size, 2, none⟩) := by rw [← Array.getD_eq_getD_getElem?]; exact e16
      have hK := KC.out w2 hC
      refine op_val (.int .i64 u1) ?_ hC (Below.refl _ _) (by intro d hd; cases hd; exact rfl)
      (clear hV hI hC; go_simp <;> (first | rfl | simp | (rw [IntKind.wrap_i64]; omega)))
    case o18 =>
      intro Q a w2 hC hV hI
      have e2 : a.eval (.tmp 2) = .pointer (some ⟨w.heap.size, 0, none⟩) := (hI 2 (by simp [Op.operands]) (by kernel_rfl)).trans rfl
      have f2 : a.tmps.getD 2 undef = .pointer (some ⟨w.heap.size, 0, none⟩) := e2
      have g2 : a.tmps[2]?.getD undef = .pointer (some ⟨w.heap.size, 0, none⟩) := by rw [← Array.getD_eq_getD_getElem?]; exact e2
      refine op_val (.pointer (some ⟨w.heap.size, 3, none⟩)) ?_ hC (Below.refl _ _) (by intro d hd; cases hd; exact rfl)
      (clear hV hI hC; go_simp <;> (first | rfl | simp | (rw [IntKind.wrap_i64]; omega)))
    case o19 =>
      intro Q a w2 hC hV hI
      have e18 : a.eval (.tmp 18) = .pointer (some ⟨w.heap.size, 3, none⟩) := hV 18 (by simp [Op.operands]) (by kernel_rfl)
      have f18 : a.tmps.getD 18 undef = .pointer (some ⟨w.heap.size, 3, none⟩) := e18
      have g18 : a.tmps[18]?.getD undef = .pointer (some ⟨w.heap.size, 3, none⟩) := by rw [← Array.getD_eq_getD_getElem?]; exact e18
      have hK := KC.out w2 hC
      refine op_val (.int .i64 gi) ?_ hC (Below.refl _ _) (by intro d hd; cases hd; exact rfl)
      (clear hV hI hC; go_simp <;> (first | rfl | simp | (rw [IntKind.wrap_i64]; omega)))
    case o20 =>
      intro Q a w2 hC hV hI
      have e2 : a.eval (.tmp 2) = .pointer (some ⟨w.heap.size, 0, none⟩) := (hI 2 (by simp [Op.operands]) (by kernel_rfl)).trans rfl
      have f2 : a.tmps.getD 2 undef = .pointer (some ⟨w.heap.size, 0, none⟩) := e2
      have g2 : a.tmps[2]?.getD undef = .pointer (some ⟨w.heap.size, 0, none⟩) := by rw [← Array.getD_eq_getD_getElem?]; exact e2
      refine op_val (.pointer (some ⟨w.heap.size, 4, none⟩)) ?_ hC (Below.refl _ _) (by intro d hd; cases hd; exact rfl)
      (clear hV hI hC; go_simp <;> (first | rfl | simp | (rw [IntKind.wrap_i64]; omega)))
    case o21 =>
      intro Q a w2 hC hV hI
      have e20 : a.eval (.tmp 20) = .pointer (some ⟨w.heap.size, 4, none⟩) := hV 20 (by simp [Op.operands]) (by kernel_rfl)
      have f20 : a.tmps.getD 20 undef = .pointer (some ⟨w.heap.size, 4, none⟩) := e20
      have g20 : a.tmps[20]?.getD undef = .pointer (some ⟨w.heap.size, 4, none⟩) := by rw [← Array.getD_eq_getD_getElem?]; exact e20
      have hK := KC.out w2 hC
      refine op_val (.int .i64 cn) ?_ hC (Below.refl _ _) (by intro d hd; cases hd; exact rfl)
      (clear hV hI hC; go_simp <;> (first | rfl | simp | (rw [IntKind.wrap_i64]; omega)))
    case o22 =>
      intro Q a w2 hC hV hI
      have e2 : a.eval (.tmp 2) = .pointer (some ⟨w.heap.size, 0, none⟩) := (hI 2 (by simp [Op.operands]) (by kernel_rfl)).trans rfl
      have f2 : a.tmps.getD 2 undef = .pointer (some ⟨w.heap.size, 0, none⟩) := e2
      have g2 : a.tmps[2]?.getD undef = .pointer (some ⟨w.heap.size, 0, none⟩) := by rw [← Array.getD_eq_getD_getElem?]; exact e2
      refine op_val (.pointer (some ⟨w.heap.size, 5, none⟩)) ?_ hC (Below.refl _ _) (by intro d hd; cases hd; exact rfl)
      (clear hV hI hC; go_simp <;> (first | rfl | simp | (rw [IntKind.wrap_i64]; omega)))
    case o23 =>
      intro Q a w2 hC hV hI
      have e22 : a.eval (.tmp 22) = .pointer (some ⟨w.heap.size, 5, none⟩) := hV 22 (by simp [Op.operands]) (by kernel_rfl)
      have f22 : a.tmps.getD 22 undef = .pointer (some ⟨w.heap.size, 5, none⟩) := e22
      have g22 : a.tmps[22]?.getD undef = .pointer (some ⟨w.heap.size, 5, none⟩) := by rw [← Array.getD_eq_getD_getElem?]; exact e22
      have hK := KC.out w2 hC
      refine op_val (.int .i64 t) ?_ hC (Below.refl _ _) (by intro d hd; cases hd; exact rfl)
      (clear hV hI hC; go_simp <;> (first | rfl | simp | (rw [IntKind.wrap_i64]; omega)))
    case o24 =>
      intro Q a w2 hC hV hI
      have e2 : a.eval (.tmp 2) = .pointer (some ⟨w.heap.size, 0, none⟩) := (hI 2 (by simp [Op.operands]) (by kernel_rfl)).trans rfl
      have f2 : a.tmps.getD 2 undef = .pointer (some ⟨w.heap.size, 0, none⟩) := e2
      have g2 : a.tmps[2]?.getD undef = .pointer (some ⟨w.heap.size, 0, none⟩) := by rw [← Array.getD_eq_getD_getElem?]; exact e2
      refine op_val (.pointer (some ⟨w.heap.size, 7, none⟩)) ?_ hC (Below.refl _ _) (by intro d hd; cases hd; exact rfl)
      (clear hV hI hC; go_simp <;> (first | rfl | simp | (rw [IntKind.wrap_i64]; omega)))
    case o25 =>
      intro Q a w2 hC hV hI
      have e24 : a.eval (.tmp 24) = .pointer (some ⟨w.heap.size, 7, none⟩) := hV 24 (by simp [Op.operands]) (by kernel_rfl)
      have f24 : a.tmps.getD 24 undef = .pointer (some ⟨w.heap.size, 7, none⟩) := e24
      have g24 : a.tmps[24]?.getD undef = .pointer (some ⟨w.heap.size, 7, none⟩) := by rw [← Array.getD_eq_getD_getElem?]; exact e24
      have hK := KC.out w2 hC
      refine op_val (.string d) ?_ hC (Below.refl _ _) (by intro d hd; cases hd; exact rfl)
      (clear hV hI hC; go_simp <;> (first | rfl | simp | (rw [IntKind.wrap_i64]; omega)))
    case o26 =>
      intro Q a w2 hC hV hI
      have e25 : a.eval (.tmp 25) = .string d := hV 25 (by simp [Op.operands, Call.operands]) (by kernel_rfl)
      have f25 : a.tmps.getD 25 undef = .string d := e25
      have g25 : a.tmps[25]?.getD undef = .string d := by rw [← Array.getD_eq_getD_getElem?]; exact e25
      refine op_val (.int .i64 (d.size : Int)) ?_ hC (Below.refl _ _) (by intro d hd; cases hd; exact rfl)
      (clear hV hI hC; go_simp <;> (first | rfl | simp | (rw [IntKind.wrap_i64]; omega)))
    case o27 =>
      intro Q a w2 hC hV hI
      have e2 : a.eval (.tmp 2) = .pointer (some ⟨w.heap.size, 0, none⟩) := (hI 2 (by simp [Op.operands]) (by kernel_rfl)).trans rfl
      have f2 : a.tmps.getD 2 undef = .pointer (some ⟨w.heap.size, 0, none⟩) := e2
      have g2 : a.tmps[2]?.getD undef = .pointer (some ⟨w.heap.size, 0, none⟩) := by rw [← Array.getD_eq_getD_getElem?]; exact e2
      refine op_val (.pointer (some ⟨w.heap.size, 6, none⟩)) ?_ hC (Below.refl _ _) (by intro d hd; cases hd; exact rfl)
      (clear hV hI hC; go_simp <;> (first | rfl | simp | (rw [IntKind.wrap_i64]; omega)))
    case o28 =>
      intro Q a w2 hC hV hI
      have e27 : a.eval (.tmp 27) = .pointer (some ⟨w.heap.size, 6, none⟩) := hV 27 (by simp [Op.operands]) (by kernel_rfl)
      have f27 : a.tmps.getD 27 undef = .pointer (some ⟨w.heap.size, 6, none⟩) := e27
      have g27 : a.tmps[27]?.getD undef = .pointer (some ⟨w.heap.size, 6, none⟩) := by rw [← Array.getD_eq_getD_getElem?]; exact e27
      have hK := KC.out w2 hC
      refine op_val (.string p) ?_ hC (Below.refl _ _) (by intro d hd; cases hd; exact rfl)
      (clear hV hI hC; go_simp <;> (first | rfl | simp | (rw [IntKind.wrap_i64]; omega)))
    case o29 =>
      intro Q a w2 hC hV hI
      have e28 : a.eval (.tmp 28) = .string p := hV 28 (by simp [Op.operands, Call.operands]) (by kernel_rfl)
      have f28 : a.tmps.getD 28 undef = .string p := e28
      have g28 : a.tmps[28]?.getD undef = .string p := by rw [← Array.getD_eq_getD_getElem?]; exact e28
      refine op_val (.int .i64 (p.size : Int)) ?_ hC (Below.refl _ _) (by intro d hd; cases hd; exact rfl)
      (clear hV hI hC; go_simp <;> (first | rfl | simp | (rw [IntKind.wrap_i64]; omega)))
    case o30 =>
      intro Q a w2 hC hV hI
      have e29 : a.eval (.tmp 29) = .int .i64 (p.size : Int) := hV 29 (by simp [Op.operands]) (by kernel_rfl)
      have f29 : a.tmps.getD 29 undef = .int .i64 (p.size : Int) := e29
      have g29 : a.tmps[29]?.getD undef = .int .i64 (p.size : Int) := by rw [← Array.getD_eq_getD_getElem?]; exact e29
      have q9 := add_i64 (P := Tryd.prog) (a := (p.size : Int)) (b := 1) w2 3 (by omega) (by omega)
      refine op_val (.int .i64 ((p.size : Int) + 1)) ?_ hC (Below.refl _ _) (by intro d hd; cases hd; exact rfl)
      (clear hV hI hC; go_simp <;> (first | rfl | simp | (rw [IntKind.wrap_i64]; omega)))
    case o31 =>
      intro Q a w2 hC hV hI
      have e2 : a.eval (.tmp 2) = .pointer (some ⟨w.heap.size, 0, none⟩) := (hI 2 (by simp [Op.operands]) (by kernel_rfl)).trans rfl
      have f2 : a.tmps.getD 2 undef = .pointer (some ⟨w.heap.size, 0, none⟩) := e2
      have g2 : a.tmps[2]?.getD undef = .pointer (some ⟨w.heap.size, 0, none⟩) := by rw [← Array.getD_eq_getD_getElem?]; exact e2
      refine op_val (.pointer (some ⟨w.heap.size, 7, none⟩)) ?_ hC (Below.refl _ _) (by intro d hd; cases hd; exact rfl)
      (clear hV hI hC; go_simp <;> (first | rfl | simp | (rw [IntKind.wrap_i64]; omega)))
    case o32 =>
      intro Q a w2 hC hV hI
      have e31 : a.eval (.tmp 31) = .pointer (some ⟨w.heap.size, 7, none⟩) := hV 31 (by simp [Op.operands]) (by kernel_rfl)
      have f31 : a.tmps.getD 31 undef = .pointer (some ⟨w.heap.size, 7, none⟩) := e31
      have g31 : a.tmps[31]?.getD undef = .pointer (some ⟨w.heap.size, 7, none⟩) := by rw [← Array.getD_eq_getD_getElem?]; exact e31
      have hK := KC.out w2 hC
      refine op_val (.string d) ?_ hC (Below.refl _ _) (by intro d hd; cases hd; exact rfl)
      (clear hV hI hC; go_simp <;> (first | rfl | simp | (rw [IntKind.wrap_i64]; omega)))
    case o33 =>
      intro Q a w2 hC hV hI
      have e1 : a.eval (.tmp 1) = .bool crc := (hI 1 (by simp [Op.operands]) (by kernel_rfl)).trans rfl
      have f1 : a.tmps.getD 1 undef = .bool crc := e1
      have g1 : a.tmps[1]?.getD undef = .bool crc := by rw [← Array.getD_eq_getD_getElem?]; exact e1
      refine op_val (.bool crc) ?_ hC (Below.refl _ _) (by intro d hd; cases hd; exact rfl)
      (clear hV hI hC; go_simp <;> (first | rfl | simp | (rw [IntKind.wrap_i64]; omega)))
    case o34 =>
      intro Q a w2 hC hV hI
      have e32 : a.eval (.tmp 32) = .string d := hV 32 (by simp [Op.operands, Call.operands]) (by kernel_rfl)
      have f32 : a.tmps.getD 32 undef = .string d := e32
      have g32 : a.tmps[32]?.getD undef = .string d := by rw [← Array.getD_eq_getD_getElem?]; exact e32
      have e33 : a.eval (.tmp 33) = .bool crc := hV 33 (by simp [Op.operands, Call.operands]) (by kernel_rfl)
      have f33 : a.tmps.getD 33 undef = .bool crc := e33
      have g33 : a.tmps[33]?.getD undef = .bool crc := by rw [← Array.getD_eq_getD_getElem?]; exact e33
      refine op_call (f := 9) (args := #[.string d, .bool crc]) (R := fun v y => v = .int .i64 sm ∧ w2 = y) ?_ ((HSm.out w2).mono ?_) ?_
      · (clear hV hI hC; go_simp <;> (first | rfl | simp | (rw [IntKind.wrap_i64]; omega)))
      · rintro e y ⟨rfl, rfl⟩; exact ⟨_, rfl, rfl, rfl⟩
      · rintro v y ⟨rfl, rfl⟩; exact ⟨hC, Below.refl _ _, by intro d hd; cases hd; exact rfl⟩
    case o35 =>
      intro Q a w2 hC hV hI
      have e13 : a.eval (.tmp 13) = .int .i64 ino := hV 13 (by simp [Op.operands]) (by kernel_rfl)
      have f13 : a.tmps.getD 13 undef = .int .i64 ino := e13
      have g13 : a.tmps[13]?.getD undef = .int .i64 ino := by rw [← Array.getD_eq_getD_getElem?]; exact e13
      have e15 : a.eval (.tmp 15) = .int .i64 mo := hV 15 (by simp [Op.operands]) (by kernel_rfl)
      have f15 : a.tmps.getD 15 undef = .int .i64 mo := e15
      have g15 : a.tmps[15]?.getD undef = .int .i64 mo := by rw [← Array.getD_eq_getD_getElem?]; exact e15
      have e17 : a.eval (.tmp 17) = .int .i64 u1 := hV 17 (by simp [Op.operands]) (by kernel_rfl)
      have f17 : a.tmps.getD 17 undef = .int .i64 u1 := e17
      have g17 : a.tmps[17]?.getD undef = .int .i64 u1 := by rw [← Array.getD_eq_getD_getElem?]; exact e17
      have e19 : a.eval (.tmp 19) = .int .i64 gi := hV 19 (by simp [Op.operands]) (by kernel_rfl)
      have f19 : a.tmps.getD 19 undef = .int .i64 gi := e19
      have g19 : a.tmps[19]?.getD undef = .int .i64 gi := by rw [← Array.getD_eq_getD_getElem?]; exact e19
      have e21 : a.eval (.tmp 21) = .int .i64 cn := hV 21 (by simp [Op.operands]) (by kernel_rfl)
      have f21 : a.tmps.getD 21 undef = .int .i64 cn := e21
      have g21 : a.tmps[21]?.getD undef = .int .i64 cn := by rw [← Array.getD_eq_getD_getElem?]; exact e21
      have e23 : a.eval (.tmp 23) = .int .i64 t := hV 23 (by simp [Op.operands]) (by kernel_rfl)
      have f23 : a.tmps.getD 23 undef = .int .i64 t := e23
      have g23 : a.tmps[23]?.getD undef = .int .i64 t := by rw [← Array.getD_eq_getD_getElem?]; exact e23
      have e26 : a.eval (.tmp 26) = .int .i64 (d.size : Int) := hV 26 (by simp [Op.operands]) (by kernel_rfl)
      have f26 : a.tmps.getD 26 undef = .int .i64 (d.size : Int) := e26
      have g26 : a.tmps[26]?.getD undef = .int .i64 (d.size : Int) := by rw [← Array.getD_eq_getD_getElem?]; exact e26
      have e30 : a.eval (.tmp 30) = .int .i64 ((p.size : Int) + 1) := hV 30 (by simp [Op.operands]) (by kernel_rfl)
      have f30 : a.tmps.getD 30 undef = .int .i64 ((p.size : Int) + 1) := e30
      have g30 : a.tmps[30]?.getD undef = .int .i64 ((p.size : Int) + 1) := by rw [← Array.getD_eq_getD_getElem?]; exact e30
      have e34 : a.eval (.tmp 34) = .int .i64 sm := hV 34 (by simp [Op.operands]) (by kernel_rfl)
      have f34 : a.tmps.getD 34 undef = .int .i64 sm := e34
      have g34 : a.tmps[34]?.getD undef = .int .i64 sm := by rw [← Array.getD_eq_getD_getElem?]; exact e34
      refine op_val (.slice (some ⟨w2.heap.size, 0, none⟩) 13 13) (w' := w2.alloc (.cells #[.int .i64 ino, .int .i64 mo, .int .i64 u1, .int .i64 gi, .int .i64 cn, .int .i64 t, .int .i64 (d.size : Int), .int .i64 0, .int .i64 0, .int .i64 0, .int .i64 0, .int .i64 ((p.size : Int) + 1), .int .i64 sm] 3)) ?_ (hC.alloc hC.size _) ((Below.refl _ _).alloc (Nat.le_refl _) _) ?_
      · (clear hV hI hC; go_simp <;> (first | rfl | simp | (rw [IntKind.wrap_i64]; omega)))
      · intro d hd; cases hd; exact ⟨w2.heap.size, rfl, hC.size, heap_lastG _ _⟩
  case hend =>
    intro f w2 hC hall
    simp only [List.take_succ_cons, List.take_zero, List.drop_succ_cons, List.drop_zero] at hall ⊢
    simp only [List.forall_mem_cons] at hall
    obtain ⟨h12, h13, h14, h15, h16, h17, h18, h19, h20, h21, h22, h23, h24, h25, h26, h27, h28, h29, h30, h31, h32, h33, h34, h35, _⟩ := hall
    replace h12 : f 12 = .pointer (some ⟨w.heap.size, 0, none⟩) := h12 12 rfl
    replace h13 : f 13 = .int .i64 ino := h13 13 rfl
    replace h14 : f 14 = .pointer (some ⟨w.heap.size, 1, none⟩) := h14 14 rfl
    replace h15 : f 15 = .int .i64 mo := h15 15 rfl
    replace h16 : f 16 = .pointer (some ⟨w.heap.size, 2, none⟩) := h16 16 rfl
    replace h17 : f 17 = .int .i64 u1 := h17 17 rfl
    replace h18 : f 18 = .pointer (some ⟨w.heap.size, 3, none⟩) := h18 18 rfl
    replace h19 : f 19 = .int .i64 gi := h19 19 rfl
    replace h20 : f 20 = .pointer (some ⟨w.heap.size, 4, none⟩) := h20 20 rfl
    replace h21 : f 21 = .int .i64 cn := h21 21 rfl
    replace h22 : f 22 = .pointer (some ⟨w.heap.size, 5, none⟩) := h22 22 rfl
    replace h23 : f 23 = .int .i64 t := h23 23 rfl
    replace h24 : f 24 = .pointer (some ⟨w.heap.size, 7, none⟩) := h24 24 rfl
    replace h25 : f 25 = .string d := h25 25 rfl
    replace h26 : f 26 = .int .i64 (d.size : Int) := h26 26 rfl
    replace h27 : f 27 = .pointer (some ⟨w.heap.size, 6, none⟩) := h27 27 rfl
    replace h28 : f 28 = .string p := h28 28 rfl
    replace h29 : f 29 = .int .i64 (p.size : Int) := h29 29 rfl
    replace h30 : f 30 = .int .i64 ((p.size : Int) + 1) := h30 30 rfl
    replace h31 : f 31 = .pointer (some ⟨w.heap.size, 7, none⟩) := h31 31 rfl
    replace h32 : f 32 = .string d := h32 32 rfl
    replace h33 : f 33 = .bool crc := h33 33 rfl
    replace h34 : f 34 = .int .i64 sm := h34 34 rfl
    obtain ⟨G35, hG35, hGB35, hGO35⟩ : ∃ G, f 35 = .slice (some ⟨G, 0, none⟩) 13 13 ∧ w1.heap.size ≤ G ∧ w2.heap[G]? = some (.cells #[.int .i64 ino, .int .i64 mo, .int .i64 u1, .int .i64 gi, .int .i64 cn, .int .i64 t, .int .i64 (d.size : Int), .int .i64 0, .int .i64 0, .int .i64 0, .int .i64 0, .int .i64 ((p.size : Int) + 1), .int .i64 sm] 3 (0, 0)) := h35 35 rfl
    simp only [putAll, Act.put, List.setIfInBounds_toArray, List.set_cons_succ, List.set_cons_zero, h12, h13, h14, h15, h16, h17, h18, h19, h20, h21, h22, h23, h24, h25, h26, h27, h28, h29, h30, h31, h32, h33, h34, hG35]
    clear h12 h13 h14 h15 h16 h17 h18 h19 h20 h21 h22 h23 h24 h25 h26 h27 h28 h29 h30 h31 h32 h33 h34 hG35 h35
    have XC2 := Lib.hid (XC.out.below hC (by omega))
    have RW := Lib.hid (HRw.out _ _ _ hGO35)
    have hGl := (Array.getElem?_eq_some_iff.1 hGO35).1
    have B2 := Lib.hid (B1.out.trans (hC.mono (by omega)))
    have hc1 := hC.size
    clear KC XC B1 hGO35 hC HSm HRw
    go_wp2_with fail
    go_loopw [5, 7, 8, 9] (fun v u _ _ wr => ∃ i : Nat, u = .int .i64 i ∧ i ≤ 13 ∧ hexOk (L.take i) = true ∧ v = .string (mg ++ hexS (L.take i)) ∧ RowNN wr G35 L ∧ G35 < wr.heap.size ∧ CardO wr w.heap.size ⟨ino, mo, u1, gi, cn, t, p, d⟩ ∧ Below w.heap.size w wr) (fun _ u _ _ _ => 13 - (intOf u).toNat)
    case atStart => exact ⟨0, rfl, Nat.zero_le _, HZ.out.2, by rw [HZ.out.1, app_nilN], RW.out, hGl, XC2.out, B2.out⟩
    case round =>
      obtain ⟨i, rfl, hi, hok, rfl, hrw, hgl, hxc, hb⟩ := hrel
      clear XC2 RW B2 hGl
      have B := Lib.hid hb
      have RW := Lib.hid hrw
      have XC := Lib.hid hxc
      have hszB := B.out.size
      have HOk := Lib.hid hok
      clear hb hok hrw hxc
      have hle := HLe.out i
      by_cases hlt : i < 13
      · have hlt2 : (i : Int) < 13 := by omega
        obtain ⟨x, hx9⟩ := HG.out i hlt
        have HS2 := Lib.hid (HS.out i _ hx9)
        have HK2 := Lib.hid (HK.out i _ hx9)
        have HB2 := Lib.hid (HB.out i _ hx9)
        have hpl := HPl.out x
        have cN := RW.out i x hx9
        have HPx := Lib.hid (fun w => putHex_spec x w)
        clear hx9 HS HK HB HG HN1 HN2 HP1 HP2 HL13
        obtain ⟨T, hT⟩ : ∃ T, hexS (L.take i) = T := ⟨_, rfl⟩
        rw [hT] at HS2 hle ⊢
        clear hT
        generalize (putHexv x).1 = q at HS2 hpl HPx
        generalize (putHexv x).2 = b at HB2 HK2 HPx
        have hmT : (mg ++ T).size = mg.size + T.size := ByteArray.size_append
        have HA : Hid (∀ w, (Op.stringOp .add (mg ++ T) q).run Tryd.prog w = .ok (.string (mg ++ T ++ q)) w) := Lib.hid (fun w => run_string_add_sum w _ _ (by omega))
        have HAs : Hid (mg ++ (T ++ q) = mg ++ T ++ q) := Lib.hid (by rw [ByteArray.append_assoc])
        generalize mg ++ T = mT at *
        go_wp2_with fail
        refine (HPx.out _).mono ?_
        rintro e wp ⟨rfl, rfl⟩
        cases b with
        | false =>
          have HF2 : Hid (r = ⟨#[]⟩) := Lib.hid (by rw [HV.out, HB2.out rfl]; rfl)
          clear HS2 HK2 HB2 HA HAs
          go_wp2_with fail
          go_ret
          exact ⟨by rw [HF2.out]; rfl, B.out⟩
        | true =>
          have HOk2 : Hid (hexOk (L.take (i + 1)) = true) := Lib.hid (by rw [HK2.out, HOk.out]; rfl)
          have HA' := HA.out
          clear HB2
          go_wp2_with fail
          go_roundw
          case rel => exact ⟨i + 1, by go_num, by omega, HOk2.out, by rw [HS2.out, HAs.out], RW.out, hgl, XC.out, B.out⟩
          case measure => simp [intOf]; omega
      · obtain rfl : i = 13 := by omega
        have hlt2 : ¬ ((13 : Nat) : Int) < 13 := by omega
        have HR9 := HF.out.2
        rw [HOk.out] at HR9
        have hxz := HL13.out HR9.symm
        have HF9 := HF.out.1
        rw [HF9]
        have HV9 : Hid (r = mg ++ hx ++ p ++ ⟨#[0]⟩ ++ nu1 ++ d ++ nu2) := Lib.hid (by rw [HV.out, ← HR9]; rfl)
        clear HR9 HF9 HF HV HL13 HS HK HB HG HZ HLe HOk RW
        have z1 : (⟨#[0]⟩ : ByteArray).size = 1 := rfl
        obtain ⟨x0, hx0⟩ : ∃ x : ByteArray, x = mg ++ hx := ⟨_, rfl⟩
        have y0 : x0.size = 110 := by rw [hx0, ByteArray.size_append]; omega
        obtain ⟨x1, hx1⟩ : ∃ x : ByteArray, x = x0 ++ p := ⟨_, rfl⟩
        have y1 : x1.size = 110 + p.size := by rw [hx1, ByteArray.size_append]; omega
        obtain ⟨x2, hx2⟩ : ∃ x : ByteArray, x = x1 ++ ⟨#[0]⟩ := ⟨_, rfl⟩
        have y2 : x2.size = 111 + p.size := by rw [hx2, ByteArray.size_append]; omega
        have A1 : ∀ w, (Op.stringOp .add x0 p).run Tryd.prog w = .ok (.string x1) w := fun w => by rw [hx1]; exact run_string_add_sum w _ _ (by omega)
        have A2 : ∀ w, (Op.stringOp .add x1 ⟨#[0]⟩).run Tryd.prog w = .ok (.string x2) w := fun w => by rw [hx2]; exact run_string_add_sum w _ _ (by omega)
        have HX : Hid (r = x2 ++ nu1 ++ d ++ nu2) := Lib.hid (by rw [HV9.out, hx2, hx1, hx0])
        rw [← y2] at HP1
        rw [← hx0]
        have y3 : x2.size ≤ 4194415 := by omega
        have y4 : nu1.size ≤ 3 := by omega
        have y5 : nu2.size ≤ 3 := by omega
        clear hx0 hx1 hx2 HV9
        obtain ⟨k0, k1, k2, k3, k4, k5, k6, k7⟩ := XC.out.at.zero
        simp only at k6 k7
        obtain ⟨w3, hw3⟩ : ∃ wo, wo = wr := ⟨_, rfl⟩
        subst hw3
        go_upto_region 11 with fail
        have KC : Hid (∀ w', Below w3.heap.size w3 w' → w'.cell? ⟨w.heap.size, 7, none⟩ = some (.string d)) := Lib.hid (fun w' hb => (hb.cell (p := ⟨w.heap.size, 7, none⟩) (by have := XC.out.lt; exact this)).trans k7)
        clear A1 A2
        obtain ⟨x65, hx65⟩ : ∃ x : ByteArray, x = x2 ++ nu1 := ⟨_, rfl⟩
        obtain ⟨x68, hx68⟩ : ∃ x : ByteArray, x = x65 ++ d := ⟨_, rfl⟩
        obtain ⟨x74, hx74⟩ : ∃ x : ByteArray, x = x68 ++ nu2 := ⟨_, rfl⟩
        have zx65 : x65.size ≤ 4194418 := by rw [hx65, ByteArray.size_append]; omega
        have zx68 : x68.size ≤ 8388722 := by rw [hx68, ByteArray.size_append]; omega
        have zx74 : x74.size ≤ 8388725 := by rw [hx74, ByteArray.size_append]; omega
        have HA65 : Hid (∀ w, (Op.stringOp .add x2 nu1).run Tryd.prog w = .ok (.string x65) w) := Lib.hid (fun w => by rw [hx65]; exact run_string_add_sum w _ _ (by omega))
        have HA68 : Hid (∀ w, (Op.stringOp .add x65 d).run Tryd.prog w = .ok (.string x68) w) := Lib.hid (fun w => by rw [hx68]; exact run_string_add_sum w _ _ (by omega))
        have HA74 : Hid (∀ w, (Op.stringOp .add x68 nu2).run Tryd.prog w = .ok (.string x74) w) := Lib.hid (fun w => by rw [hx74]; exact run_string_add_sum w _ _ (by omega))
        have HX65 := Lib.hid hx65
        have HX68 := Lib.hid hx68
        have HX74 := Lib.hid hx74
        clear hx65 hx68 hx74
        refine wp_region_inv (by kernel_rfl) (fun w' => Below w3.heap.size w3 w') (fun x y => Below x.heap.size x y) (fun dq vq _ => match dq with | 60 => vq = .string x2 | 61 => vq = .string x2 | 62 => vq = .int .i64 (x2.size : Int) | 63 => vq = .int .i64 (q1 : Int) | 64 => vq = .string nu1 | 65 => vq = .string x65 | 66 => vq = .pointer (some ⟨w.heap.size, 7, none⟩) | 67 => vq = .string d | 68 => vq = .string x68 | 69 => vq = .pointer (some ⟨w.heap.size, 7, none⟩) | 70 => vq = .string d | 71 => vq = .int .i64 (d.size : Int) | 72 => vq = .int .i64 (q2 : Int) | 73 => vq = .string nu2 | 74 => vq = .string x74 | 4 => vq = .string x74 | _ => True) (by kernel_rfl) ((Below.refl _ _).drew) (fun _ _ _ _ _ _ h => h) ?hops ?hend
        case hops =>
          simp only [List.forall_mem_cons]
          refine ⟨?o60, ?o61, ?o62, ?o63, ?o64, ?o65, ?o66, ?o67, ?o68, ?o69, ?o70, ?o71, ?o72, ?o73, ?o74, ?o4, fun _ h => by cases h⟩
          case o60 =>
            intro Q a w2 hC hV hI
            have e5 : a.eval (.tmp 5) = .string x2 := (hI 5 (by simp [Op.operands]) (by kernel_rfl)).trans rfl
            have f5 : a.tmps.getD 5 undef = .string x2 := e5
            have g5 : a.tmps[5]?.getD undef = .string x2 := by rw [← Array.getD_eq_getD_getElem?]; exact e5
            refine op_val (.string x2) ?_ hC (Below.refl _ _) (by intro d hd; cases hd; rfl)
            (clear hV hI hC; go_simp <;> (first | rfl | simp | (rw [IntKind.wrap_i64]; omega)))
          case o61 =>
            intro Q a w2 hC hV hI
            have e5 : a.eval (.tmp 5) = .string x2 := (hI 5 (by simp [Op.operands]) (by kernel_rfl)).trans rfl
            have f5 : a.tmps.getD 5 undef = .string x2 := e5
            have g5 : a.tmps[5]?.getD undef = .string x2 := by rw [← Array.getD_eq_getD_getElem?]; exact e5
            refine op_val (.string x2) ?_ hC (Below.refl _ _) (by intro d hd; cases hd; rfl)
            (clear hV hI hC; go_simp <;> (first | rfl | simp | (rw [IntKind.wrap_i64]; omega)))
          case o62 =>
            intro Q a w2 hC hV hI
            have e61 : a.eval (.tmp 61) = .string x2 := hV 61 (by simp [Op.operands, Call.operands]) (by kernel_rfl)
            have f61 : a.tmps.getD 61 undef = .string x2 := e61
            have g61 : a.tmps[61]?.getD undef = .string x2 := by rw [← Array.getD_eq_getD_getElem?]; exact e61
            refine op_val (.int .i64 (x2.size : Int)) ?_ hC (Below.refl _ _) (by intro d hd; cases hd; rfl)
            (clear hV hI hC; go_simp <;> (first | rfl | simp | (rw [IntKind.wrap_i64]; omega)))
          case o63 =>
            intro Q a w2 hC hV hI
            have e62 : a.eval (.tmp 62) = .int .i64 (x2.size : Int) := hV 62 (by simp [Op.operands, Call.operands]) (by kernel_rfl)
            have f62 : a.tmps.getD 62 undef = .int .i64 (x2.size : Int) := e62
            have g62 : a.tmps[62]?.getD undef = .int .i64 (x2.size : Int) := by rw [← Array.getD_eq_getD_getElem?]; exact e62
            refine op_call (f := 12) (args := #[.int .i64 (x2.size : Int), .int .i64 4]) (R := fun v y => v = .int .i64 (q1 : Int) ∧ w2 = y) ?_ ((HP1.out w2).mono ?_) ?_
            · (clear hV hI hC; go_simp <;> (first | rfl | simp | (rw [IntKind.wrap_i64]; omega)))
            · rintro e y ⟨rfl, rfl⟩; exact ⟨_, rfl, rfl, rfl⟩
            · rintro v y ⟨rfl, rfl⟩; exact ⟨hC, Below.refl _ _, by intro d hd; cases hd; rfl⟩
          case o64 =>
            intro Q a w2 hC hV hI
            have e63 : a.eval (.tmp 63) = .int .i64 (q1 : Int) := hV 63 (by simp [Op.operands, Call.operands]) (by kernel_rfl)
            have f63 : a.tmps.getD 63 undef = .int .i64 (q1 : Int) := e63
            have g63 : a.tmps[63]?.getD undef = .int .i64 (q1 : Int) := by rw [← Array.getD_eq_getD_getElem?]; exact e63
            refine op_call (f := 11) (args := #[.int .i64 (q1 : Int)]) (R := fun v y => v = .string nu1 ∧ Below w2.heap.size w2 y) ?_ ((HN1.out w2).mono ?_) ?_
            · (clear hV hI hC; go_simp <;> (first | rfl | simp | (rw [IntKind.wrap_i64]; omega)))
            · rintro e y ⟨rfl, hb⟩; exact ⟨_, rfl, rfl, hb⟩
            · rintro v y ⟨rfl, hb⟩; exact ⟨hC.trans (hb.mono hC.size), hb, by intro d hd; cases hd; rfl⟩
          case o65 =>
            intro Q a w2 hC hV hI
            have e60 : a.eval (.tmp 60) = .string x2 := hV 60 (by simp [Op.operands]) (by kernel_rfl)
            have f60 : a.tmps.getD 60 undef = .string x2 := e60
            have g60 : a.tmps[60]?.getD undef = .string x2 := by rw [← Array.getD_eq_getD_getElem?]; exact e60
            have e64 : a.eval (.tmp 64) = .string nu1 := hV 64 (by simp [Op.operands]) (by kernel_rfl)
            have f64 : a.tmps.getD 64 undef = .string nu1 := e64
            have g64 : a.tmps[64]?.getD undef = .string nu1 := by rw [← Array.getD_eq_getD_getElem?]; exact e64
            refine op_val (.string x65) ?_ hC (Below.refl _ _) (by intro d hd; cases hd; rfl)
            have q := HA65.out w2
            (clear hV hI hC; go_simp <;> (first | rfl | simp | (rw [IntKind.wrap_i64]; omega)))
          case o66 =>
            intro Q a w2 hC hV hI
            have e2 : a.eval (.tmp 2) = .pointer (some ⟨w.heap.size, 0, none⟩) := (hI 2 (by simp [Op.operands]) (by kernel_rfl)).trans rfl
            have f2 : a.tmps.getD 2 undef = .pointer (some ⟨w.heap.size, 0, none⟩) := e2
            have g2 : a.tmps[2]?.getD undef = .pointer (some ⟨w.heap.size, 0, none⟩) := by rw [← Array.getD_eq_getD_getElem?]; exact e2
            refine op_val (.pointer (some ⟨w.heap.size, 7, none⟩)) ?_ hC (Below.refl _ _) (by intro d hd; cases hd; rfl)
            (clear hV hI hC; go_simp <;> (first | rfl | simp | (rw [IntKind.wrap_i64]; omega)))
          case o67 =>
            intro Q a w2 hC hV hI
            have e66 : a.eval (.tmp 66) = .pointer (some ⟨w.heap.size, 7, none⟩) := hV 66 (by simp [Op.operands]) (by kernel_rfl)
            have f66 : a.tmps.getD 66 undef = .pointer (some ⟨w.heap.size, 7, none⟩) := e66
            have g66 : a.tmps[66]?.getD undef = .pointer (some ⟨w.heap.size, 7, none⟩) := by rw [← Array.getD_eq_getD_getElem?]; exact e66
            have hK := KC.out w2 hC
            refine op_val (.string d) ?_ hC (Below.refl _ _) (by intro d hd; cases hd; rfl)
            (clear hV hI hC; go_simp <;> (first | rfl | simp | (rw [IntKind.wrap_i64]; omega)))
          case o68 =>
            intro Q a w2 hC hV hI
            have e65 : a.eval (.tmp 65) = .string x65 := hV 65 (by simp [Op.operands]) (by kernel_rfl)
            have f65 : a.tmps.getD 65 undef = .string x65 := e65
            have g65 : a.tmps[65]?.getD undef = .string x65 := by rw [← Array.getD_eq_getD_getElem?]; exact e65
            have e67 : a.eval (.tmp 67) = .string d := hV 67 (by simp [Op.operands]) (by kernel_rfl)
            have f67 : a.tmps.getD 67 undef = .string d := e67
            have g67 : a.tmps[67]?.getD undef = .string d := by rw [← Array.getD_eq_getD_getElem?]; exact e67
            refine op_val (.string x68) ?_ hC (Below.refl _ _) (by intro d hd; cases hd; rfl)
            have q := HA68.out w2
            (clear hV hI hC; go_simp <;> (first | rfl | simp | (rw [IntKind.wrap_i64]; omega)))
          case o69 =>
            intro Q a w2 hC hV hI
            have e2 : a.eval (.tmp 2) = .pointer (some ⟨w.heap.size, 0, none⟩) := (hI 2 (by simp [Op.operands]) (by kernel_rfl)).trans rfl
            have f2 : a.tmps.getD 2 undef = .pointer (some ⟨w.heap.size, 0, none⟩) := e2
            have g2 : a.tmps[2]?.getD undef = .pointer (some ⟨w.heap.size, 0, none⟩) := by rw [← Array.getD_eq_getD_getElem?]; exact e2
            refine op_val (.pointer (some ⟨w.heap.size, 7, none⟩)) ?_ hC (Below.refl _ _) (by intro d hd; cases hd; rfl)
            (clear hV hI hC; go_simp <;> (first | rfl | simp | (rw [IntKind.wrap_i64]; omega)))
          case o70 =>
            intro Q a w2 hC hV hI
            have e69 : a.eval (.tmp 69) = .pointer (some ⟨w.heap.size, 7, none⟩) := hV 69 (by simp [Op.operands]) (by kernel_rfl)
            have f69 : a.tmps.getD 69 undef = .pointer (some ⟨w.heap.size, 7, none⟩) := e69
            have g69 : a.tmps[69]?.getD undef = .pointer (some ⟨w.heap.size, 7, none⟩) := by rw [← Array.getD_eq_getD_getElem?]; exact e69
            have hK := KC.out w2 hC
            refine op_val (.string d) ?_ hC (Below.refl _ _) (by intro d hd; cases hd; rfl)
            (clear hV hI hC; go_simp <;> (first | rfl | simp | (rw [IntKind.wrap_i64]; omega)))
          case o71 =>
            intro Q a w2 hC hV hI
            have e70 : a.eval (.tmp 70) = .string d := hV 70 (by simp [Op.operands, Call.operands]) (by kernel_rfl)
            have f70 : a.tmps.getD 70 undef = .string d := e70
            have g70 : a.tmps[70]?.getD undef = .string d := by rw [← Array.getD_eq_getD_getElem?]; exact e70
            refine op_val (.int .i64 (d.size : Int)) ?_ hC (Below.refl _ _) (by intro d hd; cases hd; rfl)
            (clear hV hI hC; go_simp <;> (first | rfl | simp | (rw [IntKind.wrap_i64]; omega)))
          case o72 =>
            intro Q a w2 hC hV hI
            have e71 : a.eval (.tmp 71) = .int .i64 (d.size : Int) := hV 71 (by simp [Op.operands, Call.operands]) (by kernel_rfl)
            have f71 : a.tmps.getD 71 undef = .int .i64 (d.size : Int) := e71
            have g71 : a.tmps[71]?.getD undef = .int .i64 (d.size : Int) := by rw [← Array.getD_eq_getD_getElem?]; exact e71
            refine op_call (f := 12) (args := #[.int .i64 (d.size : Int), .int .i64 4]) (R := fun v y => v = .int .i64 (q2 : Int) ∧ w2 = y) ?_ ((HP2.out w2).mono ?_) ?_
            · (clear hV hI hC; go_simp <;> (first | rfl | simp | (rw [IntKind.wrap_i64]; omega)))
            · rintro e y ⟨rfl, rfl⟩; exact ⟨_, rfl, rfl, rfl⟩
            · rintro v y ⟨rfl, rfl⟩; exact ⟨hC, Below.refl _ _, by intro d hd; cases hd; rfl⟩
          case o73 =>
            intro Q a w2 hC hV hI
            have e72 : a.eval (.tmp 72) = .int .i64 (q2 : Int) := hV 72 (by simp [Op.operands, Call.operands]) (by kernel_rfl)
            have f72 : a.tmps.getD 72 undef = .int .i64 (q2 : Int) := e72
            have g72 : a.tmps[72]?.getD undef = .int .i64 (q2 : Int) := by rw [← Array.getD_eq_getD_getElem?]; exact e72
            refine op_call (f := 11) (args := #[.int .i64 (q2 : Int)]) (R := fun v y => v = .string nu2 ∧ Below w2.heap.size w2 y) ?_ ((HN2.out w2).mono ?_) ?_
            · (clear hV hI hC; go_simp <;> (first | rfl | simp | (rw [IntKind.wrap_i64]; omega)))
            · rintro e y ⟨rfl, hb⟩; exact ⟨_, rfl, rfl, hb⟩
            · rintro v y ⟨rfl, hb⟩; exact ⟨hC.trans (hb.mono hC.size), hb, by intro d hd; cases hd; rfl⟩
          case o74 =>
            intro Q a w2 hC hV hI
            have e68 : a.eval (.tmp 68) = .string x68 := hV 68 (by simp [Op.operands]) (by kernel_rfl)
            have f68 : a.tmps.getD 68 undef = .string x68 := e68
            have g68 : a.tmps[68]?.getD undef = .string x68 := by rw [← Array.getD_eq_getD_getElem?]; exact e68
            have e73 : a.eval (.tmp 73) = .string nu2 := hV 73 (by simp [Op.operands]) (by kernel_rfl)
            have f73 : a.tmps.getD 73 undef = .string nu2 := e73
            have g73 : a.tmps[73]?.getD undef = .string nu2 := by rw [← Array.getD_eq_getD_getElem?]; exact e73
            refine op_val (.string x74) ?_ hC (Below.refl _ _) (by intro d hd; cases hd; rfl)
            have q := HA74.out w2
            (clear hV hI hC; go_simp <;> (first | rfl | simp | (rw [IntKind.wrap_i64]; omega)))
          case o4 =>
            intro Q a w2 hC hV hI
            have e74 : a.eval (.tmp 74) = .string x74 := hV 74 (by simp [Op.operands]) (by kernel_rfl)
            have f74 : a.tmps.getD 74 undef = .string x74 := e74
            have g74 : a.tmps[74]?.getD undef = .string x74 := by rw [← Array.getD_eq_getD_getElem?]; exact e74
            refine op_val (.string x74) ?_ hC (Below.refl _ _) (by intro d hd; cases hd; rfl)
            (clear hV hI hC; go_simp <;> (first | rfl | simp | (rw [IntKind.wrap_i64]; omega)))
        case hend =>
          intro f w4 hC hall
          clear HA65 HA68 HA74
          simp only [List.forall_mem_cons] at hall
          obtain ⟨h60, h61, h62, h63, h64, h65, h66, h67, h68, h69, h70, h71, h72, h73, h74, h4, _⟩ := hall
          replace h60 : f 60 = .string x2 := h60 60 rfl
          replace h61 : f 61 = .string x2 := h61 61 rfl
          replace h62 : f 62 = .int .i64 (x2.size : Int) := h62 62 rfl
          replace h63 : f 63 = .int .i64 (q1 : Int) := h63 63 rfl
          replace h64 : f 64 = .string nu1 := h64 64 rfl
          replace h65 : f 65 = .string x65 := h65 65 rfl
          replace h66 : f 66 = .pointer (some ⟨w.heap.size, 7, none⟩) := h66 66 rfl
          replace h67 : f 67 = .string d := h67 67 rfl
          replace h68 : f 68 = .string x68 := h68 68 rfl
          replace h69 : f 69 = .pointer (some ⟨w.heap.size, 7, none⟩) := h69 69 rfl
          replace h70 : f 70 = .string d := h70 70 rfl
          replace h71 : f 71 = .int .i64 (d.size : Int) := h71 71 rfl
          replace h72 : f 72 = .int .i64 (q2 : Int) := h72 72 rfl
          replace h73 : f 73 = .string nu2 := h73 73 rfl
          replace h74 : f 74 = .string x74 := h74 74 rfl
          replace h4 : f 4 = .string x74 := h4 4 rfl
          simp only [putAll, Act.put, List.setIfInBounds_toArray, List.set_cons_succ, List.set_cons_zero, h60, h61, h62, h63, h64, h65, h66, h67, h68, h69, h70, h71, h72, h73, h74, h4]
          clear h60 h61 h62 h63 h64 h65 h66 h67 h68 h69 h70 h71 h72 h73 h74 h4
          have HXe : Hid (r = x74) := Lib.hid (by rw [HX.out, HX74.out, HX68.out, HX65.out])
          clear KC HX
          have B4 := B.out.trans (hC.mono hszB)
          go_wp2_with fail
          go_ret
          exact ⟨by rw [HXe.out]; rfl, B4⟩
end Go.Proofs.YtcnmbolmgifgfaaDoor
