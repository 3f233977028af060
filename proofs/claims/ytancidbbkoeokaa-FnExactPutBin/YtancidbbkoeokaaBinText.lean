/- The text of a card in words; contract of spec.PutBin. -/
import Derived.Test.YtancidbbkoeokaaBinRoom
import Derived.Deep.DeepCutAuto
import Derived.OwnWalk
namespace Go.Proofs.Ytancidbbkoeokaa
open Go.ChangeShapes Go.WideShapes Go.ChangeAt Go.RowKit Go.Deep

/-- Words one after another. -/
def wsT (hi : Bool) (L : List Int) : ByteArray := ⟨(L.flatMap fun x => (put16v x hi).data.toList).toArray⟩
theorem wsT_snoc (hi : Bool) (L : List Int) (x : Int) : wsT hi (L ++ [x]) = wsT hi L ++ put16v x hi := by
  apply ba_ext
  simp [wsT]
theorem ws_take {hi : Bool} {L : List Int} {i : Nat} {x : Int} (h : L[i]? = some x) : wsT hi (L.take (i + 1)) = wsT hi (L.take i) ++ put16v x hi := by
  rw [List.take_add_one, h]
  exact wsT_snoc _ _ _
theorem wsT_size (hi : Bool) (L : List Int) : (wsT hi L).size = 2 * L.length := by
  induction L with
  | nil => rfl
  | cons x L ih =>
    have e1 : (wsT hi (x :: L)).size = ((x :: L).flatMap fun x => (put16v x hi).data.toList).length := List.size_toArray
    have e2 : (wsT hi L).size = (L.flatMap fun x => (put16v x hi).data.toList).length := List.size_toArray
    have e3 : (put16v x hi).data.toList.length = (put16v x hi).size := Array.length_toList
    rw [e1, List.flatMap_cons, List.length_append, e3, put16_size, List.length_cons]
    omega
theorem ws_headA (c : Card) (hi : Bool) : wsT hi [29127, 0, c.Ino, c.Mode, c.Uid, c.Gid, c.Count, 0] ++ put32v c.Time hi = headA c hi := by
  apply ba_ext
  simp [wsT, headA]
theorem app_nilB (a : ByteArray) : a ++ ⟨#[]⟩ = a := by
  apply ba_ext
  simp
theorem pad2_spec (n : Nat) (hn : n ≤ 9007199254740991) (w : World) : Calls Try.prog 23 #[.int .i64 (n : Int), .int .i64 2] w fun e w' => e = .returned (.int .i64 (pad2 n : Int)) ∧ w = w' := by
  have h := pad_spec (n : Int) 2 w
  rw [padv2 n hn] at h
  exact h
theorem nuls2_spec (n : Nat) (hn : n ≤ 1024) (w : World) : Calls Try.prog 22 #[.int .i64 (n : Int)] w fun e w' => e = .returned (.string (nulN n)) ∧ Below w.heap.size w w' := by
  have h := nulz_spec (n : Int) w (by omega)
  rw [Int.toNat_natCast] at h
  exact h
theorem and_shuf (a b c d e f g h : Bool) : ((a && (b && (c && (d && (e && g))))) && (f && h)) = (a && b && c && d && e && f && g && h) := by cases a <;> cases b <;> cases c <;> cases d <;> cases e <;> cases f <;> cases g <;> cases h <;> rfl
theorem binOk_room (c : Card) : (([29127, 0, c.Ino, c.Mode, c.Uid, c.Gid, c.Count, 0] ++ [(c.Path.size : Int) + 1]).all r16 && [c.Time, (c.Data.size : Int)].all r32) = binOk c := by
  have e1 : r16 29127 = true := by decide
  have e2 : r16 0 = true := by decide
  simp only [binOk, List.cons_append, List.nil_append, List.all_cons, List.all_nil, e1, e2, Bool.true_and, Bool.and_true]
  exact and_shuf _ _ _ _ _ _ _ _
set_option maxHeartbeats 6400000 in
set_option maxRecDepth 8000 in
theorem putBin_spec (ino mo u1 gi cn t : Int) (p d : ByteArray) (hi : Bool) (w : World) (hp : p.size ≤ 4194304) (hd : d.size ≤ 4194304) :
    Calls Try.prog 11 #[.agg #[.int .i64 ino, .int .i64 mo, .int .i64 u1, .int .i64 gi, .int .i64 cn, .int .i64 t, .string p, .string d], .bool hi] w fun e w' => e = .returned (.string (binTextv ⟨ino, mo, u1, gi, cn, t, p, d⟩ hi)) ∧ Below w.heap.size w w' := by
  have HG : Hid (∀ i, i < 8 → ∃ x, [29127, 0, ino, mo, u1, gi, cn, 0][i]? = some x) := Lib.hid (fun i hi => ⟨[29127, 0, ino, mo, u1, gi, cn, 0][i], List.getElem?_eq_getElem (by simpa using hi)⟩)
  have HS := Lib.hid (fun i x (h : [29127, 0, ino, mo, u1, gi, cn, 0][i]? = some x) => ws_take (hi := hi) h)
  have HZ : Hid (wsT hi ([29127, 0, ino, mo, u1, gi, cn, 0].take 0) = ⟨#[]⟩) := Lib.hid rfl
  have HLe : Hid (∀ i, (wsT hi ([29127, 0, ino, mo, u1, gi, cn, 0].take i)).size ≤ 16) := Lib.hid (fun i => by rw [wsT_size, List.length_take]; have : [29127, 0, ino, mo, u1, gi, cn, 0].length = 8 := rfl; omega)
  have HV : Hid (binTextv ⟨ino, mo, u1, gi, cn, t, p, d⟩ hi = if binOk ⟨ino, mo, u1, gi, cn, t, p, d⟩ then wsT hi [29127, 0, ino, mo, u1, gi, cn, 0] ++ put32v t hi ++ put16v ((p.size : Int) + 1) hi ++ put32v (d.size : Int) hi ++ p ++ ⟨#[0]⟩ ++ nulN (pad2 (p.size + 1)) ++ d ++ nulN (pad2 d.size) else ⟨#[]⟩) := Lib.hid (by
    show (if binOk ⟨ino, mo, u1, gi, cn, t, p, d⟩ then headB ⟨ino, mo, u1, gi, cn, t, p, d⟩ hi ++ p ++ ⟨#[0]⟩ ++ nulN (pad2 (p.size + 1)) ++ d ++ nulN (pad2 d.size) else ⟨#[]⟩) = _
    have := ws_headA ⟨ino, mo, u1, gi, cn, t, p, d⟩ hi
    simp only at this
    rw [headB, ← this])
  have HF : Hid (wsT hi ([29127, 0, ino, mo, u1, gi, cn, 0].take 8) = wsT hi [29127, 0, ino, mo, u1, gi, cn, 0] ∧ (wsT hi [29127, 0, ino, mo, u1, gi, cn, 0]).size = 16) := Lib.hid ⟨rfl, wsT_size _ _⟩
  have HR8 := Lib.hid (fun (w : World) (g : Nat) (ty : TypeId) (h : w.heap[g]? = some (.cells #[.int .i64 29127, .int .i64 0, .int .i64 ino, .int .i64 mo, .int .i64 u1, .int .i64 gi, .int .i64 cn, .int .i64 0] ty (0, 0))) => RowNB.of (l := [29127, 0, ino, mo, u1, gi, cn, 0]) h)
  have HOk : Hid ((([29127, 0, ino, mo, u1, gi, cn, 0] ++ [(p.size : Int) + 1]).all r16 && [t, (d.size : Int)].all r32) = binOk ⟨ino, mo, u1, gi, cn, t, p, d⟩) := Lib.hid (binOk_room ⟨ino, mo, u1, gi, cn, t, p, d⟩)
  generalize binTextv ⟨ino, mo, u1, gi, cn, t, p, d⟩ hi = r at HV
  generalize binOk ⟨ino, mo, u1, gi, cn, t, p, d⟩ = ok at HV HOk
  generalize wsT hi [29127, 0, ino, mo, u1, gi, cn, 0] = hx at HF HV
  have HP16 := Lib.hid (fun x w => put16_spec x hi w)
  have HP32 := Lib.hid (fun x w => put32_spec x hi w)
  have H16 := Lib.hid (fun x => put16_size x hi)
  have zt := put32_size t hi
  have zd := put32_size (d.size : Int) hi
  have zp := put16_size ((p.size : Int) + 1) hi
  have HPt := Lib.hid (fun w => put32_spec t hi w)
  have HPd := Lib.hid (fun w => put32_spec (d.size : Int) hi w)
  have HPp := Lib.hid (fun w => put16_spec ((p.size : Int) + 1) hi w)
  generalize put32v t hi = bt at *
  generalize put32v (d.size : Int) hi = bd at *
  generalize put16v ((p.size : Int) + 1) hi = bp at *
  have hq1 := pad2_le (p.size + 1)
  have hq2 := pad2_le d.size
  have HN1 := Lib.hid (fun w => nuls2_spec (pad2 (p.size + 1)) (by omega) w)
  have HN2 := Lib.hid (fun w => nuls2_spec (pad2 d.size) (by omega) w)
  have HP1 := Lib.hid (fun w => pad2_spec (p.size + 1) (by omega) w)
  rw [show ((p.size + 1 : Nat) : Int) = (p.size : Int) + 1 from by omega] at HP1
  have HP2 := Lib.hid (fun w => pad2_spec d.size (by omega) w)
  have hz1 := nulN_size (pad2 (p.size + 1))
  have hz2 := nulN_size (pad2 d.size)
  generalize nulN (pad2 (p.size + 1)) = nu1 at *
  generalize nulN (pad2 d.size) = nu2 at *
  generalize pad2 (p.size + 1) = q1 at *
  generalize pad2 d.size = q2 at *
  go_enter Try.func11, Try.ntmps11
  go_upto_region 1 with fail
  generalize hw1 : World.alloc w _ = w1
  have XC : Hid (CardO w1 w.heap.size ⟨ino, mo, u1, gi, cn, t, p, d⟩) := Lib.hid (by rw [← hw1]; exact CardO.new w ⟨ino, mo, u1, gi, cn, t, p, d⟩)
  have B1 : Hid (Below w.heap.size w w1) := Lib.hid (by rw [← hw1]; exact (Below.refl _ _).alloc (Nat.le_refl _) _)
  have hs1 : w1.heap.size = w.heap.size + 1 := by rw [← hw1]; simp
  clear hw1
  obtain ⟨d0, d1, d2, d3, d4, d5, d6, d7⟩ := XC.out.at.zero
  go_upto_region 2 with fail
  clear d0 d1 d2 d3 d4 d5 d6 d7
  generalize hwq : World.alloc w1 _ = wq
  have hsq : wq.heap.size = w1.heap.size + 1 := by rw [← hwq]; simp
  have BQ : Hid (Below w1.heap.size w1 wq) := Lib.hid (by rw [← hwq]; exact (Below.refl _ _).alloc (Nat.le_refl _) _)
  have RQ : Hid (RowNB wq (w.heap.size + 1) [29127, 0, ino, mo, u1, gi, cn, 0]) := Lib.hid (by rw [← hs1]; exact HR8.out wq w1.heap.size 3 (by rw [← hwq]; exact heap_lastG _ _))
  clear hwq HR8
  have XCq : Hid (CardO wq w.heap.size ⟨ino, mo, u1, gi, cn, t, p, d⟩) := Lib.hid (XC.out.below BQ.out (by omega))
  have KC : Hid (∀ w', Below wq.heap.size wq w' → w'.cell? ⟨w.heap.size, 0, none⟩ = some (.int .i64 ino) ∧ w'.cell? ⟨w.heap.size, 1, none⟩ = some (.int .i64 mo) ∧ w'.cell? ⟨w.heap.size, 2, none⟩ = some (.int .i64 u1) ∧ w'.cell? ⟨w.heap.size, 3, none⟩ = some (.int .i64 gi) ∧ w'.cell? ⟨w.heap.size, 4, none⟩ = some (.int .i64 cn) ∧ w'.cell? ⟨w.heap.size, 5, none⟩ = some (.int .i64 t) ∧ w'.cell? ⟨w.heap.size, 6, none⟩ = some (.string p) ∧ w'.cell? ⟨w.heap.size, 7, none⟩ = some (.string d)) := Lib.hid (fun w' hb => (XCq.out.below hb (by omega)).at.zero)
  refine wp_region_inv (by kernel_rfl) (fun w' => Below wq.heap.size wq w') (fun x y => Below x.heap.size x y) (vE 25 (appRow wq.heap.size 9 ([29127, 0, ino, mo, u1, gi, cn, 0] ++ [(p.size : Int) + 1])) (vE 31 (exRow wq.heap.size 2 #[.int .i64 t, .int .i64 (d.size : Int)] 3) (vE 24 (exRow wq.heap.size 1 #[.int .i64 ((p.size : Int) + 1)] 3) (fun dq vq _ => match dq with | 19 => vq = .slice (some ⟨w.heap.size + 1, 0, none⟩) 8 8 | 20 => vq = .pointer (some ⟨w.heap.size, 6, none⟩) | 21 => vq = .string p | 22 => vq = .int .i64 (p.size : Int) | 23 => vq = .int .i64 ((p.size : Int) + 1) | 26 => vq = .pointer (some ⟨w.heap.size, 5, none⟩) | 27 => vq = .int .i64 t | 28 => vq = .pointer (some ⟨w.heap.size, 7, none⟩) | 29 => vq = .string d | 30 => vq = .int .i64 (d.size : Int) | 32 => vq = .bool ok | 33 => vq = .bool (!ok) | _ => True)))) (by kernel_rfl) ((Below.refl _ _).drew) (vE_keep _ _ _ (appRow_keep _ _ _) (vE_keep _ _ _ (exRow_keep _ _ _ _) (vE_keep _ _ _ (exRow_keep _ _ _ _) (fun _ _ _ _ _ _ h => h)))) ?hops ?hend
  case hops =>
    simp only [List.forall_mem_cons]
    refine ⟨?o19, ?o20, ?o21, ?o22, ?o23, ?o24, ?o25, ?o26, ?o27, ?o28, ?o29, ?o30, ?o31, ?o32, ?o33, fun _ h => by cases h⟩
    case o19 =>
      intro Q a w2 hC hV hI
      have e5 : a.eval (.tmp 5) = .slice (some ⟨w.heap.size + 1, 0, none⟩) 8 8 := (hI 5 (by simp [Op.operands]) (by kernel_rfl)).trans rfl
      have f5 : a.tmps.getD 5 undef = .slice (some ⟨w.heap.size + 1, 0, none⟩) 8 8 := e5
      have g5 : a.tmps[5]?.getD undef = .slice (some ⟨w.heap.size + 1, 0, none⟩) 8 8 := by rw [← Array.getD_eq_getD_getElem?]; exact e5
      refine op_val (.slice (some ⟨w.heap.size + 1, 0, none⟩) 8 8) ?_ hC (Below.refl _ _) (by intro d hd; cases hd; exact rfl)
      (clear hV hI hC; go_simp <;> (first | rfl | simp | (rw [IntKind.wrap_i64]; omega)))
    case o20 =>
      intro Q a w2 hC hV hI
      have e2 : a.eval (.tmp 2) = .pointer (some ⟨w.heap.size, 0, none⟩) := (hI 2 (by simp [Op.operands]) (by kernel_rfl)).trans rfl
      have f2 : a.tmps.getD 2 undef = .pointer (some ⟨w.heap.size, 0, none⟩) := e2
      have g2 : a.tmps[2]?.getD undef = .pointer (some ⟨w.heap.size, 0, none⟩) := by rw [← Array.getD_eq_getD_getElem?]; exact e2
      refine op_val (.pointer (some ⟨w.heap.size, 6, none⟩)) ?_ hC (Below.refl _ _) (by intro d hd; cases hd; exact rfl)
      (clear hV hI hC; go_simp <;> (first | rfl | simp | (rw [IntKind.wrap_i64]; omega)))
    case o21 =>
      intro Q a w2 hC hV hI
      have e20 : a.eval (.tmp 20) = .pointer (some ⟨w.heap.size, 6, none⟩) := hV 20 (by simp [Op.operands]) (by kernel_rfl)
      have f20 : a.tmps.getD 20 undef = .pointer (some ⟨w.heap.size, 6, none⟩) := e20
      have g20 : a.tmps[20]?.getD undef = .pointer (some ⟨w.heap.size, 6, none⟩) := by rw [← Array.getD_eq_getD_getElem?]; exact e20
      have hK := KC.out w2 hC
      refine op_val (.string p) ?_ hC (Below.refl _ _) (by intro d hd; cases hd; exact rfl)
      (clear hV hI hC; go_simp <;> (first | rfl | simp | (rw [IntKind.wrap_i64]; omega)))
    case o22 =>
      intro Q a w2 hC hV hI
      have e21 : a.eval (.tmp 21) = .string p := hV 21 (by simp [Op.operands, Call.operands]) (by kernel_rfl)
      have f21 : a.tmps.getD 21 undef = .string p := e21
      have g21 : a.tmps[21]?.getD undef = .string p := by rw [← Array.getD_eq_getD_getElem?]; exact e21
      refine op_val (.int .i64 (p.size : Int)) ?_ hC (Below.refl _ _) (by intro d hd; cases hd; exact rfl)
      (clear hV hI hC; go_simp <;> (first | rfl | simp | (rw [IntKind.wrap_i64]; omega)))
    case o23 =>
      intro Q a w2 hC hV hI
      have e22 : a.eval (.tmp 22) = .int .i64 (p.size : Int) := hV 22 (by simp [Op.operands]) (by kernel_rfl)
      have f22 : a.tmps.getD 22 undef = .int .i64 (p.size : Int) := e22
      have g22 : a.tmps[22]?.getD undef = .int .i64 (p.size : Int) := by rw [← Array.getD_eq_getD_getElem?]; exact e22
      have q9 := add_i64 (P := Try.prog) (a := (p.size : Int)) (b := 1) w2 3 (by omega) (by omega)
      refine op_val (.int .i64 ((p.size : Int) + 1)) ?_ hC (Below.refl _ _) (by intro d hd; cases hd; exact rfl)
      (clear hV hI hC; go_simp <;> (first | rfl | simp | (rw [IntKind.wrap_i64]; omega)))
    case o24 =>
      intro Q a w2 hC hV hI
      have e23 : a.eval (.tmp 23) = .int .i64 ((p.size : Int) + 1) := hV 23 (by simp [Op.operands]) (by kernel_rfl)
      have f23 : a.tmps.getD 23 undef = .int .i64 ((p.size : Int) + 1) := e23
      have g23 : a.tmps[23]?.getD undef = .int .i64 ((p.size : Int) + 1) := by rw [← Array.getD_eq_getD_getElem?]; exact e23
      refine op_val (.slice (some ⟨w2.heap.size, 0, none⟩) 1 1) (w' := w2.alloc (.cells #[.int .i64 ((p.size : Int) + 1)] 3)) ?_ (hC.alloc hC.size _) ((Below.refl _ _).alloc (Nat.le_refl _) _) ?_
      · (clear hV hI hC; go_simp <;> (first | rfl | simp | (rw [IntKind.wrap_i64]; omega)))
      · intro d hd; cases hd; exact ⟨w2.heap.size, rfl, hC.size, heap_lastG _ _⟩
    case o25 =>
      intro Q a w2 hC hV hI
      have e19 : a.eval (.tmp 19) = .slice (some ⟨w.heap.size + 1, 0, none⟩) 8 8 := hV 19 (by simp [Op.operands, Call.operands]) (by kernel_rfl)
      have f19 : a.tmps.getD 19 undef = .slice (some ⟨w.heap.size + 1, 0, none⟩) 8 8 := e19
      have g19 : a.tmps[19]?.getD undef = .slice (some ⟨w.heap.size + 1, 0, none⟩) 8 8 := by rw [← Array.getD_eq_getD_getElem?]; exact e19
      obtain ⟨G24, e24, b24, o24⟩ : ∃ G, a.eval (.tmp 24) = .slice (some ⟨G, 0, none⟩) 1 1 ∧ wq.heap.size ≤ G ∧ w2.heap[G]? = some (.cells #[.int .i64 ((p.size : Int) + 1)] 3 (0, 0)) := hV 24 (by simp [Op.operands, Call.operands]) (by kernel_rfl)
      have f24 : a.tmps.getD 24 undef = .slice (some ⟨G24, 0, none⟩) 1 1 := e24
      have g24 : a.tmps[24]?.getD undef = .slice (some ⟨G24, 0, none⟩) 1 1 := by rw [← Array.getD_eq_getD_getElem?]; exact e24
      have hx1 : w2.cell? ⟨G24, 0, none⟩ = some (.int .i64 ((p.size : Int) + 1)) := by simp [World.cell?, o24]
      have hrw := RQ.out.below hC (by omega)
      obtain ⟨v9, w9, q1, q2, q3⟩ := app_full [29127, 0, ino, mo, u1, gi, cn, 0] ((p.size : Int) + 1) (w.heap.size + 1) G24 8 8 1 w2 40 rfl rfl hrw hx1 (by decide)
      refine op_app (.tmp 19) (.tmp 24) 40 rfl _ _ v9 (w' := w9) e19 e24 q1 (hC.trans (q3.mono hC.size)) q3 ?_
      intro d hd; cases hd; obtain ⟨G9, c9, r1, r2, r3, r4⟩ := q2; exact ⟨G9, c9, r1, Nat.le_trans hC.size r2, r3, r4⟩
    case o26 =>
      intro Q a w2 hC hV hI
      have e2 : a.eval (.tmp 2) = .pointer (some ⟨w.heap.size, 0, none⟩) := (hI 2 (by simp [Op.operands]) (by kernel_rfl)).trans rfl
      have f2 : a.tmps.getD 2 undef = .pointer (some ⟨w.heap.size, 0, none⟩) := e2
      have g2 : a.tmps[2]?.getD undef = .pointer (some ⟨w.heap.size, 0, none⟩) := by rw [← Array.getD_eq_getD_getElem?]; exact e2
      refine op_val (.pointer (some ⟨w.heap.size, 5, none⟩)) ?_ hC (Below.refl _ _) (by intro d hd; cases hd; exact rfl)
      (clear hV hI hC; go_simp <;> (first | rfl | simp | (rw [IntKind.wrap_i64]; omega)))
    case o27 =>
      intro Q a w2 hC hV hI
      have e26 : a.eval (.tmp 26) = .pointer (some ⟨w.heap.size, 5, none⟩) := hV 26 (by simp [Op.operands]) (by kernel_rfl)
      have f26 : a.tmps.getD 26 undef = .pointer (some ⟨w.heap.size, 5, none⟩) := e26
      have g26 : a.tmps[26]?.getD undef = .pointer (some ⟨w.heap.size, 5, none⟩) := by rw [← Array.getD_eq_getD_getElem?]; exact e26
      have hK := KC.out w2 hC
      refine op_val (.int .i64 t) ?_ hC (Below.refl _ _) (by intro d hd; cases hd; exact rfl)
      (clear hV hI hC; go_simp <;> (first | rfl | simp | (rw [IntKind.wrap_i64]; omega)))
    case o28 =>
      intro Q a w2 hC hV hI
      have e2 : a.eval (.tmp 2) = .pointer (some ⟨w.heap.size, 0, none⟩) := (hI 2 (by simp [Op.operands]) (by kernel_rfl)).trans rfl
      have f2 : a.tmps.getD 2 undef = .pointer (some ⟨w.heap.size, 0, none⟩) := e2
      have g2 : a.tmps[2]?.getD undef = .pointer (some ⟨w.heap.size, 0, none⟩) := by rw [← Array.getD_eq_getD_getElem?]; exact e2
      refine op_val (.pointer (some ⟨w.heap.size, 7, none⟩)) ?_ hC (Below.refl _ _) (by intro d hd; cases hd; exact rfl)
      (clear hV hI hC; go_simp <;> (first | rfl | simp | (rw [IntKind.wrap_i64]; omega)))
    case o29 =>
      intro Q a w2 hC hV hI
      have e28 : a.eval (.tmp 28) = .pointer (some ⟨w.heap.size, 7, none⟩) := hV 28 (by simp [Op.operands]) (by kernel_rfl)
      have f28 : a.tmps.getD 28 undef = .pointer (some ⟨w.heap.size, 7, none⟩) := e28
      have g28 : a.tmps[28]?.getD undef = .pointer (some ⟨w.heap.size, 7, none⟩) := by rw [← Array.getD_eq_getD_getElem?]; exact e28
      have hK := KC.out w2 hC
      refine op_val (.string d) ?_ hC (Below.refl _ _) (by intro d hd; cases hd; exact rfl)
      (clear hV hI hC; go_simp <;> (first | rfl | simp | (rw [IntKind.wrap_i64]; omega)))
    case o30 =>
      intro Q a w2 hC hV hI
      have e29 : a.eval (.tmp 29) = .string d := hV 29 (by simp [Op.operands, Call.operands]) (by kernel_rfl)
      have f29 : a.tmps.getD 29 undef = .string d := e29
      have g29 : a.tmps[29]?.getD undef = .string d := by rw [← Array.getD_eq_getD_getElem?]; exact e29
      refine op_val (.int .i64 (d.size : Int)) ?_ hC (Below.refl _ _) (by intro d hd; cases hd; exact rfl)
      (clear hV hI hC; go_simp <;> (first | rfl | simp | (rw [IntKind.wrap_i64]; omega)))
    case o31 =>
      intro Q a w2 hC hV hI
      have e27 : a.eval (.tmp 27) = .int .i64 t := hV 27 (by simp [Op.operands]) (by kernel_rfl)
      have f27 : a.tmps.getD 27 undef = .int .i64 t := e27
      have g27 : a.tmps[27]?.getD undef = .int .i64 t := by rw [← Array.getD_eq_getD_getElem?]; exact e27
      have e30 : a.eval (.tmp 30) = .int .i64 (d.size : Int) := hV 30 (by simp [Op.operands]) (by kernel_rfl)
      have f30 : a.tmps.getD 30 undef = .int .i64 (d.size : Int) := e30
      have g30 : a.tmps[30]?.getD undef = .int .i64 (d.size : Int) := by rw [← Array.getD_eq_getD_getElem?]; exact e30
      refine op_val (.slice (some ⟨w2.heap.size, 0, none⟩) 2 2) (w' := w2.alloc (.cells #[.int .i64 t, .int .i64 (d.size : Int)] 3)) ?_ (hC.alloc hC.size _) ((Below.refl _ _).alloc (Nat.le_refl _) _) ?_
      · (clear hV hI hC; go_simp <;> (first | rfl | simp | (rw [IntKind.wrap_i64]; omega)))
      · intro d hd; cases hd; exact ⟨w2.heap.size, rfl, hC.size, heap_lastG _ _⟩
    case o32 =>
      intro Q a w2 hC hV hI
      obtain ⟨G25, c25, e25, b25, l25, o25⟩ : ∃ G c, a.eval (.tmp 25) = .slice (some ⟨G, 0, none⟩) 9 c ∧ wq.heap.size ≤ G ∧ G < w2.heap.size ∧ RowNB w2 G ([29127, 0, ino, mo, u1, gi, cn, 0] ++ [(p.size : Int) + 1]) := hV 25 (by simp [Op.operands, Call.operands]) (by kernel_rfl)
      have f25 : a.tmps.getD 25 undef = .slice (some ⟨G25, 0, none⟩) 9 c25 := e25
      have g25 : a.tmps[25]?.getD undef = .slice (some ⟨G25, 0, none⟩) 9 c25 := by rw [← Array.getD_eq_getD_getElem?]; exact e25
      obtain ⟨G31, e31, b31, o31⟩ : ∃ G, a.eval (.tmp 31) = .slice (some ⟨G, 0, none⟩) 2 2 ∧ wq.heap.size ≤ G ∧ w2.heap[G]? = some (.cells #[.int .i64 t, .int .i64 (d.size : Int)] 3 (0, 0)) := hV 31 (by simp [Op.operands, Call.operands]) (by kernel_rfl)
      have f31 : a.tmps.getD 31 undef = .slice (some ⟨G31, 0, none⟩) 2 2 := e31
      have g31 : a.tmps[31]?.getD undef = .slice (some ⟨G31, 0, none⟩) 2 2 := by rw [← Array.getD_eq_getD_getElem?]; exact e31
      refine op_call (f := 19) (args := #[.slice (some ⟨G25, 0, none⟩) 9 c25, .slice (some ⟨G31, 0, none⟩) 2 2]) (R := fun v y => v = .bool ok ∧ w2 = y) ?_ (((by rw [← HOk.out]; exact room_any G25 G31 9 2 c25 2 ([29127, 0, ino, mo, u1, gi, cn, 0] ++ [(p.size : Int) + 1]) [t, (d.size : Int)] w2 o25 (RowNB.of (l := [t, (d.size : Int)]) o31) rfl rfl (by decide) (by decide) : Calls Try.prog 19 #[.slice (some ⟨G25, 0, none⟩) 9 c25, .slice (some ⟨G31, 0, none⟩) 2 2] w2 fun e w' => e = .returned (.bool ok) ∧ w2 = w')).mono ?_) ?_
      · (clear hV hI hC; go_simp <;> (first | rfl | simp | (rw [IntKind.wrap_i64]; omega)))
      · rintro e y ⟨rfl, rfl⟩; exact ⟨_, rfl, rfl, rfl⟩
      · rintro v y ⟨rfl, rfl⟩; exact ⟨hC, Below.refl _ _, by intro d hd; cases hd; exact rfl⟩
    case o33 =>
      intro Q a w2 hC hV hI
      have e32 : a.eval (.tmp 32) = .bool ok := hV 32 (by simp [Op.operands]) (by kernel_rfl)
      have f32 : a.tmps.getD 32 undef = .bool ok := e32
      have g32 : a.tmps[32]?.getD undef = .bool ok := by rw [← Array.getD_eq_getD_getElem?]; exact e32
      refine op_val (.bool (!ok)) ?_ hC (Below.refl _ _) (by intro d hd; cases hd; exact rfl)
      (clear hV hI hC; go_simp <;> (first | rfl | simp | (rw [IntKind.wrap_i64]; omega)))
  case hend =>
    intro f wz hC hall
    simp only [List.forall_mem_cons] at hall
    obtain ⟨h19, h20, h21, h22, h23, h24, h25, h26, h27, h28, h29, h30, h31, h32, h33, _⟩ := hall
    replace h19 : f 19 = .slice (some ⟨w.heap.size + 1, 0, none⟩) 8 8 := h19 19 rfl
    replace h20 : f 20 = .pointer (some ⟨w.heap.size, 6, none⟩) := h20 20 rfl
    replace h21 : f 21 = .string p := h21 21 rfl
    replace h22 : f 22 = .int .i64 (p.size : Int) := h22 22 rfl
    replace h23 : f 23 = .int .i64 ((p.size : Int) + 1) := h23 23 rfl
    obtain ⟨G24, hG24, hGB24, hGO24⟩ : ∃ G, f 24 = .slice (some ⟨G, 0, none⟩) 1 1 ∧ wq.heap.size ≤ G ∧ wz.heap[G]? = some (.cells #[.int .i64 ((p.size : Int) + 1)] 3 (0, 0)) := h24 24 rfl
    obtain ⟨G25, c25, hG25, hGB25, hGl25, hGO25⟩ : ∃ G c, f 25 = .slice (some ⟨G, 0, none⟩) 9 c ∧ wq.heap.size ≤ G ∧ G < wz.heap.size ∧ RowNB wz G ([29127, 0, ino, mo, u1, gi, cn, 0] ++ [(p.size : Int) + 1]) := h25 25 rfl
    replace h26 : f 26 = .pointer (some ⟨w.heap.size, 5, none⟩) := h26 26 rfl
    replace h27 : f 27 = .int .i64 t := h27 27 rfl
    replace h28 : f 28 = .pointer (some ⟨w.heap.size, 7, none⟩) := h28 28 rfl
    replace h29 : f 29 = .string d := h29 29 rfl
    replace h30 : f 30 = .int .i64 (d.size : Int) := h30 30 rfl
    obtain ⟨G31, hG31, hGB31, hGO31⟩ : ∃ G, f 31 = .slice (some ⟨G, 0, none⟩) 2 2 ∧ wq.heap.size ≤ G ∧ wz.heap[G]? = some (.cells #[.int .i64 t, .int .i64 (d.size : Int)] 3 (0, 0)) := h31 31 rfl
    replace h32 : f 32 = .bool ok := h32 32 rfl
    replace h33 : f 33 = .bool (!ok) := h33 33 rfl
    simp only [putAll, Act.put, List.setIfInBounds_toArray, List.set_cons_succ, List.set_cons_zero, h19, h20, h21, h22, h23, hG24, hG25, h26, h27, h28, h29, h30, hG31, h32, h33]
    clear h19 h20 h21 h22 h23 hG24 h24 hG25 h25 h26 h27 h28 h29 h30 hG31 h31 h32 h33
    have XC2 := Lib.hid (XCq.out.below hC (by omega))
    have RW := Lib.hid (RQ.out.below hC (by omega))
    have hGl : w.heap.size + 1 < wz.heap.size := by have := hC.size; omega
    have B2 := Lib.hid ((B1.out.trans (BQ.out.mono (by omega))).trans (hC.mono (by omega)))
    clear KC XC XCq B1 hGO24 hGO25 hGO31 hC RQ BQ HOk hGB24 hGB25 hGB31 hGl25
    cases ok with
    | false =>
      have HF2 : Hid (r = ⟨#[]⟩) := Lib.hid (by rw [HV.out]; rfl)
      clear HV HG HS HF
      go_wp2_with fail
      go_ret
      exact ⟨by rw [HF2.out]; rfl, B2.out⟩
    | true =>
    replace HV : Hid (r = hx ++ bt ++ bp ++ bd ++ p ++ ⟨#[0]⟩ ++ nu1 ++ d ++ nu2) := Lib.hid (by rw [HV.out]; rfl)
    generalize [29127, 0, ino, mo, u1, gi, cn, 0] = L at *
    go_wp2_with fail
    go_loopw [6, 7] (fun v u wr => ∃ i : Nat, u = .int .i64 i ∧ i ≤ 8 ∧ v = .string (wsT hi (L.take i)) ∧ RowNB wr (w.heap.size + 1) L ∧ w.heap.size + 1 < wr.heap.size ∧ CardO wr w.heap.size ⟨ino, mo, u1, gi, cn, t, p, d⟩ ∧ Below w.heap.size w wr) (fun _ u _ => 8 - (intOf u).toNat)
    case atStart => exact ⟨0, rfl, Nat.zero_le _, by rw [HZ.out], RW.out, hGl, XC2.out, B2.out⟩
    case round =>
      obtain ⟨i, rfl, hi8, rfl, hrw, hgl, hxc, hb⟩ := hrel
      clear XC2 RW B2 hGl
      have B := Lib.hid hb
      have RW := Lib.hid hrw
      have XC := Lib.hid hxc
      have hszB := B.out.size
      clear hb hrw hxc
      have hle := HLe.out i
      by_cases hlt : i < 8
      · have hlt2 : (i : Int) < 8 := by omega
        obtain ⟨x, hx9⟩ := HG.out i hlt
        have HS2 := Lib.hid (HS.out i _ hx9)
        have cN := RW.out i x hx9
        have HPx := Lib.hid (fun w => HP16.out x w)
        have hpl := H16.out x
        clear hx9 HS HG HN1 HN2 HP1 HP2
        obtain ⟨Tx, hT⟩ : ∃ Tx, wsT hi (L.take i) = Tx := ⟨_, rfl⟩
        rw [hT] at HS2 hle ⊢
        clear hT
        generalize put16v x hi = q at HS2 HPx hpl
        have HA := (fun w => run_string_add_sum (P := Try.prog) w Tx q (by omega))
        go_wp2_with fail
        refine (HPx.out _).mono ?_
        rintro e wp ⟨rfl, hbp⟩
        have B3 := Lib.hid (B.out.trans (hbp.mono hszB))
        have RW3 := Lib.hid (RW.out.below hbp (by omega))
        have XC3 := Lib.hid (XC.out.below hbp (by omega))
        have hgl3 : w.heap.size + 1 < wp.heap.size := by have := hbp.size; omega
        clear hbp cN
        go_wp2_with fail
        go_roundw
        case rel => exact ⟨_, _, _, _, _, _, _, _, _, _, _, _, _, _, _, _, ⟨i + 1, by go_num, by omega, by rw [HS2.out], RW3.out, hgl3, XC3.out, B3.out⟩, rfl⟩
        case measure => simp [intOf]; omega
      · obtain rfl : i = 8 := by omega
        have hlt2 : ¬ ((8 : Nat) : Int) < 8 := by omega
        have hxz := HF.out.2
        have HF9 := HF.out.1
        rw [HF9]
        clear HF9 HF HS HG HZ HLe RW HP16 H16
        have z1 : (⟨#[0]⟩ : ByteArray).size = 1 := rfl
        obtain ⟨k0, k1, k2, k3, k4, k5, k6, k7⟩ := XC.out.at.zero
        simp only at k5 k6 k7
        have hcl := XC.out.lt
        obtain ⟨w3, hw3⟩ : ∃ wo, wo = wr := ⟨_, rfl⟩
        subst hw3
        go_upto_region 9 with fail
        have KC : Hid (∀ w', Below w3.heap.size w3 w' → w'.cell? ⟨w.heap.size, 5, none⟩ = some (.int .i64 t) ∧ w'.cell? ⟨w.heap.size, 6, none⟩ = some (.string p) ∧ w'.cell? ⟨w.heap.size, 7, none⟩ = some (.string d)) := Lib.hid (fun w' hb => ⟨(hb.cell (p := ⟨w.heap.size, 5, none⟩) hcl).trans k5, (hb.cell (p := ⟨w.heap.size, 6, none⟩) hcl).trans k6, (hb.cell (p := ⟨w.heap.size, 7, none⟩) hcl).trans k7⟩)
        obtain ⟨x53, hx53⟩ : ∃ x : ByteArray, x = hx ++ bt := ⟨_, rfl⟩
        obtain ⟨x60, hx60⟩ : ∃ x : ByteArray, x = x53 ++ bp := ⟨_, rfl⟩
        obtain ⟨x66, hx66⟩ : ∃ x : ByteArray, x = x60 ++ bd := ⟨_, rfl⟩
        have zx53 : x53.size ≤ 20 := by rw [hx53, ByteArray.size_append]; omega
        have zx60 : x60.size ≤ 22 := by rw [hx60, ByteArray.size_append]; omega
        have zx66 : x66.size ≤ 26 := by rw [hx66, ByteArray.size_append]; omega
        have HA53 : Hid (∀ w, (Op.stringOp .add hx bt).run Try.prog w = .ok (.string x53) w) := Lib.hid (fun w => by rw [hx53]; exact run_string_add_sum w _ _ (by omega))
        have HA60 : Hid (∀ w, (Op.stringOp .add x53 bp).run Try.prog w = .ok (.string x60) w) := Lib.hid (fun w => by rw [hx60]; exact run_string_add_sum w _ _ (by omega))
        have HA66 : Hid (∀ w, (Op.stringOp .add x60 bd).run Try.prog w = .ok (.string x66) w) := Lib.hid (fun w => by rw [hx66]; exact run_string_add_sum w _ _ (by omega))
        have HX53 := Lib.hid hx53
        have HX60 := Lib.hid hx60
        have HX66 := Lib.hid hx66
        clear hx53 hx60 hx66
        refine wp_region_inv (by kernel_rfl) (fun w' => Below w3.heap.size w3 w') (fun x y => Below x.heap.size x y) (fun dq vq _ => match dq with | 48 => vq = .string hx | 49 => vq = .pointer (some ⟨w.heap.size, 5, none⟩) | 50 => vq = .int .i64 t | 51 => vq = .bool hi | 52 => vq = .string bt | 53 => vq = .string x53 | 54 => vq = .pointer (some ⟨w.heap.size, 6, none⟩) | 55 => vq = .string p | 56 => vq = .int .i64 (p.size : Int) | 57 => vq = .int .i64 ((p.size : Int) + 1) | 58 => vq = .bool hi | 59 => vq = .string bp | 60 => vq = .string x60 | 61 => vq = .pointer (some ⟨w.heap.size, 7, none⟩) | 62 => vq = .string d | 63 => vq = .int .i64 (d.size : Int) | 64 => vq = .bool hi | 65 => vq = .string bd | 66 => vq = .string x66 | 6 => vq = .string x66 | _ => True) (by kernel_rfl) ((Below.refl _ _).drew) (fun _ _ _ _ _ _ h => h) ?hops ?hend
        case hops =>
          simp only [List.forall_mem_cons]
          refine ⟨?o48, ?o49, ?o50, ?o51, ?o52, ?o53, ?o54, ?o55, ?o56, ?o57, ?o58, ?o59, ?o60, ?o61, ?o62, ?o63, ?o64, ?o65, ?o66, ?o6, fun _ h => by cases h⟩
          case o48 =>
            intro Q a w2 hC hV hI
            have e6 : a.eval (.tmp 6) = .string hx := (hI 6 (by simp [Op.operands]) (by kernel_rfl)).trans rfl
            have f6 : a.tmps.getD 6 undef = .string hx := e6
            have g6 : a.tmps[6]?.getD undef = .string hx := by rw [← Array.getD_eq_getD_getElem?]; exact e6
            refine op_val (.string hx) ?_ hC (Below.refl _ _) (by intro d hd; cases hd; rfl)
            (clear hV hI hC; go_simp <;> (first | rfl | simp | (rw [IntKind.wrap_i64]; omega)))
          case o49 =>
            intro Q a w2 hC hV hI
            have e2 : a.eval (.tmp 2) = .pointer (some ⟨w.heap.size, 0, none⟩) := (hI 2 (by simp [Op.operands]) (by kernel_rfl)).trans rfl
            have f2 : a.tmps.getD 2 undef = .pointer (some ⟨w.heap.size, 0, none⟩) := e2
            have g2 : a.tmps[2]?.getD undef = .pointer (some ⟨w.heap.size, 0, none⟩) := by rw [← Array.getD_eq_getD_getElem?]; exact e2
            refine op_val (.pointer (some ⟨w.heap.size, 5, none⟩)) ?_ hC (Below.refl _ _) (by intro d hd; cases hd; rfl)
            (clear hV hI hC; go_simp <;> (first | rfl | simp | (rw [IntKind.wrap_i64]; omega)))
          case o50 =>
            intro Q a w2 hC hV hI
            have e49 : a.eval (.tmp 49) = .pointer (some ⟨w.heap.size, 5, none⟩) := hV 49 (by simp [Op.operands]) (by kernel_rfl)
            have f49 : a.tmps.getD 49 undef = .pointer (some ⟨w.heap.size, 5, none⟩) := e49
            have g49 : a.tmps[49]?.getD undef = .pointer (some ⟨w.heap.size, 5, none⟩) := by rw [← Array.getD_eq_getD_getElem?]; exact e49
            have hK := KC.out w2 hC
            refine op_val (.int .i64 t) ?_ hC (Below.refl _ _) (by intro d hd; cases hd; rfl)
            (clear hV hI hC; go_simp <;> (first | rfl | simp | (rw [IntKind.wrap_i64]; omega)))
          case o51 =>
            intro Q a w2 hC hV hI
            have e1 : a.eval (.tmp 1) = .bool hi := (hI 1 (by simp [Op.operands]) (by kernel_rfl)).trans rfl
            have f1 : a.tmps.getD 1 undef = .bool hi := e1
            have g1 : a.tmps[1]?.getD undef = .bool hi := by rw [← Array.getD_eq_getD_getElem?]; exact e1
            refine op_val (.bool hi) ?_ hC (Below.refl _ _) (by intro d hd; cases hd; rfl)
            (clear hV hI hC; go_simp <;> (first | rfl | simp | (rw [IntKind.wrap_i64]; omega)))
          case o52 =>
            intro Q a w2 hC hV hI
            have e50 : a.eval (.tmp 50) = .int .i64 t := hV 50 (by simp [Op.operands, Call.operands]) (by kernel_rfl)
            have f50 : a.tmps.getD 50 undef = .int .i64 t := e50
            have g50 : a.tmps[50]?.getD undef = .int .i64 t := by rw [← Array.getD_eq_getD_getElem?]; exact e50
            have e51 : a.eval (.tmp 51) = .bool hi := hV 51 (by simp [Op.operands, Call.operands]) (by kernel_rfl)
            have f51 : a.tmps.getD 51 undef = .bool hi := e51
            have g51 : a.tmps[51]?.getD undef = .bool hi := by rw [← Array.getD_eq_getD_getElem?]; exact e51
            refine op_call (f := 21) (args := #[.int .i64 t, .bool hi]) (R := fun v y => v = .string bt ∧ Below w2.heap.size w2 y) ?_ ((HPt.out w2).mono ?_) ?_
            · (clear hV hI hC; go_simp <;> (first | rfl | simp | (rw [IntKind.wrap_i64]; omega)))
            · rintro e y ⟨rfl, hb⟩; exact ⟨_, rfl, rfl, hb⟩
            · rintro v y ⟨rfl, hb⟩; exact ⟨hC.trans (hb.mono hC.size), hb, by intro d hd; cases hd; rfl⟩
          case o53 =>
            intro Q a w2 hC hV hI
            have e48 : a.eval (.tmp 48) = .string hx := hV 48 (by simp [Op.operands]) (by kernel_rfl)
            have f48 : a.tmps.getD 48 undef = .string hx := e48
            have g48 : a.tmps[48]?.getD undef = .string hx := by rw [← Array.getD_eq_getD_getElem?]; exact e48
            have e52 : a.eval (.tmp 52) = .string bt := hV 52 (by simp [Op.operands]) (by kernel_rfl)
            have f52 : a.tmps.getD 52 undef = .string bt := e52
            have g52 : a.tmps[52]?.getD undef = .string bt := by rw [← Array.getD_eq_getD_getElem?]; exact e52
            refine op_val (.string x53) ?_ hC (Below.refl _ _) (by intro d hd; cases hd; rfl)
            have q := HA53.out w2
            (clear hV hI hC; go_simp <;> (first | rfl | simp | (rw [IntKind.wrap_i64]; omega)))
          case o54 =>
            intro Q a w2 hC hV hI
            have e2 : a.eval (.tmp 2) = .pointer (some ⟨w.heap.size, 0, none⟩) := (hI 2 (by simp [Op.operands]) (by kernel_rfl)).trans rfl
            have f2 : a.tmps.getD 2 undef = .pointer (some ⟨w.heap.size, 0, none⟩) := e2
            have g2 : a.tmps[2]?.getD undef = .pointer (some ⟨w.heap.size, 0, none⟩) := by rw [← Array.getD_eq_getD_getElem?]; exact e2
            refine op_val (.pointer (some ⟨w.heap.size, 6, none⟩)) ?_ hC (Below.refl _ _) (by intro d hd; cases hd; rfl)
            (clear hV hI hC; go_simp <;> (first | rfl | simp | (rw [IntKind.wrap_i64]; omega)))
          case o55 =>
            intro Q a w2 hC hV hI
            have e54 : a.eval (.tmp 54) = .pointer (some ⟨w.heap.size, 6, none⟩) := hV 54 (by simp [Op.operands]) (by kernel_rfl)
            have f54 : a.tmps.getD 54 undef = .pointer (some ⟨w.heap.size, 6, none⟩) := e54
            have g54 : a.tmps[54]?.getD undef = .pointer (some ⟨w.heap.size, 6, none⟩) := by rw [← Array.getD_eq_getD_getElem?]; exact e54
            have hK := KC.out w2 hC
            refine op_val (.string p) ?_ hC (Below.refl _ _) (by intro d hd; cases hd; rfl)
            (clear hV hI hC; go_simp <;> (first | rfl | simp | (rw [IntKind.wrap_i64]; omega)))
          case o56 =>
            intro Q a w2 hC hV hI
            have e55 : a.eval (.tmp 55) = .string p := hV 55 (by simp [Op.operands, Call.operands]) (by kernel_rfl)
            have f55 : a.tmps.getD 55 undef = .string p := e55
            have g55 : a.tmps[55]?.getD undef = .string p := by rw [← Array.getD_eq_getD_getElem?]; exact e55
            refine op_val (.int .i64 (p.size : Int)) ?_ hC (Below.refl _ _) (by intro d hd; cases hd; rfl)
            (clear hV hI hC; go_simp <;> (first | rfl | simp | (rw [IntKind.wrap_i64]; omega)))
          case o57 =>
            intro Q a w2 hC hV hI
            have e56 : a.eval (.tmp 56) = .int .i64 (p.size : Int) := hV 56 (by simp [Op.operands]) (by kernel_rfl)
            have f56 : a.tmps.getD 56 undef = .int .i64 (p.size : Int) := e56
            have g56 : a.tmps[56]?.getD undef = .int .i64 (p.size : Int) := by rw [← Array.getD_eq_getD_getElem?]; exact e56
            have q9 := add_i64 (P := Try.prog) (a := (p.size : Int)) (b := 1) w2 3 (by omega) (by omega)
            refine op_val (.int .i64 ((p.size : Int) + 1)) ?_ hC (Below.refl _ _) (by intro d hd; cases hd; rfl)
            (clear hV hI hC; go_simp <;> (first | rfl | simp | (rw [IntKind.wrap_i64]; omega)))
          case o58 =>
            intro Q a w2 hC hV hI
            have e1 : a.eval (.tmp 1) = .bool hi := (hI 1 (by simp [Op.operands]) (by kernel_rfl)).trans rfl
            have f1 : a.tmps.getD 1 undef = .bool hi := e1
            have g1 : a.tmps[1]?.getD undef = .bool hi := by rw [← Array.getD_eq_getD_getElem?]; exact e1
            refine op_val (.bool hi) ?_ hC (Below.refl _ _) (by intro d hd; cases hd; rfl)
            (clear hV hI hC; go_simp <;> (first | rfl | simp | (rw [IntKind.wrap_i64]; omega)))
          case o59 =>
            intro Q a w2 hC hV hI
            have e57 : a.eval (.tmp 57) = .int .i64 ((p.size : Int) + 1) := hV 57 (by simp [Op.operands, Call.operands]) (by kernel_rfl)
            have f57 : a.tmps.getD 57 undef = .int .i64 ((p.size : Int) + 1) := e57
            have g57 : a.tmps[57]?.getD undef = .int .i64 ((p.size : Int) + 1) := by rw [← Array.getD_eq_getD_getElem?]; exact e57
            have e58 : a.eval (.tmp 58) = .bool hi := hV 58 (by simp [Op.operands, Call.operands]) (by kernel_rfl)
            have f58 : a.tmps.getD 58 undef = .bool hi := e58
            have g58 : a.tmps[58]?.getD undef = .bool hi := by rw [← Array.getD_eq_getD_getElem?]; exact e58
            refine op_call (f := 20) (args := #[.int .i64 ((p.size : Int) + 1), .bool hi]) (R := fun v y => v = .string bp ∧ Below w2.heap.size w2 y) ?_ ((HPp.out w2).mono ?_) ?_
            · (clear hV hI hC; go_simp <;> (first | rfl | simp | (rw [IntKind.wrap_i64]; omega)))
            · rintro e y ⟨rfl, hb⟩; exact ⟨_, rfl, rfl, hb⟩
            · rintro v y ⟨rfl, hb⟩; exact ⟨hC.trans (hb.mono hC.size), hb, by intro d hd; cases hd; rfl⟩
          case o60 =>
            intro Q a w2 hC hV hI
            have e53 : a.eval (.tmp 53) = .string x53 := hV 53 (by simp [Op.operands]) (by kernel_rfl)
            have f53 : a.tmps.getD 53 undef = .string x53 := e53
            have g53 : a.tmps[53]?.getD undef = .string x53 := by rw [← Array.getD_eq_getD_getElem?]; exact e53
            have e59 : a.eval (.tmp 59) = .string bp := hV 59 (by simp [Op.operands]) (by kernel_rfl)
            have f59 : a.tmps.getD 59 undef = .string bp := e59
            have g59 : a.tmps[59]?.getD undef = .string bp := by rw [← Array.getD_eq_getD_getElem?]; exact e59
            refine op_val (.string x60) ?_ hC (Below.refl _ _) (by intro d hd; cases hd; rfl)
            have q := HA60.out w2
            (clear hV hI hC; go_simp <;> (first | rfl | simp | (rw [IntKind.wrap_i64]; omega)))
          case o61 =>
            intro Q a w2 hC hV hI
            have e2 : a.eval (.tmp 2) = .pointer (some ⟨w.heap.size, 0, none⟩) := (hI 2 (by simp [Op.operands]) (by kernel_rfl)).trans rfl
            have f2 : a.tmps.getD 2 undef = .pointer (some ⟨w.heap.size, 0, none⟩) := e2
            have g2 : a.tmps[2]?.getD undef = .pointer (some ⟨w.heap.size, 0, none⟩) := by rw [← Array.getD_eq_getD_getElem?]; exact e2
            refine op_val (.pointer (some ⟨w.heap.size, 7, none⟩)) ?_ hC (Below.refl _ _) (by intro d hd; cases hd; rfl)
            (clear hV hI hC; go_simp <;> (first | rfl | simp | (rw [IntKind.wrap_i64]; omega)))
          case o62 =>
            intro Q a w2 hC hV hI
            have e61 : a.eval (.tmp 61) = .pointer (some ⟨w.heap.size, 7, none⟩) := hV 61 (by simp [Op.operands]) (by kernel_rfl)
            have f61 : a.tmps.getD 61 undef = .pointer (some ⟨w.heap.size, 7, none⟩) := e61
            have g61 : a.tmps[61]?.getD undef = .pointer (some ⟨w.heap.size, 7, none⟩) := by rw [← Array.getD_eq_getD_getElem?]; exact e61
            have hK := KC.out w2 hC
            refine op_val (.string d) ?_ hC (Below.refl _ _) (by intro d hd; cases hd; rfl)
            (clear hV hI hC; go_simp <;> (first | rfl | simp | (rw [IntKind.wrap_i64]; omega)))
          case o63 =>
            intro Q a w2 hC hV hI
            have e62 : a.eval (.tmp 62) = .string d := hV 62 (by simp [Op.operands, Call.operands]) (by kernel_rfl)
            have f62 : a.tmps.getD 62 undef = .string d := e62
            have g62 : a.tmps[62]?.getD undef = .string d := by rw [← Array.getD_eq_getD_getElem?]; exact e62
            refine op_val (.int .i64 (d.size : Int)) ?_ hC (Below.refl _ _) (by intro d hd; cases hd; rfl)
            (clear hV hI hC; go_simp <;> (first | rfl | simp | (rw [IntKind.wrap_i64]; omega)))
          case o64 =>
            intro Q a w2 hC hV hI
            have e1 : a.eval (.tmp 1) = .bool hi := (hI 1 (by simp [Op.operands]) (by kernel_rfl)).trans rfl
            have f1 : a.tmps.getD 1 undef = .bool hi := e1
            have g1 : a.tmps[1]?.getD undef = .bool hi := by rw [← Array.getD_eq_getD_getElem?]; exact e1
            refine op_val (.bool hi) ?_ hC (Below.refl _ _) (by intro d hd; cases hd; rfl)
            (clear hV hI hC; go_simp <;> (first | rfl | simp | (rw [IntKind.wrap_i64]; omega)))
          case o65 =>
            intro Q a w2 hC hV hI
            have e63 : a.eval (.tmp 63) = .int .i64 (d.size : Int) := hV 63 (by simp [Op.operands, Call.operands]) (by kernel_rfl)
            have f63 : a.tmps.getD 63 undef = .int .i64 (d.size : Int) := e63
            have g63 : a.tmps[63]?.getD undef = .int .i64 (d.size : Int) := by rw [← Array.getD_eq_getD_getElem?]; exact e63
            have e64 : a.eval (.tmp 64) = .bool hi := hV 64 (by simp [Op.operands, Call.operands]) (by kernel_rfl)
            have f64 : a.tmps.getD 64 undef = .bool hi := e64
            have g64 : a.tmps[64]?.getD undef = .bool hi := by rw [← Array.getD_eq_getD_getElem?]; exact e64
            refine op_call (f := 21) (args := #[.int .i64 (d.size : Int), .bool hi]) (R := fun v y => v = .string bd ∧ Below w2.heap.size w2 y) ?_ ((HPd.out w2).mono ?_) ?_
            · (clear hV hI hC; go_simp <;> (first | rfl | simp | (rw [IntKind.wrap_i64]; omega)))
            · rintro e y ⟨rfl, hb⟩; exact ⟨_, rfl, rfl, hb⟩
            · rintro v y ⟨rfl, hb⟩; exact ⟨hC.trans (hb.mono hC.size), hb, by intro d hd; cases hd; rfl⟩
          case o66 =>
            intro Q a w2 hC hV hI
            have e60 : a.eval (.tmp 60) = .string x60 := hV 60 (by simp [Op.operands]) (by kernel_rfl)
            have f60 : a.tmps.getD 60 undef = .string x60 := e60
            have g60 : a.tmps[60]?.getD undef = .string x60 := by rw [← Array.getD_eq_getD_getElem?]; exact e60
            have e65 : a.eval (.tmp 65) = .string bd := hV 65 (by simp [Op.operands]) (by kernel_rfl)
            have f65 : a.tmps.getD 65 undef = .string bd := e65
            have g65 : a.tmps[65]?.getD undef = .string bd := by rw [← Array.getD_eq_getD_getElem?]; exact e65
            refine op_val (.string x66) ?_ hC (Below.refl _ _) (by intro d hd; cases hd; rfl)
            have q := HA66.out w2
            (clear hV hI hC; go_simp <;> (first | rfl | simp | (rw [IntKind.wrap_i64]; omega)))
          case o6 =>
            intro Q a w2 hC hV hI
            have e66 : a.eval (.tmp 66) = .string x66 := hV 66 (by simp [Op.operands]) (by kernel_rfl)
            have f66 : a.tmps.getD 66 undef = .string x66 := e66
            have g66 : a.tmps[66]?.getD undef = .string x66 := by rw [← Array.getD_eq_getD_getElem?]; exact e66
            refine op_val (.string x66) ?_ hC (Below.refl _ _) (by intro d hd; cases hd; rfl)
            (clear hV hI hC; go_simp <;> (first | rfl | simp | (rw [IntKind.wrap_i64]; omega)))
        case hend =>
          intro f w4 hC hall
          clear HA53 HA60 HA66
          simp only [List.forall_mem_cons] at hall
          obtain ⟨h48, h49, h50, h51, h52, h53, h54, h55, h56, h57, h58, h59, h60, h61, h62, h63, h64, h65, h66, h6, _⟩ := hall
          replace h48 : f 48 = .string hx := h48 48 rfl
          replace h49 : f 49 = .pointer (some ⟨w.heap.size, 5, none⟩) := h49 49 rfl
          replace h50 : f 50 = .int .i64 t := h50 50 rfl
          replace h51 : f 51 = .bool hi := h51 51 rfl
          replace h52 : f 52 = .string bt := h52 52 rfl
          replace h53 : f 53 = .string x53 := h53 53 rfl
          replace h54 : f 54 = .pointer (some ⟨w.heap.size, 6, none⟩) := h54 54 rfl
          replace h55 : f 55 = .string p := h55 55 rfl
          replace h56 : f 56 = .int .i64 (p.size : Int) := h56 56 rfl
          replace h57 : f 57 = .int .i64 ((p.size : Int) + 1) := h57 57 rfl
          replace h58 : f 58 = .bool hi := h58 58 rfl
          replace h59 : f 59 = .string bp := h59 59 rfl
          replace h60 : f 60 = .string x60 := h60 60 rfl
          replace h61 : f 61 = .pointer (some ⟨w.heap.size, 7, none⟩) := h61 61 rfl
          replace h62 : f 62 = .string d := h62 62 rfl
          replace h63 : f 63 = .int .i64 (d.size : Int) := h63 63 rfl
          replace h64 : f 64 = .bool hi := h64 64 rfl
          replace h65 : f 65 = .string bd := h65 65 rfl
          replace h66 : f 66 = .string x66 := h66 66 rfl
          replace h6 : f 6 = .string x66 := h6 6 rfl
          simp only [putAll, Act.put, List.setIfInBounds_toArray, List.set_cons_succ, List.set_cons_zero, h48, h49, h50, h51, h52, h53, h54, h55, h56, h57, h58, h59, h60, h61, h62, h63, h64, h65, h66, h6]
          clear h48 h49 h50 h51 h52 h53 h54 h55 h56 h57 h58 h59 h60 h61 h62 h63 h64 h65 h66 h6
          have HXe : Hid (r = x66 ++ p ++ ⟨#[0]⟩ ++ nu1 ++ d ++ nu2) := Lib.hid (by rw [HV.out, HX66.out, HX60.out, HX53.out])
          have B4 := Lib.hid (B.out.trans (hC.mono hszB))
          have hszB4 := B4.out.size
          replace KC : Hid (∀ w', Below w4.heap.size w4 w' → w'.cell? ⟨w.heap.size, 5, none⟩ = some (.int .i64 t) ∧ w'.cell? ⟨w.heap.size, 6, none⟩ = some (.string p) ∧ w'.cell? ⟨w.heap.size, 7, none⟩ = some (.string d)) := Lib.hid (fun w' hb => KC.out w' (hC.trans (hb.mono hC.size)))
          clear HV HX66 HX60 HX53 hC B k0 k1 k2 k3 k4 k5 k6 k7
          go_upto_region 10 with fail
          obtain ⟨x70, hx70⟩ : ∃ x : ByteArray, x = x66 ++ p := ⟨_, rfl⟩
          obtain ⟨x71, hx71⟩ : ∃ x : ByteArray, x = x70 ++ ⟨#[0]⟩ := ⟨_, rfl⟩
          obtain ⟨x78, hx78⟩ : ∃ x : ByteArray, x = x71 ++ nu1 := ⟨_, rfl⟩
          obtain ⟨x81, hx81⟩ : ∃ x : ByteArray, x = x78 ++ d := ⟨_, rfl⟩
          obtain ⟨x87, hx87⟩ : ∃ x : ByteArray, x = x81 ++ nu2 := ⟨_, rfl⟩
          have zx70 : x70.size ≤ 4194330 := by rw [hx70, ByteArray.size_append]; omega
          have zx71 : x71.size ≤ 4194331 := by rw [hx71, ByteArray.size_append]; omega
          have zx78 : x78.size ≤ 4194332 := by rw [hx78, ByteArray.size_append]; omega
          have zx81 : x81.size ≤ 8388636 := by rw [hx81, ByteArray.size_append]; omega
          have zx87 : x87.size ≤ 8388637 := by rw [hx87, ByteArray.size_append]; omega
          have HA70 : Hid (∀ w, (Op.stringOp .add x66 p).run Try.prog w = .ok (.string x70) w) := Lib.hid (fun w => by rw [hx70]; exact run_string_add_sum w _ _ (by omega))
          have HA71 : Hid (∀ w, (Op.stringOp .add x70 ⟨#[0]⟩).run Try.prog w = .ok (.string x71) w) := Lib.hid (fun w => by rw [hx71]; exact run_string_add_sum w _ _ (by omega))
          have HA78 : Hid (∀ w, (Op.stringOp .add x71 nu1).run Try.prog w = .ok (.string x78) w) := Lib.hid (fun w => by rw [hx78]; exact run_string_add_sum w _ _ (by omega))
          have HA81 : Hid (∀ w, (Op.stringOp .add x78 d).run Try.prog w = .ok (.string x81) w) := Lib.hid (fun w => by rw [hx81]; exact run_string_add_sum w _ _ (by omega))
          have HA87 : Hid (∀ w, (Op.stringOp .add x81 nu2).run Try.prog w = .ok (.string x87) w) := Lib.hid (fun w => by rw [hx87]; exact run_string_add_sum w _ _ (by omega))
          have HX70 := Lib.hid hx70
          have HX71 := Lib.hid hx71
          have HX78 := Lib.hid hx78
          have HX81 := Lib.hid hx81
          have HX87 := Lib.hid hx87
          clear hx70 hx71 hx78 hx81 hx87
          refine wp_region_inv (by kernel_rfl) (fun w' => Below w4.heap.size w4 w') (fun x y => Below x.heap.size x y) (fun dq vq _ => match dq with | 67 => vq = .string x66 | 68 => vq = .pointer (some ⟨w.heap.size, 6, none⟩) | 69 => vq = .string p | 70 => vq = .string x70 | 71 => vq = .string x71 | 72 => vq = .pointer (some ⟨w.heap.size, 6, none⟩) | 73 => vq = .string p | 74 => vq = .int .i64 (p.size : Int) | 75 => vq = .int .i64 ((p.size : Int) + 1) | 76 => vq = .int .i64 (q1 : Int) | 77 => vq = .string nu1 | 78 => vq = .string x78 | 79 => vq = .pointer (some ⟨w.heap.size, 7, none⟩) | 80 => vq = .string d | 81 => vq = .string x81 | 82 => vq = .pointer (some ⟨w.heap.size, 7, none⟩) | 83 => vq = .string d | 84 => vq = .int .i64 (d.size : Int) | 85 => vq = .int .i64 (q2 : Int) | 86 => vq = .string nu2 | 87 => vq = .string x87 | 4 => vq = .string x87 | _ => True) (by kernel_rfl) ((Below.refl _ _).drew) (fun _ _ _ _ _ _ h => h) ?hops ?hend
          case hops =>
            simp only [List.forall_mem_cons]
            refine ⟨?o67, ?o68, ?o69, ?o70, ?o71, ?o72, ?o73, ?o74, ?o75, ?o76, ?o77, ?o78, ?o79, ?o80, ?o81, ?o82, ?o83, ?o84, ?o85, ?o86, ?o87, ?o4, fun _ h => by cases h⟩
            case o67 =>
              intro Q a w2 hC hV hI
              have e6 : a.eval (.tmp 6) = .string x66 := (hI 6 (by simp [Op.operands]) (by kernel_rfl)).trans rfl
              have f6 : a.tmps.getD 6 undef = .string x66 := e6
              have g6 : a.tmps[6]?.getD undef = .string x66 := by rw [← Array.getD_eq_getD_getElem?]; exact e6
              refine op_val (.string x66) ?_ hC (Below.refl _ _) (by intro d hd; cases hd; rfl)
              (clear hV hI hC; go_simp <;> (first | rfl | simp | (rw [IntKind.wrap_i64]; omega)))
            case o68 =>
              intro Q a w2 hC hV hI
              have e2 : a.eval (.tmp 2) = .pointer (some ⟨w.heap.size, 0, none⟩) := (hI 2 (by simp [Op.operands]) (by kernel_rfl)).trans rfl
              have f2 : a.tmps.getD 2 undef = .pointer (some ⟨w.heap.size, 0, none⟩) := e2
              have g2 : a.tmps[2]?.getD undef = .pointer (some ⟨w.heap.size, 0, none⟩) := by rw [← Array.getD_eq_getD_getElem?]; exact e2
              refine op_val (.pointer (some ⟨w.heap.size, 6, none⟩)) ?_ hC (Below.refl _ _) (by intro d hd; cases hd; rfl)
              (clear hV hI hC; go_simp <;> (first | rfl | simp | (rw [IntKind.wrap_i64]; omega)))
            case o69 =>
              intro Q a w2 hC hV hI
              have e68 : a.eval (.tmp 68) = .pointer (some ⟨w.heap.size, 6, none⟩) := hV 68 (by simp [Op.operands]) (by kernel_rfl)
              have f68 : a.tmps.getD 68 undef = .pointer (some ⟨w.heap.size, 6, none⟩) := e68
              have g68 : a.tmps[68]?.getD undef = .pointer (some ⟨w.heap.size, 6, none⟩) := by rw [← Array.getD_eq_getD_getElem?]; exact e68
              have hK := KC.out w2 hC
              refine op_val (.string p) ?_ hC (Below.refl _ _) (by intro d hd; cases hd; rfl)
              (clear hV hI hC; go_simp <;> (first | rfl | simp | (rw [IntKind.wrap_i64]; omega)))
            case o70 =>
              intro Q a w2 hC hV hI
              have e67 : a.eval (.tmp 67) = .string x66 := hV 67 (by simp [Op.operands]) (by kernel_rfl)
              have f67 : a.tmps.getD 67 undef = .string x66 := e67
              have g67 : a.tmps[67]?.getD undef = .string x66 := by rw [← Array.getD_eq_getD_getElem?]; exact e67
              have e69 : a.eval (.tmp 69) = .string p := hV 69 (by simp [Op.operands]) (by kernel_rfl)
              have f69 : a.tmps.getD 69 undef = .string p := e69
              have g69 : a.tmps[69]?.getD undef = .string p := by rw [← Array.getD_eq_getD_getElem?]; exact e69
              refine op_val (.string x70) ?_ hC (Below.refl _ _) (by intro d hd; cases hd; rfl)
              have q := HA70.out w2
              (clear hV hI hC; go_simp <;> (first | rfl | simp | (rw [IntKind.wrap_i64]; omega)))
            case o71 =>
              intro Q a w2 hC hV hI
              have e70 : a.eval (.tmp 70) = .string x70 := hV 70 (by simp [Op.operands]) (by kernel_rfl)
              have f70 : a.tmps.getD 70 undef = .string x70 := e70
              have g70 : a.tmps[70]?.getD undef = .string x70 := by rw [← Array.getD_eq_getD_getElem?]; exact e70
              refine op_val (.string x71) ?_ hC (Below.refl _ _) (by intro d hd; cases hd; rfl)
              have q := HA71.out w2
              (clear hV hI hC; go_simp <;> (first | rfl | simp | (rw [IntKind.wrap_i64]; omega)))
            case o72 =>
              intro Q a w2 hC hV hI
              have e2 : a.eval (.tmp 2) = .pointer (some ⟨w.heap.size, 0, none⟩) := (hI 2 (by simp [Op.operands]) (by kernel_rfl)).trans rfl
              have f2 : a.tmps.getD 2 undef = .pointer (some ⟨w.heap.size, 0, none⟩) := e2
              have g2 : a.tmps[2]?.getD undef = .pointer (some ⟨w.heap.size, 0, none⟩) := by rw [← Array.getD_eq_getD_getElem?]; exact e2
              refine op_val (.pointer (some ⟨w.heap.size, 6, none⟩)) ?_ hC (Below.refl _ _) (by intro d hd; cases hd; rfl)
              (clear hV hI hC; go_simp <;> (first | rfl | simp | (rw [IntKind.wrap_i64]; omega)))
            case o73 =>
              intro Q a w2 hC hV hI
              have e72 : a.eval (.tmp 72) = .pointer (some ⟨w.heap.size, 6, none⟩) := hV 72 (by simp [Op.operands]) (by kernel_rfl)
              have f72 : a.tmps.getD 72 undef = .pointer (some ⟨w.heap.size, 6, none⟩) := e72
              have g72 : a.tmps[72]?.getD undef = .pointer (some ⟨w.heap.size, 6, none⟩) := by rw [← Array.getD_eq_getD_getElem?]; exact e72
              have hK := KC.out w2 hC
              refine op_val (.string p) ?_ hC (Below.refl _ _) (by intro d hd; cases hd; rfl)
              (clear hV hI hC; go_simp <;> (first | rfl | simp | (rw [IntKind.wrap_i64]; omega)))
            case o74 =>
              intro Q a w2 hC hV hI
              have e73 : a.eval (.tmp 73) = .string p := hV 73 (by simp [Op.operands, Call.operands]) (by kernel_rfl)
              have f73 : a.tmps.getD 73 undef = .string p := e73
              have g73 : a.tmps[73]?.getD undef = .string p := by rw [← Array.getD_eq_getD_getElem?]; exact e73
              refine op_val (.int .i64 (p.size : Int)) ?_ hC (Below.refl _ _) (by intro d hd; cases hd; rfl)
              (clear hV hI hC; go_simp <;> (first | rfl | simp | (rw [IntKind.wrap_i64]; omega)))
            case o75 =>
              intro Q a w2 hC hV hI
              have e74 : a.eval (.tmp 74) = .int .i64 (p.size : Int) := hV 74 (by simp [Op.operands]) (by kernel_rfl)
              have f74 : a.tmps.getD 74 undef = .int .i64 (p.size : Int) := e74
              have g74 : a.tmps[74]?.getD undef = .int .i64 (p.size : Int) := by rw [← Array.getD_eq_getD_getElem?]; exact e74
              have q9 := add_i64 (P := Try.prog) (a := (p.size : Int)) (b := 1) w2 3 (by omega) (by omega)
              refine op_val (.int .i64 ((p.size : Int) + 1)) ?_ hC (Below.refl _ _) (by intro d hd; cases hd; rfl)
              (clear hV hI hC; go_simp <;> (first | rfl | simp | (rw [IntKind.wrap_i64]; omega)))
            case o76 =>
              intro Q a w2 hC hV hI
              have e75 : a.eval (.tmp 75) = .int .i64 ((p.size : Int) + 1) := hV 75 (by simp [Op.operands, Call.operands]) (by kernel_rfl)
              have f75 : a.tmps.getD 75 undef = .int .i64 ((p.size : Int) + 1) := e75
              have g75 : a.tmps[75]?.getD undef = .int .i64 ((p.size : Int) + 1) := by rw [← Array.getD_eq_getD_getElem?]; exact e75
              refine op_call (f := 23) (args := #[.int .i64 ((p.size : Int) + 1), .int .i64 2]) (R := fun v y => v = .int .i64 (q1 : Int) ∧ w2 = y) ?_ ((HP1.out w2).mono ?_) ?_
              · (clear hV hI hC; go_simp <;> (first | rfl | simp | (rw [IntKind.wrap_i64]; omega)))
              · rintro e y ⟨rfl, rfl⟩; exact ⟨_, rfl, rfl, rfl⟩
              · rintro v y ⟨rfl, rfl⟩; exact ⟨hC, Below.refl _ _, by intro d hd; cases hd; rfl⟩
            case o77 =>
              intro Q a w2 hC hV hI
              have e76 : a.eval (.tmp 76) = .int .i64 (q1 : Int) := hV 76 (by simp [Op.operands, Call.operands]) (by kernel_rfl)
              have f76 : a.tmps.getD 76 undef = .int .i64 (q1 : Int) := e76
              have g76 : a.tmps[76]?.getD undef = .int .i64 (q1 : Int) := by rw [← Array.getD_eq_getD_getElem?]; exact e76
              refine op_call (f := 22) (args := #[.int .i64 (q1 : Int)]) (R := fun v y => v = .string nu1 ∧ Below w2.heap.size w2 y) ?_ ((HN1.out w2).mono ?_) ?_
              · (clear hV hI hC; go_simp <;> (first | rfl | simp | (rw [IntKind.wrap_i64]; omega)))
              · rintro e y ⟨rfl, hb⟩; exact ⟨_, rfl, rfl, hb⟩
              · rintro v y ⟨rfl, hb⟩; exact ⟨hC.trans (hb.mono hC.size), hb, by intro d hd; cases hd; rfl⟩
            case o78 =>
              intro Q a w2 hC hV hI
              have e71 : a.eval (.tmp 71) = .string x71 := hV 71 (by simp [Op.operands]) (by kernel_rfl)
              have f71 : a.tmps.getD 71 undef = .string x71 := e71
              have g71 : a.tmps[71]?.getD undef = .string x71 := by rw [← Array.getD_eq_getD_getElem?]; exact e71
              have e77 : a.eval (.tmp 77) = .string nu1 := hV 77 (by simp [Op.operands]) (by kernel_rfl)
              have f77 : a.tmps.getD 77 undef = .string nu1 := e77
              have g77 : a.tmps[77]?.getD undef = .string nu1 := by rw [← Array.getD_eq_getD_getElem?]; exact e77
              refine op_val (.string x78) ?_ hC (Below.refl _ _) (by intro d hd; cases hd; rfl)
              have q := HA78.out w2
              (clear hV hI hC; go_simp <;> (first | rfl | simp | (rw [IntKind.wrap_i64]; omega)))
            case o79 =>
              intro Q a w2 hC hV hI
              have e2 : a.eval (.tmp 2) = .pointer (some ⟨w.heap.size, 0, none⟩) := (hI 2 (by simp [Op.operands]) (by kernel_rfl)).trans rfl
              have f2 : a.tmps.getD 2 undef = .pointer (some ⟨w.heap.size, 0, none⟩) := e2
              have g2 : a.tmps[2]?.getD undef = .pointer (some ⟨w.heap.size, 0, none⟩) := by rw [← Array.getD_eq_getD_getElem?]; exact e2
              refine op_val (.pointer (some ⟨w.heap.size, 7, none⟩)) ?_ hC (Below.refl _ _) (by intro d hd; cases hd; rfl)
              (clear hV hI hC; go_simp <;> (first | rfl | simp | (rw [IntKind.wrap_i64]; omega)))
            case o80 =>
              intro Q a w2 hC hV hI
              have e79 : a.eval (.tmp 79) = .pointer (some ⟨w.heap.size, 7, none⟩) := hV 79 (by simp [Op.operands]) (by kernel_rfl)
              have f79 : a.tmps.getD 79 undef = .pointer (some ⟨w.heap.size, 7, none⟩) := e79
              have g79 : a.tmps[79]?.getD undef = .pointer (some ⟨w.heap.size, 7, none⟩) := by rw [← Array.getD_eq_getD_getElem?]; exact e79
              have hK := KC.out w2 hC
              refine op_val (.string d) ?_ hC (Below.refl _ _) (by intro d hd; cases hd; rfl)
              (clear hV hI hC; go_simp <;> (first | rfl | simp | (rw [IntKind.wrap_i64]; omega)))
            case o81 =>
              intro Q a w2 hC hV hI
              have e78 : a.eval (.tmp 78) = .string x78 := hV 78 (by simp [Op.operands]) (by kernel_rfl)
              have f78 : a.tmps.getD 78 undef = .string x78 := e78
              have g78 : a.tmps[78]?.getD undef = .string x78 := by rw [← Array.getD_eq_getD_getElem?]; exact e78
              have e80 : a.eval (.tmp 80) = .string d := hV 80 (by simp [Op.operands]) (by kernel_rfl)
              have f80 : a.tmps.getD 80 undef = .string d := e80
              have g80 : a.tmps[80]?.getD undef = .string d := by rw [← Array.getD_eq_getD_getElem?]; exact e80
              refine op_val (.string x81) ?_ hC (Below.refl _ _) (by intro d hd; cases hd; rfl)
              have q := HA81.out w2
              (clear hV hI hC; go_simp <;> (first | rfl | simp | (rw [IntKind.wrap_i64]; omega)))
            case o82 =>
              intro Q a w2 hC hV hI
              have e2 : a.eval (.tmp 2) = .pointer (some ⟨w.heap.size, 0, none⟩) := (hI 2 (by simp [Op.operands]) (by kernel_rfl)).trans rfl
              have f2 : a.tmps.getD 2 undef = .pointer (some ⟨w.heap.size, 0, none⟩) := e2
              have g2 : a.tmps[2]?.getD undef = .pointer (some ⟨w.heap.size, 0, none⟩) := by rw [← Array.getD_eq_getD_getElem?]; exact e2
              refine op_val (.pointer (some ⟨w.heap.size, 7, none⟩)) ?_ hC (Below.refl _ _) (by intro d hd; cases hd; rfl)
              (clear hV hI hC; go_simp <;> (first | rfl | simp | (rw [IntKind.wrap_i64]; omega)))
            case o83 =>
              intro Q a w2 hC hV hI
              have e82 : a.eval (.tmp 82) = .pointer (some ⟨w.heap.size, 7, none⟩) := hV 82 (by simp [Op.operands]) (by kernel_rfl)
              have f82 : a.tmps.getD 82 undef = .pointer (some ⟨w.heap.size, 7, none⟩) := e82
              have g82 : a.tmps[82]?.getD undef = .pointer (some ⟨w.heap.size, 7, none⟩) := by rw [← Array.getD_eq_getD_getElem?]; exact e82
              have hK := KC.out w2 hC
              refine op_val (.string d) ?_ hC (Below.refl _ _) (by intro d hd; cases hd; rfl)
              (clear hV hI hC; go_simp <;> (first | rfl | simp | (rw [IntKind.wrap_i64]; omega)))
            case o84 =>
              intro Q a w2 hC hV hI
              have e83 : a.eval (.tmp 83) = .string d := hV 83 (by simp [Op.operands, Call.operands]) (by kernel_rfl)
              have f83 : a.tmps.getD 83 undef = .string d := e83
              have g83 : a.tmps[83]?.getD undef = .string d := by rw [← Array.getD_eq_getD_getElem?]; exact e83
              refine op_val (.int .i64 (d.size : Int)) ?_ hC (Below.refl _ _) (by intro d hd; cases hd; rfl)
              (clear hV hI hC; go_simp <;> (first | rfl | simp | (rw [IntKind.wrap_i64]; omega)))
            case o85 =>
              intro Q a w2 hC hV hI
              have e84 : a.eval (.tmp 84) = .int .i64 (d.size : Int) := hV 84 (by simp [Op.operands, Call.operands]) (by kernel_rfl)
              have f84 : a.tmps.getD 84 undef = .int .i64 (d.size : Int) := e84
              have g84 : a.tmps[84]?.getD undef = .int .i64 (d.size : Int) := by rw [← Array.getD_eq_getD_getElem?]; exact e84
              refine op_call (f := 23) (args := #[.int .i64 (d.size : Int), .int .i64 2]) (R := fun v y => v = .int .i64 (q2 : Int) ∧ w2 = y) ?_ ((HP2.out w2).mono ?_) ?_
              · (clear hV hI hC; go_simp <;> (first | rfl | simp | (rw [IntKind.wrap_i64]; omega)))
              · rintro e y ⟨rfl, rfl⟩; exact ⟨_, rfl, rfl, rfl⟩
              · rintro v y ⟨rfl, rfl⟩; exact ⟨hC, Below.refl _ _, by intro d hd; cases hd; rfl⟩
            case o86 =>
              intro Q a w2 hC hV hI
              have e85 : a.eval (.tmp 85) = .int .i64 (q2 : Int) := hV 85 (by simp [Op.operands, Call.operands]) (by kernel_rfl)
              have f85 : a.tmps.getD 85 undef = .int .i64 (q2 : Int) := e85
              have g85 : a.tmps[85]?.getD undef = .int .i64 (q2 : Int) := by rw [← Array.getD_eq_getD_getElem?]; exact e85
              refine op_call (f := 22) (args := #[.int .i64 (q2 : Int)]) (R := fun v y => v = .string nu2 ∧ Below w2.heap.size w2 y) ?_ ((HN2.out w2).mono ?_) ?_
              · (clear hV hI hC; go_simp <;> (first | rfl | simp | (rw [IntKind.wrap_i64]; omega)))
              · rintro e y ⟨rfl, hb⟩; exact ⟨_, rfl, rfl, hb⟩
              · rintro v y ⟨rfl, hb⟩; exact ⟨hC.trans (hb.mono hC.size), hb, by intro d hd; cases hd; rfl⟩
            case o87 =>
              intro Q a w2 hC hV hI
              have e81 : a.eval (.tmp 81) = .string x81 := hV 81 (by simp [Op.operands]) (by kernel_rfl)
              have f81 : a.tmps.getD 81 undef = .string x81 := e81
              have g81 : a.tmps[81]?.getD undef = .string x81 := by rw [← Array.getD_eq_getD_getElem?]; exact e81
              have e86 : a.eval (.tmp 86) = .string nu2 := hV 86 (by simp [Op.operands]) (by kernel_rfl)
              have f86 : a.tmps.getD 86 undef = .string nu2 := e86
              have g86 : a.tmps[86]?.getD undef = .string nu2 := by rw [← Array.getD_eq_getD_getElem?]; exact e86
              refine op_val (.string x87) ?_ hC (Below.refl _ _) (by intro d hd; cases hd; rfl)
              have q := HA87.out w2
              (clear hV hI hC; go_simp <;> (first | rfl | simp | (rw [IntKind.wrap_i64]; omega)))
            case o4 =>
              intro Q a w2 hC hV hI
              have e87 : a.eval (.tmp 87) = .string x87 := hV 87 (by simp [Op.operands]) (by kernel_rfl)
              have f87 : a.tmps.getD 87 undef = .string x87 := e87
              have g87 : a.tmps[87]?.getD undef = .string x87 := by rw [← Array.getD_eq_getD_getElem?]; exact e87
              refine op_val (.string x87) ?_ hC (Below.refl _ _) (by intro d hd; cases hd; rfl)
              (clear hV hI hC; go_simp <;> (first | rfl | simp | (rw [IntKind.wrap_i64]; omega)))
          case hend =>
            intro f w5 hC hall
            clear HA70 HA71 HA78 HA81 HA87
            simp only [List.forall_mem_cons] at hall
            obtain ⟨h67, h68, h69, h70, h71, h72, h73, h74, h75, h76, h77, h78, h79, h80, h81, h82, h83, h84, h85, h86, h87, h4, _⟩ := hall
            replace h67 : f 67 = .string x66 := h67 67 rfl
            replace h68 : f 68 = .pointer (some ⟨w.heap.size, 6, none⟩) := h68 68 rfl
            replace h69 : f 69 = .string p := h69 69 rfl
            replace h70 : f 70 = .string x70 := h70 70 rfl
            replace h71 : f 71 = .string x71 := h71 71 rfl
            replace h72 : f 72 = .pointer (some ⟨w.heap.size, 6, none⟩) := h72 72 rfl
            replace h73 : f 73 = .string p := h73 73 rfl
            replace h74 : f 74 = .int .i64 (p.size : Int) := h74 74 rfl
            replace h75 : f 75 = .int .i64 ((p.size : Int) + 1) := h75 75 rfl
            replace h76 : f 76 = .int .i64 (q1 : Int) := h76 76 rfl
            replace h77 : f 77 = .string nu1 := h77 77 rfl
            replace h78 : f 78 = .string x78 := h78 78 rfl
            replace h79 : f 79 = .pointer (some ⟨w.heap.size, 7, none⟩) := h79 79 rfl
            replace h80 : f 80 = .string d := h80 80 rfl
            replace h81 : f 81 = .string x81 := h81 81 rfl
            replace h82 : f 82 = .pointer (some ⟨w.heap.size, 7, none⟩) := h82 82 rfl
            replace h83 : f 83 = .string d := h83 83 rfl
            replace h84 : f 84 = .int .i64 (d.size : Int) := h84 84 rfl
            replace h85 : f 85 = .int .i64 (q2 : Int) := h85 85 rfl
            replace h86 : f 86 = .string nu2 := h86 86 rfl
            replace h87 : f 87 = .string x87 := h87 87 rfl
            replace h4 : f 4 = .string x87 := h4 4 rfl
            simp only [putAll, Act.put, List.setIfInBounds_toArray, List.set_cons_succ, List.set_cons_zero, h67, h68, h69, h70, h71, h72, h73, h74, h75, h76, h77, h78, h79, h80, h81, h82, h83, h84, h85, h86, h87, h4]
            clear h67 h68 h69 h70 h71 h72 h73 h74 h75 h76 h77 h78 h79 h80 h81 h82 h83 h84 h85 h86 h87 h4
            have HXe2 : Hid (r = x87) := Lib.hid (by rw [HXe.out, HX87.out, HX81.out, HX78.out, HX71.out, HX70.out])
            clear KC HXe
            have B5 := B4.out.trans (hC.mono hszB4)
            go_wp2_with fail
            go_ret
            exact ⟨by rw [HXe2.out]; rfl, B5⟩
end Go.Proofs.Ytancidbbkoeokaa
