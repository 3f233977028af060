/- Contract of impl.(*odcHead).digits. -/
import Derived.Test.YtpimeekcnndhiaaDoorCardTextI
namespace Go.Proofs.YtpimeekcnndhiaaDoor
open Go.ChangeShapes Go.WideShapes Go.ChangeAt Go.RowKit Go.Deep

theorem own_ne_ty {w : World} {base : Nat} {e t : TypeId} {v : Value} {n g : Nat} {xs : List Value} {cs : Array Value} {fr : Nat × Nat} (h : w.ownsRow base e 1 v n xs) (hg : w.heap[g]? = some (.cells cs t fr)) (ht : ¬ t = e) : some g ≠ v.ownBlock := by
  intro e1
  rcases h.2 with ⟨h0, _⟩ | ⟨g', cap', cur, hv, hg', hh, _⟩
  · subst h0; simp [Value.ownBlock] at e1
  · subst hv
    simp [Value.ownBlock] at e1
    subst e1
    rw [hg] at hh
    simp at hh
    exact ht hh.2.1
/-- The numbers of a head, each at its place. -/
def NumsAt (w : World) (gh : Nat) (L : List (Int × Int)) : Prop := ∀ i x, L[i]? = some x → w.cell? ⟨gh, offv i, none⟩ = some (.int .i64 x.1)
theorem NumsAt.below {w w' : World} {gh B : Nat} {L : List (Int × Int)} (h : NumsAt w gh L) (hb : Below B w w') (hg : gh < B) : NumsAt w' gh L := fun i x hx => (hb.cell (p := ⟨gh, offv i, none⟩) hg).trans (h i x hx)
theorem field_at {w : World} {G gh : Nat} {ty : TypeId} (h : w.heap[G]? = some (.cells (fieldCells gh) ty (0, 0))) {L : List (Int × Int)} (hL : L.map Prod.snd = wideC) {i : Nat} {x : Int × Int} (hx : L[i]? = some x) : w.cell? ⟨G, i * 2, none⟩ = some (.pointer (some ⟨gh, offv i, none⟩)) ∧ w.cell? ⟨G, i * 2 + 1, none⟩ = some (.int .i64 x.2) := by
  have hi : i < 10 := by
    have h1 := (List.getElem?_eq_some_iff.1 hx).1
    have h2 := congrArg List.length hL
    simp [wideC] at h2
    omega
  have h2 : wideC[i]? = some x.2 := by rw [← hL]; simp [hx]
  simp only [World.cell?, h]
  match i, hi, h2 with
  | 0, _, h2 => simp [fieldCells, offv, wideC] at h2 ⊢; exact h2
  | 1, _, h2 => simp [fieldCells, offv, wideC] at h2 ⊢; exact h2
  | 2, _, h2 => simp [fieldCells, offv, wideC] at h2 ⊢; exact h2
  | 3, _, h2 => simp [fieldCells, offv, wideC] at h2 ⊢; exact h2
  | 4, _, h2 => simp [fieldCells, offv, wideC] at h2 ⊢; exact h2
  | 5, _, h2 => simp [fieldCells, offv, wideC] at h2 ⊢; exact h2
  | 6, _, h2 => simp [fieldCells, offv, wideC] at h2 ⊢; exact h2
  | 7, _, h2 => simp [fieldCells, offv, wideC] at h2 ⊢; exact h2
  | 8, _, h2 => simp [fieldCells, offv, wideC] at h2 ⊢; exact h2
  | 9, _, h2 => simp [fieldCells, offv, wideC] at h2 ⊢; exact h2
set_option maxHeartbeats 6400000 in
set_option maxRecDepth 8000 in
theorem digits_any (L : List (Int × Int)) (gh : Nat) (w : World) (hL : L.map Prod.snd = wideC) (hg : gh < w.heap.size) (hN : NumsAt w gh L) (hT : Tabs w) :
    Calls Tryd.prog 12 #[.pointer (some ⟨gh, 0, none⟩)] w fun e w' => e = digE L ∧ Below w.heap.size w w' := by
  obtain ⟨i0, hi0, hz0, hz1, hz2⟩ := info_parts Tryd.info5
  have HN := Lib.hid hN
  have HT := Lib.hid hT
  have hlen : L.length = 10 := by have := congrArg List.length hL; simpa [wideC] using this
  have HA := Lib.hid (fun (w : World) (G : Nat) (h : w.heap[G]? = some (.cells (fieldCells gh) 48 (0, 0))) i x (hx : L[i]? = some x) => field_at h hL hx)
  have HG : Hid (∀ i, i < 10 → ∃ x, L[i]? = some x) := Lib.hid (fun i hi => ⟨L[i], List.getElem?_eq_getElem (by omega)⟩)
  have HS := Lib.hid (fun i x (h : L[i]? = some x) => octs_take h)
  have HK := Lib.hid (fun i x (h : L[i]? = some x) => octsOk_take h)
  have HB := Lib.hid (fun i x (h : L[i]? = some x) hk => octsOk_bad h hk)
  have HZ : Hid (octsS (L.take 0) = ⟨#[]⟩ ∧ octsOk (L.take 0) = true) := Lib.hid ⟨rfl, rfl⟩
  have HF : Hid (octsS (L.take 10) = octsS L ∧ octsOk (L.take 10) = octsOk L) := Lib.hid (by rw [← hlen, List.take_length]; exact ⟨rfl, rfl⟩)
  have HLe : Hid (∀ i, (octsS (L.take i)).size ≤ 200) := Lib.hid (fun i => by have h8 := octsS_le (L.take i); rw [List.length_take] at h8; omega)
  have HPl := Lib.hid putOct_le
  have HE : Hid (digE L = if octsOk L then .returned (.string (octsS L)) else .panicked (panC 3)) := Lib.hid rfl
  generalize digE L = E at HE
  generalize octsOk L = ok at HF HB HE
  generalize octsS L = r at HF HE
  clear hN hT hL hlen
  go_enter Tryd.func12, Tryd.ntmps12
  go_wp2_with fail
  refine (fields_any gh _).mono ?_
  rintro e w1 ⟨G, rfl, hG1, hG2, hb⟩
  have B := Lib.hid hb
  have F := Lib.hid hG2
  have O0 : Hid (OwnB w1 w.heap.size (.slice none 0 0) []) := Lib.hid ⟨rfl, .inl ⟨rfl, rfl⟩⟩
  have hGl := (Array.getElem?_eq_some_iff.1 hG2).1
  clear hb hG2
  go_wp2_with fail
  go_loopw [3, 5, 6, 7, 11] (fun v _ _ _ u wr => ∃ i : Nat, u = .int .i64 i ∧ i ≤ 10 ∧ octsOk (L.take i) = true ∧ OwnB wr w.heap.size v (octsS (L.take i)).data.toList ∧ wr.heap[G]? = some (.cells (fieldCells gh) 48 (0, 0)) ∧ some G ≠ v.ownBlock ∧ Below w.heap.size w wr) (fun _ _ _ _ u _ => 10 - (intOf u).toNat)
  case atStart => exact ⟨0, rfl, Nat.zero_le _, HZ.out.2, by rw [HZ.out.1]; exact O0.out, F.out, by simp [Value.ownBlock], B.out⟩
  case round =>
    obtain ⟨i, rfl, hi, hok, ho, hf, hne, hb⟩ := hrel
    obtain ⟨w5, hw5⟩ : ∃ wo, wo = wr := ⟨_, rfl⟩
    subst hw5
    clear O0 F B
    have B := Lib.hid hb
    have O := Lib.hid ho
    have F := Lib.hid hf
    have hszB := B.out.size
    have HOk := Lib.hid hok
    have hGl := (Array.getElem?_eq_some_iff.1 hf).1
    clear hb hok ho hf
    by_cases hlt : i < 10
    · have hlt2 : (i : Int) < 10 := by omega
      obtain ⟨⟨x, y⟩, hx⟩ := HG.out i hlt
      have HS2 := Lib.hid (HS.out i _ hx)
      have HK2 := Lib.hid (HK.out i _ hx)
      have HB2 := Lib.hid (HB.out i _ hx)
      obtain ⟨c0, c1⟩ := HA.out w5 G F.out i _ hx
      have cN := (B.out.cell (p := ⟨gh, offv i, none⟩) hg).trans (HN.out i _ hx)
      simp only at HS2 HK2 HB2 c0 c1 cN
      have hle := HLe.out i
      have hpl := HPl.out x y
      have HPx := Lib.hid (fun w h => putOct_impl x y w h)
      clear hx HS HK HB HG HA HN
      obtain ⟨T, hTe⟩ : ∃ T, octsS (L.take i) = T := ⟨_, rfl⟩
      rw [hTe] at HS2 hle O
      clear hTe
      generalize (putOctv x y).1 = q at HS2 hpl HPx
      generalize (putOctv x y).2 = b at HB2 HK2 HPx
      generalize offv i = oi at c0 cN
      have HTs := Lib.hid (fun w' (hb : Below w.heap.size w w') => HPx.out w' (HT.out.below hb))
      clear HPx
      go_upto_region 5 with fail
      generalize hw6 : World.alloc w5 _ = w6
      have NB : Below w5.heap.size w5 w6 := by rw [← hw6]; exact (Below.refl _ _).alloc (Nat.le_refl _) _
      have XB : w6.heap[w5.heap.size]? = some (.cells #[.pointer (some ⟨gh, oi, none⟩), .int .i64 y] 48 (0, 0)) := by rw [← hw6]; exact heap_lastG _ _
      clear hw6 c0 c1
      have zbx := (Array.getElem?_eq_some_iff.1 XB).1
      replace O := Lib.hid (ownB_belowK O.out NB)
      replace F := Lib.hid ((NB.block G hGl).trans F.out)
      replace B := Lib.hid (B.out.trans (NB.mono hszB))
      have hsz6 := B.out.size
      have KC : Hid (∀ w', Below w6.heap.size w6 w' → w'.cell? ⟨w5.heap.size, 0, none⟩ = some (.pointer (some ⟨gh, oi, none⟩)) ∧ w'.cell? ⟨w5.heap.size, 1, none⟩ = some (.int .i64 y) ∧ w'.cell? ⟨gh, oi, none⟩ = some (.int .i64 x)) := Lib.hid (fun w' hb => by
        have h1 := (hb.block _ zbx).trans XB
        exact ⟨by simp [World.cell?, h1], by simp [World.cell?, h1], (hb.cell (p := ⟨gh, oi, none⟩) (by simp; omega)).trans ((NB.cell (p := ⟨gh, oi, none⟩) (by simp; omega)).trans cN)⟩)
      have HPy := Lib.hid (fun w' (hb : Below w6.heap.size w6 w') => HTs.out w' (B.out.trans (hb.mono hsz6)))
      clear NB XB HTs cN
      refine wp_region_inv (by kernel_rfl) (fun w' => Below w6.heap.size w6 w') (fun x y => Below x.heap.size x y) (fun dq vq _ => match dq with | 16 => vq = .pointer (some ⟨w5.heap.size, 0, none⟩) | 17 => vq = .pointer (some ⟨gh, oi, none⟩) | 18 => vq = .pointer (some ⟨gh, oi, none⟩) | 19 => vq = .int .i64 x | 20 => vq = .pointer (some ⟨w5.heap.size, 1, none⟩) | 21 => vq = .int .i64 y | 22 => vq = .tuple #[.string q, .bool b] | 15 => vq = .tuple #[.string q, .bool b] | 23 => vq = .string q | 24 => vq = .bool b | 6 => vq = .string q | 7 => vq = .bool b | _ => True) (by kernel_rfl) ((Below.refl _ _).drew) (fun _ _ _ _ _ _ h => h) ?hops ?hend
      case hops =>
        simp only [List.forall_mem_cons]
        refine ⟨?o16, ?o17, ?o18, ?o19, ?o20, ?o21, ?o22, ?o15, ?o23, ?o24, ?o6, ?o7, fun _ h => by cases h⟩
        case o16 =>
          intro Q a w2 hC hV hI
          have e5 : a.eval (.tmp 5) = .pointer (some ⟨w5.heap.size, 0, none⟩) := (hI 5 (by simp [Op.operands]) (by kernel_rfl)).trans rfl
          have f5 : a.tmps.getD 5 undef = .pointer (some ⟨w5.heap.size, 0, none⟩) := e5
          have g5 : a.tmps[5]?.getD undef = .pointer (some ⟨w5.heap.size, 0, none⟩) := by rw [← Array.getD_eq_getD_getElem?]; exact e5
          refine op_val (.pointer (some ⟨w5.heap.size, 0, none⟩)) ?_ hC (Below.refl _ _) (by intro d hd; cases hd; rfl)
          (clear hV hI hC; go_simp <;> (first | rfl | simp | (rw [IntKind.wrap_i64]; omega)))
        case o17 =>
          intro Q a w2 hC hV hI
          have e16 : a.eval (.tmp 16) = .pointer (some ⟨w5.heap.size, 0, none⟩) := hV 16 (by simp [Op.operands]) (by kernel_rfl)
          have f16 : a.tmps.getD 16 undef = .pointer (some ⟨w5.heap.size, 0, none⟩) := e16
          have g16 : a.tmps[16]?.getD undef = .pointer (some ⟨w5.heap.size, 0, none⟩) := by rw [← Array.getD_eq_getD_getElem?]; exact e16
          have hK := KC.out w2 hC
          refine op_val (.pointer (some ⟨gh, oi, none⟩)) ?_ hC (Below.refl _ _) (by intro d hd; cases hd; rfl)
          (clear hV hI hC; go_simp <;> (first | rfl | simp | (rw [IntKind.wrap_i64]; omega)))
        case o18 =>
          intro Q a w2 hC hV hI
          have e17 : a.eval (.tmp 17) = .pointer (some ⟨gh, oi, none⟩) := hV 17 (by simp [Op.operands]) (by kernel_rfl)
          have f17 : a.tmps.getD 17 undef = .pointer (some ⟨gh, oi, none⟩) := e17
          have g17 : a.tmps[17]?.getD undef = .pointer (some ⟨gh, oi, none⟩) := by rw [← Array.getD_eq_getD_getElem?]; exact e17
          refine op_val (.pointer (some ⟨gh, oi, none⟩)) ?_ hC (Below.refl _ _) (by intro d hd; cases hd; rfl)
          (clear hV hI hC; go_simp <;> (first | rfl | simp | (rw [IntKind.wrap_i64]; omega)))
        case o19 =>
          intro Q a w2 hC hV hI
          have e18 : a.eval (.tmp 18) = .pointer (some ⟨gh, oi, none⟩) := hV 18 (by simp [Op.operands]) (by kernel_rfl)
          have f18 : a.tmps.getD 18 undef = .pointer (some ⟨gh, oi, none⟩) := e18
          have g18 : a.tmps[18]?.getD undef = .pointer (some ⟨gh, oi, none⟩) := by rw [← Array.getD_eq_getD_getElem?]; exact e18
          have hK := KC.out w2 hC
          refine op_val (.int .i64 x) ?_ hC (Below.refl _ _) (by intro d hd; cases hd; rfl)
          (clear hV hI hC; go_simp <;> (first | rfl | simp | (rw [IntKind.wrap_i64]; omega)))
        case o20 =>
          intro Q a w2 hC hV hI
          have e5 : a.eval (.tmp 5) = .pointer (some ⟨w5.heap.size, 0, none⟩) := (hI 5 (by simp [Op.operands]) (by kernel_rfl)).trans rfl
          have f5 : a.tmps.getD 5 undef = .pointer (some ⟨w5.heap.size, 0, none⟩) := e5
          have g5 : a.tmps[5]?.getD undef = .pointer (some ⟨w5.heap.size, 0, none⟩) := by rw [← Array.getD_eq_getD_getElem?]; exact e5
          refine op_val (.pointer (some ⟨w5.heap.size, 1, none⟩)) ?_ hC (Below.refl _ _) (by intro d hd; cases hd; rfl)
          (clear hV hI hC; go_simp <;> (first | rfl | simp | (rw [IntKind.wrap_i64]; omega)))
        case o21 =>
          intro Q a w2 hC hV hI
          have e20 : a.eval (.tmp 20) = .pointer (some ⟨w5.heap.size, 1, none⟩) := hV 20 (by simp [Op.operands]) (by kernel_rfl)
          have f20 : a.tmps.getD 20 undef = .pointer (some ⟨w5.heap.size, 1, none⟩) := e20
          have g20 : a.tmps[20]?.getD undef = .pointer (some ⟨w5.heap.size, 1, none⟩) := by rw [← Array.getD_eq_getD_getElem?]; exact e20
          have hK := KC.out w2 hC
          refine op_val (.int .i64 y) ?_ hC (Below.refl _ _) (by intro d hd; cases hd; rfl)
          (clear hV hI hC; go_simp <;> (first | rfl | simp | (rw [IntKind.wrap_i64]; omega)))
        case o22 =>
          intro Q a w2 hC hV hI
          have e19 : a.eval (.tmp 19) = .int .i64 x := hV 19 (by simp [Op.operands, Call.operands]) (by kernel_rfl)
          have f19 : a.tmps.getD 19 undef = .int .i64 x := e19
          have g19 : a.tmps[19]?.getD undef = .int .i64 x := by rw [← Array.getD_eq_getD_getElem?]; exact e19
          have e21 : a.eval (.tmp 21) = .int .i64 y := hV 21 (by simp [Op.operands, Call.operands]) (by kernel_rfl)
          have f21 : a.tmps.getD 21 undef = .int .i64 y := e21
          have g21 : a.tmps[21]?.getD undef = .int .i64 y := by rw [← Array.getD_eq_getD_getElem?]; exact e21
          refine op_call (f := 15) (args := #[.int .i64 x, .int .i64 y]) (R := fun v y => v = .tuple #[.string q, .bool b] ∧ Below w2.heap.size w2 y) ?_ ((HPy.out w2 hC).mono ?_) ?_
          · (clear hV hI hC; go_simp <;> (first | rfl | simp | (rw [IntKind.wrap_i64]; omega)))
          · rintro e y ⟨rfl, hb⟩; exact ⟨_, rfl, rfl, hb⟩
          · rintro v y ⟨rfl, hb⟩; exact ⟨hC.trans (hb.mono hC.size), hb, by intro d hd; cases hd; rfl⟩
        case o15 =>
          intro Q a w2 hC hV hI
          have e22 : a.eval (.tmp 22) = .tuple #[.string q, .bool b] := hV 22 (by simp [Op.operands]) (by kernel_rfl)
          have f22 : a.tmps.getD 22 undef = .tuple #[.string q, .bool b] := e22
          have g22 : a.tmps[22]?.getD undef = .tuple #[.string q, .bool b] := by rw [← Array.getD_eq_getD_getElem?]; exact e22
          refine op_val (.tuple #[.string q, .bool b]) ?_ hC (Below.refl _ _) (by intro d hd; cases hd; rfl)
          (clear hV hI hC; go_simp <;> (first | rfl | simp | (rw [IntKind.wrap_i64]; omega)))
        case o23 =>
          intro Q a w2 hC hV hI
          have e15 : a.eval (.tmp 15) = .tuple #[.string q, .bool b] := hV 15 (by simp [Op.operands]) (by kernel_rfl)
          have f15 : a.tmps.getD 15 undef = .tuple #[.string q, .bool b] := e15
          have g15 : a.tmps[15]?.getD undef = .tuple #[.string q, .bool b] := by rw [← Array.getD_eq_getD_getElem?]; exact e15
          refine op_val (.string q) ?_ hC (Below.refl _ _) (by intro d hd; cases hd; rfl)
          (clear hV hI hC; go_simp <;> (first | rfl | simp | (rw [IntKind.wrap_i64]; omega)))
        case o24 =>
          intro Q a w2 hC hV hI
          have e15 : a.eval (.tmp 15) = .tuple #[.string q, .bool b] := hV 15 (by simp [Op.operands]) (by kernel_rfl)
          have f15 : a.tmps.getD 15 undef = .tuple #[.string q, .bool b] := e15
          have g15 : a.tmps[15]?.getD undef = .tuple #[.string q, .bool b] := by rw [← Array.getD_eq_getD_getElem?]; exact e15
          refine op_val (.bool b) ?_ hC (Below.refl _ _) (by intro d hd; cases hd; rfl)
          (clear hV hI hC; go_simp <;> (first | rfl | simp | (rw [IntKind.wrap_i64]; omega)))
        case o6 =>
          intro Q a w2 hC hV hI
          have e23 : a.eval (.tmp 23) = .string q := hV 23 (by simp [Op.operands]) (by kernel_rfl)
          have f23 : a.tmps.getD 23 undef = .string q := e23
          have g23 : a.tmps[23]?.getD undef = .string q := by rw [← Array.getD_eq_getD_getElem?]; exact e23
          refine op_val (.string q) ?_ hC (Below.refl _ _) (by intro d hd; cases hd; rfl)
          (clear hV hI hC; go_simp <;> (first | rfl | simp | (rw [IntKind.wrap_i64]; omega)))
        case o7 =>
          intro Q a w2 hC hV hI
          have e24 : a.eval (.tmp 24) = .bool b := hV 24 (by simp [Op.operands]) (by kernel_rfl)
          have f24 : a.tmps.getD 24 undef = .bool b := e24
          have g24 : a.tmps[24]?.getD undef = .bool b := by rw [← Array.getD_eq_getD_getElem?]; exact e24
          refine op_val (.bool b) ?_ hC (Below.refl _ _) (by intro d hd; cases hd; rfl)
          (clear hV hI hC; go_simp <;> (first | rfl | simp | (rw [IntKind.wrap_i64]; omega)))
      case hend =>
        intro f w7 hC hall
        simp only [List.forall_mem_cons] at hall
        obtain ⟨h16, h17, h18, h19, h20, h21, h22, h15, h23, h24, h6, h7, _⟩ := hall
        replace h16 : f 16 = .pointer (some ⟨w5.heap.size, 0, none⟩) := h16 16 rfl
        replace h17 : f 17 = .pointer (some ⟨gh, oi, none⟩) := h17 17 rfl
        replace h18 : f 18 = .pointer (some ⟨gh, oi, none⟩) := h18 18 rfl
        replace h19 : f 19 = .int .i64 x := h19 19 rfl
        replace h20 : f 20 = .pointer (some ⟨w5.heap.size, 1, none⟩) := h20 20 rfl
        replace h21 : f 21 = .int .i64 y := h21 21 rfl
        replace h22 : f 22 = .tuple #[.string q, .bool b] := h22 22 rfl
        replace h15 : f 15 = .tuple #[.string q, .bool b] := h15 15 rfl
        replace h23 : f 23 = .string q := h23 23 rfl
        replace h24 : f 24 = .bool b := h24 24 rfl
        replace h6 : f 6 = .string q := h6 6 rfl
        replace h7 : f 7 = .bool b := h7 7 rfl
        simp only [putAll, Act.put, List.setIfInBounds_toArray, List.set_cons_succ, List.set_cons_zero, h16, h17, h18, h19, h20, h21, h22, h15, h23, h24, h6, h7]
        clear h16 h17 h18 h19 h20 h21 h22 h15 h23 h24 h6 h7
        clear KC HPy
        replace O := Lib.hid (ownB_belowK O.out hC)
        replace F := Lib.hid ((hC.block G (by have := hsz6; omega)).trans F.out)
        replace B := Lib.hid (B.out.trans (hC.mono hsz6))
        have hsz7 := B.out.size
        clear hC
        cases b with
        | false =>
          have HF2 : Hid (E = .panicked (panC 3)) := Lib.hid (by rw [HE.out, HB2.out rfl]; rfl)
          clear HE HB2 HS2 HK2
          go_wp2_with fail
          refine (demand_no 3 _).mono ?_
          rintro e w8 ⟨rfl, rfl⟩
          exact ⟨rfl, by rw [HF2.out], B.out⟩
        | true =>
          have HOk2 : Hid (octsOk (L.take (i + 1)) = true) := Lib.hid (by rw [HK2.out, HOk.out]; rfl)
          have zl : T.data.toList.length = T.size := by simp
          clear HB2 HK2
          go_wp2_with fail
          refine (demand_ok 3 _).mono ?_
          rintro e w8 ⟨rfl, rfl⟩
          go_wp2_with (at_builtin; refine Lib.wpList_append_own_string _ rfl _ _ 43 9 rfl w.heap.size 5 i0 Tryd.underlying43 Tryd.underlying9 hi0 hz0 hz1 hz2 _ _ _ rfl O.out q rfl ?pp ?pq ?pr ?_)
          case pp => simp only [maxLen]; omega
          case pq => omega
          case pr => omega
          intro v9 w9 hown hgrow hnil
          have O9 : OwnB w9 w.heap.size v9 (T.data.toList ++ q.data.toList) := textK (by simp <;> omega) hown
          rw [show T.data.toList ++ q.data.toList = (T ++ q).data.toList from by simp] at O9
          have O10 := Lib.hid O9
          have F9 := Lib.hid ((hgrow.block G (Array.getElem?_eq_some_iff.1 F.out).1 hne).trans F.out)
          have B9 : Hid (Below w.heap.size w w9) := Lib.hid (B.out.grown hgrow (by omega) (fun b hb => (World.ownsRow.lt O.out b hb).1))
          have N9 : Hid (some G ≠ v9.ownBlock) := Lib.hid (own_ne_ty O9 F9.out (by decide))
          clear hown hgrow hnil O9 O F B hne
          go_wp2_with fail
          go_roundw
          case rel => exact ⟨i + 1, by go_num, by omega, HOk2.out, by rw [HS2.out]; exact O10.out, F9.out, N9.out, B9.out⟩
          case measure => simp [intOf]; omega
    · obtain rfl : i = 10 := by omega
      have hlt2 : ¬ ((10 : Nat) : Int) < 10 := by omega
      have HR9 := HF.out.2
      rw [HOk.out] at HR9
      have HF2 : Hid (E = .returned (.string r)) := Lib.hid (by rw [HE.out, ← HR9]; rfl)
      have hc := O.out.conv
      rw [HF.out.1, show (⟨r.data.toList.toArray⟩ : ByteArray) = r from by simp] at hc
      clear HR9 HE
      go_wp2_with fail
      go_ret
      exact ⟨by rw [HF2.out]; rfl, B.out⟩
end Go.Proofs.YtpimeekcnndhiaaDoor
