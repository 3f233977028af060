/- Texts joined: WrBin, RegU, BinW, BinPW, PutBnI, PutCpioI, PutCpioELaw. -/
import Derived.BigRegion
import Derived.Test.YtancidbbkoeokaaGreatRegInv
import Derived.Test.YtancidbbkoeokaaGreatOwn
import Derived.Deep.DeepCutAuto
import Derived.OwnWalk
import Derived.Laws.ResultCell
import Derived.Laws.Rows
import Derived.Deep.WholeRow
import Derived.Test.YtancidbbkoeokaaGreatLawE
import Derived.Test.YtancidbbkoeokaaGreatJC1
/- Contract of impl.cardFormat.write at the format with headers in words. -/
namespace Go.Proofs.YtancidbbkoeokaaGreat
open Go.ChangeShapes Go.WideShapes Go.ChangeAt Go.RowKit Go.Deep

/-- What the writing of one card answers: kept as a premise here, so that this text need not see how it is proved. -/
def PutBinOk : Prop := ∀ (ino mo u1 gi cn t : Int) (p d : ByteArray) (hi : Bool) (w : World), p.size ≤ 4194304 → d.size ≤ 4194304 →
    Calls Tryz.prog 40 #[.agg #[.int .i64 ino, .int .i64 mo, .int .i64 u1, .int .i64 gi, .int .i64 cn, .int .i64 t, .string p, .string d], .bool hi] w fun e w' => e = .returned (.string (binTextv ⟨ino, mo, u1, gi, cn, t, p, d⟩ hi)) ∧ Below w.heap.size w w'
theorem bfmt1_any (HPB : PutBinOk) (ino mo u1 gi cn t : Int) (p d : ByteArray) (crc : Bool) (gk : Nat) (w : World) (hp : p.size ≤ 4194304) (hd : d.size ≤ 4194304) (hck : w.heap[gk]? = some (.cells #[.bool crc] 4 (0, 0))) :
    Calls Tryz.prog 39 #[.agg #[.int .i64 ino, .int .i64 mo, .int .i64 u1, .int .i64 gi, .int .i64 cn, .int .i64 t, .string p, .string d], .pointer (some ⟨gk, 0, none⟩)] w fun e w' => e = .returned (.string (binTextv ⟨ino, mo, u1, gi, cn, t, p, d⟩ crc)) ∧ Below w.heap.size w w' := by
  have HP := Lib.hid (fun w => HPB ino mo u1 gi cn t p d crc w hp hd)
  have hlt := (Array.getElem?_eq_some_iff.1 hck).1
  have CK := Lib.hid hck
  generalize binTextv ⟨ino, mo, u1, gi, cn, t, p, d⟩ crc = r at HP
  clear hck hp hd HPB
  go_enter Tryz.func39, Tryz.ntmps39
  go_upto_region 1 with fail
  generalize hw1 : World.alloc w _ = w1
  have XC : Hid (CardO w1 w.heap.size ⟨ino, mo, u1, gi, cn, t, p, d⟩) := Lib.hid (by rw [← hw1]; exact CardO.new w ⟨ino, mo, u1, gi, cn, t, p, d⟩)
  have B : Hid (Below w.heap.size w w1) := Lib.hid (by rw [← hw1]; exact (Below.refl _ _).alloc (Nat.le_refl _) _)
  clear hw1
  have CK1 := (B.out.block gk hlt).trans CK.out
  have ck : w1.cell? ⟨gk, 0, none⟩ = some (.bool crc) := by simp [World.cell?, CK1]
  obtain ⟨d0, d1, d2, d3, d4, d5, d6, d7⟩ := XC.out.at.zero
  clear CK1
  go_wp2_with fail
  refine (HP.out _).mono ?_
  rintro e w2 ⟨rfl, hb⟩
  have B2 := Lib.hid (B.out.trans (hb.mono B.out.size))
  clear hb d0 d1 d2 d3 d4 d5 d6 d7 ck
  go_wp2_with fail
  go_ret
  exact ⟨rfl, B2.out⟩
set_option maxHeartbeats 6400000 in
set_option maxRecDepth 8000 in
theorem write_bin (HPB : PutBinOk) (L : List Ent) (n g cap : Nat) (crc : Bool) (gk : Nat) (w : World) (hn : n = L.length) (hm : n ≤ 1048576) (hcap : n ≤ cap) (hg : g < w.heap.size) (hsm : SmallL L) (hgk : gk < w.heap.size) (hck : w.heap[gk]? = some (.cells #[.bool crc] 4 (0, 0))) (h1 : RowE w g L) :
    Calls Tryz.prog 22 #[.agg #[.func (.func 38) #[] #[], .func (.func 39) #[] #[.pointer (some ⟨gk, 0, none⟩)], .func (.func 41) #[] #[.pointer (some ⟨gk, 0, none⟩)]], .slice (some ⟨g, 0, none⟩) n cap] w fun e w' => e = .returned (.tuple #[.string (putBwT L crc), .bool (putBwB L)]) ∧ Below w.heap.size w w' := by
  obtain ⟨i0, hi0, hz0, hz1, hz2⟩ := info_parts Tryz.info5
  have H1 := Lib.hid h1
  have HK := Lib.hid (fun w (hg : g < w.heap.size) (h : RowE w g L) => listOk_impl L n g cap w hn (by omega) hg hsm h)
  have HC := Lib.hid (fun w (hg : g < w.heap.size) (h : RowE w g L) => cardsOf_impl L n g cap w hn (by omega) hcap hg hsm h)
  have HG : Hid (∀ i, i < n → ∃ e, L[i]? = some e ∧ esz e ≤ 4194304) := Lib.hid (fun i hi => by obtain ⟨e, he⟩ := getE' (L := L) (i := i) (by omega); exact ⟨e, he, hsm.get he⟩)
  have HNo := Lib.hid (putBw_no (L := L) (crc := crc))
  have HBad := Lib.hid (fun i e (he : L[i]? = some e) h => putBw_bad (crc := crc) he h)
  have HYes : Hid (listOkv L = true → (∀ j, j < n → ∀ e, L[j]? = some e → binFits e = true) → putBwB L = true ∧ putBwT L crc = bwT crc (cardsv L) n ++ binTextv lastC crc) := Lib.hid (by rw [hn]; exact putBw_yes)
  have HQ : Hid (listOkv L = true → (cardsv L).length = n ∧ n ≤ 30) := Lib.hid (fun h => ⟨by rw [hn]; exact cardsv_len h, by rw [hn]; exact listOk_len h⟩)
  have HSQ := Lib.hid (smallQ_of hsm)
  have HLast := Lib.hid (binText207 lastC crc)
  have HPut : Hid (∀ (q0 q1 q2 q3 q4 q5 : Int) (qp qd : ByteArray) (w' : World), Below w.heap.size w w' → qp.size ≤ 4194304 → qd.size ≤ 4194304 → Calls Tryz.prog 39 #[.agg #[.int .i64 q0, .int .i64 q1, .int .i64 q2, .int .i64 q3, .int .i64 q4, .int .i64 q5, .string qp, .string qd], .pointer (some ⟨gk, 0, none⟩)] w' fun e w'' => e = .returned (.string (binTextv ⟨q0, q1, q2, q3, q4, q5, qp, qd⟩ crc)) ∧ Below w'.heap.size w' w'') := Lib.hid (fun q0 q1 q2 q3 q4 q5 qp qd w' hb hp hd => bfmt1_any HPB q0 q1 q2 q3 q4 q5 qp qd crc gk w' hp hd ((hb.block gk hgk).trans hck))
  generalize putBwB L = ok at HNo HBad HYes
  generalize putBwT L crc = r at HNo HBad HYes
  generalize listOkv L = lk at HK HNo HYes HQ
  generalize cardsv L = Q at HC HYes HQ HSQ
  clear h1 hsm hn hgk hck HPB
  go_enter Tryz.func22, Tryz.ntmps22
  go_upto_region 1 with fail
  generalize hw1 : World.alloc w _ = wb
  have BF : Hid (wb.heap[w.heap.size]? = some (.cells #[.func (.func 38) #[] #[], .func (.func 39) #[] #[.pointer (some ⟨gk, 0, none⟩)], .func (.func 41) #[] #[.pointer (some ⟨gk, 0, none⟩)]] 50 (0, 0))) := Lib.hid (by rw [← hw1]; exact heap_newW _ _ _ rfl)
  have B : Hid (Below w.heap.size w wb) := Lib.hid (by rw [← hw1]; exact (Below.refl _ _).alloc (Nat.le_refl _) _)
  clear hw1
  go_wp2_with fail
  refine (HK.out _ (by have := B.out.size; omega) (H1.out.below B.out hg)).mono ?_
  rintro e w1 ⟨rfl, hb⟩
  replace BF := Lib.hid ((hb.block _ (Array.getElem?_eq_some_iff.1 BF.out).1).trans BF.out)
  replace B := Lib.hid (btE B.out hb)
  clear hb
  cases lk with
  | false =>
    have HF := Lib.hid (HNo.out rfl)
    go_wp2_with fail
    go_ret2
    exact ⟨by rw [HF.out.1, HF.out.2]; rfl, B.out⟩
  | true =>
    obtain ⟨hql, hn30⟩ := HQ.out rfl
    have HY := Lib.hid (HYes.out rfl)
    clear HK HNo HYes HQ
    go_wp2_with fail
    refine (HC.out _ (by have := B.out.size; omega) (H1.out.below B.out hg)).mono ?_
    rintro e w2 ⟨v, rfl, ho, hb⟩
    have OC := Lib.hid ho
    obtain ⟨gc, cc, rfl, hrc, zc, _, _⟩ := ho.open
    replace BF := Lib.hid ((hb.block _ (Array.getElem?_eq_some_iff.1 BF.out).1).trans BF.out)
    replace B := Lib.hid (btE B.out hb)
    have O0 : Hid (OwnB w2 w.heap.size (.slice none 0 0) []) := Lib.hid ⟨rfl, .inl ⟨rfl, rfl⟩⟩
    clear ho hrc hb HC
    go_wp2_with fail
    go_loopw [6, 7, 8, 15] (fun v _ _ u wr => ∃ i : Nat, u = .int .i64 i ∧ i ≤ n ∧ (∀ j, j < i → ∀ e, L[j]? = some e → binFits e = true) ∧ OwnB wr w.heap.size v (bwT crc Q i).data.toList ∧ OwnC wr w1.heap.size (.slice (some ⟨gc, 0, none⟩) Q.length cc) Q ∧ wr.heap[w.heap.size]? = some (.cells #[.func (.func 38) #[] #[], .func (.func 39) #[] #[.pointer (some ⟨gk, 0, none⟩)], .func (.func 41) #[] #[.pointer (some ⟨gk, 0, none⟩)]] 50 (0, 0)) ∧ Below w.heap.size w wr) (fun _ _ _ u _ => n - (intOf u).toNat)
    case atStart => exact ⟨0, rfl, Nat.zero_le _, fun j hj => by omega, O0.out, OC.out, BF.out, B.out⟩
    case round =>
      obtain ⟨i, rfl, hi, hf, ho, hoc, hbf, hb⟩ := hrel
      clear O0 OC BF B
      have HFt := Lib.hid hf
      have O := Lib.hid ho
      have OC := Lib.hid hoc
      have BF := Lib.hid hbf
      have B := Lib.hid hb
      have hszB := B.out.size
      clear hf ho hoc hbf hb
      have hle := bwT_le (crc := crc) HSQ.out i (by omega)
      by_cases hlt : i < n
      · have hlt2 : (i : Int) < (n : Int) := by omega
        have hlt3 : (i : Int) < (Q.length : Int) := by omega
        obtain ⟨e, he, hz⟩ := HG.out i hlt
        obtain ⟨q, hq⟩ : ∃ q, Q[i]? = some q := ⟨Q[i], List.getElem?_eq_getElem (by omega)⟩
        have hqs := HSQ.out _ (List.mem_of_getElem? hq)
        have hcl := binText207 q crc
        have HSt := Lib.hid (bwT_step (crc := crc) hq)
        have HB2 := Lib.hid (HBad.out i e he)
        have HFn : Hid (binFits e = true → ∀ j, j < i + 1 → ∀ e, L[j]? = some e → binFits e = true) := Lib.hid (fun h j hj e' he' => by
          by_cases hji : j = i
          · subst hji; rw [he] at he'; obtain rfl := Option.some.inj he'; exact h
          · exact HFt.out j (by omega) e' he')
        have C10 := Lib.hid ((H1.out.below B.out hg).ten he)
        obtain ⟨d0, d1, d2, d3, d4, d5, d6, d7⟩ := OC.out.row.1.cols hq
        clear he hq HBad HG
        obtain ⟨k, p, l, m, u1, gi, t, us, gr, b⟩ := e
        obtain ⟨hp, hl, hus, hgr, hbz⟩ := small_parts hz
        have HO := Lib.hid (fun w => binFits_impl k p l m u1 gi t us gr b w hp hl hus hgr)
        simp only at C10
        clear hz hp hl hus hgr hbz
        generalize binFits ⟨k, p, l, m, u1, gi, t, us, gr, b⟩ = fb at HB2 HFn HO
        obtain ⟨q0, q1, q2, q3, q4, q5, qp, qd⟩ := q
        simp only at d0 d1 d2 d3 d4 d5 d6 d7 hqs hcl
        have NB : Below wr.heap.size wr (wr.alloc (.cells (Card.cells ⟨q0, q1, q2, q3, q4, q5, qp, qd⟩).toArray 44)) := (Below.refl _ _).alloc (Nat.le_refl _) _
        have XC := Lib.hid (CardO.new wr ⟨q0, q1, q2, q3, q4, q5, qp, qd⟩)
        have zgx : g < wr.heap.size := by omega
        have zbf := (Array.getElem?_eq_some_iff.1 BF.out).1
        replace O := Lib.hid (ownB_belowW O.out NB)
        replace OC := Lib.hid (OC.out.keep NB)
        replace BF := Lib.hid ((NB.block _ zbf).trans BF.out)
        replace B := Lib.hid (btE B.out NB)
        have zx := XC.out.lt
        have HNB := Lib.hid NB
        have hsa : (wr.alloc (.cells (Card.cells ⟨q0, q1, q2, q3, q4, q5, qp, qd⟩).toArray 44)).heap.size = wr.heap.size + 1 := by simp
        simp only [Card.cells] at XC O OC BF B zx HNB hsa
        clear NB
        go_upto_region 7 with fail
        obtain ⟨bx, hbx⟩ : ∃ bx, bx = wr.heap.size := ⟨_, rfl⟩
        generalize World.alloc wr _ = w3 at O OC BF B XC zx HNB hsa ⊢
        clear d0 d1 d2 d3 d4 d5 d6 d7
        have hs3 : wr.heap.size ≤ w3.heap.size := by omega
        have zb3 : w.heap.size < w3.heap.size := by omega
        have KC : Hid (∀ w', Below w3.heap.size w3 w' → w'.cell? ⟨w.heap.size, 0, none⟩ = some (.func (.func 38) #[] #[]) ∧ (w'.cell? ⟨g, i * 10, none⟩ = some (.int .i64 k) ∧ w'.cell? ⟨g, i * 10 + 1, none⟩ = some (.string p) ∧ w'.cell? ⟨g, i * 10 + 2, none⟩ = some (.string l) ∧ w'.cell? ⟨g, i * 10 + 3, none⟩ = some (.int .i64 m) ∧ w'.cell? ⟨g, i * 10 + 4, none⟩ = some (.int .i64 u1) ∧ w'.cell? ⟨g, i * 10 + 5, none⟩ = some (.int .i64 gi) ∧ w'.cell? ⟨g, i * 10 + 6, none⟩ = some (.int .i64 t) ∧ w'.cell? ⟨g, i * 10 + 7, none⟩ = some (.string us) ∧ w'.cell? ⟨g, i * 10 + 8, none⟩ = some (.string gr) ∧ w'.cell? ⟨g, i * 10 + 9, none⟩ = some (.string b))) := Lib.hid (fun w' hb => by
          have h9 := (hb.block _ zb3).trans BF.out
          obtain ⟨c0, c1, c2, c3, c4, c5, c6, c7, c8, c9⟩ := C10.out
          have hm : ∀ o, w'.cell? ⟨g, o, none⟩ = wr.cell? ⟨g, o, none⟩ := fun o => (hb.cell (p := ⟨g, o, none⟩) (by show g < w3.heap.size; omega)).trans (HNB.out.cell (p := ⟨g, o, none⟩) zgx)
          exact ⟨by simp [World.cell?, h9], (hm _).trans c0, (hm _).trans c1, (hm _).trans c2, (hm _).trans c3, (hm _).trans c4, (hm _).trans c5, (hm _).trans c6, (hm _).trans c7, (hm _).trans c8, (hm _).trans c9⟩)
        clear hsa
        refine wp_region_inv (by kernel_rfl) (fun w' => Below w3.heap.size w3 w') (fun x y => Below x.heap.size x y) (fun dq vq _ => match dq with | 20 => vq = .pointer (some ⟨w.heap.size, 0, none⟩) | 21 => vq = .func (.func 38) #[] #[] | 22 => vq = .slice (some ⟨g, 0, none⟩) n cap | 23 => vq = .int .i64 (i : Int) | 24 => vq = .pointer (some ⟨g, i * 10, none⟩) | 25 => vq = .agg #[.int .i64 k, .string p, .string l, .int .i64 m, .int .i64 u1, .int .i64 gi, .int .i64 t, .string us, .string gr, .string b] | 26 => vq = .bool fb | 27 => vq = .bool (!fb) | _ => True) (by kernel_rfl) ((Below.refl _ _).drew) (fun _ _ _ _ _ _ h => h) ?hops ?hend
        case hops =>
          simp only [List.forall_mem_cons]
          refine ⟨?o20, ?o21, ?o22, ?o23, ?o24, ?o25, ?o26, ?o27, fun _ h => by cases h⟩
          case o20 =>
            intro Q a w2 hC hV hI
            have e2 : a.eval (.tmp 2) = .pointer (some ⟨w.heap.size, 0, none⟩) := (hI 2 (by simp [Op.operands]) (by kernel_rfl)).trans rfl
            have f2 : a.tmps.getD 2 undef = .pointer (some ⟨w.heap.size, 0, none⟩) := e2
            have g2 : a.tmps[2]?.getD undef = .pointer (some ⟨w.heap.size, 0, none⟩) := by rw [← Array.getD_eq_getD_getElem?]; exact e2
            refine op_val (.pointer (some ⟨w.heap.size, 0, none⟩)) ?_ hC (Below.refl _ _) (by intro d hd; cases hd; rfl)
            (clear hV hI hC; go_simp <;> (first | rfl | simp | (rw [IntKind.wrap_i64]; omega)))
          case o21 =>
            intro Q a w2 hC hV hI
            have e20 : a.eval (.tmp 20) = .pointer (some ⟨w.heap.size, 0, none⟩) := hV 20 (by simp [Op.operands]) (by kernel_rfl)
            have f20 : a.tmps.getD 20 undef = .pointer (some ⟨w.heap.size, 0, none⟩) := e20
            have g20 : a.tmps[20]?.getD undef = .pointer (some ⟨w.heap.size, 0, none⟩) := by rw [← Array.getD_eq_getD_getElem?]; exact e20
            have hK := KC.out w2 hC
            refine op_val (.func (.func 38) #[] #[]) ?_ hC (Below.refl _ _) (by intro d hd; cases hd; rfl)
            (clear hV hI hC; go_simp <;> (first | rfl | simp | (rw [IntKind.wrap_i64]; omega)))
          case o22 =>
            intro Q a w2 hC hV hI
            have e1 : a.eval (.tmp 1) = .slice (some ⟨g, 0, none⟩) n cap := (hI 1 (by simp [Op.operands]) (by kernel_rfl)).trans rfl
            have f1 : a.tmps.getD 1 undef = .slice (some ⟨g, 0, none⟩) n cap := e1
            have g1 : a.tmps[1]?.getD undef = .slice (some ⟨g, 0, none⟩) n cap := by rw [← Array.getD_eq_getD_getElem?]; exact e1
            refine op_val (.slice (some ⟨g, 0, none⟩) n cap) ?_ hC (Below.refl _ _) (by intro d hd; cases hd; rfl)
            (clear hV hI hC; go_simp <;> (first | rfl | simp | (rw [IntKind.wrap_i64]; omega)))
          case o23 =>
            intro Q a w2 hC hV hI
            have e7 : a.eval (.tmp 7) = .int .i64 (i : Int) := (hI 7 (by simp [Op.operands]) (by kernel_rfl)).trans rfl
            have f7 : a.tmps.getD 7 undef = .int .i64 (i : Int) := e7
            have g7 : a.tmps[7]?.getD undef = .int .i64 (i : Int) := by rw [← Array.getD_eq_getD_getElem?]; exact e7
            refine op_val (.int .i64 (i : Int)) ?_ hC (Below.refl _ _) (by intro d hd; cases hd; rfl)
            (clear hV hI hC; go_simp <;> (first | rfl | simp | (rw [IntKind.wrap_i64]; omega)))
          case o24 =>
            intro Q a w2 hC hV hI
            have e22 : a.eval (.tmp 22) = .slice (some ⟨g, 0, none⟩) n cap := hV 22 (by simp [Op.operands]) (by kernel_rfl)
            have f22 : a.tmps.getD 22 undef = .slice (some ⟨g, 0, none⟩) n cap := e22
            have g22 : a.tmps[22]?.getD undef = .slice (some ⟨g, 0, none⟩) n cap := by rw [← Array.getD_eq_getD_getElem?]; exact e22
            have e23 : a.eval (.tmp 23) = .int .i64 (i : Int) := hV 23 (by simp [Op.operands]) (by kernel_rfl)
            have f23 : a.tmps.getD 23 undef = .int .i64 (i : Int) := e23
            have g23 : a.tmps[23]?.getD undef = .int .i64 (i : Int) := by rw [← Array.getD_eq_getD_getElem?]; exact e23
            refine op_val (.pointer (some ⟨g, i * 10, none⟩)) ?_ hC (Below.refl _ _) (by intro d hd; cases hd; rfl)
            (clear hV hI hC; go_simp <;> (first | rfl | simp | (rw [IntKind.wrap_i64]; omega)))
          case o25 =>
            intro Q a w2 hC hV hI
            have e24 : a.eval (.tmp 24) = .pointer (some ⟨g, i * 10, none⟩) := hV 24 (by simp [Op.operands]) (by kernel_rfl)
            have f24 : a.tmps.getD 24 undef = .pointer (some ⟨g, i * 10, none⟩) := e24
            have g24 : a.tmps[24]?.getD undef = .pointer (some ⟨g, i * 10, none⟩) := by rw [← Array.getD_eq_getD_getElem?]; exact e24
            have hK := KC.out w2 hC
            refine op_val (.agg #[.int .i64 k, .string p, .string l, .int .i64 m, .int .i64 u1, .int .i64 gi, .int .i64 t, .string us, .string gr, .string b]) ?_ hC (Below.refl _ _) (by intro d hd; cases hd; rfl)
            (clear hV hI hC; go_simp <;> (first | rfl | simp | (rw [IntKind.wrap_i64]; omega)))
          case o26 =>
            intro Q a w2 hC hV hI
            have e21 : a.eval (.tmp 21) = .func (.func 38) #[] #[] := hV 21 (by simp [Op.operands, Call.operands]) (by kernel_rfl)
            have f21 : a.tmps.getD 21 undef = .func (.func 38) #[] #[] := e21
            have g21 : a.tmps[21]?.getD undef = .func (.func 38) #[] #[] := by rw [← Array.getD_eq_getD_getElem?]; exact e21
            have e25 : a.eval (.tmp 25) = .agg #[.int .i64 k, .string p, .string l, .int .i64 m, .int .i64 u1, .int .i64 gi, .int .i64 t, .string us, .string gr, .string b] := hV 25 (by simp [Op.operands, Call.operands]) (by kernel_rfl)
            have f25 : a.tmps.getD 25 undef = .agg #[.int .i64 k, .string p, .string l, .int .i64 m, .int .i64 u1, .int .i64 gi, .int .i64 t, .string us, .string gr, .string b] := e25
            have g25 : a.tmps[25]?.getD undef = .agg #[.int .i64 k, .string p, .string l, .int .i64 m, .int .i64 u1, .int .i64 gi, .int .i64 t, .string us, .string gr, .string b] := by rw [← Array.getD_eq_getD_getElem?]; exact e25
            refine op_call (f := 38) (args := #[.agg #[.int .i64 k, .string p, .string l, .int .i64 m, .int .i64 u1, .int .i64 gi, .int .i64 t, .string us, .string gr, .string b]]) (R := fun v y => v = .bool fb ∧ Below w2.heap.size w2 y) ?_ ((HO.out w2).mono ?_) ?_
            · (clear hV hI hC; go_simp <;> (first | rfl | simp | (rw [IntKind.wrap_i64]; omega)))
            · rintro e y ⟨rfl, hb⟩; exact ⟨_, rfl, rfl, hb⟩
            · rintro v y ⟨rfl, hb⟩; exact ⟨hC.trans (hb.mono hC.size), hb, by intro d hd; cases hd; rfl⟩
          case o27 =>
            intro Q a w2 hC hV hI
            have e26 : a.eval (.tmp 26) = .bool fb := hV 26 (by simp [Op.operands]) (by kernel_rfl)
            have f26 : a.tmps.getD 26 undef = .bool fb := e26
            have g26 : a.tmps[26]?.getD undef = .bool fb := by rw [← Array.getD_eq_getD_getElem?]; exact e26
            refine op_val (.bool (!fb)) ?_ hC (Below.refl _ _) (by intro d hd; cases hd; rfl)
            (clear hV hI hC; go_simp <;> (first | rfl | simp | (rw [IntKind.wrap_i64]; omega)))
        case hend =>
          intro f w4 hC hall
          simp only [List.forall_mem_cons] at hall
          obtain ⟨h20, h21, h22, h23, h24, h25, h26, h27, -⟩ := hall
          replace h20 : f 20 = .pointer (some ⟨w.heap.size, 0, none⟩) := h20 20 rfl
          replace h21 : f 21 = .func (.func 38) #[] #[] := h21 21 rfl
          replace h22 : f 22 = .slice (some ⟨g, 0, none⟩) n cap := h22 22 rfl
          replace h23 : f 23 = .int .i64 (i : Int) := h23 23 rfl
          replace h24 : f 24 = .pointer (some ⟨g, i * 10, none⟩) := h24 24 rfl
          replace h25 : f 25 = .agg #[.int .i64 k, .string p, .string l, .int .i64 m, .int .i64 u1, .int .i64 gi, .int .i64 t, .string us, .string gr, .string b] := h25 25 rfl
          replace h26 : f 26 = .bool fb := h26 26 rfl
          replace h27 : f 27 = .bool (!fb) := h27 27 rfl
          simp only [putAll, Act.put, List.setIfInBounds_toArray, List.set_cons_succ, List.set_cons_zero, h20, h21, h22, h23, h24, h25, h26, h27]
          clear h20 h21 h22 h23 h24 h25 h26 h27
          clear KC HO HNB C10
          replace O := Lib.hid (ownB_belowW O.out hC)
          replace OC := Lib.hid (OC.out.keep hC)
          replace XC := Lib.hid (XC.out.below hC zx)
          replace BF := Lib.hid ((hC.block _ zb3).trans BF.out)
          replace B := Lib.hid (btE B.out hC)
          clear hC zb3 hs3 zx zgx zbf hbx
          cases fb with
          | false =>
            have HF := Lib.hid (HB2.out rfl)
            simp only [Bool.not_false]
            clear HSt HFn HPut HLast HY hle hcl hqs hszB HFt
            go_wp2_with fail
            go_ret2
            exact ⟨by rw [HF.out.1, HF.out.2]; rfl, B.out⟩
          | true =>
            have HFi := Lib.hid (HFn.out rfl)
            obtain ⟨d0, d1, d2, d3, d4, d5, d6, d7⟩ := XC.out.at.zero
            have HP := Lib.hid (fun w' hb => HPut.out q0 q1 q2 q3 q4 q5 qp qd w' hb (by omega) (by omega))
            generalize binTextv ⟨q0, q1, q2, q3, q4, q5, qp, qd⟩ crc = x at HP HSt hcl
            obtain ⟨T, hT⟩ : ∃ T, bwT crc Q i = T := ⟨_, rfl⟩
            rw [hT] at HSt hle O
            clear hT HB2 HFn HPut
            have p1 : w4.cell? ⟨w.heap.size, 1, none⟩ = some (.func (.func 39) #[] #[.pointer (some ⟨gk, 0, none⟩)]) := by simp [World.cell?, BF.out]
            have hsz4 := B.out.size
            have KL := Lib.hid (show T.size ≤ 4194511 * i from hle)
            have KC := Lib.hid hcl
            have KS := Lib.hid hqs
            simp only [Bool.not_true]
            clear HLast HY hle hcl hqs hszB HFt hsz4
            go_wp2_with fail
            refine (HP.out _ B.out).mono ?_
            rintro e w5 ⟨rfl, hb⟩
            replace O := Lib.hid (ownB_belowW O.out hb)
            replace OC := Lib.hid (OC.out.keep hb)
            replace BF := Lib.hid ((hb.block _ (Array.getElem?_eq_some_iff.1 BF.out).1).trans BF.out)
            replace B := Lib.hid (btE B.out hb)
            clear hb d0 d1 d2 d3 d4 d5 d6 d7 HP XC p1
            have zl : T.data.toList.length = T.size := Array.length_toList
            have hsz4 := B.out.size
            go_wp2_with (at_builtin; refine Lib.wpList_append_own_string _ rfl _ _ 66 9 rfl w.heap.size 5 i0 Tryz.underlying66 Tryz.underlying9 hi0 hz0 hz1 hz2 _ _ _ rfl O.out x rfl ?pp ?pq ?pr ?_)
            case pp => have hle := KL.out; have hcl := KC.out; have hqs := KS.out; simp only [maxLen]; omega
            case pq => have hle := KL.out; have hcl := KC.out; have hqs := KS.out; omega
            case pr => omega
            intro v9 w9 hown hgrow hnil
            have O9 : OwnB w9 w.heap.size v9 (T.data.toList ++ x.data.toList) := textW (by have hle := KL.out; have hcl := KC.out; have hqs := KS.out; simp <;> omega) hown
            rw [show T.data.toList ++ x.data.toList = (T ++ x).data.toList from by simp] at O9
            have O10 := Lib.hid O9
            have C9 := Lib.hid (OC.out.kept hgrow (rowB_neW OC.out O.out))
            have F9 := Lib.hid ((hgrow.block _ (Array.getElem?_eq_some_iff.1 BF.out).1 (own_neW O.out BF.out (by decide))).trans BF.out)
            have B9 : Hid (Below w.heap.size w w9) := Lib.hid (B.out.grown hgrow (by omega) (fun b hb => (World.ownsRow.lt O.out b hb).1))
            clear hown hgrow hnil O9 O OC BF B
            go_wp2_with fail
            go_roundw
            case rel => exact ⟨i + 1, by go_num, by omega, HFi.out, by rw [HSt.out]; exact O10.out, C9.out, F9.out, B9.out⟩
            case measure => simp [intOf]; omega
      · obtain rfl : i = n := by omega
        have hlt2 : ¬ (i : Int) < (Q.length : Int) := by omega
        have HF := Lib.hid (HY.out HFt.out)
        have hll := HLast.out
        obtain ⟨x, hx⟩ : ∃ x, binTextv lastC crc = x := ⟨_, rfl⟩
        have HP := Lib.hid (fun w' hb => HPut.out 0 0 0 0 1 0 ⟨#[84, 82, 65, 73, 76, 69, 82, 33, 33, 33]⟩ ⟨#[]⟩ w' hb (by decide) (by decide))
        rw [show (binTextv ⟨0, 0, 0, 0, 1, 0, ⟨#[84, 82, 65, 73, 76, 69, 82, 33, 33, 33]⟩, ⟨#[]⟩⟩ crc) = x from hx] at HP
        rw [hx] at HF hll
        have hp1 : lastC.Path.size = 10 := rfl
        have hp2 : lastC.Data.size = 0 := rfl
        have hll2 : x.size ≤ 1000 := by omega
        obtain ⟨T, hT⟩ : ∃ T, bwT crc Q i = T := ⟨_, rfl⟩
        rw [hT] at HF hle O
        clear hT hx hll HY hp1 hp2 HPut
        have zl : T.data.toList.length = T.size := Array.length_toList
        have p1 : wr.cell? ⟨w.heap.size, 1, none⟩ = some (.func (.func 39) #[] #[.pointer (some ⟨gk, 0, none⟩)]) := by simp [World.cell?, BF.out]
        go_wp2_with fail
        refine (HP.out _ B.out).mono ?_
        rintro e w4 ⟨rfl, hb⟩
        replace O := Lib.hid (ownB_belowW O.out hb)
        replace B := Lib.hid (btE B.out hb)
        clear hb HP p1
        have hsz4 := B.out.size
        go_wp2_with (at_builtin; refine Lib.wpList_append_own_string _ rfl _ _ 66 9 rfl w.heap.size 5 i0 Tryz.underlying66 Tryz.underlying9 hi0 hz0 hz1 hz2 _ _ _ rfl O.out x rfl ?pp2 ?pq2 ?pr2 ?_)
        case pp2 => simp only [maxLen]; omega
        case pq2 => omega
        case pr2 => omega
        intro v9 w9 hown hgrow hnil
        have O9 : OwnB w9 w.heap.size v9 (T.data.toList ++ x.data.toList) := textW (by simp <;> omega) hown
        have hc := O9.conv
        rw [ba_appW] at hc
        have B9 : Hid (Below w.heap.size w w9) := Lib.hid (B.out.grown hgrow (by omega) (fun b hb => (World.ownsRow.lt O.out b hb).1))
        clear hown hgrow hnil O9 O B
        go_wp2_with fail
        go_ret2
        exact ⟨by rw [HF.out.1, HF.out.2]; rfl, B9.out⟩
end Go.Proofs.YtancidbbkoeokaaGreat

/- A statement that draws its order and writes memory: beside what each slot holds, what each operation has left in memory. Nothing of the program is said here. -/
namespace Go.Proofs.YtancidbbkoeokaaGreat
open Go

section
variable {P : Program} {ops : Array Oper} {Q : Exit → Act → World → Prop} {md : Region.Mode}

/-- What has come up has left what it should, all else is as it was. -/
structure RegIU (md : Region.Mode) (ops : Array Oper) (C : World → Prop) (V : Nat → Value → World → Prop) (U : Oper → World → Prop) (a0 : Act) (listed : Array Bool) (a : Act) (w : World) : Prop where
  size : listed.size = ops.size
  clo : ∀ j p, ops[j]? = some p → listed.getD j false = true → ∀ e ∈ p.after, Region.binds md e = true → listed.getD e.on false = true
  cls : C w
  defers : a.defers = a0.defers
  tsize : a.tmps.size = a0.tmps.size
  old : ∀ t, (∀ i o, ops[i]? = some o → listed.getD i false = true → o.dst ≠ some t) → a.tmps.getD t undef = a0.tmps.getD t undef
  unew : ∀ i o, ops[i]? = some o → listed.getD i false = true → U o w
  new : ∀ i o d, ops[i]? = some o → listed.getD i false = true → o.dst = some d → V d (a.tmps.getD d undef) w
/-- One operation, in whatever state what it looks at is there. -/
def OpOkU (P : Program) (ops : Array Oper) (C : World → Prop) (St : World → World → Prop) (V : Nat → Value → World → Prop) (U : Oper → World → Prop) (a0 : Act) (o : Oper) : Prop :=
  ∀ (Q : Exit → Act → World → Prop) (a : Act) (w : World), C w → (∀ t, Operand.tmp t ∈ o.op.operands → oldB .any ops o t = false → V t (a.eval (.tmp t)) w) → (∀ t, Operand.tmp t ∈ o.op.operands → oldB .any ops o t = true → a.eval (.tmp t) = a0.eval (.tmp t)) →
    o.wp P a w (fun a' w' => ∃ v, a' = a.put o.dst v ∧ C w' ∧ St w w' ∧ (∀ d, o.dst = some d → V d v w') ∧ U o w') Q
/-- **The region, in whatever order.** -/
theorem wp_region_u {id : Nat} {a0 : Act} {w0 : World} {l : List Oper} (hm : P.follows .mixedOrders = true) (C : World → Prop) (St : World → World → Prop) (V : Nat → Value → World → Prop) (U : Oper → World → Prop) (hB : regB .any l.toArray a0.tmps.size = true)
    (hC : C { w0 with drawn := w0.drawn + 1 }) (hV : ∀ d v w w', C w → St w w' → V d v w → V d v w') (hU : ∀ o w w', C w → St w w' → U o w → U o w') (hops : ∀ o ∈ l, OpOkU P l.toArray C St V U a0 o)
    (hend : ∀ (f : Nat → Value) (w : World), C w → (∀ o ∈ l, ∀ d, o.dst = some d → V d (f d) w) → (∀ o ∈ l, U o w) → Q .normal (putAll f l a0) w) : (Code.region id l.toArray true).wp P Q a0 w0 := by
  refine wp_region_any hm (wpAny_inv (RegIU .any l.toArray C V U a0) ?_ ?_ _ _ _ _ ?_ ?_)
  · intro listed a w hI i hi
    obtain ⟨hun, o, ho, hall⟩ := mem_ready.1 hi
    have hat := regB_at hB ho
    have hwant : Region.wanted o (yielded l.toArray a.tmps) = true := by simp [Region.wanted, hat.1]
    have hmem : o ∈ l := by
      have := Array.mem_of_getElem? ho
      simpa using this
    have hrun := hops o hmem Q a w hI.cls (fun t ht hin => ?_) (fun t ht hin => ?_)
    · unfold wpOp
      simp only [ho, hwant, if_true]
      refine .inl (Oper.wp_mono (fun a' w' h' => ?_) hrun)
      obtain ⟨v, rfl, hC', hSt, hv, hu⟩ := h'
      have hltl : i < listed.size := by rw [hI.size]; exact (Array.getElem?_eq_some_iff.1 ho).1
      refine ⟨by simpa using hI.size, fun j p hp hl e he hb => ?_, hC', ?_, ?_, fun t ht => ?_, fun j p hp hl => ?_, fun j p d hp hl hd => ?_⟩
      · have hup : ∀ k, listed.getD k false = true → (listed.setIfInBounds i true).getD k false = true := fun k hk => by
          by_cases q : k = i
          · subst q; exact set_getD_self hltl
          · rw [set_getD_ne q]; exact hk
        by_cases hj : j = i
        · subst hj
          rw [ho] at hp
          obtain rfl := Option.some.inj hp
          exact hup _ (hall e he hb)
        · rw [set_getD_ne hj] at hl
          exact hup _ (hI.clo j p hp hl e he hb)
      · cases hdst : o.dst <;> simp [Act.put, hI.defers]
      · cases hdst : o.dst <;> simp [Act.put, hI.tsize]
      · have hne : o.dst ≠ some t := ht i o ho (set_getD_self hltl)
        have h1 := hI.old t (fun j p hp hl => ht j p hp (by
          by_cases hj : j = i
          · subst hj; exact set_getD_self hltl
          · rw [set_getD_ne hj]; exact hl))
        rw [← h1]
        cases hdst : o.dst with
        | none => rfl
        | some d =>
          have hdt : d ≠ t := fun e => hne (by rw [hdst, e])
          exact getD_put_ne hdt
      · by_cases hj : j = i
        · subst hj
          rw [ho] at hp
          obtain rfl := Option.some.inj hp
          exact hu
        · have hl' : listed.getD j false = true := by rw [set_getD_ne hj] at hl; exact hl
          exact hU p _ _ hI.cls hSt (hI.unew j p hp hl')
      · by_cases hj : j = i
        · subst hj
          rw [ho] at hp
          obtain rfl := Option.some.inj hp
          have hdl := hat.2.1 d hd
          have : (a.put o.dst v).tmps.getD d undef = v := by
            rw [hd]; simp [Act.put, Array.getD, hI.tsize, hdl]
          rw [this]
          exact hv d hd
        · have hl' : listed.getD j false = true := by rw [set_getD_ne hj] at hl; exact hl
          have hne : o.dst ≠ some d := ((hat.2.2.2 j p d hp hd).1).resolve_left (Ne.symm hj)
          have hold := hI.new j p d hp hl' hd
          have : (a.put o.dst v).tmps.getD d undef = a.tmps.getD d undef := by
            cases hdst : o.dst with
            | none => rfl
            | some d' =>
              have hdt : d' ≠ d := fun e => hne (by rw [hdst, e])
              exact getD_put_ne hdt
          rw [this]
          exact hV d _ _ _ hI.cls hSt hold
    · obtain ⟨j, p, hp, hd⟩ := oldB_f hin
      obtain ⟨e, he, hb, rfl⟩ := (hat.2.2.2 j p t hp hd).2 (by simpa using ht) hin
      exact hI.new e.on p t hp (hall e he hb) hd
    · refine hI.old t (fun j p hp hl hd => ?_)
      obtain ⟨d, hod, e, he, hb, hq⟩ := oldB_t hin hp hd
      have hel := hI.clo j p hp hl e he hb
      cases hqq : l.toArray[e.on]? with
      | none => rw [hqq] at hq; cases hq
      | some q =>
        rw [hqq] at hq
        rcases (hat.2.2.2 e.on q d hqq hq).1 with rfl | h
        · have hlt : e.on < listed.size := by rw [hI.size]; exact (Array.getElem?_eq_some_iff.1 hqq).1
          simp only [Array.getD, hlt, dif_pos] at hel hun
          rw [hel] at hun
          cases hun
        · exact h hod
  · intro listed a w hI hr
    have hal := all_listed hB hI.size hr
    have hput := putAll_facts (fun d => a.tmps.getD d undef) l a0
    have ha : a = putAll (fun d => a.tmps.getD d undef) l a0 := by
      refine act_ext (hI.defers.trans hput.1.symm) (hI.tsize.trans hput.2.1.symm) (fun t ht => ?_)
      rw [hput.2.1] at ht
      rw [hput.2.2 t ht]
      by_cases h : l.any (fun o => o.dst == some t) = true
      · rw [if_pos h]
      · rw [if_neg h]
        refine hI.old t (fun i o ho _ hd => h ?_)
        rw [List.any_eq_true]
        exact ⟨o, by have := Array.mem_of_getElem? ho; simpa using this, by rw [hd]; simp⟩
    rw [ha]
    refine hend _ w hI.cls (fun o ho d hd => ?_) (fun o ho => ?_)
    rotate_left
    · obtain ⟨i, hi⟩ := List.mem_iff_getElem?.1 ho
      have hi' : l.toArray[i]? = some o := by simpa using hi
      exact hI.unew i o hi' (hal i (Array.getElem?_eq_some_iff.1 hi').1)
    obtain ⟨i, hi⟩ := List.mem_iff_getElem?.1 ho
    have hi' : l.toArray[i]? = some o := by simpa using hi
    exact hI.new i o d hi' (hal i (Array.getElem?_eq_some_iff.1 hi').1) hd
  · unfold openOps
    exact Nat.le_trans (List.length_filter_le _ _) (by simp)
  · refine ⟨by simp, fun j p _ hl => ?_, hC, rfl, rfl, fun t _ => rfl, fun i o ho hl => ?_, fun i o d ho hl _ => ?_⟩
    · simp [Array.getD] at hl
    · simp [Array.getD] at hl
    · simp [Array.getD] at hl
theorem opU_val {C : World → Prop} {St : World → World → Prop} {V : Nat → Value → World → Prop} {U : Oper → World → Prop} {o : Oper} {a : Act} {w w' : World} (v : Value) (h : (execOp a.eval o).run P w = .ok (.value v) w') (hC : C w') (hS : St w w') (hv : ∀ d, o.dst = some d → V d v w') (hu : U o w') :
    o.wp P a w (fun a' w' => ∃ v, a' = a.put o.dst v ∧ C w' ∧ St w w' ∧ (∀ d, o.dst = some d → V d v w') ∧ U o w') Q := by
  unfold Oper.wp
  rw [h]
  exact ⟨v, rfl, hC, hS, hv, hu⟩
theorem opU_call {C : World → Prop} {St : World → World → Prop} {V : Nat → Value → World → Prop} {U : Oper → World → Prop} {o : Oper} {a : Act} {w : World} {f : FuncId} {args : Array Value} {R : Value → World → Prop} (h : (execOp a.eval o).run P w = .ok (.enter f args) w)
    (hc : Calls P f args w fun e w' => ∃ v, e = .returned v ∧ R v w') (hR : ∀ v w', R v w' → C w' ∧ St w w' ∧ (∀ d, o.dst = some d → V d v w') ∧ U o w') :
    o.wp P a w (fun a' w' => ∃ v, a' = a.put o.dst v ∧ C w' ∧ St w w' ∧ (∀ d, o.dst = some d → V d v w') ∧ U o w') Q := by
  unfold Oper.wp
  rw [h]
  refine Calls.mono hc (fun e w' he => ?_)
  obtain ⟨v, rfl, hr⟩ := he
  obtain ⟨h1, h2, h3, h4⟩ := hR v w' hr
  exact ⟨v, rfl, h1, h2, h3, h4⟩
theorem opU_store {C : World → Prop} {St : World → World → Prop} {V : Nat → Value → World → Prop} {U : Oper → World → Prop} {o : Oper} {a : Act} {w w' : World} (ty : TypeId) (x y : Operand) (ho : o.op = .store ty x y) (hd : o.dst = none) (g : Addr) (hx : a.eval x = .pointer (some g)) {v : Value} (hy : a.eval y = v) (hr : (storeVar ty g v).run P w = .ok () w') (hC : C w') (hS : St w w') (hu : U o w') :
    o.wp P a w (fun a' w' => ∃ v, a' = a.put o.dst v ∧ C w' ∧ St w w' ∧ (∀ d, o.dst = some d → V d v w') ∧ U o w') Q := by
  unfold Oper.wp execOp
  simp only [ho, hx, hy, Instr.storeAt, Instr.sureAddr, Sem.run_bind, Sem.run_pure, Result.andThen_ok, hr]
  exact ⟨undef, rfl, hC, hS, fun d h => (by rw [hd] at h; cases h), hu⟩
end
end Go.Proofs.YtancidbbkoeokaaGreat

/- The writer of a card's head: its methods. -/
namespace Go.Proofs.YtancidbbkoeokaaGreat
open Go.ChangeShapes Go.WideShapes Go.ChangeAt Go.RowKit Go.Deep

/-- The writer in a block of its own: the order of bytes, what is written, whether a number had no room. -/
def WrO (w : World) (g : Nat) (hi : Bool) (l : List UInt8) (rf : Bool) : Prop := ∃ v, w.heap[g]? = some (.cells #[.bool hi, v, .bool rf] 85 (0, 0)) ∧ OwnB w g v l
theorem heap_setW {w : World} {g i : Nat} {cs : Array Value} {t : TypeId} {v : Value} (h : w.heap[g]? = some (.cells cs t (0, 0))) : (w.setCell ⟨g, i, none⟩ v).heap[g]? = some (.cells (cs.setIfInBounds i v) t (0, 0)) := by
  have hlt : g < w.heap.size := (Array.getElem?_eq_some_iff.1 h).1
  have hg : w.heap[g] = .cells cs t (0, 0) := (Array.getElem?_eq_some_iff.1 h).2
  simp [World.setCell, hlt, Array.getElem_modify, hg]
theorem own_neB {w : World} {base : Nat} {e t : TypeId} {v : Value} {n g : Nat} {xs : List Value} {cs : Array Value} {fr : Nat × Nat} (h : w.ownsRow base e 1 v n xs) (hg : w.heap[g]? = some (.cells cs t fr)) (ht : ¬ t = e) : some g ≠ v.ownBlock := by
  intro e1
  rcases h.2 with ⟨h0, _⟩ | ⟨g', cap', cur, hv, hg', hh, _⟩
  · subst h0; simp [Value.ownBlock] at e1
  · subst hv
    simp [Value.ownBlock] at e1
    subst e1
    rw [hg] at hh
    simp at hh
    exact ht hh.2.1
/-- A store into another block keeps a row. -/
theorem own_setB {w : World} {base : Nat} {v : Value} {l : List UInt8} {g i : Nat} {u : Value} (h : OwnB w base v l) (hne : some g ≠ v.ownBlock) : OwnB (w.setCell ⟨g, i, none⟩ u) base v l :=
  World.ownsRow.kept h (row := some g) ⟨rfl, rfl, rfl, by simp, fun k hk hn => Below.heap_setCell w _ u k (fun e => hn (by rw [e]))⟩ (by
    cases hv : v.ownBlock with
    | none => exact .inl rfl
    | some b => exact .inr (fun e => hne (by rw [hv, ← e])))
theorem textB {w : World} {base n : Nat} {v : Value} {l : List UInt8} {s : ByteArray} (hn : n = l.length + s.size) (h : w.ownsRow base 5 1 v n (byteVals l ++ Lib.strCells s)) : OwnB w base v (l ++ s.data.toList) := by
  subst hn
  have e : byteVals l ++ Lib.strCells s = byteVals (l ++ s.data.toList) := by simp [byteVals, Lib.strCells]
  rw [e, show l.length + s.size = (l ++ s.data.toList).length from by simp] at h
  exact h
def outB (n most : Int) : Bool := decide (n < 0) || decide (most < n)
theorem outB_r16 (n : Int) : outB n 65535 = !r16 n := by unfold outB r16; by_cases h1 : n < 0 <;> by_cases h2 : (65535 : Int) < n <;> simp [h1, h2] <;> omega
theorem outB_r32 (n : Int) : outB n 4294967295 = !r32 n := by unfold outB r32; by_cases h1 : n < 0 <;> by_cases h2 : (4294967295 : Int) < n <;> simp [h1, h2] <;> omega
set_option maxHeartbeats 1600000 in
set_option maxRecDepth 8000 in
theorem add_any (g : Nat) (hi : Bool) (l : List UInt8) (rf : Bool) (n most : Int) (s : ByteArray) (w : World) (h : WrO w g hi l rf) (hl : l.length ≤ 1000) (hs : s.size ≤ 8) :
    Calls Tryz.prog 139 #[.pointer (some ⟨g, 0, none⟩), .int .i64 n, .int .i64 most, .string s] w fun e w' => e = .returned (.tuple #[]) ∧ WrO w' g hi (l ++ s.data.toList) (rf || outB n most) ∧ Below g w w' := by
  obtain ⟨i0, hi0, hz0, hz1, hz2⟩ := info_parts Tryz.info5
  obtain ⟨v, hg, ho⟩ := h
  have HG := Lib.hid hg
  have O := Lib.hid ho
  have hne := own_neB ho hg (by decide)
  have hlt := (Array.getElem?_eq_some_iff.1 hg).1
  have c1 : w.cell? ⟨g, 1, none⟩ = some v := by simp [World.cell?, hg]
  have c2 : w.cell? ⟨g, 2, none⟩ = some (.bool rf) := by simp [World.cell?, hg]
  have f2 : w.frozen? ⟨g, 2, none⟩ = false := by simp [World.frozen?, hg]
  obtain ⟨rf2, hrf⟩ : ∃ b, b = (rf || outB n most) := ⟨_, rfl⟩
  have HR := Lib.hid hrf
  rw [← hrf]
  have hG2 := heap_setW (i := 2) (v := .bool rf2) hg
  simp only [List.setIfInBounds_toArray, List.set_cons_succ, List.set_cons_zero] at hG2
  have HG2 := Lib.hid hG2
  have O2 := Lib.hid (own_setB (i := 2) (u := .bool rf2) ho hne)
  have B2 : Hid (Below g w (w.setCell ⟨g, 2, none⟩ (.bool rf2))) := Lib.hid ((Below.refl g w).setCell (Nat.le_refl _) _)
  have hsz2 : (w.setCell ⟨g, 2, none⟩ (.bool rf2)).heap.size = w.heap.size := by simp
  have HNe := Lib.hid hne
  unfold outB at hrf
  clear hg ho hne hG2
  rcases (show (rf = true ∧ rf2 = true) ∨ (rf = false ∧ n < 0 ∧ rf2 = true) ∨ (rf = false ∧ ¬ n < 0 ∧ most < n ∧ rf2 = true) ∨ (rf = false ∧ ¬ n < 0 ∧ ¬ most < n ∧ rf2 = false) from by rw [hrf]; clear hrf HR HG2 O2 B2 hsz2 c2; cases rf <;> by_cases h2 : n < 0 <;> by_cases h3 : most < n <;> simp [h2, h3]) with ⟨rfl, rfl⟩ | ⟨rfl, h2, rfl⟩ | ⟨rfl, h2, h3, rfl⟩ | ⟨rfl, h2, h3, rfl⟩
  all_goals
    clear hrf HR
    go_enter Tryz.func139, Tryz.ntmps139
    go_upto_region 1 with fail
    clear c1 c2 f2
    generalize World.setCell w _ _ = w2 at HG2 O2 B2 hsz2 ⊢
    have c1 : w2.cell? ⟨g, 1, none⟩ = some v := by simp [World.cell?, HG2.out]
    go_wp2_with (at_builtin; refine Lib.wpList_append_own_string _ rfl _ _ 66 9 rfl g 5 i0 Tryz.underlying66 Tryz.underlying9 hi0 hz0 hz1 hz2 _ _ _ rfl O2.out s rfl ?pp ?pq ?pr ?_)
    case pp => simp only [maxLen]; omega
    case pq => omega
    case pr => omega
    intro v9 w9 hown hgrow hnil
    obtain ⟨ao, nn, cc, rfl⟩ : ∃ ao nn cc, v9 = .slice ao nn cc := by
      rcases hown.2 with ⟨h9, _⟩ | ⟨_, _, _, h9, _⟩
      · exact ⟨_, _, _, h9⟩
      · exact ⟨_, _, _, h9⟩
    have O9 : Hid (OwnB w9 g (.slice ao nn cc) (l ++ s.data.toList)) := Lib.hid (textB rfl hown)
    have G9 : Hid (w9.heap[g]? = some (.cells #[.bool hi, v, .bool _] 85 (0, 0))) := Lib.hid ((hgrow.block g (by omega) HNe.out).trans HG2.out)
    have B9 : Hid (Below g w w9) := Lib.hid (B2.out.grown hgrow (by omega) (fun b hb => (World.ownsRow.lt O2.out b hb).1))
    have hne9 := own_neB hown G9.out (by decide)
    clear hown hgrow hnil c1
    have c1 : w9.cell? ⟨g, 1, none⟩ = some v := by simp [World.cell?, G9.out]
    have f1 : w9.frozen? ⟨g, 1, none⟩ = false := by simp [World.frozen?, G9.out]
    go_wp2_with fail
    refine bodyPost_end (results_none rfl _ _ _) rfl ?_
    have hg9 := heap_setW (i := 1) (v := .slice ao nn cc) G9.out
    simp only [List.setIfInBounds_toArray, List.set_cons_succ, List.set_cons_zero] at hg9
    refine ⟨rfl, ⟨.slice ao nn cc, hg9, own_setB O9.out hne9⟩, B9.out.setCell (Nat.le_refl _) _⟩
-- WRITER
set_option maxHeartbeats 1600000 in
set_option maxRecDepth 8000 in
theorem short_w (g gh i : Nat) (hi : Bool) (l : List UInt8) (rf : Bool) (x : Int) (w : World) (h : WrO w g hi l rf) (hl : l.length ≤ 1000) (hx : w.cell? ⟨gh, i, none⟩ = some (.int .i64 x)) :
    Calls Tryz.prog 138 #[.pointer (some ⟨g, 0, none⟩), .pointer (some ⟨gh, i, none⟩)] w fun e w' => e = .returned (.tuple #[]) ∧ WrO w' g hi (l ++ (put16v x hi).data.toList) (rf || !r16 x) ∧ Below g w w' := by
  have HP := Lib.hid (fun w => put16_impl x hi w)
  have hz : (put16v x hi).size ≤ 8 := by rw [put16_size]; decide
  have HA := Lib.hid (fun w h => add_any g hi l rf x 65535 (put16v x hi) w h hl hz)
  rw [outB_r16] at HA
  generalize put16v x hi = q at HP HA
  clear hz
  obtain ⟨v, hg, ho⟩ := h
  have hlt := (Array.getElem?_eq_some_iff.1 hg).1
  have hgl : gh < w.heap.size := by
    cases h9 : w.heap[gh]? with
    | none => simp [World.cell?, h9] at hx
    | some o => exact (Array.getElem?_eq_some_iff.1 h9).1
  have k0 : w.cell? ⟨g, 0, none⟩ = some (.bool hi) := by simp [World.cell?, hg]
  have KC : Hid (∀ w', Below w.heap.size w w' → w'.cell? ⟨gh, i, none⟩ = some (.int .i64 x) ∧ w'.cell? ⟨g, 0, none⟩ = some (.bool hi)) := Lib.hid (fun w' hb => ⟨(hb.cell (p := ⟨gh, i, none⟩) hgl).trans hx, (hb.cell (p := ⟨g, 0, none⟩) hlt).trans k0⟩)
  have HW : Hid (∀ w', Below w.heap.size w w' → WrO w' g hi l rf) := Lib.hid (fun w' hb => ⟨v, (hb.block g hlt).trans hg, World.ownsRow.kept ho (row := none) ⟨hb.os, hb.tape, hb.output, hb.size, fun k hk _ => hb.block k hk⟩ (by cases hv : v.ownBlock <;> simp)⟩)
  clear k0 hx hg ho
  go_enter Tryz.func138, Tryz.ntmps138
  refine wp_region_cut 12 (by kernel_rfl) (fun w' => Below w.heap.size w w') (fun x y => Below x.heap.size x y) (fun dq vq _ => match dq with | 4 => vq = .pointer (some ⟨g, 0, none⟩) | 5 => vq = .pointer (some ⟨gh, i, none⟩) | 6 => vq = .pointer (some ⟨gh, i, none⟩) | 7 => vq = .int .i64 x | 8 => vq = .pointer (some ⟨gh, i, none⟩) | 9 => vq = .pointer (some ⟨gh, i, none⟩) | 10 => vq = .int .i64 x | 11 => vq = .pointer (some ⟨g, 0, none⟩) | 12 => vq = .pointer (some ⟨g, 0, none⟩) | 13 => vq = .pointer (some ⟨g, 0, none⟩) | 14 => vq = .bool hi | 15 => vq = .string q | _ => True) (by kernel_rfl) (by kernel_rfl) ((Below.refl _ _).drew) (fun _ _ _ _ _ _ h => h) (by simp) ?hops ?hend
  case hops =>
    simp only [List.take_succ_cons, List.take_zero, List.forall_mem_cons]
    refine ⟨?o4, ?o5, ?o6, ?o7, ?o8, ?o9, ?o10, ?o11, ?o12, ?o13, ?o14, ?o15, fun _ h => by cases h⟩
    case o4 =>
      intro Q a w2 hC hV hI
      have e0 : a.eval (.tmp 0) = .pointer (some ⟨g, 0, none⟩) := (hI 0 (by simp [Op.operands]) (by kernel_rfl)).trans rfl
      have f0 : a.tmps.getD 0 undef = .pointer (some ⟨g, 0, none⟩) := e0
      have g0 : a.tmps[0]?.getD undef = .pointer (some ⟨g, 0, none⟩) := by rw [← Array.getD_eq_getD_getElem?]; exact e0
      refine op_val (.pointer (some ⟨g, 0, none⟩)) ?_ hC (Below.refl _ _) (by intro d hd; cases hd; rfl)
      (clear hV hI hC; go_simp <;> (first | rfl | simp | (rw [IntKind.wrap_i64]; omega)))
    case o5 =>
      intro Q a w2 hC hV hI
      have e1 : a.eval (.tmp 1) = .pointer (some ⟨gh, i, none⟩) := (hI 1 (by simp [Op.operands]) (by kernel_rfl)).trans rfl
      have f1 : a.tmps.getD 1 undef = .pointer (some ⟨gh, i, none⟩) := e1
      have g1 : a.tmps[1]?.getD undef = .pointer (some ⟨gh, i, none⟩) := by rw [← Array.getD_eq_getD_getElem?]; exact e1
      refine op_val (.pointer (some ⟨gh, i, none⟩)) ?_ hC (Below.refl _ _) (by intro d hd; cases hd; rfl)
      (clear hV hI hC; go_simp <;> (first | rfl | simp | (rw [IntKind.wrap_i64]; omega)))
    case o6 =>
      intro Q a w2 hC hV hI
      have e5 : a.eval (.tmp 5) = .pointer (some ⟨gh, i, none⟩) := hV 5 (by simp [Op.operands]) (by kernel_rfl)
      have f5 : a.tmps.getD 5 undef = .pointer (some ⟨gh, i, none⟩) := e5
      have g5 : a.tmps[5]?.getD undef = .pointer (some ⟨gh, i, none⟩) := by rw [← Array.getD_eq_getD_getElem?]; exact e5
      refine op_val (.pointer (some ⟨gh, i, none⟩)) ?_ hC (Below.refl _ _) (by intro d hd; cases hd; rfl)
      (clear hV hI hC; go_simp <;> (first | rfl | simp | (rw [IntKind.wrap_i64]; omega)))
    case o7 =>
      intro Q a w2 hC hV hI
      have e6 : a.eval (.tmp 6) = .pointer (some ⟨gh, i, none⟩) := hV 6 (by simp [Op.operands]) (by kernel_rfl)
      have f6 : a.tmps.getD 6 undef = .pointer (some ⟨gh, i, none⟩) := e6
      have g6 : a.tmps[6]?.getD undef = .pointer (some ⟨gh, i, none⟩) := by rw [← Array.getD_eq_getD_getElem?]; exact e6
      have hK := KC.out w2 hC
      refine op_val (.int .i64 x) ?_ hC (Below.refl _ _) (by intro d hd; cases hd; rfl)
      (clear hV hI hC; go_simp <;> (first | rfl | simp | (rw [IntKind.wrap_i64]; omega)))
    case o8 =>
      intro Q a w2 hC hV hI
      have e1 : a.eval (.tmp 1) = .pointer (some ⟨gh, i, none⟩) := (hI 1 (by simp [Op.operands]) (by kernel_rfl)).trans rfl
      have f1 : a.tmps.getD 1 undef = .pointer (some ⟨gh, i, none⟩) := e1
      have g1 : a.tmps[1]?.getD undef = .pointer (some ⟨gh, i, none⟩) := by rw [← Array.getD_eq_getD_getElem?]; exact e1
      refine op_val (.pointer (some ⟨gh, i, none⟩)) ?_ hC (Below.refl _ _) (by intro d hd; cases hd; rfl)
      (clear hV hI hC; go_simp <;> (first | rfl | simp | (rw [IntKind.wrap_i64]; omega)))
    case o9 =>
      intro Q a w2 hC hV hI
      have e8 : a.eval (.tmp 8) = .pointer (some ⟨gh, i, none⟩) := hV 8 (by simp [Op.operands]) (by kernel_rfl)
      have f8 : a.tmps.getD 8 undef = .pointer (some ⟨gh, i, none⟩) := e8
      have g8 : a.tmps[8]?.getD undef = .pointer (some ⟨gh, i, none⟩) := by rw [← Array.getD_eq_getD_getElem?]; exact e8
      refine op_val (.pointer (some ⟨gh, i, none⟩)) ?_ hC (Below.refl _ _) (by intro d hd; cases hd; rfl)
      (clear hV hI hC; go_simp <;> (first | rfl | simp | (rw [IntKind.wrap_i64]; omega)))
    case o10 =>
      intro Q a w2 hC hV hI
      have e9 : a.eval (.tmp 9) = .pointer (some ⟨gh, i, none⟩) := hV 9 (by simp [Op.operands]) (by kernel_rfl)
      have f9 : a.tmps.getD 9 undef = .pointer (some ⟨gh, i, none⟩) := e9
      have g9 : a.tmps[9]?.getD undef = .pointer (some ⟨gh, i, none⟩) := by rw [← Array.getD_eq_getD_getElem?]; exact e9
      have hK := KC.out w2 hC
      refine op_val (.int .i64 x) ?_ hC (Below.refl _ _) (by intro d hd; cases hd; rfl)
      (clear hV hI hC; go_simp <;> (first | rfl | simp | (rw [IntKind.wrap_i64]; omega)))
    case o11 =>
      intro Q a w2 hC hV hI
      have e0 : a.eval (.tmp 0) = .pointer (some ⟨g, 0, none⟩) := (hI 0 (by simp [Op.operands]) (by kernel_rfl)).trans rfl
      have f0 : a.tmps.getD 0 undef = .pointer (some ⟨g, 0, none⟩) := e0
      have g0 : a.tmps[0]?.getD undef = .pointer (some ⟨g, 0, none⟩) := by rw [← Array.getD_eq_getD_getElem?]; exact e0
      refine op_val (.pointer (some ⟨g, 0, none⟩)) ?_ hC (Below.refl _ _) (by intro d hd; cases hd; rfl)
      (clear hV hI hC; go_simp <;> (first | rfl | simp | (rw [IntKind.wrap_i64]; omega)))
    case o12 =>
      intro Q a w2 hC hV hI
      have e11 : a.eval (.tmp 11) = .pointer (some ⟨g, 0, none⟩) := hV 11 (by simp [Op.operands]) (by kernel_rfl)
      have f11 : a.tmps.getD 11 undef = .pointer (some ⟨g, 0, none⟩) := e11
      have g11 : a.tmps[11]?.getD undef = .pointer (some ⟨g, 0, none⟩) := by rw [← Array.getD_eq_getD_getElem?]; exact e11
      refine op_val (.pointer (some ⟨g, 0, none⟩)) ?_ hC (Below.refl _ _) (by intro d hd; cases hd; rfl)
      (clear hV hI hC; go_simp <;> (first | rfl | simp | (rw [IntKind.wrap_i64]; omega)))
    case o13 =>
      intro Q a w2 hC hV hI
      have e12 : a.eval (.tmp 12) = .pointer (some ⟨g, 0, none⟩) := hV 12 (by simp [Op.operands]) (by kernel_rfl)
      have f12 : a.tmps.getD 12 undef = .pointer (some ⟨g, 0, none⟩) := e12
      have g12 : a.tmps[12]?.getD undef = .pointer (some ⟨g, 0, none⟩) := by rw [← Array.getD_eq_getD_getElem?]; exact e12
      refine op_val (.pointer (some ⟨g, 0, none⟩)) ?_ hC (Below.refl _ _) (by intro d hd; cases hd; rfl)
      (clear hV hI hC; go_simp <;> (first | rfl | simp | (rw [IntKind.wrap_i64]; omega)))
    case o14 =>
      intro Q a w2 hC hV hI
      have e13 : a.eval (.tmp 13) = .pointer (some ⟨g, 0, none⟩) := hV 13 (by simp [Op.operands]) (by kernel_rfl)
      have f13 : a.tmps.getD 13 undef = .pointer (some ⟨g, 0, none⟩) := e13
      have g13 : a.tmps[13]?.getD undef = .pointer (some ⟨g, 0, none⟩) := by rw [← Array.getD_eq_getD_getElem?]; exact e13
      have hK := KC.out w2 hC
      refine op_val (.bool hi) ?_ hC (Below.refl _ _) (by intro d hd; cases hd; rfl)
      (clear hV hI hC; go_simp <;> (first | rfl | simp | (rw [IntKind.wrap_i64]; omega)))
    case o15 =>
      intro Q a w2 hC hV hI
      have e10 : a.eval (.tmp 10) = .int .i64 x := hV 10 (by simp [Op.operands, Call.operands]) (by kernel_rfl)
      have f10 : a.tmps.getD 10 undef = .int .i64 x := e10
      have g10 : a.tmps[10]?.getD undef = .int .i64 x := by rw [← Array.getD_eq_getD_getElem?]; exact e10
      have e14 : a.eval (.tmp 14) = .bool hi := hV 14 (by simp [Op.operands, Call.operands]) (by kernel_rfl)
      have f14 : a.tmps.getD 14 undef = .bool hi := e14
      have g14 : a.tmps[14]?.getD undef = .bool hi := by rw [← Array.getD_eq_getD_getElem?]; exact e14
      refine op_call (f := 27) (args := #[.int .i64 x, .bool hi]) (R := fun v y => v = .string q ∧ Below w2.heap.size w2 y) ?_ ((HP.out w2).mono ?_) ?_
      · (clear hV hI hC; go_simp <;> (first | rfl | simp | (rw [IntKind.wrap_i64]; omega)))
      · rintro e y ⟨rfl, hb⟩; exact ⟨_, rfl, rfl, hb⟩
      · rintro v y ⟨rfl, hb⟩; exact ⟨hC.trans (hb.mono hC.size), hb, by intro d hd; cases hd; rfl⟩
  case hend =>
    intro f w2 hC hall
    simp only [List.take_succ_cons, List.take_zero, List.drop_succ_cons, List.drop_zero] at hall ⊢
    simp only [List.forall_mem_cons] at hall
    obtain ⟨h4, h5, h6, h7, h8, h9, h10, h11, h12, h13, h14, h15, _⟩ := hall
    replace h4 : f 4 = .pointer (some ⟨g, 0, none⟩) := h4 4 rfl
    replace h5 : f 5 = .pointer (some ⟨gh, i, none⟩) := h5 5 rfl
    replace h6 : f 6 = .pointer (some ⟨gh, i, none⟩) := h6 6 rfl
    replace h7 : f 7 = .int .i64 x := h7 7 rfl
    replace h8 : f 8 = .pointer (some ⟨gh, i, none⟩) := h8 8 rfl
    replace h9 : f 9 = .pointer (some ⟨gh, i, none⟩) := h9 9 rfl
    replace h10 : f 10 = .int .i64 x := h10 10 rfl
    replace h11 : f 11 = .pointer (some ⟨g, 0, none⟩) := h11 11 rfl
    replace h12 : f 12 = .pointer (some ⟨g, 0, none⟩) := h12 12 rfl
    replace h13 : f 13 = .pointer (some ⟨g, 0, none⟩) := h13 13 rfl
    replace h14 : f 14 = .bool hi := h14 14 rfl
    replace h15 : f 15 = .string q := h15 15 rfl
    simp only [putAll, Act.put, List.setIfInBounds_toArray, List.set_cons_succ, List.set_cons_zero, h4, h5, h6, h7, h8, h9, h10, h11, h12, h13, h14, h15]
    clear h4 h5 h6 h7 h8 h9 h10 h11 h12 h13 h14 h15
    go_wp2_with fail
    refine (HA.out _ (HW.out _ hC)).mono ?_
    rintro e w3 ⟨rfl, hw3, hb3⟩
    have B3 := (hC.mono (Nat.le_of_lt hlt)).trans hb3
    clear KC HW HA HP hC hb3
    go_wp2_with fail
    refine bodyPost_end (results_none rfl _ _ _) rfl ?_
    exact ⟨rfl, hw3, B3⟩
set_option maxHeartbeats 1600000 in
set_option maxRecDepth 8000 in
theorem long_w (g gh i : Nat) (hi : Bool) (l : List UInt8) (rf : Bool) (x : Int) (w : World) (h : WrO w g hi l rf) (hl : l.length ≤ 1000) (hx : w.cell? ⟨gh, i, none⟩ = some (.int .i64 x)) :
    Calls Tryz.prog 136 #[.pointer (some ⟨g, 0, none⟩), .pointer (some ⟨gh, i, none⟩)] w fun e w' => e = .returned (.tuple #[]) ∧ WrO w' g hi (l ++ (put32v x hi).data.toList) (rf || !r32 x) ∧ Below g w w' := by
  have HP := Lib.hid (fun w => put32_impl x hi w)
  have hz : (put32v x hi).size ≤ 8 := by rw [put32_size]; decide
  have HA := Lib.hid (fun w h => add_any g hi l rf x 4294967295 (put32v x hi) w h hl hz)
  rw [outB_r32] at HA
  generalize put32v x hi = q at HP HA
  clear hz
  obtain ⟨v, hg, ho⟩ := h
  have hlt := (Array.getElem?_eq_some_iff.1 hg).1
  have hgl : gh < w.heap.size := by
    cases h9 : w.heap[gh]? with
    | none => simp [World.cell?, h9] at hx
    | some o => exact (Array.getElem?_eq_some_iff.1 h9).1
  have k0 : w.cell? ⟨g, 0, none⟩ = some (.bool hi) := by simp [World.cell?, hg]
  have KC : Hid (∀ w', Below w.heap.size w w' → w'.cell? ⟨gh, i, none⟩ = some (.int .i64 x) ∧ w'.cell? ⟨g, 0, none⟩ = some (.bool hi)) := Lib.hid (fun w' hb => ⟨(hb.cell (p := ⟨gh, i, none⟩) hgl).trans hx, (hb.cell (p := ⟨g, 0, none⟩) hlt).trans k0⟩)
  have HW : Hid (∀ w', Below w.heap.size w w' → WrO w' g hi l rf) := Lib.hid (fun w' hb => ⟨v, (hb.block g hlt).trans hg, World.ownsRow.kept ho (row := none) ⟨hb.os, hb.tape, hb.output, hb.size, fun k hk _ => hb.block k hk⟩ (by cases hv : v.ownBlock <;> simp)⟩)
  clear k0 hx hg ho
  go_enter Tryz.func136, Tryz.ntmps136
  refine wp_region_cut 12 (by kernel_rfl) (fun w' => Below w.heap.size w w') (fun x y => Below x.heap.size x y) (fun dq vq _ => match dq with | 4 => vq = .pointer (some ⟨g, 0, none⟩) | 5 => vq = .pointer (some ⟨gh, i, none⟩) | 6 => vq = .pointer (some ⟨gh, i, none⟩) | 7 => vq = .int .i64 x | 8 => vq = .pointer (some ⟨gh, i, none⟩) | 9 => vq = .pointer (some ⟨gh, i, none⟩) | 10 => vq = .int .i64 x | 11 => vq = .pointer (some ⟨g, 0, none⟩) | 12 => vq = .pointer (some ⟨g, 0, none⟩) | 13 => vq = .pointer (some ⟨g, 0, none⟩) | 14 => vq = .bool hi | 15 => vq = .string q | _ => True) (by kernel_rfl) (by kernel_rfl) ((Below.refl _ _).drew) (fun _ _ _ _ _ _ h => h) (by simp) ?hops ?hend
  case hops =>
    simp only [List.take_succ_cons, List.take_zero, List.forall_mem_cons]
    refine ⟨?o4, ?o5, ?o6, ?o7, ?o8, ?o9, ?o10, ?o11, ?o12, ?o13, ?o14, ?o15, fun _ h => by cases h⟩
    case o4 =>
      intro Q a w2 hC hV hI
      have e0 : a.eval (.tmp 0) = .pointer (some ⟨g, 0, none⟩) := (hI 0 (by simp [Op.operands]) (by kernel_rfl)).trans rfl
      have f0 : a.tmps.getD 0 undef = .pointer (some ⟨g, 0, none⟩) := e0
      have g0 : a.tmps[0]?.getD undef = .pointer (some ⟨g, 0, none⟩) := by rw [← Array.getD_eq_getD_getElem?]; exact e0
      refine op_val (.pointer (some ⟨g, 0, none⟩)) ?_ hC (Below.refl _ _) (by intro d hd; cases hd; rfl)
      (clear hV hI hC; go_simp <;> (first | rfl | simp | (rw [IntKind.wrap_i64]; omega)))
    case o5 =>
      intro Q a w2 hC hV hI
      have e1 : a.eval (.tmp 1) = .pointer (some ⟨gh, i, none⟩) := (hI 1 (by simp [Op.operands]) (by kernel_rfl)).trans rfl
      have f1 : a.tmps.getD 1 undef = .pointer (some ⟨gh, i, none⟩) := e1
      have g1 : a.tmps[1]?.getD undef = .pointer (some ⟨gh, i, none⟩) := by rw [← Array.getD_eq_getD_getElem?]; exact e1
      refine op_val (.pointer (some ⟨gh, i, none⟩)) ?_ hC (Below.refl _ _) (by intro d hd; cases hd; rfl)
      (clear hV hI hC; go_simp <;> (first | rfl | simp | (rw [IntKind.wrap_i64]; omega)))
    case o6 =>
      intro Q a w2 hC hV hI
      have e5 : a.eval (.tmp 5) = .pointer (some ⟨gh, i, none⟩) := hV 5 (by simp [Op.operands]) (by kernel_rfl)
      have f5 : a.tmps.getD 5 undef = .pointer (some ⟨gh, i, none⟩) := e5
      have g5 : a.tmps[5]?.getD undef = .pointer (some ⟨gh, i, none⟩) := by rw [← Array.getD_eq_getD_getElem?]; exact e5
      refine op_val (.pointer (some ⟨gh, i, none⟩)) ?_ hC (Below.refl _ _) (by intro d hd; cases hd; rfl)
      (clear hV hI hC; go_simp <;> (first | rfl | simp | (rw [IntKind.wrap_i64]; omega)))
    case o7 =>
      intro Q a w2 hC hV hI
      have e6 : a.eval (.tmp 6) = .pointer (some ⟨gh, i, none⟩) := hV 6 (by simp [Op.operands]) (by kernel_rfl)
      have f6 : a.tmps.getD 6 undef = .pointer (some ⟨gh, i, none⟩) := e6
      have g6 : a.tmps[6]?.getD undef = .pointer (some ⟨gh, i, none⟩) := by rw [← Array.getD_eq_getD_getElem?]; exact e6
      have hK := KC.out w2 hC
      refine op_val (.int .i64 x) ?_ hC (Below.refl _ _) (by intro d hd; cases hd; rfl)
      (clear hV hI hC; go_simp <;> (first | rfl | simp | (rw [IntKind.wrap_i64]; omega)))
    case o8 =>
      intro Q a w2 hC hV hI
      have e1 : a.eval (.tmp 1) = .pointer (some ⟨gh, i, none⟩) := (hI 1 (by simp [Op.operands]) (by kernel_rfl)).trans rfl
      have f1 : a.tmps.getD 1 undef = .pointer (some ⟨gh, i, none⟩) := e1
      have g1 : a.tmps[1]?.getD undef = .pointer (some ⟨gh, i, none⟩) := by rw [← Array.getD_eq_getD_getElem?]; exact e1
      refine op_val (.pointer (some ⟨gh, i, none⟩)) ?_ hC (Below.refl _ _) (by intro d hd; cases hd; rfl)
      (clear hV hI hC; go_simp <;> (first | rfl | simp | (rw [IntKind.wrap_i64]; omega)))
    case o9 =>
      intro Q a w2 hC hV hI
      have e8 : a.eval (.tmp 8) = .pointer (some ⟨gh, i, none⟩) := hV 8 (by simp [Op.operands]) (by kernel_rfl)
      have f8 : a.tmps.getD 8 undef = .pointer (some ⟨gh, i, none⟩) := e8
      have g8 : a.tmps[8]?.getD undef = .pointer (some ⟨gh, i, none⟩) := by rw [← Array.getD_eq_getD_getElem?]; exact e8
      refine op_val (.pointer (some ⟨gh, i, none⟩)) ?_ hC (Below.refl _ _) (by intro d hd; cases hd; rfl)
      (clear hV hI hC; go_simp <;> (first | rfl | simp | (rw [IntKind.wrap_i64]; omega)))
    case o10 =>
      intro Q a w2 hC hV hI
      have e9 : a.eval (.tmp 9) = .pointer (some ⟨gh, i, none⟩) := hV 9 (by simp [Op.operands]) (by kernel_rfl)
      have f9 : a.tmps.getD 9 undef = .pointer (some ⟨gh, i, none⟩) := e9
      have g9 : a.tmps[9]?.getD undef = .pointer (some ⟨gh, i, none⟩) := by rw [← Array.getD_eq_getD_getElem?]; exact e9
      have hK := KC.out w2 hC
      refine op_val (.int .i64 x) ?_ hC (Below.refl _ _) (by intro d hd; cases hd; rfl)
      (clear hV hI hC; go_simp <;> (first | rfl | simp | (rw [IntKind.wrap_i64]; omega)))
    case o11 =>
      intro Q a w2 hC hV hI
      have e0 : a.eval (.tmp 0) = .pointer (some ⟨g, 0, none⟩) := (hI 0 (by simp [Op.operands]) (by kernel_rfl)).trans rfl
      have f0 : a.tmps.getD 0 undef = .pointer (some ⟨g, 0, none⟩) := e0
      have g0 : a.tmps[0]?.getD undef = .pointer (some ⟨g, 0, none⟩) := by rw [← Array.getD_eq_getD_getElem?]; exact e0
      refine op_val (.pointer (some ⟨g, 0, none⟩)) ?_ hC (Below.refl _ _) (by intro d hd; cases hd; rfl)
      (clear hV hI hC; go_simp <;> (first | rfl | simp | (rw [IntKind.wrap_i64]; omega)))
    case o12 =>
      intro Q a w2 hC hV hI
      have e11 : a.eval (.tmp 11) = .pointer (some ⟨g, 0, none⟩) := hV 11 (by simp [Op.operands]) (by kernel_rfl)
      have f11 : a.tmps.getD 11 undef = .pointer (some ⟨g, 0, none⟩) := e11
      have g11 : a.tmps[11]?.getD undef = .pointer (some ⟨g, 0, none⟩) := by rw [← Array.getD_eq_getD_getElem?]; exact e11
      refine op_val (.pointer (some ⟨g, 0, none⟩)) ?_ hC (Below.refl _ _) (by intro d hd; cases hd; rfl)
      (clear hV hI hC; go_simp <;> (first | rfl | simp | (rw [IntKind.wrap_i64]; omega)))
    case o13 =>
      intro Q a w2 hC hV hI
      have e12 : a.eval (.tmp 12) = .pointer (some ⟨g, 0, none⟩) := hV 12 (by simp [Op.operands]) (by kernel_rfl)
      have f12 : a.tmps.getD 12 undef = .pointer (some ⟨g, 0, none⟩) := e12
      have g12 : a.tmps[12]?.getD undef = .pointer (some ⟨g, 0, none⟩) := by rw [← Array.getD_eq_getD_getElem?]; exact e12
      refine op_val (.pointer (some ⟨g, 0, none⟩)) ?_ hC (Below.refl _ _) (by intro d hd; cases hd; rfl)
      (clear hV hI hC; go_simp <;> (first | rfl | simp | (rw [IntKind.wrap_i64]; omega)))
    case o14 =>
      intro Q a w2 hC hV hI
      have e13 : a.eval (.tmp 13) = .pointer (some ⟨g, 0, none⟩) := hV 13 (by simp [Op.operands]) (by kernel_rfl)
      have f13 : a.tmps.getD 13 undef = .pointer (some ⟨g, 0, none⟩) := e13
      have g13 : a.tmps[13]?.getD undef = .pointer (some ⟨g, 0, none⟩) := by rw [← Array.getD_eq_getD_getElem?]; exact e13
      have hK := KC.out w2 hC
      refine op_val (.bool hi) ?_ hC (Below.refl _ _) (by intro d hd; cases hd; rfl)
      (clear hV hI hC; go_simp <;> (first | rfl | simp | (rw [IntKind.wrap_i64]; omega)))
    case o15 =>
      intro Q a w2 hC hV hI
      have e10 : a.eval (.tmp 10) = .int .i64 x := hV 10 (by simp [Op.operands, Call.operands]) (by kernel_rfl)
      have f10 : a.tmps.getD 10 undef = .int .i64 x := e10
      have g10 : a.tmps[10]?.getD undef = .int .i64 x := by rw [← Array.getD_eq_getD_getElem?]; exact e10
      have e14 : a.eval (.tmp 14) = .bool hi := hV 14 (by simp [Op.operands, Call.operands]) (by kernel_rfl)
      have f14 : a.tmps.getD 14 undef = .bool hi := e14
      have g14 : a.tmps[14]?.getD undef = .bool hi := by rw [← Array.getD_eq_getD_getElem?]; exact e14
      refine op_call (f := 140) (args := #[.int .i64 x, .bool hi]) (R := fun v y => v = .string q ∧ Below w2.heap.size w2 y) ?_ ((HP.out w2).mono ?_) ?_
      · (clear hV hI hC; go_simp <;> (first | rfl | simp | (rw [IntKind.wrap_i64]; omega)))
      · rintro e y ⟨rfl, hb⟩; exact ⟨_, rfl, rfl, hb⟩
      · rintro v y ⟨rfl, hb⟩; exact ⟨hC.trans (hb.mono hC.size), hb, by intro d hd; cases hd; rfl⟩
  case hend =>
    intro f w2 hC hall
    simp only [List.take_succ_cons, List.take_zero, List.drop_succ_cons, List.drop_zero] at hall ⊢
    simp only [List.forall_mem_cons] at hall
    obtain ⟨h4, h5, h6, h7, h8, h9, h10, h11, h12, h13, h14, h15, _⟩ := hall
    replace h4 : f 4 = .pointer (some ⟨g, 0, none⟩) := h4 4 rfl
    replace h5 : f 5 = .pointer (some ⟨gh, i, none⟩) := h5 5 rfl
    replace h6 : f 6 = .pointer (some ⟨gh, i, none⟩) := h6 6 rfl
    replace h7 : f 7 = .int .i64 x := h7 7 rfl
    replace h8 : f 8 = .pointer (some ⟨gh, i, none⟩) := h8 8 rfl
    replace h9 : f 9 = .pointer (some ⟨gh, i, none⟩) := h9 9 rfl
    replace h10 : f 10 = .int .i64 x := h10 10 rfl
    replace h11 : f 11 = .pointer (some ⟨g, 0, none⟩) := h11 11 rfl
    replace h12 : f 12 = .pointer (some ⟨g, 0, none⟩) := h12 12 rfl
    replace h13 : f 13 = .pointer (some ⟨g, 0, none⟩) := h13 13 rfl
    replace h14 : f 14 = .bool hi := h14 14 rfl
    replace h15 : f 15 = .string q := h15 15 rfl
    simp only [putAll, Act.put, List.setIfInBounds_toArray, List.set_cons_succ, List.set_cons_zero, h4, h5, h6, h7, h8, h9, h10, h11, h12, h13, h14, h15]
    clear h4 h5 h6 h7 h8 h9 h10 h11 h12 h13 h14 h15
    go_wp2_with fail
    refine (HA.out _ (HW.out _ hC)).mono ?_
    rintro e w3 ⟨rfl, hw3, hb3⟩
    have B3 := (hC.mono (Nat.le_of_lt hlt)).trans hb3
    clear KC HW HA HP hC hb3
    go_wp2_with fail
    refine bodyPost_end (results_none rfl _ _ _) rfl ?_
    exact ⟨rfl, hw3, B3⟩
set_option maxRecDepth 8000 in
theorem made_w (g : Nat) (hi : Bool) (l : List UInt8) (rf : Bool) (w : World) (h : WrO w g hi l rf) :
    Calls Tryz.prog 137 #[.pointer (some ⟨g, 0, none⟩)] w fun e w' => e = .returned (.string (if rf then ⟨#[]⟩ else ⟨l.toArray⟩)) ∧ w' = w := by
  obtain ⟨v, hg, ho⟩ := h
  have c1 : w.cell? ⟨g, 1, none⟩ = some v := by simp [World.cell?, hg]
  have c2 : w.cell? ⟨g, 2, none⟩ = some (.bool rf) := by simp [World.cell?, hg]
  have hc := ho.conv
  clear hg
  obtain ⟨ao, nn, cc, rfl⟩ : ∃ ao nn cc, v = .slice ao nn cc := by
    rcases ho.2 with ⟨h9, _⟩ | ⟨_, _, _, h9, _⟩
    · exact ⟨_, _, _, h9⟩
    · exact ⟨_, _, _, h9⟩
  clear ho
  generalize (⟨l.toArray⟩ : ByteArray) = r at *
  cases rf with
  | true =>
    go_enter Tryz.func137, Tryz.ntmps137
    go_wp2_with fail
    go_ret
    exact ⟨rfl, rfl⟩
  | false =>
    go_enter Tryz.func137, Tryz.ntmps137
    go_wp2_with fail
    go_ret
    exact ⟨rfl, rfl⟩
end Go.Proofs.YtancidbbkoeokaaGreat

/- The numbers of a head given to the writer: impl.passHead[string]. -/
namespace Go.Proofs.YtancidbbkoeokaaGreat
open Go.ChangeShapes Go.WideShapes Go.ChangeAt Go.RowKit Go.Deep

theorem WrO.below {w w' : World} {g : Nat} {hi : Bool} {l : List UInt8} {rf : Bool} (h : WrO w g hi l rf) (hb : Below w.heap.size w w') : WrO w' g hi l rf := by
  obtain ⟨v, hg, ho⟩ := h
  exact ⟨v, (hb.block g (Array.getElem?_eq_some_iff.1 hg).1).trans hg, World.ownsRow.kept ho (row := none) ⟨hb.os, hb.tape, hb.output, hb.size, fun k hk _ => hb.block k hk⟩ (by cases hv : v.ownBlock <;> simp)⟩
theorem WrO.lt {w : World} {g : Nat} {hi : Bool} {l : List UInt8} {rf : Bool} (h : WrO w g hi l rf) : g < w.heap.size := by
  obtain ⟨v, hg, _⟩ := h
  exact (Array.getElem?_eq_some_iff.1 hg).1
theorem ba_len (s : ByteArray) : s.data.toList.length = s.size := Array.length_toList
theorem head_bytes (c : Card) (hi : Bool) : (headB c hi).data.toList = [] ++ (put16v 29127 hi).data.toList ++ (put16v 0 hi).data.toList ++ (put16v c.Ino hi).data.toList ++ (put16v c.Mode hi).data.toList ++ (put16v c.Uid hi).data.toList ++ (put16v c.Gid hi).data.toList ++ (put16v c.Count hi).data.toList ++ (put16v 0 hi).data.toList ++ (put32v c.Time hi).data.toList ++ (put16v ((c.Path.size : Int) + 1) hi).data.toList ++ (put32v (c.Data.size : Int) hi).data.toList := by
  simp [headB, headA]
theorem head_ok (c : Card) : (false || !r16 29127 || !r16 0 || !r16 c.Ino || !r16 c.Mode || !r16 c.Uid || !r16 c.Gid || !r16 c.Count || !r16 0 || !r32 c.Time || !r16 ((c.Path.size : Int) + 1) || !r32 (c.Data.size : Int)) = !binOk c := by
  rw [show r16 29127 = true from by decide, show r16 0 = true from by decide, binOk]
  cases r16 c.Ino <;> cases r16 c.Mode <;> cases r16 c.Uid <;> cases r16 c.Gid <;> cases r16 c.Count <;> cases r32 c.Time <;> cases r16 ((c.Path.size : Int) + 1) <;> cases r32 (c.Data.size : Int) <;> rfl
set_option maxHeartbeats 6400000 in
set_option maxRecDepth 8000 in
theorem pass_w (g gh : Nat) (c : Card) (hi : Bool) (T : TypeId) (w : World) (hg : WrO w g hi [] false) (hh : w.heap[gh]? = some (.cells #[.int .i64 c.Ino, .int .i64 c.Mode, .int .i64 c.Uid, .int .i64 c.Gid, .int .i64 c.Count, .int .i64 c.Time, .string c.Path, .string c.Data, .int .i64 29127, .int .i64 0, .int .i64 0, .int .i64 ((c.Path.size : Int) + 1), .int .i64 (c.Data.size : Int)] T (0, 0))) (hgh : gh < g) :
    Calls Tryz.prog 62 #[.pointer (some ⟨gh, 0, none⟩), .iface 83 (.pointer (some ⟨g, 0, none⟩))] w fun e w' => e = .returned (.string (if binOk c then headB c hi else ⟨#[]⟩)) ∧ Below g w w' := by
  have HL := Lib.hid (head_bytes c hi)
  have HR := Lib.hid (head_ok c)
  have HW0 := Lib.hid hg
  have HH0 := Lib.hid hh
  have B0 : Hid (Below g w w) := Lib.hid (Below.refl _ _)
  generalize binOk c = ok at HR ⊢
  generalize headB c hi = hb9 at HL ⊢
  generalize hres : (if ok then hb9 else ⟨#[]⟩ : ByteArray) = res
  have HRes := Lib.hid hres
  clear hres
  clear hg hh
  obtain ⟨l0, hl0⟩ : ∃ l : List UInt8, l = [] := ⟨_, rfl⟩
  obtain ⟨r0, hr0⟩ : ∃ r : Bool, r = false := ⟨_, rfl⟩
  rw [← hl0] at HL HW0
  rw [← hr0] at HR HW0
  have z0 : l0.length = 0 := by rw [hl0]; rfl
  clear hl0 hr0
  go_enter Tryz.func62, Tryz.ntmps62
  obtain ⟨w0, hw0⟩ : ∃ w0, w0 = w := ⟨_, rfl⟩
  rw [← hw0] at HW0 HH0 ⊢
  replace B0 : Hid (Below g w0 w0) := Lib.hid (Below.refl _ _)
  clear hw0
  go_upto_region 1 with fail
  refine wp_region_cut 7 (by kernel_rfl) (fun w' => Below w0.heap.size w0 w') (fun x y => Below x.heap.size x y) (fun dq vq _ => match dq with | 5 => vq = .iface 83 (.pointer (some ⟨g, 0, none⟩)) | 6 => vq = .pointer (some ⟨gh, 0, none⟩) | 7 => vq = .pointer (some ⟨gh, 0, none⟩) | 8 => vq = .pointer (some ⟨gh, 8, none⟩) | 9 => vq = .func (.method "loop.example/g00413/impl.short") #[.iface 83 (.pointer (some ⟨g, 0, none⟩))] #[] | 10 => vq = .func (.method "loop.example/g00413/impl.short") #[.iface 83 (.pointer (some ⟨g, 0, none⟩))] #[] | 11 => vq = .iface 83 (.pointer (some ⟨g, 0, none⟩)) | _ => True) (by kernel_rfl) (by kernel_rfl) ((Below.refl _ _).drew) (fun _ _ _ _ _ _ h => h) (by simp) ?hops ?hend
  case hops =>
    simp only [List.take_succ_cons, List.take_zero, List.forall_mem_cons]
    refine ⟨?o5, ?o6, ?o7, ?o8, ?o9, ?o10, ?o11, fun _ h => by cases h⟩
    case o5 =>
      intro Q a w2 hC hV hI
      have e1 : a.eval (.tmp 1) = .iface 83 (.pointer (some ⟨g, 0, none⟩)) := (hI 1 (by simp [Op.operands]) (by kernel_rfl)).trans rfl
      have f1 : a.tmps.getD 1 undef = .iface 83 (.pointer (some ⟨g, 0, none⟩)) := e1
      have g1 : a.tmps[1]?.getD undef = .iface 83 (.pointer (some ⟨g, 0, none⟩)) := by rw [← Array.getD_eq_getD_getElem?]; exact e1
      refine op_val (.iface 83 (.pointer (some ⟨g, 0, none⟩))) ?_ hC (Below.refl _ _) (by intro d hd; cases hd; rfl)
      (clear hV hI hC; go_simp <;> (first | rfl | simp | (rw [IntKind.wrap_i64]; omega)))
    case o6 =>
      intro Q a w2 hC hV hI
      have e0 : a.eval (.tmp 0) = .pointer (some ⟨gh, 0, none⟩) := (hI 0 (by simp [Op.operands]) (by kernel_rfl)).trans rfl
      have f0 : a.tmps.getD 0 undef = .pointer (some ⟨gh, 0, none⟩) := e0
      have g0 : a.tmps[0]?.getD undef = .pointer (some ⟨gh, 0, none⟩) := by rw [← Array.getD_eq_getD_getElem?]; exact e0
      refine op_val (.pointer (some ⟨gh, 0, none⟩)) ?_ hC (Below.refl _ _) (by intro d hd; cases hd; rfl)
      (clear hV hI hC; go_simp <;> (first | rfl | simp | (rw [IntKind.wrap_i64]; omega)))
    case o7 =>
      intro Q a w2 hC hV hI
      have e6 : a.eval (.tmp 6) = .pointer (some ⟨gh, 0, none⟩) := hV 6 (by simp [Op.operands]) (by kernel_rfl)
      have f6 : a.tmps.getD 6 undef = .pointer (some ⟨gh, 0, none⟩) := e6
      have g6 : a.tmps[6]?.getD undef = .pointer (some ⟨gh, 0, none⟩) := by rw [← Array.getD_eq_getD_getElem?]; exact e6
      refine op_val (.pointer (some ⟨gh, 0, none⟩)) ?_ hC (Below.refl _ _) (by intro d hd; cases hd; rfl)
      (clear hV hI hC; go_simp <;> (first | rfl | simp | (rw [IntKind.wrap_i64]; omega)))
    case o8 =>
      intro Q a w2 hC hV hI
      have e7 : a.eval (.tmp 7) = .pointer (some ⟨gh, 0, none⟩) := hV 7 (by simp [Op.operands]) (by kernel_rfl)
      have f7 : a.tmps.getD 7 undef = .pointer (some ⟨gh, 0, none⟩) := e7
      have g7 : a.tmps[7]?.getD undef = .pointer (some ⟨gh, 0, none⟩) := by rw [← Array.getD_eq_getD_getElem?]; exact e7
      refine op_val (.pointer (some ⟨gh, 8, none⟩)) ?_ hC (Below.refl _ _) (by intro d hd; cases hd; rfl)
      (clear hV hI hC; go_simp <;> (first | rfl | simp | (rw [IntKind.wrap_i64]; omega)))
    case o9 =>
      intro Q a w2 hC hV hI
      have e5 : a.eval (.tmp 5) = .iface 83 (.pointer (some ⟨g, 0, none⟩)) := hV 5 (by simp [Op.operands]) (by kernel_rfl)
      have f5 : a.tmps.getD 5 undef = .iface 83 (.pointer (some ⟨g, 0, none⟩)) := e5
      have g5 : a.tmps[5]?.getD undef = .iface 83 (.pointer (some ⟨g, 0, none⟩)) := by rw [← Array.getD_eq_getD_getElem?]; exact e5
      refine op_val (.func (.method "loop.example/g00413/impl.short") #[.iface 83 (.pointer (some ⟨g, 0, none⟩))] #[]) ?_ hC (Below.refl _ _) (by intro d hd; cases hd; rfl)
      (clear hV hI hC; go_simp <;> (first | rfl | simp | (rw [IntKind.wrap_i64]; omega)))
    case o10 =>
      intro Q a w2 hC hV hI
      have e9 : a.eval (.tmp 9) = .func (.method "loop.example/g00413/impl.short") #[.iface 83 (.pointer (some ⟨g, 0, none⟩))] #[] := hV 9 (by simp [Op.operands]) (by kernel_rfl)
      have f9 : a.tmps.getD 9 undef = .func (.method "loop.example/g00413/impl.short") #[.iface 83 (.pointer (some ⟨g, 0, none⟩))] #[] := e9
      have g9 : a.tmps[9]?.getD undef = .func (.method "loop.example/g00413/impl.short") #[.iface 83 (.pointer (some ⟨g, 0, none⟩))] #[] := by rw [← Array.getD_eq_getD_getElem?]; exact e9
      refine op_val (.func (.method "loop.example/g00413/impl.short") #[.iface 83 (.pointer (some ⟨g, 0, none⟩))] #[]) ?_ hC (Below.refl _ _) (by intro d hd; cases hd; rfl)
      (clear hV hI hC; go_simp <;> (first | rfl | simp | (rw [IntKind.wrap_i64]; omega)))
    case o11 =>
      intro Q a w2 hC hV hI
      have e5 : a.eval (.tmp 5) = .iface 83 (.pointer (some ⟨g, 0, none⟩)) := hV 5 (by simp [Op.operands]) (by kernel_rfl)
      have f5 : a.tmps.getD 5 undef = .iface 83 (.pointer (some ⟨g, 0, none⟩)) := e5
      have g5 : a.tmps[5]?.getD undef = .iface 83 (.pointer (some ⟨g, 0, none⟩)) := by rw [← Array.getD_eq_getD_getElem?]; exact e5
      refine op_val (.iface 83 (.pointer (some ⟨g, 0, none⟩))) ?_ hC (Below.refl _ _) (by intro d hd; cases hd; rfl)
      (clear hV hI hC; go_simp <;> (first | rfl | simp | (rw [IntKind.wrap_i64]; omega)))
  case hend =>
    intro f v1 hC hall
    simp only [List.take_succ_cons, List.take_zero, List.drop_succ_cons, List.drop_zero] at hall ⊢
    simp only [List.forall_mem_cons] at hall
    obtain ⟨h5, h6, h7, h8, h9, h10, h11, _⟩ := hall
    replace h5 : f 5 = .iface 83 (.pointer (some ⟨g, 0, none⟩)) := h5 5 rfl
    replace h6 : f 6 = .pointer (some ⟨gh, 0, none⟩) := h6 6 rfl
    replace h7 : f 7 = .pointer (some ⟨gh, 0, none⟩) := h7 7 rfl
    replace h8 : f 8 = .pointer (some ⟨gh, 8, none⟩) := h8 8 rfl
    replace h9 : f 9 = .func (.method "loop.example/g00413/impl.short") #[.iface 83 (.pointer (some ⟨g, 0, none⟩))] #[] := h9 9 rfl
    replace h10 : f 10 = .func (.method "loop.example/g00413/impl.short") #[.iface 83 (.pointer (some ⟨g, 0, none⟩))] #[] := h10 10 rfl
    replace h11 : f 11 = .iface 83 (.pointer (some ⟨g, 0, none⟩)) := h11 11 rfl
    simp only [putAll, Act.put, List.setIfInBounds_toArray, List.set_cons_succ, List.set_cons_zero, h5, h6, h7, h8, h9, h10, h11]
    clear h5 h6 h7 h8 h9 h10 h11
    have W1 := Lib.hid (HW0.out.below hC)
    have H1 := Lib.hid ((hC.block gh (by have := HW0.out.lt; omega)).trans HH0.out)
    have C1 := Lib.hid (B0.out.trans (hC.mono (by have := HW0.out.lt; omega)))
    clear hC HW0 HH0 B0
    have hx1 : v1.cell? ⟨gh, 8, none⟩ = some (.int .i64 29127) := by simp [World.cell?, H1.out]
    have q1 := Lib.hid (short_w g gh 8 hi l0 r0 29127 v1 W1.out (by omega) hx1)
    clear hx1
    go_wp2_with fail
    refine q1.out.mono ?_
    rintro e w1 ⟨rfl, hw, hb⟩
    obtain ⟨l1, hl⟩ : ∃ l : List UInt8, l = l0 ++ (put16v 29127 hi).data.toList := ⟨_, rfl⟩
    obtain ⟨r1, hr⟩ : ∃ r : Bool, r = (r0 || !r16 29127) := ⟨_, rfl⟩
    have z1 : l1.length = 2 := by rw [hl, List.length_append, ba_len, put16_size]; omega
    rw [← hl] at hw HL
    rw [← hr] at hw HR
    have HW1 := Lib.hid hw
    have HH1 := Lib.hid ((hb.block gh hgh).trans H1.out)
    have B1 := Lib.hid (C1.out.trans hb)
    clear hw hb hl hr H1 W1 C1 q1 z0
    go_upto_region 2 with fail
    refine wp_region_cut 8 (by kernel_rfl) (fun w' => Below w1.heap.size w1 w') (fun x y => Below x.heap.size x y) (fun dq vq _ => match dq with | 13 => vq = .iface 83 (.pointer (some ⟨g, 0, none⟩)) | 14 => vq = .pointer (some ⟨gh, 0, none⟩) | 15 => vq = .pointer (some ⟨gh, 0, none⟩) | 16 => vq = .pointer (some ⟨gh, 9, none⟩) | 17 => vq = .pointer (some ⟨gh, 9, none⟩) | 18 => vq = .func (.method "loop.example/g00413/impl.short") #[.iface 83 (.pointer (some ⟨g, 0, none⟩))] #[] | 19 => vq = .func (.method "loop.example/g00413/impl.short") #[.iface 83 (.pointer (some ⟨g, 0, none⟩))] #[] | 20 => vq = .iface 83 (.pointer (some ⟨g, 0, none⟩)) | _ => True) (by kernel_rfl) (by kernel_rfl) ((Below.refl _ _).drew) (fun _ _ _ _ _ _ h => h) (by simp) ?hops ?hend
    case hops =>
      simp only [List.take_succ_cons, List.take_zero, List.forall_mem_cons]
      refine ⟨?o13, ?o14, ?o15, ?o16, ?o17, ?o18, ?o19, ?o20, fun _ h => by cases h⟩
      case o13 =>
        intro Q a w2 hC hV hI
        have e1 : a.eval (.tmp 1) = .iface 83 (.pointer (some ⟨g, 0, none⟩)) := (hI 1 (by simp [Op.operands]) (by kernel_rfl)).trans rfl
        have f1 : a.tmps.getD 1 undef = .iface 83 (.pointer (some ⟨g, 0, none⟩)) := e1
        have g1 : a.tmps[1]?.getD undef = .iface 83 (.pointer (some ⟨g, 0, none⟩)) := by rw [← Array.getD_eq_getD_getElem?]; exact e1
        refine op_val (.iface 83 (.pointer (some ⟨g, 0, none⟩))) ?_ hC (Below.refl _ _) (by intro d hd; cases hd; rfl)
        (clear hV hI hC; go_simp <;> (first | rfl | simp | (rw [IntKind.wrap_i64]; omega)))
      case o14 =>
        intro Q a w2 hC hV hI
        have e0 : a.eval (.tmp 0) = .pointer (some ⟨gh, 0, none⟩) := (hI 0 (by simp [Op.operands]) (by kernel_rfl)).trans rfl
        have f0 : a.tmps.getD 0 undef = .pointer (some ⟨gh, 0, none⟩) := e0
        have g0 : a.tmps[0]?.getD undef = .pointer (some ⟨gh, 0, none⟩) := by rw [← Array.getD_eq_getD_getElem?]; exact e0
        refine op_val (.pointer (some ⟨gh, 0, none⟩)) ?_ hC (Below.refl _ _) (by intro d hd; cases hd; rfl)
        (clear hV hI hC; go_simp <;> (first | rfl | simp | (rw [IntKind.wrap_i64]; omega)))
      case o15 =>
        intro Q a w2 hC hV hI
        have e14 : a.eval (.tmp 14) = .pointer (some ⟨gh, 0, none⟩) := hV 14 (by simp [Op.operands]) (by kernel_rfl)
        have f14 : a.tmps.getD 14 undef = .pointer (some ⟨gh, 0, none⟩) := e14
        have g14 : a.tmps[14]?.getD undef = .pointer (some ⟨gh, 0, none⟩) := by rw [← Array.getD_eq_getD_getElem?]; exact e14
        refine op_val (.pointer (some ⟨gh, 0, none⟩)) ?_ hC (Below.refl _ _) (by intro d hd; cases hd; rfl)
        (clear hV hI hC; go_simp <;> (first | rfl | simp | (rw [IntKind.wrap_i64]; omega)))
      case o16 =>
        intro Q a w2 hC hV hI
        have e15 : a.eval (.tmp 15) = .pointer (some ⟨gh, 0, none⟩) := hV 15 (by simp [Op.operands]) (by kernel_rfl)
        have f15 : a.tmps.getD 15 undef = .pointer (some ⟨gh, 0, none⟩) := e15
        have g15 : a.tmps[15]?.getD undef = .pointer (some ⟨gh, 0, none⟩) := by rw [← Array.getD_eq_getD_getElem?]; exact e15
        refine op_val (.pointer (some ⟨gh, 9, none⟩)) ?_ hC (Below.refl _ _) (by intro d hd; cases hd; rfl)
        (clear hV hI hC; go_simp <;> (first | rfl | simp | (rw [IntKind.wrap_i64]; omega)))
      case o17 =>
        intro Q a w2 hC hV hI
        have e16 : a.eval (.tmp 16) = .pointer (some ⟨gh, 9, none⟩) := hV 16 (by simp [Op.operands]) (by kernel_rfl)
        have f16 : a.tmps.getD 16 undef = .pointer (some ⟨gh, 9, none⟩) := e16
        have g16 : a.tmps[16]?.getD undef = .pointer (some ⟨gh, 9, none⟩) := by rw [← Array.getD_eq_getD_getElem?]; exact e16
        refine op_val (.pointer (some ⟨gh, 9, none⟩)) ?_ hC (Below.refl _ _) (by intro d hd; cases hd; rfl)
        (clear hV hI hC; go_simp <;> (first | rfl | simp | (rw [IntKind.wrap_i64]; omega)))
      case o18 =>
        intro Q a w2 hC hV hI
        have e13 : a.eval (.tmp 13) = .iface 83 (.pointer (some ⟨g, 0, none⟩)) := hV 13 (by simp [Op.operands]) (by kernel_rfl)
        have f13 : a.tmps.getD 13 undef = .iface 83 (.pointer (some ⟨g, 0, none⟩)) := e13
        have g13 : a.tmps[13]?.getD undef = .iface 83 (.pointer (some ⟨g, 0, none⟩)) := by rw [← Array.getD_eq_getD_getElem?]; exact e13
        refine op_val (.func (.method "loop.example/g00413/impl.short") #[.iface 83 (.pointer (some ⟨g, 0, none⟩))] #[]) ?_ hC (Below.refl _ _) (by intro d hd; cases hd; rfl)
        (clear hV hI hC; go_simp <;> (first | rfl | simp | (rw [IntKind.wrap_i64]; omega)))
      case o19 =>
        intro Q a w2 hC hV hI
        have e18 : a.eval (.tmp 18) = .func (.method "loop.example/g00413/impl.short") #[.iface 83 (.pointer (some ⟨g, 0, none⟩))] #[] := hV 18 (by simp [Op.operands]) (by kernel_rfl)
        have f18 : a.tmps.getD 18 undef = .func (.method "loop.example/g00413/impl.short") #[.iface 83 (.pointer (some ⟨g, 0, none⟩))] #[] := e18
        have g18 : a.tmps[18]?.getD undef = .func (.method "loop.example/g00413/impl.short") #[.iface 83 (.pointer (some ⟨g, 0, none⟩))] #[] := by rw [← Array.getD_eq_getD_getElem?]; exact e18
        refine op_val (.func (.method "loop.example/g00413/impl.short") #[.iface 83 (.pointer (some ⟨g, 0, none⟩))] #[]) ?_ hC (Below.refl _ _) (by intro d hd; cases hd; rfl)
        (clear hV hI hC; go_simp <;> (first | rfl | simp | (rw [IntKind.wrap_i64]; omega)))
      case o20 =>
        intro Q a w2 hC hV hI
        have e13 : a.eval (.tmp 13) = .iface 83 (.pointer (some ⟨g, 0, none⟩)) := hV 13 (by simp [Op.operands]) (by kernel_rfl)
        have f13 : a.tmps.getD 13 undef = .iface 83 (.pointer (some ⟨g, 0, none⟩)) := e13
        have g13 : a.tmps[13]?.getD undef = .iface 83 (.pointer (some ⟨g, 0, none⟩)) := by rw [← Array.getD_eq_getD_getElem?]; exact e13
        refine op_val (.iface 83 (.pointer (some ⟨g, 0, none⟩))) ?_ hC (Below.refl _ _) (by intro d hd; cases hd; rfl)
        (clear hV hI hC; go_simp <;> (first | rfl | simp | (rw [IntKind.wrap_i64]; omega)))
    case hend =>
      intro f v2 hC hall
      simp only [List.take_succ_cons, List.take_zero, List.drop_succ_cons, List.drop_zero] at hall ⊢
      simp only [List.forall_mem_cons] at hall
      obtain ⟨h13, h14, h15, h16, h17, h18, h19, h20, _⟩ := hall
      replace h13 : f 13 = .iface 83 (.pointer (some ⟨g, 0, none⟩)) := h13 13 rfl
      replace h14 : f 14 = .pointer (some ⟨gh, 0, none⟩) := h14 14 rfl
      replace h15 : f 15 = .pointer (some ⟨gh, 0, none⟩) := h15 15 rfl
      replace h16 : f 16 = .pointer (some ⟨gh, 9, none⟩) := h16 16 rfl
      replace h17 : f 17 = .pointer (some ⟨gh, 9, none⟩) := h17 17 rfl
      replace h18 : f 18 = .func (.method "loop.example/g00413/impl.short") #[.iface 83 (.pointer (some ⟨g, 0, none⟩))] #[] := h18 18 rfl
      replace h19 : f 19 = .func (.method "loop.example/g00413/impl.short") #[.iface 83 (.pointer (some ⟨g, 0, none⟩))] #[] := h19 19 rfl
      replace h20 : f 20 = .iface 83 (.pointer (some ⟨g, 0, none⟩)) := h20 20 rfl
      simp only [putAll, Act.put, List.setIfInBounds_toArray, List.set_cons_succ, List.set_cons_zero, h13, h14, h15, h16, h17, h18, h19, h20]
      clear h13 h14 h15 h16 h17 h18 h19 h20
      have W2 := Lib.hid (HW1.out.below hC)
      have H2 := Lib.hid ((hC.block gh (by have := HW1.out.lt; omega)).trans HH1.out)
      have C2 := Lib.hid (B1.out.trans (hC.mono (by have := HW1.out.lt; omega)))
      clear hC HW1 HH1 B1
      have hx2 : v2.cell? ⟨gh, 9, none⟩ = some (.int .i64 0) := by simp [World.cell?, H2.out]
      have q2 := Lib.hid (short_w g gh 9 hi l1 r1 0 v2 W2.out (by omega) hx2)
      clear hx2
      go_wp2_with fail
      refine q2.out.mono ?_
      rintro e w2 ⟨rfl, hw, hb⟩
      obtain ⟨l2, hl⟩ : ∃ l : List UInt8, l = l1 ++ (put16v 0 hi).data.toList := ⟨_, rfl⟩
      obtain ⟨r2, hr⟩ : ∃ r : Bool, r = (r1 || !r16 0) := ⟨_, rfl⟩
      have z2 : l2.length = 4 := by rw [hl, List.length_append, ba_len, put16_size]; omega
      rw [← hl] at hw HL
      rw [← hr] at hw HR
      have HW2 := Lib.hid hw
      have HH2 := Lib.hid ((hb.block gh hgh).trans H2.out)
      have B2 := Lib.hid (C2.out.trans hb)
      clear hw hb hl hr H2 W2 C2 q2 z1
      go_upto_region 3 with fail
      refine wp_region_cut 8 (by kernel_rfl) (fun w' => Below w2.heap.size w2 w') (fun x y => Below x.heap.size x y) (fun dq vq _ => match dq with | 22 => vq = .iface 83 (.pointer (some ⟨g, 0, none⟩)) | 23 => vq = .pointer (some ⟨gh, 0, none⟩) | 24 => vq = .pointer (some ⟨gh, 0, none⟩) | 25 => vq = .pointer (some ⟨gh, 0, none⟩) | 26 => vq = .pointer (some ⟨gh, 0, none⟩) | 27 => vq = .func (.method "loop.example/g00413/impl.short") #[.iface 83 (.pointer (some ⟨g, 0, none⟩))] #[] | 28 => vq = .func (.method "loop.example/g00413/impl.short") #[.iface 83 (.pointer (some ⟨g, 0, none⟩))] #[] | 29 => vq = .iface 83 (.pointer (some ⟨g, 0, none⟩)) | _ => True) (by kernel_rfl) (by kernel_rfl) ((Below.refl _ _).drew) (fun _ _ _ _ _ _ h => h) (by simp) ?hops ?hend
      case hops =>
        simp only [List.take_succ_cons, List.take_zero, List.forall_mem_cons]
        refine ⟨?o22, ?o23, ?o24, ?o25, ?o26, ?o27, ?o28, ?o29, fun _ h => by cases h⟩
        case o22 =>
          intro Q a w2 hC hV hI
          have e1 : a.eval (.tmp 1) = .iface 83 (.pointer (some ⟨g, 0, none⟩)) := (hI 1 (by simp [Op.operands]) (by kernel_rfl)).trans rfl
          have f1 : a.tmps.getD 1 undef = .iface 83 (.pointer (some ⟨g, 0, none⟩)) := e1
          have g1 : a.tmps[1]?.getD undef = .iface 83 (.pointer (some ⟨g, 0, none⟩)) := by rw [← Array.getD_eq_getD_getElem?]; exact e1
          refine op_val (.iface 83 (.pointer (some ⟨g, 0, none⟩))) ?_ hC (Below.refl _ _) (by intro d hd; cases hd; rfl)
          (clear hV hI hC; go_simp <;> (first | rfl | simp | (rw [IntKind.wrap_i64]; omega)))
        case o23 =>
          intro Q a w2 hC hV hI
          have e0 : a.eval (.tmp 0) = .pointer (some ⟨gh, 0, none⟩) := (hI 0 (by simp [Op.operands]) (by kernel_rfl)).trans rfl
          have f0 : a.tmps.getD 0 undef = .pointer (some ⟨gh, 0, none⟩) := e0
          have g0 : a.tmps[0]?.getD undef = .pointer (some ⟨gh, 0, none⟩) := by rw [← Array.getD_eq_getD_getElem?]; exact e0
          refine op_val (.pointer (some ⟨gh, 0, none⟩)) ?_ hC (Below.refl _ _) (by intro d hd; cases hd; rfl)
          (clear hV hI hC; go_simp <;> (first | rfl | simp | (rw [IntKind.wrap_i64]; omega)))
        case o24 =>
          intro Q a w2 hC hV hI
          have e23 : a.eval (.tmp 23) = .pointer (some ⟨gh, 0, none⟩) := hV 23 (by simp [Op.operands]) (by kernel_rfl)
          have f23 : a.tmps.getD 23 undef = .pointer (some ⟨gh, 0, none⟩) := e23
          have g23 : a.tmps[23]?.getD undef = .pointer (some ⟨gh, 0, none⟩) := by rw [← Array.getD_eq_getD_getElem?]; exact e23
          refine op_val (.pointer (some ⟨gh, 0, none⟩)) ?_ hC (Below.refl _ _) (by intro d hd; cases hd; rfl)
          (clear hV hI hC; go_simp <;> (first | rfl | simp | (rw [IntKind.wrap_i64]; omega)))
        case o25 =>
          intro Q a w2 hC hV hI
          have e24 : a.eval (.tmp 24) = .pointer (some ⟨gh, 0, none⟩) := hV 24 (by simp [Op.operands]) (by kernel_rfl)
          have f24 : a.tmps.getD 24 undef = .pointer (some ⟨gh, 0, none⟩) := e24
          have g24 : a.tmps[24]?.getD undef = .pointer (some ⟨gh, 0, none⟩) := by rw [← Array.getD_eq_getD_getElem?]; exact e24
          refine op_val (.pointer (some ⟨gh, 0, none⟩)) ?_ hC (Below.refl _ _) (by intro d hd; cases hd; rfl)
          (clear hV hI hC; go_simp <;> (first | rfl | simp | (rw [IntKind.wrap_i64]; omega)))
        case o26 =>
          intro Q a w2 hC hV hI
          have e25 : a.eval (.tmp 25) = .pointer (some ⟨gh, 0, none⟩) := hV 25 (by simp [Op.operands]) (by kernel_rfl)
          have f25 : a.tmps.getD 25 undef = .pointer (some ⟨gh, 0, none⟩) := e25
          have g25 : a.tmps[25]?.getD undef = .pointer (some ⟨gh, 0, none⟩) := by rw [← Array.getD_eq_getD_getElem?]; exact e25
          refine op_val (.pointer (some ⟨gh, 0, none⟩)) ?_ hC (Below.refl _ _) (by intro d hd; cases hd; rfl)
          (clear hV hI hC; go_simp <;> (first | rfl | simp | (rw [IntKind.wrap_i64]; omega)))
        case o27 =>
          intro Q a w2 hC hV hI
          have e22 : a.eval (.tmp 22) = .iface 83 (.pointer (some ⟨g, 0, none⟩)) := hV 22 (by simp [Op.operands]) (by kernel_rfl)
          have f22 : a.tmps.getD 22 undef = .iface 83 (.pointer (some ⟨g, 0, none⟩)) := e22
          have g22 : a.tmps[22]?.getD undef = .iface 83 (.pointer (some ⟨g, 0, none⟩)) := by rw [← Array.getD_eq_getD_getElem?]; exact e22
          refine op_val (.func (.method "loop.example/g00413/impl.short") #[.iface 83 (.pointer (some ⟨g, 0, none⟩))] #[]) ?_ hC (Below.refl _ _) (by intro d hd; cases hd; rfl)
          (clear hV hI hC; go_simp <;> (first | rfl | simp | (rw [IntKind.wrap_i64]; omega)))
        case o28 =>
          intro Q a w2 hC hV hI
          have e27 : a.eval (.tmp 27) = .func (.method "loop.example/g00413/impl.short") #[.iface 83 (.pointer (some ⟨g, 0, none⟩))] #[] := hV 27 (by simp [Op.operands]) (by kernel_rfl)
          have f27 : a.tmps.getD 27 undef = .func (.method "loop.example/g00413/impl.short") #[.iface 83 (.pointer (some ⟨g, 0, none⟩))] #[] := e27
          have g27 : a.tmps[27]?.getD undef = .func (.method "loop.example/g00413/impl.short") #[.iface 83 (.pointer (some ⟨g, 0, none⟩))] #[] := by rw [← Array.getD_eq_getD_getElem?]; exact e27
          refine op_val (.func (.method "loop.example/g00413/impl.short") #[.iface 83 (.pointer (some ⟨g, 0, none⟩))] #[]) ?_ hC (Below.refl _ _) (by intro d hd; cases hd; rfl)
          (clear hV hI hC; go_simp <;> (first | rfl | simp | (rw [IntKind.wrap_i64]; omega)))
        case o29 =>
          intro Q a w2 hC hV hI
          have e22 : a.eval (.tmp 22) = .iface 83 (.pointer (some ⟨g, 0, none⟩)) := hV 22 (by simp [Op.operands]) (by kernel_rfl)
          have f22 : a.tmps.getD 22 undef = .iface 83 (.pointer (some ⟨g, 0, none⟩)) := e22
          have g22 : a.tmps[22]?.getD undef = .iface 83 (.pointer (some ⟨g, 0, none⟩)) := by rw [← Array.getD_eq_getD_getElem?]; exact e22
          refine op_val (.iface 83 (.pointer (some ⟨g, 0, none⟩))) ?_ hC (Below.refl _ _) (by intro d hd; cases hd; rfl)
          (clear hV hI hC; go_simp <;> (first | rfl | simp | (rw [IntKind.wrap_i64]; omega)))
      case hend =>
        intro f v3 hC hall
        simp only [List.take_succ_cons, List.take_zero, List.drop_succ_cons, List.drop_zero] at hall ⊢
        simp only [List.forall_mem_cons] at hall
        obtain ⟨h22, h23, h24, h25, h26, h27, h28, h29, _⟩ := hall
        replace h22 : f 22 = .iface 83 (.pointer (some ⟨g, 0, none⟩)) := h22 22 rfl
        replace h23 : f 23 = .pointer (some ⟨gh, 0, none⟩) := h23 23 rfl
        replace h24 : f 24 = .pointer (some ⟨gh, 0, none⟩) := h24 24 rfl
        replace h25 : f 25 = .pointer (some ⟨gh, 0, none⟩) := h25 25 rfl
        replace h26 : f 26 = .pointer (some ⟨gh, 0, none⟩) := h26 26 rfl
        replace h27 : f 27 = .func (.method "loop.example/g00413/impl.short") #[.iface 83 (.pointer (some ⟨g, 0, none⟩))] #[] := h27 27 rfl
        replace h28 : f 28 = .func (.method "loop.example/g00413/impl.short") #[.iface 83 (.pointer (some ⟨g, 0, none⟩))] #[] := h28 28 rfl
        replace h29 : f 29 = .iface 83 (.pointer (some ⟨g, 0, none⟩)) := h29 29 rfl
        simp only [putAll, Act.put, List.setIfInBounds_toArray, List.set_cons_succ, List.set_cons_zero, h22, h23, h24, h25, h26, h27, h28, h29]
        clear h22 h23 h24 h25 h26 h27 h28 h29
        have W3 := Lib.hid (HW2.out.below hC)
        have H3 := Lib.hid ((hC.block gh (by have := HW2.out.lt; omega)).trans HH2.out)
        have C3 := Lib.hid (B2.out.trans (hC.mono (by have := HW2.out.lt; omega)))
        clear hC HW2 HH2 B2
        have hx3 : v3.cell? ⟨gh, 0, none⟩ = some (.int .i64 c.Ino) := by simp [World.cell?, H3.out]
        have q3 := Lib.hid (short_w g gh 0 hi l2 r2 c.Ino v3 W3.out (by omega) hx3)
        clear hx3
        go_wp2_with fail
        refine q3.out.mono ?_
        rintro e w3 ⟨rfl, hw, hb⟩
        obtain ⟨l3, hl⟩ : ∃ l : List UInt8, l = l2 ++ (put16v c.Ino hi).data.toList := ⟨_, rfl⟩
        obtain ⟨r3, hr⟩ : ∃ r : Bool, r = (r2 || !r16 c.Ino) := ⟨_, rfl⟩
        have z3 : l3.length = 6 := by rw [hl, List.length_append, ba_len, put16_size]; omega
        rw [← hl] at hw HL
        rw [← hr] at hw HR
        have HW3 := Lib.hid hw
        have HH3 := Lib.hid ((hb.block gh hgh).trans H3.out)
        have B3 := Lib.hid (C3.out.trans hb)
        clear hw hb hl hr H3 W3 C3 q3 z2
        go_upto_region 4 with fail
        refine wp_region_cut 8 (by kernel_rfl) (fun w' => Below w3.heap.size w3 w') (fun x y => Below x.heap.size x y) (fun dq vq _ => match dq with | 31 => vq = .iface 83 (.pointer (some ⟨g, 0, none⟩)) | 32 => vq = .pointer (some ⟨gh, 0, none⟩) | 33 => vq = .pointer (some ⟨gh, 0, none⟩) | 34 => vq = .pointer (some ⟨gh, 0, none⟩) | 35 => vq = .pointer (some ⟨gh, 1, none⟩) | 36 => vq = .func (.method "loop.example/g00413/impl.short") #[.iface 83 (.pointer (some ⟨g, 0, none⟩))] #[] | 37 => vq = .func (.method "loop.example/g00413/impl.short") #[.iface 83 (.pointer (some ⟨g, 0, none⟩))] #[] | 38 => vq = .iface 83 (.pointer (some ⟨g, 0, none⟩)) | _ => True) (by kernel_rfl) (by kernel_rfl) ((Below.refl _ _).drew) (fun _ _ _ _ _ _ h => h) (by simp) ?hops ?hend
        case hops =>
          simp only [List.take_succ_cons, List.take_zero, List.forall_mem_cons]
          refine ⟨?o31, ?o32, ?o33, ?o34, ?o35, ?o36, ?o37, ?o38, fun _ h => by cases h⟩
          case o31 =>
            intro Q a w2 hC hV hI
            have e1 : a.eval (.tmp 1) = .iface 83 (.pointer (some ⟨g, 0, none⟩)) := (hI 1 (by simp [Op.operands]) (by kernel_rfl)).trans rfl
            have f1 : a.tmps.getD 1 undef = .iface 83 (.pointer (some ⟨g, 0, none⟩)) := e1
            have g1 : a.tmps[1]?.getD undef = .iface 83 (.pointer (some ⟨g, 0, none⟩)) := by rw [← Array.getD_eq_getD_getElem?]; exact e1
            refine op_val (.iface 83 (.pointer (some ⟨g, 0, none⟩))) ?_ hC (Below.refl _ _) (by intro d hd; cases hd; rfl)
            (clear hV hI hC; go_simp <;> (first | rfl | simp | (rw [IntKind.wrap_i64]; omega)))
          case o32 =>
            intro Q a w2 hC hV hI
            have e0 : a.eval (.tmp 0) = .pointer (some ⟨gh, 0, none⟩) := (hI 0 (by simp [Op.operands]) (by kernel_rfl)).trans rfl
            have f0 : a.tmps.getD 0 undef = .pointer (some ⟨gh, 0, none⟩) := e0
            have g0 : a.tmps[0]?.getD undef = .pointer (some ⟨gh, 0, none⟩) := by rw [← Array.getD_eq_getD_getElem?]; exact e0
            refine op_val (.pointer (some ⟨gh, 0, none⟩)) ?_ hC (Below.refl _ _) (by intro d hd; cases hd; rfl)
            (clear hV hI hC; go_simp <;> (first | rfl | simp | (rw [IntKind.wrap_i64]; omega)))
          case o33 =>
            intro Q a w2 hC hV hI
            have e32 : a.eval (.tmp 32) = .pointer (some ⟨gh, 0, none⟩) := hV 32 (by simp [Op.operands]) (by kernel_rfl)
            have f32 : a.tmps.getD 32 undef = .pointer (some ⟨gh, 0, none⟩) := e32
            have g32 : a.tmps[32]?.getD undef = .pointer (some ⟨gh, 0, none⟩) := by rw [← Array.getD_eq_getD_getElem?]; exact e32
            refine op_val (.pointer (some ⟨gh, 0, none⟩)) ?_ hC (Below.refl _ _) (by intro d hd; cases hd; rfl)
            (clear hV hI hC; go_simp <;> (first | rfl | simp | (rw [IntKind.wrap_i64]; omega)))
          case o34 =>
            intro Q a w2 hC hV hI
            have e33 : a.eval (.tmp 33) = .pointer (some ⟨gh, 0, none⟩) := hV 33 (by simp [Op.operands]) (by kernel_rfl)
            have f33 : a.tmps.getD 33 undef = .pointer (some ⟨gh, 0, none⟩) := e33
            have g33 : a.tmps[33]?.getD undef = .pointer (some ⟨gh, 0, none⟩) := by rw [← Array.getD_eq_getD_getElem?]; exact e33
            refine op_val (.pointer (some ⟨gh, 0, none⟩)) ?_ hC (Below.refl _ _) (by intro d hd; cases hd; rfl)
            (clear hV hI hC; go_simp <;> (first | rfl | simp | (rw [IntKind.wrap_i64]; omega)))
          case o35 =>
            intro Q a w2 hC hV hI
            have e34 : a.eval (.tmp 34) = .pointer (some ⟨gh, 0, none⟩) := hV 34 (by simp [Op.operands]) (by kernel_rfl)
            have f34 : a.tmps.getD 34 undef = .pointer (some ⟨gh, 0, none⟩) := e34
            have g34 : a.tmps[34]?.getD undef = .pointer (some ⟨gh, 0, none⟩) := by rw [← Array.getD_eq_getD_getElem?]; exact e34
            refine op_val (.pointer (some ⟨gh, 1, none⟩)) ?_ hC (Below.refl _ _) (by intro d hd; cases hd; rfl)
            (clear hV hI hC; go_simp <;> (first | rfl | simp | (rw [IntKind.wrap_i64]; omega)))
          case o36 =>
            intro Q a w2 hC hV hI
            have e31 : a.eval (.tmp 31) = .iface 83 (.pointer (some ⟨g, 0, none⟩)) := hV 31 (by simp [Op.operands]) (by kernel_rfl)
            have f31 : a.tmps.getD 31 undef = .iface 83 (.pointer (some ⟨g, 0, none⟩)) := e31
            have g31 : a.tmps[31]?.getD undef = .iface 83 (.pointer (some ⟨g, 0, none⟩)) := by rw [← Array.getD_eq_getD_getElem?]; exact e31
            refine op_val (.func (.method "loop.example/g00413/impl.short") #[.iface 83 (.pointer (some ⟨g, 0, none⟩))] #[]) ?_ hC (Below.refl _ _) (by intro d hd; cases hd; rfl)
            (clear hV hI hC; go_simp <;> (first | rfl | simp | (rw [IntKind.wrap_i64]; omega)))
          case o37 =>
            intro Q a w2 hC hV hI
            have e36 : a.eval (.tmp 36) = .func (.method "loop.example/g00413/impl.short") #[.iface 83 (.pointer (some ⟨g, 0, none⟩))] #[] := hV 36 (by simp [Op.operands]) (by kernel_rfl)
            have f36 : a.tmps.getD 36 undef = .func (.method "loop.example/g00413/impl.short") #[.iface 83 (.pointer (some ⟨g, 0, none⟩))] #[] := e36
            have g36 : a.tmps[36]?.getD undef = .func (.method "loop.example/g00413/impl.short") #[.iface 83 (.pointer (some ⟨g, 0, none⟩))] #[] := by rw [← Array.getD_eq_getD_getElem?]; exact e36
            refine op_val (.func (.method "loop.example/g00413/impl.short") #[.iface 83 (.pointer (some ⟨g, 0, none⟩))] #[]) ?_ hC (Below.refl _ _) (by intro d hd; cases hd; rfl)
            (clear hV hI hC; go_simp <;> (first | rfl | simp | (rw [IntKind.wrap_i64]; omega)))
          case o38 =>
            intro Q a w2 hC hV hI
            have e31 : a.eval (.tmp 31) = .iface 83 (.pointer (some ⟨g, 0, none⟩)) := hV 31 (by simp [Op.operands]) (by kernel_rfl)
            have f31 : a.tmps.getD 31 undef = .iface 83 (.pointer (some ⟨g, 0, none⟩)) := e31
            have g31 : a.tmps[31]?.getD undef = .iface 83 (.pointer (some ⟨g, 0, none⟩)) := by rw [← Array.getD_eq_getD_getElem?]; exact e31
            refine op_val (.iface 83 (.pointer (some ⟨g, 0, none⟩))) ?_ hC (Below.refl _ _) (by intro d hd; cases hd; rfl)
            (clear hV hI hC; go_simp <;> (first | rfl | simp | (rw [IntKind.wrap_i64]; omega)))
        case hend =>
          intro f v4 hC hall
          simp only [List.take_succ_cons, List.take_zero, List.drop_succ_cons, List.drop_zero] at hall ⊢
          simp only [List.forall_mem_cons] at hall
          obtain ⟨h31, h32, h33, h34, h35, h36, h37, h38, _⟩ := hall
          replace h31 : f 31 = .iface 83 (.pointer (some ⟨g, 0, none⟩)) := h31 31 rfl
          replace h32 : f 32 = .pointer (some ⟨gh, 0, none⟩) := h32 32 rfl
          replace h33 : f 33 = .pointer (some ⟨gh, 0, none⟩) := h33 33 rfl
          replace h34 : f 34 = .pointer (some ⟨gh, 0, none⟩) := h34 34 rfl
          replace h35 : f 35 = .pointer (some ⟨gh, 1, none⟩) := h35 35 rfl
          replace h36 : f 36 = .func (.method "loop.example/g00413/impl.short") #[.iface 83 (.pointer (some ⟨g, 0, none⟩))] #[] := h36 36 rfl
          replace h37 : f 37 = .func (.method "loop.example/g00413/impl.short") #[.iface 83 (.pointer (some ⟨g, 0, none⟩))] #[] := h37 37 rfl
          replace h38 : f 38 = .iface 83 (.pointer (some ⟨g, 0, none⟩)) := h38 38 rfl
          simp only [putAll, Act.put, List.setIfInBounds_toArray, List.set_cons_succ, List.set_cons_zero, h31, h32, h33, h34, h35, h36, h37, h38]
          clear h31 h32 h33 h34 h35 h36 h37 h38
          have W4 := Lib.hid (HW3.out.below hC)
          have H4 := Lib.hid ((hC.block gh (by have := HW3.out.lt; omega)).trans HH3.out)
          have C4 := Lib.hid (B3.out.trans (hC.mono (by have := HW3.out.lt; omega)))
          clear hC HW3 HH3 B3
          have hx4 : v4.cell? ⟨gh, 1, none⟩ = some (.int .i64 c.Mode) := by simp [World.cell?, H4.out]
          have q4 := Lib.hid (short_w g gh 1 hi l3 r3 c.Mode v4 W4.out (by omega) hx4)
          clear hx4
          go_wp2_with fail
          refine q4.out.mono ?_
          rintro e w4 ⟨rfl, hw, hb⟩
          obtain ⟨l4, hl⟩ : ∃ l : List UInt8, l = l3 ++ (put16v c.Mode hi).data.toList := ⟨_, rfl⟩
          obtain ⟨r4, hr⟩ : ∃ r : Bool, r = (r3 || !r16 c.Mode) := ⟨_, rfl⟩
          have z4 : l4.length = 8 := by rw [hl, List.length_append, ba_len, put16_size]; omega
          rw [← hl] at hw HL
          rw [← hr] at hw HR
          have HW4 := Lib.hid hw
          have HH4 := Lib.hid ((hb.block gh hgh).trans H4.out)
          have B4 := Lib.hid (C4.out.trans hb)
          clear hw hb hl hr H4 W4 C4 q4 z3
          go_upto_region 5 with fail
          refine wp_region_cut 8 (by kernel_rfl) (fun w' => Below w4.heap.size w4 w') (fun x y => Below x.heap.size x y) (fun dq vq _ => match dq with | 40 => vq = .iface 83 (.pointer (some ⟨g, 0, none⟩)) | 41 => vq = .pointer (some ⟨gh, 0, none⟩) | 42 => vq = .pointer (some ⟨gh, 0, none⟩) | 43 => vq = .pointer (some ⟨gh, 0, none⟩) | 44 => vq = .pointer (some ⟨gh, 2, none⟩) | 45 => vq = .func (.method "loop.example/g00413/impl.short") #[.iface 83 (.pointer (some ⟨g, 0, none⟩))] #[] | 46 => vq = .func (.method "loop.example/g00413/impl.short") #[.iface 83 (.pointer (some ⟨g, 0, none⟩))] #[] | 47 => vq = .iface 83 (.pointer (some ⟨g, 0, none⟩)) | _ => True) (by kernel_rfl) (by kernel_rfl) ((Below.refl _ _).drew) (fun _ _ _ _ _ _ h => h) (by simp) ?hops ?hend
          case hops =>
            simp only [List.take_succ_cons, List.take_zero, List.forall_mem_cons]
            refine ⟨?o40, ?o41, ?o42, ?o43, ?o44, ?o45, ?o46, ?o47, fun _ h => by cases h⟩
            case o40 =>
              intro Q a w2 hC hV hI
              have e1 : a.eval (.tmp 1) = .iface 83 (.pointer (some ⟨g, 0, none⟩)) := (hI 1 (by simp [Op.operands]) (by kernel_rfl)).trans rfl
              have f1 : a.tmps.getD 1 undef = .iface 83 (.pointer (some ⟨g, 0, none⟩)) := e1
              have g1 : a.tmps[1]?.getD undef = .iface 83 (.pointer (some ⟨g, 0, none⟩)) := by rw [← Array.getD_eq_getD_getElem?]; exact e1
              refine op_val (.iface 83 (.pointer (some ⟨g, 0, none⟩))) ?_ hC (Below.refl _ _) (by intro d hd; cases hd; rfl)
              (clear hV hI hC; go_simp <;> (first | rfl | simp | (rw [IntKind.wrap_i64]; omega)))
            case o41 =>
              intro Q a w2 hC hV hI
              have e0 : a.eval (.tmp 0) = .pointer (some ⟨gh, 0, none⟩) := (hI 0 (by simp [Op.operands]) (by kernel_rfl)).trans rfl
              have f0 : a.tmps.getD 0 undef = .pointer (some ⟨gh, 0, none⟩) := e0
              have g0 : a.tmps[0]?.getD undef = .pointer (some ⟨gh, 0, none⟩) := by rw [← Array.getD_eq_getD_getElem?]; exact e0
              refine op_val (.pointer (some ⟨gh, 0, none⟩)) ?_ hC (Below.refl _ _) (by intro d hd; cases hd; rfl)
              (clear hV hI hC; go_simp <;> (first | rfl | simp | (rw [IntKind.wrap_i64]; omega)))
            case o42 =>
              intro Q a w2 hC hV hI
              have e41 : a.eval (.tmp 41) = .pointer (some ⟨gh, 0, none⟩) := hV 41 (by simp [Op.operands]) (by kernel_rfl)
              have f41 : a.tmps.getD 41 undef = .pointer (some ⟨gh, 0, none⟩) := e41
              have g41 : a.tmps[41]?.getD undef = .pointer (some ⟨gh, 0, none⟩) := by rw [← Array.getD_eq_getD_getElem?]; exact e41
              refine op_val (.pointer (some ⟨gh, 0, none⟩)) ?_ hC (Below.refl _ _) (by intro d hd; cases hd; rfl)
              (clear hV hI hC; go_simp <;> (first | rfl | simp | (rw [IntKind.wrap_i64]; omega)))
            case o43 =>
              intro Q a w2 hC hV hI
              have e42 : a.eval (.tmp 42) = .pointer (some ⟨gh, 0, none⟩) := hV 42 (by simp [Op.operands]) (by kernel_rfl)
              have f42 : a.tmps.getD 42 undef = .pointer (some ⟨gh, 0, none⟩) := e42
              have g42 : a.tmps[42]?.getD undef = .pointer (some ⟨gh, 0, none⟩) := by rw [← Array.getD_eq_getD_getElem?]; exact e42
              refine op_val (.pointer (some ⟨gh, 0, none⟩)) ?_ hC (Below.refl _ _) (by intro d hd; cases hd; rfl)
              (clear hV hI hC; go_simp <;> (first | rfl | simp | (rw [IntKind.wrap_i64]; omega)))
            case o44 =>
              intro Q a w2 hC hV hI
              have e43 : a.eval (.tmp 43) = .pointer (some ⟨gh, 0, none⟩) := hV 43 (by simp [Op.operands]) (by kernel_rfl)
              have f43 : a.tmps.getD 43 undef = .pointer (some ⟨gh, 0, none⟩) := e43
              have g43 : a.tmps[43]?.getD undef = .pointer (some ⟨gh, 0, none⟩) := by rw [← Array.getD_eq_getD_getElem?]; exact e43
              refine op_val (.pointer (some ⟨gh, 2, none⟩)) ?_ hC (Below.refl _ _) (by intro d hd; cases hd; rfl)
              (clear hV hI hC; go_simp <;> (first | rfl | simp | (rw [IntKind.wrap_i64]; omega)))
            case o45 =>
              intro Q a w2 hC hV hI
              have e40 : a.eval (.tmp 40) = .iface 83 (.pointer (some ⟨g, 0, none⟩)) := hV 40 (by simp [Op.operands]) (by kernel_rfl)
              have f40 : a.tmps.getD 40 undef = .iface 83 (.pointer (some ⟨g, 0, none⟩)) := e40
              have g40 : a.tmps[40]?.getD undef = .iface 83 (.pointer (some ⟨g, 0, none⟩)) := by rw [← Array.getD_eq_getD_getElem?]; exact e40
              refine op_val (.func (.method "loop.example/g00413/impl.short") #[.iface 83 (.pointer (some ⟨g, 0, none⟩))] #[]) ?_ hC (Below.refl _ _) (by intro d hd; cases hd; rfl)
              (clear hV hI hC; go_simp <;> (first | rfl | simp | (rw [IntKind.wrap_i64]; omega)))
            case o46 =>
              intro Q a w2 hC hV hI
              have e45 : a.eval (.tmp 45) = .func (.method "loop.example/g00413/impl.short") #[.iface 83 (.pointer (some ⟨g, 0, none⟩))] #[] := hV 45 (by simp [Op.operands]) (by kernel_rfl)
              have f45 : a.tmps.getD 45 undef = .func (.method "loop.example/g00413/impl.short") #[.iface 83 (.pointer (some ⟨g, 0, none⟩))] #[] := e45
              have g45 : a.tmps[45]?.getD undef = .func (.method "loop.example/g00413/impl.short") #[.iface 83 (.pointer (some ⟨g, 0, none⟩))] #[] := by rw [← Array.getD_eq_getD_getElem?]; exact e45
              refine op_val (.func (.method "loop.example/g00413/impl.short") #[.iface 83 (.pointer (some ⟨g, 0, none⟩))] #[]) ?_ hC (Below.refl _ _) (by intro d hd; cases hd; rfl)
              (clear hV hI hC; go_simp <;> (first | rfl | simp | (rw [IntKind.wrap_i64]; omega)))
            case o47 =>
              intro Q a w2 hC hV hI
              have e40 : a.eval (.tmp 40) = .iface 83 (.pointer (some ⟨g, 0, none⟩)) := hV 40 (by simp [Op.operands]) (by kernel_rfl)
              have f40 : a.tmps.getD 40 undef = .iface 83 (.pointer (some ⟨g, 0, none⟩)) := e40
              have g40 : a.tmps[40]?.getD undef = .iface 83 (.pointer (some ⟨g, 0, none⟩)) := by rw [← Array.getD_eq_getD_getElem?]; exact e40
              refine op_val (.iface 83 (.pointer (some ⟨g, 0, none⟩))) ?_ hC (Below.refl _ _) (by intro d hd; cases hd; rfl)
              (clear hV hI hC; go_simp <;> (first | rfl | simp | (rw [IntKind.wrap_i64]; omega)))
          case hend =>
            intro f v5 hC hall
            simp only [List.take_succ_cons, List.take_zero, List.drop_succ_cons, List.drop_zero] at hall ⊢
            simp only [List.forall_mem_cons] at hall
            obtain ⟨h40, h41, h42, h43, h44, h45, h46, h47, _⟩ := hall
            replace h40 : f 40 = .iface 83 (.pointer (some ⟨g, 0, none⟩)) := h40 40 rfl
            replace h41 : f 41 = .pointer (some ⟨gh, 0, none⟩) := h41 41 rfl
            replace h42 : f 42 = .pointer (some ⟨gh, 0, none⟩) := h42 42 rfl
            replace h43 : f 43 = .pointer (some ⟨gh, 0, none⟩) := h43 43 rfl
            replace h44 : f 44 = .pointer (some ⟨gh, 2, none⟩) := h44 44 rfl
            replace h45 : f 45 = .func (.method "loop.example/g00413/impl.short") #[.iface 83 (.pointer (some ⟨g, 0, none⟩))] #[] := h45 45 rfl
            replace h46 : f 46 = .func (.method "loop.example/g00413/impl.short") #[.iface 83 (.pointer (some ⟨g, 0, none⟩))] #[] := h46 46 rfl
            replace h47 : f 47 = .iface 83 (.pointer (some ⟨g, 0, none⟩)) := h47 47 rfl
            simp only [putAll, Act.put, List.setIfInBounds_toArray, List.set_cons_succ, List.set_cons_zero, h40, h41, h42, h43, h44, h45, h46, h47]
            clear h40 h41 h42 h43 h44 h45 h46 h47
            have W5 := Lib.hid (HW4.out.below hC)
            have H5 := Lib.hid ((hC.block gh (by have := HW4.out.lt; omega)).trans HH4.out)
            have C5 := Lib.hid (B4.out.trans (hC.mono (by have := HW4.out.lt; omega)))
            clear hC HW4 HH4 B4
            have hx5 : v5.cell? ⟨gh, 2, none⟩ = some (.int .i64 c.Uid) := by simp [World.cell?, H5.out]
            have q5 := Lib.hid (short_w g gh 2 hi l4 r4 c.Uid v5 W5.out (by omega) hx5)
            clear hx5
            go_wp2_with fail
            refine q5.out.mono ?_
            rintro e w5 ⟨rfl, hw, hb⟩
            obtain ⟨l5, hl⟩ : ∃ l : List UInt8, l = l4 ++ (put16v c.Uid hi).data.toList := ⟨_, rfl⟩
            obtain ⟨r5, hr⟩ : ∃ r : Bool, r = (r4 || !r16 c.Uid) := ⟨_, rfl⟩
            have z5 : l5.length = 10 := by rw [hl, List.length_append, ba_len, put16_size]; omega
            rw [← hl] at hw HL
            rw [← hr] at hw HR
            have HW5 := Lib.hid hw
            have HH5 := Lib.hid ((hb.block gh hgh).trans H5.out)
            have B5 := Lib.hid (C5.out.trans hb)
            clear hw hb hl hr H5 W5 C5 q5 z4
            go_upto_region 6 with fail
            refine wp_region_cut 8 (by kernel_rfl) (fun w' => Below w5.heap.size w5 w') (fun x y => Below x.heap.size x y) (fun dq vq _ => match dq with | 49 => vq = .iface 83 (.pointer (some ⟨g, 0, none⟩)) | 50 => vq = .pointer (some ⟨gh, 0, none⟩) | 51 => vq = .pointer (some ⟨gh, 0, none⟩) | 52 => vq = .pointer (some ⟨gh, 0, none⟩) | 53 => vq = .pointer (some ⟨gh, 3, none⟩) | 54 => vq = .func (.method "loop.example/g00413/impl.short") #[.iface 83 (.pointer (some ⟨g, 0, none⟩))] #[] | 55 => vq = .func (.method "loop.example/g00413/impl.short") #[.iface 83 (.pointer (some ⟨g, 0, none⟩))] #[] | 56 => vq = .iface 83 (.pointer (some ⟨g, 0, none⟩)) | _ => True) (by kernel_rfl) (by kernel_rfl) ((Below.refl _ _).drew) (fun _ _ _ _ _ _ h => h) (by simp) ?hops ?hend
            case hops =>
              simp only [List.take_succ_cons, List.take_zero, List.forall_mem_cons]
              refine ⟨?o49, ?o50, ?o51, ?o52, ?o53, ?o54, ?o55, ?o56, fun _ h => by cases h⟩
              case o49 =>
                intro Q a w2 hC hV hI
                have e1 : a.eval (.tmp 1) = .iface 83 (.pointer (some ⟨g, 0, none⟩)) := (hI 1 (by simp [Op.operands]) (by kernel_rfl)).trans rfl
                have f1 : a.tmps.getD 1 undef = .iface 83 (.pointer (some ⟨g, 0, none⟩)) := e1
                have g1 : a.tmps[1]?.getD undef = .iface 83 (.pointer (some ⟨g, 0, none⟩)) := by rw [← Array.getD_eq_getD_getElem?]; exact e1
                refine op_val (.iface 83 (.pointer (some ⟨g, 0, none⟩))) ?_ hC (Below.refl _ _) (by intro d hd; cases hd; rfl)
                (clear hV hI hC; go_simp <;> (first | rfl | simp | (rw [IntKind.wrap_i64]; omega)))
              case o50 =>
                intro Q a w2 hC hV hI
                have e0 : a.eval (.tmp 0) = .pointer (some ⟨gh, 0, none⟩) := (hI 0 (by simp [Op.operands]) (by kernel_rfl)).trans rfl
                have f0 : a.tmps.getD 0 undef = .pointer (some ⟨gh, 0, none⟩) := e0
                have g0 : a.tmps[0]?.getD undef = .pointer (some ⟨gh, 0, none⟩) := by rw [← Array.getD_eq_getD_getElem?]; exact e0
                refine op_val (.pointer (some ⟨gh, 0, none⟩)) ?_ hC (Below.refl _ _) (by intro d hd; cases hd; rfl)
                (clear hV hI hC; go_simp <;> (first | rfl | simp | (rw [IntKind.wrap_i64]; omega)))
              case o51 =>
                intro Q a w2 hC hV hI
                have e50 : a.eval (.tmp 50) = .pointer (some ⟨gh, 0, none⟩) := hV 50 (by simp [Op.operands]) (by kernel_rfl)
                have f50 : a.tmps.getD 50 undef = .pointer (some ⟨gh, 0, none⟩) := e50
                have g50 : a.tmps[50]?.getD undef = .pointer (some ⟨gh, 0, none⟩) := by rw [← Array.getD_eq_getD_getElem?]; exact e50
                refine op_val (.pointer (some ⟨gh, 0, none⟩)) ?_ hC (Below.refl _ _) (by intro d hd; cases hd; rfl)
                (clear hV hI hC; go_simp <;> (first | rfl | simp | (rw [IntKind.wrap_i64]; omega)))
              case o52 =>
                intro Q a w2 hC hV hI
                have e51 : a.eval (.tmp 51) = .pointer (some ⟨gh, 0, none⟩) := hV 51 (by simp [Op.operands]) (by kernel_rfl)
                have f51 : a.tmps.getD 51 undef = .pointer (some ⟨gh, 0, none⟩) := e51
                have g51 : a.tmps[51]?.getD undef = .pointer (some ⟨gh, 0, none⟩) := by rw [← Array.getD_eq_getD_getElem?]; exact e51
                refine op_val (.pointer (some ⟨gh, 0, none⟩)) ?_ hC (Below.refl _ _) (by intro d hd; cases hd; rfl)
                (clear hV hI hC; go_simp <;> (first | rfl | simp | (rw [IntKind.wrap_i64]; omega)))
              case o53 =>
                intro Q a w2 hC hV hI
                have e52 : a.eval (.tmp 52) = .pointer (some ⟨gh, 0, none⟩) := hV 52 (by simp [Op.operands]) (by kernel_rfl)
                have f52 : a.tmps.getD 52 undef = .pointer (some ⟨gh, 0, none⟩) := e52
                have g52 : a.tmps[52]?.getD undef = .pointer (some ⟨gh, 0, none⟩) := by rw [← Array.getD_eq_getD_getElem?]; exact e52
                refine op_val (.pointer (some ⟨gh, 3, none⟩)) ?_ hC (Below.refl _ _) (by intro d hd; cases hd; rfl)
                (clear hV hI hC; go_simp <;> (first | rfl | simp | (rw [IntKind.wrap_i64]; omega)))
              case o54 =>
                intro Q a w2 hC hV hI
                have e49 : a.eval (.tmp 49) = .iface 83 (.pointer (some ⟨g, 0, none⟩)) := hV 49 (by simp [Op.operands]) (by kernel_rfl)
                have f49 : a.tmps.getD 49 undef = .iface 83 (.pointer (some ⟨g, 0, none⟩)) := e49
                have g49 : a.tmps[49]?.getD undef = .iface 83 (.pointer (some ⟨g, 0, none⟩)) := by rw [← Array.getD_eq_getD_getElem?]; exact e49
                refine op_val (.func (.method "loop.example/g00413/impl.short") #[.iface 83 (.pointer (some ⟨g, 0, none⟩))] #[]) ?_ hC (Below.refl _ _) (by intro d hd; cases hd; rfl)
                (clear hV hI hC; go_simp <;> (first | rfl | simp | (rw [IntKind.wrap_i64]; omega)))
              case o55 =>
                intro Q a w2 hC hV hI
                have e54 : a.eval (.tmp 54) = .func (.method "loop.example/g00413/impl.short") #[.iface 83 (.pointer (some ⟨g, 0, none⟩))] #[] := hV 54 (by simp [Op.operands]) (by kernel_rfl)
                have f54 : a.tmps.getD 54 undef = .func (.method "loop.example/g00413/impl.short") #[.iface 83 (.pointer (some ⟨g, 0, none⟩))] #[] := e54
                have g54 : a.tmps[54]?.getD undef = .func (.method "loop.example/g00413/impl.short") #[.iface 83 (.pointer (some ⟨g, 0, none⟩))] #[] := by rw [← Array.getD_eq_getD_getElem?]; exact e54
                refine op_val (.func (.method "loop.example/g00413/impl.short") #[.iface 83 (.pointer (some ⟨g, 0, none⟩))] #[]) ?_ hC (Below.refl _ _) (by intro d hd; cases hd; rfl)
                (clear hV hI hC; go_simp <;> (first | rfl | simp | (rw [IntKind.wrap_i64]; omega)))
              case o56 =>
                intro Q a w2 hC hV hI
                have e49 : a.eval (.tmp 49) = .iface 83 (.pointer (some ⟨g, 0, none⟩)) := hV 49 (by simp [Op.operands]) (by kernel_rfl)
                have f49 : a.tmps.getD 49 undef = .iface 83 (.pointer (some ⟨g, 0, none⟩)) := e49
                have g49 : a.tmps[49]?.getD undef = .iface 83 (.pointer (some ⟨g, 0, none⟩)) := by rw [← Array.getD_eq_getD_getElem?]; exact e49
                refine op_val (.iface 83 (.pointer (some ⟨g, 0, none⟩))) ?_ hC (Below.refl _ _) (by intro d hd; cases hd; rfl)
                (clear hV hI hC; go_simp <;> (first | rfl | simp | (rw [IntKind.wrap_i64]; omega)))
            case hend =>
              intro f v6 hC hall
              simp only [List.take_succ_cons, List.take_zero, List.drop_succ_cons, List.drop_zero] at hall ⊢
              simp only [List.forall_mem_cons] at hall
              obtain ⟨h49, h50, h51, h52, h53, h54, h55, h56, _⟩ := hall
              replace h49 : f 49 = .iface 83 (.pointer (some ⟨g, 0, none⟩)) := h49 49 rfl
              replace h50 : f 50 = .pointer (some ⟨gh, 0, none⟩) := h50 50 rfl
              replace h51 : f 51 = .pointer (some ⟨gh, 0, none⟩) := h51 51 rfl
              replace h52 : f 52 = .pointer (some ⟨gh, 0, none⟩) := h52 52 rfl
              replace h53 : f 53 = .pointer (some ⟨gh, 3, none⟩) := h53 53 rfl
              replace h54 : f 54 = .func (.method "loop.example/g00413/impl.short") #[.iface 83 (.pointer (some ⟨g, 0, none⟩))] #[] := h54 54 rfl
              replace h55 : f 55 = .func (.method "loop.example/g00413/impl.short") #[.iface 83 (.pointer (some ⟨g, 0, none⟩))] #[] := h55 55 rfl
              replace h56 : f 56 = .iface 83 (.pointer (some ⟨g, 0, none⟩)) := h56 56 rfl
              simp only [putAll, Act.put, List.setIfInBounds_toArray, List.set_cons_succ, List.set_cons_zero, h49, h50, h51, h52, h53, h54, h55, h56]
              clear h49 h50 h51 h52 h53 h54 h55 h56
              have W6 := Lib.hid (HW5.out.below hC)
              have H6 := Lib.hid ((hC.block gh (by have := HW5.out.lt; omega)).trans HH5.out)
              have C6 := Lib.hid (B5.out.trans (hC.mono (by have := HW5.out.lt; omega)))
              clear hC HW5 HH5 B5
              have hx6 : v6.cell? ⟨gh, 3, none⟩ = some (.int .i64 c.Gid) := by simp [World.cell?, H6.out]
              have q6 := Lib.hid (short_w g gh 3 hi l5 r5 c.Gid v6 W6.out (by omega) hx6)
              clear hx6
              go_wp2_with fail
              refine q6.out.mono ?_
              rintro e w6 ⟨rfl, hw, hb⟩
              obtain ⟨l6, hl⟩ : ∃ l : List UInt8, l = l5 ++ (put16v c.Gid hi).data.toList := ⟨_, rfl⟩
              obtain ⟨r6, hr⟩ : ∃ r : Bool, r = (r5 || !r16 c.Gid) := ⟨_, rfl⟩
              have z6 : l6.length = 12 := by rw [hl, List.length_append, ba_len, put16_size]; omega
              rw [← hl] at hw HL
              rw [← hr] at hw HR
              have HW6 := Lib.hid hw
              have HH6 := Lib.hid ((hb.block gh hgh).trans H6.out)
              have B6 := Lib.hid (C6.out.trans hb)
              clear hw hb hl hr H6 W6 C6 q6 z5
              go_upto_region 7 with fail
              refine wp_region_cut 8 (by kernel_rfl) (fun w' => Below w6.heap.size w6 w') (fun x y => Below x.heap.size x y) (fun dq vq _ => match dq with | 58 => vq = .iface 83 (.pointer (some ⟨g, 0, none⟩)) | 59 => vq = .pointer (some ⟨gh, 0, none⟩) | 60 => vq = .pointer (some ⟨gh, 0, none⟩) | 61 => vq = .pointer (some ⟨gh, 0, none⟩) | 62 => vq = .pointer (some ⟨gh, 4, none⟩) | 63 => vq = .func (.method "loop.example/g00413/impl.short") #[.iface 83 (.pointer (some ⟨g, 0, none⟩))] #[] | 64 => vq = .func (.method "loop.example/g00413/impl.short") #[.iface 83 (.pointer (some ⟨g, 0, none⟩))] #[] | 65 => vq = .iface 83 (.pointer (some ⟨g, 0, none⟩)) | _ => True) (by kernel_rfl) (by kernel_rfl) ((Below.refl _ _).drew) (fun _ _ _ _ _ _ h => h) (by simp) ?hops ?hend
              case hops =>
                simp only [List.take_succ_cons, List.take_zero, List.forall_mem_cons]
                refine ⟨?o58, ?o59, ?o60, ?o61, ?o62, ?o63, ?o64, ?o65, fun _ h => by cases h⟩
                case o58 =>
                  intro Q a w2 hC hV hI
                  have e1 : a.eval (.tmp 1) = .iface 83 (.pointer (some ⟨g, 0, none⟩)) := (hI 1 (by simp [Op.operands]) (by kernel_rfl)).trans rfl
                  have f1 : a.tmps.getD 1 undef = .iface 83 (.pointer (some ⟨g, 0, none⟩)) := e1
                  have g1 : a.tmps[1]?.getD undef = .iface 83 (.pointer (some ⟨g, 0, none⟩)) := by rw [← Array.getD_eq_getD_getElem?]; exact e1
                  refine op_val (.iface 83 (.pointer (some ⟨g, 0, none⟩))) ?_ hC (Below.refl _ _) (by intro d hd; cases hd; rfl)
                  (clear hV hI hC; go_simp <;> (first | rfl | simp | (rw [IntKind.wrap_i64]; omega)))
                case o59 =>
                  intro Q a w2 hC hV hI
                  have e0 : a.eval (.tmp 0) = .pointer (some ⟨gh, 0, none⟩) := (hI 0 (by simp [Op.operands]) (by kernel_rfl)).trans rfl
                  have f0 : a.tmps.getD 0 undef = .pointer (some ⟨gh, 0, none⟩) := e0
                  have g0 : a.tmps[0]?.getD undef = .pointer (some ⟨gh, 0, none⟩) := by rw [← Array.getD_eq_getD_getElem?]; exact e0
                  refine op_val (.pointer (some ⟨gh, 0, none⟩)) ?_ hC (Below.refl _ _) (by intro d hd; cases hd; rfl)
                  (clear hV hI hC; go_simp <;> (first | rfl | simp | (rw [IntKind.wrap_i64]; omega)))
                case o60 =>
                  intro Q a w2 hC hV hI
                  have e59 : a.eval (.tmp 59) = .pointer (some ⟨gh, 0, none⟩) := hV 59 (by simp [Op.operands]) (by kernel_rfl)
                  have f59 : a.tmps.getD 59 undef = .pointer (some ⟨gh, 0, none⟩) := e59
                  have g59 : a.tmps[59]?.getD undef = .pointer (some ⟨gh, 0, none⟩) := by rw [← Array.getD_eq_getD_getElem?]; exact e59
                  refine op_val (.pointer (some ⟨gh, 0, none⟩)) ?_ hC (Below.refl _ _) (by intro d hd; cases hd; rfl)
                  (clear hV hI hC; go_simp <;> (first | rfl | simp | (rw [IntKind.wrap_i64]; omega)))
                case o61 =>
                  intro Q a w2 hC hV hI
                  have e60 : a.eval (.tmp 60) = .pointer (some ⟨gh, 0, none⟩) := hV 60 (by simp [Op.operands]) (by kernel_rfl)
                  have f60 : a.tmps.getD 60 undef = .pointer (some ⟨gh, 0, none⟩) := e60
                  have g60 : a.tmps[60]?.getD undef = .pointer (some ⟨gh, 0, none⟩) := by rw [← Array.getD_eq_getD_getElem?]; exact e60
                  refine op_val (.pointer (some ⟨gh, 0, none⟩)) ?_ hC (Below.refl _ _) (by intro d hd; cases hd; rfl)
                  (clear hV hI hC; go_simp <;> (first | rfl | simp | (rw [IntKind.wrap_i64]; omega)))
                case o62 =>
                  intro Q a w2 hC hV hI
                  have e61 : a.eval (.tmp 61) = .pointer (some ⟨gh, 0, none⟩) := hV 61 (by simp [Op.operands]) (by kernel_rfl)
                  have f61 : a.tmps.getD 61 undef = .pointer (some ⟨gh, 0, none⟩) := e61
                  have g61 : a.tmps[61]?.getD undef = .pointer (some ⟨gh, 0, none⟩) := by rw [← Array.getD_eq_getD_getElem?]; exact e61
                  refine op_val (.pointer (some ⟨gh, 4, none⟩)) ?_ hC (Below.refl _ _) (by intro d hd; cases hd; rfl)
                  (clear hV hI hC; go_simp <;> (first | rfl | simp | (rw [IntKind.wrap_i64]; omega)))
                case o63 =>
                  intro Q a w2 hC hV hI
                  have e58 : a.eval (.tmp 58) = .iface 83 (.pointer (some ⟨g, 0, none⟩)) := hV 58 (by simp [Op.operands]) (by kernel_rfl)
                  have f58 : a.tmps.getD 58 undef = .iface 83 (.pointer (some ⟨g, 0, none⟩)) := e58
                  have g58 : a.tmps[58]?.getD undef = .iface 83 (.pointer (some ⟨g, 0, none⟩)) := by rw [← Array.getD_eq_getD_getElem?]; exact e58
                  refine op_val (.func (.method "loop.example/g00413/impl.short") #[.iface 83 (.pointer (some ⟨g, 0, none⟩))] #[]) ?_ hC (Below.refl _ _) (by intro d hd; cases hd; rfl)
                  (clear hV hI hC; go_simp <;> (first | rfl | simp | (rw [IntKind.wrap_i64]; omega)))
                case o64 =>
                  intro Q a w2 hC hV hI
                  have e63 : a.eval (.tmp 63) = .func (.method "loop.example/g00413/impl.short") #[.iface 83 (.pointer (some ⟨g, 0, none⟩))] #[] := hV 63 (by simp [Op.operands]) (by kernel_rfl)
                  have f63 : a.tmps.getD 63 undef = .func (.method "loop.example/g00413/impl.short") #[.iface 83 (.pointer (some ⟨g, 0, none⟩))] #[] := e63
                  have g63 : a.tmps[63]?.getD undef = .func (.method "loop.example/g00413/impl.short") #[.iface 83 (.pointer (some ⟨g, 0, none⟩))] #[] := by rw [← Array.getD_eq_getD_getElem?]; exact e63
                  refine op_val (.func (.method "loop.example/g00413/impl.short") #[.iface 83 (.pointer (some ⟨g, 0, none⟩))] #[]) ?_ hC (Below.refl _ _) (by intro d hd; cases hd; rfl)
                  (clear hV hI hC; go_simp <;> (first | rfl | simp | (rw [IntKind.wrap_i64]; omega)))
                case o65 =>
                  intro Q a w2 hC hV hI
                  have e58 : a.eval (.tmp 58) = .iface 83 (.pointer (some ⟨g, 0, none⟩)) := hV 58 (by simp [Op.operands]) (by kernel_rfl)
                  have f58 : a.tmps.getD 58 undef = .iface 83 (.pointer (some ⟨g, 0, none⟩)) := e58
                  have g58 : a.tmps[58]?.getD undef = .iface 83 (.pointer (some ⟨g, 0, none⟩)) := by rw [← Array.getD_eq_getD_getElem?]; exact e58
                  refine op_val (.iface 83 (.pointer (some ⟨g, 0, none⟩))) ?_ hC (Below.refl _ _) (by intro d hd; cases hd; rfl)
                  (clear hV hI hC; go_simp <;> (first | rfl | simp | (rw [IntKind.wrap_i64]; omega)))
              case hend =>
                intro f v7 hC hall
                simp only [List.take_succ_cons, List.take_zero, List.drop_succ_cons, List.drop_zero] at hall ⊢
                simp only [List.forall_mem_cons] at hall
                obtain ⟨h58, h59, h60, h61, h62, h63, h64, h65, _⟩ := hall
                replace h58 : f 58 = .iface 83 (.pointer (some ⟨g, 0, none⟩)) := h58 58 rfl
                replace h59 : f 59 = .pointer (some ⟨gh, 0, none⟩) := h59 59 rfl
                replace h60 : f 60 = .pointer (some ⟨gh, 0, none⟩) := h60 60 rfl
                replace h61 : f 61 = .pointer (some ⟨gh, 0, none⟩) := h61 61 rfl
                replace h62 : f 62 = .pointer (some ⟨gh, 4, none⟩) := h62 62 rfl
                replace h63 : f 63 = .func (.method "loop.example/g00413/impl.short") #[.iface 83 (.pointer (some ⟨g, 0, none⟩))] #[] := h63 63 rfl
                replace h64 : f 64 = .func (.method "loop.example/g00413/impl.short") #[.iface 83 (.pointer (some ⟨g, 0, none⟩))] #[] := h64 64 rfl
                replace h65 : f 65 = .iface 83 (.pointer (some ⟨g, 0, none⟩)) := h65 65 rfl
                simp only [putAll, Act.put, List.setIfInBounds_toArray, List.set_cons_succ, List.set_cons_zero, h58, h59, h60, h61, h62, h63, h64, h65]
                clear h58 h59 h60 h61 h62 h63 h64 h65
                have W7 := Lib.hid (HW6.out.below hC)
                have H7 := Lib.hid ((hC.block gh (by have := HW6.out.lt; omega)).trans HH6.out)
                have C7 := Lib.hid (B6.out.trans (hC.mono (by have := HW6.out.lt; omega)))
                clear hC HW6 HH6 B6
                have hx7 : v7.cell? ⟨gh, 4, none⟩ = some (.int .i64 c.Count) := by simp [World.cell?, H7.out]
                have q7 := Lib.hid (short_w g gh 4 hi l6 r6 c.Count v7 W7.out (by omega) hx7)
                clear hx7
                go_wp2_with fail
                refine q7.out.mono ?_
                rintro e w7 ⟨rfl, hw, hb⟩
                obtain ⟨l7, hl⟩ : ∃ l : List UInt8, l = l6 ++ (put16v c.Count hi).data.toList := ⟨_, rfl⟩
                obtain ⟨r7, hr⟩ : ∃ r : Bool, r = (r6 || !r16 c.Count) := ⟨_, rfl⟩
                have z7 : l7.length = 14 := by rw [hl, List.length_append, ba_len, put16_size]; omega
                rw [← hl] at hw HL
                rw [← hr] at hw HR
                have HW7 := Lib.hid hw
                have HH7 := Lib.hid ((hb.block gh hgh).trans H7.out)
                have B7 := Lib.hid (C7.out.trans hb)
                clear hw hb hl hr H7 W7 C7 q7 z6
                go_upto_region 8 with fail
                refine wp_region_cut 8 (by kernel_rfl) (fun w' => Below w7.heap.size w7 w') (fun x y => Below x.heap.size x y) (fun dq vq _ => match dq with | 67 => vq = .iface 83 (.pointer (some ⟨g, 0, none⟩)) | 68 => vq = .pointer (some ⟨gh, 0, none⟩) | 69 => vq = .pointer (some ⟨gh, 0, none⟩) | 70 => vq = .pointer (some ⟨gh, 9, none⟩) | 71 => vq = .pointer (some ⟨gh, 10, none⟩) | 72 => vq = .func (.method "loop.example/g00413/impl.short") #[.iface 83 (.pointer (some ⟨g, 0, none⟩))] #[] | 73 => vq = .func (.method "loop.example/g00413/impl.short") #[.iface 83 (.pointer (some ⟨g, 0, none⟩))] #[] | 74 => vq = .iface 83 (.pointer (some ⟨g, 0, none⟩)) | _ => True) (by kernel_rfl) (by kernel_rfl) ((Below.refl _ _).drew) (fun _ _ _ _ _ _ h => h) (by simp) ?hops ?hend
                case hops =>
                  simp only [List.take_succ_cons, List.take_zero, List.forall_mem_cons]
                  refine ⟨?o67, ?o68, ?o69, ?o70, ?o71, ?o72, ?o73, ?o74, fun _ h => by cases h⟩
                  case o67 =>
                    intro Q a w2 hC hV hI
                    have e1 : a.eval (.tmp 1) = .iface 83 (.pointer (some ⟨g, 0, none⟩)) := (hI 1 (by simp [Op.operands]) (by kernel_rfl)).trans rfl
                    have f1 : a.tmps.getD 1 undef = .iface 83 (.pointer (some ⟨g, 0, none⟩)) := e1
                    have g1 : a.tmps[1]?.getD undef = .iface 83 (.pointer (some ⟨g, 0, none⟩)) := by rw [← Array.getD_eq_getD_getElem?]; exact e1
                    refine op_val (.iface 83 (.pointer (some ⟨g, 0, none⟩))) ?_ hC (Below.refl _ _) (by intro d hd; cases hd; rfl)
                    (clear hV hI hC; go_simp <;> (first | rfl | simp | (rw [IntKind.wrap_i64]; omega)))
                  case o68 =>
                    intro Q a w2 hC hV hI
                    have e0 : a.eval (.tmp 0) = .pointer (some ⟨gh, 0, none⟩) := (hI 0 (by simp [Op.operands]) (by kernel_rfl)).trans rfl
                    have f0 : a.tmps.getD 0 undef = .pointer (some ⟨gh, 0, none⟩) := e0
                    have g0 : a.tmps[0]?.getD undef = .pointer (some ⟨gh, 0, none⟩) := by rw [← Array.getD_eq_getD_getElem?]; exact e0
                    refine op_val (.pointer (some ⟨gh, 0, none⟩)) ?_ hC (Below.refl _ _) (by intro d hd; cases hd; rfl)
                    (clear hV hI hC; go_simp <;> (first | rfl | simp | (rw [IntKind.wrap_i64]; omega)))
                  case o69 =>
                    intro Q a w2 hC hV hI
                    have e68 : a.eval (.tmp 68) = .pointer (some ⟨gh, 0, none⟩) := hV 68 (by simp [Op.operands]) (by kernel_rfl)
                    have f68 : a.tmps.getD 68 undef = .pointer (some ⟨gh, 0, none⟩) := e68
                    have g68 : a.tmps[68]?.getD undef = .pointer (some ⟨gh, 0, none⟩) := by rw [← Array.getD_eq_getD_getElem?]; exact e68
                    refine op_val (.pointer (some ⟨gh, 0, none⟩)) ?_ hC (Below.refl _ _) (by intro d hd; cases hd; rfl)
                    (clear hV hI hC; go_simp <;> (first | rfl | simp | (rw [IntKind.wrap_i64]; omega)))
                  case o70 =>
                    intro Q a w2 hC hV hI
                    have e69 : a.eval (.tmp 69) = .pointer (some ⟨gh, 0, none⟩) := hV 69 (by simp [Op.operands]) (by kernel_rfl)
                    have f69 : a.tmps.getD 69 undef = .pointer (some ⟨gh, 0, none⟩) := e69
                    have g69 : a.tmps[69]?.getD undef = .pointer (some ⟨gh, 0, none⟩) := by rw [← Array.getD_eq_getD_getElem?]; exact e69
                    refine op_val (.pointer (some ⟨gh, 9, none⟩)) ?_ hC (Below.refl _ _) (by intro d hd; cases hd; rfl)
                    (clear hV hI hC; go_simp <;> (first | rfl | simp | (rw [IntKind.wrap_i64]; omega)))
                  case o71 =>
                    intro Q a w2 hC hV hI
                    have e70 : a.eval (.tmp 70) = .pointer (some ⟨gh, 9, none⟩) := hV 70 (by simp [Op.operands]) (by kernel_rfl)
                    have f70 : a.tmps.getD 70 undef = .pointer (some ⟨gh, 9, none⟩) := e70
                    have g70 : a.tmps[70]?.getD undef = .pointer (some ⟨gh, 9, none⟩) := by rw [← Array.getD_eq_getD_getElem?]; exact e70
                    refine op_val (.pointer (some ⟨gh, 10, none⟩)) ?_ hC (Below.refl _ _) (by intro d hd; cases hd; rfl)
                    (clear hV hI hC; go_simp <;> (first | rfl | simp | (rw [IntKind.wrap_i64]; omega)))
                  case o72 =>
                    intro Q a w2 hC hV hI
                    have e67 : a.eval (.tmp 67) = .iface 83 (.pointer (some ⟨g, 0, none⟩)) := hV 67 (by simp [Op.operands]) (by kernel_rfl)
                    have f67 : a.tmps.getD 67 undef = .iface 83 (.pointer (some ⟨g, 0, none⟩)) := e67
                    have g67 : a.tmps[67]?.getD undef = .iface 83 (.pointer (some ⟨g, 0, none⟩)) := by rw [← Array.getD_eq_getD_getElem?]; exact e67
                    refine op_val (.func (.method "loop.example/g00413/impl.short") #[.iface 83 (.pointer (some ⟨g, 0, none⟩))] #[]) ?_ hC (Below.refl _ _) (by intro d hd; cases hd; rfl)
                    (clear hV hI hC; go_simp <;> (first | rfl | simp | (rw [IntKind.wrap_i64]; omega)))
                  case o73 =>
                    intro Q a w2 hC hV hI
                    have e72 : a.eval (.tmp 72) = .func (.method "loop.example/g00413/impl.short") #[.iface 83 (.pointer (some ⟨g, 0, none⟩))] #[] := hV 72 (by simp [Op.operands]) (by kernel_rfl)
                    have f72 : a.tmps.getD 72 undef = .func (.method "loop.example/g00413/impl.short") #[.iface 83 (.pointer (some ⟨g, 0, none⟩))] #[] := e72
                    have g72 : a.tmps[72]?.getD undef = .func (.method "loop.example/g00413/impl.short") #[.iface 83 (.pointer (some ⟨g, 0, none⟩))] #[] := by rw [← Array.getD_eq_getD_getElem?]; exact e72
                    refine op_val (.func (.method "loop.example/g00413/impl.short") #[.iface 83 (.pointer (some ⟨g, 0, none⟩))] #[]) ?_ hC (Below.refl _ _) (by intro d hd; cases hd; rfl)
                    (clear hV hI hC; go_simp <;> (first | rfl | simp | (rw [IntKind.wrap_i64]; omega)))
                  case o74 =>
                    intro Q a w2 hC hV hI
                    have e67 : a.eval (.tmp 67) = .iface 83 (.pointer (some ⟨g, 0, none⟩)) := hV 67 (by simp [Op.operands]) (by kernel_rfl)
                    have f67 : a.tmps.getD 67 undef = .iface 83 (.pointer (some ⟨g, 0, none⟩)) := e67
                    have g67 : a.tmps[67]?.getD undef = .iface 83 (.pointer (some ⟨g, 0, none⟩)) := by rw [← Array.getD_eq_getD_getElem?]; exact e67
                    refine op_val (.iface 83 (.pointer (some ⟨g, 0, none⟩))) ?_ hC (Below.refl _ _) (by intro d hd; cases hd; rfl)
                    (clear hV hI hC; go_simp <;> (first | rfl | simp | (rw [IntKind.wrap_i64]; omega)))
                case hend =>
                  intro f v8 hC hall
                  simp only [List.take_succ_cons, List.take_zero, List.drop_succ_cons, List.drop_zero] at hall ⊢
                  simp only [List.forall_mem_cons] at hall
                  obtain ⟨h67, h68, h69, h70, h71, h72, h73, h74, _⟩ := hall
                  replace h67 : f 67 = .iface 83 (.pointer (some ⟨g, 0, none⟩)) := h67 67 rfl
                  replace h68 : f 68 = .pointer (some ⟨gh, 0, none⟩) := h68 68 rfl
                  replace h69 : f 69 = .pointer (some ⟨gh, 0, none⟩) := h69 69 rfl
                  replace h70 : f 70 = .pointer (some ⟨gh, 9, none⟩) := h70 70 rfl
                  replace h71 : f 71 = .pointer (some ⟨gh, 10, none⟩) := h71 71 rfl
                  replace h72 : f 72 = .func (.method "loop.example/g00413/impl.short") #[.iface 83 (.pointer (some ⟨g, 0, none⟩))] #[] := h72 72 rfl
                  replace h73 : f 73 = .func (.method "loop.example/g00413/impl.short") #[.iface 83 (.pointer (some ⟨g, 0, none⟩))] #[] := h73 73 rfl
                  replace h74 : f 74 = .iface 83 (.pointer (some ⟨g, 0, none⟩)) := h74 74 rfl
                  simp only [putAll, Act.put, List.setIfInBounds_toArray, List.set_cons_succ, List.set_cons_zero, h67, h68, h69, h70, h71, h72, h73, h74]
                  clear h67 h68 h69 h70 h71 h72 h73 h74
                  have W8 := Lib.hid (HW7.out.below hC)
                  have H8 := Lib.hid ((hC.block gh (by have := HW7.out.lt; omega)).trans HH7.out)
                  have C8 := Lib.hid (B7.out.trans (hC.mono (by have := HW7.out.lt; omega)))
                  clear hC HW7 HH7 B7
                  have hx8 : v8.cell? ⟨gh, 10, none⟩ = some (.int .i64 0) := by simp [World.cell?, H8.out]
                  have q8 := Lib.hid (short_w g gh 10 hi l7 r7 0 v8 W8.out (by omega) hx8)
                  clear hx8
                  go_wp2_with fail
                  refine q8.out.mono ?_
                  rintro e w8 ⟨rfl, hw, hb⟩
                  obtain ⟨l8, hl⟩ : ∃ l : List UInt8, l = l7 ++ (put16v 0 hi).data.toList := ⟨_, rfl⟩
                  obtain ⟨r8, hr⟩ : ∃ r : Bool, r = (r7 || !r16 0) := ⟨_, rfl⟩
                  have z8 : l8.length = 16 := by rw [hl, List.length_append, ba_len, put16_size]; omega
                  rw [← hl] at hw HL
                  rw [← hr] at hw HR
                  have HW8 := Lib.hid hw
                  have HH8 := Lib.hid ((hb.block gh hgh).trans H8.out)
                  have B8 := Lib.hid (C8.out.trans hb)
                  clear hw hb hl hr H8 W8 C8 q8 z7
                  go_upto_region 9 with fail
                  refine wp_region_cut 8 (by kernel_rfl) (fun w' => Below w8.heap.size w8 w') (fun x y => Below x.heap.size x y) (fun dq vq _ => match dq with | 76 => vq = .iface 83 (.pointer (some ⟨g, 0, none⟩)) | 77 => vq = .pointer (some ⟨gh, 0, none⟩) | 78 => vq = .pointer (some ⟨gh, 0, none⟩) | 79 => vq = .pointer (some ⟨gh, 0, none⟩) | 80 => vq = .pointer (some ⟨gh, 5, none⟩) | 81 => vq = .func (.method "loop.example/g00413/impl.long") #[.iface 83 (.pointer (some ⟨g, 0, none⟩))] #[] | 82 => vq = .func (.method "loop.example/g00413/impl.long") #[.iface 83 (.pointer (some ⟨g, 0, none⟩))] #[] | 83 => vq = .iface 83 (.pointer (some ⟨g, 0, none⟩)) | _ => True) (by kernel_rfl) (by kernel_rfl) ((Below.refl _ _).drew) (fun _ _ _ _ _ _ h => h) (by simp) ?hops ?hend
                  case hops =>
                    simp only [List.take_succ_cons, List.take_zero, List.forall_mem_cons]
                    refine ⟨?o76, ?o77, ?o78, ?o79, ?o80, ?o81, ?o82, ?o83, fun _ h => by cases h⟩
                    case o76 =>
                      intro Q a w2 hC hV hI
                      have e1 : a.eval (.tmp 1) = .iface 83 (.pointer (some ⟨g, 0, none⟩)) := (hI 1 (by simp [Op.operands]) (by kernel_rfl)).trans rfl
                      have f1 : a.tmps.getD 1 undef = .iface 83 (.pointer (some ⟨g, 0, none⟩)) := e1
                      have g1 : a.tmps[1]?.getD undef = .iface 83 (.pointer (some ⟨g, 0, none⟩)) := by rw [← Array.getD_eq_getD_getElem?]; exact e1
                      refine op_val (.iface 83 (.pointer (some ⟨g, 0, none⟩))) ?_ hC (Below.refl _ _) (by intro d hd; cases hd; rfl)
                      (clear hV hI hC; go_simp <;> (first | rfl | simp | (rw [IntKind.wrap_i64]; omega)))
                    case o77 =>
                      intro Q a w2 hC hV hI
                      have e0 : a.eval (.tmp 0) = .pointer (some ⟨gh, 0, none⟩) := (hI 0 (by simp [Op.operands]) (by kernel_rfl)).trans rfl
                      have f0 : a.tmps.getD 0 undef = .pointer (some ⟨gh, 0, none⟩) := e0
                      have g0 : a.tmps[0]?.getD undef = .pointer (some ⟨gh, 0, none⟩) := by rw [← Array.getD_eq_getD_getElem?]; exact e0
                      refine op_val (.pointer (some ⟨gh, 0, none⟩)) ?_ hC (Below.refl _ _) (by intro d hd; cases hd; rfl)
                      (clear hV hI hC; go_simp <;> (first | rfl | simp | (rw [IntKind.wrap_i64]; omega)))
                    case o78 =>
                      intro Q a w2 hC hV hI
                      have e77 : a.eval (.tmp 77) = .pointer (some ⟨gh, 0, none⟩) := hV 77 (by simp [Op.operands]) (by kernel_rfl)
                      have f77 : a.tmps.getD 77 undef = .pointer (some ⟨gh, 0, none⟩) := e77
                      have g77 : a.tmps[77]?.getD undef = .pointer (some ⟨gh, 0, none⟩) := by rw [← Array.getD_eq_getD_getElem?]; exact e77
                      refine op_val (.pointer (some ⟨gh, 0, none⟩)) ?_ hC (Below.refl _ _) (by intro d hd; cases hd; rfl)
                      (clear hV hI hC; go_simp <;> (first | rfl | simp | (rw [IntKind.wrap_i64]; omega)))
                    case o79 =>
                      intro Q a w2 hC hV hI
                      have e78 : a.eval (.tmp 78) = .pointer (some ⟨gh, 0, none⟩) := hV 78 (by simp [Op.operands]) (by kernel_rfl)
                      have f78 : a.tmps.getD 78 undef = .pointer (some ⟨gh, 0, none⟩) := e78
                      have g78 : a.tmps[78]?.getD undef = .pointer (some ⟨gh, 0, none⟩) := by rw [← Array.getD_eq_getD_getElem?]; exact e78
                      refine op_val (.pointer (some ⟨gh, 0, none⟩)) ?_ hC (Below.refl _ _) (by intro d hd; cases hd; rfl)
                      (clear hV hI hC; go_simp <;> (first | rfl | simp | (rw [IntKind.wrap_i64]; omega)))
                    case o80 =>
                      intro Q a w2 hC hV hI
                      have e79 : a.eval (.tmp 79) = .pointer (some ⟨gh, 0, none⟩) := hV 79 (by simp [Op.operands]) (by kernel_rfl)
                      have f79 : a.tmps.getD 79 undef = .pointer (some ⟨gh, 0, none⟩) := e79
                      have g79 : a.tmps[79]?.getD undef = .pointer (some ⟨gh, 0, none⟩) := by rw [← Array.getD_eq_getD_getElem?]; exact e79
                      refine op_val (.pointer (some ⟨gh, 5, none⟩)) ?_ hC (Below.refl _ _) (by intro d hd; cases hd; rfl)
                      (clear hV hI hC; go_simp <;> (first | rfl | simp | (rw [IntKind.wrap_i64]; omega)))
                    case o81 =>
                      intro Q a w2 hC hV hI
                      have e76 : a.eval (.tmp 76) = .iface 83 (.pointer (some ⟨g, 0, none⟩)) := hV 76 (by simp [Op.operands]) (by kernel_rfl)
                      have f76 : a.tmps.getD 76 undef = .iface 83 (.pointer (some ⟨g, 0, none⟩)) := e76
                      have g76 : a.tmps[76]?.getD undef = .iface 83 (.pointer (some ⟨g, 0, none⟩)) := by rw [← Array.getD_eq_getD_getElem?]; exact e76
                      refine op_val (.func (.method "loop.example/g00413/impl.long") #[.iface 83 (.pointer (some ⟨g, 0, none⟩))] #[]) ?_ hC (Below.refl _ _) (by intro d hd; cases hd; rfl)
                      (clear hV hI hC; go_simp <;> (first | rfl | simp | (rw [IntKind.wrap_i64]; omega)))
                    case o82 =>
                      intro Q a w2 hC hV hI
                      have e81 : a.eval (.tmp 81) = .func (.method "loop.example/g00413/impl.long") #[.iface 83 (.pointer (some ⟨g, 0, none⟩))] #[] := hV 81 (by simp [Op.operands]) (by kernel_rfl)
                      have f81 : a.tmps.getD 81 undef = .func (.method "loop.example/g00413/impl.long") #[.iface 83 (.pointer (some ⟨g, 0, none⟩))] #[] := e81
                      have g81 : a.tmps[81]?.getD undef = .func (.method "loop.example/g00413/impl.long") #[.iface 83 (.pointer (some ⟨g, 0, none⟩))] #[] := by rw [← Array.getD_eq_getD_getElem?]; exact e81
                      refine op_val (.func (.method "loop.example/g00413/impl.long") #[.iface 83 (.pointer (some ⟨g, 0, none⟩))] #[]) ?_ hC (Below.refl _ _) (by intro d hd; cases hd; rfl)
                      (clear hV hI hC; go_simp <;> (first | rfl | simp | (rw [IntKind.wrap_i64]; omega)))
                    case o83 =>
                      intro Q a w2 hC hV hI
                      have e76 : a.eval (.tmp 76) = .iface 83 (.pointer (some ⟨g, 0, none⟩)) := hV 76 (by simp [Op.operands]) (by kernel_rfl)
                      have f76 : a.tmps.getD 76 undef = .iface 83 (.pointer (some ⟨g, 0, none⟩)) := e76
                      have g76 : a.tmps[76]?.getD undef = .iface 83 (.pointer (some ⟨g, 0, none⟩)) := by rw [← Array.getD_eq_getD_getElem?]; exact e76
                      refine op_val (.iface 83 (.pointer (some ⟨g, 0, none⟩))) ?_ hC (Below.refl _ _) (by intro d hd; cases hd; rfl)
                      (clear hV hI hC; go_simp <;> (first | rfl | simp | (rw [IntKind.wrap_i64]; omega)))
                  case hend =>
                    intro f v9 hC hall
                    simp only [List.take_succ_cons, List.take_zero, List.drop_succ_cons, List.drop_zero] at hall ⊢
                    simp only [List.forall_mem_cons] at hall
                    obtain ⟨h76, h77, h78, h79, h80, h81, h82, h83, _⟩ := hall
                    replace h76 : f 76 = .iface 83 (.pointer (some ⟨g, 0, none⟩)) := h76 76 rfl
                    replace h77 : f 77 = .pointer (some ⟨gh, 0, none⟩) := h77 77 rfl
                    replace h78 : f 78 = .pointer (some ⟨gh, 0, none⟩) := h78 78 rfl
                    replace h79 : f 79 = .pointer (some ⟨gh, 0, none⟩) := h79 79 rfl
                    replace h80 : f 80 = .pointer (some ⟨gh, 5, none⟩) := h80 80 rfl
                    replace h81 : f 81 = .func (.method "loop.example/g00413/impl.long") #[.iface 83 (.pointer (some ⟨g, 0, none⟩))] #[] := h81 81 rfl
                    replace h82 : f 82 = .func (.method "loop.example/g00413/impl.long") #[.iface 83 (.pointer (some ⟨g, 0, none⟩))] #[] := h82 82 rfl
                    replace h83 : f 83 = .iface 83 (.pointer (some ⟨g, 0, none⟩)) := h83 83 rfl
                    simp only [putAll, Act.put, List.setIfInBounds_toArray, List.set_cons_succ, List.set_cons_zero, h76, h77, h78, h79, h80, h81, h82, h83]
                    clear h76 h77 h78 h79 h80 h81 h82 h83
                    have W9 := Lib.hid (HW8.out.below hC)
                    have H9 := Lib.hid ((hC.block gh (by have := HW8.out.lt; omega)).trans HH8.out)
                    have C9 := Lib.hid (B8.out.trans (hC.mono (by have := HW8.out.lt; omega)))
                    clear hC HW8 HH8 B8
                    have hx9 : v9.cell? ⟨gh, 5, none⟩ = some (.int .i64 c.Time) := by simp [World.cell?, H9.out]
                    have q9 := Lib.hid (long_w g gh 5 hi l8 r8 c.Time v9 W9.out (by omega) hx9)
                    clear hx9
                    go_wp2_with fail
                    refine q9.out.mono ?_
                    rintro e w9 ⟨rfl, hw, hb⟩
                    obtain ⟨l9, hl⟩ : ∃ l : List UInt8, l = l8 ++ (put32v c.Time hi).data.toList := ⟨_, rfl⟩
                    obtain ⟨r9, hr⟩ : ∃ r : Bool, r = (r8 || !r32 c.Time) := ⟨_, rfl⟩
                    have z9 : l9.length = 20 := by rw [hl, List.length_append, ba_len, put32_size]; omega
                    rw [← hl] at hw HL
                    rw [← hr] at hw HR
                    have HW9 := Lib.hid hw
                    have HH9 := Lib.hid ((hb.block gh hgh).trans H9.out)
                    have B9 := Lib.hid (C9.out.trans hb)
                    clear hw hb hl hr H9 W9 C9 q9 z8
                    go_upto_region 10 with fail
                    refine wp_region_cut 7 (by kernel_rfl) (fun w' => Below w9.heap.size w9 w') (fun x y => Below x.heap.size x y) (fun dq vq _ => match dq with | 85 => vq = .iface 83 (.pointer (some ⟨g, 0, none⟩)) | 86 => vq = .pointer (some ⟨gh, 0, none⟩) | 87 => vq = .pointer (some ⟨gh, 0, none⟩) | 88 => vq = .pointer (some ⟨gh, 11, none⟩) | 89 => vq = .func (.method "loop.example/g00413/impl.short") #[.iface 83 (.pointer (some ⟨g, 0, none⟩))] #[] | 90 => vq = .func (.method "loop.example/g00413/impl.short") #[.iface 83 (.pointer (some ⟨g, 0, none⟩))] #[] | 91 => vq = .iface 83 (.pointer (some ⟨g, 0, none⟩)) | _ => True) (by kernel_rfl) (by kernel_rfl) ((Below.refl _ _).drew) (fun _ _ _ _ _ _ h => h) (by simp) ?hops ?hend
                    case hops =>
                      simp only [List.take_succ_cons, List.take_zero, List.forall_mem_cons]
                      refine ⟨?o85, ?o86, ?o87, ?o88, ?o89, ?o90, ?o91, fun _ h => by cases h⟩
                      case o85 =>
                        intro Q a w2 hC hV hI
                        have e1 : a.eval (.tmp 1) = .iface 83 (.pointer (some ⟨g, 0, none⟩)) := (hI 1 (by simp [Op.operands]) (by kernel_rfl)).trans rfl
                        have f1 : a.tmps.getD 1 undef = .iface 83 (.pointer (some ⟨g, 0, none⟩)) := e1
                        have g1 : a.tmps[1]?.getD undef = .iface 83 (.pointer (some ⟨g, 0, none⟩)) := by rw [← Array.getD_eq_getD_getElem?]; exact e1
                        refine op_val (.iface 83 (.pointer (some ⟨g, 0, none⟩))) ?_ hC (Below.refl _ _) (by intro d hd; cases hd; rfl)
                        (clear hV hI hC; go_simp <;> (first | rfl | simp | (rw [IntKind.wrap_i64]; omega)))
                      case o86 =>
                        intro Q a w2 hC hV hI
                        have e0 : a.eval (.tmp 0) = .pointer (some ⟨gh, 0, none⟩) := (hI 0 (by simp [Op.operands]) (by kernel_rfl)).trans rfl
                        have f0 : a.tmps.getD 0 undef = .pointer (some ⟨gh, 0, none⟩) := e0
                        have g0 : a.tmps[0]?.getD undef = .pointer (some ⟨gh, 0, none⟩) := by rw [← Array.getD_eq_getD_getElem?]; exact e0
                        refine op_val (.pointer (some ⟨gh, 0, none⟩)) ?_ hC (Below.refl _ _) (by intro d hd; cases hd; rfl)
                        (clear hV hI hC; go_simp <;> (first | rfl | simp | (rw [IntKind.wrap_i64]; omega)))
                      case o87 =>
                        intro Q a w2 hC hV hI
                        have e86 : a.eval (.tmp 86) = .pointer (some ⟨gh, 0, none⟩) := hV 86 (by simp [Op.operands]) (by kernel_rfl)
                        have f86 : a.tmps.getD 86 undef = .pointer (some ⟨gh, 0, none⟩) := e86
                        have g86 : a.tmps[86]?.getD undef = .pointer (some ⟨gh, 0, none⟩) := by rw [← Array.getD_eq_getD_getElem?]; exact e86
                        refine op_val (.pointer (some ⟨gh, 0, none⟩)) ?_ hC (Below.refl _ _) (by intro d hd; cases hd; rfl)
                        (clear hV hI hC; go_simp <;> (first | rfl | simp | (rw [IntKind.wrap_i64]; omega)))
                      case o88 =>
                        intro Q a w2 hC hV hI
                        have e87 : a.eval (.tmp 87) = .pointer (some ⟨gh, 0, none⟩) := hV 87 (by simp [Op.operands]) (by kernel_rfl)
                        have f87 : a.tmps.getD 87 undef = .pointer (some ⟨gh, 0, none⟩) := e87
                        have g87 : a.tmps[87]?.getD undef = .pointer (some ⟨gh, 0, none⟩) := by rw [← Array.getD_eq_getD_getElem?]; exact e87
                        refine op_val (.pointer (some ⟨gh, 11, none⟩)) ?_ hC (Below.refl _ _) (by intro d hd; cases hd; rfl)
                        (clear hV hI hC; go_simp <;> (first | rfl | simp | (rw [IntKind.wrap_i64]; omega)))
                      case o89 =>
                        intro Q a w2 hC hV hI
                        have e85 : a.eval (.tmp 85) = .iface 83 (.pointer (some ⟨g, 0, none⟩)) := hV 85 (by simp [Op.operands]) (by kernel_rfl)
                        have f85 : a.tmps.getD 85 undef = .iface 83 (.pointer (some ⟨g, 0, none⟩)) := e85
                        have g85 : a.tmps[85]?.getD undef = .iface 83 (.pointer (some ⟨g, 0, none⟩)) := by rw [← Array.getD_eq_getD_getElem?]; exact e85
                        refine op_val (.func (.method "loop.example/g00413/impl.short") #[.iface 83 (.pointer (some ⟨g, 0, none⟩))] #[]) ?_ hC (Below.refl _ _) (by intro d hd; cases hd; rfl)
                        (clear hV hI hC; go_simp <;> (first | rfl | simp | (rw [IntKind.wrap_i64]; omega)))
                      case o90 =>
                        intro Q a w2 hC hV hI
                        have e89 : a.eval (.tmp 89) = .func (.method "loop.example/g00413/impl.short") #[.iface 83 (.pointer (some ⟨g, 0, none⟩))] #[] := hV 89 (by simp [Op.operands]) (by kernel_rfl)
                        have f89 : a.tmps.getD 89 undef = .func (.method "loop.example/g00413/impl.short") #[.iface 83 (.pointer (some ⟨g, 0, none⟩))] #[] := e89
                        have g89 : a.tmps[89]?.getD undef = .func (.method "loop.example/g00413/impl.short") #[.iface 83 (.pointer (some ⟨g, 0, none⟩))] #[] := by rw [← Array.getD_eq_getD_getElem?]; exact e89
                        refine op_val (.func (.method "loop.example/g00413/impl.short") #[.iface 83 (.pointer (some ⟨g, 0, none⟩))] #[]) ?_ hC (Below.refl _ _) (by intro d hd; cases hd; rfl)
                        (clear hV hI hC; go_simp <;> (first | rfl | simp | (rw [IntKind.wrap_i64]; omega)))
                      case o91 =>
                        intro Q a w2 hC hV hI
                        have e85 : a.eval (.tmp 85) = .iface 83 (.pointer (some ⟨g, 0, none⟩)) := hV 85 (by simp [Op.operands]) (by kernel_rfl)
                        have f85 : a.tmps.getD 85 undef = .iface 83 (.pointer (some ⟨g, 0, none⟩)) := e85
                        have g85 : a.tmps[85]?.getD undef = .iface 83 (.pointer (some ⟨g, 0, none⟩)) := by rw [← Array.getD_eq_getD_getElem?]; exact e85
                        refine op_val (.iface 83 (.pointer (some ⟨g, 0, none⟩))) ?_ hC (Below.refl _ _) (by intro d hd; cases hd; rfl)
                        (clear hV hI hC; go_simp <;> (first | rfl | simp | (rw [IntKind.wrap_i64]; omega)))
                    case hend =>
                      intro f v10 hC hall
                      simp only [List.take_succ_cons, List.take_zero, List.drop_succ_cons, List.drop_zero] at hall ⊢
                      simp only [List.forall_mem_cons] at hall
                      obtain ⟨h85, h86, h87, h88, h89, h90, h91, _⟩ := hall
                      replace h85 : f 85 = .iface 83 (.pointer (some ⟨g, 0, none⟩)) := h85 85 rfl
                      replace h86 : f 86 = .pointer (some ⟨gh, 0, none⟩) := h86 86 rfl
                      replace h87 : f 87 = .pointer (some ⟨gh, 0, none⟩) := h87 87 rfl
                      replace h88 : f 88 = .pointer (some ⟨gh, 11, none⟩) := h88 88 rfl
                      replace h89 : f 89 = .func (.method "loop.example/g00413/impl.short") #[.iface 83 (.pointer (some ⟨g, 0, none⟩))] #[] := h89 89 rfl
                      replace h90 : f 90 = .func (.method "loop.example/g00413/impl.short") #[.iface 83 (.pointer (some ⟨g, 0, none⟩))] #[] := h90 90 rfl
                      replace h91 : f 91 = .iface 83 (.pointer (some ⟨g, 0, none⟩)) := h91 91 rfl
                      simp only [putAll, Act.put, List.setIfInBounds_toArray, List.set_cons_succ, List.set_cons_zero, h85, h86, h87, h88, h89, h90, h91]
                      clear h85 h86 h87 h88 h89 h90 h91
                      have W10 := Lib.hid (HW9.out.below hC)
                      have H10 := Lib.hid ((hC.block gh (by have := HW9.out.lt; omega)).trans HH9.out)
                      have C10 := Lib.hid (B9.out.trans (hC.mono (by have := HW9.out.lt; omega)))
                      clear hC HW9 HH9 B9
                      have hx10 : v10.cell? ⟨gh, 11, none⟩ = some (.int .i64 ((c.Path.size : Int) + 1)) := by simp [World.cell?, H10.out]
                      have q10 := Lib.hid (short_w g gh 11 hi l9 r9 ((c.Path.size : Int) + 1) v10 W10.out (by omega) hx10)
                      clear hx10
                      go_wp2_with fail
                      refine q10.out.mono ?_
                      rintro e w10 ⟨rfl, hw, hb⟩
                      obtain ⟨l10, hl⟩ : ∃ l : List UInt8, l = l9 ++ (put16v ((c.Path.size : Int) + 1) hi).data.toList := ⟨_, rfl⟩
                      obtain ⟨r10, hr⟩ : ∃ r : Bool, r = (r9 || !r16 ((c.Path.size : Int) + 1)) := ⟨_, rfl⟩
                      have z10 : l10.length = 22 := by rw [hl, List.length_append, ba_len, put16_size]; omega
                      rw [← hl] at hw HL
                      rw [← hr] at hw HR
                      have HW10 := Lib.hid hw
                      have HH10 := Lib.hid ((hb.block gh hgh).trans H10.out)
                      have B10 := Lib.hid (C10.out.trans hb)
                      clear hw hb hl hr H10 W10 C10 q10 z9
                      go_upto_region 11 with fail
                      refine wp_region_cut 7 (by kernel_rfl) (fun w' => Below w10.heap.size w10 w') (fun x y => Below x.heap.size x y) (fun dq vq _ => match dq with | 93 => vq = .iface 83 (.pointer (some ⟨g, 0, none⟩)) | 94 => vq = .pointer (some ⟨gh, 0, none⟩) | 95 => vq = .pointer (some ⟨gh, 0, none⟩) | 96 => vq = .pointer (some ⟨gh, 12, none⟩) | 97 => vq = .func (.method "loop.example/g00413/impl.long") #[.iface 83 (.pointer (some ⟨g, 0, none⟩))] #[] | 98 => vq = .func (.method "loop.example/g00413/impl.long") #[.iface 83 (.pointer (some ⟨g, 0, none⟩))] #[] | 99 => vq = .iface 83 (.pointer (some ⟨g, 0, none⟩)) | _ => True) (by kernel_rfl) (by kernel_rfl) ((Below.refl _ _).drew) (fun _ _ _ _ _ _ h => h) (by simp) ?hops ?hend
                      case hops =>
                        simp only [List.take_succ_cons, List.take_zero, List.forall_mem_cons]
                        refine ⟨?o93, ?o94, ?o95, ?o96, ?o97, ?o98, ?o99, fun _ h => by cases h⟩
                        case o93 =>
                          intro Q a w2 hC hV hI
                          have e1 : a.eval (.tmp 1) = .iface 83 (.pointer (some ⟨g, 0, none⟩)) := (hI 1 (by simp [Op.operands]) (by kernel_rfl)).trans rfl
                          have f1 : a.tmps.getD 1 undef = .iface 83 (.pointer (some ⟨g, 0, none⟩)) := e1
                          have g1 : a.tmps[1]?.getD undef = .iface 83 (.pointer (some ⟨g, 0, none⟩)) := by rw [← Array.getD_eq_getD_getElem?]; exact e1
                          refine op_val (.iface 83 (.pointer (some ⟨g, 0, none⟩))) ?_ hC (Below.refl _ _) (by intro d hd; cases hd; rfl)
                          (clear hV hI hC; go_simp <;> (first | rfl | simp | (rw [IntKind.wrap_i64]; omega)))
                        case o94 =>
                          intro Q a w2 hC hV hI
                          have e0 : a.eval (.tmp 0) = .pointer (some ⟨gh, 0, none⟩) := (hI 0 (by simp [Op.operands]) (by kernel_rfl)).trans rfl
                          have f0 : a.tmps.getD 0 undef = .pointer (some ⟨gh, 0, none⟩) := e0
                          have g0 : a.tmps[0]?.getD undef = .pointer (some ⟨gh, 0, none⟩) := by rw [← Array.getD_eq_getD_getElem?]; exact e0
                          refine op_val (.pointer (some ⟨gh, 0, none⟩)) ?_ hC (Below.refl _ _) (by intro d hd; cases hd; rfl)
                          (clear hV hI hC; go_simp <;> (first | rfl | simp | (rw [IntKind.wrap_i64]; omega)))
                        case o95 =>
                          intro Q a w2 hC hV hI
                          have e94 : a.eval (.tmp 94) = .pointer (some ⟨gh, 0, none⟩) := hV 94 (by simp [Op.operands]) (by kernel_rfl)
                          have f94 : a.tmps.getD 94 undef = .pointer (some ⟨gh, 0, none⟩) := e94
                          have g94 : a.tmps[94]?.getD undef = .pointer (some ⟨gh, 0, none⟩) := by rw [← Array.getD_eq_getD_getElem?]; exact e94
                          refine op_val (.pointer (some ⟨gh, 0, none⟩)) ?_ hC (Below.refl _ _) (by intro d hd; cases hd; rfl)
                          (clear hV hI hC; go_simp <;> (first | rfl | simp | (rw [IntKind.wrap_i64]; omega)))
                        case o96 =>
                          intro Q a w2 hC hV hI
                          have e95 : a.eval (.tmp 95) = .pointer (some ⟨gh, 0, none⟩) := hV 95 (by simp [Op.operands]) (by kernel_rfl)
                          have f95 : a.tmps.getD 95 undef = .pointer (some ⟨gh, 0, none⟩) := e95
                          have g95 : a.tmps[95]?.getD undef = .pointer (some ⟨gh, 0, none⟩) := by rw [← Array.getD_eq_getD_getElem?]; exact e95
                          refine op_val (.pointer (some ⟨gh, 12, none⟩)) ?_ hC (Below.refl _ _) (by intro d hd; cases hd; rfl)
                          (clear hV hI hC; go_simp <;> (first | rfl | simp | (rw [IntKind.wrap_i64]; omega)))
                        case o97 =>
                          intro Q a w2 hC hV hI
                          have e93 : a.eval (.tmp 93) = .iface 83 (.pointer (some ⟨g, 0, none⟩)) := hV 93 (by simp [Op.operands]) (by kernel_rfl)
                          have f93 : a.tmps.getD 93 undef = .iface 83 (.pointer (some ⟨g, 0, none⟩)) := e93
                          have g93 : a.tmps[93]?.getD undef = .iface 83 (.pointer (some ⟨g, 0, none⟩)) := by rw [← Array.getD_eq_getD_getElem?]; exact e93
                          refine op_val (.func (.method "loop.example/g00413/impl.long") #[.iface 83 (.pointer (some ⟨g, 0, none⟩))] #[]) ?_ hC (Below.refl _ _) (by intro d hd; cases hd; rfl)
                          (clear hV hI hC; go_simp <;> (first | rfl | simp | (rw [IntKind.wrap_i64]; omega)))
                        case o98 =>
                          intro Q a w2 hC hV hI
                          have e97 : a.eval (.tmp 97) = .func (.method "loop.example/g00413/impl.long") #[.iface 83 (.pointer (some ⟨g, 0, none⟩))] #[] := hV 97 (by simp [Op.operands]) (by kernel_rfl)
                          have f97 : a.tmps.getD 97 undef = .func (.method "loop.example/g00413/impl.long") #[.iface 83 (.pointer (some ⟨g, 0, none⟩))] #[] := e97
                          have g97 : a.tmps[97]?.getD undef = .func (.method "loop.example/g00413/impl.long") #[.iface 83 (.pointer (some ⟨g, 0, none⟩))] #[] := by rw [← Array.getD_eq_getD_getElem?]; exact e97
                          refine op_val (.func (.method "loop.example/g00413/impl.long") #[.iface 83 (.pointer (some ⟨g, 0, none⟩))] #[]) ?_ hC (Below.refl _ _) (by intro d hd; cases hd; rfl)
                          (clear hV hI hC; go_simp <;> (first | rfl | simp | (rw [IntKind.wrap_i64]; omega)))
                        case o99 =>
                          intro Q a w2 hC hV hI
                          have e93 : a.eval (.tmp 93) = .iface 83 (.pointer (some ⟨g, 0, none⟩)) := hV 93 (by simp [Op.operands]) (by kernel_rfl)
                          have f93 : a.tmps.getD 93 undef = .iface 83 (.pointer (some ⟨g, 0, none⟩)) := e93
                          have g93 : a.tmps[93]?.getD undef = .iface 83 (.pointer (some ⟨g, 0, none⟩)) := by rw [← Array.getD_eq_getD_getElem?]; exact e93
                          refine op_val (.iface 83 (.pointer (some ⟨g, 0, none⟩))) ?_ hC (Below.refl _ _) (by intro d hd; cases hd; rfl)
                          (clear hV hI hC; go_simp <;> (first | rfl | simp | (rw [IntKind.wrap_i64]; omega)))
                      case hend =>
                        intro f v11 hC hall
                        simp only [List.take_succ_cons, List.take_zero, List.drop_succ_cons, List.drop_zero] at hall ⊢
                        simp only [List.forall_mem_cons] at hall
                        obtain ⟨h93, h94, h95, h96, h97, h98, h99, _⟩ := hall
                        replace h93 : f 93 = .iface 83 (.pointer (some ⟨g, 0, none⟩)) := h93 93 rfl
                        replace h94 : f 94 = .pointer (some ⟨gh, 0, none⟩) := h94 94 rfl
                        replace h95 : f 95 = .pointer (some ⟨gh, 0, none⟩) := h95 95 rfl
                        replace h96 : f 96 = .pointer (some ⟨gh, 12, none⟩) := h96 96 rfl
                        replace h97 : f 97 = .func (.method "loop.example/g00413/impl.long") #[.iface 83 (.pointer (some ⟨g, 0, none⟩))] #[] := h97 97 rfl
                        replace h98 : f 98 = .func (.method "loop.example/g00413/impl.long") #[.iface 83 (.pointer (some ⟨g, 0, none⟩))] #[] := h98 98 rfl
                        replace h99 : f 99 = .iface 83 (.pointer (some ⟨g, 0, none⟩)) := h99 99 rfl
                        simp only [putAll, Act.put, List.setIfInBounds_toArray, List.set_cons_succ, List.set_cons_zero, h93, h94, h95, h96, h97, h98, h99]
                        clear h93 h94 h95 h96 h97 h98 h99
                        have W11 := Lib.hid (HW10.out.below hC)
                        have H11 := Lib.hid ((hC.block gh (by have := HW10.out.lt; omega)).trans HH10.out)
                        have C11 := Lib.hid (B10.out.trans (hC.mono (by have := HW10.out.lt; omega)))
                        clear hC HW10 HH10 B10
                        have hx11 : v11.cell? ⟨gh, 12, none⟩ = some (.int .i64 (c.Data.size : Int)) := by simp [World.cell?, H11.out]
                        have q11 := Lib.hid (long_w g gh 12 hi l10 r10 (c.Data.size : Int) v11 W11.out (by omega) hx11)
                        clear hx11
                        go_wp2_with fail
                        refine q11.out.mono ?_
                        rintro e w11 ⟨rfl, hw, hb⟩
                        obtain ⟨l11, hl⟩ : ∃ l : List UInt8, l = l10 ++ (put32v (c.Data.size : Int) hi).data.toList := ⟨_, rfl⟩
                        obtain ⟨r11, hr⟩ : ∃ r : Bool, r = (r10 || !r32 (c.Data.size : Int)) := ⟨_, rfl⟩
                        have z11 : l11.length = 26 := by rw [hl, List.length_append, ba_len, put32_size]; omega
                        rw [← hl] at hw HL
                        rw [← hr] at hw HR
                        have HW11 := Lib.hid hw
                        have HH11 := Lib.hid ((hb.block gh hgh).trans H11.out)
                        have B11 := Lib.hid (C11.out.trans hb)
                        clear hw hb hl hr H11 W11 C11 q11 z10
                        have q := made_w g hi l11 r11 w11 HW11.out
                        rw [show (if r11 then (⟨#[]⟩ : ByteArray) else ⟨l11.toArray⟩) = res from by rw [HR.out, ← HRes.out, ← HL.out]; cases ok <;> simp] at q
                        replace q := Lib.hid q
                        go_wp2_with fail
                        refine q.out.mono ?_
                        rintro e wz ⟨rfl, rfl⟩
                        go_wp2_with fail
                        go_ret
                        exact ⟨rfl, B11.out⟩
end Go.Proofs.YtancidbbkoeokaaGreat

/- Contract of impl.PutBin. -/
namespace Go.Proofs.YtancidbbkoeokaaGreat
open Go.ChangeShapes Go.WideShapes Go.ChangeAt Go.RowKit Go.Deep

set_option maxHeartbeats 6400000 in
set_option maxRecDepth 8000 in
theorem putBin_impl (ino mo u1 gi cn t : Int) (p d : ByteArray) (hi : Bool) (w : World) (hp : p.size ≤ 4194304) (hd : d.size ≤ 4194304) :
    Calls Tryz.prog 40 #[.agg #[.int .i64 ino, .int .i64 mo, .int .i64 u1, .int .i64 gi, .int .i64 cn, .int .i64 t, .string p, .string d], .bool hi] w fun e w' => e = .returned (.string (binTextv ⟨ino, mo, u1, gi, cn, t, p, d⟩ hi)) ∧ Below w.heap.size w w' := by
  have HV : Hid (binTextv ⟨ino, mo, u1, gi, cn, t, p, d⟩ hi = if binOk ⟨ino, mo, u1, gi, cn, t, p, d⟩ then headB ⟨ino, mo, u1, gi, cn, t, p, d⟩ hi ++ p ++ ⟨#[0]⟩ ++ nulN (pad2 (p.size + 1)) ++ d ++ nulN (pad2 d.size) else ⟨#[]⟩) := Lib.hid rfl
  have HPs := Lib.hid (fun g gh T w hg hh hgh => pass_w g gh ⟨ino, mo, u1, gi, cn, t, p, d⟩ hi T w hg hh hgh)
  have zh := headB_size ⟨ino, mo, u1, gi, cn, t, p, d⟩ hi
  generalize binTextv ⟨ino, mo, u1, gi, cn, t, p, d⟩ hi = r at HV
  generalize binOk ⟨ino, mo, u1, gi, cn, t, p, d⟩ = ok at HV HPs
  generalize headB ⟨ino, mo, u1, gi, cn, t, p, d⟩ hi = hx at HV HPs zh
  have HN1 := Lib.hid (fun w => binPad_any (p.size + 1) w (by omega))
  rw [show ((p.size + 1 : Nat) : Int) = (p.size : Int) + 1 from by omega] at HN1
  have HN2 := Lib.hid (fun w => binPad_any d.size w (by omega))
  have hz1 := nulN_size (pad2 (p.size + 1))
  have hz2 := nulN_size (pad2 d.size)
  have hq1 := pad2_le (p.size + 1)
  have hq2 := pad2_le d.size
  generalize nulN (pad2 (p.size + 1)) = nu1 at *
  generalize nulN (pad2 d.size) = nu2 at *
  generalize pad2 (p.size + 1) = q1 at *
  generalize pad2 d.size = q2 at *
  go_enter Tryz.func40, Tryz.ntmps40
  go_upto_region 1 with fail
  generalize hw1 : World.alloc w _ = w1
  have XC : Hid (CardO w1 w.heap.size ⟨ino, mo, u1, gi, cn, t, p, d⟩) := Lib.hid (by rw [← hw1]; exact CardO.new w ⟨ino, mo, u1, gi, cn, t, p, d⟩)
  have B1 : Hid (Below w.heap.size w w1) := Lib.hid (by rw [← hw1]; exact (Below.refl _ _).alloc (Nat.le_refl _) _)
  have hs1 : w1.heap.size = w.heap.size + 1 := by rw [← hw1]; simp
  clear hw1
  obtain ⟨d0, d1, d2, d3, d4, d5, d6, d7⟩ := XC.out.at.zero
  go_upto_region 2 with fail
  clear d0 d1 d2 d3 d4 d5 d6 d7
  generalize hw2 : World.alloc w1 _ = w2
  have HB : Hid (Below w1.heap.size w1 w2) := Lib.hid (by rw [← hw2]; exact (Below.refl _ _).alloc (Nat.le_refl _) _)
  have HH : Hid (w2.heap[w.heap.size + 1]? = some (.cells #[.int .i64 ino, .int .i64 mo, .int .i64 u1, .int .i64 gi, .int .i64 cn, .int .i64 t, .string p, .string d, .int .i64 29127, .int .i64 0, .int .i64 0, .int .i64 ((p.size : Int) + 1), .int .i64 (d.size : Int)] 80 (0, 0))) := Lib.hid (by rw [← hw2, ← hs1]; exact heap_lastG _ _)
  have hs2 : w2.heap.size = w.heap.size + 2 := by rw [← hw2]; simp [hs1]
  clear hw2
  have XC2 := Lib.hid (XC.out.below HB.out (by omega))
  have B2 := Lib.hid (B1.out.trans (HB.out.mono (by omega)))
  clear HB XC B1
  go_wp2_with fail
  have NB := (Below.refl w2.heap.size w2).alloc (Nat.le_refl _) (.cells #[.bool hi, .slice none 0 0, .bool false] 85)
  have hw9 : WrO (w2.alloc (.cells #[.bool hi, .slice none 0 0, .bool false] 85)) w2.heap.size hi [] false := ⟨.slice none 0 0, heap_lastG _ _, by
    refine ⟨rfl, .inl ⟨rfl, rfl⟩⟩⟩
  rw [hs2] at hw9
  refine (HPs.out _ (w.heap.size + 1) 80 _ hw9 ((NB.block _ (by omega)).trans HH.out) (by omega)).mono ?_
  rintro e w3 ⟨rfl, hb⟩
  have XC3 := Lib.hid ((XC2.out.below NB (by omega)).below hb (by omega))
  have HH3 := Lib.hid ((hb.block (w.heap.size + 1) (by omega)).trans ((NB.block _ (by omega)).trans HH.out))
  have B3 := Lib.hid ((B2.out.trans (NB.mono (by omega))).trans (hb.mono (by omega)))
  have hcl : w.heap.size + 1 < w3.heap.size := (Array.getElem?_eq_some_iff.1 HH3.out).1
  clear NB hw9 hb HPs XC2 HH B2
  cases ok with
  | false =>
    have HF2 : Hid (r = ⟨#[]⟩) := Lib.hid (by rw [HV.out]; rfl)
    clear HV
    go_wp2_with fail
    go_ret
    exact ⟨by rw [HF2.out]; rfl, B3.out⟩
  | true =>
  replace HV : Hid (r = hx ++ p ++ ⟨#[0]⟩ ++ nu1 ++ d ++ nu2) := Lib.hid (by rw [HV.out]; rfl)
  have hne : (hx.toList == (⟨#[]⟩ : ByteArray).toList) = false := ba_ne (fun e => by rw [e] at zh; exact absurd zh (by decide))
  have hne2 : hx.toList.isEmpty = false := by
    cases h9 : hx.toList with
    | nil =>
      rw [h9] at hne
      simp at hne
    | cons a l => rfl
  rw [show (if true = true then hx else (⟨#[]⟩ : ByteArray)) = hx from rfl]
  go_upto_region 5 with fail
  clear hne hne2
  have KC : Hid (∀ w', Below w3.heap.size w3 w' → w'.cell? ⟨w.heap.size, 6, none⟩ = some (.string p) ∧ w'.cell? ⟨w.heap.size, 7, none⟩ = some (.string d) ∧ w'.cell? ⟨w.heap.size + 1, 11, none⟩ = some (.int .i64 ((p.size : Int) + 1)) ∧ w'.cell? ⟨w.heap.size + 1, 12, none⟩ = some (.int .i64 (d.size : Int))) := Lib.hid (fun w' hb => by
    have h1 := (hb.block (w.heap.size + 1) hcl).trans HH3.out
    obtain ⟨k0, k1, k2, k3, k4, k5, k6, k7⟩ := (XC3.out.below hb (by omega)).at.zero
    exact ⟨k6, k7, by simp [World.cell?, h1], by simp [World.cell?, h1]⟩)
  have z1 : (⟨#[0]⟩ : ByteArray).size = 1 := rfl
  obtain ⟨x26, hx26⟩ : ∃ x : ByteArray, x = hx ++ p := ⟨_, rfl⟩
  obtain ⟨x27, hx27⟩ : ∃ x : ByteArray, x = x26 ++ ⟨#[0]⟩ := ⟨_, rfl⟩
  obtain ⟨x31, hx31⟩ : ∃ x : ByteArray, x = x27 ++ nu1 := ⟨_, rfl⟩
  obtain ⟨x34, hx34⟩ : ∃ x : ByteArray, x = x31 ++ d := ⟨_, rfl⟩
  obtain ⟨x38, hx38⟩ : ∃ x : ByteArray, x = x34 ++ nu2 := ⟨_, rfl⟩
  have zx26 : x26.size ≤ 4194330 := by rw [hx26, ByteArray.size_append]; omega
  have zx27 : x27.size ≤ 4194331 := by rw [hx27, ByteArray.size_append]; omega
  have zx31 : x31.size ≤ 4194332 := by rw [hx31, ByteArray.size_append]; omega
  have zx34 : x34.size ≤ 8388636 := by rw [hx34, ByteArray.size_append]; omega
  have zx38 : x38.size ≤ 8388637 := by rw [hx38, ByteArray.size_append]; omega
  have HA26 : Hid (∀ w, (Op.stringOp .add hx p).run Tryz.prog w = .ok (.string x26) w) := Lib.hid (fun w => by rw [hx26]; exact run_string_add_sum w _ _ (by omega))
  have HA27 : Hid (∀ w, (Op.stringOp .add x26 ⟨#[0]⟩).run Tryz.prog w = .ok (.string x27) w) := Lib.hid (fun w => by rw [hx27]; exact run_string_add_sum w _ _ (by omega))
  have HA31 : Hid (∀ w, (Op.stringOp .add x27 nu1).run Tryz.prog w = .ok (.string x31) w) := Lib.hid (fun w => by rw [hx31]; exact run_string_add_sum w _ _ (by omega))
  have HA34 : Hid (∀ w, (Op.stringOp .add x31 d).run Tryz.prog w = .ok (.string x34) w) := Lib.hid (fun w => by rw [hx34]; exact run_string_add_sum w _ _ (by omega))
  have HA38 : Hid (∀ w, (Op.stringOp .add x34 nu2).run Tryz.prog w = .ok (.string x38) w) := Lib.hid (fun w => by rw [hx38]; exact run_string_add_sum w _ _ (by omega))
  have HX26 := Lib.hid hx26
  have HX27 := Lib.hid hx27
  have HX31 := Lib.hid hx31
  have HX34 := Lib.hid hx34
  have HX38 := Lib.hid hx38
  clear hx26 hx27 hx31 hx34 hx38
  refine wp_region_inv (by kernel_rfl) (fun w' => Below w3.heap.size w3 w') (fun x y => Below x.heap.size x y) (fun dq vq _ => match dq with | 23 => vq = .string hx | 24 => vq = .pointer (some ⟨w.heap.size, 6, none⟩) | 25 => vq = .string p | 26 => vq = .string x26 | 27 => vq = .string x27 | 28 => vq = .pointer (some ⟨w.heap.size + 1, 11, none⟩) | 29 => vq = .int .i64 ((p.size : Int) + 1) | 30 => vq = .string nu1 | 31 => vq = .string x31 | 32 => vq = .pointer (some ⟨w.heap.size, 7, none⟩) | 33 => vq = .string d | 34 => vq = .string x34 | 35 => vq = .pointer (some ⟨w.heap.size + 1, 12, none⟩) | 36 => vq = .int .i64 (d.size : Int) | 37 => vq = .string nu2 | 38 => vq = .string x38 | 4 => vq = .string x38 | _ => True) (by kernel_rfl) ((Below.refl _ _).drew) (fun _ _ _ _ _ _ h => h) ?hops ?hend
  case hops =>
    simp only [List.forall_mem_cons]
    refine ⟨?o23, ?o24, ?o25, ?o26, ?o27, ?o28, ?o29, ?o30, ?o31, ?o32, ?o33, ?o34, ?o35, ?o36, ?o37, ?o38, ?o4, fun _ h => by cases h⟩
    case o23 =>
      intro Q a w2 hC hV hI
      have e6 : a.eval (.tmp 6) = .string hx := (hI 6 (by simp [Op.operands]) (by kernel_rfl)).trans rfl
      have f6 : a.tmps.getD 6 undef = .string hx := e6
      have g6 : a.tmps[6]?.getD undef = .string hx := by rw [← Array.getD_eq_getD_getElem?]; exact e6
      refine op_val (.string hx) ?_ hC (Below.refl _ _) (by intro d hd; cases hd; rfl)
      (clear hV hI hC; go_simp <;> (first | rfl | simp | (rw [IntKind.wrap_i64]; omega)))
    case o24 =>
      intro Q a w2 hC hV hI
      have e2 : a.eval (.tmp 2) = .pointer (some ⟨w.heap.size, 0, none⟩) := (hI 2 (by simp [Op.operands]) (by kernel_rfl)).trans rfl
      have f2 : a.tmps.getD 2 undef = .pointer (some ⟨w.heap.size, 0, none⟩) := e2
      have g2 : a.tmps[2]?.getD undef = .pointer (some ⟨w.heap.size, 0, none⟩) := by rw [← Array.getD_eq_getD_getElem?]; exact e2
      refine op_val (.pointer (some ⟨w.heap.size, 6, none⟩)) ?_ hC (Below.refl _ _) (by intro d hd; cases hd; rfl)
      (clear hV hI hC; go_simp <;> (first | rfl | simp | (rw [IntKind.wrap_i64]; omega)))
    case o25 =>
      intro Q a w2 hC hV hI
      have e24 : a.eval (.tmp 24) = .pointer (some ⟨w.heap.size, 6, none⟩) := hV 24 (by simp [Op.operands]) (by kernel_rfl)
      have f24 : a.tmps.getD 24 undef = .pointer (some ⟨w.heap.size, 6, none⟩) := e24
      have g24 : a.tmps[24]?.getD undef = .pointer (some ⟨w.heap.size, 6, none⟩) := by rw [← Array.getD_eq_getD_getElem?]; exact e24
      have hK := KC.out w2 hC
      refine op_val (.string p) ?_ hC (Below.refl _ _) (by intro d hd; cases hd; rfl)
      (clear hV hI hC; go_simp <;> (first | rfl | simp | (rw [IntKind.wrap_i64]; omega)))
    case o26 =>
      intro Q a w2 hC hV hI
      have e23 : a.eval (.tmp 23) = .string hx := hV 23 (by simp [Op.operands]) (by kernel_rfl)
      have f23 : a.tmps.getD 23 undef = .string hx := e23
      have g23 : a.tmps[23]?.getD undef = .string hx := by rw [← Array.getD_eq_getD_getElem?]; exact e23
      have e25 : a.eval (.tmp 25) = .string p := hV 25 (by simp [Op.operands]) (by kernel_rfl)
      have f25 : a.tmps.getD 25 undef = .string p := e25
      have g25 : a.tmps[25]?.getD undef = .string p := by rw [← Array.getD_eq_getD_getElem?]; exact e25
      refine op_val (.string x26) ?_ hC (Below.refl _ _) (by intro d hd; cases hd; rfl)
      have q := HA26.out w2
      (clear hV hI hC; go_simp <;> (first | rfl | simp | (rw [IntKind.wrap_i64]; omega)))
    case o27 =>
      intro Q a w2 hC hV hI
      have e26 : a.eval (.tmp 26) = .string x26 := hV 26 (by simp [Op.operands]) (by kernel_rfl)
      have f26 : a.tmps.getD 26 undef = .string x26 := e26
      have g26 : a.tmps[26]?.getD undef = .string x26 := by rw [← Array.getD_eq_getD_getElem?]; exact e26
      refine op_val (.string x27) ?_ hC (Below.refl _ _) (by intro d hd; cases hd; rfl)
      have q := HA27.out w2
      (clear hV hI hC; go_simp <;> (first | rfl | simp | (rw [IntKind.wrap_i64]; omega)))
    case o28 =>
      intro Q a w2 hC hV hI
      have e5 : a.eval (.tmp 5) = .pointer (some ⟨w.heap.size + 1, 0, none⟩) := (hI 5 (by simp [Op.operands]) (by kernel_rfl)).trans rfl
      have f5 : a.tmps.getD 5 undef = .pointer (some ⟨w.heap.size + 1, 0, none⟩) := e5
      have g5 : a.tmps[5]?.getD undef = .pointer (some ⟨w.heap.size + 1, 0, none⟩) := by rw [← Array.getD_eq_getD_getElem?]; exact e5
      refine op_val (.pointer (some ⟨w.heap.size + 1, 11, none⟩)) ?_ hC (Below.refl _ _) (by intro d hd; cases hd; rfl)
      (clear hV hI hC; go_simp <;> (first | rfl | simp | (rw [IntKind.wrap_i64]; omega)))
    case o29 =>
      intro Q a w2 hC hV hI
      have e28 : a.eval (.tmp 28) = .pointer (some ⟨w.heap.size + 1, 11, none⟩) := hV 28 (by simp [Op.operands]) (by kernel_rfl)
      have f28 : a.tmps.getD 28 undef = .pointer (some ⟨w.heap.size + 1, 11, none⟩) := e28
      have g28 : a.tmps[28]?.getD undef = .pointer (some ⟨w.heap.size + 1, 11, none⟩) := by rw [← Array.getD_eq_getD_getElem?]; exact e28
      have hK := KC.out w2 hC
      refine op_val (.int .i64 ((p.size : Int) + 1)) ?_ hC (Below.refl _ _) (by intro d hd; cases hd; rfl)
      (clear hV hI hC; go_simp <;> (first | rfl | simp | (rw [IntKind.wrap_i64]; omega)))
    case o30 =>
      intro Q a w2 hC hV hI
      have e29 : a.eval (.tmp 29) = .int .i64 ((p.size : Int) + 1) := hV 29 (by simp [Op.operands, Call.operands]) (by kernel_rfl)
      have f29 : a.tmps.getD 29 undef = .int .i64 ((p.size : Int) + 1) := e29
      have g29 : a.tmps[29]?.getD undef = .int .i64 ((p.size : Int) + 1) := by rw [← Array.getD_eq_getD_getElem?]; exact e29
      refine op_call (f := 63) (args := #[.int .i64 ((p.size : Int) + 1)]) (R := fun v y => v = .string nu1 ∧ Below w2.heap.size w2 y) ?_ ((HN1.out w2).mono ?_) ?_
      · (clear hV hI hC; go_simp <;> (first | rfl | simp | (rw [IntKind.wrap_i64]; omega)))
      · rintro e y ⟨rfl, hb⟩; exact ⟨_, rfl, rfl, hb⟩
      · rintro v y ⟨rfl, hb⟩; exact ⟨hC.trans (hb.mono hC.size), hb, by intro d hd; cases hd; rfl⟩
    case o31 =>
      intro Q a w2 hC hV hI
      have e27 : a.eval (.tmp 27) = .string x27 := hV 27 (by simp [Op.operands]) (by kernel_rfl)
      have f27 : a.tmps.getD 27 undef = .string x27 := e27
      have g27 : a.tmps[27]?.getD undef = .string x27 := by rw [← Array.getD_eq_getD_getElem?]; exact e27
      have e30 : a.eval (.tmp 30) = .string nu1 := hV 30 (by simp [Op.operands]) (by kernel_rfl)
      have f30 : a.tmps.getD 30 undef = .string nu1 := e30
      have g30 : a.tmps[30]?.getD undef = .string nu1 := by rw [← Array.getD_eq_getD_getElem?]; exact e30
      refine op_val (.string x31) ?_ hC (Below.refl _ _) (by intro d hd; cases hd; rfl)
      have q := HA31.out w2
      (clear hV hI hC; go_simp <;> (first | rfl | simp | (rw [IntKind.wrap_i64]; omega)))
    case o32 =>
      intro Q a w2 hC hV hI
      have e2 : a.eval (.tmp 2) = .pointer (some ⟨w.heap.size, 0, none⟩) := (hI 2 (by simp [Op.operands]) (by kernel_rfl)).trans rfl
      have f2 : a.tmps.getD 2 undef = .pointer (some ⟨w.heap.size, 0, none⟩) := e2
      have g2 : a.tmps[2]?.getD undef = .pointer (some ⟨w.heap.size, 0, none⟩) := by rw [← Array.getD_eq_getD_getElem?]; exact e2
      refine op_val (.pointer (some ⟨w.heap.size, 7, none⟩)) ?_ hC (Below.refl _ _) (by intro d hd; cases hd; rfl)
      (clear hV hI hC; go_simp <;> (first | rfl | simp | (rw [IntKind.wrap_i64]; omega)))
    case o33 =>
      intro Q a w2 hC hV hI
      have e32 : a.eval (.tmp 32) = .pointer (some ⟨w.heap.size, 7, none⟩) := hV 32 (by simp [Op.operands]) (by kernel_rfl)
      have f32 : a.tmps.getD 32 undef = .pointer (some ⟨w.heap.size, 7, none⟩) := e32
      have g32 : a.tmps[32]?.getD undef = .pointer (some ⟨w.heap.size, 7, none⟩) := by rw [← Array.getD_eq_getD_getElem?]; exact e32
      have hK := KC.out w2 hC
      refine op_val (.string d) ?_ hC (Below.refl _ _) (by intro d hd; cases hd; rfl)
      (clear hV hI hC; go_simp <;> (first | rfl | simp | (rw [IntKind.wrap_i64]; omega)))
    case o34 =>
      intro Q a w2 hC hV hI
      have e31 : a.eval (.tmp 31) = .string x31 := hV 31 (by simp [Op.operands]) (by kernel_rfl)
      have f31 : a.tmps.getD 31 undef = .string x31 := e31
      have g31 : a.tmps[31]?.getD undef = .string x31 := by rw [← Array.getD_eq_getD_getElem?]; exact e31
      have e33 : a.eval (.tmp 33) = .string d := hV 33 (by simp [Op.operands]) (by kernel_rfl)
      have f33 : a.tmps.getD 33 undef = .string d := e33
      have g33 : a.tmps[33]?.getD undef = .string d := by rw [← Array.getD_eq_getD_getElem?]; exact e33
      refine op_val (.string x34) ?_ hC (Below.refl _ _) (by intro d hd; cases hd; rfl)
      have q := HA34.out w2
      (clear hV hI hC; go_simp <;> (first | rfl | simp | (rw [IntKind.wrap_i64]; omega)))
    case o35 =>
      intro Q a w2 hC hV hI
      have e5 : a.eval (.tmp 5) = .pointer (some ⟨w.heap.size + 1, 0, none⟩) := (hI 5 (by simp [Op.operands]) (by kernel_rfl)).trans rfl
      have f5 : a.tmps.getD 5 undef = .pointer (some ⟨w.heap.size + 1, 0, none⟩) := e5
      have g5 : a.tmps[5]?.getD undef = .pointer (some ⟨w.heap.size + 1, 0, none⟩) := by rw [← Array.getD_eq_getD_getElem?]; exact e5
      refine op_val (.pointer (some ⟨w.heap.size + 1, 12, none⟩)) ?_ hC (Below.refl _ _) (by intro d hd; cases hd; rfl)
      (clear hV hI hC; go_simp <;> (first | rfl | simp | (rw [IntKind.wrap_i64]; omega)))
    case o36 =>
      intro Q a w2 hC hV hI
      have e35 : a.eval (.tmp 35) = .pointer (some ⟨w.heap.size + 1, 12, none⟩) := hV 35 (by simp [Op.operands]) (by kernel_rfl)
      have f35 : a.tmps.getD 35 undef = .pointer (some ⟨w.heap.size + 1, 12, none⟩) := e35
      have g35 : a.tmps[35]?.getD undef = .pointer (some ⟨w.heap.size + 1, 12, none⟩) := by rw [← Array.getD_eq_getD_getElem?]; exact e35
      have hK := KC.out w2 hC
      refine op_val (.int .i64 (d.size : Int)) ?_ hC (Below.refl _ _) (by intro d hd; cases hd; rfl)
      (clear hV hI hC; go_simp <;> (first | rfl | simp | (rw [IntKind.wrap_i64]; omega)))
    case o37 =>
      intro Q a w2 hC hV hI
      have e36 : a.eval (.tmp 36) = .int .i64 (d.size : Int) := hV 36 (by simp [Op.operands, Call.operands]) (by kernel_rfl)
      have f36 : a.tmps.getD 36 undef = .int .i64 (d.size : Int) := e36
      have g36 : a.tmps[36]?.getD undef = .int .i64 (d.size : Int) := by rw [← Array.getD_eq_getD_getElem?]; exact e36
      refine op_call (f := 63) (args := #[.int .i64 (d.size : Int)]) (R := fun v y => v = .string nu2 ∧ Below w2.heap.size w2 y) ?_ ((HN2.out w2).mono ?_) ?_
      · (clear hV hI hC; go_simp <;> (first | rfl | simp | (rw [IntKind.wrap_i64]; omega)))
      · rintro e y ⟨rfl, hb⟩; exact ⟨_, rfl, rfl, hb⟩
      · rintro v y ⟨rfl, hb⟩; exact ⟨hC.trans (hb.mono hC.size), hb, by intro d hd; cases hd; rfl⟩
    case o38 =>
      intro Q a w2 hC hV hI
      have e34 : a.eval (.tmp 34) = .string x34 := hV 34 (by simp [Op.operands]) (by kernel_rfl)
      have f34 : a.tmps.getD 34 undef = .string x34 := e34
      have g34 : a.tmps[34]?.getD undef = .string x34 := by rw [← Array.getD_eq_getD_getElem?]; exact e34
      have e37 : a.eval (.tmp 37) = .string nu2 := hV 37 (by simp [Op.operands]) (by kernel_rfl)
      have f37 : a.tmps.getD 37 undef = .string nu2 := e37
      have g37 : a.tmps[37]?.getD undef = .string nu2 := by rw [← Array.getD_eq_getD_getElem?]; exact e37
      refine op_val (.string x38) ?_ hC (Below.refl _ _) (by intro d hd; cases hd; rfl)
      have q := HA38.out w2
      (clear hV hI hC; go_simp <;> (first | rfl | simp | (rw [IntKind.wrap_i64]; omega)))
    case o4 =>
      intro Q a w2 hC hV hI
      have e38 : a.eval (.tmp 38) = .string x38 := hV 38 (by simp [Op.operands]) (by kernel_rfl)
      have f38 : a.tmps.getD 38 undef = .string x38 := e38
      have g38 : a.tmps[38]?.getD undef = .string x38 := by rw [← Array.getD_eq_getD_getElem?]; exact e38
      refine op_val (.string x38) ?_ hC (Below.refl _ _) (by intro d hd; cases hd; rfl)
      (clear hV hI hC; go_simp <;> (first | rfl | simp | (rw [IntKind.wrap_i64]; omega)))
  case hend =>
    intro f w4 hC hall
    clear HA26 HA27 HA31 HA34 HA38
    simp only [List.forall_mem_cons] at hall
    obtain ⟨h23, h24, h25, h26, h27, h28, h29, h30, h31, h32, h33, h34, h35, h36, h37, h38, h4, _⟩ := hall
    replace h23 : f 23 = .string hx := h23 23 rfl
    replace h24 : f 24 = .pointer (some ⟨w.heap.size, 6, none⟩) := h24 24 rfl
    replace h25 : f 25 = .string p := h25 25 rfl
    replace h26 : f 26 = .string x26 := h26 26 rfl
    replace h27 : f 27 = .string x27 := h27 27 rfl
    replace h28 : f 28 = .pointer (some ⟨w.heap.size + 1, 11, none⟩) := h28 28 rfl
    replace h29 : f 29 = .int .i64 ((p.size : Int) + 1) := h29 29 rfl
    replace h30 : f 30 = .string nu1 := h30 30 rfl
    replace h31 : f 31 = .string x31 := h31 31 rfl
    replace h32 : f 32 = .pointer (some ⟨w.heap.size, 7, none⟩) := h32 32 rfl
    replace h33 : f 33 = .string d := h33 33 rfl
    replace h34 : f 34 = .string x34 := h34 34 rfl
    replace h35 : f 35 = .pointer (some ⟨w.heap.size + 1, 12, none⟩) := h35 35 rfl
    replace h36 : f 36 = .int .i64 (d.size : Int) := h36 36 rfl
    replace h37 : f 37 = .string nu2 := h37 37 rfl
    replace h38 : f 38 = .string x38 := h38 38 rfl
    replace h4 : f 4 = .string x38 := h4 4 rfl
    simp only [putAll, Act.put, List.setIfInBounds_toArray, List.set_cons_succ, List.set_cons_zero, h23, h24, h25, h26, h27, h28, h29, h30, h31, h32, h33, h34, h35, h36, h37, h38, h4]
    clear h23 h24 h25 h26 h27 h28 h29 h30 h31 h32 h33 h34 h35 h36 h37 h38 h4
    have HXe : Hid (r = x38) := Lib.hid (by rw [HV.out, HX38.out, HX34.out, HX31.out, HX27.out, HX26.out])
    have B4 := B3.out.trans (hC.mono (by omega))
    clear KC HV hC
    go_wp2_with fail
    go_ret
    exact ⟨by rw [HXe.out]; rfl, B4⟩
end Go.Proofs.YtancidbbkoeokaaGreat

/- Contract of impl.PutCpio. -/
namespace Go.Proofs.YtancidbbkoeokaaGreat
open Go.ChangeShapes Go.WideShapes Go.ChangeAt Go.RowKit Go.Deep

theorem binFormat_any (crc : Bool) (w : World) : Calls Tryz.prog 21 #[.bool crc] w fun e w' => e = .returned (.agg #[.func (.func 38) #[] #[], .func (.func 39) #[] #[.pointer (some ⟨w.heap.size, 0, none⟩)], .func (.func 41) #[] #[.pointer (some ⟨w.heap.size, 0, none⟩)]]) ∧ w.heap.size < w'.heap.size ∧ w'.heap[w.heap.size]? = some (.cells #[.bool crc] 4 (0, 0)) ∧ Below w.heap.size w w' := by
  have hmf : ∀ (fn : Fn) (first cap : Array Value) (w : World), (Instr.makeFunc fn first cap).run Tryz.prog w = .ok (.func fn first cap) w := fun _ _ _ _ => rfl
  go_enter Tryz.func21, Tryz.ntmps21
  go_upto_region 1 with fail
  generalize hwb : World.alloc w _ = wb
  have K0 : Hid (wb.heap[w.heap.size]? = some (.cells #[.bool crc] 4 (0, 0))) := Lib.hid (by rw [← hwb]; exact heap_newW _ _ _ rfl)
  have B0 : Hid (Below w.heap.size w wb) := Lib.hid (by rw [← hwb]; exact (Below.refl _ _).alloc (Nat.le_refl _) _)
  have hsb : wb.heap.size = w.heap.size + 1 := by rw [← hwb]; simp
  clear hwb
  have HS0 := run_storeVar_new (P := Tryz.prog) wb 50 #[.nilFunc, .nilFunc, .nilFunc] #[.func (.func 38) #[] #[], .func (.func 39) #[] #[.pointer (some ⟨w.heap.size, 0, none⟩)], .func (.func 41) #[] #[.pointer (some ⟨w.heap.size, 0, none⟩)]] (by rw [Tryz.sizeCF]; rfl) rfl (by simp [Value.oneCell'])
  rw [hsb] at HS0
  have HS := Lib.hid HS0
  have HR := Lib.hid (heap_newW wb (.cells #[.func (.func 38) #[] #[], .func (.func 39) #[] #[.pointer (some ⟨w.heap.size, 0, none⟩)], .func (.func 41) #[] #[.pointer (some ⟨w.heap.size, 0, none⟩)]] 50 (0, 0)) (w.heap.size + 1) hsb.symm)
  have NB := (Below.refl wb.heap.size wb).alloc (Nat.le_refl _) (.cells #[.func (.func 38) #[] #[], .func (.func 39) #[] #[.pointer (some ⟨w.heap.size, 0, none⟩)], .func (.func 41) #[] #[.pointer (some ⟨w.heap.size, 0, none⟩)]] 50)
  have K1 := Lib.hid ((NB.block w.heap.size (by omega)).trans K0.out)
  have B1 := Lib.hid (B0.out.trans (NB.mono (by omega)))
  have Z1 := Lib.hid (NB.size)
  have HSB := Lib.hid hsb
  clear HS0 K0 B0 NB hsb
  go_wp2_with ((with_reducible refine wpList_store_eqW rfl 50 _ _ rfl ⟨w.heap.size + 1, 0, none⟩ ?_ ?_ HS.out ?_); rfl; rfl)
  refine bodyPost_ret (results_cell_row rfl _ _ (w.heap.size + 1) _ #[.func (.func 38) #[] #[], .func (.func 39) #[] #[.pointer (some ⟨w.heap.size, 0, none⟩)], .func (.func 41) #[] #[.pointer (some ⟨w.heap.size, 0, none⟩)]] (0, 0) _ rfl HR.out Tryz.underlying50 rfl (by rw [Tryz.sizeCF]; rfl)) rfl ?_
  exact ⟨rfl, by have := Z1.out; have := HSB.out; omega, K1.out, B1.out⟩
theorem putCpio_impl (L : List Ent) (n g cap : Nat) (crc : Bool) (w : World) (hn : n = L.length) (hm : n ≤ 1048576) (hcap : n ≤ cap) (hg : g < w.heap.size) (hsm : SmallL L) (h1 : RowE w g L) :
    Calls Tryz.prog 8 #[.slice (some ⟨g, 0, none⟩) n cap, .bool crc] w fun e w' => e = .returned (.tuple #[.string (putBwT L crc), .bool (putBwB L)]) ∧ Below w.heap.size w w' := by
  have HW := Lib.hid (fun w' (hb : Below w.heap.size w w') gk hgk hck => write_bin (fun ino mo u1 gi cn t p d hi w hp hd => putBin_impl ino mo u1 gi cn t p d hi w hp hd) L n g cap crc gk w' hn hm hcap (Nat.lt_of_lt_of_le hg hb.size) hsm hgk hck (h1.below hb hg))
  generalize putBwT L crc = r at HW
  generalize putBwB L = ok at HW
  clear hn hm hcap hg hsm h1
  go_enter Tryz.func8, Tryz.ntmps8
  go_wp2_with fail
  refine (binFormat_any crc _).mono ?_
  rintro e w1 ⟨rfl, hz, hk, hb⟩
  have B := Lib.hid hb
  have HW2 := Lib.hid (HW.out w1 hb w.heap.size hz hk)
  clear hb hz hk HW
  go_wp2_with fail
  refine HW2.out.mono ?_
  rintro e w2 ⟨rfl, hb⟩
  have B2 := Lib.hid (btE B.out hb)
  clear hb
  go_wp2_with fail
  go_ret2
  exact ⟨rfl, B2.out⟩
end Go.Proofs.YtancidbbkoeokaaGreat

/- The law laws.FnExactPutCpio returns true. -/
namespace Go.Proofs.YtancidbbkoeokaaGreat
open Go.ChangeShapes Go.WideShapes Go.ChangeAt Go.RowKit Go.Deep

set_option maxHeartbeats 3200000 in
set_option maxRecDepth 8000 in
theorem putCpio_law (a0 : Option Addr) (len0 cap0 : Nat) (es0 : List Ent) (crc : Bool) (w : World) (hR0 : IsRowE w a0 len0 cap0 es0) :
    Calls Tryz.prog 3 #[.slice a0 len0 cap0, .bool crc] w fun e w' => e = .returned (.bool true) ∧ Below w.heap.size w w' := by
  have HS0 := Lib.hid (fun left w h h0 h1 => szEntryS_any a0 len0 cap0 es0 left w h h0 h1)
  have HR0 := Lib.hid hR0
  have HT0 := Lib.hid (fun w h hl => toEntryS_own a0 len0 cap0 es0 w h hl)
  have HL0 := Lib.hid hR0.take_len
  have HZ0 := Lib.hid (fun left r hr h0 => sz_facts (left := left) (r := r) hR0 hr h0)
  clear hR0
  have B : Hid (Below w.heap.size w w) := Lib.hid (Below.refl _ _)
  go_enter Tryz.func3, Tryz.ntmps3
  go_wp2_with fail
  refine (HS0.out _ _ (HR0.out.below B.out) (by omega) (by omega)).mono ?_
  rintro e v0 ⟨⟨r0, rfl, hr⟩, hb⟩
  replace B := Lib.hid (btE B.out hb)
  have hz0 := HZ0.out _ r0 hr
  clear hb hr HS0 HZ0
  by_cases hr0 : r0 < 0
  · go_wp2_with fail
    go_ret
    exact ⟨rfl, B.out⟩
  replace hz0 := hz0 (by omega)
  have hlen0 : len0 ≤ 1048576 := by omega
  have htot0 : totL (es0.take len0) ≤ 1048576 := by omega
  clear hz0
  have HS := Lib.hid (fun g w hg h1 => putCpio_spec (es0.take len0) len0 g len0 crc w HL0.out.symm (by omega) (Nat.le_refl _) hg (small_of_tot htot0 (by omega)) h1)
  have HI := Lib.hid (fun g w hg h1 => putCpio_impl (es0.take len0) len0 g len0 crc w HL0.out.symm (by omega) (Nat.le_refl _) hg (small_of_tot htot0 (by omega)) h1)
  have HQ0 := Lib.hid (fun g g2 w hg hg2 h1 h2 => eqEntryS_any (es0.take len0) len0 g g2 len0 len0 w HL0.out.symm (by omega) hg hg2 h1 h2)
  generalize putBwT (es0.take len0) crc = d at HS HI
  generalize putBwB (es0.take len0) = d2 at HS HI
  have hEL0 := HL0.out
  generalize es0.take len0 = L0 at HT0 HS HI HQ0 hEL0
  clear htot0 HL0
  go_wp2_with fail
  refine (HT0.out _ (HR0.out.below B.out) hlen0).mono ?_
  rintro e w2 ⟨rfl, ho, hb⟩
  have Ra0 := Lib.hid ho.row.1
  have za0 := ho.row.2.1
  clear ho
  replace B := Lib.hid (btE B.out hb)
  clear hb
  generalize hgena0 : v0.heap.size = ga0 at *
  clear hgena0
  go_wp2_with fail
  refine (HS.out _ _ za0 Ra0.out).mono ?_
  rintro e w3 ⟨rfl, hb⟩
  replace B := Lib.hid (btE B.out hb)
  replace Ra0 := Lib.hid (Ra0.out.below hb za0)
  replace za0 := Nat.lt_of_lt_of_le za0 hb.size
  clear hb
  clear Ra0 za0
  go_wp2_with fail
  refine (HT0.out _ (HR0.out.below B.out) hlen0).mono ?_
  rintro e w4 ⟨rfl, ho, hb⟩
  have Rx0 := Lib.hid ho.row.1
  have zx0 := ho.row.2.1
  clear ho
  replace B := Lib.hid (btE B.out hb)
  clear hb
  generalize hgenx0 : w3.heap.size = gx0 at *
  clear hgenx0
  go_wp2_with fail
  refine (HI.out _ _ zx0 Rx0.out).mono ?_
  rintro e w5 ⟨rfl, hb⟩
  replace B := Lib.hid (btE B.out hb)
  replace Rx0 := Lib.hid (Rx0.out.below hb zx0)
  replace zx0 := Nat.lt_of_lt_of_le zx0 hb.size
  clear hb
  have qd := self_eqF d
  have qe : (d2 != d2) = false := by simp
  go_wp2_with fail
  refine (HT0.out _ (HR0.out.below B.out) hlen0).mono ?_
  rintro e w6 ⟨rfl, ho, hb⟩
  have Rb0 := Lib.hid ho.row.1
  have zb0 := ho.row.2.1
  clear ho
  replace B := Lib.hid (btE B.out hb)
  replace Rx0 := Lib.hid (Rx0.out.below hb zx0)
  replace zx0 := Nat.lt_of_lt_of_le zx0 hb.size
  clear hb
  generalize hgenb0 : w5.heap.size = gb0 at *
  clear hgenb0
  go_wp2_with fail
  refine (HQ0.out gx0 _ _ zx0 zb0 Rx0.out Rb0.out).mono ?_
  rintro e w7 ⟨rfl, hb⟩
  replace B := Lib.hid (btE B.out hb)
  replace Rx0 := Lib.hid (Rx0.out.below hb zx0)
  replace zx0 := Nat.lt_of_lt_of_le zx0 hb.size
  replace Rb0 := Lib.hid (Rb0.out.below hb zb0)
  replace zb0 := Nat.lt_of_lt_of_le zb0 hb.size
  clear hb
  clear Rb0 zb0
  go_wp2_with fail
  go_ret
  exact ⟨rfl, B.out⟩
end Go.Proofs.YtancidbbkoeokaaGreat
